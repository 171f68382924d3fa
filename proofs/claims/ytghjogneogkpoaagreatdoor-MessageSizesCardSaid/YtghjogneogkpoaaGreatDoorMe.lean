/-
  What is proved: when two pairs, two operations, two requests, two rows of eleven numbers, two digests are the same, compared whole. Conditions as stated.
-/
import Derived.Test.YtghjogneogkpoaaGreatDoorMb
import Derived.ChangeKeysEq
namespace Go.Proofs.YtghjogneogkpoaaGreatDoor.Sh
open Go.RowKit
set_option maxRecDepth 100000


theorem isAgg_of {P : Program} {e : TypeId} {td : TypeDesc} (he : P.underlying e = some td) (w : World) : (isAgg e).run P w = .ok td.isRow w := by
  unfold isAgg
  rw [Sem.run_bind, run_underlying he w]
  cases td <;> rfl
theorem run_part_cell {P : Program} {e : TypeId} {td : TypeDesc} (he : P.underlying e = some td) (hd : td.isRow = false) {xs : Array Value} {i : Nat} {v : Value} (hv : xs[i]? = some v) (w : World) : (part e xs i).run P w = .ok v w := by
  have := isAgg_of he w
  rw [hd] at this
  simp [part, this, hv]
theorem run_part_agg {P : Program} {e : TypeId} {td : TypeDesc} (he : P.underlying e = some td) (hd : td.isRow = true) {n : Nat} (hi : (P.info? e).map (·.size) = some n) {xs : Array Value} {off : Nat} {ys : List Value} (hy : xs.extract off (off + n) = ys.toArray) (w : World) :
    (part e xs off).run P w = .ok (.agg ys.toArray) w := by
  have := isAgg_of he w
  rw [hd] at this
  cases hq : P.info? e with
  | none => simp [hq] at hi
  | some i =>
    have hs : i.size = n := by simpa [hq] using hi
    simp [part, this, sizeOf, typeInfo, hq, hs, hy]
theorem eqF_nil {P : Program} {d : Nat} {xs ys : Array Value} {w : World} : (Op.eqFields d xs ys []).run P w = .ok true w := by simp [Op.eqFields]
theorem eqF_cons {P : Program} {d : Nat} {xs ys : Array Value} {f : Field} {fs : List Field} {a b : Value} {r q : Bool} {w : World} (hn : (f.name != "_") = true) (pa : (part f.type xs f.offset).run P w = .ok a w) (pb : (part f.type ys f.offset).run P w = .ok b w)
    (he : (Op.equalIn d f.type a b).run P w = .ok r w) (hq : (Op.eqFields d xs ys fs).run P w = .ok q w) : (Op.eqFields d xs ys (f :: fs)).run P w = .ok (r && q) w := by
  have hn' : f.name ≠ "_" := by simpa using hn
  simp only [Op.eqFields, if_pos hn', Sem.run_bind, pa, pb, he, Result.andThen_ok]
  cases r
  · simp
  · simpa using hq
theorem eqItems_nums {P : Program} {d : Nat} {e : TypeId} {kd : IntKind} (he : P.underlying e = some (.int kd)) (k : IntKind) (l m : List Int) (w : World) :
    ∀ is : List Nat, (∀ i ∈ is, i < l.length ∧ i < m.length) → (Op.eqItems (d + 1) e 1 (l.map (Value.int k)).toArray (m.map (Value.int k)).toArray is).run P w = .ok (is.all fun i => l.getD i 0 == m.getD i 0) w
  | [], _ => by simp [Op.eqItems]
  | i :: is, h => by
    obtain ⟨h1, h2⟩ := h i (by simp)
    have hr := eqItems_nums (d := d) he k l m w is fun j hj => h j (by simp [hj])
    have e1 : ((l.map (Value.int k)).toArray)[i]? = some (.int k (l.getD i 0)) := by simp [h1]
    have e2 : ((m.map (Value.int k)).toArray)[i]? = some (.int k (m.getD i 0)) := by simp [h2]
    simp only [Op.eqItems, Nat.mul_one, Sem.run_bind, run_part_int he e1, run_part_int he e2, Result.andThen_ok, run_equalIn_int w d e k kd _ _ he, List.all_cons]
    cases hq : (l.getD i 0 == m.getD i 0)
    · simp
    · simp [hr]
theorem eq_nums_of {P : Program} {t e : TypeId} {n d : Nat} {kd : IntKind} (hu : P.underlying t = some (.array n e)) (he : P.underlying e = some (.int kd)) (hs : (P.info? e).isSome = true) (hc : P.cellsOf e = 1) (k : IntKind) (l m : List Int) (hl : l.length = n) (hm : m.length = n)
    {b : Bool} (hb : b = true ↔ l = m) (w : World) : (Op.equalIn (d + 2) t (.agg (l.map (Value.int k)).toArray) (.agg (m.map (Value.int k)).toArray)).run P w = .ok b w := by
  obtain ⟨i, hi⟩ := Option.isSome_iff_exists.1 hs
  rw [run_equalIn_array w (d + 1) _ _ hu hi, hc, eqItems_nums (d := d) he k l m w _ (fun i hi => by rw [hl, hm]; simpa using hi)]
  congr 1
  rw [Bool.eq_iff_iff, hb, List.all_eq_true]
  constructor
  · intro hall
    apply List.ext_getElem (by rw [hl, hm])
    intro i h1 h2
    have := hall i (by simp; omega)
    simpa [List.getD_eq_getElem?_getD, List.getElem?_eq_getElem h1, List.getElem?_eq_getElem h2] using this
  · rintro rfl
    simp
theorem u8s_nums (l : List UInt8) : u8s l = (l.map fun b => (b.toNat : Int)).map (Value.int .u8) := by simp [u8s]
theorem u64s_nums (l : List Nat) : u64s l = (l.map fun (n : Nat) => (n : Int)).map (Value.int .u64) := by simp [u64s]
theorem Tryz.cells22 : Tryz.prog.cellsOf 22 = 1 := by kernel_rfl
theorem Tryz.has22 : (Tryz.prog.info? 22).isSome = true := by kernel_rfl
theorem eq_tag_of {d : Nat} (l m : List UInt8) (hl : l.length = 32) (hm : m.length = 32) {b : Bool} (hb : b = true ↔ l = m) (w : World) : (Op.equalIn (d + 2) 27 (.agg (u8s l).toArray) (.agg (u8s m).toArray)).run Tryz.prog w = .ok b w := by
  rw [u8s_nums, u8s_nums]
  refine eq_nums_of Tryz.underlying27 Tryz.underlying5 Tryz.has5 Tryz.cells5 .u8 _ _ (by simpa) (by simpa) (hb.trans ?_) w
  constructor
  · rintro rfl; rfl
  · intro h
    exact (List.map_inj_right (fun x y (h : (x.toNat : Int) = (y.toNat : Int)) => UInt8.toNat_inj.1 (by omega))).1 h
theorem eq_deps_of {d : Nat} (l m : List Nat) (hl : l.length = 11) (hm : m.length = 11) {b : Bool} (hb : b = true ↔ l = m) (w : World) : (Op.equalIn (d + 2) 24 (.agg (u64s l).toArray) (.agg (u64s m).toArray)).run Tryz.prog w = .ok b w := by
  rw [u64s_nums, u64s_nums]
  refine eq_nums_of Tryz.underlying24 Tryz.underlying22 Tryz.has22 Tryz.cells22 .u64 _ _ (by simpa) (by simpa) (hb.trans ?_) w
  constructor
  · rintro rfl; rfl
  · intro h
    exact (List.map_inj_right (fun (x y : Nat) (h : (x : Int) = (y : Int)) => by omega)).1 h
theorem fields_of {P : Program} {t : TypeId} {fs : Array Field} (h : P.underlying t = some (.struct fs)) : (P.fieldsOf t).toList = fs.toList := by rw [Program.fieldsOf, h]
theorem struct_of {P : Program} {t : TypeId} {fs : Array Field} (h : P.underlying t = some (.struct fs)) : P.underlying t = some (.struct (P.fieldsOf t)) := by rw [Program.fieldsOf, h]
theorem eq_int_of {d : Nat} {e : TypeId} {k k' : IntKind} {x y : Int} (he : Tryz.prog.underlying e = some (.int k')) (w : World) : (Op.equalIn (d + 1) e (.int k x) (.int k y)).run Tryz.prog w = .ok (x == y) w := run_equalIn_int w d e k k' x y he
theorem eq_str_of {d : Nat} {x y : ByteArray} (w : World) : (Op.equalIn (d + 1) 9 (.string x) (.string y)).run Tryz.prog w = .ok (decide (x = y)) w := by
  rw [run_equalIn_string w d 9 x y Tryz.underlying9]
  congr 1
  rw [Bool.eq_iff_iff]
  simp only [beq_iff_eq, decide_eq_true_eq, ByteArray.toList_eq]
  constructor
  · intro h
    obtain ⟨⟨x⟩⟩ := x
    obtain ⟨⟨y⟩⟩ := y
    simpa using h
  · rintro rfl
    rfl
theorem eq_pair_of {d : Nat} (x x' : Int) (y y' : Nat) {b : Bool} (hb : b = true ↔ (x, y) = (x', y')) (w : World) : (Op.equalIn (d + 2) 54 (.agg #[.int .i64 x, .int .u64 (y : Int)]) (.agg #[.int .i64 x', .int .u64 (y' : Int)])).run Tryz.prog w = .ok b w := by
  rw [run_equalIn_struct w (d + 1) 54 _ _ (struct_of Tryz.underlying54) (by kernel_rfl), fields_of Tryz.underlying54]
  refine Eq.trans (eqF_cons rfl (run_part_cell Tryz.underlying3 rfl rfl w) (run_part_cell Tryz.underlying3 rfl rfl w) (eq_int_of Tryz.underlying3 w)
    (eqF_cons rfl (run_part_cell Tryz.underlying22 rfl rfl w) (run_part_cell Tryz.underlying22 rfl rfl w) (eq_int_of Tryz.underlying22 w) eqF_nil)) ?_
  congr 1
  rw [Bool.eq_iff_iff, hb]
  simp only [Bool.and_eq_true, beq_iff_eq, and_true, Prod.mk.injEq]
  omega
/-- The pair that a row of cells is compared as. -/
theorem op_ext {p q : MOp} : (p.kind = q.kind ∧ p.key = q.key ∧ p.value = q.value ∧ p.old = q.old ∧ p.to = q.to ∧ p.amount = q.amount) ↔ p = q := by
  obtain ⟨a1, a2, a3, a4, a5, a6⟩ := p
  obtain ⟨b1, b2, b3, b4, b5, b6⟩ := q
  simp
theorem req_ext {p q : MReq} : (p.client = q.client ∧ p.time = q.time ∧ p.op = q.op ∧ p.tag = q.tag) ↔ p = q := by
  obtain ⟨a1, a2, a3, a4⟩ := p
  obtain ⟨b1, b2, b3, b4⟩ := q
  simp
theorem eq_op_of {d : Nat} (p q : MOp) {b : Bool} (hb : b = true ↔ p = q) (w : World) : (Op.equalIn (d + 2) 26 (.agg (opC p).toArray) (.agg (opC q).toArray)).run Tryz.prog w = .ok b w := by
  rw [run_equalIn_struct w (d + 1) 26 _ _ (struct_of Tryz.underlying26) (by kernel_rfl), fields_of Tryz.underlying26]
  refine Eq.trans (eqF_cons rfl (run_part_cell Tryz.underlying5 rfl rfl w) (run_part_cell Tryz.underlying5 rfl rfl w) (eq_int_of Tryz.underlying5 w)
    (eqF_cons rfl (run_part_cell Tryz.underlying9 rfl rfl w) (run_part_cell Tryz.underlying9 rfl rfl w) (eq_str_of w)
    (eqF_cons rfl (run_part_cell Tryz.underlying9 rfl rfl w) (run_part_cell Tryz.underlying9 rfl rfl w) (eq_str_of w)
    (eqF_cons rfl (run_part_cell Tryz.underlying9 rfl rfl w) (run_part_cell Tryz.underlying9 rfl rfl w) (eq_str_of w)
    (eqF_cons rfl (run_part_cell Tryz.underlying9 rfl rfl w) (run_part_cell Tryz.underlying9 rfl rfl w) (eq_str_of w)
    (eqF_cons rfl (run_part_cell Tryz.underlying22 rfl rfl w) (run_part_cell Tryz.underlying22 rfl rfl w) (eq_int_of Tryz.underlying22 w) eqF_nil)))))) ?_
  congr 1
  rw [Bool.eq_iff_iff, hb, ← op_ext]
  simp only [Bool.and_eq_true, beq_iff_eq, decide_eq_true_eq, and_true, Int.ofNat_inj, UInt8.toNat_inj]
open Classical in
theorem eq_req_of {d : Nat} (r s : MReq) (hr : r.tag.length = 32) (hs : s.tag.length = 32) {b : Bool} (hb : b = true ↔ r = s) (w : World) : (Op.equalIn (d + 3) 29 (.agg (reqC r).toArray) (.agg (reqC s).toArray)).run Tryz.prog w = .ok b w := by
  rw [run_equalIn_struct w (d + 2) 29 _ _ (struct_of Tryz.underlying29) (by kernel_rfl), fields_of Tryz.underlying29]
  have ht : ∀ r : MReq, r.tag.length = 32 → (reqC r).toArray.extract 8 (8 + 32) = (u8s r.tag).toArray := fun r h => by
    rw [List.extract_toArray]
    congr 1
    exact List.take_of_length_le (Nat.le_of_eq ((u8s_length r.tag).trans h))
  have ho : ∀ r : MReq, (reqC r).toArray.extract 2 (2 + 6) = (opC r.op).toArray := fun r => by
    rw [List.extract_toArray]
    rfl
  refine Eq.trans (eqF_cons rfl (run_part_cell Tryz.underlying3 rfl rfl w) (run_part_cell Tryz.underlying3 rfl rfl w) (eq_int_of Tryz.underlying3 w)
    (eqF_cons rfl (run_part_cell Tryz.underlying22 rfl rfl w) (run_part_cell Tryz.underlying22 rfl rfl w) (eq_int_of Tryz.underlying22 w)
    (eqF_cons rfl (run_part_agg Tryz.underlying26 rfl Tryz.is26 (ho r) w) (run_part_agg Tryz.underlying26 rfl Tryz.is26 (ho s) w) (eq_op_of r.op s.op (b := decide (r.op = s.op)) (by simp) w)
    (eqF_cons rfl (run_part_agg Tryz.underlying27 rfl Tryz.size27 (ht r hr) w) (run_part_agg Tryz.underlying27 rfl Tryz.size27 (ht s hs) w) (eq_tag_of r.tag s.tag hr hs (b := decide (r.tag = s.tag)) (by simp) w) eqF_nil)))) ?_
  congr 1
  rw [Bool.eq_iff_iff, hb, ← req_ext]
  simp only [Bool.and_eq_true, beq_iff_eq, decide_eq_true_eq, and_true, Int.ofNat_inj]
end Go.Proofs.YtghjogneogkpoaaGreatDoor.Sh
