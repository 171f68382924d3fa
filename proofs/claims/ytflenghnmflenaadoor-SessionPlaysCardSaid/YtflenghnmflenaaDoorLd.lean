/-
  What is proved: when two operations, items, replies are the same; whether an operation may be. Conditions as stated.
-/
import Derived.Test.YtflenghnmflenaaDoorLcb
import Derived.Laws.StructEq
namespace Go.Proofs.YtflenghnmflenaaDoor
open Go.RowKit
set_option maxRecDepth 100000

theorem isAgg_of {P : Program} {e : TypeId} {td : TypeDesc} (he : P.underlying e = some td) (w : World) : (isAgg e).run P w = .ok td.isRow w := by
  unfold isAgg
  rw [Sem.run_bind, run_underlying he w]
  cases td <;> rfl
theorem run_part_cell {P : Program} {e : TypeId} {td : TypeDesc} (he : P.underlying e = some td) (hd : td.isRow = false) {xs : Array Value} {i : Nat} {v : Value} (hv : xs[i]? = some v) (w : World) : (part e xs i).run P w = .ok v w := by
  have := isAgg_of he w
  rw [hd] at this
  simp [part, this, hv]
theorem run_part_agg {P : Program} {e : TypeId} {td : TypeDesc} (he : P.underlying e = some td) (hd : td.isRow = true) {n : Nat} (hi : (P.info? e).map (·.size) = some n) {xs : Array Value} {off : Nat} {ys : List Value} (hy : xs.extract off (off + n) = ys.toArray) (w : World) :
    (part e xs off).run P w = .ok (.agg ys.toArray) w := by
  have := isAgg_of he w
  rw [hd] at this
  cases hq : P.info? e with
  | none => simp [hq] at hi
  | some i =>
    have hs : i.size = n := by simpa [hq] using hi
    simp [part, this, sizeOf, typeInfo, hq, hs, hy]
theorem eqF_nil {P : Program} {d : Nat} {xs ys : Array Value} {w : World} : (Op.eqFields d xs ys []).run P w = .ok true w := by simp [Op.eqFields]
theorem eqF_cons {P : Program} {d : Nat} {xs ys : Array Value} {f : Field} {fs : List Field} {a b : Value} {r q : Bool} {w : World} (hn : (f.name != "_") = true) (pa : (part f.type xs f.offset).run P w = .ok a w) (pb : (part f.type ys f.offset).run P w = .ok b w)
    (he : (Op.equalIn d f.type a b).run P w = .ok r w) (hq : (Op.eqFields d xs ys fs).run P w = .ok q w) : (Op.eqFields d xs ys (f :: fs)).run P w = .ok (r && q) w := by
  have hn' : f.name ≠ "_" := by simpa using hn
  simp only [Op.eqFields, if_pos hn', Sem.run_bind, pa, pb, he, Result.andThen_ok]
  cases r
  · simp
  · simpa using hq
theorem fields_of {P : Program} {t : TypeId} {fs : Array Field} (h : P.underlying t = some (.struct fs)) : (P.fieldsOf t).toList = fs.toList := by rw [Program.fieldsOf, h]
theorem struct_of {P : Program} {t : TypeId} {fs : Array Field} (h : P.underlying t = some (.struct fs)) : P.underlying t = some (.struct (P.fieldsOf t)) := by rw [Program.fieldsOf, h]
theorem eq_int_of {d : Nat} {e : TypeId} {k k' : IntKind} {x y : Int} (he : Tryd.prog.underlying e = some (.int k')) (w : World) : (Op.equalIn (d + 1) e (.int k x) (.int k y)).run Tryd.prog w = .ok (x == y) w := run_equalIn_int w d e k k' x y he
theorem eq_str_of {d : Nat} {x y : ByteArray} (w : World) : (Op.equalIn (d + 1) 9 (.string x) (.string y)).run Tryd.prog w = .ok (decide (x = y)) w := by
  rw [run_equalIn_string w d 9 x y Tryd.underlying9]
  congr 1
  rw [Bool.eq_iff_iff]
  simp only [beq_iff_eq, decide_eq_true_eq, ByteArray.toList_eq]
  constructor
  · intro h
    obtain ⟨⟨x⟩⟩ := x
    obtain ⟨⟨y⟩⟩ := y
    simpa using h
  · rintro rfl
    rfl
theorem op_ext {p q : MOp} : (p.kind = q.kind ∧ p.key = q.key ∧ p.value = q.value ∧ p.old = q.old ∧ p.to = q.to ∧ p.amount = q.amount) ↔ p = q := by
  obtain ⟨a1, a2, a3, a4, a5, a6⟩ := p
  obtain ⟨b1, b2, b3, b4, b5, b6⟩ := q
  simp
theorem eq_op_of {d : Nat} (p q : MOp) {b : Bool} (hb : b = true ↔ p = q) (w : World) : (Op.equalIn (d + 2) 49 (.agg (opC p).toArray) (.agg (opC q).toArray)).run Tryd.prog w = .ok b w := by
  rw [run_equalIn_struct w (d + 1) 49 _ _ (struct_of Tryd.underlying49) (by kernel_rfl), fields_of Tryd.underlying49]
  refine Eq.trans (eqF_cons rfl (run_part_cell Tryd.underlying5 rfl rfl w) (run_part_cell Tryd.underlying5 rfl rfl w) (eq_int_of Tryd.underlying5 w)
    (eqF_cons rfl (run_part_cell Tryd.underlying9 rfl rfl w) (run_part_cell Tryd.underlying9 rfl rfl w) (eq_str_of w)
    (eqF_cons rfl (run_part_cell Tryd.underlying9 rfl rfl w) (run_part_cell Tryd.underlying9 rfl rfl w) (eq_str_of w)
    (eqF_cons rfl (run_part_cell Tryd.underlying9 rfl rfl w) (run_part_cell Tryd.underlying9 rfl rfl w) (eq_str_of w)
    (eqF_cons rfl (run_part_cell Tryd.underlying9 rfl rfl w) (run_part_cell Tryd.underlying9 rfl rfl w) (eq_str_of w)
    (eqF_cons rfl (run_part_cell Tryd.underlying30 rfl rfl w) (run_part_cell Tryd.underlying30 rfl rfl w) (eq_int_of Tryd.underlying30 w) eqF_nil)))))) ?_
  congr 1
  rw [Bool.eq_iff_iff, hb, ← op_ext]
  simp only [Bool.and_eq_true, beq_iff_eq, decide_eq_true_eq, and_true, Int.ofNat_inj, UInt8.toNat_inj]
theorem eq_item_of {d : Nat} (p q : It) {b : Bool} (hb : b = true ↔ p = q) (w : World) : (Op.equalIn (d + 2) 64 (.agg #[.string p.1, .string p.2]) (.agg #[.string q.1, .string q.2])).run Tryd.prog w = .ok b w := by
  rw [run_equalIn_struct w (d + 1) 64 _ _ (struct_of Tryd.underlying64) (by kernel_rfl), fields_of Tryd.underlying64]
  refine Eq.trans (eqF_cons rfl (run_part_cell Tryd.underlying9 rfl rfl w) (run_part_cell Tryd.underlying9 rfl rfl w) (eq_str_of w)
    (eqF_cons rfl (run_part_cell Tryd.underlying9 rfl rfl w) (run_part_cell Tryd.underlying9 rfl rfl w) (eq_str_of w) eqF_nil)) ?_
  congr 1
  rw [Bool.eq_iff_iff, hb]
  simp only [Bool.and_eq_true, decide_eq_true_eq, and_true, Prod.ext_iff]
def repC (p : Rep) : List Value := [.int .i64 (p.1 : Int), .string p.2]
theorem eq_rep_of {d : Nat} (p q : Rep) {b : Bool} (hb : b = true ↔ p = q) (w : World) : (Op.equalIn (d + 2) 32 (.agg (repC p).toArray) (.agg (repC q).toArray)).run Tryd.prog w = .ok b w := by
  rw [run_equalIn_struct w (d + 1) 32 _ _ (struct_of Tryd.underlying32) (by kernel_rfl), fields_of Tryd.underlying32]
  refine Eq.trans (eqF_cons rfl (run_part_cell Tryd.underlying27 rfl rfl w) (run_part_cell Tryd.underlying27 rfl rfl w) (eq_int_of Tryd.underlying27 w)
    (eqF_cons rfl (run_part_cell Tryd.underlying9 rfl rfl w) (run_part_cell Tryd.underlying9 rfl rfl w) (eq_str_of w) eqF_nil)) ?_
  congr 1
  rw [Bool.eq_iff_iff, hb]
  simp only [Bool.and_eq_true, beq_iff_eq, decide_eq_true_eq, and_true, Int.ofNat_inj, Prod.ext_iff]
theorem Tryd.guard49 : Tryd.prog.eqGuardType Tryd.prog.depth 49 = false := by kernel_rfl
theorem Tryd.guard64 : Tryd.prog.eqGuardType Tryd.prog.depth 64 = false := by kernel_rfl
theorem Tryd.guard32 : Tryd.prog.eqGuardType Tryd.prog.depth 32 = false := by kernel_rfl

theorem ownOp_any (o : MOp) (w : World) : Calls Tryd.prog 42 #[.agg (opC o).toArray] w fun E w' => OwnP w (ownOp o).1 (ownOp o).2 E w' := by
  obtain ⟨kk, key, value, old, to, am⟩ := o
  have hi : ∀ n : UInt8, (kk.toNat : Int) = (n.toNat : Int) ↔ kk = n := fun n => ⟨fun h => UInt8.toNat_inj.1 (by omega), fun h => by rw [h]⟩
  have h1 := hi 1
  have h2 := hi 2
  have h3 := hi 3
  have h4 := hi 4
  have h5 := hi 5
  have d1 : ¬ ((1 : UInt8) = 3) := by decide
  unfold ownOp
  dsimp only
  split
  · rename_i h
    rcases h with rfl | rfl
    · exact own_1 1 key value old to am w rfl
    · exact own_3 3 key value old to am w rfl
  · rename_i n13
    split
    · rename_i h
      subst h
      exact own_2 2 key value old to am w rfl
    · split
      · rename_i h
        subst h
        exact own_4 4 key value old to am w rfl
      · split
        · rename_i h
          subst h
          exact own_5 5 key value old to am w rfl
        · rename_i n2 n4 n5
          exact own_no kk key value old to am w ⟨fun h => n13 (.inl (h1.1 h)), fun h => n2 (h2.1 h), fun h => n13 (.inr (h3.1 h)), fun h => n4 (h4.1 h), fun h => n5 (h5.1 h)⟩
theorem ownOp_kind (o : MOp) : (ownOp o).1.kind = o.kind ∧ (ownOp o).1.key = o.key := by
  unfold ownOp
  dsimp only
  repeat' split
  all_goals exact ⟨rfl, rfl⟩
theorem ownOp_eq (o : MOp) : o = (ownOp o).1 ↔ ((ownOp o).1.value = o.value ∧ (ownOp o).1.old = o.old ∧ (ownOp o).1.to = o.to ∧ (ownOp o).1.amount = o.amount) := by
  obtain ⟨h1, h2⟩ := ownOp_kind o
  rw [← op_ext]
  constructor
  · rintro ⟨_, _, a, b, c, d⟩
    exact ⟨a.symm, b.symm, c.symm, d.symm⟩
  · rintro ⟨a, b, c, d⟩
    exact ⟨h1.symm, h2.symm, a.symm, b.symm, c.symm, d.symm⟩
set_option maxHeartbeats 2000000 in
theorem may_any (o : MOp) (w : World) : Calls Tryd.prog 33 #[.agg (opC o).toArray] w fun E w' => E = .returned (.bool (mayOp o)) ∧ Below w.heap.size w w' := by
  have HO := Lib.hid (fun W => ownOp_any o W)
  have HK := Lib.hid (fun W => mayK_any o.key W)
  obtain ⟨b, hb⟩ : ∃ b, b = decide ((ownOp o).1.value = o.value ∧ (ownOp o).1.old = o.old ∧ (ownOp o).1.to = o.to ∧ (ownOp o).1.amount = o.amount) := ⟨_, rfl⟩
  have HM : Hid (mayOp o = ((ownOp o).2 && (mayK o.key && b))) := Lib.hid (by rw [hb]; rfl)
  have e41 : ∀ w, (Op.equalIn 10000 49 (.agg (opC o).toArray) (.agg (opC (ownOp o).1).toArray)).run Tryd.prog w = .ok b w := fun w => eq_op_of (d := 9998) o (ownOp o).1 (by rw [hb, decide_eq_true_eq, ownOp_eq]) w
  rw [HM.out]
  clear hb HM
  have g41 := Tryd.guard49
  obtain ⟨x, hx⟩ : ∃ x, x = (ownOp o).1 := ⟨_, rfl⟩
  obtain ⟨y, hy⟩ : ∃ y, y = (ownOp o).2 := ⟨_, rfl⟩
  obtain ⟨z, hz⟩ : ∃ z, z = mayK o.key := ⟨_, rfl⟩
  rw [← hx] at e41 HO
  rw [← hy] at HO ⊢
  rw [← hz] at HK ⊢
  clear hx hy hz
  obtain ⟨kk, key, value, old, to, am⟩ := o
  obtain ⟨kk', key', value', old', to', am'⟩ := x
  dsimp only [opC] at e41 HK ⊢
  obtain ⟨K, hK⟩ : ∃ K : Int, K = kk.toNat := ⟨_, rfl⟩
  obtain ⟨K', hK'⟩ : ∃ K : Int, K = kk'.toNat := ⟨_, rfl⟩
  have HO' : Hid (∀ W, Calls Tryd.prog 42 #[.agg #[.int .u8 K, .string key, .string value, .string old, .string to, .int .u64 (am : Int)]] W fun E w' => E = .returned (.tuple #[.agg #[.int .u8 K', .string key', .string value', .string old', .string to', .int .u64 (am' : Int)], .bool y]) ∧ Below W.heap.size W w') := Lib.hid (by rw [hK, hK']; exact HO.out)
  rw [← hK, ← hK'] at e41
  rw [← hK]
  clear HO hK hK'
  have hB0 : Below w.heap.size w (w.alloc (.cells #[.int .u8 K, .string key, .string value, .string old, .string to, .int .u64 (am : Int)] 49)) := (Below.refl _ _).alloc (Nat.le_refl _) _
  have HB0 := Lib.hid hB0
  have HC : Hid ((w.alloc (.cells #[.int .u8 K, .string key, .string value, .string old, .string to, .int .u64 (am : Int)] 49)).heap[w.heap.size]? = some (.cells [.int .u8 K, .string key, .string value, .string old, .string to, .int .u64 (am : Int)].toArray 49 (0, 0))) := Lib.hid (heap_alloc_new w _)
  have HZ : Hid (w.heap.size < (w.alloc (.cells #[.int .u8 K, .string key, .string value, .string old, .string to, .int .u64 (am : Int)] 49)).heap.size) := Lib.hid (by simp)
  clear hB0
  go_enter Tryd.func33, Tryd.ntmps33
  go_wp2_with (go_at_call 42; refine (HO'.out _).mono ?_)
  rintro E w1 ⟨rfl, b1⟩
  have HL : Hid (w1.heap[w.heap.size]? = some (.cells [.int .u8 K, .string key, .string value, .string old, .string to, .int .u64 (am : Int)].toArray 49 (0, 0))) := Lib.hid ((b1.block _ HZ.out).trans HC.out)
  have HB1 := Lib.hid (HB0.out.trans (b1.mono HB0.out.size))
  have c1 : w1.cell? ⟨w.heap.size, 0, none⟩ = some (.int .u8 K) := block_cell HL.out 0 _ rfl
  have c2 : w1.cell? ⟨w.heap.size, 1, none⟩ = some (.string key) := block_cell HL.out 1 _ rfl
  have c3 : w1.cell? ⟨w.heap.size, 2, none⟩ = some (.string value) := block_cell HL.out 2 _ rfl
  have c4 : w1.cell? ⟨w.heap.size, 3, none⟩ = some (.string old) := block_cell HL.out 3 _ rfl
  have c5 : w1.cell? ⟨w.heap.size, 4, none⟩ = some (.string to) := block_cell HL.out 4 _ rfl
  have c6 : w1.cell? ⟨w.heap.size, 5, none⟩ = some (.int .u64 (am : Int)) := block_cell HL.out 5 _ rfl
  have hlt : w.heap.size < w1.heap.size := Nat.lt_of_lt_of_le HZ.out b1.size
  have hne : ¬ (w.heap.size = w1.heap.size) := by omega
  have HB2 : ∀ o, Hid (Below w.heap.size w (w1.alloc o)) := fun o => Lib.hid (HB1.out.alloc HB1.out.size _)
  clear b1 HB0 HC HZ HL HB1
  cases y with
  | false =>
    go_wp2_with fail
    go_ret
    exact ⟨rfl, (HB2 _).out⟩
  | true =>
    cases z with
    | false =>
      go_wp2_with (go_at_call 40; refine (HK.out _).mono ?_; rintro E w2 ⟨rfl, rfl⟩)
      go_ret
      exact ⟨rfl, (HB2 _).out⟩
    | true =>
      go_wp2_with (go_at_call 40; refine (HK.out _).mono ?_; rintro E w2 ⟨rfl, rfl⟩)
      go_ret
      exact ⟨rfl, (HB2 _).out⟩
end Go.Proofs.YtflenghnmflenaaDoor
