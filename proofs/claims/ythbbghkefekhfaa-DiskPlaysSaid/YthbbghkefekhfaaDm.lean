/-
  What is proved: two sectors are equal or not; loads of sectors in a region that only reads. Conditions as stated.
-/
import Derived.Test.YthbbghkefekhfaaDh
import Derived.Lib.QuietBelow
namespace Go.Proofs.Ythbbghkefekhfaa
open Go.RowKit Go.Sort
theorem wpQuiet_load_cellsG {P : Program} {ops : Array Oper} {C : World → Prop} {Q : Act → Prop} {rest : List Oper} {op : Oper} {a : Act} (ty : TypeId) (x : Operand) (ho : op.op = .load ty x)
    (b o : Nat) (hx : a.eval x = .pointer (some ⟨b, o, none⟩)) (cs : List Value) (d : TypeDesc) (hc : ∀ w, C w → w.rangeAt b o cs)
    (hu : P.underlying ty = some d) (hd : d.isRow = true) (hi : (P.info? ty).map (·.size) = some cs.length) (hw : Region.wanted op (yielded ops a.tmps) = true)
    (h : wpQuiet P ops C Q rest (a.put op.dst (.agg cs.toArray))) : wpQuiet P ops C Q (op :: rest) a := by
  unfold wpQuiet
  rw [if_pos hw]
  refine ⟨.agg cs.toArray, fun w hC => ?_, h⟩
  unfold Oper.quietAt execOp
  simp only [ho, hx, Instr.loadAt, Instr.sureAddr, Sem.run_bind, Sem.run_pure, Result.andThen_ok, run_loadVar_mid w b o ty cs d (hc w hC) hu hd hi]
  exact ⟨rfl, rfl⟩
theorem run_part_int {P : Program} {e : TypeId} {kd : IntKind} (he : P.underlying e = some (.int kd)) {xs : Array Value} {i : Nat} {v : Value} (hv : xs[i]? = some v) (w : World) : (part e xs i).run P w = .ok v w := by
  have hagg : (isAgg e).run P w = .ok false w := by
    unfold isAgg
    rw [Sem.run_bind, run_underlying he w]
    rfl
  simp [part, hagg, hv]
theorem eqItems_bytes {P : Program} {d : Nat} {e : TypeId} (he : P.underlying e = some (.int .u8)) (l m : List UInt8) (w : World) :
    ∀ is : List Nat, (∀ i ∈ is, i < l.length ∧ i < m.length) → (Op.eqItems (d + 1) e 1 (u8s l).toArray (u8s m).toArray is).run P w = .ok (is.all fun i => l.getD i 0 == m.getD i 0) w
  | [], _ => by simp [Op.eqItems]
  | i :: is, h => by
    obtain ⟨h1, h2⟩ := h i (by simp)
    have hr := eqItems_bytes (d := d) he l m w is fun j hj => h j (by simp [hj])
    have e1 : ((u8s l).toArray)[i]? = some (.int .u8 ((l.getD i 0).toNat : Int)) := by simpa using u8s_at l i h1
    have e2 : ((u8s m).toArray)[i]? = some (.int .u8 ((m.getD i 0).toNat : Int)) := by simpa using u8s_at m i h2
    have e3 : (((l.getD i 0).toNat : Int) == ((m.getD i 0).toNat : Int)) = (l.getD i 0 == m.getD i 0) := by
      by_cases hq : l.getD i 0 = m.getD i 0
      · rw [hq]; simp
      · have : ((l.getD i 0).toNat : Int) ≠ ((m.getD i 0).toNat : Int) := fun hh => hq (UInt8.toNat_inj.1 (by omega))
        rw [beq_false_of_ne this, beq_false_of_ne hq]
    simp only [Op.eqItems, Nat.mul_one, Sem.run_bind, run_part_int he e1, run_part_int he e2, Result.andThen_ok, run_equalIn_int w d e .u8 .u8 _ _ he, List.all_cons]
    rw [e3]
    cases hq : (l.getD i 0 == m.getD i 0)
    · simp
    · simp [hr]
theorem Try.cells5 : Try.prog.cellsOf 5 = 1 := by kernel_rfl
theorem Try.has5 : (Try.prog.info? 5).isSome = true := by kernel_rfl
theorem Try.guard33 : Try.prog.eqGuardType Try.prog.depth 33 = false := by kernel_rfl
theorem eq33 (l m : List UInt8) (hl : l.length = 128) (hm : m.length = 128) (w : World) : (Op.equalIn 10000 33 (.agg (u8s l).toArray) (.agg (u8s m).toArray)).run Try.prog w = .ok (decide (l = m)) w := by
  obtain ⟨i, hi⟩ := Option.isSome_iff_exists.1 Try.has5
  rw [show 10000 = 9999 + 1 from rfl, run_equalIn_array w 9999 _ _ Try.underlying33 hi, Try.cells5, show 9999 = 9998 + 1 from rfl,
    eqItems_bytes (d := 9998) Try.underlying5 l m w _ (fun i hi => by rw [hl, hm]; simpa using hi)]
  congr 1
  by_cases h : l = m
  · subst h; simp
  · rw [decide_eq_false h, Bool.eq_false_iff]
    intro hall
    apply h
    apply List.ext_getElem (by rw [hl, hm])
    intro i h1 h2
    have := List.all_eq_true.1 hall i (by simp; omega)
    simp only [List.getD_eq_getElem?_getD, List.getElem?_eq_getElem h1, List.getElem?_eq_getElem h2, Option.getD_some, beq_iff_eq] at this
    exact this
theorem eq33_same (l : List UInt8) (hl : l.length = 128) (w : World) : (Op.equalIn 10000 33 (.agg (u8s l).toArray) (.agg (u8s l).toArray)).run Try.prog w = .ok true w := by
  rw [eq33 l l hl hl]; simp

section
variable {w wr : World} {d T : Nat} {s s' : Dk} {L : List (Nat × Obj)}
theorem stepP (h : Dat w d T s L wr) (p : Bool) (hp : (!s.off) = p) : Calls Try.prog 24 #[.pointer (some ⟨d, 0, none⟩)] wr fun E w' => E = .returned (.bool p) ∧ wr = w' := by
  have := dat_power h
  rw [hp] at this
  exact this
theorem Dat.var {w' : World} {o o' : Obj} (h : Dat w d T s L wr) (G : w'.heap[wr.heap.size]? = some o' ∧ (wr.alloc o).grownBy w' (some wr.heap.size)) : Dat w d T s ((wr.heap.size, o') :: L) w' :=
  (h.alloc o).upd (fun _ hp e => by have := h.lt hp; omega) G.1 G.2
theorem stepW (h : Dat w d T s L wr) (b : List UInt8) (hb : b.length = 128) (hT : T < 1000000000) (x : Int) (e : Int) (he : (s.write x b).2 = e) (hs : (s.write x b).1 = s') :
    Calls Try.prog 14 #[.pointer (some ⟨d, 0, none⟩), .int .i64 x, .agg (u8s b).toArray] wr fun E w' => E = .returned (.int .i64 e) ∧ Dat w d (T + 1) s' L w' := by
  have := dat_write h x b hb hT
  rw [he, hs] at this
  exact this
theorem stepR (h : Dat w d T s L wr) (x : Int) (hx : I64 x) (b : List UInt8) (e : Int) (he : s.read x = (b, e)) :
    Calls Try.prog 12 #[.pointer (some ⟨d, 0, none⟩), .int .i64 x] wr fun E w' => E = .returned (.tuple #[.agg (u8s b).toArray, .int .i64 e]) ∧ Dat w d T s L w' ∧ Below wr.heap.size wr w' := by
  have := dat_read h x hx
  rw [he] at this
  exact this
theorem stepY (h : Dat w d T s L wr) (hT : T < 1000000000) (e : Int) (he : s.sync.2 = e) (hs : s.sync.1 = s') : Calls Try.prog 17 #[.pointer (some ⟨d, 0, none⟩)] wr fun E w' => E = .returned (.int .i64 e) ∧ Dat w d T s' L w' := by
  have := dat_sync h hT
  rw [he, hs] at this
  exact this
theorem stepO (h : Dat w d T s L wr) (hs : s.offed = s') : Calls Try.prog 20 #[.pointer (some ⟨d, 0, none⟩)] wr fun E w' => E = .returned (.tuple #[]) ∧ Dat w d T s' L w' := by
  have := dat_off h
  rw [hs] at this
  exact this
theorem stepN0 (h : Dat w d T s L wr) (hT : T < 1000000000) (e : Int) (he : (s.on []).2 = e) (hs : (s.on []).1 = s') : Calls Try.prog 22 #[.pointer (some ⟨d, 0, none⟩), .slice none 0 0] wr fun E w' => E = .returned (.int .i64 e) ∧ Dat w d T s' L w' := by
  have := dat_on_nil h hT
  rw [he, hs] at this
  exact this
theorem stepN1 (h : Dat w d T s L wr) (hT : T < 1000000000) (u : UInt8) (z : Int) (hz : z = (u.toNat : Int)) (e : Int) (he : (s.on [u]).2 = e) (hs : (s.on [u]).1 = s') :
    Calls Try.prog 22 #[.pointer (some ⟨d, 0, none⟩), .slice (some ⟨wr.heap.size, 0, none⟩) 1 1] (wr.alloc (.cells #[.int .u8 z] 5)) fun E w' => E = .returned (.int .i64 e) ∧ Dat w d T s' L w' := by
  have := dat_on_lit h hT [u] (by simp)
  rw [he, hs] at this
  subst hz
  exact this
end

end Go.Proofs.Ythbbghkefekhfaa
