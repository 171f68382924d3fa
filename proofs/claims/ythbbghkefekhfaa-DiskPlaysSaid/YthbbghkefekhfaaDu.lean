/-
  What is proved: laws for the walk of DiskPower. Conditions as stated.
-/
import Derived.Test.YthbbghkefekhfaaDt
import Derived.Test.YthbbghkefekhfaaDr
import Derived.Deep.RegionHeld
import Derived.RegionTactic
namespace Go.Proofs.Ythbbghkefekhfaa
open Go.RowKit Go.Sort

/-- A slice that reads as these writes. -/
def Rp (w : World) (A : Option Addr) (n : Nat) (xs : List (UInt8 × UInt8)) : Prop :=
  xs.length = n ∧ (0 < n → ∃ b o, A = some ⟨b, o, none⟩ ∧ b < w.heap.size ∧ ∀ j p, xs[j]? = some p → w.cell? ⟨b, o + j * 2, none⟩ = some (.int .u8 (p.1.toNat : Int)) ∧ w.cell? ⟨b, o + j * 2 + 1, none⟩ = some (.int .u8 (p.2.toNat : Int)))

theorem zero49 (w : World) : (zeroValue 49).run Try.prog w = .ok (.agg (flat (rows [])).toArray) w := by kernel_rfl

theorem Dat.drewN {w wr : World} {d T : Nat} {s : Dk} {L : List (Nat × Obj)} (h : Dat w d T s L wr) (q : Nat) : Dat w d T s L (wr.drewN q) := h.next ⟨rfl, rfl, rfl, Nat.le_refl _, fun _ _ => rfl⟩

theorem wpQuiet_load1 {P : Program} {ops : Array Oper} {C : World → Prop} {Q : Act → Prop} {rest : List Oper} {op : Oper} {a : Act} (ty : TypeId) (x : Operand) (ho : op.op = .load ty x) (A : Addr) (hx : a.eval x = .pointer (some A)) (v : Value) {k : IntKind}
    (hc : ∀ w, C w → w.cell? A = some v) (hu : P.underlying ty = some (.int k)) (hw : Region.wanted op (yielded ops a.tmps) = true)
    (h : wpQuiet P ops C Q rest (a.put op.dst v)) : wpQuiet P ops C Q (op :: rest) a := by
  unfold wpQuiet
  rw [if_pos hw]
  refine ⟨v, fun w hC => ?_, h⟩
  have hagg : (isAgg ty).run P w = .ok false w := by
    unfold isAgg
    rw [Sem.run_bind, run_underlying hu w]
    rfl
  have hcell := hc w hC
  have hl : (loadVar ty A).run P w = .ok v w := by
    simp [loadVar, Sem.run_bind, hagg, hcell]
  unfold Oper.quietAt execOp
  simp only [ho, hx, Instr.loadAt, Instr.sureAddr, Sem.run_bind, Sem.run_pure, Result.andThen_ok, hl]
  exact ⟨rfl, rfl⟩

/-- One sector of sixteen anew. -/
theorem step_store_was {P : Program} {ops : Array Oper} {op : Oper} {a : Act} {w : World} {K : Act → World → Prop} {Q : Exit → Act → World → Prop} {E : Prop} (hgd : op.guard = none) (x y : Operand) (ho : op.op = .store 33 x y)
    (q i : Nat) (ws : List (List UInt8)) (hC : w.heap[q]? = some (.cells (flat ws).toArray 49 (0, 0))) (h128 : ∀ r ∈ ws, r.length = 128) (hi : i < ws.length) (sb : List UInt8) (hsb : sb.length = 128)
    (hx : a.eval x = .pointer (some ⟨q, i * 128, none⟩)) (hy : a.eval y = .agg (u8s sb).toArray) (hsz : (P.info? 33).map (·.size) = some 128)
    (h : ∀ w', Hid (w'.heap[q]? = some (.cells (flat (ws.set i sb)).toArray 49 (0, 0)) ∧ w.grownBy w' (some q)) → K (a.put op.dst undef) w') : if Region.wanted op (yielded ops a.tmps) = true then Oper.wp P op a w K Q else E := by
  have hw : Region.wanted op (yielded ops a.tmps) = true := by simp [Region.wanted, hgd]
  rw [if_pos hw]
  have hl : (u8s sb).length = 128 := by rw [u8s_length, hsb]
  refine wp_store_mid 33 x y ho q (i * 128) (u8s sb).toArray hx hy (there_block hC _ _ (by rw [flat_length ws h128]; simp [hl]; omega)) (by simpa [hl] using hsz) (all_oneCell_toArray (u8s_one _)) (h _ (Lib.hid ⟨?_, gb_setCells _ _ _ _⟩))
  rw [heap_setCells _ _ w _ hC]
  have := flat_set ws h128 i hi sb hsb
  rw [Nat.mul_comm] at this
  simp only
  rw [this]

theorem was_range {w : World} {q : Nat} {ws : List (List UInt8)} (hC : w.heap[q]? = some (.cells (flat ws).toArray 49 (0, 0))) (h128 : ∀ r ∈ ws, r.length = 128) (i : Nat) (hi : i < ws.length) (X : List UInt8) (hX : ws[i] = X) : w.rangeAt q (i * 128) (u8s X) :=
  range_block hC _ _ fun j v hv => by rw [Nat.mul_comm]; exact flat_at128 ws h128 i hi j v (by rw [hX]; exact hv)
theorem rows_at (l : List (UInt8 × UInt8)) (i : Nat) (hi : i < (rows l).length) : (rows l)[i] = wasOf l i := by simp [rows]
end Go.Proofs.Ythbbghkefekhfaa
