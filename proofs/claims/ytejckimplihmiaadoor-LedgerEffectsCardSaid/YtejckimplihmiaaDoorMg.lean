/-
  What is proved: LedgerEffects, of what came in. Conditions as stated.
-/
import Derived.Test.YtejckimplihmiaaDoorMf
import Derived.Test.YtejckimplihmiaaDoorLx
namespace Go.Proofs.YtejckimplihmiaaDoor
open Go.RowKit
theorem eff_in (W : World) (hv : Vars W) (A : Option Addr) (n c : Nat) (h : ∃ os : List MOp, os.length = n ∧ Ops W A os ∧ n ≤ c ∧ c ≤ 9223372036854775807 ∧ ∀ o ∈ os, o.amount < 18446744073709551616)
    (v : Value) (h1 : ∃ o : MOp, v = .agg (opC o).toArray ∧ o.amount < 18446744073709551616) : Calls Tryd.prog 6 #[.slice A n c, v] W fun E w' => E = .returned (.bool true) ∧ Below W.heap.size W w' := by
  obtain ⟨os, rfl, hA, hn, hc, _⟩ := h
  obtain ⟨o, rfl, _⟩ := h1
  exact eff_walk hv A c os o hA (by omega)
end Go.Proofs.YtejckimplihmiaaDoor
