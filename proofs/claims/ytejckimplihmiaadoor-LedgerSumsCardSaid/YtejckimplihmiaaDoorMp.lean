/-
  What is proved: LedgerSums, of what came in. Conditions as stated.
-/
import Derived.Test.YtejckimplihmiaaDoorMo
import Derived.Test.YtejckimplihmiaaDoorLw
namespace Go.Proofs.YtejckimplihmiaaDoor
open Go.RowKit
theorem sums_in (W : World) (hv : Vars W) (A : Option Addr) (n c : Nat) (h : ∃ os : List MOp, os.length = n ∧ Ops W A os ∧ n ≤ c ∧ c ≤ 9223372036854775807 ∧ ∀ o ∈ os, o.amount < 18446744073709551616) :
    Calls Tryd.prog 4 #[.slice A n c] W fun E w' => E = .returned (.bool true) ∧ Below W.heap.size W w' := by
  obtain ⟨os, rfl, hA, _, _, _⟩ := h
  exact sums_walk hv A c os hA
end Go.Proofs.YtejckimplihmiaaDoor
