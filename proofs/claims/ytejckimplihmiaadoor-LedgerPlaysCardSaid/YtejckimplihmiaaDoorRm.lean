/-
  What is proved: LedgerPlays, of what came in. Conditions as stated.
-/
import Derived.Test.YtejckimplihmiaaDoorRl
import Derived.Test.YtejckimplihmiaaDoorLw
namespace Go.Proofs.YtejckimplihmiaaDoor
open Go.RowKit
theorem plays_in (W : World) (hv : Vars W) (A : Option Addr) (n c : Nat) (hx : ∃ xs : List It, xs.length = n ∧ Its W A xs ∧ n ≤ c ∧ c ≤ 9223372036854775807 ∧ (A = none → c = 0)) (B : Option Addr) (n2 c2 : Nat) (h : ∃ os : List MOp, os.length = n2 ∧ Ops W B os ∧ n2 ≤ c2 ∧ c2 ≤ 9223372036854775807 ∧ ∀ o ∈ os, o.amount < 18446744073709551616) :
    Calls Tryd.prog 3 #[.slice A n c, .slice B n2 c2] W fun E w' => E = .returned (.bool true) ∧ Below W.heap.size W w' := by
  obtain ⟨os, rfl, hB, _, _, _⟩ := h
  obtain ⟨xs, rfl, hI, _, _, hc⟩ := hx
  exact plays_walk hv A c xs hI hc B c2 os hB
end Go.Proofs.YtejckimplihmiaaDoor
