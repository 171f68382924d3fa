/-
  What is proved: StateAdds, of what came in. Conditions as stated.
-/
import Derived.Test.YtpageppjngbnpaaDoorGz
namespace Go.Proofs.YtpageppjngbnpaaDoor
open Go.RowKit
theorem adds_in (W : World) (hv : Vars W) (A : Option Addr) (n c : Nat) (h : ∃ qs : List MRq, qs.length = n ∧ Rqs W A qs) (hn : n ≤ 1099511627776) :
    Calls Tryd.prog 3 #[.slice A n c] W fun E w' => E = .returned (.bool true) ∧ Below W.heap.size W w' := by
  obtain ⟨qs, rfl, hQ⟩ := h
  exact adds_walk hv (fun i h => absurd h (Nat.not_lt_zero i)) hQ hn
end Go.Proofs.YtpageppjngbnpaaDoor
