/-
  What is proved: the walk of DiskPlays for whatever comes in. No condition.
-/
import Derived.Test.YthbbghkefekhfaaEk
namespace Go.Proofs.Ythbbghkefekhfaa
open Go.RowKit

theorem diskPlays_walk (W : World) (A : Option Addr) (n c : Nat) (h1 : ∃ xs, Steps W A n xs ∧ Sl A n c) :
    Calls Try.prog 3 #[.slice A n c] W fun E w' => E = .returned (.bool true) ∧ Below W.heap.size W w' := by
  obtain ⟨xs, hx, hs⟩ := h1
  exact diskPlays_by works_are A n c xs W hx hs
end Go.Proofs.Ythbbghkefekhfaa
