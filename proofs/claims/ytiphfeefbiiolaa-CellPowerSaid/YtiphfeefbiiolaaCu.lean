/-
  What is proved: the walk of CellPower for whatever comes in. No condition.
-/
import Derived.Test.YtiphfeefbiiolaaCt
namespace Go.Proofs.Ytiphfeefbiiolaa
open Go.RowKit

theorem cellPower_walk (W : World) (A : Option Addr) (n c : Nat) (h1 : ∃ xs, Crss W A n xs ∧ Sl A n c) :
    Calls Try.prog 3 #[.slice A n c] W fun E w' => E = .returned (.bool true) ∧ Below W.heap.size W w' := by
  obtain ⟨xs, hx, hs⟩ := h1
  exact cellPower_by works_any A n c xs W hx hs
end Go.Proofs.Ytiphfeefbiiolaa
