/-
  What is proved: the walk of CellElder for whatever comes in. No condition.
-/
import Derived.Test.YtiphfeefbiiolaaCx
namespace Go.Proofs.Ytiphfeefbiiolaa
open Go.RowKit

theorem cellElder_walk (W : World) (A : Option Addr) (n c : Nat) (h1 : ∃ xs, Lists W A n xs ∧ Sl A n c) (x : Int) (hx : (Lit.int .u8 x).wf = true) (y : Int) (hy : (Lit.int .u8 y).wf = true) :
    Calls Try.prog 6 #[.slice A n c, .int .u8 x, .int .u8 y] W fun E w' => E = .returned (.bool true) ∧ Below W.heap.size W w' := by
  obtain ⟨xs, h1, hs⟩ := h1
  rw [u8_of hx, u8_of hy]
  exact cellElder_by works_any A n c xs _ _ W h1 hs
end Go.Proofs.Ytiphfeefbiiolaa
