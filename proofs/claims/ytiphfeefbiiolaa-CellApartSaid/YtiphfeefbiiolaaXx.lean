/-
  What is proved: the walk of CellApart for whatever comes in. No condition.
-/
import Derived.Test.YtiphfeefbiiolaaXw
namespace Go.Proofs.Ytiphfeefbiiolaa
open Go.RowKit

theorem cellApart_walk (W : World) (x : Int) (hx : (Lit.int .u8 x).wf = true) (A : Option Addr) (n c : Nat) (h1 : ∃ xs, Bsds W A n xs ∧ Sl A n c) :
    Calls Try.prog 5 #[.int .u8 x, .slice A n c] W fun E w' => E = .returned (.bool true) ∧ Below W.heap.size W w' := by
  obtain ⟨xs, h1, hs⟩ := h1
  rw [u8_of hx]
  exact cellApart_by works_any _ A n c xs W h1 hs
end Go.Proofs.Ytiphfeefbiiolaa
