/-
  What is proved: the walk of UsigLost for whatever comes in. Conditions as stated.
-/
import Derived.Test.YtepjfkmbmcfnoaaDoorGw
namespace Go.Proofs.YtepjfkmbmcfnoaaDoor
open Go.RowKit

theorem usigLost_walk (W : World) (hK : Sh.KIs W) (h0 : 0 < W.heap.size) (A : Option Addr) (n c : Nat) (h : ∃ xs, Lists W A n xs ∧ Sl A n c) (one : Int) (h1 : (Lit.int .u8 one).wf = true) (two : Int) (h2 : (Lit.int .u8 two).wf = true) :
    Calls Tryd.prog 8 #[.slice A n c, .int .u8 one, .int .u8 two] W fun E w' => E = .returned (.bool true) ∧ Below W.heap.size W w' := by
  obtain ⟨xs, hx, hs⟩ := h
  have b1 := bounds_u8 h1
  have b2 := bounds_u8 h2
  exact usigLost_by W (Lib.hid hK) h0 (Lib.hid fun W' hb => works_any W' (hK.below hb h0) (Nat.lt_of_lt_of_le h0 hb.size)) A n c xs hx hs one (by omega) two (by omega)
end Go.Proofs.YtepjfkmbmcfnoaaDoor
