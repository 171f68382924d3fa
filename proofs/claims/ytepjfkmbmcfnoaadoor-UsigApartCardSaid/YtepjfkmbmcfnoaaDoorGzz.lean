/-
  What is proved: the walk of UsigApart for whatever comes in. Conditions as stated.
-/
import Derived.Test.YtepjfkmbmcfnoaaDoorGz
namespace Go.Proofs.YtepjfkmbmcfnoaaDoor
open Go.RowKit

theorem usigApart_walk (W : World) (hK : Sh.KIs W) (h0 : 0 < W.heap.size) (A : Option Addr) (n c : Nat) (h : ∃ xs, Trns W A n xs ∧ Sl A n c) :
    Calls Tryd.prog 7 #[.slice A n c] W fun E w' => E = .returned (.bool true) ∧ Below W.heap.size W w' := by
  obtain ⟨xs, hx, hs⟩ := h
  exact usigApart_by W (Lib.hid hK) h0 (Lib.hid fun W' hb => works_any W' (hK.below hb h0) (Nat.lt_of_lt_of_le h0 hb.size)) A n c xs hx hs
end Go.Proofs.YtepjfkmbmcfnoaaDoor
