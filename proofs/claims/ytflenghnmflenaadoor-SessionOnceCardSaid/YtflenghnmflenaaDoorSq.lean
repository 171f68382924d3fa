/-
  What is proved: SessionOnce, of what came in. Conditions as stated.
-/
import Derived.Test.YtflenghnmflenaaDoorSo
import Derived.Test.YtflenghnmflenaaDoorSk
namespace Go.Proofs.YtflenghnmflenaaDoor
open Go.RowKit
theorem once_in (W : World) (hv : Vars W) (A : Option Addr) (n c : Nat) (h : ∃ qs : List MRq, qs.length = n ∧ Rqs W A qs) (hb : n ≤ 1099511627776) : Calls Tryd.prog 4 #[.slice A n c] W fun E w' => E = .returned (.bool true) ∧ Below W.heap.size W w' := by
  obtain ⟨qs, rfl, hQ⟩ := h
  exact once_walk hv A c qs hQ hb
end Go.Proofs.YtflenghnmflenaaDoor
