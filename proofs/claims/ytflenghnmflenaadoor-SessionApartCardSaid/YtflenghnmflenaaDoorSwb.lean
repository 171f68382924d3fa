/-
  What is proved: SessionApart, of what came in. Conditions as stated.
-/
import Derived.Test.YtflenghnmflenaaDoorSw
import Derived.Test.YtflenghnmflenaaDoorSkb
namespace Go.Proofs.YtflenghnmflenaaDoor
open Go.RowKit
theorem apart_in (W : World) (hv : Vars W) (A : Option Addr) (n c : Nat) (h : ∃ qs : List MRq, qs.length = n ∧ Rqs W A qs ∧ ∀ q ∈ qs, ∀ v ∈ q.tag, v.oneCell' = true) (hb : n ≤ 1099511627776) : Calls Tryd.prog 6 #[.slice A n c] W fun E w' => E = .returned (.bool true) ∧ Below W.heap.size W w' := by
  obtain ⟨qs, rfl, hQ, h1⟩ := h
  exact apart_walk hv A c qs hQ h1 hb
end Go.Proofs.YtflenghnmflenaaDoor
