/-
  What is proved: SessionBack, of what came in. Conditions as stated.
-/
import Derived.Test.YtflenghnmflenaaDoorSu
import Derived.Test.YtflenghnmflenaaDoorSk
namespace Go.Proofs.YtflenghnmflenaaDoor
open Go.RowKit
theorem back_in (W : World) (hv : Vars W) (A : Option Addr) (n c : Nat) (h : ∃ qs : List MRq, qs.length = n ∧ Rqs W A qs) (hb : n ≤ 1099511627776) (a : Int) (ha : (Lit.int .u8 a).wf = true) : Calls Tryd.prog 7 #[.slice A n c, .int .u8 a] W fun E w' => E = .returned (.bool true) ∧ Below W.heap.size W w' := by
  obtain ⟨qs, rfl, hQ⟩ := h
  have h1 : 0 ≤ a ∧ a < 256 := by
    simp [Lit.wf, IntKind.min, IntKind.max, IntKind.signed, IntKind.bits] at ha
    omega
  obtain ⟨k, rfl⟩ : ∃ k : Nat, a = (k : Int) := ⟨a.toNat, by omega⟩
  exact back_walk hv A c qs hQ hb k (by omega)
end Go.Proofs.YtflenghnmflenaaDoor
