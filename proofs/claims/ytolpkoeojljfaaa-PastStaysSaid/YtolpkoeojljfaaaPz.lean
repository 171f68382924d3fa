/-
  What is proved: PastStays's walk over what came in. Conditions as stated.
-/
import Derived.Test.YtolpkoeojljfaaaPy
namespace Go.Proofs.Ytolpkoeojljfaaa
open Go.RowKit
set_option maxRecDepth 100000

theorem stays_walk (W : World) (A : Option Addr) (n c : Nat) (h1 : ∃ xs : List MStep, n = xs.length ∧ Sts W A xs ∧ ∀ x ∈ xs, x.Wf) :
    Calls Try.prog 4 #[.slice A n c] W fun E W' => E = .returned (.bool true) ∧ Below W.heap.size W W' := by
  obtain ⟨xs, rfl, hx, hw⟩ := h1
  by_cases hn : xs.length > 200
  · have HW := Lib.hid ((works_any (Fr.start W)).mono fun E W'' (h : E = .returned (.bool true) ∧ Fr W W'' []) => (⟨h.1, h.2.bel⟩ : E = .returned (.bool true) ∧ Below W.heap.size W W''))
    have hn' : (xs.length : Int) > 200 := by omega
    clear hx hw hn
    generalize (xs.length) = n at hn' ⊢
    go_enter Try.func4, Try.ntmps4
    go_wp2_with (go_at_call 7; refine HW.out.mono ?_; rintro E w2 ⟨rfl, h⟩; have h2 := Lib.hid h; clear h)
    go_ret
    exact ⟨rfl, h2.out⟩
  · exact stays_by W A c xs hx hw hn
end Go.Proofs.Ytolpkoeojljfaaa
