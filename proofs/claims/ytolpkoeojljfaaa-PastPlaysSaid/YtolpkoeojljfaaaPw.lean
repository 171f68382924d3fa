/-
  What is proved: PastPlays' walk over what came in. Conditions as stated.
-/
import Derived.Test.YtolpkoeojljfaaaPv
namespace Go.Proofs.Ytolpkoeojljfaaa
open Go.RowKit
set_option maxRecDepth 100000

theorem plays_walk (W : World) (A : Option Addr) (n c : Nat) (h1 : ∃ xs : List MStep, n = xs.length ∧ Sts W A xs ∧ ∀ x ∈ xs, x.Wf) (v : Int) (hv : (Lit.int .u64 v).wf = true) :
    Calls Try.prog 3 #[.slice A n c, .int .u64 v] W fun E W' => E = .returned (.bool true) ∧ Below W.heap.size W W' := by
  obtain ⟨xs, rfl, hx, hw⟩ := h1
  have hb := wf_u64 hv
  obtain ⟨V, rfl⟩ : ∃ V : Nat, v = (V : Int) := ⟨v.toNat, by omega⟩
  by_cases hn : xs.length > 200
  · have HW := Lib.hid ((works_any (Fr.start W)).mono fun E W'' (h : E = .returned (.bool true) ∧ Fr W W'' []) => (⟨h.1, h.2.bel⟩ : E = .returned (.bool true) ∧ Below W.heap.size W W''))
    have hn' : (xs.length : Int) > 200 := by omega
    clear hx hw hn hv hb
    generalize (xs.length) = n at hn' ⊢
    go_enter Try.func3, Try.ntmps3
    go_wp2_with (go_at_call 7; refine HW.out.mono ?_; rintro E w2 ⟨rfl, h⟩; have h2 := Lib.hid h; clear h)
    go_ret
    exact ⟨rfl, h2.out⟩
  · exact plays_by W A c xs hx hw hn V (by omega)
end Go.Proofs.Ytolpkoeojljfaaa
