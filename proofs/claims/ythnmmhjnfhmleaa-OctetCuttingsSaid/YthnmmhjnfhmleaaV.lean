/-
  What is proved: the walk of OctetCuttings for whatever comes in. No condition but that it was read.
-/
import Derived.Test.YthnmmhjnfhmleaaS
import Derived.Test.YthnmmhjnfhmleaaU
namespace Go.Proofs.Ythnmmhjnfhmleaa
open Go.RowKit

set_option maxRecDepth 100000 in
theorem octetCuttings_more (A D : Option Addr) (n c at_ m d : Nat) (w : World) (h : 40 < n ∨ n ≤ 40 ∧ 500 < m) :
    Calls Try.prog 8 #[.slice A n c, .int .u8 at_, .slice D m d] w fun e w' => e = .returned (.bool true) ∧ Below w.heap.size w w' := by
  rcases h with h | ⟨h, h2⟩
  · go_enter Try.func8, Try.ntmps8
    go_wp2_with (go_at_call 9; refine (works_any _).mono ?_; rintro e w7 ⟨rfl, hb7⟩)
    go_ret
    exact ⟨rfl, hb7⟩
  · go_enter Try.func8, Try.ntmps8
    go_wp2_with (go_at_call 9; refine (works_any _).mono ?_; rintro e w7 ⟨rfl, hb7⟩)
    go_ret
    exact ⟨rfl, hb7⟩

theorem octetCuttings_walk (w : World) (A : Option Addr) (n c : Nat) (h : (∃ its, Its w A n its) ∧ n ≤ c ∧ c ≤ 9223372036854775807) (a : Int) (wa : (Lit.int .u8 a).wf = true) (D : Option Addr) (m d : Nat) (h2 : ∃ bs, Rd w D m bs ∧ Sl D m d) :
    Calls Try.prog 8 #[.slice A n c, .int .u8 a, .slice D m d] w fun e w' => e = .returned (.bool true) ∧ Below w.heap.size w w' := by
  have ba := bounds_u8 wa
  obtain ⟨a, rfl⟩ : ∃ k : Nat, a = (k : Int) := ⟨a.toNat, by omega⟩
  obtain ⟨⟨its, hi⟩, hnc, hcm⟩ := h
  obtain ⟨bs, hr, hs⟩ := h2
  by_cases h1 : n ≤ 40
  · by_cases h2 : m ≤ 500
    · exact octetCuttings_any A D n c a m d its bs w hi hr hs h1 hnc hcm h2 (by omega)
    · exact octetCuttings_more A D n c a m d w (.inr ⟨h1, by omega⟩)
  · exact octetCuttings_more A D n c a m d w (.inl (by omega))

end Go.Proofs.Ythnmmhjnfhmleaa
