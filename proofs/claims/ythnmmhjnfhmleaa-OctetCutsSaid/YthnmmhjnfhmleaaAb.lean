/-
  What is proved: the walk of OctetCuts for whatever comes in. No condition but that it was read.
-/
import Derived.Test.YthnmmhjnfhmleaaZ
import Derived.Test.YthnmmhjnfhmleaaAa
namespace Go.Proofs.Ythnmmhjnfhmleaa
open Go.RowKit

set_option maxRecDepth 100000 in
theorem octetCuts_more (A L : Option Addr) (n c m d : Nat) (w : World) (h : 4096 < n ∨ n ≤ 4096 ∧ 200 < m) :
    Calls Try.prog 4 #[.slice A n c, .slice L m d] w fun e w' => e = .returned (.bool true) ∧ Below w.heap.size w w' := by
  rcases h with h | ⟨h, h2⟩
  · go_enter Try.func4, Try.ntmps4
    go_wp2_with (go_at_call 9; refine (works_any _).mono ?_; rintro e w7 ⟨rfl, hb7⟩)
    go_ret
    exact ⟨rfl, hb7⟩
  · go_enter Try.func4, Try.ntmps4
    go_wp2_with (go_at_call 9; refine (works_any _).mono ?_; rintro e w7 ⟨rfl, hb7⟩)
    go_ret
    exact ⟨rfl, hb7⟩

theorem octetCuts_walk (w : World) (A : Option Addr) (n c : Nat) (h : (∃ bs, Rd w A n bs ∧ Sl A n c) ∧ (0 < n → ∀ ad, A = some ad → ad.block < w.heap.size)) (L : Option Addr) (m d : Nat)
    (h2 : ∃ (ks : List (Nat × Int)), ks.length = m ∧ (0 < m → ∃ b o, L = some ⟨b, o, none⟩ ∧ b < w.heap.size ∧ ∀ j x, ks[j]? = some x →
      w.cell? ⟨b, o + j * 2, none⟩ = some (.int .u8 (x.1 : Int)) ∧ w.cell? ⟨b, o + j * 2 + 1, none⟩ = some (.int .i64 x.2) ∧ x.1 < 256)) :
    Calls Try.prog 4 #[.slice A n c, .slice L m d] w fun e w' => e = .returned (.bool true) ∧ Below w.heap.size w w' := by
  obtain ⟨⟨bs, hr, hs⟩, hA⟩ := h
  obtain ⟨ks, hk, hc⟩ := h2
  have hst : Sts w L m (ks.map fun x => ⟨x.1, x.2⟩) := by
    refine ⟨by rw [List.length_map]; exact hk, fun hp => ?_⟩
    obtain ⟨b, o, hL, hb, hcell⟩ := hc hp
    refine ⟨b, o, hL, hb, fun j x hj => ?_⟩
    rw [List.getElem?_map] at hj
    obtain ⟨y, hy, rfl⟩ := Option.map_eq_some_iff.1 hj
    exact hcell j y hy
  by_cases h1 : n ≤ 4096
  · by_cases h2 : m ≤ 200
    · exact octetCuts_any A L n c m d bs _ w hr hs hA hst h1 h2
    · exact octetCuts_more A L n c m d w (.inr ⟨h1, by omega⟩)
  · exact octetCuts_more A L n c m d w (.inl (by omega))

end Go.Proofs.Ythnmmhjnfhmleaa
