/-
  What is proved: what TagNoughts answers, whatever comes in. Conditions as stated.
-/
import Derived.Test.YtfmmldpemdodkaaDoorWe
namespace Go.Proofs.YtfmmldpemdodkaaDoor
open Go.RowKit

theorem noughts_big (m : Int) (A : Option Addr) (n c : Nat) (A' : Option Addr) (n' c' : Nat) (w : World) (hW : Works) (hk : KIs w) (h0 : 0 < w.heap.size) (h : 200 < n ∨ n ≤ 200 ∧ 1024 < n') :
    Calls Tryd.prog 6 #[.slice A n c, .slice A' n' c', .int .u8 m] w fun E w' => E = .returned (.bool true) ∧ Below w.heap.size w w' := by
  have HK := Lib.hid hk
  have HW := Lib.hid hW
  clear hk hW
  rcases h with h1 | ⟨h1, h2⟩
  all_goals
    go_enter Tryd.func6, Tryd.ntmps6
    go_wp2_with (first
      | (go_at_call 8; refine (HW.out w HK.out h0).mono ?_; rintro E w4 ⟨rfl, hb4⟩))
    go_ret
    exact ⟨rfl, hb4⟩

theorem hmac_short (key b : List UInt8) : hmac (shortOf key) b = hmac key b := by
  have := hmac_noughts key b 0 (by have := shortOf_length key; omega)
  simpa using this

theorem tagNoughts_all (W : World) (hk : KIs W) (h0 : 0 < W.heap.size) (A : Option Addr) (n c : Nat) (h : ∃ bs, Rd (fun _ => True) W A n bs ∧ Sl A n c) (A' : Option Addr) (n' c' : Nat) (h' : ∃ bs, Rd (fun _ => True) W A' n' bs ∧ Sl A' n' c') (a : Int) (ha : (Lit.int .u8 a).wf = true) :
    Calls Tryd.prog 6 #[.slice A n c, .slice A' n' c', .int .u8 a] W fun E w' => E = .returned (.bool true) ∧ Below W.heap.size W w' := by
  obtain ⟨key, hr, hs⟩ := h
  obtain ⟨b, hr', hs'⟩ := h'
  obtain ⟨m, rfl⟩ := u8_of ha
  have hm := m.toNat_lt
  by_cases hbig : 200 < n ∨ n ≤ 200 ∧ 1024 < n'
  · exact noughts_big _ A n c A' n' c' W works_any hk h0 hbig
  · obtain rfl : key.length = n := hr.1
    have hsl := shortOf_length key
    refine noughts_by key (shortOf key) b (sumOf key) (hmac key b) m.toNat A key.length c A' n' c' W (by omega) (by omega) (by omega) (hmac_length _ _) (sumOf_length _) (shortOf key).length rfl hsl hr hs hr' works_any hk h0 ?_
      (fun A c w hr hs hk h0 => sum_any key A c w hr hs (by omega) hk h0) (fun j A c w hj hr hs hr' hk h0 => ?_) (fun w hr hr' hk h0 => of_any key b A _ c A' n' c' w hr hs hr' hs' (by omega) (by omega) hk h0)
    · by_cases h64 : 64 < key.length
      · exact .inr ⟨h64, if_pos h64⟩
      · exact .inl ⟨by omega, if_neg h64⟩
    · have := of_any (shortOf key ++ List.replicate j 0) b A _ c A' n' c' w hr hs hr' hs' (by omega) (by omega) hk h0
      rwa [hmac_noughts key b j hj] at this
end Go.Proofs.YtfmmldpemdodkaaDoor
