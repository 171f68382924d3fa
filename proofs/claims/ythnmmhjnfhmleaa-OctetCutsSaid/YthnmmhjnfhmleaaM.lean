/-
  What is proved: the walk of OctetBack. Conditions as stated.
-/
import Derived.Test.YthnmmhjnfhmleaaL
namespace Go.Proofs.Ythnmmhjnfhmleaa
open Go.RowKit

theorem Its.below {w w' : World} {A : Option Addr} {n : Nat} {its : List It} (h : Its w A n its) (hb : Below w.heap.size w w') : Its w' A n its := by
  refine ⟨h.1, fun hn => ?_⟩
  obtain ⟨b, o, hA, hlt, hc⟩ := h.2 hn
  refine ⟨b, o, hA, Nat.lt_of_lt_of_le hlt hb.size, fun j x hx => ?_⟩
  obtain ⟨h0, h1, h2, h3⟩ := hc j x hx
  exact ⟨(hb.cell (p := ⟨b, _, none⟩) hlt).trans h0, (hb.cell (p := ⟨b, _, none⟩) hlt).trans h1, (hb.cell (p := ⟨b, _, none⟩) hlt).trans h2, h3⟩

theorem Its.lt {w : World} {A : Option Addr} {n : Nat} {its : List It} (h : Its w A n its) : 0 < n → ∀ ad, A = some ad → ad.block < w.heap.size := by
  intro hp ad had
  obtain ⟨b, o, hA, hlt, _⟩ := h.2 hp
  rw [hA] at had
  cases had
  exact hlt

theorem take_snoc_it {its : List It} {j : Nat} {x : It} (h : its[j]? = some x) : encAll (its.take (j + 1)) = encAll (its.take j) ++ x.enc := by
  rw [List.take_add_one, h]; exact encAll_snoc _ _

/-- The texts of the first items are short. -/
def Short (its : List It) (j : Nat) : Prop := ∀ x ∈ its.take j, x.s.size ≤ 2048

theorem Short.snoc {its : List It} {j : Nat} {x : It} (h : Short its j) (hx : its[j]? = some x) (hs : x.s.size ≤ 2048) : Short its (j + 1) := by
  unfold Short at *
  rw [List.take_add_one, hx]
  intro y hy
  rcases List.mem_append.1 hy with hy | hy
  · exact h y hy
  · simp at hy; subst hy; exact hs

theorem Short.len {its : List It} {j n m : Nat} (h : Short its j) (hm : (encAll (its.take j)).length = m) (hn : its.length = n) (h60 : n ≤ 60) : m ≤ 123000 := by
  have := encAll_len _ h
  rw [List.length_take] at this
  have h2 : min j its.length ≤ 60 := by omega
  have := Nat.mul_le_mul_right 2050 h2
  omega

theorem own_sl {w : World} {B n c : Nat} {A : Option Addr} {xs : List Value} (h : w.ownsRow B 5 1 (.slice A n c) n xs) : Sl A n c := by
  obtain ⟨A', c', he, hs⟩ := own_shape h
  cases he
  exact hs

theorem Its.ok {w : World} {A : Option Addr} {n : Nat} {its : List It} (h : Its w A n its) (hs : Short its n) : ∀ x ∈ its, x.ok := by
  intro x hx
  have hs2 : x.s.size ≤ 2048 := hs x (by rw [List.take_of_length_le (by rw [h.1]; exact Nat.le_refl _)]; exact hx)
  obtain ⟨j, hj, hjx⟩ := List.mem_iff_getElem.1 hx
  obtain ⟨b, o, y, _, hy, _, _, _, _, _, hn, _⟩ := h.at_ (j := j) (by rw [← h.1]; exact hj)
  rw [List.getElem?_eq_getElem hj, hjx] at hy
  cases hy
  exact ⟨hn, by omega⟩

theorem cuts_yes {lo : Nat} (g : Nat) (rest : List UInt8) (A : Option Addr) (n c : Nat) (its : List It) (w : World) (h : CutAt w lo g (encAll its ++ rest) false) (hi : Its w A n its) (hA : 0 < n → ∀ ad, A = some ad → ad.block < lo) (hlo : lo ≤ g) (hn : n ≤ 1000) (hok : ∀ x ∈ its, x.ok) :
    Calls Try.prog 29 #[.pointer (some ⟨g, 0, none⟩), .slice A n c] w fun e w' => e = .returned (.bool true) ∧ CutAt w' lo g rest false ∧ w.grownBy w' (some g) := by
  have h1 := cutAll_enc its rest hok
  refine (cuts_any g _ A n c its w h hi hA hlo hn).mono fun e w' ⟨he, hc, hg⟩ => ⟨?_, hc _ h1, hg⟩
  rw [he, h1]; rfl

theorem cuts_no {lo : Nat} (g : Nat) (A : Option Addr) (n c : Nat) (its : List It) (w : World) (h : CutAt w lo g (encAll its).dropLast false) (hi : Its w A n its) (hA : 0 < n → ∀ ad, A = some ad → ad.block < lo) (hlo : lo ≤ g) (hn : n ≤ 1000) (hok : ∀ x ∈ its, x.ok) (hne : encAll its ≠ []) :
    Calls Try.prog 29 #[.pointer (some ⟨g, 0, none⟩), .slice A n c] w fun e w' => e = .returned (.bool false) ∧ w.grownBy w' (some g) := by
  have h1 := cutAll_less its hok hne
  refine (cuts_any g _ A n c its w h hi hA hlo hn).mono fun e w' ⟨he, _, hg⟩ => ⟨?_, hg⟩
  rw [he, h1]; rfl

theorem left_none {lo : Nat} (g : Nat) (w : World) (h : CutAt w lo g [] false) :
    Calls Try.prog 27 #[.pointer (some ⟨g, 0, none⟩)] w fun e w' => e = .returned (.int .i64 0) ∧ ∃ q, w' = w.drewN q := left_any g [] false w h

set_option maxHeartbeats 4000000 in
theorem octetBack_any (A : Option Addr) (n c : Nat) (its : List It) (w : World) (hi : Its w A n its) (hn : n ≤ 60) :
    Calls Try.prog 5 #[.slice A n c] w fun e w' => e = .returned (.bool true) ∧ Below w.heap.size w w' := by
  have HI : Hid (Its w A n its) := hi
  have HA := Lib.hid hi.lt
  clear hi
  go_enter Try.func5, Try.ntmps5
  go_wp2
  go_loopw [3, 4] (fun v i wr => ∃ (j m c' : Nat) (A' : Option Addr), j ≤ n ∧ i = .int .i64 j ∧ v = .slice A' m c' ∧ Hid (Rd wr A' m (encAll (its.take j)) ∧ Sl A' m c') ∧ Hid (Short its j) ∧ Below w.heap.size w wr) (fun _ i _ => n - (intOf i).toNat)
  case atStart => exact ⟨0, 0, 0, none, Nat.zero_le _, rfl, rfl, ⟨Rd.nil w, ⟨fun _ => ⟨rfl, rfl⟩, Nat.le_refl _, by omega⟩⟩, (fun x hx => by simp at hx), Below.refl _ _⟩
  case round =>
    obtain ⟨j, m, c', A', hj, rfl, rfl, HR, HS, hb⟩ := hrel
    have hm : m ≤ 123000 := HS.out.len HR.out.1.1 HI.out.1 hn
    by_cases hlt : j < n
    · obtain ⟨b, o, x, rfl, hx, hbw, h0, h1, h2, hk, hxn, hxs⟩ := (HI.out.below hb).at_ hlt
      have HX := Lib.hid hx
      clear hx
      by_cases hs : x.s.size ≤ 2048
      · by_cases k0 : x.k % 3 = 0
        · go_wp2_with (go_at_call 12; go_must (refine (word_any A' m c' _ x.n wr HR.out.1 (by omega)).mono ?_); rintro e w1 ⟨g, c1, rfl, ho, hb1⟩)
          go_roundw
          case rel => exact ⟨j + 1, m + 8, c1, _, by omega, by go_num, rfl, ⟨by rw [take_snoc_it HX.out, It.enc, if_pos k0]; exact Rd.of_own ho, (own_sl ho)⟩, HS.out.snoc HX.out hs, hb.trans (hb1.mono hb.size)⟩
          case measure => simp [intOf]; omega
        · by_cases k1 : x.k % 3 = 1
          · obtain ⟨z, hz⟩ : ∃ z : Nat, z = x.n % 65536 := ⟨_, rfl⟩
            have hw : IntKind.u16.wrap (x.n : Int) = (z : Int) := by rw [IntKind.wrap_u16]; omega
            have HZ := Lib.hid hz
            clear hz
            go_wp2_with (go_at_call 14; go_must (refine (half_any A' m c' _ z wr HR.out.1 (by omega)).mono ?_); rintro e w1 ⟨g, c1, rfl, ho, hb1⟩)
            go_roundw
            case rel => exact ⟨j + 1, m + 2, c1, _, by omega, by go_num, rfl, ⟨by rw [take_snoc_it HX.out, It.enc, if_neg k0, if_pos k1, ← HZ.out]; exact Rd.of_own ho, (own_sl ho)⟩, HS.out.snoc HX.out hs, hb.trans (hb1.mono hb.size)⟩
            case measure => simp [intOf]; omega
          · go_wp2_with (go_at_call 10; go_must (refine (text_ok A' m c' _ x.s wr HR.out.1 (by omega) (by omega)).mono ?_); rintro e w1 ⟨A1, c1, rfl, ho, hsl, hb1⟩)
            go_roundw
            case rel => exact ⟨j + 1, m + 2 + x.s.size, c1, A1, by omega, by go_num, rfl, ⟨by rw [take_snoc_it HX.out, It.enc, if_neg k0, if_neg k1, ← List.append_assoc]; exact Rd.of_own ho, hsl⟩, HS.out.snoc HX.out hs, hb.trans (hb1.mono hb.size)⟩
            case measure => simp [intOf]; omega
      · go_wp2_with (go_at_call 9; go_must (refine (works_any wr).mono ?_); rintro e w1 ⟨rfl, hb1⟩)
        go_ret
        exact ⟨rfl, hb.trans (hb1.mono hb.size)⟩
    · obtain rfl : j = n := by omega
      have ht : its.take j = its := List.take_of_length_le (by rw [HI.out.1]; exact Nat.le_refl _)
      rw [ht] at HR
      have hok := HI.out.ok HS.out
      have HOK := Lib.hid hok
      have HAw : Hid (0 < j → ∀ ad, A = some ad → ad.block < wr.heap.size) := fun hp ad had => Nat.lt_of_lt_of_le (HA.out hp ad had) hb.size
      have HIr : Hid (Its wr A j its) := HI.out.below hb
      clear ht hok hlt hj HS
      by_cases hm0 : m = 0
      · subst hm0
        go_wp2_with (first
          | (go_at_call 16; refine (new_any A' 0 c' _ wr HR.out.1 HR.out.2 (by omega)).mono ?_; rintro e w1 ⟨g, rfl, hg, hc1, hb1⟩)
          | (go_at_call 29; refine (cuts_yes g [] A j c its w1 (by rw [List.append_nil]; exact hc1) (HIr.out.below hb1) HAw.out hg (by omega) HOK.out).mono ?_; rintro e w2 ⟨rfl, hc2, hg2⟩; have hb2 := hb1.grown hg2 hb1.size (fun k hk => by cases hk; exact hg))
          | (go_at_call 27; refine (left_none g w2 hc2).mono ?_; rintro e w3 ⟨rfl, q, rfl⟩)
          | (go_at_call 9; refine (works_any _).mono ?_; rintro e w4 ⟨rfl, hb4⟩))
        go_ret
        exact ⟨rfl, hb.trans (((below_drewN hb2 q).trans (hb4.mono hb2.size)).mono hb.size)⟩
      · have HNE : Hid (encAll its ≠ []) := fun h => by have := HR.out.1.1; rw [h] at this; simp at this; omega
        have hm1 : 0 < m := by omega
        have hmc : m ≤ c' := HR.out.2.2.1
        have hmc2 : c' ≤ 9223372036854775807 := HR.out.2.2.2
        clear hm0
        go_wp2_with (first
          | (go_at_call 16; refine (new_any A' m c' _ wr HR.out.1 HR.out.2 (by omega)).mono ?_; rintro e w1 ⟨g, rfl, hg, hc1, hb1⟩)
          | (go_at_call 29; refine (cuts_yes g [] A j c its w1 (by rw [List.append_nil]; exact hc1) (HIr.out.below hb1) HAw.out hg (by omega) HOK.out).mono ?_; rintro e w2 ⟨rfl, hc2, hg2⟩; have hb2 := hb1.grown hg2 hb1.size (fun k hk => by cases hk; exact hg))
          | (go_at_call 27; refine (left_none g w2 hc2).mono ?_; rintro e w3 ⟨rfl, q, rfl⟩))
        have hb3 : Below wr.heap.size wr (w2.drewN q) := below_drewN hb2 q
        have HR3 : Hid (Rd (w2.drewN q) A' (m - 1) (encAll its).dropLast) := by
          have h1 := (HR.out.1.below hb3).take (k := m - 1) (by omega)
          have h2 : (encAll its).take (m - 1) = (encAll its).dropLast := by rw [List.dropLast_eq_take, HR.out.1.1]
          rw [h2] at h1
          exact h1
        have HS3 : Sl A' (m - 1) c' := ⟨fun h => by have := HR.out.2.1 h; omega, by omega, by omega⟩
        refine (new_any A' (m - 1) c' _ (w2.drewN q) HR3.out HS3 (by omega)).mono ?_
        rintro e w5 ⟨g5, rfl, hg5, hc5, hb5⟩
        have hb35 := hb3.trans (hb5.mono hb3.size)
        have hle : wr.heap.size ≤ g5 := Nat.le_trans hb3.size hg5
        go_wp2_with (first
          | (go_at_call 29; refine (cuts_no g5 A j c its w5 hc5 (HIr.out.below hb35) (fun hp ad had => Nat.lt_of_lt_of_le (HAw.out hp ad had) hb3.size) hg5 (by omega) HOK.out HNE.out).mono ?_; rintro e w6 ⟨rfl, hg6⟩; have hb36 := hb35.grown hg6 hb35.size (fun k hk => by cases hk; exact hle))
          | (go_at_call 9; refine (works_any _).mono ?_; rintro e w7 ⟨rfl, hb7⟩))
        go_ret
        exact ⟨rfl, hb.trans ((hb36.trans (hb7.mono hb36.size)).mono hb.size)⟩

theorem octetBack_more (A : Option Addr) (n c : Nat) (w : World) (hn : 60 < n) (hm : n ≤ 9223372036854775807) :
    Calls Try.prog 5 #[.slice A n c] w fun e w' => e = .returned (.bool true) ∧ Below w.heap.size w w' := by
  go_enter Try.func5, Try.ntmps5
  go_wp2_with (go_at_call 9; refine (works_any _).mono ?_; rintro e w7 ⟨rfl, hb7⟩)
  go_ret
  exact ⟨rfl, hb7⟩

end Go.Proofs.Ythnmmhjnfhmleaa
