/-
  What is proved: what Text and Byte of octet do. Conditions as stated.
-/
import Derived.Test.YtghjogneogkpoaaGreatDoorK5
namespace Go.Proofs.YtghjogneogkpoaaGreatDoor.Oct
open Go.RowKit

set_option maxRecDepth 1000000 in
theorem len64_u8 (w : World) : Calls Tryz.prog 114 #[.int .u64 255] w fun e w' => e = .returned (.int .i64 8) ∧ w = w' := by
  go_enter Tryz.func114, Tryz.ntmps114
  go_wp2
  go_ret
  exact ⟨by kernel_rfl, rfl⟩

theorem w1_any (w : World) : Calls Tryz.prog 118 #[] w fun e w' => e = .returned (.int .i64 1) ∧ w = w' := by
  go_enter Tryz.func118, Tryz.ntmps118
  go_wp2_with (go_at_call 114; refine (len64_u8 _).mono ?_; rintro e w' ⟨rfl, rfl⟩)
  go_ret
  exact ⟨rfl, rfl⟩

theorem text_many (v : Value) (s : ByteArray) (w : World) (hs : 65535 < s.size) (hm : s.size ≤ 140737488355328) :
    Calls Tryz.prog 113 #[v, .string s] w fun e w' => e = .returned (.tuple #[.slice none 0 0, .int .i64 6]) ∧ w = w' := by
  go_enter Tryz.func113, Tryz.ntmps113
  go_wp2
  go_ret2
  exact ⟨rfl, rfl⟩

theorem text_ok (A : Option Addr) (n c : Nat) (bs : List UInt8) (s : ByteArray) (w : World) (hr : Rd w A n bs) (hn : n ≤ 140737488289790) (hs : s.size ≤ 65535) :
    Calls Tryz.prog 113 #[.slice A n c, .string s] w fun e w' => ∃ A' c', e = .returned (.tuple #[.slice A' (n + 2 + s.size) c', .int .i64 0]) ∧
      w'.ownsRow w.heap.size 5 1 (.slice A' (n + 2 + s.size) c') (n + 2 + s.size) (u8s (bs ++ be 2 s.size ++ s.data.toList)) ∧ Sl A' (n + 2 + s.size) c' ∧ Below w.heap.size w w' := by
  obtain ⟨i0, hi, hz0, hz1, hz2⟩ := info_parts Tryz.info5
  have hso : ¬ ((s.size : Int) > 65535) := by omega
  have hsn : ¬ (65535 < s.size) := by omega
  have hsm : ¬ ((65535 : Int) < (s.size : Int)) := by omega
  have hw : (s.size : Int) % 65536 = (s.size : Int) := by omega
  go_enter Tryz.func113, Tryz.ntmps113
  go_wp2_with (first
    | (go_at_call 123; refine (put16_any A n c bs s.size w hr (by omega)).mono ?_; rintro e w' ⟨rfl, ho, hb⟩)
    | (at_builtin; go_must (refine Lib.wpList_append_own_string _ rfl (.tmp 13) (.tmp 14) 38 9 rfl w.heap.size 5 i0 Tryz.underlying38 Tryz.underlying9 hi hz0 hz1 hz2 _ (n + 2) _ rfl ho s rfl (by unfold maxLen; omega) (by omega) hb.size ?_); intro v' w2 hv2 hg2 _; obtain ⟨A', c', rfl, hsl⟩ := own_shape hv2))
  go_ret2
  refine ⟨_, _, rfl, ?_, hsl, hb.grown hg2 hb.size (fun k hk => by cases hk; exact Nat.le_refl _)⟩
  rw [u8s_append]
  exact hv2

theorem num_wrap8 (rem : List UInt8) (sp : Bool) : ((num (tkOut rem sp 1) : Nat) : Int) % 256 = (num (tkOut rem sp 1) : Int) := by
  have h : num (tkOut rem sp 1) < 256 ^ 1 := num_out_lt rem sp 1
  omega

set_option maxHeartbeats 400000 in
theorem cutNumber8 {lo : Nat} (g : Nat) (rem : List UInt8) (sp : Bool) (w : World) (h : CutAt w lo g rem sp) :
    Calls Tryz.prog 101 #[.func (.func 74) #[.pointer (some ⟨g, 0, none⟩)] #[]] w fun e w' => e = .returned (.int .u8 (num (tkOut rem sp 1))) ∧
      CutAt w' lo g (tkRem rem sp 1) (!fits rem sp 1) ∧ w.grownBy w' (some g) := by
  have HB := Lib.hid (num_wrap8 rem sp)
  go_enter Tryz.func101, Tryz.ntmps101
  go_wp2_with (first
    | (go_at_call 118; refine (w1_any _).mono ?_; rintro e w1 ⟨rfl, rfl⟩)
    | (go_at_call 74; refine (take_open g rem sp 1 w h).mono ?_; rintro e w1 ⟨A', m, c', rfl, hh, hc, hg⟩))
  go_loop [3, 10] (fun v i => ∃ j : Nat, j ≤ m ∧ i = .int .i64 j ∧ v = .int .u64 (num ((tkOut rem sp 1).take j))) (fun _ i => m - (intOf i).toNat)
  case atStart => exact ⟨0, Nat.zero_le _, rfl, rfl⟩
  case round =>
    obtain ⟨j, hj, rfl, rfl⟩ := hrel
    by_cases hlt : j < m
    · obtain ⟨b, o, u, rfl, hu, hcell, hm8⟩ := round_at (K := 1) hh hlt (by decide)
      have hnum := num_take_lt (out := tkOut rem sp 1) hm8 hlt
      have hstep := num_step (out := tkOut rem sp 1) hu.out hlt
      obtain ⟨q, hq⟩ : ∃ q, q = num ((tkOut rem sp 1).take j) := ⟨_, rfl⟩
      have hor := or_step q u (by rw [hq]; exact hnum)
      rw [← hq] at hnum ⊢
      have HQ := Lib.hid hq
      have HS := Lib.hid hstep
      have HO := Lib.hid hor
      clear hq hstep hor
      go_wp2
      go_round
      case rel => exact ⟨j + 1, by omega, by go_num, by rw [HO.out, HS.out, HQ.out]⟩
      case measure => simp [intOf]; omega
    · have HA := Lib.hid (num_all hh (Nat.le_of_not_lt hlt))
      go_wp2
      go_ret
      exact ⟨by first | (rw [HA.out]; done) | (rw [HA.out]; rfl) | (rw [HA.out, HB.out]; done) | (rw [HA.out, HB.out]; rfl), hc, hg⟩

theorem byte_cut {lo : Nat} (g : Nat) (rem : List UInt8) (sp : Bool) (w : World) (h : CutAt w lo g rem sp) :
    Calls Tryz.prog 75 #[.pointer (some ⟨g, 0, none⟩)] w fun e w' => e = .returned (.int .u8 (num (tkOut rem sp 1))) ∧
      CutAt w' lo g (tkRem rem sp 1) (!fits rem sp 1) ∧ w.grownBy w' (some g) := by
  go_enter Tryz.func75, Tryz.ntmps75
  go_wp2_with (go_at_call 101; refine (cutNumber8 g rem sp w h).mono ?_; rintro e w1 ⟨rfl, hc, hg⟩)
  go_ret
  exact ⟨rfl, hc, hg⟩

/-- How many bytes a text has with its length, or -1. -/
def tsz (rem : List UInt8) (most : Int) : Int := if fits rem false 2 = true ∧ (num (tkOut rem false 2) : Int) ≤ most then 2 + (num (tkOut rem false 2) : Int) else -1

theorem num2_lt (rem : List UInt8) (sp : Bool) : num (tkOut rem sp 2) < 65536 := num_out_lt rem sp 2

theorem local_cut {A : Option Addr} {n c : Nat} {rem : List UInt8} {w : World} (hr : Rd w A n rem) (hs : Sl A n c) (hn : n ≤ 140737488355328) (hA : ∀ ad, A = some ad → ad.block < w.heap.size) :
    CutAt (w.alloc (.cells #[.slice A n c, .int .i64 0, .bool false] 94)) 0 w.heap.size rem false :=
  ⟨A, n, c, 0, rem, heap_alloc_new w _, hr.below ((Below.refl _ _).alloc (Nat.le_refl _) _), hs, Nat.zero_le _, hn, by simp, fun ad had => ⟨Nat.zero_le _, hA ad had⟩⟩

theorem textSize_any (A : Option Addr) (n c : Nat) (rem : List UInt8) (most : Int) (w : World) (hr : Rd w A n rem) (hs : Sl A n c) (hn : n ≤ 140737488355328) (hA : ∀ ad, A = some ad → ad.block < w.heap.size) :
    Calls Tryz.prog 134 #[.slice A n c, .int .i64 most] w fun e w' => e = .returned (.int .i64 (tsz rem most)) ∧ Below w.heap.size w w' := by
  have hcut := local_cut hr hs hn hA
  have HB : Hid (Below w.heap.size w (w.alloc (.cells #[.slice A n c, .int .i64 0, .bool false] 94))) := (Below.refl _ _).alloc (Nat.le_refl _) _
  have hhalf := half_cut w.heap.size rem false _ hcut
  have HT : Hid (tsz rem most = if fits rem false 2 = true ∧ (num (tkOut rem false 2) : Int) ≤ most then 2 + (num (tkOut rem false 2) : Int) else -1) := rfl
  have hq2 := num2_lt rem false
  obtain ⟨q, hq⟩ : ∃ q, q = num (tkOut rem false 2) := ⟨_, rfl⟩
  rw [← hq] at hhalf HT hq2
  obtain ⟨t, ht⟩ : ∃ t, t = tsz rem most := ⟨_, rfl⟩
  rw [← ht] at HT ⊢
  obtain ⟨f, hf⟩ : ∃ f, f = fits rem false 2 := ⟨_, rfl⟩
  rw [← hf] at hhalf HT
  have HH := Lib.hid hhalf
  clear ht hf hq hcut hhalf hr hs hA
  cases f with
  | false =>
    obtain rfl : t = -1 := by rw [HT.out, if_neg (by simp)]
    clear HT
    go_enter Tryz.func134, Tryz.ntmps134
    go_wp2_with (first
      | (go_at_call 137; refine HH.out.mono ?_; rintro e w1 ⟨rfl, hc, hg⟩)
      | (go_at_call 78; refine (ok_any _ _ _ _ hc).mono ?_; rintro e w2 ⟨rfl, rfl⟩))
    go_ret
    exact ⟨rfl, HB.out.grown hg (by simp) (fun k hk => by cases hk; exact Nat.le_refl _)⟩
  | true =>
    by_cases hm : (q : Int) ≤ most
    · obtain rfl : t = 2 + (q : Int) := by rw [HT.out, if_pos ⟨rfl, hm⟩]
      clear HT
      go_enter Tryz.func134, Tryz.ntmps134
      go_wp2_with (first
        | (go_at_call 137; refine HH.out.mono ?_; rintro e w1 ⟨rfl, hc, hg⟩)
        | (go_at_call 78; refine (ok_any _ _ _ _ hc).mono ?_; rintro e w2 ⟨rfl, rfl⟩))
      go_ret
      exact ⟨rfl, HB.out.grown hg (by simp) (fun k hk => by cases hk; exact Nat.le_refl _)⟩
    · obtain rfl : t = -1 := by rw [HT.out, if_neg (fun h => hm h.2)]
      clear HT
      go_enter Tryz.func134, Tryz.ntmps134
      go_wp2_with (first
        | (go_at_call 137; refine HH.out.mono ?_; rintro e w1 ⟨rfl, hc, hg⟩)
        | (go_at_call 78; refine (ok_any _ _ _ _ hc).mono ?_; rintro e w2 ⟨rfl, rfl⟩))
      go_ret
      exact ⟨rfl, HB.out.grown hg (by simp) (fun k hk => by cases hk; exact Nat.le_refl _)⟩

theorem cutText_any {lo : Nat} (g : Nat) (rem : List UInt8) (sp : Bool) (k : Int) (w : World) (h : CutAt w lo g rem sp) :
    Calls Tryz.prog 133 #[.func (.func 74) #[.pointer (some ⟨g, 0, none⟩)] #[], .int .i64 k] w fun e w' => e = .returned (.string (str ((tkOut rem sp k).drop 2))) ∧
      CutAt w' lo g (tkRem rem sp k) (!fits rem sp k) ∧ w.grownBy w' (some g) := by
  have HT := Lib.hid (take_open g rem sp k w h)
  obtain ⟨out, ho⟩ : ∃ out, out = tkOut rem sp k := ⟨_, rfl⟩
  rw [← ho] at HT ⊢
  have hlen : out.length ≤ 140737488355328 := by rw [ho]; exact Nat.le_trans (tkOut_len _ _ _) h.len
  clear ho h
  by_cases hl : out.length < 2
  · have hd : out.drop 2 = [] := List.drop_of_length_le (by omega)
    rw [hd]
    clear hd
    go_enter Tryz.func133, Tryz.ntmps133
    go_wp2_with (go_at_call 74; refine HT.out.mono ?_; rintro e w1 ⟨A', m, c', rfl, hh, hc, hg⟩; have hm : m < 2 := (by rw [hh.out.1]; exact hl))
    go_ret
    exact ⟨rfl, hc, hg⟩
  · go_enter Tryz.func133, Tryz.ntmps133
    go_wp2_with (first
      | (go_at_call 74; refine HT.out.mono ?_; rintro e w1 ⟨A', m, c', rfl, hh, hc, hg⟩; have hm : 2 ≤ m := (by rw [hh.out.1]; omega); have hm2 : m ≤ 140737488355328 := (by rw [hh.out.1]; exact hlen); have hmc : m ≤ c' := hh.out.2.2.1.2.1; have hmc2 : c' ≤ 9223372036854775807 := hh.out.2.2.1.2.2)
      | (refine wpList_string rfl (.tmp 13) rfl _ (m - 2) (c' - 2) (out.drop 2) rfl (hh.out.2.1.cut hm hmc) ?_))
    all_goals (go_ret; exact ⟨rfl, hc, hg⟩)

/-- How many bytes Text takes. -/
theorem text_cut {lo : Nat} (g : Nat) (rem : List UInt8) (sp : Bool) (most : Int) (w : World) (h : CutAt w lo g rem sp) :
    Calls Tryz.prog 127 #[.pointer (some ⟨g, 0, none⟩), .int .i64 most] w fun e w' => e = .returned (.string (str ((tkOut rem sp (tsz rem most)).drop 2))) ∧
      CutAt w' lo g (tkRem rem sp (tsz rem most)) (!fits rem sp (tsz rem most)) ∧ w.grownBy w' (some g) := by
  have hlt := h.lt
  have hlen := h.len
  have HL := Lib.hid hlen
  have HLT := Lib.hid hlt
  clear hlt hlen
  go_enter Tryz.func127, Tryz.ntmps127
  go_wp2_with (first
    | (go_at_call 108; refine (rest_cut g rem sp w h).mono ?_; rintro e w1 ⟨A', c', rfl, hh, q, rfl⟩; have hc0 := h.drewN q)
    | (go_at_call 134; go_must (refine (textSize_any A' rem.length c' rem most _ (hh.out.1.drewN q) hh.out.2.1 HL.out (fun ad had => Nat.lt_trans (hh.out.2.2 ad had).2 HLT.out)).mono ?_); rintro e w2 ⟨rfl, hb⟩; have hc1 := hc0.below hb)
    | (go_at_call 133; refine (cutText_any g rem sp (tsz rem most) _ hc1).mono ?_; rintro e w3 ⟨rfl, hc, hg⟩))
  go_ret
  exact ⟨rfl, hc, grownBy_trans (grownBy_trans (grownBy_drewN w q _) (grownBy_below hb _)) hg⟩

end Go.Proofs.YtghjogneogkpoaaGreatDoor.Oct
