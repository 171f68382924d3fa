/-
  What is proved: what Word, Half, Byte, Text and Raw of a cut answer. Conditions as stated.
-/
import Derived.Test.YtfegffdhlkhjbaaOd
namespace Go.Proofs.Ytfegffdhlkhjbaa.Oct
open Go.RowKit
set_option maxRecDepth 100000

/-- The number that bytes are, the highest one first. -/
def num (bs : List UInt8) : Nat := bs.foldl (fun n b => n * 256 + b.toNat) 0

theorem num_snoc (bs : List UInt8) (b : UInt8) : num (bs ++ [b]) = num bs * 256 + b.toNat := by simp [num]
theorem num_lt : ∀ (n : Nat) (bs : List UInt8), bs.length = n → num bs < 256 ^ n := by
  intro n
  induction n with
  | zero => intro bs h; rw [List.eq_nil_of_length_eq_zero h]; simp [num]
  | succ n ih =>
    intro bs h
    have hne : bs ≠ [] := by intro e; subst e; simp at h
    have hd : bs.dropLast ++ [bs.getLast hne] = bs := List.dropLast_concat_getLast hne
    have h1 := ih bs.dropLast (by rw [List.length_dropLast, h]; rfl)
    have h2 := (bs.getLast hne).toNat_lt
    rw [← hd, num_snoc, Nat.pow_succ]
    omega

theorem or_step (q : Nat) (u : UInt8) (hq : q < 72057594037927936) : bits .or .u64 ((q : Int) * 256) (IntKind.u64.wrap (u.toNat : Int)) = ((q * 256 + u.toNat : Nat) : Int) := by
  have hu := u.toNat_lt
  have h1 : IntKind.u64.wrap (u.toNat : Int) = (u.toNat : Int) := by rw [IntKind.wrap_u64]; omega
  have h2 : ((q : Int) * 256) = ((q * 256 : Nat) : Int) := by omega
  rw [h1, h2, u64_or_nat (q * 256) u.toNat (by omega) (by omega)]
  have h3 := Nat.two_pow_add_eq_or_of_lt (i := 8) (b := u.toNat) (by omega) q
  rw [Nat.mul_comm q 256, ← h3]

theorem num_step {m j : Nat} {out : List UInt8} {u : UInt8} (hu : out[j]? = some u) (_hj : j < m) : num (out.take (j + 1)) = num (out.take j) * 256 + u.toNat := by
  rw [List.take_add_one, hu]
  exact num_snoc _ _

theorem num_take_lt {out : List UInt8} {m j : Nat} (hm : m ≤ 8) (hj : j < m) : num (out.take j) < 72057594037927936 :=
  Nat.lt_of_lt_of_le (num_lt _ _ rfl) (show 256 ^ (out.take j).length ≤ 256 ^ 7 from Nat.pow_le_pow_right (by decide) (by rw [List.length_take]; omega))

/-- What a round of the loop finds. -/
theorem round_at {w1 : World} {A' : Option Addr} {m c' j K : Nat} {rem : List UInt8} {sp : Bool} {lo g : Nat}
    (hh : Hid (m = (tkOut rem sp (K : Int)).length ∧ Rd w1 A' m (tkOut rem sp (K : Int)) ∧ Sl A' m c' ∧ ∀ ad, A' = some ad → lo ≤ ad.block ∧ ad.block < g)) (hj : j < m) (hK : K ≤ 8) :
    ∃ b o u, A' = some ⟨b, o, none⟩ ∧ Hid ((tkOut rem sp (K : Int))[j]? = some u) ∧ w1.cell? ⟨b, o + j, none⟩ = some (.int .u8 (u.toNat : Int)) ∧ m ≤ 8 := by
  obtain ⟨h1, h2, _⟩ := hh.out
  obtain ⟨b, o, hA, _, hcc⟩ := h2.2 (by omega)
  have hjl : j < (tkOut rem sp (K : Int)).length := by omega
  exact ⟨b, o, (tkOut rem sp (K : Int))[j], hA, List.getElem?_eq_getElem hjl, hcc j _ (List.getElem?_eq_getElem hjl), by rw [h1]; exact Nat.le_trans (tkOut_length _ _ K) hK⟩

theorem num_all {w1 : World} {A' : Option Addr} {m c' j : Nat} {out : List UInt8} {lo g : Nat} (hh : Hid (m = out.length ∧ Rd w1 A' m out ∧ Sl A' m c' ∧ ∀ ad, A' = some ad → lo ≤ ad.block ∧ ad.block < g)) (hj : m ≤ j) : out.take j = out :=
  List.take_of_length_le (by rw [← hh.out.1]; exact hj)

theorem num_out_lt (rem : List UInt8) (sp : Bool) (K : Nat) : num (tkOut rem sp (K : Int)) < 256 ^ K :=
  Nat.lt_of_lt_of_le (num_lt _ _ rfl) (Nat.pow_le_pow_right (by decide) (tkOut_length _ _ K))

theorem num_wrap16 (rem : List UInt8) (sp : Bool) : IntKind.u16.wrap ((num (tkOut rem sp 2) : Nat) : Int) = (num (tkOut rem sp 2) : Int) := by
  have h : num (tkOut rem sp 2) < 256 ^ 2 := num_out_lt rem sp 2
  rw [IntKind.wrap_u16]; omega
set_option maxHeartbeats 400000 in
theorem cutNumber64 {lo : Nat} (g : Nat) (rem : List UInt8) (sp : Bool) (w : World) (h : CutAt w lo g rem sp) :
    Calls Try.prog 60 #[.func (.func 61) #[.pointer (some ⟨g, 0, none⟩)] #[]] w fun e w' => e = .returned (.int .u64 (num (tkOut rem sp 8))) ∧
      CutAt w' lo g (tkRem rem sp 8) (!fits rem sp 8) ∧ w.grownBy w' (some g) := by
  go_enter Try.func60, Try.ntmps60
  go_wp2_with (first
    | (go_at_call 63; refine (w8_any _).mono ?_; rintro e w1 ⟨rfl, rfl⟩)
    | (go_at_call 61; refine (take_open g rem sp 8 w h).mono ?_; rintro e w1 ⟨A', m, c', rfl, hh, hc, hg⟩))
  go_loop [3, 10] (fun v i => ∃ j : Nat, j ≤ m ∧ i = .int .i64 j ∧ v = .int .u64 (num ((tkOut rem sp 8).take j))) (fun _ i => m - (intOf i).toNat)
  case atStart => exact ⟨0, Nat.zero_le _, rfl, rfl⟩
  case round =>
    obtain ⟨j, hj, rfl, rfl⟩ := hrel
    by_cases hlt : j < m
    · obtain ⟨b, o, u, rfl, hu, hcell, hm8⟩ := round_at (K := 8) hh hlt (by decide)
      have hnum := num_take_lt (out := tkOut rem sp 8) hm8 hlt
      have hstep := num_step (out := tkOut rem sp 8) hu.out hlt
      obtain ⟨q, hq⟩ : ∃ q, q = num ((tkOut rem sp 8).take j) := ⟨_, rfl⟩
      have hor := or_step q u (by rw [hq]; exact hnum)
      rw [← hq] at hnum ⊢
      have HQ := Lib.hid hq
      have HS := Lib.hid hstep
      have HO := Lib.hid hor
      clear hq hstep hor
      go_wp2
      go_round
      case rel => exact ⟨j + 1, by omega, by go_num, by rw [HO.out, HS.out, HQ.out]⟩
      case measure => simp [intOf]; omega
    · have HA := Lib.hid (num_all hh (Nat.le_of_not_lt hlt))
      go_wp2
      go_ret
      exact ⟨by first | (rw [HA.out]; done) | (rw [HA.out]; rfl) | (rw [HA.out]; done) | (rw [HA.out]; rfl), hc, hg⟩

set_option maxHeartbeats 400000 in
theorem cutNumber16 {lo : Nat} (g : Nat) (rem : List UInt8) (sp : Bool) (w : World) (h : CutAt w lo g rem sp) :
    Calls Try.prog 74 #[.func (.func 61) #[.pointer (some ⟨g, 0, none⟩)] #[]] w fun e w' => e = .returned (.int .u16 (num (tkOut rem sp 2))) ∧
      CutAt w' lo g (tkRem rem sp 2) (!fits rem sp 2) ∧ w.grownBy w' (some g) := by
  have HB := Lib.hid (num_wrap16 rem sp)
  go_enter Try.func74, Try.ntmps74
  go_wp2_with (first
    | (go_at_call 76; refine (w2_any _).mono ?_; rintro e w1 ⟨rfl, rfl⟩)
    | (go_at_call 61; refine (take_open g rem sp 2 w h).mono ?_; rintro e w1 ⟨A', m, c', rfl, hh, hc, hg⟩))
  go_loop [3, 10] (fun v i => ∃ j : Nat, j ≤ m ∧ i = .int .i64 j ∧ v = .int .u64 (num ((tkOut rem sp 2).take j))) (fun _ i => m - (intOf i).toNat)
  case atStart => exact ⟨0, Nat.zero_le _, rfl, rfl⟩
  case round =>
    obtain ⟨j, hj, rfl, rfl⟩ := hrel
    by_cases hlt : j < m
    · obtain ⟨b, o, u, rfl, hu, hcell, hm8⟩ := round_at (K := 2) hh hlt (by decide)
      have hnum := num_take_lt (out := tkOut rem sp 2) hm8 hlt
      have hstep := num_step (out := tkOut rem sp 2) hu.out hlt
      obtain ⟨q, hq⟩ : ∃ q, q = num ((tkOut rem sp 2).take j) := ⟨_, rfl⟩
      have hor := or_step q u (by rw [hq]; exact hnum)
      rw [← hq] at hnum ⊢
      have HQ := Lib.hid hq
      have HS := Lib.hid hstep
      have HO := Lib.hid hor
      clear hq hstep hor
      go_wp2
      go_round
      case rel => exact ⟨j + 1, by omega, by go_num, by rw [HO.out, HS.out, HQ.out]⟩
      case measure => simp [intOf]; omega
    · have HA := Lib.hid (num_all hh (Nat.le_of_not_lt hlt))
      go_wp2
      go_ret
      exact ⟨by first | (rw [HA.out]; done) | (rw [HA.out]; rfl) | (rw [HA.out, HB.out]; done) | (rw [HA.out, HB.out]; rfl), hc, hg⟩

theorem word_cut {lo : Nat} (g : Nat) (rem : List UInt8) (sp : Bool) (w : World) (h : CutAt w lo g rem sp) :
    Calls Try.prog 46 #[.pointer (some ⟨g, 0, none⟩)] w fun e w' => e = .returned (.int .u64 (num (tkOut rem sp 8))) ∧
      CutAt w' lo g (tkRem rem sp 8) (!fits rem sp 8) ∧ w.grownBy w' (some g) := by
  go_enter Try.func46, Try.ntmps46
  go_wp2_with (go_at_call 60; refine (cutNumber64 g rem sp w h).mono ?_; rintro e w1 ⟨rfl, hc, hg⟩)
  go_ret
  exact ⟨rfl, hc, hg⟩

theorem half_cut {lo : Nat} (g : Nat) (rem : List UInt8) (sp : Bool) (w : World) (h : CutAt w lo g rem sp) :
    Calls Try.prog 64 #[.pointer (some ⟨g, 0, none⟩)] w fun e w' => e = .returned (.int .u16 (num (tkOut rem sp 2))) ∧
      CutAt w' lo g (tkRem rem sp 2) (!fits rem sp 2) ∧ w.grownBy w' (some g) := by
  go_enter Try.func64, Try.ntmps64
  go_wp2_with (go_at_call 74; refine (cutNumber16 g rem sp w h).mono ?_; rintro e w1 ⟨rfl, hc, hg⟩)
  go_ret
  exact ⟨rfl, hc, hg⟩

theorem raw_of_take {lo : Nat} (g : Nat) (rem : List UInt8) (sp : Bool) (k : Int) (w : World) (h : CutAt w lo g rem sp) :
    Calls Try.prog 69 #[.func (.func 61) #[.pointer (some ⟨g, 0, none⟩)] #[], .int .i64 k] w fun e w' => ∃ A' m c', e = .returned (.slice A' m c') ∧
      Hid (m = (tkOut rem sp k).length ∧ w'.ownsRow w.heap.size 5 1 (.slice A' m c') m (u8s (tkOut rem sp k)) ∧ Sl A' m c') ∧
      CutAt w' lo g (tkRem rem sp k) (!fits rem sp k) ∧ w.grownBy w' (some g) := by
  have hlen := h.len
  have HL := Lib.hid hlen
  clear hlen
  go_enter Try.func69, Try.ntmps69
  go_wp2_with (first
    | (go_at_call 61; refine (take_open g rem sp k w h).mono ?_; rintro e w1 ⟨A', m, c', rfl, hh, hc, hg⟩)
    | (go_at_call 41; refine (clone_any A' m c' (tkOut rem sp k) w1 hh.out.2.1 hh.out.2.2.1 (by rw [hh.out.1]; exact Nat.le_trans (tkOut_len _ _ _) HL.out)).mono ?_; rintro e w2 ⟨A2, c2, rfl, ho, hs, hb⟩))
  go_ret
  refine ⟨A2, m, c2, rfl, ⟨hh.out.1, ?_, hs⟩, hc.below hb, grownBy_trans hg (grownBy_below hb _)⟩
  obtain ⟨h1, h2⟩ := ho
  refine ⟨h1, h2.imp id ?_⟩
  rintro ⟨g2, cap, cur, q1, q2, q3⟩
  exact ⟨g2, cap, cur, q1, Nat.le_trans hg.size q2, q3⟩

end Go.Proofs.Ytfegffdhlkhjbaa.Oct
