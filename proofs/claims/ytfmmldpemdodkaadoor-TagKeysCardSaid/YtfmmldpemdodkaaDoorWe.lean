/-
  What is proved: the walk of TagNoughts for whatever comes in. Conditions as stated.
-/
import Derived.Test.YtfmmldpemdodkaaDoorWd
namespace Go.Proofs.YtfmmldpemdodkaaDoor
open Go.RowKit

theorem filled_noughts (key : List UInt8) (j : Nat) (h : (shortOf key).length + j ≤ 64) : filledOf (shortOf key ++ List.replicate j 0) = filledOf key := by
  have e : shortOf (shortOf key ++ List.replicate j 0) = shortOf key ++ List.replicate j 0 := by
    rw [shortOf.eq_def (shortOf key ++ List.replicate j 0), if_neg (by simp; omega)]
  rw [filledOf.eq_def, e, List.append_assoc, List.replicate_append_replicate, filledOf.eq_def]
  congr 2
  simp
  omega
theorem hmac_noughts (key b : List UInt8) (j : Nat) (h : (shortOf key).length + j ≤ 64) : hmac (shortOf key ++ List.replicate j 0) b = hmac key b := by
  rw [hmac, filled_noughts key j h, hmac]

/-- The row so far. -/
def NoAt (L : Nat) (sh : List UInt8) (j c : Nat) (A : Option Addr) (w wr : World) : Prop :=
  wr.ownsRow w.heap.size 5 1 (.slice A (L + j) c) (L + j) (u8s (sh ++ List.replicate j 0)) ∧ Sl A (L + j) c ∧ Below w.heap.size w wr
theorem NoAt.zero {L c : Nat} {sh : List UInt8} {A : Option Addr} {w wr : World} (h1 : wr.ownsRow w.heap.size 5 1 (.slice A L c) L (u8s sh)) (h2 : Sl A L c) (h3 : Below w.heap.size w wr) : NoAt L sh 0 c A w wr :=
  ⟨by simpa using h1, h2, h3⟩

/-- A row of no bytes, made at the end of a later world. -/
theorem own_at (w w3 : World) (h : w.heap.size ≤ w3.heap.size) : (w3.alloc (.cells #[] 5)).ownsRow w.heap.size 5 1 (.slice (some ⟨w3.heap.size, 0, none⟩) 0 0) 0 (u8s []) :=
  World.ownsRow_lit w3 #[] 0 h (Nat.zero_le _) rfl

set_option maxHeartbeats 2000000 in
theorem noughts_by (key sh b dg out : List UInt8) (m : Nat) (A : Option Addr) (n c : Nat) (A' : Option Addr) (n' c' : Nat) (w : World) (hn : n ≤ 200) (hn' : n' ≤ 1024) (hm : m ≤ 255) (ho : out.length = 32) (hdg : dg.length = 32) (L : Nat) (hLs : sh.length = L) (hL : L ≤ 64)
    (hr : Rd (fun _ => True) w A n key) (hs : Sl A n c) (hr' : Rd (fun _ => True) w A' n' b) (hW : Works) (hk : KIs w) (h0 : 0 < w.heap.size) (hc : n ≤ 64 ∧ sh = key ∨ 64 < n ∧ sh = dg)
    (S : ∀ (A : Option Addr) (c : Nat) (w : World), Rd (fun _ => True) w A n key → Sl A n c → KIs w → 0 < w.heap.size → Calls Tryd.prog 18 #[.slice A n c] w fun E w' => E = .returned (.agg (u8s dg).toArray) ∧ Below w.heap.size w w')
    (O1 : ∀ (j : Nat) (A : Option Addr) (c : Nat) (w : World), L + j ≤ 64 → Rd (fun _ => True) w A (L + j) (sh ++ List.replicate j 0) → Sl A (L + j) c → Rd (fun _ => True) w A' n' b → KIs w → 0 < w.heap.size → Calls Tryd.prog 9 #[.slice A (L + j) c, .slice A' n' c'] w fun E w' => E = .returned (.agg (u8s out).toArray) ∧ Below w.heap.size w w')
    (O2 : ∀ w : World, Rd (fun _ => True) w A n key → Rd (fun _ => True) w A' n' b → KIs w → 0 < w.heap.size → Calls Tryd.prog 9 #[.slice A n c, .slice A' n' c'] w fun E w' => E = .returned (.agg (u8s out).toArray) ∧ Below w.heap.size w w') :
    Calls Tryd.prog 6 #[.slice A n c, .slice A' n' c', .int .u8 m] w fun E w' => E = .returned (.bool true) ∧ Below w.heap.size w w' := by
  have HK := Lib.hid hk
  have HW := Lib.hid hW
  have HR := Lib.hid hr
  have HS := Lib.hid hs
  have HR' := Lib.hid hr'
  have SS := Lib.hid S
  have OA := Lib.hid O1
  have OB := Lib.hid O2
  have heq := eq_bytes out ho
  have hgd := Tryd.guard25
  have HDG : Hid (dg.length = 32 ∧ (u8s dg).length = 32) := Lib.hid ⟨hdg, by rw [u8s_length, hdg]⟩
  have HID : Hid ((Tryd.prog.info? 25).map (·.size) = some (u8s dg).length) := Lib.hid (by rw [HDG.out.2]; exact Tryd.size25)
  clear hk hW hr hs hr' S O1 O2 ho hdg
  have H0 : Hid ((w.alloc (.cells #[] 5)).ownsRow w.heap.size 5 1 (.slice (some ⟨w.heap.size, 0, none⟩) 0 0) 0 (u8s []) ∧ Below w.heap.size w (w.alloc (.cells #[] 5)) ∧ w.heap.size < (w.alloc (.cells #[] 5)).heap.size) := Lib.hid ⟨own_none w _ rfl, (Below.refl _ _).alloc (Nat.le_refl _) _, by simp⟩
  rcases hc with ⟨hlen, rfl⟩ | ⟨hlen, rfl⟩
  · obtain rfl : n = L := by have := HR.out.1; omega
    go_enter Tryd.func6, Tryd.ntmps6
    have HLS := Lib.hid hLs
    clear hLs
    go_wp2_with (first
      | (at_builtin; refine wpList_append_rd (w0 := w) rfl (.tmp 19) (.tmp 20) rfl w.heap.size 0 n c _ A [] sh rfl rfl H0.out.1 (HR.out.below H0.out.2.1 (fun _ h _ => h)) HS.out H0.out.2.1 (Nat.le_of_lt H0.out.2.2) (by omega) ?_; intro A5 c5 w5 h5 hb5; rw [Nat.zero_add] at h5 ⊢; rw [List.nil_append] at h5; have H5 : Hid (NoAt n sh 0 c5 A5 w w5) := Lib.hid (NoAt.zero h5.out.1 h5.out.2 hb5); clear h5 hb5)
      | fail)
    go_loopw [7, 9] (fun v7 v9 wr => ∃ (j c : Nat) (A : Option Addr), j ≤ m ∧ n + j ≤ 64 ∧ v9 = .int .i64 j ∧ v7 = .slice A (n + j) c ∧ Hid (NoAt n sh j c A w wr)) (fun _ v9 _ => m - (intOf v9).toNat)
    case atStart => exact ⟨0, c5, A5, by omega, by omega, rfl, rfl, H5⟩
    case round =>
      clear H5
      obtain ⟨j, c6, A6, hjm, hj64, rfl, rfl, HN⟩ := hrel
      by_cases hgo : j < m ∧ n + j < 64
      · obtain ⟨h1, h2⟩ := hgo
        go_wp2_with (at_builtin; refine wpList_append_byte_own (w0 := w) rfl (.tmp 41) (.tmp 42) rfl w.heap.size (n + j) _ (sh ++ List.replicate j 0) _ 0 rfl rfl HN.out.1 HN.out.2.2 HN.out.2.2.size rfl (by omega) ?_; intro A7 c7 w7 h7 hb7; have H7 : Hid (NoAt n sh (j + 1) c7 A7 w w7) := Lib.hid ⟨by rw [List.replicate_succ', ← List.append_assoc]; exact h7.out.1, h7.out.2, hb7⟩; clear h7 hb7)
        go_roundw
        case measure => simp [intOf]; omega
        case rel => exact ⟨j + 1, c7, A7, by omega, by omega, by go_num, rfl, H7⟩
      · have HB := Lib.hid HN.out.2.2
        have HNR : Hid (Rd (fun _ => True) wr A6 (n + j) (sh ++ List.replicate j 0) ∧ Sl A6 (n + j) c6) := Lib.hid ⟨(Rd.of_own HN.out.1).mono fun _ _ _ => trivial, HN.out.2.1⟩
        by_cases h1 : j < m
        all_goals
          go_wp2_with (first
            | (go_at_call 9; (with_reducible refine (OA.out j A6 c6 wr hj64 HNR.out.1 HNR.out.2 (HR'.out.below HB.out (fun _ h _ => h)) (HK.out.below HB.out h0) (Nat.lt_of_lt_of_le h0 HB.out.size)).mono ?_); rintro E w8 ⟨rfl, hb8⟩; have HB8 := Lib.hid (HB.out.trans (hb8.mono HB.out.size)); clear hb8)
            | (go_at_call 9; (with_reducible refine (OB.out w8 (HR.out.below HB8.out (fun _ h _ => h)) (HR'.out.below HB8.out (fun _ h _ => h)) (HK.out.below HB8.out h0) (Nat.lt_of_lt_of_le h0 HB8.out.size)).mono ?_); rintro E w9 ⟨rfl, hb9⟩; have HB9 := Lib.hid (HB8.out.trans (hb9.mono HB8.out.size)); clear hb9)
            | (go_at_call 8; refine (HW.out w9 (HK.out.below HB9.out h0) (Nat.lt_of_lt_of_le h0 HB9.out.size)).mono ?_; rintro E w10 ⟨rfl, hb10⟩; have HB10 := Lib.hid (HB9.out.trans (hb10.mono HB9.out.size)); clear hb10))
          go_ret
          exact ⟨rfl, HB10.out⟩
  · obtain rfl : L = 32 := by have := HDG.out.1; omega
    clear hLs
    go_enter Tryd.func6, Tryd.ntmps6
    go_wp2_with (first
      | (at_builtin; refine wpList_append_rd (w0 := w) rfl (.tmp 19) (.tmp 20) rfl w.heap.size 0 n c _ A [] key rfl rfl H0.out.1 (HR.out.below H0.out.2.1 (fun _ h _ => h)) HS.out H0.out.2.1 (Nat.le_of_lt H0.out.2.2) (by omega) ?_; intro A1 c1 w1 h1 hb1; rw [Nat.zero_add] at h1 ⊢; rw [List.nil_append] at h1; have HR1 : Hid (Rd (fun _ => True) w1 A1 n key ∧ Sl A1 n c1) := Lib.hid ⟨(Rd.of_own h1.out.1).mono fun _ _ _ => trivial, h1.out.2⟩; have HB1 := Lib.hid hb1; clear h1 hb1)
      | (go_at_call 18; (with_reducible refine (SS.out A1 c1 w1 HR1.out.1 HR1.out.2 (HK.out.below HB1.out h0) (Nat.lt_of_lt_of_le h0 HB1.out.size)).mono ?_); rintro E w2 ⟨rfl, hb2⟩; have HB2 := Lib.hid (HB1.out.trans (hb2.mono HB1.out.size)); clear hb2)
      | ((with_reducible refine wpList_store_fresh ?_ 25 (.tmp 8) (.tmp 26) ?_ (u8s sh) ?_ ?_ ?_ ?_ ?_ ?_); (· rfl); (· rfl); (· rfl); (· rfl); (· rw [HDG.out.2]; rfl); (· exact HID.out); (· exact u8s_one _); intro w3 H3; have HB3 := Lib.hid (HB2.out.trans (H3.out.1.mono HB2.out.size)); have HR3 : Hid (Rd (fun _ => True) w3 (some ⟨w2.heap.size, 0, none⟩) 32 sh) := Lib.hid (Rd.of_range H3.out.2.1 H3.out.2.2.2 trivial (fun _ _ h => h) HDG.out.1))
      | (at_builtin; refine wpList_append_rd (w0 := w) rfl (.tmp 27) (.tmp 28) rfl w.heap.size 0 32 32 _ (some ⟨w2.heap.size, 0, none⟩) [] sh rfl rfl (own_at w w3 HB3.out.size) (HR3.out.below ((Below.refl _ _).alloc (Nat.le_refl _) _) (fun _ h _ => h)) ⟨(fun e => by cases e), Nat.le_refl _, by omega⟩ (HB3.out.alloc HB3.out.size _) (by have := HB3.out.size; simp; omega) (by omega) ?_; intro A5 c5 w5 h5 hb5; rw [Nat.zero_add] at h5 ⊢; rw [List.nil_append] at h5; have H5 : Hid (NoAt 32 sh 0 c5 A5 w w5) := Lib.hid (NoAt.zero h5.out.1 h5.out.2 hb5); clear h5 hb5)
      | fail)
    go_loopw [7, 9] (fun v7 v9 wr => ∃ (j c : Nat) (A : Option Addr), j ≤ m ∧ 32 + j ≤ 64 ∧ v9 = .int .i64 j ∧ v7 = .slice A (32 + j) c ∧ Hid (NoAt 32 sh j c A w wr)) (fun _ v9 _ => m - (intOf v9).toNat)
    case atStart => exact ⟨0, c5, A5, by omega, by omega, rfl, rfl, H5⟩
    case round =>
      clear H5
      obtain ⟨j, c6, A6, hjm, hj64, rfl, rfl, HN⟩ := hrel
      by_cases hgo : j < m ∧ 32 + j < 64
      · obtain ⟨h1, h2⟩ := hgo
        go_wp2_with (at_builtin; refine wpList_append_byte_own (w0 := w) rfl (.tmp 41) (.tmp 42) rfl w.heap.size (32 + j) _ (sh ++ List.replicate j 0) _ 0 rfl rfl HN.out.1 HN.out.2.2 HN.out.2.2.size rfl (by omega) ?_; intro A7 c7 w7 h7 hb7; have H7 : Hid (NoAt 32 sh (j + 1) c7 A7 w w7) := Lib.hid ⟨by rw [List.replicate_succ', ← List.append_assoc]; exact h7.out.1, h7.out.2, hb7⟩; clear h7 hb7)
        go_roundw
        case measure => simp [intOf]; omega
        case rel => exact ⟨j + 1, c7, A7, by omega, by omega, by go_num, rfl, H7⟩
      · have HB := Lib.hid HN.out.2.2
        have HNR : Hid (Rd (fun _ => True) wr A6 (32 + j) (sh ++ List.replicate j 0) ∧ Sl A6 (32 + j) c6) := Lib.hid ⟨(Rd.of_own HN.out.1).mono fun _ _ _ => trivial, HN.out.2.1⟩
        by_cases h1 : j < m
        all_goals
          go_wp2_with (first
            | (go_at_call 9; (with_reducible refine (OA.out j A6 c6 wr hj64 HNR.out.1 HNR.out.2 (HR'.out.below HB.out (fun _ h _ => h)) (HK.out.below HB.out h0) (Nat.lt_of_lt_of_le h0 HB.out.size)).mono ?_); rintro E w8 ⟨rfl, hb8⟩; have HB8 := Lib.hid (HB.out.trans (hb8.mono HB.out.size)); clear hb8)
            | (go_at_call 9; (with_reducible refine (OB.out w8 (HR.out.below HB8.out (fun _ h _ => h)) (HR'.out.below HB8.out (fun _ h _ => h)) (HK.out.below HB8.out h0) (Nat.lt_of_lt_of_le h0 HB8.out.size)).mono ?_); rintro E w9 ⟨rfl, hb9⟩; have HB9 := Lib.hid (HB8.out.trans (hb9.mono HB8.out.size)); clear hb9)
            | (go_at_call 8; refine (HW.out w9 (HK.out.below HB9.out h0) (Nat.lt_of_lt_of_le h0 HB9.out.size)).mono ?_; rintro E w10 ⟨rfl, hb10⟩; have HB10 := Lib.hid (HB9.out.trans (hb10.mono HB9.out.size)); clear hb10))
          go_ret
          exact ⟨rfl, HB10.out⟩
end Go.Proofs.YtfmmldpemdodkaaDoor
