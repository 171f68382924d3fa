/-
  What is proved: what the document's own key, Replica, Client and Numbered of tag answer. Conditions as stated.
-/
import Derived.Test.YtfmmldpemdodkaaDoorRt
namespace Go.Proofs.YtfmmldpemdodkaaDoor
open Go.RowKit

theorem refKey_no (s : ByteArray) (i most : Int) (w : World) (h : i < 1 ∨ most < i) :
    Calls Tryd.prog 24 #[.string s, .int .i64 i, .int .i64 most] w fun E w' => E = .returned (.slice none 0 0) ∧ w = w' := by
  by_cases h1 : i < 1
  · clear h
    go_enter Tryd.func24, Tryd.ntmps24
    go_wp2
    go_ret
    exact ⟨rfl, rfl⟩
  · have h2 : most < i := by omega
    clear h
    go_enter Tryd.func24, Tryd.ntmps24
    go_wp2
    go_ret
    exact ⟨rfl, rfl⟩

set_option maxHeartbeats 400000 in
theorem refKey_by (s : ByteArray) (name d : List UInt8) (i : Nat) (most : Int) (w : World) (hs : s.data.toList = name) (hm : s.size ≤ 1000) (h1 : 1 ≤ i) (h2 : (i : Int) ≤ most) (h3 : most ≤ 1000000) (hd : d.length = 32) (hk : KIs w) (h0 : 0 < w.heap.size)
    (W8 : ∀ (A : Option Addr) (c : Nat) (w : World), Rd (fun _ => True) w A s.size name → Sl A s.size c → Calls Tryd.prog 25 #[.slice A s.size c, .int .u64 i] w fun e w' => ∃ A' c', e = .returned (.slice A' (s.size + 8) c') ∧ Hid (Rd (fun _ => True) w' A' (s.size + 8) (name ++ be 8 i) ∧ Sl A' (s.size + 8) c') ∧ Below w.heap.size w w')
    (S : ∀ (A : Option Addr) (c : Nat) (w : World), Rd (fun _ => True) w A (s.size + 8) (name ++ be 8 i) → Sl A (s.size + 8) c → KIs w → 0 < w.heap.size → Calls Tryd.prog 21 #[.slice A (s.size + 8) c] w fun E w' => E = .returned (.agg (u8s d).toArray) ∧ Below w.heap.size w w') :
    Calls Tryd.prog 24 #[.string s, .int .i64 i, .int .i64 most] w fun E w' => ∃ A c, E = .returned (.slice A 32 c) ∧ Hid (Rd (w.heap.size ≤ ·) w' A 32 d ∧ Sl A 32 c) ∧ Below w.heap.size w w' := by
  have HS := Lib.hid hs
  have HK := Lib.hid hk
  have HD := Lib.hid hd
  have WW := Lib.hid W8
  have SS := Lib.hid S
  have HD32 : Hid ((u8s d).length = 32) := Lib.hid (by rw [u8s_length, hd])
  have HID : Hid ((Tryd.prog.info? 25).map (·.size) = some (u8s d).length) := Lib.hid (by rw [HD32.out]; exact Tryd.size25)
  clear hs hk hd W8 S
  go_enter Tryd.func24, Tryd.ntmps24
  go_wp2_with (first
    | (refine wpList_str rfl (.tmp 15) rfl s name HS.out (by omega) rfl ?_; intro c1 w1 H1)
    | (go_at_call 25; refine (WW.out _ c1 w1 H1.out.2.1 H1.out.2.2.1).mono ?_; rintro E w2 ⟨A2, c2, rfl, H2, hb2⟩; have HB2 : Hid (Below w.heap.size w w2) := Lib.hid (H1.out.1.trans (hb2.mono H1.out.1.size)); clear hb2)
    | (go_at_call 21; refine (SS.out _ c2 w2 H2.out.1 H2.out.2 (HK.out.below HB2.out h0) (Nat.lt_of_lt_of_le h0 HB2.out.size)).mono ?_; rintro E w3 ⟨rfl, hb3⟩; have HB3 : Hid (Below w.heap.size w w3) := Lib.hid (HB2.out.trans (hb3.mono HB2.out.size)); clear hb3)
    | (refine wpList_store_fresh rfl 25 (.tmp 7) (.tmp 20) rfl (u8s d) rfl rfl (by rw [HD32.out]; rfl) HID.out (u8s_one d) ?_; intro w4 H4; have HB4 : Hid (Below w.heap.size w w4 ∧ Rd (fun _ => True) w4 (some ⟨w3.heap.size, 0, none⟩) 32 d) := Lib.hid ⟨HB3.out.trans (H4.out.1.mono HB3.out.size), Rd.of_range H4.out.2.1 H4.out.2.2.2 trivial (fun _ _ h => h) HD.out⟩)
    | (at_builtin; refine wpList_append_rd (w0 := w) rfl (.tmp 21) (.tmp 22) rfl w.heap.size 0 32 32 _ (some ⟨w3.heap.size, 0, none⟩) [] d rfl rfl (own_at w w4 HB4.out.1.size) (HB4.out.2.below ((Below.refl _ _).alloc (Nat.le_refl _) _) (fun _ h _ => h)) ⟨(fun e => by cases e), Nat.le_refl _, by omega⟩ (HB4.out.1.alloc HB4.out.1.size _) (by have := HB4.out.1.size; simp; omega) (by omega) ?_; intro A5 c5 w5 h5 hb5; rw [Nat.zero_add] at h5 ⊢; rw [List.nil_append] at h5))
  go_ret
  exact ⟨A5, c5, rfl, Lib.hid ⟨Rd.of_own h5.out.1, h5.out.2⟩, hb5⟩

theorem refKey_any (s : ByteArray) (name : List UInt8) (i most : Int) (w : World) (hs : s.data.toList = name) (hm : s.size ≤ 1000) (h3 : most ≤ 1000000) (hk : KIs w) (h0 : 0 < w.heap.size) :
    Calls Tryd.prog 24 #[.string s, .int .i64 i, .int .i64 most] w fun E w' => ∃ A c, E = .returned (.slice A (keyI name most i).length c) ∧ Hid (Rd (w.heap.size ≤ ·) w' A (keyI name most i).length (keyI name most i) ∧ Sl A (keyI name most i).length c) ∧ Below w.heap.size w w' := by
  by_cases h : i < 1 ∨ most < i
  · have e : keyI name most i = [] := if_pos h
    rw [e]
    exact (refKey_no s i most w h).mono fun E w' ⟨he, hw⟩ => hw ▸ ⟨none, 0, he, Lib.hid ⟨Rd.nil _ _ _, ⟨fun _ => ⟨rfl, rfl⟩, Nat.le_refl _, by simp⟩⟩, Below.refl _ _⟩
  · obtain ⟨j, rfl⟩ : ∃ j : Nat, i = (j : Int) := ⟨i.toNat, by omega⟩
    have e : keyI name most (j : Int) = sumOf (name ++ be 8 j) := by rw [keyI, if_neg h, Int.toNat_natCast]
    rw [e, sumOf_length]
    exact refKey_by s name (sumOf (name ++ be 8 j)) j most w hs hm (by omega) (by omega) h3 (sumOf_length _) hk h0
      (fun A c w hr hsl => (refWord_any A s.size c name j w hr hsl (by omega)).mono fun e w' ⟨A', c', he, ho, hb⟩ => ⟨A', c', he, Lib.hid ⟨(Rd.of_own ho.out.1).mono fun _ _ _ => trivial, ho.out.2⟩, hb⟩)
      (fun A c w hr hs hk h0 => by
        have e : (name ++ be 8 j).length = s.size + 8 := hr.1
        have := refSum_any (name ++ be 8 j) A c w (by rw [e]; exact hr) (by rw [e]; exact hs) (by rw [e]; omega) hk h0
        rwa [e] at this)

theorem refReplica_any (i : Int) (w : World) (hk : KIs w) (h0 : 0 < w.heap.size) :
    Calls Tryd.prog 12 #[.int .i64 i] w fun E w' => ∃ A c, E = .returned (.slice A (repKey i).length c) ∧ Hid (Rd (w.heap.size ≤ ·) w' A (repKey i).length (repKey i) ∧ Sl A (repKey i).length c) ∧ Below w.heap.size w w' := by
  have H := fun s hs hm => Lib.hid (refKey_any s txtRep i 11 w hs hm (by omega) hk h0)
  rw [show keyI txtRep 11 i = repKey i from rfl] at H
  generalize repKey i = d at H ⊢
  go_enter Tryd.func12, Tryd.ntmps12
  go_wp2_with (go_at_call 24; refine ((H _ rfl (by decide)).out).mono ?_; rintro E w1 ⟨A, c, rfl, h1, hb1⟩)
  go_ret
  exact ⟨A, c, rfl, h1, hb1⟩
theorem refClient_any (i : Int) (w : World) (hk : KIs w) (h0 : 0 < w.heap.size) :
    Calls Tryd.prog 14 #[.int .i64 i] w fun E w' => ∃ A c, E = .returned (.slice A (cliKey i).length c) ∧ Hid (Rd (w.heap.size ≤ ·) w' A (cliKey i).length (cliKey i) ∧ Sl A (cliKey i).length c) ∧ Below w.heap.size w w' := by
  have H := fun s hs hm => Lib.hid (refKey_any s txtCli i 8 w hs hm (by omega) hk h0)
  rw [show keyI txtCli 8 i = cliKey i from rfl] at H
  generalize cliKey i = d at H ⊢
  go_enter Tryd.func14, Tryd.ntmps14
  go_wp2_with (go_at_call 24; refine ((H _ rfl (by decide)).out).mono ?_; rintro E w1 ⟨A, c, rfl, h1, hb1⟩)
  go_ret
  exact ⟨A, c, rfl, h1, hb1⟩

theorem Rd.grownAt {w w' : World} {A : Option Addr} {B n : Nat} {bs : List UInt8} {row : Option Nat} (h : Rd (· < B) w A n bs) (hg : w.grownBy w' row) (hr : ∀ k, row = some k → B ≤ k) : Rd (fun _ => True) w' A n bs := by
  refine ⟨h.1, fun hn => ?_⟩
  obtain ⟨b, o, hA, hlt, hp, hc⟩ := h.2 hn
  exact ⟨b, o, hA, Nat.lt_of_lt_of_le hlt hg.size, trivial, fun j u hu => hg.cell (hc j u hu) (fun e => by have := hr b e.symm; have hp' : b < B := hp; omega)⟩

set_option maxHeartbeats 1000000 in
theorem refNumbered_by (rk wd b out : List UInt8) (kr : Nat) (i : Int) (n : Nat) (A : Option Addr) (m c : Nat) (w : World) (ho : (u8s out).length = 32) (hm : m < 1000000) (hr : Rd (fun _ => True) w A m b) (hs : Sl A m c) (hk : KIs w) (h0 : 0 < w.heap.size)
    (R : ∀ w : World, KIs w → 0 < w.heap.size → Calls Tryd.prog 12 #[.int .i64 i] w fun E w' => ∃ A c, E = .returned (.slice A kr c) ∧ Hid (Rd (w.heap.size ≤ ·) w' A kr rk ∧ Sl A kr c) ∧ Below w.heap.size w w')
    (W8 : ∀ w : World, Calls Tryd.prog 25 #[.slice none 0 0, .int .u64 n] w fun e w' => ∃ A' c', e = .returned (.slice A' 8 c') ∧ Hid (w'.ownsRow w.heap.size 5 1 (.slice A' 8 c') 8 (u8s wd)) ∧ Below w.heap.size w w')
    (T : ∀ (A1 : Option Addr) (c1 : Nat) (A2 : Option Addr) (c2 : Nat) (w : World), Rd (fun _ => True) w A1 kr rk → Sl A1 kr c1 → Rd (fun _ => True) w A2 (8 + m) (wd ++ b) → Sl A2 (8 + m) c2 → KIs w → 0 < w.heap.size → Calls Tryd.prog 10 #[.slice A1 kr c1, .slice A2 (8 + m) c2] w fun E w' => E = .returned (.agg (u8s out).toArray) ∧ Below w.heap.size w w') :
    Calls Tryd.prog 16 #[.int .i64 i, .int .u64 n, .slice A m c] w fun E w' => E = .returned (.agg (u8s out).toArray) ∧ Below w.heap.size w w' := by
  have HR := Lib.hid hr
  have HS := Lib.hid hs
  have HK := Lib.hid hk
  have HO := Lib.hid ho
  have RR := Lib.hid R
  have WW := Lib.hid W8
  have TT := Lib.hid T
  have HIO : Hid ((Tryd.prog.info? 25).map (·.size) = some (u8s out).length) := Lib.hid (by rw [ho]; exact Tryd.size25)
  clear hr hs hk ho R W8 T
  have HA0 : Hid (Below w.heap.size w (w.alloc (.cells (List.replicate 32 (Value.int .u8 0)).toArray 25))) := Lib.hid ((Below.refl _ _).alloc (Nat.le_refl _) _)
  go_enter Tryd.func16, Tryd.ntmps16
  go_wp2_with (first
    | (go_at_call 12; refine (RR.out _ (HK.out.below HA0.out h0) (by simp)).mono ?_; rintro E w1 ⟨A1, c1, rfl, H1, hb1⟩; have HB1 : Hid (Below w.heap.size w w1 ∧ w1.there w.heap.size 0 32 ∧ w.heap.size < w1.heap.size) := Lib.hid ⟨HA0.out.trans (hb1.mono (by simp)), there_below (there_new w (List.replicate 32 (Value.int .u8 0)).toArray 25) hb1 (by simp), by have := hb1.size; simp at this; omega⟩; clear hb1)
    | (go_at_call 25; refine (WW.out w1).mono ?_; rintro E w2 ⟨A2, c2, rfl, H2, hb2⟩; have HB2 : Hid (Below w.heap.size w w2 ∧ w2.there w.heap.size 0 32 ∧ w1.heap.size ≤ w2.heap.size) := Lib.hid ⟨HB1.out.1.trans (hb2.mono HB1.out.1.size), there_below HB1.out.2.1 hb2 HB1.out.2.2, hb2.size⟩; have HK2 := Lib.hid ((H1.out.1.inn).below hb2 (fun _ h _ => h)); clear hb2)
    | (at_builtin; refine wpList_append_gb rfl (.tmp 10) (.tmp 11) rfl w1.heap.size 8 m c _ A wd b rfl rfl H2.out (HR.out.below HB2.out.1 (fun _ h _ => h)) HS.out HB2.out.2.2 (by omega) ?_; intro A5 c5 w5 h5 hg5; have HB5 : Hid (Below w.heap.size w w5 ∧ Rd (fun _ => True) w5 A1 kr rk ∧ w5.there w.heap.size 0 32 ∧ w.heap.size < w5.heap.size) := Lib.hid ⟨HB2.out.1.grown hg5.out HB2.out.1.size (fun k hk => by have := (H2.out.lt k hk).1; have := HB1.out.2.2; omega), HK2.out.grownAt hg5.out (fun k hk => (H2.out.lt k hk).1), there_grownO HB2.out.2.1 hg5.out (fun k hk => by have := (H2.out.lt k hk).1; have := HB1.out.2.2; omega), by have := HB1.out.2.2; have := HB2.out.2.2; have := hg5.out.size; omega⟩; have HR5 : Hid (Rd (fun _ => True) w5 A5 (8 + m) (wd ++ b) ∧ Sl A5 (8 + m) c5) := Lib.hid ⟨(Rd.of_own h5.out.1).mono fun _ _ _ => trivial, h5.out.2⟩; clear h5 hg5)
    | (go_at_call 10; refine (TT.out A1 c1 A5 c5 w5 HB5.out.2.1 H1.out.2 HR5.out.1 HR5.out.2 (HK.out.below HB5.out.1 h0) (Nat.lt_of_lt_of_le h0 HB5.out.1.size)).mono ?_; rintro E w6 ⟨rfl, hb6⟩; have HB6 : Hid (Below w.heap.size w w6) := Lib.hid (HB5.out.1.trans (hb6.mono HB5.out.1.size)); have HT6 : Hid (w6.there w.heap.size 0 (u8s out).length) := Lib.hid (by rw [HO.out]; exact there_below HB5.out.2.2.1 hb6 HB5.out.2.2.2); clear hb6)
    | (refine wpList_store_cells rfl 25 (.tmp 6) (.tmp 13) rfl w.heap.size 0 (u8s out) rfl rfl HT6.out HIO.out (u8s_one _) ?_))
  exact bodyPost_ret (ret_range (cs := u8s out) rfl rfl (World.rangeAt_setCells_same _ _ _ (u8s out) HT6.out) Tryd.underlying25 rfl HIO.out) rfl ⟨rfl, below_setCells (Nat.le_refl _) _ _ _ HB6.out⟩

theorem refNumbered_any {Pb : Nat → Prop} (i : Int) (n : Nat) (b : List UInt8) (A : Option Addr) (m c : Nat) (w : World) (hr : Rd Pb w A m b) (hs : Sl A m c) (hL : m < 900000) (hk : KIs w) (h0 : 0 < w.heap.size) :
    Calls Tryd.prog 16 #[.int .i64 i, .int .u64 n, .slice A m c] w fun E w' => E = .returned (.agg (u8s (numTag i n b)).toArray) ∧ Below w.heap.size w w' := by
  have hkl : (repKey i).length ≤ 32 := keyI_length _ _ _
  refine refNumbered_by (repKey i) (be 8 n) b (numTag i n b) (repKey i).length i n A m c w (by rw [u8s_length, numTag_length]) (by omega) (hr.mono fun _ _ _ => trivial) hs hk h0 (fun w hk h0 => refReplica_any i w hk h0) (fun w => ?_) (fun A1 c1 A2 c2 w h1 h2 h3 h4 hk h0 => ?_)
  · have := refWord_any none 0 0 [] n w (Rd.nil (fun _ => True) _ _) ⟨fun _ => ⟨rfl, rfl⟩, Nat.le_refl _, by omega⟩ (by omega)
    refine this.mono fun e w' ⟨A', c', he, ho, hb⟩ => ⟨A', c', ?_, Lib.hid ?_, hb⟩
    · rw [he]
    · simpa using ho.out.1
  · exact refOf_any (repKey i) (be 8 n ++ b) A1 _ c1 A2 _ c2 w (by omega) (by omega) h1 h2 h3 h4 hk h0
end Go.Proofs.YtfmmldpemdodkaaDoor
