/-
  What is proved: what Numbered of tag answers. Conditions as stated.
-/
import Derived.Test.YtfmmldpemdodkaaDoorTe
namespace Go.Proofs.YtfmmldpemdodkaaDoor
open Go.RowKit

def numTag (i : Int) (n : Nat) (b : List UInt8) : List UInt8 := hmac (repKey i) (be 8 n ++ b)
theorem numTag_length (i : Int) (n : Nat) (b : List UInt8) : (numTag i n b).length = 32 := hmac_length _ _

set_option maxHeartbeats 400000 in
theorem numbered_by {Pb : Nat → Prop} (key wd b out : List UInt8) (i : Int) (n : Nat) (A : Option Addr) (m c : Nat) (w : World) (ho : (u8s out).length = 32) (hr : Rd Pb w A m b) (hs : Sl A m c) (hk : KIs w) (h0 : 0 < w.heap.size)
    (R : ∀ w : World, KIs w → 0 < w.heap.size → Calls Tryd.prog 11 #[.int .i64 i] w fun E w' => ∃ A c, E = .returned (.slice A key.length c) ∧ Hid (Rd (w.heap.size ≤ ·) w' A key.length key ∧ Sl A key.length c) ∧ Below w.heap.size w w')
    (W8 : ∀ w : World, Calls Tryd.prog 19 #[.slice none 0 0, .int .u64 n] w fun e w' => ∃ g c', e = .returned (.slice (some ⟨g, 0, none⟩) 8 c') ∧ Hid (Rd (fun _ => True) w' (some ⟨g, 0, none⟩) 8 wd ∧ Sl (some ⟨g, 0, none⟩) 8 c') ∧ Below w.heap.size w w')
    (T : ∀ (A0 : Option Addr) (c0 g g' c' : Nat) (w : World), Rd (fun _ => True) w A0 key.length key → Sl A0 key.length c0 → Lists w (some ⟨g, 0, none⟩) 2 [(some ⟨g', 0, none⟩, c', wd), (A, c, b)] → KIs w → 0 < w.heap.size → Calls Tryd.prog 20 #[.slice A0 key.length c0, .slice (some ⟨g, 0, none⟩) 2 2] w fun E w' => E = .returned (.agg (u8s out).toArray) ∧ Below w.heap.size w w') :
    Calls Tryd.prog 15 #[.int .i64 i, .int .u64 n, .slice A m c] w fun E w' => E = .returned (.agg (u8s out).toArray) ∧ Below w.heap.size w w' := by
  have HR := Lib.hid hr
  have HS := Lib.hid hs
  have HK := Lib.hid hk
  have HO := Lib.hid ho
  have RR := Lib.hid R
  have WW := Lib.hid W8
  have TT := Lib.hid T
  have HIO : Hid ((Tryd.prog.info? 25).map (·.size) = some (u8s out).length) := Lib.hid (by rw [ho]; exact Tryd.size25)
  clear hr hs hk ho R W8 T
  have HA0 : Hid (Below w.heap.size w (w.alloc (.cells (List.replicate 32 (Value.int .u8 0)).toArray 25))) := Lib.hid ((Below.refl _ _).alloc (Nat.le_refl _) _)
  go_enter Tryd.func15, Tryd.ntmps15
  go_wp2_with (first
    | (go_at_call 11; refine (RR.out _ (HK.out.below HA0.out h0) (by simp)).mono ?_; rintro E w1 ⟨A1, c1, rfl, H1, hb1⟩; have HB1 : Hid (Below w.heap.size w w1 ∧ w1.there w.heap.size 0 32 ∧ w.heap.size < w1.heap.size) := Lib.hid ⟨HA0.out.trans (hb1.mono (by simp)), there_below (there_new w (List.replicate 32 (Value.int .u8 0)).toArray 25) hb1 (by simp), by have := hb1.size; simp at this; omega⟩; clear hb1)
    | (go_at_call 19; refine (WW.out w1).mono ?_; rintro E w2 ⟨g, c2, rfl, H2, hb2⟩; have HB2 : Hid (Below w.heap.size w w2 ∧ w2.there w.heap.size 0 32 ∧ w.heap.size < w2.heap.size) := Lib.hid ⟨HB1.out.1.trans (hb2.mono HB1.out.1.size), there_below HB1.out.2.1 hb2 HB1.out.2.2, Nat.lt_of_lt_of_le HB1.out.2.2 hb2.size⟩; have HK2 := Lib.hid (H1.out.1.below hb2 (fun _ h _ => h)); clear hb2)
    | (go_at_call 20; refine (TT.out A1 c1 w2.heap.size g c2 _ ((HK2.out.below ((Below.refl _ _).alloc (Nat.le_refl _) _) (fun _ h _ => h)).mono fun _ _ _ => trivial) H1.out.2 (lists_two H2.out.1 H2.out.2 (HR.out.below HB2.out.1 (fun _ h _ => h)) HS.out _) (HK.out.below (HB2.out.1.alloc HB2.out.1.size _) h0) (by simp)).mono ?_; rintro E w3 ⟨rfl, hb3⟩; have HB3 : Hid (Below w.heap.size w w3) := Lib.hid ((HB2.out.1.alloc HB2.out.1.size _).trans (hb3.mono (by have := HB2.out.2.2; simp; omega))); have HT3 : Hid (w3.there w.heap.size 0 (u8s out).length) := Lib.hid (by rw [HO.out]; exact there_below (World.there_alloc HB2.out.2.1 _) hb3 (by have := HB2.out.2.2; simp; omega)); clear hb3)
    | (refine wpList_store_cells rfl 25 (.tmp 6) (.tmp 13) rfl w.heap.size 0 (u8s out) rfl rfl HT3.out HIO.out (u8s_one _) ?_))
  exact bodyPost_ret (ret_range (cs := u8s out) rfl rfl (World.rangeAt_setCells_same _ _ _ (u8s out) HT3.out) Tryd.underlying25 rfl HIO.out) rfl ⟨rfl, below_setCells (Nat.le_refl _) _ _ _ HB3.out⟩

theorem keyI_length (name : List UInt8) (most i : Int) : (keyI name most i).length ≤ 32 := by
  unfold keyI
  split
  · simp
  · rw [sumOf_length]; omega

theorem own_some_shape {w : World} {B n g c : Nat} {xs : List Value} (h : w.ownsRow B 5 1 (.slice (some ⟨g, 0, none⟩) n c) n xs) : Sl (some ⟨g, 0, none⟩) n c := by
  obtain ⟨A2, c2, e2, h2⟩ := own_shape h
  injection e2 with e3 e4 e5
  subst e3 e5
  exact h2

theorem numbered_any {Pb : Nat → Prop} (i : Int) (n : Nat) (b : List UInt8) (A : Option Addr) (m c : Nat) (w : World) (hr : Rd Pb w A m b) (hs : Sl A m c) (hL : m < 1000000000000) (hk : KIs w) (h0 : 0 < w.heap.size) :
    Calls Tryd.prog 15 #[.int .i64 i, .int .u64 n, .slice A m c] w fun E w' => E = .returned (.agg (u8s (numTag i n b)).toArray) ∧ Below w.heap.size w w' := by
  have hkl : (repKey i).length ≤ 32 := keyI_length _ _ _
  refine numbered_by (repKey i) (be 8 n) b (numTag i n b) i n A m c w (by rw [u8s_length, numTag_length]) hr hs hk h0 (fun w hk h0 => replica_any i w hk h0)
    (fun w => ?_) (fun A0 c0 g g' c' w h1 h2 h3 hk h0 => ?_)
  · have := word_any none 0 0 [] n w (Rd.nil (fun _ => True) _ _) (by omega)
    refine this.mono fun e w' ⟨g, c', he, ho, hb⟩ => ⟨g, c', ?_, Lib.hid ⟨?_, ?_⟩, hb⟩
    · rw [he]
    · have := (Rd.of_own ho).mono (Q := fun _ => True) fun _ _ _ => trivial
      simpa using this
    · have := own_some_shape ho
      simpa using this
  · obtain rfl : b.length = m := hr.1
    have := tagOf_any (repKey i) [(some ⟨g', 0, none⟩, c', be 8 n), (A, c, b)] A0 c0 (some ⟨g, 0, none⟩) 2 2 w h1 h2 (by omega) h3 (by omega) (by simp [catOf, be_length]; omega) hk h0
    rwa [show catOf [((some ⟨g', 0, none⟩ : Option Addr), c', be 8 n), (A, c, b)] = be 8 n ++ b by simp [catOf]] at this
end Go.Proofs.YtfmmldpemdodkaaDoor
