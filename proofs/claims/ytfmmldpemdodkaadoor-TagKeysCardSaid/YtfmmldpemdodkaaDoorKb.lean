/-
  What is proved: the walk of TagKeys for whatever comes in. Conditions as stated.
-/
import Derived.Test.YtfmmldpemdodkaaDoorKa
import Derived.Deep.RegionLaw
namespace Go.Proofs.YtfmmldpemdodkaaDoor
open Go.RowKit

theorem bytes_loop (bs : ByteArray) : ∀ (k i : Nat) (r : List UInt8), i + k = bs.size → ByteArray.toList.loop bs i r = r.reverse ++ bs.data.toList.drop i := by
  intro k
  induction k with
  | zero =>
    intro i r h
    rw [ByteArray.toList.loop]
    have : ¬ i < bs.size := by omega
    rw [if_neg this, List.drop_of_length_le (by rw [Array.length_toList]; show bs.size ≤ i; omega), List.append_nil]
  | succ k ih =>
    intro i r h
    rw [ByteArray.toList.loop]
    have hi : i < bs.size := by omega
    rw [if_pos hi, ih (i + 1) _ (by omega)]
    have hd : i < bs.data.toList.length := by rw [Array.length_toList]; exact hi
    rw [List.drop_eq_getElem_cons hd, List.reverse_cons, List.append_assoc]
    simp [ByteArray.get!, getElem!_pos, hi]
theorem bytes_toList (bs : ByteArray) : bs.toList = bs.data.toList := by
  rw [ByteArray.toList, bytes_loop bs bs.size 0 [] (by omega)]
  rfl
theorem str_ne {x y : List UInt8} (h : x ≠ y) : ((str x).toList == (str y).toList) = false := by
  rw [bytes_toList, bytes_toList, beq_eq_false_iff_ne]
  intro e
  exact h (by simpa [str] using e)
/-- What lies below a row's base stays when the row grows. -/
theorem Rd.grownAt {w w' : World} {A : Option Addr} {B n : Nat} {bs : List UInt8} {row : Option Nat} (h : Rd (· < B) w A n bs) (hg : w.grownBy w' row) (hr : ∀ k, row = some k → B ≤ k) : Rd (fun _ => True) w' A n bs := by
  refine ⟨h.1, fun hn => ?_⟩
  obtain ⟨b, o, hA, hlt, hp, hc⟩ := h.2 hn
  exact ⟨b, o, hA, Nat.lt_of_lt_of_le hlt hg.size, trivial, fun j u hu => hg.cell (hc j u hu) (fun e => by have := hr b e.symm; have hp' : b < B := hp; omega)⟩

set_option maxHeartbeats 4000000 in
set_option maxRecDepth 100000 in
theorem tagKeys_by (key sh fk b dsh din dh df rk wd : List UInt8) (kr i nn : Nat) (A : Option Addr) (n c : Nat) (A' : Option Addr) (n' c' : Nat) (w : World) (hn : n + n' ≤ 4096) (hi : i < 256) (hnn : nn < 256)
    (hdsh : dsh.length = 32) (hdin : din.length = 32) (hdh : dh.length = 32) (hdf : df.length = 32) (hfl : fk.length = 64) (hsl : sh.length ≤ 64) (hat : ∀ j, fk.getD j 0 = if j < sh.length then sh.getD j 0 else 0)
    (hr : Rd (fun _ => True) w A n key) (hs : Sl A n c) (hr' : Rd (fun _ => True) w A' n' b) (hs' : Sl A' n' c') (hW : Works) (hk : KIs w) (h0 : 0 < w.heap.size) (hc : n ≤ 64 ∧ sh = key ∨ 64 < n ∧ sh = dsh)
    (S0 : ∀ w : World, Rd (fun _ => True) w A n key → KIs w → 0 < w.heap.size → Calls Tryd.prog 18 #[.slice A n c] w fun E w' => E = .returned (.agg (u8s dsh).toArray) ∧ Below w.heap.size w w')
    (OS : ∀ (Ak : Option Addr) (nk ck : Nat) (w : World), Rd (fun _ => True) w Ak nk sh → Sl Ak nk ck → Rd (fun _ => True) w A' n' b → KIs w → 0 < w.heap.size → Calls Tryd.prog 9 #[.slice Ak nk ck, .slice A' n' c'] w fun E w' => E = .returned (.agg (u8s dh).toArray) ∧ Below w.heap.size w w')
    (OK : ∀ w : World, Rd (fun _ => True) w A n key → Rd (fun _ => True) w A' n' b → KIs w → 0 < w.heap.size → Calls Tryd.prog 9 #[.slice A n c, .slice A' n' c'] w fun E w' => E = .returned (.agg (u8s dh).toArray) ∧ Below w.heap.size w w')
    (S1 : ∀ (A : Option Addr) (c : Nat) (w : World), Rd (fun _ => True) w A (64 + n') (maskOf 0x36 fk ++ b) → Sl A (64 + n') c → KIs w → 0 < w.heap.size → Calls Tryd.prog 18 #[.slice A (64 + n') c] w fun E w' => E = .returned (.agg (u8s din).toArray) ∧ Below w.heap.size w w')
    (S2 : ∀ (A : Option Addr) (c : Nat) (w : World), Rd (fun _ => True) w A 96 (maskOf 0x5c fk ++ din) → Sl A 96 c → KIs w → 0 < w.heap.size → Calls Tryd.prog 18 #[.slice A 96 c] w fun E w' => E = .returned (.agg (u8s dh).toArray) ∧ Below w.heap.size w w')
    (RK : ∀ (k : Nat) (z : Int) (w : World), z = (k : Int) + 1 → k < 11 → KIs w → 0 < w.heap.size → Calls Tryd.prog 11 #[.int .i64 z] w fun E w' => ∃ g x, E = .returned (.slice (some ⟨g, 0, none⟩) 32 32) ∧ Hid (theKeys[k]? = some x ∧ Rd (fun _ => True) w' (some ⟨g, 0, none⟩) 32 x) ∧ Below w.heap.size w w')
    (CK : ∀ (k : Nat) (z : Int) (w : World), z = (k : Int) + 1 → k < 8 → KIs w → 0 < w.heap.size → Calls Tryd.prog 13 #[.int .i64 z] w fun E w' => ∃ g x, E = .returned (.slice (some ⟨g, 0, none⟩) 32 32) ∧ Hid (theKeys[11 + k]? = some x ∧ Rd (fun _ => True) w' (some ⟨g, 0, none⟩) 32 x) ∧ Below w.heap.size w w')
    (NB : ∀ w : World, Rd (fun _ => True) w A' n' b → KIs w → 0 < w.heap.size → Calls Tryd.prog 15 #[.int .i64 (1 + (i : Int) % 11), .int .u64 nn, .slice A' n' c'] w fun E w' => E = .returned (.agg (u8s df).toArray) ∧ Below w.heap.size w w')
    (RW : ∀ w : World, KIs w → 0 < w.heap.size → Calls Tryd.prog 11 #[.int .i64 (1 + (i : Int) % 11)] w fun E w' => ∃ A c, E = .returned (.slice A kr c) ∧ Hid (Rd (w.heap.size ≤ ·) w' A kr rk ∧ Sl A kr c) ∧ Below w.heap.size w w')
    (W8 : ∀ w : World, Calls Tryd.prog 19 #[.slice none 0 0, .int .u64 nn] w fun E w' => ∃ g c', E = .returned (.slice (some ⟨g, 0, none⟩) 8 c') ∧ Hid (w'.ownsRow w.heap.size 5 1 (.slice (some ⟨g, 0, none⟩) 8 c') 8 (u8s wd)) ∧ Below w.heap.size w w')
    (OF : ∀ (A1 : Option Addr) (c1 : Nat) (A2 : Option Addr) (c2 : Nat) (w : World), Rd (fun _ => True) w A1 kr rk → Sl A1 kr c1 → Rd (fun _ => True) w A2 (8 + n') (wd ++ b) → Sl A2 (8 + n') c2 → KIs w → 0 < w.heap.size → Calls Tryd.prog 9 #[.slice A1 kr c1, .slice A2 (8 + n') c2] w fun E w' => E = .returned (.agg (u8s df).toArray) ∧ Below w.heap.size w w') :
    Calls Tryd.prog 5 #[.slice A n c, .slice A' n' c', .int .u8 i, .int .u8 nn] w fun E w' => E = .returned (.bool true) ∧ Below w.heap.size w w' := by
  have HK := Lib.hid hk
  have HW := Lib.hid hW
  have HR := Lib.hid hr
  have HS := Lib.hid hs
  have HR' := Lib.hid hr'
  have HS' := Lib.hid hs'
  have HAT := Lib.hid hat
  have SA := Lib.hid S0
  have OA := Lib.hid OS
  have OB := Lib.hid OK
  have SB := Lib.hid S1
  have SC := Lib.hid S2
  have RA := Lib.hid RK
  have CA := Lib.hid CK
  have NA := Lib.hid NB
  have RB := Lib.hid RW
  have WA := Lib.hid W8
  have OD := Lib.hid OF
  have heqf := eq_bytes df hdf
  have HFL := Lib.hid hfl
  have HSL := Lib.hid hsl
  have heq := eq_bytes dh hdh
  have hgd := Tryd.guard25
  have HDS : Hid (dsh.length = 32 ∧ (u8s dsh).length = 32) := Lib.hid ⟨hdsh, by rw [u8s_length, hdsh]⟩
  have HDI : Hid (din.length = 32 ∧ (u8s din).length = 32) := Lib.hid ⟨hdin, by rw [u8s_length, hdin]⟩
  have HI1 : Hid ((Tryd.prog.info? 25).map (·.size) = some (u8s dsh).length) := Lib.hid (by rw [HDS.out.2]; exact Tryd.size25)
  have HI2 : Hid ((Tryd.prog.info? 25).map (·.size) = some (u8s din).length) := Lib.hid (by rw [HDI.out.2]; exact Tryd.size25)
  clear hk hW hr hs hr' hs' S0 OS OK S1 S2 RK CK NB RW W8 OF hdsh hdin hdh hdf hfl hsl hat
  go_enter Tryd.func5, Tryd.ntmps5
  go_upto_if 32 with (fail)
  go_cut [9] from 22 (fun s9 wr => ∃ (Ak : Option Addr) (nk ck : Nat), s9 = .slice Ak nk ck ∧ Hid (Below w.heap.size w wr ∧ Rd (fun _ => True) wr Ak nk sh ∧ Sl Ak nk ck))
  case first =>
    rcases hc with ⟨hlen, rfl⟩ | ⟨hlen, rfl⟩
    · go_wp2_with (fail)
      go_meet
      case rel => exact ⟨A, n, c, rfl, Lib.hid ⟨Below.refl _ _, HR.out, HS.out⟩⟩
    · go_wp2_with (first
        | (go_at_call 18; (with_reducible refine (SA.out w HR.out HK.out h0).mono ?_); rintro E w1 ⟨rfl, hb1⟩; have HB1 := Lib.hid hb1; clear hb1)
        | ((with_reducible refine wpList_store_fresh ?_ 25 (.tmp 10) (.tmp 34) ?_ (u8s sh) ?_ ?_ ?_ ?_ ?_ ?_); (· rfl); (· rfl); (· rfl); (· rfl); (· rw [HDS.out.2]; rfl); (· exact HI1.out); (· exact u8s_one _); intro w2 H2; have HB2 := Lib.hid (HB1.out.trans (H2.out.1.mono HB1.out.size)); have HR2 : Hid (Rd (fun _ => True) w2 (some ⟨w1.heap.size, 0, none⟩) 32 sh ∧ Sl (some ⟨w1.heap.size, 0, none⟩) 32 32) := Lib.hid ⟨Rd.of_range H2.out.2.1 H2.out.2.2.2 trivial (fun _ _ h => h) HDS.out.1, ⟨(fun e => by cases e), Nat.le_refl _, by omega⟩⟩)
        | (go_at_call 9; (with_reducible refine (OA.out _ 32 32 w2 HR2.out.1 HR2.out.2 (HR'.out.below HB2.out (fun _ h _ => h)) (HK.out.below HB2.out h0) (Nat.lt_of_lt_of_le h0 HB2.out.size)).mono ?_); rintro E w3 ⟨rfl, hb3⟩; have HB3 := Lib.hid (HB2.out.trans (hb3.mono HB2.out.size)); have HR3 := Lib.hid (HR2.out.1.below hb3 (fun _ h _ => h)); clear hb3)
        | (go_at_call 9; (with_reducible refine (OB.out w3 (HR.out.below HB3.out (fun _ h _ => h)) (HR'.out.below HB3.out (fun _ h _ => h)) (HK.out.below HB3.out h0) (Nat.lt_of_lt_of_le h0 HB3.out.size)).mono ?_); rintro E w4 ⟨rfl, hb4⟩; have HB4 := Lib.hid (HB3.out.trans (hb4.mono HB3.out.size)); have HR4 := Lib.hid (HR3.out.below hb4 (fun _ h _ => h)); clear hb4))
      go_meet
      case rel => exact ⟨_, 32, 32, rfl, Lib.hid ⟨HB4.out, HR4.out, HR2.out.2⟩⟩
  case rest =>
    obtain ⟨Ak, nk, ck, rfl, HC⟩ := hcut
    clear hc
    have HKC := Lib.hid (HK.out.below HC.out.1 h0)
    have H0C := Lib.hid (Nat.lt_of_lt_of_le h0 HC.out.1.size)
    have HRC := Lib.hid (HR.out.below HC.out.1 (fun _ h _ => h))
    have HBC := Lib.hid (HR'.out.below HC.out.1 (fun _ h _ => h))
    go_wp2_with (fail)
    go_loopw [11, 12, 13] (fun v11 v12 v13 wr => ∃ (j c1 c2 : Nat) (A1 A2 : Option Addr), j ≤ 64 ∧ v13 = .int .i64 j ∧ v11 = .slice A1 j c1 ∧ v12 = .slice A2 j c2 ∧ Hid (InAt fk j c1 c2 A1 A2 wc wr)) (fun _ _ v13 _ => 64 - (intOf v13).toNat)
    case atStart => exact ⟨0, 0, 0, none, none, by omega, rfl, rfl, rfl, Lib.hid ⟨Below.refl _ _, ⟨rfl, .inl ⟨rfl, rfl⟩⟩, ⟨fun _ => ⟨rfl, rfl⟩, Nat.le_refl _, by omega⟩, ⟨rfl, .inl ⟨rfl, rfl⟩⟩, ⟨fun _ => ⟨rfl, rfl⟩, Nat.le_refl _, by omega⟩, fun _ => ⟨rfl, rfl⟩⟩⟩
    case round =>
      obtain ⟨j, c1, c2, A1, A2, hj, rfl, rfl, rfl, HI⟩ := hrel
      have HBW := Lib.hid HI.out.bel.size
      by_cases hj64 : j < 64
      · have HJL : Hid (j < fk.length) := Lib.hid (by rw [HFL.out]; exact hj64)
        obtain ⟨x, hx⟩ : ∃ x, x = fk.getD j 0 := ⟨_, rfl⟩
        have HX := Lib.hid hx
        have HX1 : Hid (bits .xor .u8 (x.toNat : Int) 54 = ((x ^^^ 0x36).toNat : Int)) := Lib.hid (b8_xor x 0x36)
        have HX2 : Hid (bits .xor .u8 (x.toNat : Int) 92 = ((x ^^^ 0x5c).toNat : Int)) := Lib.hid (b8_xor x 0x5c)
        by_cases hjn : j < nk
        · have hxs : x = sh.getD j 0 := by rw [hx, HAT.out, if_pos (by rw [HC.out.2.1.1]; exact hjn)]
          obtain ⟨b', o', rfl, hlt, _, hcell⟩ := HC.out.2.1.2 (by omega)
          have hc := (HI.out.bel.cell (p := ⟨b', o' + j, none⟩) hlt).trans (hcell j x (by rw [hxs, List.getD_eq_getElem?_getD, List.getElem?_eq_getElem (by rw [HC.out.2.1.1]; exact hjn)]; rfl))
          clear hx hxs hcell hlt
          go_wp2_with (first
            | (at_builtin; refine wpList_append_byte_gb rfl (.tmp 55) (.tmp 58) rfl wc.heap.size j _ (maskOf 0x36 (fk.take j)) _ (x ^^^ 0x36) rfl rfl HI.out.o1 HBW.out HX1.out (by omega) ?_; intro A3 c3 w3 h3 hg3; have HM : Hid (MidAt fk j c3 c2 A3 A2 wc w3) := Lib.hid (HI.out.mid HJL.out (by rw [← HX.out]; exact h3.out) hg3.out); clear h3 hg3; have HMW := Lib.hid HM.out.bel.size)
            | (at_builtin; refine wpList_append_byte_gb rfl (.tmp 60) (.tmp 63) rfl wc.heap.size j _ (maskOf 0x5c (fk.take j)) _ (x ^^^ 0x5c) rfl rfl HM.out.o2 HMW.out HX2.out (by omega) ?_; intro A4 c4 w4 h4 hg4; have HN : Hid (InAt fk (j + 1) c3 c4 A3 A4 wc w4) := Lib.hid (HM.out.next HJL.out (by rw [← HX.out]; exact h4.out) hg4.out); clear h4 hg4))
          go_roundw
          case measure => simp [intOf]; omega
          case rel => exact ⟨j + 1, c3, c4, A3, A4, by omega, by go_num, rfl, rfl, HN⟩
        · obtain rfl : x = 0 := by rw [hx, HAT.out, if_neg (by rw [HC.out.2.1.1]; exact hjn)]
          clear hx
          go_wp2_with (first
            | (at_builtin; refine wpList_append_byte_gb rfl (.tmp 55) (.tmp 58) rfl wc.heap.size j _ (maskOf 0x36 (fk.take j)) _ 0x36 rfl rfl HI.out.o1 HBW.out rfl (by omega) ?_; intro A3 c3 w3 h3 hg3; have HM : Hid (MidAt fk j c3 c2 A3 A2 wc w3) := Lib.hid (HI.out.mid HJL.out (by rw [← HX.out]; exact h3.out) hg3.out); clear h3 hg3; have HMW := Lib.hid HM.out.bel.size)
            | (at_builtin; refine wpList_append_byte_gb rfl (.tmp 60) (.tmp 63) rfl wc.heap.size j _ (maskOf 0x5c (fk.take j)) _ 0x5c rfl rfl HM.out.o2 HMW.out rfl (by omega) ?_; intro A4 c4 w4 h4 hg4; have HN : Hid (InAt fk (j + 1) c3 c4 A3 A4 wc w4) := Lib.hid (HM.out.next HJL.out (by rw [← HX.out]; exact h4.out) hg4.out); clear h4 hg4))
          go_roundw
          case measure => simp [intOf]; omega
          case rel => exact ⟨j + 1, c3, c4, A3, A4, by omega, by go_num, rfl, rfl, HN⟩
      · obtain rfl : j = 64 := by omega
        have HF : Hid (fk.take 64 = fk) := Lib.hid (List.take_of_length_le (by rw [HFL.out]; exact Nat.le_refl _))
        have HO1 : Hid (wr.ownsRow wc.heap.size 5 1 (.slice A1 64 c1) 64 (u8s (maskOf 0x36 fk))) := Lib.hid (by have := HI.out.o1; rwa [HF.out] at this)
        have HO2 : Hid (wr.ownsRow wc.heap.size 5 1 (.slice A2 64 c2) 64 (u8s (maskOf 0x5c fk))) := Lib.hid (by have := HI.out.o2; rwa [HF.out] at this)
        have HAP := Lib.hid (HI.out.apart (by rw [HFL.out]; omega))
        have HBR := Lib.hid (HBC.out.below HI.out.bel (fun _ h _ => h))
        have hn' : n' ≤ 4096 := by omega
        go_upto_region 19 with (first
          | (at_builtin; refine wpList_append_gb rfl (.tmp 65) (.tmp 66) rfl wc.heap.size 64 n' c' _ A' (maskOf 0x36 fk) b rfl rfl HO1.out HBR.out HS'.out HBW.out (by omega) ?_; intro A5 c5 w5 h5 hg5; have H5 : Hid (Below wc.heap.size wc w5 ∧ w5.ownsRow wc.heap.size 5 1 (.slice A2 64 c2) 64 (u8s (maskOf 0x5c fk))) := Lib.hid ⟨HI.out.bel.grown hg5.out HBW.out (fun k hk => (HO1.out.lt k hk).1), HO2.out.kept hg5.out HAP.out⟩; have HR5 : Hid (Rd (fun _ => True) w5 A5 (64 + n') (maskOf 0x36 fk ++ b) ∧ Sl A5 (64 + n') c5) := Lib.hid ⟨(Rd.of_own h5.out.1).mono fun _ _ _ => trivial, h5.out.2⟩; clear h5 hg5)
          | (go_at_call 18; refine (SB.out A5 c5 w5 HR5.out.1 HR5.out.2 (HKC.out.below H5.out.1 H0C.out) (Nat.lt_of_lt_of_le H0C.out H5.out.1.size)).mono ?_; rintro E w6 ⟨rfl, hb6⟩; have H6 : Hid (Below wc.heap.size wc w6 ∧ w6.ownsRow wc.heap.size 5 1 (.slice A2 64 c2) 64 (u8s (maskOf 0x5c fk))) := Lib.hid ⟨H5.out.1.trans (hb6.mono H5.out.1.size), own_below H5.out.2 hb6⟩; clear hb6)
          | ((with_reducible refine wpList_store_fresh ?_ 25 (.tmp 15) (.tmp 68) ?_ (u8s din) ?_ ?_ ?_ ?_ ?_ ?_); (· rfl); (· rfl); (· rfl); (· rfl); (· rw [HDI.out.2]; rfl); (· exact HI2.out); (· exact u8s_one _); intro w7 h7; have H7 : Hid (Below wc.heap.size wc w7 ∧ w7.ownsRow wc.heap.size 5 1 (.slice A2 64 c2) 64 (u8s (maskOf 0x5c fk)) ∧ Rd (fun _ => True) w7 (some ⟨w6.heap.size, 0, none⟩) 32 din) := Lib.hid ⟨H6.out.1.trans (h7.out.1.mono H6.out.1.size), own_below H6.out.2 h7.out.1, Rd.of_range h7.out.2.1 h7.out.2.2.2 trivial (fun _ _ h => h) HDI.out.1⟩; clear h7))
        simp only [Act.put]
        go_cut [76] from 43 (fun s76 wx => s76 = .bool false ∧ Hid (Below w.heap.size w wx))
        case first =>
          have HD : Hid (Below wc.heap.size wc (w7.drewN 1) ∧ (w7.drewN 1).ownsRow wc.heap.size 5 1 (.slice A2 64 c2) 64 (u8s (maskOf 0x5c fk)) ∧ Rd (fun _ => True) (w7.drewN 1) (some ⟨w6.heap.size, 0, none⟩) 32 din) := Lib.hid ⟨below_drewN H7.out.1 1, own_below H7.out.2.1 (below_drewN (Below.refl _ _) 1), H7.out.2.2⟩
          go_region_law (first
            | (go_simp; go_at_call 9; refine (OB.out (w7.drewN 1) (HRC.out.below HD.out.1 (fun _ h _ => h)) (HBC.out.below HD.out.1 (fun _ h _ => h)) (HKC.out.below HD.out.1 H0C.out) (Nat.lt_of_lt_of_le H0C.out HD.out.1.size)).mono ?_; rintro E w8 ⟨rfl, hb8⟩; have H8 : Hid (Below wc.heap.size wc w8 ∧ w8.ownsRow wc.heap.size 5 1 (.slice A2 64 c2) 64 (u8s (maskOf 0x5c fk)) ∧ Rd (fun _ => True) w8 (some ⟨w6.heap.size, 0, none⟩) 32 din) := Lib.hid ⟨HD.out.1.trans (hb8.mono HD.out.1.size), own_below HD.out.2.1 hb8, HD.out.2.2.below hb8 (fun _ h _ => h)⟩; clear hb8)
            | (refine step_append_gb rfl (.tmp 72) (.tmp 73) rfl wc.heap.size 64 32 32 _ (some ⟨w6.heap.size, 0, none⟩) (maskOf 0x5c fk) din rfl rfl H8.out.2.1 H8.out.2.2 ⟨(fun e => by cases e), Nat.le_refl _, by omega⟩ H8.out.1.size (by omega) ?_; intro A9 c9 w9 h9 hg9; have H9 : Hid (Below wc.heap.size wc w9 ∧ Rd (fun _ => True) w9 A9 96 (maskOf 0x5c fk ++ din) ∧ Sl A9 96 c9) := Lib.hid ⟨H8.out.1.grown hg9.out H8.out.1.size (fun k hk => (H8.out.2.1.lt k hk).1), (Rd.of_own h9.out.1).mono fun _ _ _ => trivial, h9.out.2⟩; clear h9 hg9)
            | (refine step_append_gb rfl (.tmp 72) (.tmp 73) rfl wc.heap.size 64 32 32 _ (some ⟨w6.heap.size, 0, none⟩) (maskOf 0x5c fk) din rfl rfl HD.out.2.1 HD.out.2.2 ⟨(fun e => by cases e), Nat.le_refl _, by omega⟩ HD.out.1.size (by omega) ?_; intro A9 c9 w8 h9 hg9; have HE : Hid (Below wc.heap.size wc w8 ∧ Rd (fun _ => True) w8 A9 96 (maskOf 0x5c fk ++ din) ∧ Sl A9 96 c9) := Lib.hid ⟨HD.out.1.grown hg9.out HD.out.1.size (fun k hk => (HD.out.2.1.lt k hk).1), (Rd.of_own h9.out.1).mono fun _ _ _ => trivial, h9.out.2⟩; clear h9 hg9)
            | (go_simp; go_at_call 9; (with_reducible refine (OB.out w8 (HRC.out.below HE.out.1 (fun _ h _ => h)) (HBC.out.below HE.out.1 (fun _ h _ => h)) (HKC.out.below HE.out.1 H0C.out) (Nat.lt_of_lt_of_le H0C.out HE.out.1.size)).mono ?_); rintro E w9 ⟨rfl, hb9⟩; have H9 : Hid (Below wc.heap.size wc w9 ∧ Rd (fun _ => True) w9 A9 96 (maskOf 0x5c fk ++ din) ∧ Sl A9 96 c9) := Lib.hid ⟨HE.out.1.trans (hb9.mono HE.out.1.size), HE.out.2.1.below hb9 (fun _ h _ => h), HE.out.2.2⟩; clear hb9)
            | (go_simp; go_at_call 18; refine (SC.out A9 c9 w9 H9.out.2.1 H9.out.2.2 (HKC.out.below H9.out.1 H0C.out) (Nat.lt_of_lt_of_le H0C.out H9.out.1.size)).mono ?_; rintro E w10 ⟨rfl, hb10⟩; have H10 := Lib.hid (H9.out.1.trans (hb10.mono H9.out.1.size)); clear hb10))
          all_goals
            go_wp2_with (fail)
            go_meet
            case rel => exact ⟨rfl, Lib.hid (HC.out.1.trans (H10.out.mono HC.out.1.size))⟩
        case rest =>
          obtain ⟨rfl, HL⟩ := hcut
          clear HKC H0C HRC HBC HC HI HBW HF HO1 HO2 HAP HBR H7 OA OB SA SB SC HDS HDI HI1 HI2 HAT heq H5 H6 HR5
          go_wp2_with (fail)
          go_loopw [16, 17] (fun v16 v17 wr => ∃ (k c1 : Nat) (z : Int) (A1 : Option Addr) (gs : List Nat), k ≤ 11 ∧ v17 = .int .i64 z ∧ z = (k : Int) + 1 ∧ v16 = .slice A1 k c1 ∧ Hid (AllAt k c1 A1 gs w wr)) (fun _ v17 _ => 12 - (intOf v17).toNat)
          case atStart => exact ⟨0, 0, 1, none, [], by omega, rfl, by omega, rfl, Lib.hid ⟨HL.out, ⟨rfl, .inl ⟨rfl, rfl⟩⟩, rfl, fun i g h => by simp at h, fun _ => rfl⟩⟩
          case round =>
            clear HL
            obtain ⟨k, c1, z, A1, gs, hk, rfl, hz, rfl, HA⟩ := hrel
            have HKR := Lib.hid (HK.out.below HA.out.bel h0)
            have H0R := Lib.hid (Nat.lt_of_lt_of_le h0 HA.out.bel.size)
            have HZ := Lib.hid hz
            have hz1 : 1 ≤ z := by omega
            by_cases hk11 : k < 11
            · have hz2 : z ≤ 11 := by omega
              clear hz
              go_wp2_with (first
                | (go_at_call 11; (with_reducible refine (RA.out k z wr HZ.out hk11 HKR.out H0R.out).mono ?_); rintro E w2 ⟨g, x, rfl, hx, hb2⟩; have HA2 := Lib.hid (HA.out.next hb2); have HX := hx; clear hx hb2; have HAW := Lib.hid HA2.out.bel.size)
                | (at_builtin; refine wpList_append_key rfl (.tmp 81) (.tmp 84) rfl w.heap.size k _ (gs.map keyVal) (keyVal g) rfl rfl rfl HA2.out.own HAW.out (by omega) ?_; intro A3 c3 w3 h3 hg3; have HA3 : Hid (AllAt (k + 1) c3 A3 (gs ++ [g]) w w3) := Lib.hid (HA2.out.add HX.out.1 HX.out.2 h3.out hg3.out); clear h3 hg3))
              go_roundw
              case measure => simp [intOf]; omega
              case rel => exact ⟨k + 1, c3, z + 1, A3, gs ++ [g], by omega, rfl, by have := HZ.out; omega, rfl, HA3⟩
            · obtain rfl : k = 11 := by omega
              obtain rfl : z = 12 := by omega
              clear hz hz1 HZ
              go_wp2_with (fail)
              go_loopw [16, 18] (fun v16 v18 wr => ∃ (k c1 : Nat) (z : Int) (A1 : Option Addr) (gs : List Nat), k ≤ 8 ∧ v18 = .int .i64 z ∧ z = (k : Int) + 1 ∧ v16 = .slice A1 (11 + k) c1 ∧ Hid (AllAt (11 + k) c1 A1 gs w wr)) (fun _ v18 _ => 9 - (intOf v18).toNat)
              case atStart => exact ⟨0, c1, 1, A1, gs, by omega, rfl, by omega, rfl, HA⟩
              case round =>
                clear HA HKR H0R
                obtain ⟨k, c1, z, A1, gs, hk, rfl, hz, rfl, HA⟩ := hrel
                have HKR := Lib.hid (HK.out.below HA.out.bel h0)
                have H0R := Lib.hid (Nat.lt_of_lt_of_le h0 HA.out.bel.size)
                have HZ := Lib.hid hz
                have hz1 : 1 ≤ z := by omega
                by_cases hk8 : k < 8
                · have hz2 : z ≤ 8 := by omega
                  clear hz
                  go_wp2_with (first
                    | (go_at_call 13; (with_reducible refine (CA.out k z wr HZ.out hk8 HKR.out H0R.out).mono ?_); rintro E w2 ⟨g, x, rfl, hx, hb2⟩; have HA2 := Lib.hid (HA.out.next hb2); have HX := hx; clear hx hb2; have HAW := Lib.hid HA2.out.bel.size)
                    | (at_builtin; refine wpList_append_key rfl (.tmp 90) (.tmp 93) rfl w.heap.size (11 + k) _ (gs.map keyVal) (keyVal g) rfl rfl rfl HA2.out.own HAW.out (by omega) ?_; intro A3 c3 w3 h3 hg3; have HA3 : Hid (AllAt (11 + k + 1) c3 A3 (gs ++ [g]) w w3) := Lib.hid (HA2.out.add HX.out.1 HX.out.2 h3.out hg3.out); clear h3 hg3))
                  go_roundw
                  case measure => simp [intOf]; omega
                  case rel => exact ⟨k + 1, c3, z + 1, A3, gs ++ [g], by omega, rfl, by have := HZ.out; omega, rfl, HA3⟩
                · obtain rfl : k = 8 := by omega
                  obtain rfl : z = 9 := by omega
                  clear hz hz1 HZ
                  have HA19 : Hid (AllAt 19 c1 A1 gs w wr) := HA
                  clear HA
                  obtain ⟨gr, rfl⟩ : ∃ gr, A1 = some ⟨gr, 0, none⟩ := by
                    rcases HA19.out.own.2 with ⟨_, h⟩ | ⟨g, cap, cur, hv, _⟩
                    · cases h
                    · injection hv with h1 h2 h3
                      exact ⟨g, h1⟩
                  clear HKR H0R
                  have HROW : Hid (∀ (wx : World) (j : Nat), AllAt 19 c1 (some ⟨gr, 0, none⟩) gs w wx → j < 19 → ∃ g x, wx.cell? ⟨gr, j, none⟩ = some (.slice (some ⟨g, 0, none⟩) 32 32) ∧ theKeys[j]? = some x ∧ Rd (fun _ => True) wx (some ⟨g, 0, none⟩) 32 x) := Lib.hid fun wx j H hj => by
                    obtain ⟨g, hg⟩ : ∃ g, gs[j]? = some g := ⟨_, List.getElem?_eq_getElem (by rw [H.len]; exact hj)⟩
                    obtain ⟨x, h1, h2⟩ := H.keys j g hg
                    have h3 := H.own.cells (g := gr) rfl j (keyVal g) (by simp [hg])
                    rw [add_lit, Nat.zero_add] at h3
                    exact ⟨g, x, h3, h1, h2⟩
                  go_wp2_with (fail)
                  go_loopw [19] (fun v19 wr => ∃ j : Nat, j ≤ 19 ∧ v19 = .int .i64 j ∧ Hid (AllAt 19 c1 (some ⟨gr, 0, none⟩) gs w wr)) (fun v19 _ => 19 - (intOf v19).toNat)
                  case atStart => exact ⟨0, by omega, rfl, HA19⟩
                  case round =>
                    clear HA19
                    obtain ⟨j, hj, rfl, HA⟩ := hrel
                    by_cases hj19 : j < 19
                    · obtain ⟨wo, hwo⟩ : ∃ wo : World, wo = wr := ⟨_, rfl⟩
                      rw [← hwo]
                      rw [← hwo] at HA
                      clear hwo
                      go_wp2_with (fail)
                      go_loopw [20] (fun v20 wr => ∃ m : Nat, m ≤ j ∧ v20 = .int .i64 m ∧ Hid (AllAt 19 c1 (some ⟨gr, 0, none⟩) gs w wr)) (fun v20 _ => j - (intOf v20).toNat)
                      case atStart => exact ⟨0, by omega, rfl, HA⟩
                      case round =>
                        clear HA
                        obtain ⟨m, hm, rfl, HA⟩ := hrel
                        by_cases hmj : m < j
                        · obtain ⟨g1, x1, hc1, hk1, hr1⟩ := HROW.out _ j HA.out hj19
                          obtain ⟨g2, x2, hc2, hk2, hr2⟩ := HROW.out _ m HA.out (by omega)
                          have hne := str_ne (x := x1) (y := x2) fun e => unlike_at theKeys m j x2 x1 keys_unlike hmj hk2 hk1 e.symm
                          have HC1 := Lib.hid hr1
                          have HC2 := Lib.hid hr2
                          obtain ⟨s1, hs1⟩ : ∃ s, s = str x1 := ⟨_, rfl⟩
                          obtain ⟨s2, hs2⟩ : ∃ s, s = str x2 := ⟨_, rfl⟩
                          have hv1 : ∀ q : Nat, (convert 22 9 (.slice (some ⟨g1, 0, none⟩) 32 32)).run Tryd.prog (wr.drewN q) = .ok (.string s1) (wr.drewN q) := fun q => by rw [hs1]; exact run_string (HC1.out.drewN q)
                          have hv2 : ∀ q : Nat, (convert 22 9 (.slice (some ⟨g2, 0, none⟩) 32 32)).run Tryd.prog (wr.drewN q) = .ok (.string s2) (wr.drewN q) := fun q => by rw [hs2]; exact run_string (HC2.out.drewN q)
                          rw [← hs1, ← hs2] at hne
                          clear hs1 hs2 hk1 hk2 hr1 hr2
                          go_wp2_with (fail)
                          go_quiet (fail)
                          go_wp2_with (fail)
                          go_roundw
                          case measure => simp [intOf]; omega
                          case rel => exact ⟨m + 1, by omega, by go_num, Lib.hid (HA.out.drewN _)⟩
                        · obtain rfl : m = j := by omega
                          go_wp2_with (fail)
                          go_roundw
                          case measure => simp [intOf]; omega
                          case rel => exact ⟨m + 1, by omega, by go_num, HA⟩
                    · obtain rfl : j = 19 := by omega
                      have HKL := Lib.hid (HK.out.below HA.out.bel h0)
                      have H0L := Lib.hid (Nat.lt_of_lt_of_le h0 HA.out.bel.size)
                      have HBL := Lib.hid (HR'.out.below HA.out.bel (fun _ h _ => h))
                      have HL := Lib.hid HA.out.bel
                      have hn' : n' ≤ 4096 := by omega
                      clear HA HROW
                      go_wp2_with (first
                        | (go_at_call 15; refine (NA.out wr HBL.out HKL.out H0L.out).mono ?_; rintro E w2 ⟨rfl, hb2⟩; have HB2 := Lib.hid (HL.out.trans (hb2.mono HL.out.size)); clear hb2)
                        | (go_at_call 11; refine (RB.out w2 (HK.out.below HB2.out h0) (Nat.lt_of_lt_of_le h0 HB2.out.size)).mono ?_; rintro E w3 ⟨A3, c3, rfl, h3, hb3⟩; have HB3 := Lib.hid (HB2.out.trans (hb3.mono HB2.out.size)); clear hb3)
                        | (go_at_call 19; refine (WA.out w3).mono ?_; rintro E w4 ⟨g4, c4, rfl, h4, hb4⟩; have HB4 : Hid (Below w.heap.size w w4 ∧ Rd (fun _ => True) w4 A3 kr rk ∧ w3.heap.size ≤ w4.heap.size) := Lib.hid ⟨HB3.out.trans (hb4.mono HB3.out.size), (h3.out.1.below hb4 (fun _ h _ => h)).mono fun _ _ _ => trivial, hb4.size⟩; have HR4 := Lib.hid ((h3.out.1.inn).below hb4 (fun _ h _ => h)); clear hb4)
                        | (at_builtin; refine wpList_append_gb rfl (.tmp 130) (.tmp 131) rfl w3.heap.size 8 n' c' _ A' wd b rfl rfl h4.out (HR'.out.below HB4.out.1 (fun _ h _ => h)) HS'.out HB4.out.2.2 (by omega) ?_; intro A5 c5 w5 h5 hg5; have HB5 : Hid (Below w.heap.size w w5 ∧ Rd (fun _ => True) w5 A3 kr rk) := Lib.hid ⟨HB4.out.1.grown hg5.out HB4.out.1.size (fun k hk => by have := (h4.out.lt k hk).1; have := HB3.out.size; omega), HR4.out.grownAt hg5.out (fun k hk => (h4.out.lt k hk).1)⟩; have HR5 : Hid (Rd (fun _ => True) w5 A5 (8 + n') (wd ++ b) ∧ Sl A5 (8 + n') c5) := Lib.hid ⟨(Rd.of_own h5.out.1).mono fun _ _ _ => trivial, h5.out.2⟩; clear h5 hg5)
                        | (go_at_call 9; refine (OD.out A3 c3 A5 c5 w5 HB5.out.2 h3.out.2 HR5.out.1 HR5.out.2 (HK.out.below HB5.out.1 h0) (Nat.lt_of_lt_of_le h0 HB5.out.1.size)).mono ?_; rintro E w6 ⟨rfl, hb6⟩; have HB6 := Lib.hid (HB5.out.1.trans (hb6.mono HB5.out.1.size)); clear hb6)
                        | (go_at_call 8; refine (HW.out w6 (HK.out.below HB6.out h0) (Nat.lt_of_lt_of_le h0 HB6.out.size)).mono ?_; rintro E w7 ⟨rfl, hb7⟩; have HB7 := Lib.hid (HB6.out.trans (hb7.mono HB6.out.size)); clear hb7))
                      go_ret
                      exact ⟨rfl, HB7.out⟩
end Go.Proofs.YtfmmldpemdodkaaDoor
