/- Laws and walks. -/
import Derived.Test.YtllbbcifcbkgeaaGreatDoorH16a
import Derived.Test.YtllbbcifcbkgeaaGreatDoorF13a
import Derived.Test.YtllbbcifcbkgeaaGreatDoorFba
set_option maxHeartbeats 16000000
set_option maxRecDepth 100000
namespace Go.Proofs.YtllbbcifcbkgeaaGreatDoor.Sh
open Go.RowKit
def bX : MBody := { zeroBody with kind := 3, view := 2 }
def mX2 : MMsg := { zeroMsg with origin := 1, number := 2, deps := v1, body := bX }
def oX2 : MMsg := { mX2 with tag := numTag 1 2 (msgB mX2) }
theorem bX_wf : bX.Wf := ⟨rfl, rfl⟩
theorem mX2_wf : mX2.Wf := ⟨rfl, bX_wf, rfl⟩
theorem oX2_wf : oX2.Wf := ⟨rfl, bX_wf, numTag_length _ _ _⟩
theorem bX_may : bX.may := by
 refine ⟨by kernel_rfl, by decide, ?_⟩
 have e : bodyOwn bX = { zeroBody with kind := 3, view := 2 } := by simp [bodyOwn, bX, zeroBody]
 rw [e]
 exact ⟨rfl, rfl, rfl, rfl, rfl⟩
theorem mX2_may : mX2.may := ⟨by decide, ⟨by decide, rfl, fun x hx => by
 rcases List.mem_cons.1 hx with rfl | hx
 ·omega
 ·have : x = 0 := List.eq_of_mem_replicate hx; omega⟩, bX_may⟩
theorem oX2_may : oX2.may := mX2_may
theorem oX2_right : oX2.right := ⟨oX2_may, rfl⟩
theorem tag_x2 : tagM mX2 = oX2 := if_pos mX2_may
theorem chk_x2 (a : Option Addr) (c : Nat) : chk 3 [] (oX2.at a c) = 12 := chk_far (m := oX2.at a c) oX2_may (by rfl) oX2_right (show 0 + 1 < 2 by decide)
theorem chk_x1 (a : Option Addr) (c : Nat) : chk 3 [] (oW1.at a c) = 0 := by
 rw [chk_next (m := oW1.at a c) oW1_may (by rfl) oW1_right (by rfl) (by rfl) false (by rfl)]
 rfl
theorem chk_x2b (a a2 : Option Addr) (c c2 : Nat) : chk 3 ([] ++ [(oW1.at a c)]) (oX2.at a2 c2) = 0 := by
 rw [chk_next (m := oX2.at a2 c2) oX2_may (by rfl) oX2_right (by rfl) (by rfl) false (by rfl)]
 rfl
theorem mb_some {W : World} {b : Nat} {mb : Option Nat} {ws : List MMsg} (h : WaitAt W b mb ws) (hn : ws ≠ []) : ∃ k, mb = some k := by
 cases mb with
 | none => exact absurd (WaitAt.nil h) hn
 | some k => exact ⟨k, rfl⟩
theorem put_first {v W : World} {os : List Thing} {b bl n : Nat} {A : Nat -> Option Addr} {C : Nat -> Nat} {L : List MMsg} (H : Fr v W (waT b none [] :: loT bl n A C L :: os)) (m : MMsg) (hm : m.Wf) (hq : m.body.qs = []) (hp : PkOk m.pk) (hc : chk n L m = 12) :
  Calls Tryz.prog 35 #[.pointer (some ⟨b, 0, none⟩), .pointer (some ⟨bl, 0, none⟩), .agg (msgC m).toArray] W fun E W' => E = .returned (.int .i64 0) /\ ∃ k A' c', Fr v W' (waT b (some k) [m.at A' c'] :: loT bl n A C L :: os) := by
 refine (put_may H m hm (fun W' _ => prs_w m hq W') (by rw [hq]; decide) hp (by decide) (by rw [hc]; rfl)).mono fun E W' ⟨mb', A', c', e, hf⟩ => ?_
 have e1 : ∀ A c, putW (chk n L m) [] (m.at A c) = (0, [m.at A c]) := fun A c => by rw [hc]; rfl
 rw [<- putW_at _ _ m none 0, e1] at e
 rw [e1] at hf
 obtain ⟨k, rfl⟩ := mb_some hf.hd (by simp)
 exact ⟨e, k, A', c', hf⟩
theorem put_second {v W : World} {os : List Thing} {b k bl n : Nat} {A : Nat -> Option Addr} {C : Nat -> Nat} {L : List MMsg} {t : MMsg} (H : Fr v W (waT b (some k) [t] :: loT bl n A C L :: os)) (m : MMsg) (hm : m.Wf) (hq : m.body.qs = []) (hp : PkOk m.pk) (hc : chk n L m = 0) (ht : t.pk ≠ m.pk) :
  Calls Tryz.prog 35 #[.pointer (some ⟨b, 0, none⟩), .pointer (some ⟨bl, 0, none⟩), .agg (msgC m).toArray] W fun E W' => E = .returned (.int .i64 0) /\ ∃ k A' c', Fr v W' (waT b (some k) [t, m.at A' c'] :: loT bl n A C L :: os) := by
 refine (put_may H m hm (fun W' _ => prs_w m hq W') (by rw [hq]; decide) hp (show 1 <= 1000000 by decide) (by rw [hc]; rfl)).mono fun E W' ⟨mb', A', c', e, hf⟩ => ?_
 have hn : ∀ A c, fW [t] (m.at A c).pk = none := fun A c => fW_none.2 fun x hx => by rw [List.mem_singleton.1 hx]; exact ht
 have hcn : ∀ r, cnN r [t] < 11 := fun r => Nat.lt_of_le_of_lt (cnN_le r [t]) (show 1 < 11 by decide)
 have e1 : ∀ A c, putW (chk n L m) [t] (m.at A c) = (0, [t, m.at A c]) := fun A c => by
  unfold putW
  rw [hc, hn, if_neg (by decide), if_neg (by decide), if_pos (hcn _)]
  rfl
 rw [<- putW_at _ _ m none 0, e1] at e
 rw [e1] at hf
 obtain ⟨k, rfl⟩ := mb_some hf.hd (by simp)
 exact ⟨e, k, A', c', hf⟩
theorem mw12 {n : Nat} {L : List MMsg} {m : MMsg} (h : chk n L m = 12) : mwB n L m = true := by rw [mwB, h]; rfl
theorem mw0 {n : Nat} {L : List MMsg} {m : MMsg} (h : chk n L m = 0) : mwB n L m = true := by rw [mwB, h]; rfl
theorem next_no {v W : World} {os : List Thing} {b k bl n : Nat} {A : Nat -> Option Addr} {C : Nat -> Nat} {L : List MMsg} {t : MMsg} (H : Fr v W (waT b (some k) [t] :: loT bl n A C L :: os)) (hc : chk n L t = 12) :
  Calls Tryz.prog 33 #[.pointer (some ⟨b, 0, none⟩), .pointer (some ⟨bl, 0, none⟩)] W fun E W' => E = .returned (.tuple #[.agg (msgC zeroMsg).toArray, .bool false]) /\ Fr v W' (waT b (some k) [t] :: loT bl n A C L :: os) := by
 refine (next_some H).mono fun E W' ⟨o, ws', e, hx, hf, _⟩ => ?_
 have ho : o = none := by
  cases o with
  | none => rfl
  | some a =>
   obtain ⟨h1, h2, _⟩ := hx.sel.is a rfl
   rw [List.mem_singleton.1 h1, hc] at h2
   cases h2
 subst ho
 have hp := hx.perm
 rw [List.filter_cons_of_pos (mw12 hc), List.filter_nil] at hp
 have hw := List.perm_singleton.1 hp
 have hz := wdel_none hx.zero
 rw [show fstP none = (0, 0) from rfl, hz, hw] at hf
 exact ⟨e, hf⟩
theorem next_two {v W : World} {os : List Thing} {b k bl n : Nat} {A : Nat -> Option Addr} {C : Nat -> Nat} {L : List MMsg} {t s : MMsg} (H : Fr v W (waT b (some k) [t, s] :: loT bl n A C L :: os)) (hc : chk n L t = 12) (hs : chk n L s = 0) :
  Calls Tryz.prog 33 #[.pointer (some ⟨b, 0, none⟩), .pointer (some ⟨bl, 0, none⟩)] W fun E W' => E = .returned (.tuple #[.agg (msgC s).toArray, .bool true]) /\ Fr v W' (waT b (some k) [t] :: loT bl n A C L :: os) := by
 have hdk := WaitAt.dk H.hd
 refine (next_some H).mono fun E W' ⟨o, ws', e, hx, hf, _⟩ => ?_
 have ho : o = some s := by
  cases o with
  | none => exact absurd hs (hx.sel.no rfl s (by simp))
  | some a =>
   obtain ⟨h1, h2, _⟩ := hx.sel.is a rfl
   rcases List.mem_cons.1 h1 with rfl | h1
   ·rw [hc] at h2; cases h2
   ·rw [List.mem_singleton.1 h1]
 subst ho
 have hp := hx.perm
 rw [List.filter_cons_of_pos (mw12 hc), List.filter_cons_of_pos (mw0 hs), List.filter_nil] at hp
 have hd' : Dk ws' := (hp.pairwise_iff (@fun _ _ h => Ne.symm h)).2 hdk
 have hm : s ∈ ws' := (hx.is hd').1
 have h5 : (wdel ws' s.pk).Perm [t] := (List.perm_cons s).1 ((wdel_perm hd' hm).trans (hp.trans (List.Perm.swap s t [])))
 have hw := List.perm_singleton.1 h5
 rw [show fstP (some s) = s.pk from rfl, hw] at hf
 exact ⟨e, hf⟩
theorem next_last {v W : World} {os : List Thing} {b k bl n : Nat} {A : Nat -> Option Addr} {C : Nat -> Nat} {L : List MMsg} {t : MMsg} (H : Fr v W (waT b (some k) [t] :: loT bl n A C L :: os)) (hc : chk n L t = 0) :
  Calls Tryz.prog 33 #[.pointer (some ⟨b, 0, none⟩), .pointer (some ⟨bl, 0, none⟩)] W fun E W' => E = .returned (.tuple #[.agg (msgC t).toArray, .bool true]) /\ Fr v W' (waT b (some k) [] :: loT bl n A C L :: os) := by
 have hdk := WaitAt.dk H.hd
 refine (next_some H).mono fun E W' ⟨o, ws', e, hx, hf, _⟩ => ?_
 have ho : o = some t := by
  cases o with
  | none => exact absurd hc (hx.sel.no rfl t (by simp))
  | some a => rw [List.mem_singleton.1 (hx.sel.is a rfl).1]
 subst ho
 have hp := hx.perm
 rw [List.filter_cons_of_pos (mw0 hc), List.filter_nil] at hp
 have hw := List.perm_singleton.1 hp
 subst hw
 have h6 : wdel [t] t.pk = [] := by rw [wdel, List.filter_cons_of_neg (by simp), List.filter_nil]
 rw [show fstP (some t) = t.pk from rfl, h6] at hf
 exact ⟨e, hf⟩
theorem pk_x1 : PkOk oW1.pk := ⟨rfl, rfl⟩
theorem pk_x2 : PkOk oX2.pk := ⟨rfl, rfl⟩
open Go.RowKit
theorem num_cell {W : World} {x k : Nat} {m : MMsg} {t : TypeId} (h : W.heap[x]? = some (.cells (msgC m).toArray t (0, 0))) (hk : m.number = k) : W.cell? ⟨x, 1, none⟩ = some (.int .u64 (k : Int)) := by
 subst hk
 exact block_cell (C := msgC m) h 1 _ (msgC_01 m).2
theorem wworks_any (w : World) (hk : KIs w) (h0 : 0 < w.heap.size) : Calls Tryz.prog 31 #[] w fun E w' => E = .returned (.bool true) /\ Below w.heap.size w w' := by
 have hz := zero_msg
 have hzl := msgC_length zeroMsg_wf
 have hzn : ¬ (msgC zeroMsg = []) := fun e => by rw [e] at hzl; cases hzl
 have HT1 : Hid (∀ X W, X = (msgC mW1).toArray -> KIs W -> 0 < W.heap.size -> Calls Tryz.prog 28 #[.agg X] W fun E w' => E = .returned (.agg (msgC oW1).toArray) /\ Hid (Below W.heap.size W w')) := iq fun X W hX h1 h2 => by subst hX; have := tagged_any mW1 W mW1_wf (prs_w _ rfl W) (by decide) h1 h2; rw [tag_w1] at this; exact this
 have HT2 : Hid (∀ X W, X = (msgC mX2).toArray -> KIs W -> 0 < W.heap.size -> Calls Tryz.prog 28 #[.agg X] W fun E w' => E = .returned (.agg (msgC oX2).toArray) /\ Hid (Below W.heap.size W w')) := iq fun X W hX h1 h2 => by subst hX; have := tagged_any mX2 W mX2_wf (prs_w _ rfl W) (by decide) h1 h2; rw [tag_x2] at this; exact this
 have HW1 := iq oW1_wf
 have HW2 := iq oX2_wf
 have HQ1 : Hid (oW1.body.qs = []) := iq rfl
 have HQ2 : Hid (oX2.body.qs = []) := iq rfl
 have HP1 := iq pk_x1
 have HP2 := iq pk_x2
 have HNe : Hid (∀ A c, (oX2.at A c).pk ≠ oW1.pk) := iq fun A c e => by have := congrArg Prod.snd e; cases this
 have HK1 := iq chk_x1
 have HK2 := iq chk_x2
 have HK3 := iq chk_x2b
 have HN1 : Hid (oW1.number = 1) := iq rfl
 have HN2 : Hid (oX2.number = 2) := iq rfl
 have HK10 : Hid (chk 3 [] oW1 = 0) := iq chk_w1
 have HK20 : Hid (chk 3 [] oX2 = 12) := iq (chk_x2 none 0)
 generalize oW1 = o1 at *
 generalize oX2 = o2 at *
 obtain ⟨Z, hZ⟩ : ∃ m, m = msgC zeroMsg := ⟨_, rfl⟩
 rw [<- hZ] at hz hzl hzn
 have HZl := iq hzl
 have HZe := iq hZ
 clear hZ
 have HLE : Hid (∀ m : MMsg, m.Wf -> 0 + (msgC m).length <= Z.length /\ setAll Z 0 (msgC m) = msgC m) := iq fun m hm => ⟨by rw [msgC_length hm, HZl.out]; omega, setAll_all (by rw [msgC_length hm, HZl.out])⟩
 have HIm := iq (fun (m : MMsg) (hm : m.Wf) => info_msg hm)
 have H0 := iq (Fr.start hk h0)
 clear hk h0
 go_enter Tryz.func31, Tryz.ntmps31
 go_wp2_with (go_at_call 15; refine (lnew_any 3 rfl _).mono ?_)
 rintro E w1 ⟨b, rfl, hl, hb, b1⟩
 have H1 : Hid (Fr w w1 [loT b 3 (fun _ => none) (fun _ => 0) []]) := iq (H0.out.add b1 hl (loT_ok _ _ _ _ _) fun k hk => by rcases hk with rfl | ⟨_, _, e⟩ | ⟨_, e, _⟩ <;> first | exact hb | cases e)
 clear hl hb b1 H0
 obtain ⟨A0, hA0⟩ : ∃ A : Nat -> Option Addr, A = fun _ => none := ⟨_, rfl⟩
 obtain ⟨C0, hC0⟩ : ∃ C : Nat -> Nat, C = fun _ => 0 := ⟨_, rfl⟩
 rw [<- hA0, <- hC0] at H1
 clear hA0 hC0
 go_wp2_with (first | (go_at_call 28; refine (HT1.out _ _ (by rw [HZe.out]; kernel_rfl) H1.out.ksW H1.out.posW).mono ?_; rintro E w3 ⟨rfl, b3⟩; have H3 := iq ((H1.out.below b3.out).box Z.toArray 52); clear b3 H1) | (refine wpList_store_part rfl 52 (.tmp 3) (.tmp 26) rfl w3.heap.size 0 Z (msgC o1) (msgC o1) 52 H3.out.hd (HLE.out _ HW1.out).1 (HLE.out _ HW1.out).2 rfl rfl (HIm.out _ HW1.out) (one_msgC _) ?_; intro w4 G; have H4 : Hid (Fr w w4 (blkT w3.heap.size (msgC o1).toArray 52 :: [loT b 3 A0 C0 []])) := iq (H3.out.turn (own_grown G.out.2 rfl) G.out.1 (blkT_ok _ _ _)); clear G H3) | (go_at_call 28; refine (HT2.out _ _ (by rw [HZe.out]; kernel_rfl) H4.out.ksW H4.out.posW).mono ?_; rintro E w5 ⟨rfl, b5⟩; have H5 := iq ((H4.out.below b5.out).box Z.toArray 52); clear b5 H4) | (refine wpList_store_part rfl 52 (.tmp 4) (.tmp 30) rfl w5.heap.size 0 Z (msgC o2) (msgC o2) 52 H5.out.hd (HLE.out _ HW2.out).1 (HLE.out _ HW2.out).2 rfl rfl (HIm.out _ HW2.out) (one_msgC _) ?_; intro w6 G; have H6 : Hid (Fr w w6 (blkT w5.heap.size (msgC o2).toArray 52 :: [blkT w3.heap.size (msgC o1).toArray 52, loT b 3 A0 C0 []])) := iq (H5.out.turn (own_grown G.out.2 rfl) G.out.1 (blkT_ok _ _ _)); clear G H5) | (go_at_call 32; refine (wnew_any _).mono ?_; rintro E w7 ⟨rfl, hw7⟩; have H7 := iq (wait_new H6.out); rw [<- hw7] at H7; clear hw7 H6) | (((with_reducible refine wpList_load_midG ?_ 52 (.tmp 4) ?_ w5.heap.size 0 ?_ (msgC o2) _ ?_ Tryz.underlying52 ?_ ?_ ?_); rotate_left; rfl; rfl; exact (range_of H7.out.hd2); rfl; exact (HIm.out _ HW2.out); rotate_left; rfl)))
 have H8 : Hid (Fr w w7 (waT w6.heap.size none [] :: loT b 3 A0 C0 [] :: [blkT w5.heap.size (msgC o2).toArray 52, blkT w3.heap.size (msgC o1).toArray 52])) := iq (H7.out.perm (List.Perm.cons _ (List.perm_middle (a := loT b 3 A0 C0 []) (l₁ := [blkT w5.heap.size (msgC o2).toArray 52, blkT w3.heap.size (msgC o1).toArray 52]) (l₂ := []))))
 clear H7
 refine (put_first H8.out o2 HW2.out HQ2.out HP2.out HK20.out).mono ?_
 rintro E w8 ⟨rfl, k1, A1, c1, h⟩
 have H9 := iq h
 clear h H8
 have HT := iq (HK2.out A1 c1)
 have HTw := iq (MMsg.at_wf HW2.out A1 c1)
 have HTn : Hid ((o2.at A1 c1).number = 2) := iq HN2.out
 have HTp := iq (HNe.out A1 c1)
 have HT3 := iq (fun a c => HK3.out a A1 c c1)
 generalize o2.at A1 c1 = t at *
 go_wp2_with fail
 refine (next_no H9.out HT.out).mono ?_
 rintro E w9 ⟨rfl, h⟩
 have H10 := iq (h.box Z.toArray 52)
 clear h H9
 rw [<- HZe.out]
 go_wp2_with (first | (refine wpList_store_part rfl 52 (.tmp 7) (.tmp 40) rfl w9.heap.size 0 Z Z Z 52 H10.out.hd (by omega) (setAll_all rfl) rfl rfl (by rw [HZl.out]; exact Tryz.is52) (by rw [HZe.out]; exact one_msgC _) ?_; intro w10 G; have H11 : Hid (Fr w w10 (waT w6.heap.size (some k1) [t] :: loT b 3 A0 C0 [] :: [blkT w5.heap.size (msgC o2).toArray 52, blkT w3.heap.size (msgC o1).toArray 52])) := iq (Fr.pop (o := blkT w9.heap.size Z.toArray 52) (H10.out.turn (own_grown G.out.2 rfl) G.out.1 (blkT_ok _ _ _))); clear G H10) | (((with_reducible refine wpList_load_midG ?_ 52 (.tmp 3) ?_ w3.heap.size 0 ?_ (msgC o1) _ ?_ Tryz.underlying52 ?_ ?_ ?_); rotate_left; rfl; rfl; exact (range_of H11.out.pop.pop.pop.hd); rfl; exact (HIm.out _ HW1.out); rotate_left; rfl)))
 refine (put_second H11.out o1 HW1.out HQ1.out HP1.out HK10.out HTp.out).mono ?_
 rintro E w11 ⟨rfl, k2, A2, c2, h⟩
 have H12 := iq h
 clear h H11
 have HS := iq (HK1.out A2 c2)
 have HSw := iq (MMsg.at_wf HW1.out A2 c2)
 have HSn : Hid ((o1.at A2 c2).number = 1) := iq HN1.out
 have HSq : Hid ((o1.at A2 c2).body.qs = []) := iq HQ1.out
 have HT4 : Hid (∀ a c, chk 3 [(o1.at A2 c2).at a c] t = 0) := iq fun a c => HT3.out a c
 generalize o1.at A2 c2 = s at *
 go_wp2_with fail
 refine (next_two H12.out HT.out HS.out).mono ?_
 rintro E w12 ⟨rfl, h⟩
 have H13 := iq (h.box Z.toArray 52)
 clear h H12
 go_wp2_with (first | (refine wpList_store_part rfl 52 (.tmp 10) (.tmp 50) rfl w12.heap.size 0 Z (msgC s) (msgC s) 52 H13.out.hd (HLE.out _ HSw.out).1 (HLE.out _ HSw.out).2 rfl rfl (HIm.out _ HSw.out) (one_msgC _) ?_; intro w13 G; have H14 : Hid (Fr w w13 (blkT w12.heap.size (msgC s).toArray 52 :: waT w6.heap.size (some k2) [t] :: loT b 3 A0 C0 [] :: [blkT w5.heap.size (msgC o2).toArray 52, blkT w3.heap.size (msgC o1).toArray 52])) := iq (H13.out.turn (own_grown G.out.2 rfl) G.out.1 (blkT_ok _ _ _)); clear G H13) | (((with_reducible refine wpList_load_midG ?_ 52 (.tmp 10) ?_ w12.heap.size 0 ?_ (msgC s) _ ?_ Tryz.underlying52 ?_ ?_ ?_); rotate_left; rfl; rfl; exact (range_of H14.out.hd); rfl; exact (HIm.out _ HSw.out); rotate_left; rfl)))
 have H15 : Hid (Fr w w13 (loT b 3 A0 C0 [] :: blkT w12.heap.size (msgC s).toArray 52 :: waT w6.heap.size (some k2) [t] :: [blkT w5.heap.size (msgC o2).toArray 52, blkT w3.heap.size (msgC o1).toArray 52])) := iq H14.out.third
 clear H14
 refine (add_fr H15.out s HSw.out (prs_w s HSq.out _) (by rw [HSq.out]; decide) (by decide)).mono ?_
 rintro E w14 ⟨he, _, hz14⟩
 rw [HS.out] at he
 subst he
 obtain ⟨A3, C3, a3, c3, h⟩ := hz14 HS.out
 have H16 := iq h
 clear h hz14 H15
 have HT5 := iq (HT4.out a3 c3)
 rw [List.nil_append] at H16
 generalize s.at a3 c3 = s3 at *
 have H17 : Hid (Fr w w14 (waT w6.heap.size (some k2) [t] :: loT b 3 A3 C3 [s3] :: blkT w12.heap.size (msgC s).toArray 52 :: [blkT w5.heap.size (msgC o2).toArray 52, blkT w3.heap.size (msgC o1).toArray 52])) := iq H16.out.third
 clear H16
 go_wp2_with fail
 refine (next_last H17.out HT5.out).mono ?_
 rintro E w15 ⟨rfl, h⟩
 have H18 := iq (h.box Z.toArray 52)
 clear h H17
 go_wp2_with (first | (refine wpList_store_part rfl 52 (.tmp 12) (.tmp 59) rfl w15.heap.size 0 Z (msgC t) (msgC t) 52 H18.out.hd (HLE.out _ HTw.out).1 (HLE.out _ HTw.out).2 rfl rfl (HIm.out _ HTw.out) (one_msgC _) ?_; intro w16 G; have H19 : Hid (Fr w w16 (blkT w15.heap.size (msgC t).toArray 52 :: waT w6.heap.size (some k2) [] :: loT b 3 A3 C3 [s3] :: blkT w12.heap.size (msgC s).toArray 52 :: [blkT w5.heap.size (msgC o2).toArray 52, blkT w3.heap.size (msgC o1).toArray 52])) := iq (H18.out.turn (own_grown G.out.2 rfl) G.out.1 (blkT_ok _ _ _)); have y0 : w16.cell? ⟨w12.heap.size, 1, none⟩ = some (.int .u64 1) := num_cell H19.out.pop.pop.pop.hd HSn.out; have y1 : w16.cell? ⟨w15.heap.size, 1, none⟩ = some (.int .u64 2) := num_cell H19.out.hd HTn.out; clear G H18) | (go_at_call 37; refine (wlen_any H19.out.pop.hd).mono ?_; rintro E w17 ⟨rfl, rfl⟩))
 go_ret
 exact ⟨rfl, H19.out.bel⟩
open Go.RowKit
open Go.RowKit
theorem del_nil (w : World) (ty : TypeId) : (Builtin.delete_ #[106, 55] ty #[.map none, .agg (prC (0, 0)).toArray]).run Tryz.prog w = .ok (.tuple #[]) w := by kernel_rfl
theorem next_none {v W : World} {os : List Thing} {b bl : Nat} (H : Fr v W (waT b none [] :: os)) :
  Calls Tryz.prog 33 #[.pointer (some ⟨b, 0, none⟩), .pointer (some ⟨bl, 0, none⟩)] W fun E W' => E = .returned (.tuple #[.agg (msgC zeroMsg).toArray, .bool false]) /\ Fr v W' (waT b none [] :: os) := by
 have hz := zero_msg
 have hzp := zero_pair
 have hzl := msgC_length zeroMsg_wf
 have hzn : ¬ (msgC zeroMsg = []) := fun e => by rw [e] at hzl; cases hzl
 have h1 := (H.box (msgC zeroMsg).toArray 52).box' (k := W.heap.size + 1) (by simp) (prC (0, 0)).toArray 55
 have H1 := iq h1
 have hc : ((W.alloc (.cells (msgC zeroMsg).toArray 52)).alloc (.cells (prC (0, 0)).toArray 55)).cell? ⟨b, 0, none⟩ = some (.map none) := block_cell (C := [.map none]) (WaitAt.top H1.out.hd3) 0 _ rfl
 have hsz : ((W.alloc (.cells (msgC zeroMsg).toArray 52)).alloc (.cells (prC (0, 0)).toArray 55)).heap.size = W.heap.size + 1 + 1 := by simp
 have HSz := iq hsz
 clear H h1 hsz
 go_enter Tryz.func33, Tryz.ntmps33
 go_wp2_with (at_range; refine wpList_range_nilm rfl (.tmp 22) 106 55 52 rfl Tryz.underlying106 rfl ?_; have H3 := iq (it_begin H1.out))
 simp only [Act.put, l0, l1, l2]
 clear hc
 rw [HSz.out] at H3
 rw [HSz.out]
 obtain ⟨r4, hr4⟩ : ∃ r, r = W.heap.size := ⟨_, rfl⟩
 rw [<- hr4] at H3 ⊢
 obtain ⟨r6, hr6⟩ : ∃ r, r = r4 + 1 := ⟨_, rfl⟩
 rw [<- hr6] at H3 ⊢
 obtain ⟨it, hit⟩ : ∃ r, r = r6 + 1 := ⟨_, rfl⟩
 rw [<- hit] at H3 ⊢
 clear hr4 hr6 hit HSz H1
 obtain ⟨w3, hw3⟩ : ∃ X, X = ((W.alloc (.cells (msgC zeroMsg).toArray 52)).alloc (.cells (prC (0, 0)).toArray 55)).alloc (.mapIter none 0 #[] 0) := ⟨_, rfl⟩
 rw [<- hw3] at H3 ⊢
 clear hw3
 go_loopw [7] (fun v7 wr => v7 = .bool false /\ Hid (Fr v wr (itN it :: blkT r6 (prC (0, 0)).toArray 55 :: blkT r4 (msgC zeroMsg).toArray 52 :: waT b none [] :: os))) (fun _ _ => 0)
 case atStart => exact ⟨rfl, H3⟩
 case round =>
  clear H3
  obtain ⟨rfl, H4⟩ := hrel
  go_upto_region 13 with (first | (at_next; refine wpList_next_nilm rfl (.tmp 23) rfl H4.out.hd rfl ?_))
  obtain ⟨D, hD⟩ : ∃ D, D = zeroMsg := ⟨_, rfl⟩
  have HDD := iq hD
  have HDw : Hid D.Wf := iq (by rw [hD]; exact zeroMsg_wf)
  have HIp := iq (info_pair (0, 0))
  have HLk : Hid (∀ W', (Instr.lookup 106 (.map none) (kv (0, 0)) false).run Tryz.prog W' = .ok (.agg (msgC D).toArray) W') := iq fun W' => by rw [hD]; exact (mapN_look W' ⟨rfl, rfl⟩).2
  clear hD
  try simp only [Act.put, l0, l1, l2]
  refine wp_region_any (by kernel_rfl) ?_
  change wpAny _ _ _ _ _ _ _ (World.drewN _ 1)
  refine held_gen (G := fun W' => wpAny _ _ _ _ _ _ _ W') (fun W' => Fr v W' (blkT r6 (prC (0, 0)).toArray 55 :: blkT r4 (msgC zeroMsg).toArray 52 :: waT b none [] :: os)) (H4.out.pop.drewN 1) (fun w5 hw5 => ?_)
  have H5 := iq hw5
  clear hw5 H4
  have HEV : Hid (∀ W', Fr v W' (blkT r6 (prC (0, 0)).toArray 55 :: blkT r4 (msgC zeroMsg).toArray 52 :: waT b none [] :: os) -> W'.cell? ⟨b, 0, none⟩ = some (.map none) /\ W'.rangeAt r6 0 (prC (0, 0))) := iq fun W' hf => ⟨block_cell (C := [.map none]) (WaitAt.top hf.hd3) 0 _ rfl, range_of hf.hd⟩
  have E5 := HEV.out _ H5.out
  refine wpAny_of_held (S := fun W' => W'.cell? ⟨b, 0, none⟩ = some (.map none) /\ W'.rangeAt r6 0 (prC (0, 0))) _ _ _ _ ?_
  refine tk 0 ⟨some 56, .move (.tmp 0), _, _, _, none⟩ (.pointer (some ⟨b, 0, none⟩)) rfl (by kernel_rfl) (fun _ _ _ => id) (E5) (fun W hSW => by go_simp) ?_
  try simp only [Act.put, l0, l1, l2]
  refine tk 1 ⟨some 57, .nilCheck (.tmp 56), _, _, _, none⟩ (.pointer (some ⟨b, 0, none⟩)) rfl (by kernel_rfl) (fun _ _ _ => id) (E5) (fun W hSW => by go_simp) ?_
  try simp only [pu, l0, l1, l2]
  refine tk 2 ⟨some 58, .fieldAddr 108 (.tmp 57) 0, _, _, _, none⟩ (.pointer (some ⟨b, 0, none⟩)) rfl (by kernel_rfl) (fun _ _ _ => id) (E5) (fun W hSW => by go_simp) ?_
  try simp only [pu, l0, l1, l2]
  refine tk 3 ⟨some 59, .load 106 (.tmp 58), _, _, _, none⟩ (.map none) rfl (by kernel_rfl) (fun _ _ _ => id) (E5) (fun W hSW => by have hv := hSW.1; go_simp) ?_
  try simp only [pu, l0, l1, l2]
  refine tk 4 ⟨some 60, .load 55 (.tmp 6), _, _, _, none⟩ (.agg (prC (0, 0)).toArray) rfl (by kernel_rfl) (fun _ _ _ => id) (E5) (fun W hSW => exec_load_mid 55 (.tmp 6) rfl r6 0 rfl (prC (0, 0)) _ hSW.2 Tryz.underlying55 rfl HIp.out) ?_
  try simp only [pu, l0, l1, l2]
  refine tk 5 ⟨some 61, .lookup 106 (.tmp 59) (.tmp 60) false, _, _, _, none⟩ (.agg (msgC D).toArray) rfl (by kernel_rfl) (fun _ _ _ => id) (E5) (fun W hSW => exec_look1 106 (.tmp 59) (.tmp 60) rfl _ _ rfl rfl _ (HLk.out W)) ?_
  try simp only [pu, l0, l1, l2]
  refine rd1 6 ⟨some 11, .alloc 52, _, _, _, none⟩ (by kernel_rfl) rfl fun K' hK' => ?_
  go_simp
  have h6 := H5.out.box (msgC zeroMsg).toArray 52
  obtain ⟨z, hzz⟩ : ∃ z, z = w5.heap.size := ⟨_, rfl⟩
  rw [<- hzz] at h6
  rw [<- hzz]
  have H6 := iq h6
  have E6 := HEV.out _ h6.pop
  clear h6 H5
  refine hK'.out _ _ E6 (fun _ => ?_)
  clear hK' K'
  try simp only [Act.put, l0, l1, l2]
  obtain ⟨w6, hw6⟩ : ∃ w6, w6 = w5.alloc (.cells (msgC zeroMsg).toArray 52) := ⟨_, rfl⟩
  rw [<- hw6] at H6 E6
  rw [<- hw6]
  clear hw6 hzz E5
  refine rd1 7 ⟨none, .store 52 (.tmp 11) (.tmp 61), _, _, _, none⟩ (by kernel_rfl) rfl fun K' hK' => ?_
  refine step_store_cells rfl 52 (.tmp 11) (.tmp 61) rfl z 0 (msgC D) rfl rfl (there_block H6.out.hd 0 _ (by rw [msgC_length HDw.out, hzl]; omega)) (info_msg HDw.out) (one_msgC D) ?_
  have H7 : Hid (Fr v (w6.setCells z 0 (msgC D)) (blkT z (msgC D).toArray 52 :: blkT r6 (prC (0, 0)).toArray 55 :: blkT r4 (msgC zeroMsg).toArray 52 :: waT b none [] :: os)) := iq (by have h := H6.out.setAll 0 (msgC D); rw [setAll_all (by rw [msgC_length HDw.out, hzl])] at h; exact h)
  have E7 := HEV.out _ H7.out.pop
  refine hK'.out _ _ E7 (fun _ => ?_)
  clear hK' K' H6
  try simp only [Act.put]
  generalize w6.setCells z 0 (msgC D) = w7 at H7 E7 ⊢
  refine wpAnyH_done (by kernel_rfl) ?_ _
  clear E6 E7
  go_wp2_with fail
  refine wp_region_any (by kernel_rfl) ?_
  change wpAny _ _ _ _ _ _ _ (World.drewN _ 1)
  refine held_gen (G := fun W' => wpAny _ _ _ _ _ _ _ W') (fun W' => Fr v W' (blkT z (msgC D).toArray 52 :: blkT r6 (prC (0, 0)).toArray 55 :: blkT r4 (msgC zeroMsg).toArray 52 :: waT b none [] :: os)) (H7.out.drewN 1) (fun w8 hw8 => ?_)
  have H8 := iq hw8
  clear hw8 H7
  have E8 := HEV.out _ H8.out.pop
  refine wpAny_of_held (S := fun W' => W'.cell? ⟨b, 0, none⟩ = some (.map none) /\ W'.rangeAt r6 0 (prC (0, 0))) _ _ _ _ ?_
  refine tk 0 ⟨some 62, .move (.tmp 0), _, _, _, none⟩ (.pointer (some ⟨b, 0, none⟩)) rfl (by kernel_rfl) (fun _ _ _ => id) (E8) (fun W hSW => by go_simp) ?_
  try simp only [Act.put, l0, l1, l2]
  refine tk 1 ⟨some 63, .nilCheck (.tmp 62), _, _, _, none⟩ (.pointer (some ⟨b, 0, none⟩)) rfl (by kernel_rfl) (fun _ _ _ => id) (E8) (fun W hSW => by go_simp) ?_
  try simp only [pu, l0, l1, l2]
  refine tk 2 ⟨some 64, .fieldAddr 108 (.tmp 63) 0, _, _, _, none⟩ (.pointer (some ⟨b, 0, none⟩)) rfl (by kernel_rfl) (fun _ _ _ => id) (E8) (fun W hSW => by go_simp) ?_
  try simp only [pu, l0, l1, l2]
  refine tk 3 ⟨some 65, .load 106 (.tmp 64), _, _, _, none⟩ (.map none) rfl (by kernel_rfl) (fun _ _ _ => id) (E8) (fun W hSW => by have hv := hSW.1; go_simp) ?_
  try simp only [pu, l0, l1, l2]
  refine tk 4 ⟨some 66, .load 55 (.tmp 6), _, _, _, none⟩ (.agg (prC (0, 0)).toArray) rfl (by kernel_rfl) (fun _ _ _ => id) (E8) (fun W hSW => exec_load_mid 55 (.tmp 6) rfl r6 0 rfl (prC (0, 0)) _ hSW.2 Tryz.underlying55 rfl HIp.out) ?_
  try simp only [pu, l0, l1, l2]
  refine rd1 5 ⟨none, .call { callee := .builtin .delete, args := #[.tmp 65, .tmp 66], argTypes := #[106, 55] }, _, _, _, none⟩ (by kernel_rfl) rfl fun K' hK' => ?_
  refine step_delete rfl (.tmp 65) (.tmp 66) 106 55 rfl _ _ rfl rfl w8 (del_nil w8 _) ?_
  refine hK'.out _ _ E8 (fun _ => ?_)
  clear hK' K' E8
  try simp only [Act.put]
  refine wpAnyH_done (by kernel_rfl) ?_ _
  have HID := iq (info_msg HDw.out)
  go_wp2_with (first | (((with_reducible refine wpList_load_midG ?_ 52 (.tmp 11) ?_ z 0 ?_ (msgC D) _ ?_ Tryz.underlying52 ?_ ?_ ?_); rotate_left; rfl; rfl; exact (range_of H8.out.hd); rfl; exact HID.out; rotate_left; rfl)) | (refine wpList_store_part rfl 52 (.tmp 4) (.tmp 67) rfl r4 0 (msgC zeroMsg) (msgC D) (msgC D) 52 H8.out.hd3 (by rw [msgC_length HDw.out, hzl]; omega) (setAll_all (by rw [msgC_length HDw.out, hzl])) rfl rfl HID.out (one_msgC D) ?_; intro w10 G10))
  have H10 : Hid (Fr v w10 (blkT r4 (msgC D).toArray 52 :: waT b none [] :: os)) := iq (H8.out.pop.pop.turn (own_grown G10.out.2 rfl) G10.out.1 (blkT_ok _ _ _))
  refine bodyPost_ret (ret_range2 (cs := msgC D) rfl rfl rfl (range_of G10.out.1) Tryz.underlying52 rfl HID.out) rfl ⟨?_, H10.out.pop⟩
  rw [HDD.out]
  rfl
open Go.RowKit
theorem put_any {v W : World} {os : List Thing} {b bl n : Nat} {mb : Option Nat} {ws : List MMsg} {A : Nat -> Option Addr} {C : Nat -> Nat} {L : List MMsg} (H : Fr v W (waT b mb ws :: loT bl n A C L :: os)) (m : MMsg) (hm : m.Wf) (hq : ∀ W', Fr v W' (loT bl n A C L :: os) -> Prs W' m.body.qa m.body.qs) (hn : m.body.qs.length <= 1000000) (hp : PkOk m.pk) (hl : ws.length <= 1000000) :
  Calls Tryz.prog 35 #[.pointer (some ⟨b, 0, none⟩), .pointer (some ⟨bl, 0, none⟩), .agg (msgC m).toArray] W fun E W' => ∃ mb' A' c', E = .returned (.int .i64 (putW (chk n L m) ws m).1) /\ Fr v W' (waT b mb' (putW (chk n L m) ws (m.at A' c')).2 :: loT bl n A C L :: os) := by
 cases hw : (decide (chk n L m = 0) || decide (chk n L m = 12)) with
 | true => exact put_may H m hm hq hn hp hl hw
 | false =>
  have e : ∀ x, putW (chk n L m) ws x = (chk n L m, ws) := fun x => by unfold putW; rw [hw]; rfl
  refine (put_bad H m hm (hq _ H.pop) (by omega) hw).mono fun E W' ⟨h1, h2⟩ => ⟨mb, none, 0, ?_, ?_⟩
  ·rw [e]; exact h1
  ·rw [e]; exact h2
theorem next_any {v W : World} {os : List Thing} {b bl n : Nat} {mb : Option Nat} {ws : List MMsg} {A : Nat -> Option Addr} {C : Nat -> Nat} {L : List MMsg} (H : Fr v W (waT b mb ws :: loT bl n A C L :: os)) :
  Calls Tryz.prog 33 #[.pointer (some ⟨b, 0, none⟩), .pointer (some ⟨bl, 0, none⟩)] W fun E W' => ∃ (o : Option MMsg) (ws' : List MMsg), E = .returned (.tuple #[.agg (msgC (o.getD zeroMsg)).toArray, .bool o.isSome]) /\ Nx n L ws ws' o /\ Fr v W' (waT b mb (wdel ws' (fstP o)) :: loT bl n A C L :: os) /\ ∀ m, o = some m -> m.Wf /\ Prs W' m.body.qa m.body.qs /\ m.body.qs.length <= 1000000 := by
 cases mb with
 | some k => exact next_some H
 | none =>
  have e : ws = [] := WaitAt.nil H.hd
  subst e
  exact (next_none H).mono fun E W' ⟨h1, h2⟩ => ⟨none, [], h1, ⟨List.Perm.refl _, sel_nil n L⟩, h2, fun m h => by cases h⟩
end Go.Proofs.YtllbbcifcbkgeaaGreatDoor.Sh
