/- Laws and walks. -/
import Derived.Test.YtllbbcifcbkgeaaGreatDoorF18p
set_option maxHeartbeats 16000000
set_option maxRecDepth 100000
namespace Go.Proofs.YtllbbcifcbkgeaaGreatDoor.Sh
open Go.RowKit
theorem works_any (w : World) (hk : KIs w) (h0 : 0 < w.heap.size) : Calls Tryz.prog 13 #[] w fun E w' => E = .returned (.bool true) /\ Below w.heap.size w w' := by
 have hz := zero_msg
 have hzl := msgC_length zeroMsg_wf
 have hzn : ¬ (msgC zeroMsg = []) := fun e => by rw [e] at hzl; cases hzl
 have HT1 : Hid (∀ X W, X = (msgC mW1).toArray -> KIs W -> 0 < W.heap.size -> Calls Tryz.prog 28 #[.agg X] W fun E w' => E = .returned (.agg (msgC oW1).toArray) /\ Hid (Below W.heap.size W w')) := iq fun X W hX h1 h2 => by subst hX; have := tagged_any mW1 W mW1_wf (prs_w _ rfl W) (by decide) h1 h2; rw [tag_w1] at this; exact this
 have HT2 : Hid (∀ X W, X = (msgC mW2).toArray -> KIs W -> 0 < W.heap.size -> Calls Tryz.prog 28 #[.agg X] W fun E w' => E = .returned (.agg (msgC oW2).toArray) /\ Hid (Below W.heap.size W w')) := iq fun X W hX h1 h2 => by subst hX; have := tagged_any mW2 W mW2_wf (prs_w _ rfl W) (by decide) h1 h2; rw [tag_w2] at this; exact this
 obtain ⟨x, hx⟩ : ∃ x, oW1.tag[0]? = some x := ⟨_, List.getElem?_eq_getElem (by rw [oW1_wf.2.2]; decide)⟩
 have hxx : bits .xor .u8 (x.toNat : Int) 1 = ((x ^^^ 1).toNat : Int) := b8_xor x 1
 obtain ⟨y, hy⟩ : ∃ y, y = x ^^^ 1 := ⟨_, rfl⟩
 have HBad := iq (chk_bad x hx)
 rw [<- hy] at hxx HBad
 have HSet : Hid ((msgC oW1).set 89 (.int .u8 (y.toNat : Int)) = msgC (oW1.turned 0 y)) := iq (msgC_turn oW1 oW1_wf 0 y)
 have HGet : Hid ((msgC oW1)[89]? = some (.int .u8 (x.toNat : Int))) := iq (by have := msgC_tag oW1 oW1_wf (i := 0); rw [hx] at this; exact this)
 have HBw := iq (turned_wf oW1_wf 0 y)
 have HBq : Hid ((oW1.turned 0 y).body.qs = []) := iq rfl
 have HW1 := iq oW1_wf
 have HW2 := iq oW2_wf
 have HQ1 : Hid (oW1.body.qs = []) := iq rfl
 have HQ2 : Hid (oW2.body.qs = []) := iq rfl
 have HK1 := iq chk_w1
 have HK2 := iq chk_w2
 have HK3 := iq chk_w2b
 have HK4 := iq chk_w1b
 have HSn := iq snc_w
 clear hx hy
 have HNm := iq (fun (a a2 : Option Addr) (c c2 : Nat) => nm_snoc (nm_snoc nm_nil chk_w1 a c) (chk_w2b a c) a2 c2)
 have HQs : Hid (∀ (a a2 : Option Addr) (c c2 : Nat), ∀ m ∈ ([] ++ [oW1.at a c] ++ [oW2.at a2 c2] : List MMsg), m.body.qs.length <= 1000000) := iq fun a a2 c c2 m hm => by simp at hm; rcases hm with rfl | rfl <;> exact Nat.zero_le _
 obtain ⟨ob, hob⟩ : ∃ m, m = oW1.turned 0 y := ⟨_, rfl⟩
 rw [<- hob] at HBad HSet HBw HBq
 clear hob
 generalize oW1 = o1 at *
 generalize oW2 = o2 at *
 obtain ⟨v, hv⟩ : ∃ v, v = v1 := ⟨_, rfl⟩
 have HVl : Hid (v.length = 11) := iq (by rw [hv]; rfl)
 rw [<- hv] at HSn
 obtain ⟨Z, hZ⟩ : ∃ m, m = msgC zeroMsg := ⟨_, rfl⟩
 rw [<- hZ] at hz hzl hzn
 have HZl := iq hzl
 have HZe := iq hZ
 have HVe := iq hv
 clear hv hZ
 have HLE : Hid (∀ m : MMsg, m.Wf -> 0 + (msgC m).length <= Z.length /\ setAll Z 0 (msgC m) = msgC m) := iq fun m hm => ⟨by rw [msgC_length hm, HZl.out]; omega, setAll_all (by rw [msgC_length hm, HZl.out])⟩
 have HIm := iq (fun (m : MMsg) (hm : m.Wf) => info_msg hm)
 have H0 := iq (Fr.start hk h0)
 clear hk h0
 go_enter Tryz.func13, Tryz.ntmps13
 go_wp2_with (go_at_call 15; refine (lnew_any 3 rfl _).mono ?_)
 rintro E w1 ⟨b, rfl, hl, hb, b1⟩
 have H1 : Hid (Fr w w1 [loT b 3 (fun _ => none) (fun _ => 0) []]) := iq (H0.out.add b1 hl (loT_ok _ _ _ _ _) fun k hk => by rcases hk with rfl | ⟨_, _, e⟩ | ⟨_, e, _⟩ <;> first | exact hb | cases e)
 clear hl hb b1 H0
 have HSi : Hid (∀ (W : World) (A : Nat -> Option Addr) (C : Nat -> Nat) (L : List MMsg), (loT b 3 A C L).P W -> Nm L -> (∀ m ∈ L, m.body.qs.length <= 1000000) -> KIs W -> 0 < W.heap.size -> ∀ X, X = (u64s v).toArray -> Calls Tryz.prog 26 #[.pointer (some ⟨b, 0, none⟩), .agg X, .int .i64 9] W fun E W' => ∃ A' c out, E = .returned (.slice A' out.length c) /\ out.map MMsg.bare = (snc v 9 L).map MMsg.bare /\ Fr W W' [mrT A' c out, qsT out]) := iq fun W A C L h hn hq hk h0 X hX => by subst hX; exact since_any h hn v HVl.out 9 hq hk h0
 obtain ⟨A0, hA0⟩ : ∃ A : Nat -> Option Addr, A = fun _ => none := ⟨_, rfl⟩
 obtain ⟨C0, hC0⟩ : ∃ C : Nat -> Nat, C = fun _ => 0 := ⟨_, rfl⟩
 rw [<- hA0, <- hC0] at H1
 clear hA0 hC0
 go_wp2_with (first | (go_at_call 15; refine (new_two _).mono ?_; rintro E w2 ⟨rfl, rfl⟩) | (go_at_call 28; refine (HT1.out _ _ (by rw [HZe.out]; kernel_rfl) H1.out.ksW H1.out.posW).mono ?_; rintro E w3 ⟨rfl, b3⟩; have H3 := iq ((H1.out.below b3.out).box Z.toArray 52); clear b3 H1) | (refine wpList_store_part rfl 52 (.tmp 5) (.tmp 33) rfl w3.heap.size 0 Z (msgC o1) (msgC o1) 52 H3.out.hd (HLE.out o1 HW1.out).1 (HLE.out o1 HW1.out).2 rfl rfl (HIm.out o1 HW1.out) (one_msgC _) ?_; intro w4 G; have Hw4 : Hid (Fr w w4 [loT b 3 A0 C0 [], blkT w3.heap.size (msgC o1).toArray 52]) := iq (Fr.swap (show Fr w w4 (blkT w3.heap.size (msgC o1).toArray 52 :: [loT b 3 A0 C0 []]) from H3.out.turn (own_grown G.out.2 rfl) G.out.1 (blkT_ok _ _ _))); clear G H3) | (go_at_call 28; refine (HT2.out _ _ (by rw [HZe.out]; kernel_rfl) Hw4.out.ksW Hw4.out.posW).mono ?_; rintro E w5 ⟨rfl, b5⟩; have H5 := iq ((Hw4.out.below b5.out).box Z.toArray 52); clear b5 Hw4) | (refine wpList_store_part rfl 52 (.tmp 6) (.tmp 37) rfl w5.heap.size 0 Z (msgC o2) (msgC o2) 52 H5.out.hd (HLE.out o2 HW2.out).1 (HLE.out o2 HW2.out).2 rfl rfl (HIm.out o2 HW2.out) (one_msgC _) ?_; intro w6 G; have Hw6 : Hid (Fr w w6 [loT b 3 A0 C0 [], blkT w5.heap.size (msgC o2).toArray 52, blkT w3.heap.size (msgC o1).toArray 52]) := iq (Fr.swap (show Fr w w6 (blkT w5.heap.size (msgC o2).toArray 52 :: [loT b 3 A0 C0 [], blkT w3.heap.size (msgC o1).toArray 52]) from H5.out.turn (own_grown G.out.2 rfl) G.out.1 (blkT_ok _ _ _))); clear G H5) | (((with_reducible refine wpList_load_midG ?_ 52 (.tmp 5) ?_ w3.heap.size 0 ?_ (msgC o1) _ ?_ Tryz.underlying52 ?_ ?_ ?_); rotate_left; rfl; rfl; exact range_of Hw6.out.hd3; rfl; exact (HIm.out o1 HW1.out); rotate_left; rfl); have H7 := iq (Hw6.out.box Z.toArray 52); clear Hw6) | (refine wpList_store_part rfl 52 (.tmp 7) (.tmp 38) rfl w6.heap.size 0 Z (msgC o1) (msgC o1) 52 H7.out.hd (HLE.out o1 HW1.out).1 (HLE.out o1 HW1.out).2 rfl rfl (HIm.out o1 HW1.out) (one_msgC _) ?_; intro w7 G; have Hw7 : Hid (Fr w w7 [loT b 3 A0 C0 [], blkT w6.heap.size (msgC o1).toArray 52, blkT w5.heap.size (msgC o2).toArray 52, blkT w3.heap.size (msgC o1).toArray 52]) := iq (Fr.swap (show Fr w w7 (blkT w6.heap.size (msgC o1).toArray 52 :: [loT b 3 A0 C0 [], blkT w5.heap.size (msgC o2).toArray 52, blkT w3.heap.size (msgC o1).toArray 52]) from H7.out.turn (own_grown G.out.2 rfl) G.out.1 (blkT_ok _ _ _))); clear G H7; have hc7 : w7.cell? ⟨w6.heap.size, 89, none⟩ = some (.int .u8 (x.toNat : Int)) := block_cell Hw7.out.hd2 89 _ HGet.out; have hf7 : w7.frozen? ⟨w6.heap.size, 89, none⟩ = false := free_block Hw7.out.hd2 89; have H8 : Hid (Fr w (w7.setCell ⟨w6.heap.size, 89, none⟩ (.int .u8 (y.toNat : Int))) [loT b 3 A0 C0 [], blkT w6.heap.size (msgC ob).toArray 52, blkT w5.heap.size (msgC o2).toArray 52, blkT w3.heap.size (msgC o1).toArray 52]) := iq (Fr.swap (show Fr w _ (blkT w6.heap.size (msgC ob).toArray 52 :: [loT b 3 A0 C0 [], blkT w5.heap.size (msgC o2).toArray 52, blkT w3.heap.size (msgC o1).toArray 52]) from by have := Hw7.out.swap.set 89 (.int .u8 (y.toNat : Int)); rw [HSet.out] at this; exact this)); clear Hw7) | ((with_reducible refine wpList_load_midG ?_ 52 (.tmp 6) ?_ w5.heap.size 0 ?_ (msgC o2) _ ?_ Tryz.underlying52 ?_ ?_ ?_); rotate_left; rfl; rfl; exact range_of H8.out.hd3; rfl; exact (HIm.out o2 HW2.out); rotate_left; rfl) | (go_at_call 18; refine (add_fr H8.out o2 HW2.out (prs_w o2 HQ2.out _) (by rw [HQ2.out]; decide) (by decide)).mono ?_; rintro E w9 ⟨he, hne, _⟩; rw [HK2.out] at he hne; subst he; have H9 := iq (hne (by decide)); clear hne H8) | ((with_reducible refine wpList_load_midG ?_ 52 (.tmp 7) ?_ w6.heap.size 0 ?_ (msgC ob) _ ?_ Tryz.underlying52 ?_ ?_ ?_); rotate_left; rfl; rfl; exact range_of H9.out.hd2; rfl; exact (HIm.out ob HBw.out); rotate_left; rfl) | (go_at_call 17; refine (check_any H9.out.hd ob HBw.out (prs_w ob HBq.out _) (by rw [HBq.out]; decide) H9.out.ksW H9.out.posW).mono ?_; rintro E w10 ⟨he, hb10⟩; rw [HBad.out] at he; subst he; have H10 := iq (H9.out.below hb10); clear hb10 H9) | ((with_reducible refine wpList_load_midG ?_ 52 (.tmp 5) ?_ w3.heap.size 0 ?_ (msgC o1) _ ?_ Tryz.underlying52 ?_ ?_ ?_); rotate_left; rfl; rfl; exact range_of H10.out.pop.hd3; rfl; exact (HIm.out o1 HW1.out); rotate_left; rfl) | (go_at_call 18; refine (add_fr H10.out o1 HW1.out (prs_w o1 HQ1.out _) (by rw [HQ1.out]; decide) (by decide)).mono ?_; rintro E w11 ⟨he, _, hz11⟩; rw [HK1.out] at he; subst he; obtain ⟨A1, C1, a1, c1, h11⟩ := hz11 HK1.out; have H11 := iq h11; clear hz11 h11 H10) | ((with_reducible refine wpList_load_midG ?_ 52 (.tmp 6) ?_ w5.heap.size 0 ?_ (msgC o2) _ ?_ Tryz.underlying52 ?_ ?_ ?_); rotate_left; rfl; rfl; exact range_of H11.out.hd3; rfl; exact (HIm.out o2 HW2.out); rotate_left; rfl) | (go_at_call 18; refine (add_fr H11.out o2 HW2.out (prs_w o2 HQ2.out _) (by rw [HQ2.out]; decide) (by simp)).mono ?_; rintro E w12 ⟨he, _, hz12⟩; rw [HK3.out] at he; subst he; obtain ⟨A2, C2, a2, c2, h12⟩ := hz12 (HK3.out _ _); have H12 := iq h12; clear hz12 h12 H11) | ((with_reducible refine wpList_load_midG ?_ 52 (.tmp 5) ?_ w3.heap.size 0 ?_ (msgC o1) _ ?_ Tryz.underlying52 ?_ ?_ ?_); rotate_left; rfl; rfl; exact range_of H12.out.pop.hd3; rfl; exact (HIm.out o1 HW1.out); rotate_left; rfl) | (go_at_call 18; refine (add_fr H12.out o1 HW1.out (prs_w o1 HQ1.out _) (by rw [HQ1.out]; decide) (by simp)).mono ?_; rintro E w13 ⟨he, hne, _⟩; rw [HK4.out] at he hne; subst he; have H13 := iq (hne (by decide)); clear hne H12) | (go_at_call 21; refine (len_any H13.out.hd).mono ?_; rintro E w14 ⟨he, hw14⟩; rw [show (([] ++ [o1.at a1 c1] ++ [o2.at a2 c2] : List MMsg).length : Int) = 2 from rfl] at he; subst he; subst hw14))
 go_at_call 26
 refine (HSi.out _ _ _ _ H13.out.hd (HNm.out a1 a2 c1 c2) (HQs.out a1 a2 c1 c2) H13.out.ksW H13.out.posW _ (by rw [HVe.out]; rfl)).mono ?_
 rintro E w15 ⟨A15, c15, out, he, ho, hf15⟩
 have hl15 : out.length = 1 := by
  have := congrArg List.length ho
  rw [List.length_map, List.length_map, HSn.out] at this
  exact this
 rw [hl15] at he
 subst he
 have H15 := iq (H13.out.join hf15)
 clear ho hf15 hl15 H13
 go_wp2_with fail
 go_ret
 exact ⟨rfl, H15.out.bel⟩
open Go.RowKit
def Ms (W : World) (A : Option Addr) (l : List MMsg) : Prop := (∀ m ∈ l, m.Wf) /\ (0 < l.length -> ∃ g o, A = some ⟨g, o, none⟩ /\ g < W.heap.size /\ ∀ (j : Nat) (m : MMsg), l[j]? = some m -> W.rangeAt g (o + j * 121) (msgC m))
theorem Ms.below {W W' : World} {A : Option Addr} {l : List MMsg} (h : Ms W A l) (hb : Below W.heap.size W W') : Ms W' A l :=
 ⟨h.1, fun hn => let ⟨g, o, e, hl, hc⟩ := h.2 hn; ⟨g, o, e, Nat.lt_of_lt_of_le hl hb.size, fun j m hm => rangeAt_below' (hc j m hm) hl W' hb⟩⟩
open Go.RowKit
end Go.Proofs.YtllbbcifcbkgeaaGreatDoor.Sh
