/- Laws and walks. -/
import Derived.Test.YtllbbcifcbkgeaaGreatDoorF17p
import Derived.Test.YtllbbcifcbkgeaaGreatDoorG1p
set_option maxHeartbeats 16000000
set_option maxRecDepth 100000
namespace Go.Proofs.YtllbbcifcbkgeaaGreatDoor.Sh
open Go.RowKit
theorem forks_walk {w : World} (hk : KIs w) (h0 : 0 < w.heap.size) (k pick y : Nat) (hk8 : k < 256) (hp8 : pick < 256) (hy8 : y < 256) (A0 : Option Addr) (c0 : Nat) (l : List MAct) (hAs : As w A0 l) (hl : l.length <= 4398046511104) :
  Calls Tryz.prog 5 #[.int .u8 (k : Int), .slice A0 l.length c0, .int .u8 (pick : Int), .int .u8 (y : Int)] w fun E w' => E = .returned (.bool true) /\ Below w.heap.size w w' := by
 have HW : Hid (∀ W os, Fr w W os -> Calls Tryz.prog 13 #[] W fun E w' => E = .returned (.bool true) /\ Below W.heap.size W w') := iq fun W os H => works_any W H.ksW H.posW
 obtain ⟨N, hN⟩ : ∃ N, N = l.length := ⟨_, rfl⟩
 have HN := iq hN
 have HFew : Hid (Calls Tryz.prog 11 #[.slice A0 N c0] w fun E w' => ∃ z, E = .returned (.bool z) /\ (z = true -> N <= 100 /\ ∀ x ∈ l, x.q.length <= 20) /\ w' = w) := iq (by rw [hN]; exact (fewA_any A0 c0 l w hAs hl).mono fun E w' hx => by obtain ⟨z, e, hz, hw⟩ := hx; exact ⟨z, e, hz, hw.symm⟩)
 obtain ⟨n, hn⟩ : ∃ n, n = 3 + 2 * (k % 5) := ⟨_, rfl⟩
 have HActs : Hid ((N <= 100 /\ ∀ x ∈ l, x.q.length <= 20) -> Calls Tryz.prog 14 #[.int .u8 (k : Int), .slice A0 N c0] w fun E w' => ActsP w n l E w') := iq fun hx => by rw [hN, hn]; exact acts_any k hk8 A0 c0 l w hAs (hN ▸ hx.1) hx.2 hk h0
 have hn11 : n <= 11 := by omega
 have hn3 : 3 <= n := by omega
 have HIs : Hid (isN (n : Int) = true) := iq (by rw [isN]; exact decide_eq_true ⟨by omega, by omega, by omega⟩)
 have hz := zero_msg
 have hzl := msgC_length zeroMsg_wf
 have hzn : ¬ (msgC zeroMsg = []) := fun e => by rw [e] at hzl; cases hzl
 obtain ⟨Z, hZ⟩ : ∃ Z, Z = msgC zeroMsg := ⟨_, rfl⟩
 rw [<- hZ] at hz hzl hzn
 have HZl := iq hzl
 have HLE : Hid (∀ m : MMsg, m.Wf -> 0 + (msgC m).length <= Z.length /\ setAll Z 0 (msgC m) = msgC m) := iq fun m hm => ⟨by rw [msgC_length hm, HZl.out]; omega, setAll_all (by rw [msgC_length hm, HZl.out])⟩
 have H1 := iq (Fr.start hk h0)
 rw [<- hN]
 clear hN hn hk h0 hAs hl hk8 hZ hzl
 go_enter Tryz.func5, Tryz.ntmps5
 by_cases h60 : (N : Int) > 60
 ·have h60' : 60 < N := by omega
  go_wp2_with (first | (go_at_call 11; refine (HFew.out).mono ?_; rintro E w1 ⟨z, rfl, hz, rfl⟩; have HZ := iq hz; clear hz) | (go_at_call 13; refine (HW.out _ _ H1.out).mono ?_; rintro E w11 ⟨rfl, b11⟩; have HE := iq (H1.out.below b11); clear b11))
  all_goals (go_ret; exact ⟨rfl, HE.out.bel⟩)
 have h60' : ¬ 60 < N := by omega
 go_upto_region 4 with (first | (go_at_call 11; refine (HFew.out).mono ?_; rintro E w1 ⟨z, rfl, hz, rfl⟩; have HZ := iq hz; clear hz) | (go_at_call 13; refine (HW.out _ _ H1.out).mono ?_; rintro E w11 ⟨rfl, b11⟩; have HE := iq (H1.out.below b11); clear b11) | (go_at_call 14; refine (HActs.out (by first | exact HZ.out rfl | exact HZ.out (by assumption) | exact HZ.out (by simp_all))).mono ?_; rintro E w2 ⟨b, gk, A, c, all, rfl, hbare, hfr⟩; have HBr := iq hbare; have H2 := iq hfr; clear hbare hfr H1))
 all_goals (try (go_ret; exact ⟨rfl, HE.out.bel⟩))
 obtain ⟨M, hM⟩ : ∃ M, M = all.length := ⟨_, rfl⟩
 have HM := iq hM
 have hc0 := block_cell H2.out.hd 0 _ rfl
 have hc1 := block_cell H2.out.hd 1 _ rfl
 rw [<- hM] at hc1
 by_cases hM0 : M = 0
 ·have hM2 : ((M : Int) == 0) = true := by simp [hM0]
  have hM3 : (M : Int) = 0 := by omega
  go_wp2_with (go_at_call 13; refine (HW.out _ _ H2.out).mono ?_; rintro E w11 ⟨rfl, b11⟩; have HE := iq (H2.out.below b11); clear b11)
  go_ret
  exact ⟨rfl, HE.out.bel⟩
 have hMn : 0 < all.length := by omega
 obtain ⟨g, o, rfl, hg⟩ := mr_at H2.out.hd3 hMn
 have HG := iq hg
 have hSl := (mr_sl H2.out.hd3).2
 have hMc : M <= c := by omega
 have hcm : c <= 9223372036854775807 := hSl.2
 have HWf : Hid (∀ m ∈ all, m.Wf) := iq H2.out.hd3.2
 have HChk : Hid (∀ (i : Nat) (m : MMsg), all[i]? = some m -> ∀ L : List MMsg, L.map MMsg.bare = (all.take i).map MMsg.bare -> chk n L m = 0) := iq fun i m hi L hL => world_chk (by omega) hn11 HBr.out hi hL
 have hM60 : M <= 60 := by
  have h1 := congrArg List.length HBr.out
  rw [List.length_map, List.length_map] at h1
  have h2 := (ok_acted n (by omega) l l.length (Nat.le_refl _)).few
  rw [List.take_length] at h2
  have := HN.out
  omega
 clear hg hSl hMn
 have hM1 : ¬ (M : Int) = 0 := by omega
 have hM2 : ((M : Int) == 0) = false := by simpa using hM0
 have hM3 : 0 < M := by omega
 obtain ⟨p, hp⟩ : ∃ p, p = pick % M := ⟨_, rfl⟩
 have htm : Int.tmod (pick : Int) (M : Int) = (p : Int) := by rw [Int.tmod_eq_emod_of_nonneg (by omega), hp]; omega
 have hpM : p < M := by rw [hp]; exact Nat.mod_lt _ hM3
 have hwp : IntKind.i64.wrap (pick : Int) = (pick : Int) := by rw [IntKind.wrap_i64]; omega
 have hwq : IntKind.i64.wrap (p : Int) = (p : Int) := by rw [IntKind.wrap_i64]; omega
 clear hp hM
 have hpM0 : (0 : Int) <= (p : Int) := by omega
 have hpMi : (p : Int) < (M : Int) := by omega
 have hpt : ((p : Int)).toNat = p := by omega
 obtain ⟨m, hm⟩ : ∃ m, all[p]? = some m := ⟨_, List.getElem?_eq_getElem (by rw [<- HM.out]; omega)⟩
 have HMm := iq (List.mem_of_getElem? hm)
 have HMp := iq hm
 have HC0 := iq (HChk.out p m hm _ rfl)
 have HWm := iq (HWf.out m HMm.out)
 have HIm := iq (info_msg HWm.out)
 have HG2 := iq (fun (W : World) h => (HG.out W h p m hm).2)
 clear hm
 obtain ⟨s, hs⟩ : ∃ s, s = 1 + y := ⟨_, rfl⟩
 have hwy : IntKind.u64.wrap (y : Int) = (y : Int) := by rw [IntKind.wrap_u64]; omega
 have hws : IntKind.u64.wrap (1 + (y : Int)) = (s : Int) := by rw [IntKind.wrap_u64]; omega
 have HS1 : Hid (1 <= s /\ s <= 256) := iq (by omega)
 clear hs
 obtain ⟨F, hF⟩ : ∃ F, F = m.fk s := ⟨_, rfl⟩
 have HFw : Hid F.Wf := iq (by rw [hF]; exact fk_wf HWm.out s)
 have HFq : Hid (F.body.qs = []) := iq (by rw [hF]; rfl)
 obtain ⟨T, hT⟩ : ∃ T, T = tagM F := ⟨_, rfl⟩
 have HTw : Hid T.Wf := iq (by rw [hT]; exact tagM_wf HFw.out)
 have HFm : Hid F.may := iq (by rw [hF]; exact fk_may (chk_zero HC0.out).1 HS1.out.1 HS1.out.2)
 have HTq : Hid (T.body.qs = [] /\ T.origin = m.origin /\ T.number = m.number) := iq (by rw [hT, tagM_of HFm.out]; refine ⟨HFq.out, ?_, ?_⟩ <;> rw [hF] <;> rfl)
 have HT13 : Hid (∀ i, p <= i -> ∀ L : List MMsg, L.map MMsg.bare = (all.take (i + 1)).map MMsg.bare -> chk n L T = 13) := iq fun i hi L hL => by rw [hT, hF]; exact fk_chk HMp.out HC0.out hi HS1.out.1 HS1.out.2 hL
 have HTg : Hid (∀ W, KIs W -> 0 < W.heap.size -> Calls Tryz.prog 28 #[.agg (msgC F).toArray] W fun E w' => E = .returned (.agg (msgC T).toArray) /\ Hid (Below W.heap.size W w')) := iq fun W h1 h2 => by rw [hT]; exact tagged_any F W HFw.out (prs_w _ HFq.out W) (by rw [HFq.out]; decide) h1 h2
 have HIF := iq (info_msg HFw.out)
 have HIT := iq (info_msg HTw.out)
 have HIb := iq (info_body (bF_wf s))
 have HSB : Hid (13 + (bodyC (bF s)).length <= (msgC m).length /\ setAll (msgC m) 13 (bodyC (bF s)) = msgC F) := iq ⟨by rw [bodyC_length (bF_wf s), msgC_length HWm.out]; decide, by rw [hF]; exact setAll_body HWm.out s⟩
 have HST : Hid (0 + (msgC T).length <= (msgC F).length /\ setAll (msgC F) 0 (msgC T) = msgC T) := iq ⟨by rw [msgC_length HTw.out, msgC_length HFw.out]; decide, setAll_all (by rw [msgC_length HTw.out, msgC_length HFw.out])⟩
 have HOb := iq (one_bodyC (bF s))
 obtain ⟨VB, hVB⟩ : ∃ VB, VB = bodyC (bF s) := ⟨_, rfl⟩
 rw [<- hVB] at HSB HIb HOb
 have HVB := iq hVB
 clear hT hF hVB
 go_upto_region 12 with (first | (go_at_call 15; refine (lnew_any n HIs.out _).mono ?_; rintro E w3 ⟨b2, rfl, hl, hb, b3⟩; rw [Int.toNat_natCast] at hl; have H3 : Hid (Fr w1 w3 (loT b2 n (fun _ => none) (fun _ => 0) [] :: WL b gk n (acted n l).ks (some ⟨g, o, none⟩) c all)) := iq (H2.out.add b3 hl (loT_ok _ _ _ _ _) fun k hk => by rcases hk with rfl | ⟨_, _, e⟩ | ⟨_, e, _⟩ <;> first | exact hb | cases e); clear hl hb b3 H2; have hc1 := block_cell H3.out.hd2 1 _ rfl; rw [<- HM.out] at hc1; have HR := iq (HG.out w3 H3.out.pop.hd3 p m HMp.out).2; have H4 := iq (H3.out.box Z.toArray 52); clear H3) | ((with_reducible refine wpList_load_midG ?_ 52 (.tmp 64) ?_ g (o + p * 121) ?_ (msgC m) _ ?_ Tryz.underlying52 ?_ ?_ ?_); rotate_left; rfl; rfl; exact HR.out; rfl; exact HIm.out; rotate_left; rfl) | (refine wpList_store_part rfl 52 (.tmp 13) (.tmp 65) rfl w3.heap.size 0 Z (msgC m) (msgC m) 52 H4.out.hd (HLE.out m HWm.out).1 (HLE.out m HWm.out).2 rfl rfl HIm.out (one_msgC _) ?_; intro w5 G5; have H5 : Hid (Fr w1 w5 (blkT w3.heap.size (msgC m).toArray 52 :: loT b2 n (fun _ => none) (fun _ => 0) [] :: WL b gk n (acted n l).ks (some ⟨g, o, none⟩) c all)) := iq (H4.out.turn (own_grown G5.out.2 rfl) G5.out.1 (blkT_ok _ _ _)); clear G5 H4) | (refine wpList_store_part rfl 50 (.tmp 71) (.tmp 70) rfl w3.heap.size 13 (msgC m) (msgC F) VB 52 H5.out.hd HSB.out.1 HSB.out.2 rfl (by rw [HVB.out]; kernel_rfl) HIb.out HOb.out ?_; intro w6 G6; have H6 : Hid (Fr w1 w6 (blkT w3.heap.size (msgC F).toArray 52 :: loT b2 n (fun _ => none) (fun _ => 0) [] :: WL b gk n (acted n l).ks (some ⟨g, o, none⟩) c all)) := iq (H5.out.turn (own_grown G6.out.2 rfl) G6.out.1 (blkT_ok _ _ _)); clear G6 H5))
 obtain ⟨x, hx⟩ : ∃ x, x = w3.heap.size := ⟨_, rfl⟩
 rw [<- hx] at H6 ⊢
 clear hx hc0 hc1 HR
 have HEV : Hid (∀ W X A' C' L, Fr w1 W (blkT x (msgC X).toArray 52 :: loT b2 n A' C' L :: WL b gk n (acted n l).ks (some ⟨g, o, none⟩) c all) -> W.rangeAt x 0 (msgC X) /\ W.cell? ⟨b, 1, none⟩ = some (.slice (some ⟨g, o, none⟩) M c) /\ W.rangeAt g (o + p * 121) (msgC m)) := iq fun W X A' C' L hf => ⟨range_of hf.hd, (by have := block_cell hf.hd3 1 _ rfl; rw [<- HM.out] at this; exact this), HG2.out W hf.pop.pop.pop.pop.hd⟩
 refine wp_region_any (by kernel_rfl) ?_
 change wpAny _ _ _ _ _ _ _ (World.drewN _ 1)
 refine held_gen (G := fun W' => wpAny _ _ _ _ _ _ _ W') (fun W' => Fr w1 W' (blkT x (msgC F).toArray 52 :: loT b2 n (fun _ => none) (fun _ => 0) [] :: WL b gk n (acted n l).ks (some ⟨g, o, none⟩) c all)) (H6.out.drewN 1) (fun y0 hw => ?_)
 have H7 := iq hw
 clear hw H6
 refine wpAny_of_held (S := fun W => W.rangeAt x 0 (msgC F) /\ W.cell? ⟨b, 1, none⟩ = some (.slice (some ⟨g, o, none⟩) M c) /\ W.rangeAt g (o + p * 121) (msgC m)) _ _ _ _ ?_
 refine tk 0 ⟨some 72, .load 52 (.tmp 13), _, _, _, none⟩ (.agg (msgC F).toArray) rfl (by kernel_rfl) (fun _ _ _ => id) (HEV.out _ _ _ _ _ H7.out) (fun W hSW => exec_load_mid 52 (.tmp 13) rfl x 0 rfl (msgC F) _ hSW.1 Tryz.underlying52 rfl HIF.out) ?_
 try simp only [Act.put, l0, l1, l2]
 refine tk 2 ⟨some 74, .move (.tmp 9), _, _, _, none⟩ (.pointer (some ⟨b, 0, none⟩)) rfl (by kernel_rfl) (fun _ _ _ => id) (HEV.out _ _ _ _ _ H7.out) (fun W hSW => by go_simp) ?_
 try simp only [pu, l0, l1, l2]
 refine tk 3 ⟨some 75, .nilCheck (.tmp 74), _, _, _, none⟩ (.pointer (some ⟨b, 0, none⟩)) rfl (by kernel_rfl) (fun _ _ _ => id) (HEV.out _ _ _ _ _ H7.out) (fun W hSW => by go_simp) ?_
 try simp only [pu, l0, l1, l2]
 refine tk 4 ⟨some 76, .fieldAddr 35 (.tmp 75) 1, _, _, _, none⟩ (.pointer (some ⟨b, 1, none⟩)) rfl (by kernel_rfl) (fun _ _ _ => id) (HEV.out _ _ _ _ _ H7.out) (fun W hSW => by go_simp) ?_
 try simp only [pu, l0, l1, l2]
 refine tk 5 ⟨some 77, .load 24 (.tmp 76), _, _, _, none⟩ (.slice (some ⟨g, o, none⟩) M c) rfl (by kernel_rfl) (fun _ _ _ => id) (HEV.out _ _ _ _ _ H7.out) (fun W hSW => by have hv := hSW.2.1; go_simp) ?_
 try simp only [pu, l0, l1, l2]
 refine tk 6 ⟨some 78, .move (.tmp 12), _, _, _, none⟩ (.int .i64 (p : Int)) rfl (by kernel_rfl) (fun _ _ _ => id) (HEV.out _ _ _ _ _ H7.out) (fun W hSW => by go_simp) ?_
 try simp only [pu, l0, l1, l2]
 refine tk 7 ⟨some 79, .indexAddr 24 (.tmp 77) (.tmp 78), _, _, _, none⟩ (.pointer (some ⟨g, o + p * 121, none⟩)) rfl (by kernel_rfl) (fun _ _ _ => id) (HEV.out _ _ _ _ _ H7.out) (fun W hSW => by go_simp) ?_
 try simp only [pu, l0, l1, l2]
 refine tk 8 ⟨some 80, .load 52 (.tmp 79), _, _, _, none⟩ (.agg (msgC m).toArray) rfl (by kernel_rfl) (fun _ _ _ => id) (HEV.out _ _ _ _ _ H7.out) (fun W hSW => exec_load_mid 52 (.tmp 79) rfl g (o + p * 121) rfl (msgC m) _ hSW.2.2 Tryz.underlying52 rfl HIm.out) ?_
 try simp only [pu, l0, l1, l2]
 refine rd1 1 ⟨some 73, .call { callee := .value (.func 28), args := #[.tmp 72], argTypes := #[52] }, _, _, _, none⟩ (by kernel_rfl) rfl fun K' hK' => ?_
 go_simp
 go_at_call 28
 refine (HTg.out _ H7.out.ksW H7.out.posW).mono ?_
 rintro E w8 ⟨rfl, b8⟩
 have H8 := iq (H7.out.below b8.out)
 clear b8
 refine hK'.out _ _ (HEV.out _ _ _ _ _ H8.out) (fun _ => ?_)
 clear hK' K' H7
 try simp only [Act.put, l0, l1, l2]
 refine rd1 9 ⟨some 81, .call { callee := .value (.func 24), args := #[.tmp 73, .tmp 80], argTypes := #[52, 52] }, _, _, _, none⟩ (by kernel_rfl) rfl fun K' hK' => ?_
 go_simp
 go_at_call 24
 refine (same_rf T m _ HTw.out HWm.out (prs_w _ HTq.out.1 _) (H8.out.pop.pop.pop.pop.pop.hd m HMm.out) (by rw [HTq.out.1]; decide) (Nat.le_trans (chk_few HC0.out) (by decide))).mono ?_
 rintro E w9 ⟨⟨zs, rfl, hzs⟩, b9⟩
 have H9 := iq (H8.out.below b9)
 clear b9 hzs
 refine hK'.out _ _ (HEV.out _ _ _ _ _ H9.out) (fun _ => ?_)
 clear hK' K' H8
 try simp only [Act.put, l0, l1, l2]
 refine wpAnyH_done (by kernel_rfl) ?_ _
 cases zs with
 | true =>
  go_wp2_with (go_at_call 13; refine (HW.out _ _ H9.out).mono ?_; rintro E w11 ⟨rfl, b11⟩; have HE := iq (H9.out.below b11); clear b11)
  go_ret
  exact ⟨rfl, HE.out.bel⟩
 | false =>
  go_wp2_with (first | ((with_reducible refine wpList_load_midG ?_ 52 (.tmp 13) ?_ x 0 ?_ (msgC F) _ ?_ Tryz.underlying52 ?_ ?_ ?_); rotate_left; rfl; rfl; exact range_of H9.out.hd; rfl; exact HIF.out; rotate_left; rfl) | (go_at_call 28; refine (HTg.out _ H9.out.ksW H9.out.posW).mono ?_; rintro E w10 ⟨rfl, b10⟩; have H10 := iq (H9.out.below b10.out); clear b10 H9) | (refine wpList_store_part rfl 52 (.tmp 13) (.tmp 84) rfl x 0 (msgC F) (msgC T) (msgC T) 52 H10.out.hd HST.out.1 HST.out.2 rfl rfl HIT.out (one_msgC _) ?_; intro w11 G; have H11 : Hid (Fr w1 w11 (loT b2 n (fun _ => none) (fun _ => 0) [] :: blkT x (msgC T).toArray 52 :: WL b gk n (acted n l).ks (some ⟨g, o, none⟩) c all)) := iq (Fr.swap (show Fr w1 w11 (blkT x (msgC T).toArray 52 :: loT b2 n (fun _ => none) (fun _ => 0) [] :: WL b gk n (acted n l).ks (some ⟨g, o, none⟩) c all) from H10.out.turn (own_grown G.out.2 rfl) G.out.1 (blkT_ok _ _ _))); clear G H10))
  have D0 : Hid (∃ A' C' L, L.map MMsg.bare = (all.take 0).map MMsg.bare /\ Nm L /\ Fr w1 w11 (loT b2 n A' C' L :: blkT x (msgC T).toArray 52 :: WL b gk n (acted n l).ks (some ⟨g, o, none⟩) c all)) := iq ⟨_, _, [], rfl, nm_nil, H11.out⟩
  have hc1 := block_cell H11.out.hd3 1 _ rfl
  rw [<- HM.out] at hc1
  clear HTg HSB HST HVB HEV
  go_loopw [14] (fun v14 wr => ∃ i : Nat, i <= M /\ v14 = .int .i64 (i : Int) /\ Hid (∃ A' C' L, L.map MMsg.bare = (all.take i).map MMsg.bare /\ Nm L /\ Fr w1 wr (loT b2 n A' C' L :: blkT x (msgC T).toArray 52 :: WL b gk n (acted n l).ks (some ⟨g, o, none⟩) c all))) (fun v14 _ => M - (intOf v14).toNat)
  case atStart => exact ⟨0, by omega, rfl, D0⟩
  case round =>
   clear D0 hc1
   obtain ⟨i, hi, rfl, DD⟩ := hrel
   obtain ⟨A', C', L, hL, hN, hfr⟩ := DD.out
   have HLb := iq hL
   have HNm := iq hN
   have H4 := iq hfr
   clear DD hL hN hfr H11
   have hc1 := block_cell H4.out.hd3 1 _ rfl
   rw [<- HM.out] at hc1
   by_cases hii : i < M
   ·have hdec : decide ((i : Int) < (M : Int)) = true := decide_eq_true (by omega)
    have hj0 : (0 : Int) <= (i : Int) := by omega
    have hjn : (i : Int) < (M : Int) := by omega
    have htn : ((i : Int)).toNat = i := by omega
    have hw1 : IntKind.i64.wrap ((i : Int) + 1) = (i : Int) + 1 := by rw [IntKind.wrap_i64]; omega
    obtain ⟨mi, hm⟩ : ∃ m, all[i]? = some m := ⟨_, List.getElem?_eq_getElem (by rw [<- HM.out]; omega)⟩
    have HMi := iq (List.mem_of_getElem? hm)
    have HCi := iq (HChk.out i mi hm L HLb.out)
    have HWi := iq (HWf.out mi HMi.out)
    have HIi := iq (info_msg HWi.out)
    have HLl2 : Hid (L.length < 100) := iq (by have := congrArg List.length HLb.out; rw [List.length_map, List.length_map, List.length_take] at this; omega)
    have HLl : Hid (L.length < 1000000) := iq (Nat.lt_trans HLl2.out (by decide))
    have HR := iq (HG.out wr H4.out.pop.pop.pop.pop.hd i mi hm).2
    have HTk : Hid (∀ a c, (L ++ [mi.at a c]).map MMsg.bare = (all.take (i + 1)).map MMsg.bare) := iq fun a c => by rw [List.take_add_one, hm, List.map_append, List.map_append, HLb.out]; rfl
    have HNk : Hid (∀ a c, Nm (L ++ [mi.at a c])) := iq fun a c => nm_snoc HNm.out HCi.out a c
    clear hm
    by_cases hip : p <= i
    ·have hge : (p : Int) <= (i : Int) := by omega
     have hgd : decide ((p : Int) <= (i : Int)) = true := decide_eq_true hge
     have HIp := iq hip
     clear hip
     go_wp2_with (first | ((with_reducible refine wpList_load_midG ?_ 52 (.tmp 100) ?_ g (o + i * 121) ?_ (msgC mi) _ ?_ Tryz.underlying52 ?_ ?_ ?_); rotate_left; rfl; rfl; exact HR.out; rfl; exact HIi.out; rotate_left; rfl) | (go_at_call 18; refine (add_fr H4.out mi HWi.out (H4.out.pop.pop.pop.pop.pop.hd mi HMi.out) (Nat.le_trans (chk_few HCi.out) (by decide)) HLl.out).mono ?_; rintro E w5 ⟨he, _, hz⟩; rw [HCi.out] at he hz; subst he; obtain ⟨A2, C2, a2, c2, h5⟩ := hz rfl; have H5 := iq h5; clear hz h5 H4) | ((with_reducible refine wpList_load_midG ?_ 52 (.tmp 13) ?_ x 0 ?_ (msgC T) _ ?_ Tryz.underlying52 ?_ ?_ ?_); rotate_left; rfl; rfl; exact range_of H5.out.hd2; rfl; exact HIT.out; rotate_left; rfl) | (go_at_call 18; refine (add_fr H5.out T HTw.out (prs_w _ HTq.out.1 _) (by rw [HTq.out.1]; decide) (by rw [List.length_append]; exact Nat.lt_of_lt_of_le (Nat.succ_lt_succ HLl2.out) (by decide))).mono ?_; rintro E w6 ⟨he, hne, _⟩; rw [HT13.out i HIp.out _ (HTk.out _ _)] at he hne; subst he; have H6 := iq (hne (by decide)); clear hne H5))
     go_roundw
     case measure => simp [intOf] <;> omega
     case rel => exact ⟨i + 1, by omega, by go_num, iq ⟨_, _, _, HTk.out _ _, HNk.out _ _, H6.out⟩⟩
    ·have hge : ¬ (p : Int) <= (i : Int) := by omega
     have hgd : decide ((p : Int) <= (i : Int)) = false := decide_eq_false hge
     have hlt : (i : Int) < (p : Int) := by omega
     clear hip
     go_wp2_with (first | ((with_reducible refine wpList_load_midG ?_ 52 (.tmp 100) ?_ g (o + i * 121) ?_ (msgC mi) _ ?_ Tryz.underlying52 ?_ ?_ ?_); rotate_left; rfl; rfl; exact HR.out; rfl; exact HIi.out; rotate_left; rfl) | (go_at_call 18; refine (add_fr H4.out mi HWi.out (H4.out.pop.pop.pop.pop.pop.hd mi HMi.out) (Nat.le_trans (chk_few HCi.out) (by decide)) HLl.out).mono ?_; rintro E w5 ⟨he, _, hz⟩; rw [HCi.out] at he hz; subst he; obtain ⟨A2, C2, a2, c2, h5⟩ := hz rfl; have H5 := iq h5; clear hz h5 H4))
     go_roundw
     case measure => simp [intOf] <;> omega
     case rel => exact ⟨i + 1, by omega, by go_num, iq ⟨_, _, _, HTk.out _ _, HNk.out _ _, H5.out⟩⟩
   ·obtain rfl : M = i := by omega
    have hall : all.take M = all := by rw [HM.out, List.take_length]
    have hcx0 : wr.cell? ⟨x, 0, none⟩ = some (.int .i64 m.origin) := by rw [<- HTq.out.2.1]; exact block_cell H4.out.hd2 0 _ rfl
    have hcx1 : wr.cell? ⟨x, 1, none⟩ = some (.int .u64 (m.number : Int)) := by rw [<- HTq.out.2.2]; exact block_cell H4.out.hd2 1 _ rfl
    have HGet : Hid (Calls Tryz.prog 22 #[.pointer (some ⟨b2, 0, none⟩), .int .i64 m.origin, .int .u64 (m.number : Int)] wr fun E w' => ∃ mg : MMsg, E = .returned (.tuple #[.agg (msgC mg).toArray, .bool true]) /\ mg.Wf /\ Prs w' mg.body.qa mg.body.qs /\ mg.body.qs.length <= 1000000 /\ mg.same m /\ Below wr.heap.size wr w') := iq (by
     have hy := (chk_zero HC0.out).1
     have hnb := of_decide_eq_true hy.2.1.1
     have hnn := (chk_zero HC0.out).2.1
     have hon : m.origin <= (n : Int) := by rw [nms, Bool.and_eq_true] at hnn; exact of_decide_eq_true hnn.1
     obtain ⟨m', hg1, hg2, hg3⟩ := gt_of HNm.out (n := n) (HLb.out.trans (by rw [hall])) HMp.out hnb.1 ⟨(of_decide_eq_true hy.1).1, hon⟩
     have hq : ∀ t ∈ L, t.body.qs.length <= 1000000 := fun t ht => by
      have h1 : t.bare ∈ all.map MMsg.bare := by rw [<- hall, <- HLb.out]; exact List.mem_map_of_mem ht
      obtain ⟨t', ht', e⟩ := List.mem_map.1 h1
      obtain ⟨j, hj⟩ := List.mem_iff_getElem?.1 ht'
      have h2 := chk_few (HChk.out j t' hj _ rfl)
      have e2 : t'.bare.body.qs = t.bare.body.qs := by rw [e]
      change t'.body.qs = t.body.qs at e2
      rw [<- e2]; omega
     refine (get_any H4.out.hd m.origin m.number (by omega) hq H4.out.ksW H4.out.posW).mono fun E w' hE => ?_
     rw [hg1] at hE
     obtain ⟨A7, c7, e, h2, h3, _, h5⟩ := hE
     exact ⟨m'.at A7 c7, e, h2, h3, hq m' hg3, bare_same (show (m'.at A7 c7).bare = m.bare from hg2), h5⟩)
    clear hall
    go_wp2_with (first | (go_at_call 22; refine HGet.out.mono ?_; rintro E w7 ⟨mg, rfl, hw7, hp7, hl7, hs7, b7⟩; have H7 := iq ((H4.out.below b7).box Z.toArray 52); have HWg := iq hw7; have HIg := iq (info_msg hw7); have HPg : Hid (∀ W, Below w7.heap.size w7 W -> Prs W mg.body.qa mg.body.qs) := iq fun W hb => hp7.below hb; have HLg := iq hl7; have HSg := iq hs7; clear hw7 hp7 hl7 hs7 b7) | (refine wpList_store_part rfl 52 (.tmp 15) (.tmp 120) rfl w7.heap.size 0 Z (msgC mg) (msgC mg) 52 H7.out.hd (HLE.out mg HWg.out).1 (HLE.out mg HWg.out).2 rfl rfl HIg.out (one_msgC _) ?_; intro w8 G; have H8 : Hid (Fr w1 w8 (blkT w7.heap.size (msgC mg).toArray 52 :: loT b2 n A' C' L :: blkT x (msgC T).toArray 52 :: WL b gk n (acted n l).ks (some ⟨g, o, none⟩) c all)) := iq (H7.out.turn (own_grown G.out.2 rfl) G.out.1 (blkT_ok _ _ _)); have HB8 : Hid (Below w7.heap.size w7 w8) := iq (box_grown G.out.2); clear G H7))
    obtain ⟨q, hq⟩ : ∃ q, q = w7.heap.size := ⟨_, rfl⟩
    rw [<- hq] at H8 ⊢
    refine wp_region_any (by kernel_rfl) ?_
    change wpAny _ _ _ _ _ _ _ (World.drewN _ 1)
    have HB8b : Hid (Below w7.heap.size w7 (w8.drewN 1)) := iq (below_drewN HB8.out 1)
    have hJ : Fr w1 (w8.drewN 1) (blkT q (msgC mg).toArray 52 :: loT b2 n A' C' L :: blkT x (msgC T).toArray 52 :: WL b gk n (acted n l).ks (some ⟨g, o, none⟩) c all) /\ Below w7.heap.size w7 (w8.drewN 1) := ⟨H8.out.drewN 1, HB8b.out⟩
    refine held_gen (G := fun W' => wpAny _ _ _ _ _ _ _ W') (fun W' => Fr w1 W' (blkT q (msgC mg).toArray 52 :: loT b2 n A' C' L :: blkT x (msgC T).toArray 52 :: WL b gk n (acted n l).ks (some ⟨g, o, none⟩) c all) /\ Below w7.heap.size w7 W') hJ (fun y0 hw => ?_)
    have H9 := iq hw.1
    have HB9 := iq hw.2
    clear hw hJ HB8b HB8 H8 hq
    have HEV : Hid (∀ W, Fr w1 W (blkT q (msgC mg).toArray 52 :: loT b2 n A' C' L :: blkT x (msgC T).toArray 52 :: WL b gk n (acted n l).ks (some ⟨g, o, none⟩) c all) -> W.rangeAt q 0 (msgC mg) /\ W.cell? ⟨b, 1, none⟩ = some (.slice (some ⟨g, o, none⟩) M c) /\ W.rangeAt g (o + p * 121) (msgC m)) := iq fun W hf => ⟨range_of hf.hd, (by have := block_cell hf.pop.hd3 1 _ rfl; rw [<- HM.out] at this; exact this), HG2.out W hf.pop.pop.pop.pop.pop.hd⟩
    refine wpAny_of_held (S := fun W => W.rangeAt q 0 (msgC mg) /\ W.cell? ⟨b, 1, none⟩ = some (.slice (some ⟨g, o, none⟩) M c) /\ W.rangeAt g (o + p * 121) (msgC m)) _ _ _ _ ?_
    refine tk 0 ⟨some 122, .move (.tmp 16), _, _, _, none⟩ (.bool true) rfl (by kernel_rfl) (fun _ _ _ => id) (HEV.out _ H9.out) (fun W hSW => by go_simp) ?_
    try simp only [Act.put, l0, l1, l2]
    refine tk 1 ⟨some 123, .move (.tmp 122), _, _, _, none⟩ (.bool true) rfl (by kernel_rfl) (fun _ _ _ => id) (HEV.out _ H9.out) (fun W hSW => by go_simp) ?_
    try simp only [pu, l0, l1, l2]
    refine tk 2 ⟨some 124, .load 52 (.tmp 15), _, _, _, some (1, true)⟩ (.agg (msgC mg).toArray) rfl (by kernel_rfl) (fun _ _ _ => id) (HEV.out _ H9.out) (fun W hSW => exec_load_mid 52 (.tmp 15) rfl q 0 rfl (msgC mg) _ hSW.1 Tryz.underlying52 rfl HIg.out) ?_
    try simp only [pu, l0, l1, l2]
    refine tk 3 ⟨some 125, .move (.tmp 9), _, _, _, some (1, true)⟩ (.pointer (some ⟨b, 0, none⟩)) rfl (by kernel_rfl) (fun _ _ _ => id) (HEV.out _ H9.out) (fun W hSW => by go_simp) ?_
    try simp only [pu, l0, l1, l2]
    refine tk 4 ⟨some 126, .nilCheck (.tmp 125), _, _, _, some (1, true)⟩ (.pointer (some ⟨b, 0, none⟩)) rfl (by kernel_rfl) (fun _ _ _ => id) (HEV.out _ H9.out) (fun W hSW => by go_simp) ?_
    try simp only [pu, l0, l1, l2]
    refine tk 5 ⟨some 127, .fieldAddr 35 (.tmp 126) 1, _, _, _, some (1, true)⟩ (.pointer (some ⟨b, 1, none⟩)) rfl (by kernel_rfl) (fun _ _ _ => id) (HEV.out _ H9.out) (fun W hSW => by go_simp) ?_
    try simp only [pu, l0, l1, l2]
    refine tk 6 ⟨some 128, .load 24 (.tmp 127), _, _, _, some (1, true)⟩ (.slice (some ⟨g, o, none⟩) M c) rfl (by kernel_rfl) (fun _ _ _ => id) (HEV.out _ H9.out) (fun W hSW => by have hv := hSW.2.1; go_simp) ?_
    try simp only [pu, l0, l1, l2]
    refine tk 7 ⟨some 129, .move (.tmp 12), _, _, _, some (1, true)⟩ (.int .i64 (p : Int)) rfl (by kernel_rfl) (fun _ _ _ => id) (HEV.out _ H9.out) (fun W hSW => by go_simp) ?_
    try simp only [pu, l0, l1, l2]
    refine tk 8 ⟨some 130, .indexAddr 24 (.tmp 128) (.tmp 129), _, _, _, some (1, true)⟩ (.pointer (some ⟨g, o + p * 121, none⟩)) rfl (by kernel_rfl) (fun _ _ _ => id) (HEV.out _ H9.out) (fun W hSW => by go_simp) ?_
    try simp only [pu, l0, l1, l2]
    refine tk 9 ⟨some 131, .load 52 (.tmp 130), _, _, _, some (1, true)⟩ (.agg (msgC m).toArray) rfl (by kernel_rfl) (fun _ _ _ => id) (HEV.out _ H9.out) (fun W hSW => exec_load_mid 52 (.tmp 130) rfl g (o + p * 121) rfl (msgC m) _ hSW.2.2 Tryz.underlying52 rfl HIm.out) ?_
    try simp only [pu, l0, l1, l2]
    refine rd1 10 ⟨some 132, .call { callee := .value (.func 24), args := #[.tmp 124, .tmp 131], argTypes := #[52, 52] }, _, _, _, some (1, true)⟩ (by kernel_rfl) rfl fun K' hK' => ?_
    go_simp
    go_at_call 24
    refine (same_rf mg m _ HWg.out HWm.out (HPg.out _ HB9.out) (H9.out.pop.pop.pop.pop.pop.pop.hd m HMm.out) (Nat.le_trans HLg.out (by decide)) (Nat.le_trans (chk_few HC0.out) (by decide))).mono ?_
    rintro E w12 ⟨⟨zt, rfl, hzt⟩, b12⟩
    obtain rfl : zt = true := hzt.2 HSg.out
    have J1 := iq (H9.out.below b12)
    clear b12 hzt
    refine hK'.out _ _ (HEV.out _ J1.out) (fun _ => ?_)
    clear hK' K' H9
    try simp only [Act.put, l0, l1, l2]
    refine tk 11 ⟨some 133, .pick (.tmp 123) (.tmp 132) (.const (.bool false)), _, _, _, none⟩ (.bool true) rfl (by kernel_rfl) (fun _ _ _ => id) (HEV.out _ J1.out) (fun W hSW => by go_simp) ?_
    try simp only [pu, l0, l1, l2]
    refine tk 12 ⟨some 134, .move (.tmp 133), _, _, _, none⟩ (.bool true) rfl (by kernel_rfl) (fun _ _ _ => id) (HEV.out _ J1.out) (fun W hSW => by go_simp) ?_
    try simp only [pu, l0, l1, l2]
    refine rd1 13 ⟨some 135, .call { callee := .value (.func 13), args := #[], argTypes := #[] }, _, _, _, some (12, true)⟩ (by kernel_rfl) rfl fun K' hK' => ?_
    go_simp
    go_at_call 13
    refine (HW.out _ _ J1.out).mono ?_
    rintro E w13 ⟨rfl, b13⟩
    have J2 := iq (J1.out.below b13)
    clear b13
    refine hK'.out _ _ (HEV.out _ J2.out) (fun _ => ?_)
    clear hK' K' J1
    try simp only [Act.put, l0, l1, l2]
    refine tk 14 ⟨some 136, .pick (.tmp 134) (.tmp 135) (.const (.bool false)), _, _, _, none⟩ (.bool true) rfl (by kernel_rfl) (fun _ _ _ => id) (HEV.out _ J2.out) (fun W hSW => by go_simp) ?_
    try simp only [pu, l0, l1, l2]
    refine tk 15 ⟨some 8, .assign (.tmp 136), _, _, _, none⟩ (.bool true) rfl (by kernel_rfl) (fun _ _ _ => id) (HEV.out _ J2.out) (fun W hSW => by go_simp) ?_
    try simp only [pu, l0, l1, l2]
    refine wpAnyH_done (by kernel_rfl) ?_ _
    go_wp2_with fail
    go_ret
    exact ⟨rfl, J2.out.bel⟩
open Go.RowKit
theorem forks_in (W : World) (hk : KIs W) (h0 : 0 < W.heap.size) (a0 : Int) (w0 : (Lit.int .u8 a0).wf = true) (A : Option Addr) (n c : Nat) (h : ∃ l : List MAct, l.length = n /\ As W A l) (hn : n <= 4398046511104) (a2 : Int) (w2 : (Lit.int .u8 a2).wf = true) (a3 : Int) (w3 : (Lit.int .u8 a3).wf = true) :
  Calls Tryz.prog 5 #[.int .u8 a0, .slice A n c, .int .u8 a2, .int .u8 a3] W fun E w' => E = .returned (.bool true) /\ Below W.heap.size W w' := by
 obtain ⟨l, rfl, hAs⟩ := h
 obtain ⟨e0, l0⟩ := n8_of w0
 obtain ⟨e2, l2⟩ := n8_of w2
 obtain ⟨e3, l3⟩ := n8_of w3
 rw [e0, e2, e3]
 exact forks_walk hk h0 _ _ _ l0 l2 l3 A c l hAs hn
end Go.Proofs.YtllbbcifcbkgeaaGreatDoor.Sh
