/- Laws and walks. -/
import Derived.Test.YtllbbcifcbkgeaaGreatDoorG1p
set_option maxHeartbeats 16000000
set_option maxRecDepth 100000
namespace Go.Proofs.YtllbbcifcbkgeaaGreatDoor.Sh
open Go.RowKit
theorem turned_walk {w : World} (hk : KIs w) (h0 : 0 < w.heap.size) (k pick what y : Nat) (hk8 : k < 256) (hp8 : pick < 256) (hw8 : what < 256) (hy8 : y < 256) (A0 : Option Addr) (c0 : Nat) (l : List MAct) (hAs : As w A0 l) (hl : l.length <= 4398046511104) :
  Calls Tryz.prog 6 #[.int .u8 (k : Int), .slice A0 l.length c0, .int .u8 (pick : Int), .int .u8 (what : Int), .int .u8 (y : Int)] w fun E w' => E = .returned (.bool true) /\ Below w.heap.size w w' := by
 have HW : Hid (∀ W os, Fr w W os -> Calls Tryz.prog 13 #[] W fun E w' => E = .returned (.bool true) /\ Below W.heap.size W w') := iq fun W os H => works_any W H.ksW H.posW
 obtain ⟨N, hN⟩ : ∃ N, N = l.length := ⟨_, rfl⟩
 have HN := iq hN
 have HFew : Hid (Calls Tryz.prog 11 #[.slice A0 N c0] w fun E w' => ∃ z, E = .returned (.bool z) /\ (z = true -> N <= 100 /\ ∀ x ∈ l, x.q.length <= 20) /\ w' = w) := iq (by rw [hN]; exact (fewA_any A0 c0 l w hAs hl).mono fun E w' hx => by obtain ⟨z, e, hz, hw⟩ := hx; exact ⟨z, e, hz, hw.symm⟩)
 obtain ⟨n, hn⟩ : ∃ n, n = 3 + 2 * (k % 5) := ⟨_, rfl⟩
 have HActs : Hid ((N <= 100 /\ ∀ x ∈ l, x.q.length <= 20) -> Calls Tryz.prog 14 #[.int .u8 (k : Int), .slice A0 N c0] w fun E w' => ActsP w n l E w') := iq fun hx => by rw [hN, hn]; exact acts_any k hk8 A0 c0 l w hAs (hN ▸ hx.1) hx.2 hk h0
 have hn11 : n <= 11 := by omega
 have hn3 : 3 <= n := by omega
 have HIs : Hid (isN (n : Int) = true) := iq (by rw [isN]; exact decide_eq_true ⟨by omega, by omega, by omega⟩)
 have hz := zero_msg
 have hzl := msgC_length zeroMsg_wf
 have hzn : ¬ (msgC zeroMsg = []) := fun e => by rw [e] at hzl; cases hzl
 obtain ⟨Z, hZ⟩ : ∃ Z, Z = msgC zeroMsg := ⟨_, rfl⟩
 rw [<- hZ] at hz hzl hzn
 have HZl := iq hzl
 have HLE : Hid (∀ m : MMsg, m.Wf -> 0 + (msgC m).length <= Z.length /\ setAll Z 0 (msgC m) = msgC m) := iq fun m hm => ⟨by rw [msgC_length hm, HZl.out]; omega, setAll_all (by rw [msgC_length hm, HZl.out])⟩
 have H1 := iq (Fr.start hk h0)
 rw [<- hN]
 clear hN hn hk h0 hAs hl hk8 hZ hzl
 go_enter Tryz.func6, Tryz.ntmps6
 by_cases h60 : (N : Int) > 60
 ·have h60' : 60 < N := by omega
  go_wp2_with (first | (go_at_call 11; refine (HFew.out).mono ?_; rintro E w1 ⟨z, rfl, hz, rfl⟩; have HZ := iq hz; clear hz) | (go_at_call 13; refine (HW.out _ _ H1.out).mono ?_; rintro E w11 ⟨rfl, b11⟩; have HE := iq (H1.out.below b11); clear b11))
  all_goals (go_ret; exact ⟨rfl, HE.out.bel⟩)
 have h60' : ¬ 60 < N := by omega
 go_upto_region 4 with (first | (go_at_call 11; refine (HFew.out).mono ?_; rintro E w1 ⟨z, rfl, hz, rfl⟩; have HZ := iq hz; clear hz) | (go_at_call 13; refine (HW.out _ _ H1.out).mono ?_; rintro E w11 ⟨rfl, b11⟩; have HE := iq (H1.out.below b11); clear b11) | (go_at_call 14; refine (HActs.out (by first | exact HZ.out rfl | exact HZ.out (by assumption) | exact HZ.out (by simp_all))).mono ?_; rintro E w2 ⟨b, gk, A, c, all, rfl, hbare, hfr⟩; have HBr := iq hbare; have H2 := iq hfr; clear hbare hfr H1))
 all_goals (try (go_ret; exact ⟨rfl, HE.out.bel⟩))
 obtain ⟨M, hM⟩ : ∃ M, M = all.length := ⟨_, rfl⟩
 have HM := iq hM
 have hc0 := block_cell H2.out.hd 0 _ rfl
 have hc1 := block_cell H2.out.hd 1 _ rfl
 rw [<- hM] at hc1
 by_cases hM0 : M = 0
 ·have hM2 : ((M : Int) == 0) = true := by simp [hM0]
  have hM3 : (M : Int) = 0 := by omega
  go_wp2_with (go_at_call 13; refine (HW.out _ _ H2.out).mono ?_; rintro E w11 ⟨rfl, b11⟩; have HE := iq (H2.out.below b11); clear b11)
  go_ret
  exact ⟨rfl, HE.out.bel⟩
 have hMn : 0 < all.length := by omega
 obtain ⟨g, o, rfl, hg⟩ := mr_at H2.out.hd3 hMn
 have HG := iq hg
 have hSl := (mr_sl H2.out.hd3).2
 have hMc : M <= c := by omega
 have hcm : c <= 9223372036854775807 := hSl.2
 have HWf : Hid (∀ m ∈ all, m.Wf) := iq H2.out.hd3.2
 have HChk : Hid (∀ (i : Nat) (m : MMsg), all[i]? = some m -> ∀ L : List MMsg, L.map MMsg.bare = (all.take i).map MMsg.bare -> chk n L m = 0) := iq fun i m hi L hL => world_chk (by omega) hn11 HBr.out hi hL
 have hM60 : M <= 60 := by
  have h1 := congrArg List.length HBr.out
  rw [List.length_map, List.length_map] at h1
  have h2 := (ok_acted n (by omega) l l.length (Nat.le_refl _)).few
  rw [List.take_length] at h2
  have := HN.out
  omega
 clear hg hSl hMn
 have hM1 : ¬ (M : Int) = 0 := by omega
 have hM2 : ((M : Int) == 0) = false := by simpa using hM0
 have hM3 : 0 < M := by omega
 obtain ⟨p, hp⟩ : ∃ p, p = pick % M := ⟨_, rfl⟩
 have htm : Int.tmod (pick : Int) (M : Int) = (p : Int) := by rw [Int.tmod_eq_emod_of_nonneg (by omega), hp]; omega
 have hpM : p < M := by rw [hp]; exact Nat.mod_lt _ hM3
 have hwp : IntKind.i64.wrap (pick : Int) = (pick : Int) := by rw [IntKind.wrap_i64]; omega
 have hwq : IntKind.i64.wrap (p : Int) = (p : Int) := by rw [IntKind.wrap_i64]; omega
 clear hp hM
 go_wp2_with (go_at_call 15; refine (lnew_any n HIs.out _).mono ?_; rintro E w3 ⟨b2, rfl, hl, hb, b3⟩; rw [Int.toNat_natCast] at hl; have H3 : Hid (Fr w1 w3 (loT b2 n (fun _ => none) (fun _ => 0) [] :: WL b gk n (acted n l).ks (some ⟨g, o, none⟩) c all)) := iq (H2.out.add b3 hl (loT_ok _ _ _ _ _) fun k hk => by rcases hk with rfl | ⟨_, _, e⟩ | ⟨_, e, _⟩ <;> first | exact hb | cases e); clear hl hb b3 H2; have hc1 := block_cell H3.out.hd2 1 _ rfl; rw [<- HM.out] at hc1)
 have D0 : Hid (∃ A' C' L, L.map MMsg.bare = (all.take 0).map MMsg.bare /\ Fr w1 w3 (loT b2 n A' C' L :: WL b gk n (acted n l).ks (some ⟨g, o, none⟩) c all)) := iq ⟨_, _, [], rfl, H3.out⟩
 clear hc0
 go_loopw [15] (fun v15 wr => ∃ i : Nat, i <= p /\ v15 = .int .i64 (i : Int) /\ Hid (∃ A' C' L, L.map MMsg.bare = (all.take i).map MMsg.bare /\ Fr w1 wr (loT b2 n A' C' L :: WL b gk n (acted n l).ks (some ⟨g, o, none⟩) c all))) (fun v15 _ => p - (intOf v15).toNat)
 case atStart => exact ⟨0, by omega, rfl, D0⟩
 case round =>
  clear D0 hc1
  obtain ⟨i, hi, rfl, DD⟩ := hrel
  obtain ⟨A', C', L, hL, hfr⟩ := DD.out
  have HLb := iq hL
  have H4 := iq hfr
  clear DD hL hfr H3
  have hc1 := block_cell H4.out.hd2 1 _ rfl
  rw [<- HM.out] at hc1
  by_cases hii : i < p
  ·have hdec : decide ((i : Int) < (p : Int)) = true := decide_eq_true (by omega)
   have hj0 : (0 : Int) <= (i : Int) := by omega
   have hjn : (i : Int) < (p : Int) := by omega
   have htn : ((i : Int)).toNat = i := by omega
   have hw1 : IntKind.i64.wrap ((i : Int) + 1) = (i : Int) + 1 := by rw [IntKind.wrap_i64]; omega
   have hiM : (i : Int) < (M : Int) := by omega
   obtain ⟨m, hm⟩ : ∃ m, all[i]? = some m := ⟨_, List.getElem?_eq_getElem (by rw [<- HM.out]; omega)⟩
   have HMm := iq (List.mem_of_getElem? hm)
   have HC0 := iq (HChk.out i m hm L HLb.out)
   have HLl : Hid (L.length < 1000000) := iq (by have := congrArg List.length HLb.out; rw [List.length_map, List.length_map, List.length_take] at this; omega)
   have HIm := iq (info_msg (HWf.out m HMm.out))
   have HR := iq (HG.out wr H4.out.pop.hd3 i m hm).2
   have HTk : Hid (∀ a c, (L ++ [m.at a c]).map MMsg.bare = (all.take (i + 1)).map MMsg.bare) := iq fun a c => by rw [List.take_add_one, hm, List.map_append, List.map_append, HLb.out]; rfl
   clear hm
   go_wp2_with (first | ((with_reducible refine wpList_load_midG ?_ 52 (.tmp 72) ?_ g (o + i * 121) ?_ (msgC m) _ ?_ Tryz.underlying52 ?_ ?_ ?_); rotate_left; rfl; rfl; exact HR.out; rfl; exact HIm.out; rotate_left; rfl) | (go_at_call 18; refine (add_fr H4.out m (HWf.out m HMm.out) (H4.out.pop.pop.pop.pop.hd m HMm.out) (Nat.le_trans (chk_few HC0.out) (by decide)) HLl.out).mono ?_; rintro E w5 ⟨he, _, hz⟩; rw [HC0.out] at he hz; subst he; obtain ⟨A2, C2, a2, c2, h5⟩ := hz rfl; have H5 := iq h5; clear hz h5 H4))
   go_roundw
   case measure => simp [intOf] <;> omega
   case rel => exact ⟨i + 1, by omega, by go_num, iq ⟨_, _, _, HTk.out _ _, H5.out⟩⟩
  ·obtain rfl : p = i := by omega
   have hpM0 : (0 : Int) <= (p : Int) := by omega
   have hpMi : (p : Int) < (M : Int) := by omega
   have hpt : ((p : Int)).toNat = p := by omega
   obtain ⟨m, hm⟩ : ∃ m, all[p]? = some m := ⟨_, List.getElem?_eq_getElem (by rw [<- HM.out]; omega)⟩
   have HMm := iq (List.mem_of_getElem? hm)
   have HC0 := iq (HChk.out p m hm L HLb.out)
   have HLl : Hid (L.length < 1000000) := iq (by have := congrArg List.length HLb.out; rw [List.length_map, List.length_map, List.length_take] at this; omega)
   have HWm := iq (HWf.out m HMm.out)
   have HIm := iq (info_msg HWm.out)
   have HR := iq (HG.out wr H4.out.pop.hd3 p m hm).2
   have HG2 := iq (fun (W : World) h => (HG.out W h p m hm).2)
   have H5 := iq (H4.out.box Z.toArray 52)
   clear hm
   go_upto_region 16 with (first | ((with_reducible refine wpList_load_midG ?_ 52 (.tmp 81) ?_ g (o + p * 121) ?_ (msgC m) _ ?_ Tryz.underlying52 ?_ ?_ ?_); rotate_left; rfl; rfl; exact HR.out; rfl; exact HIm.out; rotate_left; rfl) | (refine wpList_store_part rfl 52 (.tmp 16) (.tmp 82) rfl wr.heap.size 0 Z (msgC m) (msgC m) 52 H5.out.hd (HLE.out m HWm.out).1 (HLE.out m HWm.out).2 rfl rfl HIm.out (one_msgC _) ?_; intro w5 G5; have H6 : Hid (Fr w1 w5 (blkT wr.heap.size (msgC m).toArray 52 :: loT b2 n A' C' L :: WL b gk n (acted n l).ks (some ⟨g, o, none⟩) c all)) := iq (H5.out.turn (own_grown G5.out.2 rfl) G5.out.1 (blkT_ok _ _ _)); clear G5 H5))
   obtain ⟨x, hx⟩ : ∃ x, x = wr.heap.size := ⟨_, rfl⟩
   rw [<- hx] at H6 ⊢
   clear hx H4 hc1 HR
   have h5 : what % 5 = 0 \/ what % 5 = 1 \/ what % 5 = 2 \/ what % 5 = 3 \/ what % 5 = 4 := by omega
   have hmy := (chk_zero HC0.out).1
   have hnb : m.number <= 65536 := (of_decide_eq_true hmy.2.1.1).2
   have hvw : m.body.view < 1073741824 := hmy.2.2.2.1
   have hog : 1 <= m.origin /\ m.origin <= 11 := of_decide_eq_true hmy.1
   have hde := hmy.2.1.2.2
   have HDe := iq hde
   clear hde hmy
   rcases h5 with h5 | h5 | h5 | h5 | h5
   focus
    have htq : Int.tmod (what : Int) 5 = 0 := by rw [Int.tmod_eq_emod_of_nonneg (by omega)]; omega
    clear h5
    obtain ⟨r, hr⟩ : ∃ r, r = y % 4 := ⟨_, rfl⟩
    have ht4 : Int.tmod (y : Int) 4 = (r : Int) := by rw [Int.tmod_eq_emod_of_nonneg (by omega)]; omega
    have hwr8 : IntKind.u8.wrap (r : Int) = (r : Int) := by rw [IntKind.wrap_u8]; omega
    have hwr : IntKind.u64.wrap (r : Int) = (r : Int) := by rw [IntKind.wrap_u64]; omega
    obtain ⟨s, hs⟩ : ∃ s, s = 1 + r := ⟨_, rfl⟩
    have hws : IntKind.u64.wrap (1 + (r : Int)) = (s : Int) := by rw [IntKind.wrap_u64]; omega
    obtain ⟨v, hv⟩ : ∃ v, v = m.number + s := ⟨_, rfl⟩
    have hwv : IntKind.u64.wrap ((m.number : Int) + (s : Int)) = (v : Int) := by rw [IntKind.wrap_u64]; omega
    have hcx : w5.cell? ⟨x, 1, none⟩ = some (.int .u64 (m.number : Int)) := block_cell H6.out.hd 1 _ rfl
    have hfx : w5.frozen? ⟨x, 1, none⟩ = false := free_block H6.out.hd 1
    obtain ⟨m2, hm2⟩ : ∃ m2 : MMsg, m2 = { m with number := v } := ⟨_, rfl⟩
    have HW2 : Hid m2.Wf := iq (by rw [hm2]; exact HWm.out)
    have HQ2 : Hid (m2.body.qa = m.body.qa /\ m2.body.qs = m.body.qs) := iq (by rw [hm2]; exact ⟨rfl, rfl⟩)
    have H7 : Hid (Fr w1 (w5.setCell ⟨x, 1, none⟩ (.int .u64 (v : Int))) (blkT x (msgC m2).toArray 52 :: loT b2 n A' C' L :: WL b gk n (acted n l).ks (some ⟨g, o, none⟩) c all)) := iq (by have := H6.out.set 1 (.int .u64 (v : Int)); rw [msgC_num] at this; rw [hm2]; exact this)
    obtain ⟨w6, hw6⟩ : ∃ w6, w6 = w5.setCell ⟨x, 1, none⟩ (.int .u64 (v : Int)) := ⟨_, rfl⟩
    rw [<- hw6] at H7
    clear hr hs hv
    go_upto_region 26 with fail
    rw [<- hw6]
    clear hw6 H6 hm2
   rotate_left
   focus
    have htq : Int.tmod (what : Int) 5 = 1 := by rw [Int.tmod_eq_emod_of_nonneg (by omega)]; omega
    clear h5
    have hwy : IntKind.u64.wrap (y : Int) = (y : Int) := by rw [IntKind.wrap_u64]; omega
    obtain ⟨s, hs⟩ : ∃ s, s = 1 + y := ⟨_, rfl⟩
    have hws : IntKind.u64.wrap (1 + (y : Int)) = (s : Int) := by rw [IntKind.wrap_u64]; omega
    obtain ⟨v, hv⟩ : ∃ v, v = m.body.view + s := ⟨_, rfl⟩
    have hwv : IntKind.u64.wrap ((m.body.view : Int) + (s : Int)) = (v : Int) := by rw [IntKind.wrap_u64]; omega
    have hcx : w5.cell? ⟨x, 14, none⟩ = some (.int .u64 (m.body.view : Int)) := block_cell H6.out.hd 14 _ (msgC_view HWm.out 0).1
    have hfx : w5.frozen? ⟨x, 14, none⟩ = false := free_block H6.out.hd 14
    obtain ⟨m2, hm2⟩ : ∃ m2 : MMsg, m2 = { m with body := { m.body with view := v } } := ⟨_, rfl⟩
    have HW2 : Hid m2.Wf := iq (by rw [hm2]; exact ⟨HWm.out.1, HWm.out.2.1, HWm.out.2.2⟩)
    have HQ2 : Hid (m2.body.qa = m.body.qa /\ m2.body.qs = m.body.qs) := iq (by rw [hm2]; exact ⟨rfl, rfl⟩)
    have H7 : Hid (Fr w1 (w5.setCell ⟨x, 14, none⟩ (.int .u64 (v : Int))) (blkT x (msgC m2).toArray 52 :: loT b2 n A' C' L :: WL b gk n (acted n l).ks (some ⟨g, o, none⟩) c all)) := iq (by have := H6.out.set 14 (.int .u64 (v : Int)); rw [(msgC_view HWm.out v).2] at this; rw [hm2]; exact this)
    obtain ⟨w6, hw6⟩ : ∃ w6, w6 = w5.setCell ⟨x, 14, none⟩ (.int .u64 (v : Int)) := ⟨_, rfl⟩
    rw [<- hw6] at H7
    clear hs hv
    go_upto_region 26 with fail
    rw [<- hw6]
    clear hw6 H6 hm2
   rotate_left
   focus
    have htq : Int.tmod (what : Int) 5 = 2 := by rw [Int.tmod_eq_emod_of_nonneg (by omega)]; omega
    clear h5
    obtain ⟨j, hj⟩ : ∃ j, j = y % 11 := ⟨_, rfl⟩
    have htj : Int.tmod (y : Int) 11 = (j : Int) := by rw [Int.tmod_eq_emod_of_nonneg (by omega)]; omega
    have hwy : IntKind.i64.wrap (y : Int) = (y : Int) := by rw [IntKind.wrap_i64]; omega
    have hwj : IntKind.i64.wrap (j : Int) = (j : Int) := by rw [IntKind.wrap_i64]; omega
    have hj11 : (j : Int) < 11 := by omega
    have hj0 : (0 : Int) <= (j : Int) := by omega
    have hjt : ((j : Int)).toNat = j := by omega
    obtain ⟨d, hd⟩ : ∃ d, m.deps[j]? = some d := ⟨_, List.getElem?_eq_getElem (by rw [HWm.out.1]; omega)⟩
    have hdl := HDe.out d (List.mem_of_getElem? hd)
    obtain ⟨v, hv⟩ : ∃ v, v = d + 1 := ⟨_, rfl⟩
    have hwv : IntKind.u64.wrap ((d : Int) + 1) = (v : Int) := by rw [IntKind.wrap_u64]; omega
    have hcx : w5.cell? ⟨x, 2 + j, none⟩ = some (.int .u64 (d : Int)) := block_cell H6.out.hd (2 + j) _ (msgC_dep hd 0).1
    have hfx : w5.frozen? ⟨x, 2 + j, none⟩ = false := free_block H6.out.hd (2 + j)
    obtain ⟨m2, hm2⟩ : ∃ m2 : MMsg, m2 = { m with deps := m.deps.set j v } := ⟨_, rfl⟩
    have HW2 : Hid m2.Wf := iq (by rw [hm2]; exact ⟨by rw [List.length_set]; exact HWm.out.1, HWm.out.2.1, HWm.out.2.2⟩)
    have HQ2 : Hid (m2.body.qa = m.body.qa /\ m2.body.qs = m.body.qs) := iq (by rw [hm2]; exact ⟨rfl, rfl⟩)
    have H7 : Hid (Fr w1 (w5.setCell ⟨x, (2 + j), none⟩ (.int .u64 (v : Int))) (blkT x (msgC m2).toArray 52 :: loT b2 n A' C' L :: WL b gk n (acted n l).ks (some ⟨g, o, none⟩) c all)) := iq (by have := H6.out.set (2 + j) (.int .u64 (v : Int)); rw [(msgC_dep hd v).2] at this; rw [hm2]; exact this)
    obtain ⟨w6, hw6⟩ : ∃ w6, w6 = w5.setCell ⟨x, (2 + j), none⟩ (.int .u64 (v : Int)) := ⟨_, rfl⟩
    rw [<- hw6] at H7
    clear hd hv hj hdl
    go_upto_region 26 with fail
    rw [<- hw6]
    clear hw6 H6 hm2
   rotate_left
   focus
    have htq : Int.tmod (what : Int) 5 = 3 := by rw [Int.tmod_eq_emod_of_nonneg (by omega)]; omega
    clear h5
    obtain ⟨j, hj⟩ : ∃ j, j = y % 32 := ⟨_, rfl⟩
    have htj : Int.tmod (y : Int) 32 = (j : Int) := by rw [Int.tmod_eq_emod_of_nonneg (by omega)]; omega
    have hwy : IntKind.i64.wrap (y : Int) = (y : Int) := by rw [IntKind.wrap_i64]; omega
    have hwj : IntKind.i64.wrap (j : Int) = (j : Int) := by rw [IntKind.wrap_i64]; omega
    have hj11 : (j : Int) < 32 := by omega
    have hj0 : (0 : Int) <= (j : Int) := by omega
    have hjt : ((j : Int)).toNat = j := by omega
    obtain ⟨r, hr⟩ : ∃ r, r = y % 8 := ⟨_, rfl⟩
    have ht8 : Int.tmod (y : Int) 8 = (r : Int) := by rw [Int.tmod_eq_emod_of_nonneg (by omega)]; omega
    have hwr8 : IntKind.u8.wrap (r : Int) = (r : Int) := by rw [IntKind.wrap_u8]; omega
    obtain ⟨d, hd⟩ : ∃ d, m.tag[j]? = some d := ⟨_, List.getElem?_eq_getElem (by rw [HWm.out.2.2]; omega)⟩
    obtain ⟨u, hu⟩ : ∃ u : UInt8, bits .xor .u8 (d.toNat : Int) (2 ^ min r 8 % 256) = (u.toNat : Int) := ⟨d ^^^ UInt8.ofNat (2 ^ r), by rw [pow8 r (by omega)]; exact b8_xor d _⟩
    have hcx : w5.cell? ⟨x, 89 + j, none⟩ = some (.int .u8 (d.toNat : Int)) := block_cell H6.out.hd (89 + j) _ (by rw [msgC_tag m HWm.out, hd]; rfl)
    have hfx : w5.frozen? ⟨x, 89 + j, none⟩ = false := free_block H6.out.hd (89 + j)
    obtain ⟨m2, hm2⟩ : ∃ m2 : MMsg, m2 = m.turned j u := ⟨_, rfl⟩
    have HW2 : Hid m2.Wf := iq (by rw [hm2]; exact turned_wf HWm.out j u)
    have HQ2 : Hid (m2.body.qa = m.body.qa /\ m2.body.qs = m.body.qs) := iq (by rw [hm2]; exact ⟨rfl, rfl⟩)
    have H7 : Hid (Fr w1 (w5.setCell ⟨x, (89 + j), none⟩ (.int .u8 (u.toNat : Int))) (blkT x (msgC m2).toArray 52 :: loT b2 n A' C' L :: WL b gk n (acted n l).ks (some ⟨g, o, none⟩) c all)) := iq (by have := H6.out.set (89 + j) (.int .u8 (u.toNat : Int)); rw [msgC_turn m HWm.out j u] at this; rw [hm2]; exact this)
    obtain ⟨w6, hw6⟩ : ∃ w6, w6 = w5.setCell ⟨x, (89 + j), none⟩ (.int .u8 (u.toNat : Int)) := ⟨_, rfl⟩
    rw [<- hw6] at H7
    clear hj hr hd
    go_upto_region 26 with fail
    rw [<- hw6]
    clear hw6 H6 hm2
   rotate_left
   focus
    have htq : Int.tmod (what : Int) 5 = 4 := by rw [Int.tmod_eq_emod_of_nonneg (by omega)]; omega
    clear h5
    go_wp2_with fail
    have hnz : ¬ n = 0 := by omega
    obtain ⟨r, htr, hrn⟩ : ∃ r : Nat, Int.tmod m.origin (n : Int) = (r : Int) /\ r < n := ⟨(m.origin % (n : Int)).toNat, by rw [Int.tmod_eq_emod_of_nonneg (by omega)]; exact (Int.toNat_of_nonneg (Int.emod_nonneg _ (by omega))).symm, by have h1 := Int.emod_lt_of_pos m.origin (b := (n : Int)) (by omega); have h2 := Int.emod_nonneg m.origin (b := (n : Int)) (by omega); omega⟩
    have hwr : IntKind.i64.wrap (r : Int) = (r : Int) := by rw [IntKind.wrap_i64]; omega
    obtain ⟨v, hv⟩ : ∃ v, v = 1 + r := ⟨_, rfl⟩
    have hwv : IntKind.i64.wrap (1 + (r : Int)) = (v : Int) := by rw [IntKind.wrap_i64]; omega
    clear hv
    refine wp_region_any (by kernel_rfl) ?_
    change wpAny _ _ _ _ _ _ _ (World.drewN _ 1)
    refine held_gen (G := fun W' => wpAny _ _ _ _ _ _ _ W') (fun W' => Fr w1 W' (blkT x (msgC m).toArray 52 :: loT b2 n A' C' L :: WL b gk n (acted n l).ks (some ⟨g, o, none⟩) c all)) (H6.out.drewN 1) (fun z0 hw => ?_)
    have H8 := iq hw
    clear hw H6
    have H6 := iq H8.out
    clear H8
    obtain ⟨m2, hm2⟩ : ∃ m2 : MMsg, m2 = { m with origin := (v : Int) } := ⟨_, rfl⟩
    have HW2 : Hid m2.Wf := iq (by rw [hm2]; exact HWm.out)
    have HQ2 : Hid (m2.body.qa = m.body.qa /\ m2.body.qs = m.body.qs) := iq (by rw [hm2]; exact ⟨rfl, rfl⟩)
    have H7 : Hid (Fr w1 (z0.setCell ⟨x, 0, none⟩ (.int .i64 (v : Int))) (blkT x (msgC m2).toArray 52 :: loT b2 n A' C' L :: WL b gk n (acted n l).ks (some ⟨g, o, none⟩) c all)) := iq (by have := H6.out.set 0 (.int .i64 (v : Int)); rw [msgC_org] at this; rw [hm2]; exact this)
    have HEx : Hid (∀ W m', Fr w1 W (blkT x (msgC m').toArray 52 :: loT b2 n A' C' L :: WL b gk n (acted n l).ks (some ⟨g, o, none⟩) c all) -> W.cell? ⟨b, 0, none⟩ = some (.slice (some ⟨gk, 0, none⟩) n n)) := iq fun W m' hf => block_cell hf.hd3 0 _ rfl
    refine wpAny_of_held (S := fun W => W.cell? ⟨b, 0, none⟩ = some (.slice (some ⟨gk, 0, none⟩) n n)) _ _ _ _ ?_
    refine tk 0 ⟨some 85, .fieldAddr 52 (.tmp 16) 0, _, _, _, none⟩ (.pointer (some ⟨x, 0, none⟩)) rfl (by kernel_rfl) (fun _ _ _ => id) (HEx.out _ _ H6.out) (fun W hSW => by go_simp) ?_
    try simp only [pu, l0, l1, l2]
    refine tk 2 ⟨some 87, .move (.tmp 11), _, _, _, none⟩ (.pointer (some ⟨b, 0, none⟩)) rfl (by kernel_rfl) (fun _ _ _ => id) (HEx.out _ _ H6.out) (fun W hSW => by go_simp) ?_
    try simp only [pu, l0, l1, l2]
    refine tk 3 ⟨some 88, .nilCheck (.tmp 87), _, _, _, none⟩ (.pointer (some ⟨b, 0, none⟩)) rfl (by kernel_rfl) (fun _ _ _ => id) (HEx.out _ _ H6.out) (fun W hSW => by go_simp) ?_
    try simp only [pu, l0, l1, l2]
    refine tk 4 ⟨some 89, .fieldAddr 35 (.tmp 88) 0, _, _, _, none⟩ (.pointer (some ⟨b, 0, none⟩)) rfl (by kernel_rfl) (fun _ _ _ => id) (HEx.out _ _ H6.out) (fun W hSW => by go_simp) ?_
    try simp only [pu, l0, l1, l2]
    refine tk 5 ⟨some 90, .load 33 (.tmp 89), _, _, _, none⟩ (.slice (some ⟨gk, 0, none⟩) n n) rfl (by kernel_rfl) (fun _ _ _ => id) (HEx.out _ _ H6.out) (fun W hSW => by have hv := hSW; go_simp) ?_
    try simp only [pu, l0, l1, l2]
    refine tk 6 ⟨some 91, .call { callee := .builtin .len, args := #[.tmp 90], argTypes := #[33] }, _, _, _, none⟩ (.int .i64 (n : Int)) rfl (by kernel_rfl) (fun _ _ _ => id) (HEx.out _ _ H6.out) (fun W hSW => by go_simp) ?_
    try simp only [pu, l0, l1, l2]
    refine rd1 1 ⟨some 86, .load 3 (.tmp 85), _, _, _, none⟩ (by kernel_rfl) rfl fun K' hK' => ?_
    have hc1x : z0.cell? ⟨x, 0, none⟩ = some (.int .i64 m.origin) := block_cell H6.out.hd 0 _ rfl
    go_simp
    refine hK'.out _ _ (HEx.out _ _ H6.out) (fun _ => ?_)
    clear hK' K' hc1x
    try simp only [Act.put, l0, l1, l2]
    refine tk 7 ⟨some 92, .binOp .rem 3 (.tmp 86) (.tmp 91) 3, _, _, _, none⟩ (.int .i64 (r : Int)) rfl (by kernel_rfl) (fun _ _ _ => id) (HEx.out _ _ H6.out) (fun W hSW => by have hv := htr; go_simp) ?_
    try simp only [pu, l0, l1, l2]
    refine tk 8 ⟨some 93, .binOp .add 3 (.const (.int .i64 1)) (.tmp 92) 3, _, _, _, none⟩ (.int .i64 (v : Int)) rfl (by kernel_rfl) (fun _ _ _ => id) (HEx.out _ _ H6.out) (fun W hSW => by go_simp) ?_
    try simp only [pu, l0, l1, l2]
    refine tk 9 ⟨some 94, .fieldAddr 52 (.tmp 16) 0, _, _, _, none⟩ (.pointer (some ⟨x, 0, none⟩)) rfl (by kernel_rfl) (fun _ _ _ => id) (HEx.out _ _ H6.out) (fun W hSW => by go_simp) ?_
    try simp only [pu, l0, l1, l2]
    refine rd1 10 ⟨none, .store 3 (.tmp 94) (.tmp 93), _, _, _, none⟩ (by kernel_rfl) rfl fun K' hK' => ?_
    have hc10 : z0.cell? ⟨x, 0, none⟩ = some (.int .i64 m.origin) := block_cell H6.out.hd 0 _ rfl
    have hf10 : z0.frozen? ⟨x, 0, none⟩ = false := free_block H6.out.hd 0
    go_simp
    refine hK'.out _ _ (HEx.out _ _ H7.out) (fun _ => ?_)
    clear hK' K' hc10 hf10
    refine wpAnyH_done (by kernel_rfl) ?_ _
    obtain ⟨w6, hw6⟩ : ∃ w6, w6 = z0.setCell ⟨x, 0, none⟩ (.int .i64 (v : Int)) := ⟨_, rfl⟩
    rw [<- hw6] at H7 ⊢
    clear hw6 H6 hm2 HEx
    go_upto_region 26 with fail
   rotate_left
   all_goals
    have HI2 := iq (info_msg HW2.out)
    have HP2 : Hid (∀ W, (qsT all).P W -> Prs W m2.body.qa m2.body.qs) := iq fun W h => by rw [HQ2.out.1, HQ2.out.2]; exact h m HMm.out
    have HL2 : Hid (m2.body.qs.length <= 1000000) := iq (by rw [HQ2.out.2]; exact Nat.le_trans (chk_few HC0.out) (by decide))
    obtain ⟨f, hf⟩ : ∃ f, f = chk n L m2 := ⟨_, rfl⟩
    have HF := iq hf
    clear hf
    by_cases hrt : m2.right
    ·have hdr : @decide m2.right (Classical.propDecidable _) = true := @decide_eq_true _ (Classical.propDecidable _) hrt
     clear hrt
     go_wp2_with (first | ((with_reducible refine wpList_load_midG ?_ 52 (.tmp 16) ?_ x 0 ?_ (msgC m2) _ ?_ Tryz.underlying52 ?_ ?_ ?_); rotate_left; rfl; rfl; exact (by first | exact range_of H7.out.hd | exact range_of H8.out.hd); rfl; exact HI2.out; rotate_left; rfl) | (go_at_call 17; refine (check_any H7.out.hd2 m2 HW2.out (HP2.out _ H7.out.pop.pop.pop.pop.pop.hd) (Nat.le_trans HL2.out (by decide)) H7.out.ksW H7.out.posW).mono ?_; rintro E w7 ⟨he, b7⟩; rw [<- HF.out] at he; subst he; have H8 := iq (H7.out.below b7); clear b7 H7) | (go_at_call 29; refine (right_rf m2 _ HW2.out (HP2.out _ H8.out.pop.pop.pop.pop.pop.hd) (Nat.le_trans HL2.out (by decide)) H8.out.ksW H8.out.posW).mono ?_; rintro E w8 ⟨he, b8⟩; rw [hdr] at he; subst he; have H9 := iq (H8.out.below b8.out); clear b8 H8) | (go_at_call 13; refine (HW.out _ _ H9.out).mono ?_; rintro E w11 ⟨rfl, b11⟩; have HE := iq (H9.out.below b11); clear b11))
     go_ret
     exact ⟨rfl, HE.out.bel⟩
    have hdr : @decide m2.right (Classical.propDecidable _) = false := @decide_eq_false _ (Classical.propDecidable _) hrt
    have hf0 : ¬ f = 0 := fun e => hrt (chk_zero (HF.out.symm.trans e)).2.2.1
    have hf1 : (f == 0) = false := by simpa using hf0
    have hf2 : (f != 0) = true := by simp [hf0]
    clear hrt
    obtain ⟨V, hV⟩ : ∃ V, V = u64s (kn L) := ⟨_, rfl⟩
    have HKn : Hid (∀ W A' C', (loT b2 n A' C' L).P W -> KIs W -> 0 < W.heap.size -> Calls Tryz.prog 20 #[.pointer (some ⟨b2, 0, none⟩)] W fun E W' => E = .returned (.agg V.toArray) /\ Below W.heap.size W W') := iq fun W A' C' h hk h0 => by rw [hV]; exact knowns_any h hk h0
    have HIV : Hid ((Tryz.prog.info? 27).map (·.size) = some V.length) := iq (by rw [hV]; exact info_vec (kn_length L))
    have HOV : Hid (∀ v ∈ V, v.oneCell' = true) := iq (by rw [hV]; exact one_u64s _)
    have HEq : Hid (∀ W, (Op.equalIn 10000 27 (.agg V.toArray) (.agg V.toArray)).run Tryz.prog W = .ok true W) := iq fun W => by rw [hV]; exact eq_deps_of (d := 9998) _ _ (kn_length L) (kn_length L) (by simp) W
    have hzv := zero_vec
    obtain ⟨U, hU⟩ : ∃ U, U = u64s z11 := ⟨_, rfl⟩
    have hUn : ¬ (u64s z11 = []) := fun e => by cases e
    rw [<- hU] at hzv hUn
    have HLU : Hid (0 + V.length <= U.length /\ setAll U 0 V = V) := iq (by rw [hU, hV, u64s_length, u64s_length, kn_length]; exact ⟨by decide, setAll_all (by rw [u64s_length, u64s_length, kn_length]; rfl)⟩)
    clear hU hV
    go_wp2_with (first | ((with_reducible refine wpList_load_midG ?_ 52 (.tmp 16) ?_ x 0 ?_ (msgC m2) _ ?_ Tryz.underlying52 ?_ ?_ ?_); rotate_left; rfl; rfl; exact (by first | exact range_of H7.out.hd | exact range_of H8.out.hd); rfl; exact HI2.out; rotate_left; rfl) | (go_at_call 17; refine (check_any H7.out.hd2 m2 HW2.out (HP2.out _ H7.out.pop.pop.pop.pop.pop.hd) (Nat.le_trans HL2.out (by decide)) H7.out.ksW H7.out.posW).mono ?_; rintro E w7 ⟨he, b7⟩; rw [<- HF.out] at he; subst he; have H8 := iq (H7.out.below b7); clear b7 H7) | (go_at_call 29; refine (right_rf m2 _ HW2.out (HP2.out _ H8.out.pop.pop.pop.pop.pop.hd) (Nat.le_trans HL2.out (by decide)) H8.out.ksW H8.out.posW).mono ?_; rintro E w8 ⟨he, b8⟩; rw [hdr] at he; subst he; have H9 := iq (H8.out.below b8.out); clear b8 H8) | (go_at_call 20; refine (HKn.out _ _ _ H9.out.hd2 H9.out.ksW H9.out.posW).mono ?_; rintro E w9 ⟨rfl, b9⟩; have H10 := iq ((H9.out.below b9).box U.toArray 27); clear b9 H9) | (refine wpList_store_part rfl 27 (.tmp 18) (.tmp 148) rfl w9.heap.size 0 U V V 27 H10.out.hd HLU.out.1 HLU.out.2 rfl rfl HIV.out HOV.out ?_; intro w10 G; have H11 : Hid (Fr w1 w10 (blkT w9.heap.size V.toArray 27 :: blkT x (msgC m2).toArray 52 :: loT b2 n A' C' L :: WL b gk n (acted n l).ks (some ⟨g, o, none⟩) c all)) := iq (H10.out.turn (own_grown G.out.2 rfl) G.out.1 (blkT_ok _ _ _)); clear G H10))
    obtain ⟨q, hq⟩ : ∃ q, q = w9.heap.size := ⟨_, rfl⟩
    rw [<- hq] at H11 ⊢
    clear hq
    refine wp_region_any (by kernel_rfl) ?_
    change wpAny _ _ _ _ _ _ _ (World.drewN _ 1)
    refine held_gen (G := fun W' => wpAny _ _ _ _ _ _ _ W') (fun W' => Fr w1 W' (loT b2 n A' C' L :: blkT q (V).toArray 27 :: blkT x (msgC m2).toArray 52 :: WL b gk n (acted n l).ks (some ⟨g, o, none⟩) c all)) (H11.out.third.drewN 1) (fun y0 hw => ?_)
    have H12 := iq hw
    clear hw H11
    have HEV : Hid (∀ W A' C' L', Fr w1 W (loT b2 n A' C' L' :: blkT q (V).toArray 27 :: blkT x (msgC m2).toArray 52 :: WL b gk n (acted n l).ks (some ⟨g, o, none⟩) c all) -> W.rangeAt x 0 (msgC m2) /\ W.rangeAt q 0 V /\ W.cell? ⟨b, 1, none⟩ = some (.slice (some ⟨g, o, none⟩) M c) /\ W.rangeAt g (o + p * 121) (msgC m)) := iq fun W A' C' L' hf => ⟨range_of hf.hd3, range_of hf.hd2, (by have := block_cell hf.pop.pop.pop.hd 1 _ rfl; rw [<- HM.out] at this; exact this), HG2.out W hf.pop.pop.pop.pop.pop.hd⟩
    refine wpAny_of_held (S := fun W => W.rangeAt x 0 (msgC m2) /\ W.rangeAt q 0 V /\ W.cell? ⟨b, 1, none⟩ = some (.slice (some ⟨g, o, none⟩) M c) /\ W.rangeAt g (o + p * 121) (msgC m)) _ _ _ _ ?_
    refine tk 0 ⟨some 149, .move (.tmp 17), _, _, _, none⟩ (.int .i64 f) rfl (by kernel_rfl) (fun _ _ _ => id) (HEV.out _ _ _ _ H12.out) (fun W hSW => by go_simp) ?_
    try simp only [Act.put, l0, l1, l2]
    refine tk 1 ⟨some 150, .binOp .neq 37 (.tmp 149) (.const (.int .i64 0)) 37, _, _, _, none⟩ (.bool true) rfl (by kernel_rfl) (fun _ _ _ => id) (HEV.out _ _ _ _ H12.out) (fun W hSW => by go_simp) ?_
    try simp only [Act.put, l0, l1, l2]
    refine tk 2 ⟨some 151, .move (.tmp 150), _, _, _, none⟩ (.bool true) rfl (by kernel_rfl) (fun _ _ _ => id) (HEV.out _ _ _ _ H12.out) (fun W hSW => by go_simp) ?_
    try simp only [Act.put, l0, l1, l2]
    refine tk 3 ⟨some 152, .move (.tmp 12), _, _, _, some (2, true)⟩ (.pointer (some ⟨b2, 0, none⟩)) rfl (by kernel_rfl) (fun _ _ _ => id) (HEV.out _ _ _ _ H12.out) (fun W hSW => by go_simp) ?_
    try simp only [Act.put, l0, l1, l2]
    refine tk 4 ⟨some 153, .load 52 (.tmp 16), _, _, _, some (2, true)⟩ (.agg (msgC m2).toArray) rfl (by kernel_rfl) (fun _ _ _ => id) (HEV.out _ _ _ _ H12.out) (fun W hSW => exec_load_mid 52 (.tmp 16) rfl x 0 rfl (msgC m2) _ hSW.1 Tryz.underlying52 rfl HI2.out) ?_
    try simp only [Act.put, l0, l1, l2]
    refine tk 6 ⟨some 155, .move (.tmp 17), _, _, _, some (2, true)⟩ (.int .i64 f) rfl (by kernel_rfl) (fun _ _ _ => id) (HEV.out _ _ _ _ H12.out) (fun W hSW => by go_simp) ?_
    try simp only [Act.put, l0, l1, l2]
    refine rd1 5 ⟨some 154, .call { callee := .value (.func 18), args := #[.tmp 152, .tmp 153], argTypes := #[36, 52] }, _, _, _, some (2, true)⟩ (by kernel_rfl) rfl fun K' hK' => ?_
    go_simp
    go_at_call 18
    refine (add_fr H12.out m2 HW2.out (HP2.out _ H12.out.pop.pop.pop.pop.pop.pop.hd) HL2.out HLl.out).mono ?_
    rintro E w12 ⟨he, hne, _⟩
    rw [<- HF.out] at he hne
    subst he
    have H13 := iq (hne hf0)
    clear hne
    refine hK'.out _ _ (HEV.out _ _ _ _ H13.out) (fun _ => ?_)
    clear hK' K' H12
    try simp only [Act.put, l0, l1, l2]
    refine tk 7 ⟨some 156, .binOp .eql 37 (.tmp 154) (.tmp 155) 37, _, _, _, some (2, true)⟩ (.bool true) rfl (by kernel_rfl) (fun _ _ _ => id) (HEV.out _ _ _ _ H13.out) (fun W hSW => by go_simp) ?_
    try simp only [pu, l0, l1, l2]
    refine tk 8 ⟨some 157, .pick (.tmp 151) (.tmp 156) (.const (.bool false)), _, _, _, none⟩ (.bool true) rfl (by kernel_rfl) (fun _ _ _ => id) (HEV.out _ _ _ _ H13.out) (fun W hSW => by go_simp) ?_
    try simp only [pu, l0, l1, l2]
    refine tk 9 ⟨some 158, .move (.tmp 157), _, _, _, none⟩ (.bool true) rfl (by kernel_rfl) (fun _ _ _ => id) (HEV.out _ _ _ _ H13.out) (fun W hSW => by go_simp) ?_
    try simp only [pu, l0, l1, l2]
    refine tk 10 ⟨some 159, .move (.tmp 12), _, _, _, some (9, true)⟩ (.pointer (some ⟨b2, 0, none⟩)) rfl (by kernel_rfl) (fun _ _ _ => id) (HEV.out _ _ _ _ H13.out) (fun W hSW => by go_simp) ?_
    try simp only [pu, l0, l1, l2]
    refine tk 12 ⟨some 161, .load 27 (.tmp 18), _, _, _, some (9, true)⟩ (.agg V.toArray) rfl (by kernel_rfl) (fun _ _ _ => id) (HEV.out _ _ _ _ H13.out) (fun W hSW => exec_load_mid 27 (.tmp 18) rfl q 0 rfl V _ hSW.2.1 Tryz.underlying27 rfl HIV.out) ?_
    try simp only [pu, l0, l1, l2]
    refine rd1 11 ⟨some 160, .call { callee := .value (.func 20), args := #[.tmp 159], argTypes := #[36] }, _, _, _, some (9, true)⟩ (by kernel_rfl) rfl fun K' hK' => ?_
    go_simp
    go_at_call 20
    refine (HKn.out _ _ _ H13.out.hd H13.out.ksW H13.out.posW).mono ?_
    rintro E w13 ⟨rfl, b13⟩
    have H14 := iq (H13.out.below b13)
    clear b13
    refine hK'.out _ _ (HEV.out _ _ _ _ H14.out) (fun _ => ?_)
    clear hK' K' H13
    try simp only [Act.put, l0, l1, l2]
    refine tk 13 ⟨some 162, .binOp .eql 27 (.tmp 160) (.tmp 161) 27, _, _, _, some (9, true)⟩ (.bool true) rfl (by kernel_rfl) (fun _ _ _ => id) (HEV.out _ _ _ _ H14.out) (fun W hSW => by have gv := Tryz.guard27; have ev := HEq.out W; go_simp) ?_
    try simp only [pu, l0, l1, l2]
    refine tk 14 ⟨some 163, .pick (.tmp 158) (.tmp 162) (.const (.bool false)), _, _, _, none⟩ (.bool true) rfl (by kernel_rfl) (fun _ _ _ => id) (HEV.out _ _ _ _ H14.out) (fun W hSW => by go_simp) ?_
    try simp only [pu, l0, l1, l2]
    refine tk 15 ⟨some 164, .move (.tmp 163), _, _, _, none⟩ (.bool true) rfl (by kernel_rfl) (fun _ _ _ => id) (HEV.out _ _ _ _ H14.out) (fun W hSW => by go_simp) ?_
    try simp only [pu, l0, l1, l2]
    refine tk 16 ⟨some 165, .move (.tmp 12), _, _, _, some (15, true)⟩ (.pointer (some ⟨b2, 0, none⟩)) rfl (by kernel_rfl) (fun _ _ _ => id) (HEV.out _ _ _ _ H14.out) (fun W hSW => by go_simp) ?_
    try simp only [pu, l0, l1, l2]
    refine tk 17 ⟨some 166, .move (.tmp 11), _, _, _, some (15, true)⟩ (.pointer (some ⟨b, 0, none⟩)) rfl (by kernel_rfl) (fun _ _ _ => id) (HEV.out _ _ _ _ H14.out) (fun W hSW => by go_simp) ?_
    try simp only [pu, l0, l1, l2]
    refine tk 18 ⟨some 167, .nilCheck (.tmp 166), _, _, _, some (15, true)⟩ (.pointer (some ⟨b, 0, none⟩)) rfl (by kernel_rfl) (fun _ _ _ => id) (HEV.out _ _ _ _ H14.out) (fun W hSW => by go_simp) ?_
    try simp only [pu, l0, l1, l2]
    refine tk 19 ⟨some 168, .fieldAddr 35 (.tmp 167) 1, _, _, _, some (15, true)⟩ (.pointer (some ⟨b, 1, none⟩)) rfl (by kernel_rfl) (fun _ _ _ => id) (HEV.out _ _ _ _ H14.out) (fun W hSW => by go_simp) ?_
    try simp only [pu, l0, l1, l2]
    refine tk 20 ⟨some 169, .load 24 (.tmp 168), _, _, _, some (15, true)⟩ (.slice (some ⟨g, o, none⟩) M c) rfl (by kernel_rfl) (fun _ _ _ => id) (HEV.out _ _ _ _ H14.out) (fun W hSW => by have hv := hSW.2.2.1; go_simp) ?_
    try simp only [pu, l0, l1, l2]
    refine tk 21 ⟨some 170, .move (.tmp 14), _, _, _, some (15, true)⟩ (.int .i64 (p : Int)) rfl (by kernel_rfl) (fun _ _ _ => id) (HEV.out _ _ _ _ H14.out) (fun W hSW => by go_simp) ?_
    try simp only [pu, l0, l1, l2]
    refine tk 22 ⟨some 171, .indexAddr 24 (.tmp 169) (.tmp 170), _, _, _, some (15, true)⟩ (.pointer (some ⟨g, o + p * 121, none⟩)) rfl (by kernel_rfl) (fun _ _ _ => id) (HEV.out _ _ _ _ H14.out) (fun W hSW => by go_simp) ?_
    try simp only [pu, l0, l1, l2]
    refine tk 23 ⟨some 172, .load 52 (.tmp 171), _, _, _, some (15, true)⟩ (.agg (msgC m).toArray) rfl (by kernel_rfl) (fun _ _ _ => id) (HEV.out _ _ _ _ H14.out) (fun W hSW => exec_load_mid 52 (.tmp 171) rfl g (o + p * 121) rfl (msgC m) _ hSW.2.2.2 Tryz.underlying52 rfl HIm.out) ?_
    try simp only [pu, l0, l1, l2]
    refine rd1 24 ⟨some 173, .call { callee := .value (.func 18), args := #[.tmp 165, .tmp 172], argTypes := #[36, 52] }, _, _, _, some (15, true)⟩ (by kernel_rfl) rfl fun K' hK' => ?_
    go_simp
    go_at_call 18
    refine (add_fr H14.out m HWm.out (H14.out.pop.pop.pop.pop.pop.pop.hd m HMm.out) (Nat.le_trans (chk_few HC0.out) (by decide)) HLl.out).mono ?_
    rintro E w14 ⟨he, _, hz⟩
    rw [HC0.out] at he hz
    subst he
    obtain ⟨A2, C2, a2, c2, h15⟩ := hz rfl
    have H15 := iq h15
    clear hz h15
    refine hK'.out _ _ (HEV.out _ _ _ _ H15.out) (fun _ => ?_)
    clear hK' K' H14
    try simp only [Act.put, l0, l1, l2]
    refine tk 25 ⟨some 174, .binOp .eql 37 (.tmp 173) (.const (.int .i64 0)) 37, _, _, _, some (15, true)⟩ (.bool true) rfl (by kernel_rfl) (fun _ _ _ => id) (HEV.out _ _ _ _ H15.out) (fun W hSW => by go_simp) ?_
    try simp only [pu, l0, l1, l2]
    refine tk 26 ⟨some 175, .pick (.tmp 164) (.tmp 174) (.const (.bool false)), _, _, _, none⟩ (.bool true) rfl (by kernel_rfl) (fun _ _ _ => id) (HEV.out _ _ _ _ H15.out) (fun W hSW => by go_simp) ?_
    try simp only [pu, l0, l1, l2]
    refine tk 27 ⟨some 176, .move (.tmp 175), _, _, _, none⟩ (.bool true) rfl (by kernel_rfl) (fun _ _ _ => id) (HEV.out _ _ _ _ H15.out) (fun W hSW => by go_simp) ?_
    try simp only [pu, l0, l1, l2]
    refine rd1 28 ⟨some 177, .call { callee := .value (.func 13), args := #[], argTypes := #[] }, _, _, _, some (27, true)⟩ (by kernel_rfl) rfl fun K' hK' => ?_
    go_simp
    go_at_call 13
    refine (HW.out _ _ H15.out).mono ?_
    rintro E w15 ⟨rfl, b15⟩
    have H16 := iq (H15.out.below b15)
    clear b15
    refine hK'.out _ _ (HEV.out _ _ _ _ H16.out) (fun _ => ?_)
    clear hK' K' H15
    try simp only [Act.put, l0, l1, l2]
    refine tk 29 ⟨some 178, .pick (.tmp 176) (.tmp 177) (.const (.bool false)), _, _, _, none⟩ (.bool true) rfl (by kernel_rfl) (fun _ _ _ => id) (HEV.out _ _ _ _ H16.out) (fun W hSW => by go_simp) ?_
    try simp only [pu, l0, l1, l2]
    refine tk 30 ⟨some 10, .assign (.tmp 178), _, _, _, none⟩ (.bool true) rfl (by kernel_rfl) (fun _ _ _ => id) (HEV.out _ _ _ _ H16.out) (fun W hSW => by go_simp) ?_
    try simp only [pu, l0, l1, l2]
    refine wpAnyH_done (by kernel_rfl) ?_ _
    go_wp2_with fail
    go_ret
    exact ⟨rfl, H16.out.bel⟩
open Go.RowKit
theorem turned_in (W : World) (hk : KIs W) (h0 : 0 < W.heap.size) (a0 : Int) (w0 : (Lit.int .u8 a0).wf = true) (A : Option Addr) (n c : Nat) (h : ∃ l : List MAct, l.length = n /\ As W A l) (hn : n <= 4398046511104) (a2 : Int) (w2 : (Lit.int .u8 a2).wf = true) (a3 : Int) (w3 : (Lit.int .u8 a3).wf = true) (a4 : Int) (w4 : (Lit.int .u8 a4).wf = true) :
  Calls Tryz.prog 6 #[.int .u8 a0, .slice A n c, .int .u8 a2, .int .u8 a3, .int .u8 a4] W fun E w' => E = .returned (.bool true) /\ Below W.heap.size W w' := by
 obtain ⟨l, rfl, hAs⟩ := h
 obtain ⟨e0, l0⟩ := n8_of w0
 obtain ⟨e2, l2⟩ := n8_of w2
 obtain ⟨e3, l3⟩ := n8_of w3
 obtain ⟨e4, l4⟩ := n8_of w4
 rw [e0, e2, e3, e4]
 exact turned_walk hk h0 _ _ _ _ l0 l2 l3 l4 A c l hAs hn
end Go.Proofs.YtllbbcifcbkgeaaGreatDoor.Sh
