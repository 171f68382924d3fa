/- Laws and walks. -/
import Derived.Test.YtllbbcifcbkgeaaGreatDoorH22a
import Derived.Test.YtllbbcifcbkgeaaGreatDoorG1a
set_option maxHeartbeats 16000000
set_option maxRecDepth 100000
namespace Go.Proofs.YtllbbcifcbkgeaaGreatDoor.Sh
open Go.RowKit
theorem all_walk {w : World} (hk : KIs w) (h0 : 0 < w.heap.size) (k : Nat) (hk8 : k < 256) (A0 : Option Addr) (c0 : Nat) (l : List MAct) (hAs : As w A0 l) (hl : l.length <= 4398046511104) (A1 : Option Addr) (c1 : Nat) (bs : List UInt8) (hRd : Rd (fun _ => True) w A1 bs.length bs) (hbl : bs.length <= 140737488351232) :
  Calls Tryz.prog 8 #[.int .u8 (k : Int), .slice A0 l.length c0, .slice A1 bs.length c1] w fun E w' => E = .returned (.bool true) /\ Below w.heap.size w w' := by
 have HW : Hid (∀ W os, Fr w W os -> Calls Tryz.prog 31 #[] W fun E w' => E = .returned (.bool true) /\ Below W.heap.size W w') := iq fun W os H => wworks_any W H.ksW H.posW
 obtain ⟨N, hN⟩ : ∃ N, N = l.length := ⟨_, rfl⟩
 have HN := iq hN
 obtain ⟨p, hp⟩ : ∃ p, p = bs.length := ⟨_, rfl⟩
 rw [<- hp] at hRd hbl ⊢
 have HRd := iq hRd
 have HP := iq hp
 have HFew : Hid (Calls Tryz.prog 11 #[.slice A0 N c0] w fun E w' => ∃ z, E = .returned (.bool z) /\ (z = true -> N <= 100 /\ ∀ x ∈ l, x.q.length <= 20) /\ w' = w) := iq (by rw [hN]; exact (fewA_any A0 c0 l w hAs hl).mono fun E w' hx => by obtain ⟨z, e, hz, hw⟩ := hx; exact ⟨z, e, hz, hw.symm⟩)
 obtain ⟨n, hn⟩ : ∃ n, n = 3 + 2 * (k % 5) := ⟨_, rfl⟩
 have HActs : Hid ((N <= 100 /\ ∀ x ∈ l, x.q.length <= 20) -> Calls Tryz.prog 14 #[.int .u8 (k : Int), .slice A0 N c0] w fun E w' => ActsP w n l E w') := iq fun hx => by rw [hN, hn]; exact acts_any k hk8 A0 c0 l w hAs (hN ▸ hx.1) hx.2 hk h0
 have hn11 : n <= 11 := by omega
 have hn3 : 3 <= n := by omega
 have HIs : Hid (isN (n : Int) = true) := iq (by rw [isN]; exact decide_eq_true ⟨by omega, by omega, by omega⟩)
 have hz := zero_msg
 have hzl := msgC_length zeroMsg_wf
 have hzn : ¬ (msgC zeroMsg = []) := fun e => by rw [e] at hzl; cases hzl
 obtain ⟨Z, hZ⟩ : ∃ Z, Z = msgC zeroMsg := ⟨_, rfl⟩
 rw [<- hZ] at hz hzl hzn
 have HZl := iq hzl
 have HLE : Hid (∀ m : MMsg, m.Wf -> 0 + (msgC m).length <= Z.length /\ setAll Z 0 (msgC m) = msgC m) := iq fun m hm => ⟨by rw [msgC_length hm, HZl.out]; omega, setAll_all (by rw [msgC_length hm, HZl.out])⟩
 have H1 := iq (Fr.start hk h0)
 rw [<- hN]
 clear hN hn hk h0 hAs hl hk8 hZ hzl hRd hp
 go_enter Tryz.func8, Tryz.ntmps8
 by_cases h60 : (N : Int) > 60
 ·have h60' : 60 < N := by omega
  go_wp2_with (first | (go_at_call 11; refine (HFew.out).mono ?_; rintro E w1 ⟨z, rfl, hz, rfl⟩; have HZ := iq hz; clear hz) | (go_at_call 31; refine (HW.out _ _ H1.out).mono ?_; rintro E w11 ⟨rfl, b11⟩; have HE := iq (H1.out.below b11); clear b11))
  all_goals (go_ret; exact ⟨rfl, HE.out.bel⟩)
 by_cases h100 : (p : Int) > 100
 ·have h100' : 100 < p := by omega
  go_wp2_with (first | (go_at_call 11; refine (HFew.out).mono ?_; rintro E w1 ⟨z, rfl, hz, rfl⟩; have HZ := iq hz; clear hz) | (go_at_call 31; refine (HW.out _ _ H1.out).mono ?_; rintro E w11 ⟨rfl, b11⟩; have HE := iq (H1.out.below b11); clear b11))
  all_goals (go_ret; exact ⟨rfl, HE.out.bel⟩)
 have h60' : ¬ 60 < N := by omega
 have h100' : ¬ 100 < p := by omega
 go_upto_region 4 with (first | (go_at_call 11; refine (HFew.out).mono ?_; rintro E w1 ⟨z, rfl, hz, rfl⟩; have HZ := iq hz; clear hz) | (go_at_call 31; refine (HW.out _ _ H1.out).mono ?_; rintro E w11 ⟨rfl, b11⟩; have HE := iq (H1.out.below b11); clear b11) | (go_at_call 14; refine (HActs.out (by first | exact HZ.out rfl | exact HZ.out (by assumption) | exact HZ.out (by simp_all))).mono ?_; rintro E w2 ⟨b, kb, A, c, all, rfl, hbare, hfr⟩; have HBr := iq hbare; have H2 := iq hfr; clear hbare hfr H1))
 all_goals (try (go_ret; exact ⟨rfl, HE.out.bel⟩))
 obtain ⟨M, hM⟩ : ∃ M, M = all.length := ⟨_, rfl⟩
 have HM := iq hM
 have hc0 := block_cell H2.out.hd 0 _ rfl
 have HWf : Hid (∀ m ∈ all, m.Wf) := iq H2.out.hd3.2
 have hM60 : M <= 60 := by
  have h1 := congrArg List.length HBr.out
  rw [List.length_map, List.length_map] at h1
  have h2 := (ok_acted n (by omega) l l.length (Nat.le_refl _)).few
  rw [List.take_length] at h2
  have := HN.out
  omega
 have HGd : Hid (∀ (i : Nat) (m : MMsg), all[i]? = some m -> chk n (all.take i) m = 0) := iq fun i m hi => world_chk (by omega) hn11 HBr.out hi rfl
 clear hM
 go_upto_region 8 with (first | (go_at_call 15; refine (lnew_any n HIs.out _).mono ?_; rintro E w3 ⟨b2, rfl, hl, hb, b3⟩; rw [Int.toNat_natCast] at hl; have H3 : Hid (Fr w1 w3 (loT b2 n (fun _ => none) (fun _ => 0) [] :: WL b kb n (acted n l).ks A c all)) := iq (H2.out.add b3 hl (loT_ok _ _ _ _ _) fun k hk => by rcases hk with rfl | ⟨_, _, e⟩ | ⟨_, e, _⟩ <;> first | exact hb | cases e); clear hl hb b3 H2) | (go_at_call 32; refine (wnew_any _).mono ?_; rintro E w4 ⟨rfl, rfl⟩))
 have H4 : Hid (Fr w1 (w3.alloc (.cells #[.map none] 108)) (waT w3.heap.size none [] :: loT b2 n (fun _ => none) (fun _ => 0) [] :: WL b kb n (acted n l).ks A c all)) := iq (wait_new H3.out)
 clear hc0 H3
 obtain ⟨bx, hbx⟩ : ∃ bx, bx = w3.heap.size := ⟨_, rfl⟩
 rw [<- hbx] at H4 ⊢
 obtain ⟨w5, hw5⟩ : ∃ w5, w5 = w3.alloc (.cells #[.map none] 108) := ⟨_, rfl⟩
 rw [<- hw5] at H4 ⊢
 clear hbx hw5
 obtain ⟨T, hT⟩ : ∃ T, T = M * (M + 1) := ⟨_, rfl⟩
 have hT2 : T <= 3660 := by rw [hT]; exact Nat.le_trans (Nat.mul_le_mul hM60 (Nat.succ_le_succ hM60)) (by decide)
 have hwM1 : IntKind.i64.wrap ((M : Int) + 1) = (M : Int) + 1 := by rw [IntKind.wrap_i64]; omega
 have hwT : IntKind.i64.wrap ((M : Int) * ((M : Int) + 1)) = (T : Int) := by
  have e : (M : Int) * ((M : Int) + 1) = (T : Int) := by rw [hT]; simp
  rw [e, IntKind.wrap_i64]; omega
 have hwS : IntKind.i64.wrap ((p : Int) + (T : Int)) = (p : Int) + (T : Int) := by rw [IntKind.wrap_i64]; omega
 have HT := iq hT
 clear hT
 skip
 have D0 : Hid (∃ mb ws A' C' L c', Fr w1 w5 (waT bx mb ws :: loT b2 n A' C' L :: WL b kb n (acted n l).ks A c all) /\ Wst all L ws c' /\ Quiet n L ws /\ (0 < M -> Sw all p 0 c')) := iq ⟨_, _, _, _, [], fun _ => 0, H4.out, ⟨⟨fun _ h => (by cases h), fun o _ => ⟨Nat.zero_le _, rfl⟩⟩, List.Pairwise.nil, fun _ h => (by cases h), fun r => Nat.zero_le _⟩, fun _ h => (by cases h), fun h => sw_start all (Nat.zero_le _) (HM.out ▸ h) _⟩
 clear H4
 go_wp2_with fail
 go_loopw [11] (fun v11 wr => ∃ i : Nat, i <= p + T /\ v11 = .int .i64 (i : Int) /\ Hid (∃ mb ws A' C' L c', Fr w1 wr (waT bx mb ws :: loT b2 n A' C' L :: WL b kb n (acted n l).ks A c all) /\ Wst all L ws c' /\ Quiet n L ws /\ (0 < M -> Sw all p i c'))) (fun v11 _ => p + T - (intOf v11).toNat)
 case atStart => exact ⟨0, by omega, rfl, D0⟩
 case round =>
  clear D0
  obtain ⟨i, hi, rfl, DD⟩ := hrel
  obtain ⟨mb, ws, A', C', L, cc, hfr, hws, hqt, hsw⟩ := DD.out
  have H5 := iq hfr
  have HWs := iq hws
  have HQt := iq hqt
  have HSw := iq hsw
  clear DD hfr hws hqt hsw
  have hcb := block_cell H5.out.hd3 1 _ rfl
  rw [<- HM.out] at hcb
  by_cases hM0 : M = 0
  ·have hMi : ((0 : Int) < (M : Int)) = False := eq_false (by omega)
   have HKn : Hid (∀ m ∈ all, m.number <= cc m.oi) := iq fun m hm => absurd (List.length_pos_of_mem hm) (by rw [<- HM.out]; omega)
   have hMn : (0 < M) = False := eq_false (by omega)
   clear hM0
   by_cases hii2 : (i : Int) < (p : Int) + (T : Int)
   all_goals
    go_upto_region 9 with fail
    go_quiet (fail)
    go_wp2_with fail
    obtain ⟨e1, e2⟩ := all_known HGd.out HWf.out HWs.out HQt.out HKn.out
    subst e2
    have hL : L.length = M := e1.trans HM.out.symm
    have hl0 : ((([] : List MMsg).length : Nat) : Int) = 0 := rfl
    clear e1 hcb
    refine wp_region_any (by kernel_rfl) ?_
    change wpAny _ _ _ _ _ _ _ (World.drewN _ 1)
    refine held_gen (G := fun W' => wpAny _ _ _ _ _ _ _ W') (fun W' => Fr w1 W' (waT bx mb [] :: loT b2 n A' C' L :: WL b kb n (acted n l).ks A c all)) ((H5.out.drewN _).drewN 1) (fun z0 hw => ?_)
    have H6 := iq hw
    clear hw H5
    have HEV : Hid (∀ W', Fr w1 W' (waT bx mb [] :: loT b2 n A' C' L :: WL b kb n (acted n l).ks A c all) -> W'.cell? ⟨b, 1, none⟩ = some (.slice A M c)) := iq fun W' hf => by have := block_cell hf.hd3 1 _ rfl; rw [<- HM.out] at this; exact this
    refine wpAny_of_held (S := fun W' => W'.cell? ⟨b, 1, none⟩ = some (.slice A M c)) _ _ _ _ ?_
    refine tk 0 ⟨some 146, .move (.tmp 8), _, _, _, none⟩ (.pointer (some ⟨b2, 0, none⟩)) rfl (by kernel_rfl) (fun _ _ _ => id) (HEV.out _ H6.out) (fun W hSW => by go_simp) ?_
    try simp only [Act.put, l0, l1, l2]
    refine tk 2 ⟨some 148, .move (.tmp 7), _, _, _, none⟩ (.pointer (some ⟨b, 0, none⟩)) rfl (by kernel_rfl) (fun _ _ _ => id) (HEV.out _ H6.out) (fun W hSW => by go_simp) ?_
    try simp only [pu, l0, l1, l2]
    refine tk 3 ⟨some 149, .nilCheck (.tmp 148), _, _, _, none⟩ (.pointer (some ⟨b, 0, none⟩)) rfl (by kernel_rfl) (fun _ _ _ => id) (HEV.out _ H6.out) (fun W hSW => by go_simp) ?_
    try simp only [pu, l0, l1, l2]
    refine tk 4 ⟨some 150, .fieldAddr 35 (.tmp 149) 1, _, _, _, none⟩ (.pointer (some ⟨b, 1, none⟩)) rfl (by kernel_rfl) (fun _ _ _ => id) (HEV.out _ H6.out) (fun W hSW => by go_simp) ?_
    try simp only [pu, l0, l1, l2]
    refine tk 5 ⟨some 151, .load 24 (.tmp 150), _, _, _, none⟩ (.slice A M c) rfl (by kernel_rfl) (fun _ _ _ => id) (HEV.out _ H6.out) (fun W hSW => by have hv := hSW; go_simp) ?_
    try simp only [pu, l0, l1, l2]
    refine tk 6 ⟨some 152, .call { callee := .builtin .len, args := #[.tmp 151], argTypes := #[24] }, _, _, _, none⟩ (.int .i64 (M : Int)) rfl (by kernel_rfl) (fun _ _ _ => id) (HEV.out _ H6.out) (fun W hSW => by go_simp) ?_
    try simp only [pu, l0, l1, l2]
    refine rd1 1 ⟨some 147, .call { callee := .value (.func 21), args := #[.tmp 146], argTypes := #[36] }, _, _, _, none⟩ (by kernel_rfl) rfl fun K' hK' => ?_
    go_simp
    go_at_call 21
    refine (len_any H6.out.hd2).mono ?_
    rintro E z1 ⟨rfl, rfl⟩
    rw [hL]
    refine hK'.out _ _ (HEV.out _ H6.out) (fun _ => ?_)
    clear hK' K'
    try simp only [Act.put, l0, l1, l2]
    refine tk 7 ⟨some 153, .binOp .eql 3 (.tmp 147) (.tmp 152) 3, _, _, _, none⟩ (.bool true) rfl (by kernel_rfl) (fun _ _ _ => id) (HEV.out _ H6.out) (fun W hSW => by go_simp) ?_
    try simp only [pu, l0, l1, l2]
    refine tk 8 ⟨some 154, .move (.tmp 153), _, _, _, none⟩ (.bool true) rfl (by kernel_rfl) (fun _ _ _ => id) (HEV.out _ H6.out) (fun W hSW => by go_simp) ?_
    try simp only [pu, l0, l1, l2]
    refine tk 9 ⟨some 155, .move (.tmp 10), _, _, _, some (8, true)⟩ (.pointer (some ⟨bx, 0, none⟩)) rfl (by kernel_rfl) (fun _ _ _ => id) (HEV.out _ H6.out) (fun W hSW => by go_simp) ?_
    try simp only [pu, l0, l1, l2]
    refine rd1 10 ⟨some 156, .call { callee := .value (.func 37), args := #[.tmp 155], argTypes := #[72] }, _, _, _, some (8, true)⟩ (by kernel_rfl) rfl fun K' hK' => ?_
    go_simp
    go_at_call 37
    refine (wlen_any H6.out.hd).mono ?_
    rintro E z1 ⟨rfl, rfl⟩
    rw [hl0]
    refine hK'.out _ _ (HEV.out _ H6.out) (fun _ => ?_)
    clear hK' K'
    try simp only [Act.put, l0, l1, l2]
    refine tk 11 ⟨some 157, .binOp .eql 3 (.tmp 156) (.const (.int .i64 0)) 3, _, _, _, some (8, true)⟩ (.bool true) rfl (by kernel_rfl) (fun _ _ _ => id) (HEV.out _ H6.out) (fun W hSW => by go_simp) ?_
    try simp only [pu, l0, l1, l2]
    refine tk 12 ⟨some 158, .pick (.tmp 154) (.tmp 157) (.const (.bool false)), _, _, _, none⟩ (.bool true) rfl (by kernel_rfl) (fun _ _ _ => id) (HEV.out _ H6.out) (fun W hSW => by go_simp) ?_
    try simp only [pu, l0, l1, l2]
    refine tk 13 ⟨some 159, .move (.tmp 158), _, _, _, none⟩ (.bool true) rfl (by kernel_rfl) (fun _ _ _ => id) (HEV.out _ H6.out) (fun W hSW => by go_simp) ?_
    try simp only [pu, l0, l1, l2]
    refine rd1 14 ⟨some 160, .call { callee := .value (.func 31), args := #[], argTypes := #[] }, _, _, _, some (13, true)⟩ (by kernel_rfl) rfl fun K' hK' => ?_
    go_simp
    go_at_call 31
    refine (HW.out _ _ H6.out).mono ?_
    rintro E z3 ⟨rfl, b3⟩
    have H7 := iq (H6.out.below b3)
    clear b3
    refine hK'.out _ _ (HEV.out _ H7.out) (fun _ => ?_)
    clear hK' K'
    try simp only [Act.put, l0, l1, l2]
    refine tk 15 ⟨some 161, .pick (.tmp 159) (.tmp 160) (.const (.bool false)), _, _, _, none⟩ (.bool true) rfl (by kernel_rfl) (fun _ _ _ => id) (HEV.out _ H7.out) (fun W hSW => by go_simp) ?_
    try simp only [pu, l0, l1, l2]
    refine tk 16 ⟨some 6, .assign (.tmp 161), _, _, _, none⟩ (.bool true) rfl (by kernel_rfl) (fun _ _ _ => id) (HEV.out _ H7.out) (fun W hSW => by go_simp) ?_
    try simp only [pu, l0, l1, l2]
    refine wpAnyH_done (by kernel_rfl) ?_ _
    go_wp2_with fail
    go_ret
    exact ⟨rfl, H7.out.bel⟩
  have hMi : (M : Int) > 0 := by omega
  have hM3 : 0 < M := by omega
  by_cases hii : i < p + T
  rotate_left
  ·have hii2 : ¬ (i : Int) < (p : Int) + (T : Int) := by omega
   have HKn : Hid (∀ m ∈ all, m.number <= cc m.oi) := iq ((HSw.out hM3).done (by
    have h := HT.out
    rw [Nat.mul_succ] at h
    rw [<- HM.out, show i = p + T by omega, h]
    exact Nat.add_le_add_left (Nat.le_add_right _ _) _))
   go_upto_region 9 with fail
   go_quiet (fail)
   go_wp2_with fail
   obtain ⟨e1, e2⟩ := all_known HGd.out HWf.out HWs.out HQt.out HKn.out
   subst e2
   have hL : L.length = M := e1.trans HM.out.symm
   have hl0 : ((([] : List MMsg).length : Nat) : Int) = 0 := rfl
   clear e1 hcb
   refine wp_region_any (by kernel_rfl) ?_
   change wpAny _ _ _ _ _ _ _ (World.drewN _ 1)
   refine held_gen (G := fun W' => wpAny _ _ _ _ _ _ _ W') (fun W' => Fr w1 W' (waT bx mb [] :: loT b2 n A' C' L :: WL b kb n (acted n l).ks A c all)) ((H5.out.drewN _).drewN 1) (fun z0 hw => ?_)
   have H6 := iq hw
   clear hw H5
   have HEV : Hid (∀ W', Fr w1 W' (waT bx mb [] :: loT b2 n A' C' L :: WL b kb n (acted n l).ks A c all) -> W'.cell? ⟨b, 1, none⟩ = some (.slice A M c)) := iq fun W' hf => by have := block_cell hf.hd3 1 _ rfl; rw [<- HM.out] at this; exact this
   refine wpAny_of_held (S := fun W' => W'.cell? ⟨b, 1, none⟩ = some (.slice A M c)) _ _ _ _ ?_
   refine tk 0 ⟨some 146, .move (.tmp 8), _, _, _, none⟩ (.pointer (some ⟨b2, 0, none⟩)) rfl (by kernel_rfl) (fun _ _ _ => id) (HEV.out _ H6.out) (fun W hSW => by go_simp) ?_
   try simp only [Act.put, l0, l1, l2]
   refine tk 2 ⟨some 148, .move (.tmp 7), _, _, _, none⟩ (.pointer (some ⟨b, 0, none⟩)) rfl (by kernel_rfl) (fun _ _ _ => id) (HEV.out _ H6.out) (fun W hSW => by go_simp) ?_
   try simp only [pu, l0, l1, l2]
   refine tk 3 ⟨some 149, .nilCheck (.tmp 148), _, _, _, none⟩ (.pointer (some ⟨b, 0, none⟩)) rfl (by kernel_rfl) (fun _ _ _ => id) (HEV.out _ H6.out) (fun W hSW => by go_simp) ?_
   try simp only [pu, l0, l1, l2]
   refine tk 4 ⟨some 150, .fieldAddr 35 (.tmp 149) 1, _, _, _, none⟩ (.pointer (some ⟨b, 1, none⟩)) rfl (by kernel_rfl) (fun _ _ _ => id) (HEV.out _ H6.out) (fun W hSW => by go_simp) ?_
   try simp only [pu, l0, l1, l2]
   refine tk 5 ⟨some 151, .load 24 (.tmp 150), _, _, _, none⟩ (.slice A M c) rfl (by kernel_rfl) (fun _ _ _ => id) (HEV.out _ H6.out) (fun W hSW => by have hv := hSW; go_simp) ?_
   try simp only [pu, l0, l1, l2]
   refine tk 6 ⟨some 152, .call { callee := .builtin .len, args := #[.tmp 151], argTypes := #[24] }, _, _, _, none⟩ (.int .i64 (M : Int)) rfl (by kernel_rfl) (fun _ _ _ => id) (HEV.out _ H6.out) (fun W hSW => by go_simp) ?_
   try simp only [pu, l0, l1, l2]
   refine rd1 1 ⟨some 147, .call { callee := .value (.func 21), args := #[.tmp 146], argTypes := #[36] }, _, _, _, none⟩ (by kernel_rfl) rfl fun K' hK' => ?_
   go_simp
   go_at_call 21
   refine (len_any H6.out.hd2).mono ?_
   rintro E z1 ⟨rfl, rfl⟩
   rw [hL]
   refine hK'.out _ _ (HEV.out _ H6.out) (fun _ => ?_)
   clear hK' K'
   try simp only [Act.put, l0, l1, l2]
   refine tk 7 ⟨some 153, .binOp .eql 3 (.tmp 147) (.tmp 152) 3, _, _, _, none⟩ (.bool true) rfl (by kernel_rfl) (fun _ _ _ => id) (HEV.out _ H6.out) (fun W hSW => by go_simp) ?_
   try simp only [pu, l0, l1, l2]
   refine tk 8 ⟨some 154, .move (.tmp 153), _, _, _, none⟩ (.bool true) rfl (by kernel_rfl) (fun _ _ _ => id) (HEV.out _ H6.out) (fun W hSW => by go_simp) ?_
   try simp only [pu, l0, l1, l2]
   refine tk 9 ⟨some 155, .move (.tmp 10), _, _, _, some (8, true)⟩ (.pointer (some ⟨bx, 0, none⟩)) rfl (by kernel_rfl) (fun _ _ _ => id) (HEV.out _ H6.out) (fun W hSW => by go_simp) ?_
   try simp only [pu, l0, l1, l2]
   refine rd1 10 ⟨some 156, .call { callee := .value (.func 37), args := #[.tmp 155], argTypes := #[72] }, _, _, _, some (8, true)⟩ (by kernel_rfl) rfl fun K' hK' => ?_
   go_simp
   go_at_call 37
   refine (wlen_any H6.out.hd).mono ?_
   rintro E z1 ⟨rfl, rfl⟩
   rw [hl0]
   refine hK'.out _ _ (HEV.out _ H6.out) (fun _ => ?_)
   clear hK' K'
   try simp only [Act.put, l0, l1, l2]
   refine tk 11 ⟨some 157, .binOp .eql 3 (.tmp 156) (.const (.int .i64 0)) 3, _, _, _, some (8, true)⟩ (.bool true) rfl (by kernel_rfl) (fun _ _ _ => id) (HEV.out _ H6.out) (fun W hSW => by go_simp) ?_
   try simp only [pu, l0, l1, l2]
   refine tk 12 ⟨some 158, .pick (.tmp 154) (.tmp 157) (.const (.bool false)), _, _, _, none⟩ (.bool true) rfl (by kernel_rfl) (fun _ _ _ => id) (HEV.out _ H6.out) (fun W hSW => by go_simp) ?_
   try simp only [pu, l0, l1, l2]
   refine tk 13 ⟨some 159, .move (.tmp 158), _, _, _, none⟩ (.bool true) rfl (by kernel_rfl) (fun _ _ _ => id) (HEV.out _ H6.out) (fun W hSW => by go_simp) ?_
   try simp only [pu, l0, l1, l2]
   refine rd1 14 ⟨some 160, .call { callee := .value (.func 31), args := #[], argTypes := #[] }, _, _, _, some (13, true)⟩ (by kernel_rfl) rfl fun K' hK' => ?_
   go_simp
   go_at_call 31
   refine (HW.out _ _ H6.out).mono ?_
   rintro E z3 ⟨rfl, b3⟩
   have H7 := iq (H6.out.below b3)
   clear b3
   refine hK'.out _ _ (HEV.out _ H7.out) (fun _ => ?_)
   clear hK' K'
   try simp only [Act.put, l0, l1, l2]
   refine tk 15 ⟨some 161, .pick (.tmp 159) (.tmp 160) (.const (.bool false)), _, _, _, none⟩ (.bool true) rfl (by kernel_rfl) (fun _ _ _ => id) (HEV.out _ H7.out) (fun W hSW => by go_simp) ?_
   try simp only [pu, l0, l1, l2]
   refine tk 16 ⟨some 6, .assign (.tmp 161), _, _, _, none⟩ (.bool true) rfl (by kernel_rfl) (fun _ _ _ => id) (HEV.out _ H7.out) (fun W hSW => by go_simp) ?_
   try simp only [pu, l0, l1, l2]
   refine wpAnyH_done (by kernel_rfl) ?_ _
   go_wp2_with fail
   go_ret
   exact ⟨rfl, H7.out.bel⟩
  have hii2 : (i : Int) < (p : Int) + (T : Int) := by omega
  have hMn : 0 < all.length := by rw [<- HM.out]; exact hM3
  obtain ⟨g, o, hA, hg⟩ := mr_at H5.out.pop.pop.hd3 hMn
  subst hA
  have HG := iq hg
  have hSl := (mr_sl H5.out.pop.pop.hd3).2
  have hMc : M <= c := by rw [HM.out]; exact hSl.1
  have hcm : c <= 9223372036854775807 := hSl.2
  clear hg hSl hMn
  obtain ⟨r, hr⟩ : ∃ r, r = i % M := ⟨_, rfl⟩
  have hrM : r < M := by rw [hr]; exact Nat.mod_lt _ hM3
  have htm : Int.tmod (i : Int) (M : Int) = (r : Int) := by rw [Int.tmod_eq_emod_of_nonneg (by omega), hr]; omega
  obtain ⟨d, hd⟩ : ∃ d, d = M - 1 - r := ⟨_, rfl⟩
  have hw1 : IntKind.i64.wrap ((M : Int) - 1) = ((M - 1 : Nat) : Int) := by rw [IntKind.wrap_i64]; omega
  have hw2 : IntKind.i64.wrap (((M - 1 : Nat) : Int) - (r : Int)) = (d : Int) := by rw [IntKind.wrap_i64]; omega
  have hwr : IntKind.i64.wrap (r : Int) = (r : Int) := by rw [IntKind.wrap_i64]; omega
  have hM1 : ¬ (M : Int) = 0 := by omega
  have hM2 : ((M : Int) == 0) = false := by simp; omega
  have hdM : (d : Int) < (M : Int) := by omega
  have hd0 : (0 : Int) <= (d : Int) := by omega
  have hdt : ((d : Int)).toNat = d := by omega
  obtain ⟨m, hm⟩ : ∃ m, all[d]? = some m := ⟨_, List.getElem?_eq_getElem (by rw [<- HM.out]; omega)⟩
  have HMm := iq (List.mem_of_getElem? hm)
  have HWm := iq (HWf.out m HMm.out)
  have HIm := iq (info_msg HWm.out)
  have HAt : Hid (∀ m', all[all.length - 1 - i % all.length]? = some m' -> m' = m) := iq fun m' h => by rw [<- HM.out, <- hr, <- hd, hm] at h; exact (Option.some.inj h).symm
  have HR0 : Hid (∀ W', (mrT (some ⟨g, o, none⟩) c all).P W' -> W'.rangeAt g (o + d * 121) (msgC m)) := iq fun W' h => (HG.out W' h d m hm).2
  clear hm hr hd
  go_upto_region 9 with fail
  go_quiet (fail)
  go_wp2_with fail
  clear hcb
  refine wp_region_any (by kernel_rfl) ?_
  change wpAny _ _ _ _ _ _ _ (World.drewN _ 1)
  refine held_gen (G := fun W' => wpAny _ _ _ _ _ _ _ W') (fun W' => Fr w1 W' (waT bx mb ws :: loT b2 n A' C' L :: WL b kb n (acted n l).ks (some ⟨g, o, none⟩) c all)) ((H5.out.drewN _).drewN 1) (fun w5 hw5 => ?_)
  have H6 := iq hw5
  clear hw5
  have HEV : Hid (∀ W' mb ws A' C' L, Fr w1 W' (waT bx mb ws :: loT b2 n A' C' L :: WL b kb n (acted n l).ks (some ⟨g, o, none⟩) c all) -> W'.cell? ⟨b, 1, none⟩ = some (.slice (some ⟨g, o, none⟩) M c) /\ W'.rangeAt g (o + d * 121) (msgC m)) := iq fun W' mb ws A' C' L hf => ⟨(by have := block_cell hf.hd3 1 _ rfl; rw [<- HM.out] at this; exact this), HR0.out W' hf.pop.pop.hd3⟩
  have E6 := HEV.out _ _ _ _ _ _ H6.out
  refine wpAny_of_held (S := fun W' => W'.cell? ⟨b, 1, none⟩ = some (.slice (some ⟨g, o, none⟩) M c) /\ W'.rangeAt g (o + d * 121) (msgC m)) _ _ _ _ ?_
  refine tk 0 ⟨some 76, .move (.tmp 7), _, _, _, none⟩ (.pointer (some ⟨b, 0, none⟩)) rfl (by kernel_rfl) (fun _ _ _ => id) (E6) (fun W hSW => by go_simp) ?_
  try simp only [Act.put, l0, l1, l2]
  refine tk 1 ⟨some 77, .nilCheck (.tmp 76), _, _, _, none⟩ (.pointer (some ⟨b, 0, none⟩)) rfl (by kernel_rfl) (fun _ _ _ => id) (E6) (fun W hSW => by go_simp) ?_
  try simp only [pu, l0, l1, l2]
  refine tk 2 ⟨some 78, .fieldAddr 35 (.tmp 77) 1, _, _, _, none⟩ (.pointer (some ⟨b, 1, none⟩)) rfl (by kernel_rfl) (fun _ _ _ => id) (E6) (fun W hSW => by go_simp) ?_
  try simp only [pu, l0, l1, l2]
  refine tk 3 ⟨some 79, .load 24 (.tmp 78), _, _, _, none⟩ (.slice (some ⟨g, o, none⟩) M c) rfl (by kernel_rfl) (fun _ _ _ => id) (E6) (fun W hSW => by have hv := hSW.1; go_simp) ?_
  try simp only [pu, l0, l1, l2]
  refine tk 4 ⟨some 80, .move (.tmp 7), _, _, _, none⟩ (.pointer (some ⟨b, 0, none⟩)) rfl (by kernel_rfl) (fun _ _ _ => id) (E6) (fun W hSW => by go_simp) ?_
  try simp only [pu, l0, l1, l2]
  refine tk 5 ⟨some 81, .nilCheck (.tmp 80), _, _, _, none⟩ (.pointer (some ⟨b, 0, none⟩)) rfl (by kernel_rfl) (fun _ _ _ => id) (E6) (fun W hSW => by go_simp) ?_
  try simp only [pu, l0, l1, l2]
  refine tk 6 ⟨some 82, .fieldAddr 35 (.tmp 81) 1, _, _, _, none⟩ (.pointer (some ⟨b, 1, none⟩)) rfl (by kernel_rfl) (fun _ _ _ => id) (E6) (fun W hSW => by go_simp) ?_
  try simp only [pu, l0, l1, l2]
  refine tk 7 ⟨some 83, .load 24 (.tmp 82), _, _, _, none⟩ (.slice (some ⟨g, o, none⟩) M c) rfl (by kernel_rfl) (fun _ _ _ => id) (E6) (fun W hSW => by have hv := hSW.1; go_simp) ?_
  try simp only [pu, l0, l1, l2]
  refine tk 8 ⟨some 84, .call { callee := .builtin .len, args := #[.tmp 83], argTypes := #[24] }, _, _, _, none⟩ (.int .i64 (M : Int)) rfl (by kernel_rfl) (fun _ _ _ => id) (E6) (fun W hSW => by go_simp) ?_
  try simp only [pu, l0, l1, l2]
  refine tk 9 ⟨some 85, .binOp .sub 3 (.tmp 84) (.const (.int .i64 1)) 3, _, _, _, none⟩ (.int .i64 ((M - 1 : Nat) : Int)) rfl (by kernel_rfl) (fun _ _ _ => id) (E6) (fun W hSW => by go_simp) ?_
  try simp only [pu, l0, l1, l2]
  refine tk 10 ⟨some 86, .move (.tmp 11), _, _, _, none⟩ (.int .i64 (i : Int)) rfl (by kernel_rfl) (fun _ _ _ => id) (E6) (fun W hSW => by go_simp) ?_
  try simp only [pu, l0, l1, l2]
  refine tk 11 ⟨some 87, .move (.tmp 7), _, _, _, none⟩ (.pointer (some ⟨b, 0, none⟩)) rfl (by kernel_rfl) (fun _ _ _ => id) (E6) (fun W hSW => by go_simp) ?_
  try simp only [pu, l0, l1, l2]
  refine tk 12 ⟨some 88, .nilCheck (.tmp 87), _, _, _, none⟩ (.pointer (some ⟨b, 0, none⟩)) rfl (by kernel_rfl) (fun _ _ _ => id) (E6) (fun W hSW => by go_simp) ?_
  try simp only [pu, l0, l1, l2]
  refine tk 13 ⟨some 89, .fieldAddr 35 (.tmp 88) 1, _, _, _, none⟩ (.pointer (some ⟨b, 1, none⟩)) rfl (by kernel_rfl) (fun _ _ _ => id) (E6) (fun W hSW => by go_simp) ?_
  try simp only [pu, l0, l1, l2]
  refine tk 14 ⟨some 90, .load 24 (.tmp 89), _, _, _, none⟩ (.slice (some ⟨g, o, none⟩) M c) rfl (by kernel_rfl) (fun _ _ _ => id) (E6) (fun W hSW => by have hv := hSW.1; go_simp) ?_
  try simp only [pu, l0, l1, l2]
  refine tk 15 ⟨some 91, .call { callee := .builtin .len, args := #[.tmp 90], argTypes := #[24] }, _, _, _, none⟩ (.int .i64 (M : Int)) rfl (by kernel_rfl) (fun _ _ _ => id) (E6) (fun W hSW => by go_simp) ?_
  try simp only [pu, l0, l1, l2]
  refine tk 16 ⟨some 92, .binOp .rem 3 (.tmp 86) (.tmp 91) 3, _, _, _, none⟩ (.int .i64 (r : Int)) rfl (by kernel_rfl) (fun _ _ _ => id) (E6) (fun W hSW => by go_simp) ?_
  try simp only [pu, l0, l1, l2]
  refine tk 17 ⟨some 93, .binOp .sub 3 (.tmp 85) (.tmp 92) 3, _, _, _, none⟩ (.int .i64 (d : Int)) rfl (by kernel_rfl) (fun _ _ _ => id) (E6) (fun W hSW => by go_simp) ?_
  try simp only [pu, l0, l1, l2]
  refine tk 18 ⟨some 94, .indexAddr 24 (.tmp 79) (.tmp 93), _, _, _, none⟩ (.pointer (some ⟨g, o + d * 121, none⟩)) rfl (by kernel_rfl) (fun _ _ _ => id) (E6) (fun W hSW => by go_simp) ?_
  try simp only [pu, l0, l1, l2]
  refine tk 19 ⟨some 95, .load 52 (.tmp 94), _, _, _, none⟩ (.agg (msgC m).toArray) rfl (by kernel_rfl) (fun _ _ _ => id) (E6) (fun W hSW => exec_load_mid 52 (.tmp 94) rfl g (o + d * 121) rfl (msgC m) _ hSW.2 Tryz.underlying52 rfl HIm.out) ?_
  try simp only [pu, l0, l1, l2]
  refine rd1 20 ⟨some 12, .alloc 52, _, _, _, none⟩ (by kernel_rfl) rfl fun K' hK' => ?_
  go_simp
  have h7 := H6.out.box Z.toArray 52
  obtain ⟨x, hx⟩ : ∃ x, x = w5.heap.size := ⟨_, rfl⟩
  rw [<- hx] at h7 ⊢
  have H7 := iq h7
  have E7 := HEV.out _ _ _ _ _ _ h7.pop
  clear h7
  refine hK'.out _ _ E7 (fun _ => ?_)
  clear hK' K'
  try simp only [Act.put, l0, l1, l2]
  obtain ⟨w6, hw6⟩ : ∃ w6, w6 = w5.alloc (.cells Z.toArray 52) := ⟨_, rfl⟩
  rw [<- hw6] at H7 E7 ⊢
  clear hw6 hx E6 H6
  refine rd1 21 ⟨none, .store 52 (.tmp 12) (.tmp 95), _, _, _, none⟩ (by kernel_rfl) rfl fun K' hK' => ?_
  refine step_store_cells rfl 52 (.tmp 12) (.tmp 95) rfl x 0 (msgC m) rfl rfl (there_block H7.out.hd 0 _ (HLE.out m HWm.out).1) HIm.out (one_msgC m) ?_
  have H8 : Hid (Fr w1 (w6.setCells x 0 (msgC m)) (blkT x (msgC m).toArray 52 :: waT bx mb ws :: loT b2 n A' C' L :: WL b kb n (acted n l).ks (some ⟨g, o, none⟩) c all)) := iq (by have h := H7.out.setAll 0 (msgC m); rw [(HLE.out m HWm.out).2] at h; exact h)
  have E8 := HEV.out _ _ _ _ _ _ H8.out.pop
  refine hK'.out _ _ E8 (fun _ => ?_)
  clear hK' K' H7 E7
  try simp only [Act.put]
  generalize w6.setCells x 0 (msgC m) = w7 at H8 E8 ⊢
  refine wpAnyH_done (by kernel_rfl) ?_ _
  clear E8
  by_cases hip : (i : Int) < (p : Int)
  case' neg =>
   go_upto_region 14 with fail
   obtain ⟨w8, hw8⟩ : ∃ X, X = w7 := ⟨_, rfl⟩
   rw [<- hw8] at H8 ⊢
   have HX : Hid (∃ m, m ∈ all /\ (p <= i -> ∀ m', all[all.length - 1 - i % all.length]? = some m' -> m' = m) /\ Fr w1 w8 (blkT x (msgC m).toArray 52 :: waT bx mb ws :: loT b2 n A' C' L :: WL b kb n (acted n l).ks (some ⟨g, o, none⟩) c all)) := iq ⟨m, HMm.out, fun _ m' h => HAt.out m' h, H8.out⟩
   clear hw8 H8
  case' pos =>
   have hpi : i < p := by omega
   obtain ⟨g1, o1, hA1, hg1, _, hcl⟩ := HRd.out.2 (by omega)
   subst hA1
   obtain ⟨u, hu⟩ : ∃ u, bs[i]? = some u := ⟨_, List.getElem?_eq_getElem (by rw [<- HP.out]; omega)⟩
   have HCu := iq (hcl i u hu)
   have HG1 := iq hg1
   clear hcl hu hg1
   have hu8 : u.toNat < 256 := u.toNat_lt
   obtain ⟨un, hun⟩ : ∃ un, un = u.toNat := ⟨_, rfl⟩
   rw [<- hun] at HCu hu8
   clear hun
   obtain ⟨q, hq⟩ : ∃ q, q = un % M := ⟨_, rfl⟩
   have hqM : q < M := by rw [hq]; exact Nat.mod_lt _ hM3
   have htq : Int.tmod (un : Int) (M : Int) = (q : Int) := by rw [Int.tmod_eq_emod_of_nonneg (by omega), hq]; omega
   have hwu : IntKind.i64.wrap (un : Int) = (un : Int) := by rw [IntKind.wrap_i64]; omega
   have hwq : IntKind.i64.wrap (q : Int) = (q : Int) := by rw [IntKind.wrap_i64]; omega
   have hqM2 : (q : Int) < (M : Int) := by omega
   have hq0 : (0 : Int) <= (q : Int) := by omega
   have hqt : ((q : Int)).toNat = q := by omega
   have hi0 : (0 : Int) <= (i : Int) := by omega
   have hit : ((i : Int)).toNat = i := by omega
   clear hq
   obtain ⟨m2, hm2⟩ : ∃ m2, all[q]? = some m2 := ⟨_, List.getElem?_eq_getElem (by rw [<- HM.out]; omega)⟩
   have HMm2 := iq (List.mem_of_getElem? hm2)
   have HWm2 := iq (HWf.out m2 HMm2.out)
   have HIm2 := iq (info_msg HWm2.out)
   have HR2 : Hid (∀ W', (mrT (some ⟨g, o, none⟩) c all).P W' -> W'.rangeAt g (o + q * 121) (msgC m2)) := iq fun W' h => (HG.out W' h q m2 hm2).2
   clear hm2
   go_wp2_with fail
   refine wp_region_any (by kernel_rfl) ?_
   change wpAny _ _ _ _ _ _ _ (World.drewN _ 1)
   refine held_gen (G := fun W' => wpAny _ _ _ _ _ _ _ W') (fun W' => Fr w1 W' (blkT x (msgC m).toArray 52 :: waT bx mb ws :: loT b2 n A' C' L :: WL b kb n (acted n l).ks (some ⟨g, o, none⟩) c all)) (H8.out.drewN 1) (fun w9 hw9 => ?_)
   have H9 := iq hw9
   clear hw9 H8
   have E9 : w9.cell? ⟨b, 1, none⟩ = some (.slice (some ⟨g, o, none⟩) M c) /\ w9.rangeAt g (o + q * 121) (msgC m2) /\ w9.cell? ⟨g1, o1 + i, none⟩ = some (.int .u8 (un : Int)) := ⟨(HEV.out _ _ _ _ _ _ H9.out.pop).1, HR2.out _ H9.out.pop.pop.pop.hd3, (H9.out.bel.cell (p := ⟨g1, o1 + i, none⟩) HG1.out).trans HCu.out⟩
   refine wpAny_of_held (S := fun W' => W'.cell? ⟨b, 1, none⟩ = some (.slice (some ⟨g, o, none⟩) M c) /\ W'.rangeAt g (o + q * 121) (msgC m2) /\ W'.cell? ⟨g1, o1 + i, none⟩ = some (.int .u8 (un : Int))) _ _ _ _ ?_
   refine tk 0 ⟨some 100, .move (.tmp 7), _, _, _, none⟩ (.pointer (some ⟨b, 0, none⟩)) rfl (by kernel_rfl) (fun _ _ _ => id) (E9) (fun W hSW => by go_simp) ?_
   try simp only [Act.put, l0, l1, l2]
   refine tk 1 ⟨some 101, .nilCheck (.tmp 100), _, _, _, none⟩ (.pointer (some ⟨b, 0, none⟩)) rfl (by kernel_rfl) (fun _ _ _ => id) (E9) (fun W hSW => by go_simp) ?_
   try simp only [pu, l0, l1, l2]
   refine tk 2 ⟨some 102, .fieldAddr 35 (.tmp 101) 1, _, _, _, none⟩ (.pointer (some ⟨b, 1, none⟩)) rfl (by kernel_rfl) (fun _ _ _ => id) (E9) (fun W hSW => by go_simp) ?_
   try simp only [pu, l0, l1, l2]
   refine tk 3 ⟨some 103, .load 24 (.tmp 102), _, _, _, none⟩ (.slice (some ⟨g, o, none⟩) M c) rfl (by kernel_rfl) (fun _ _ _ => id) (E9) (fun W hSW => by have hv := hSW.1; go_simp) ?_
   try simp only [pu, l0, l1, l2]
   refine tk 4 ⟨some 104, .move (.tmp 2), _, _, _, none⟩ (.slice (some ⟨g1, o1, none⟩) p c1) rfl (by kernel_rfl) (fun _ _ _ => id) (E9) (fun W hSW => by go_simp) ?_
   try simp only [pu, l0, l1, l2]
   refine tk 5 ⟨some 105, .move (.tmp 11), _, _, _, none⟩ (.int .i64 (i : Int)) rfl (by kernel_rfl) (fun _ _ _ => id) (E9) (fun W hSW => by go_simp) ?_
   try simp only [pu, l0, l1, l2]
   refine tk 6 ⟨some 106, .indexAddr 23 (.tmp 104) (.tmp 105), _, _, _, none⟩ (.pointer (some ⟨g1, o1 + i, none⟩)) rfl (by kernel_rfl) (fun _ _ _ => id) (E9) (fun W hSW => by go_simp) ?_
   try simp only [pu, l0, l1, l2]
   refine tk 7 ⟨some 107, .load 5 (.tmp 106), _, _, _, none⟩ (.int .u8 (un : Int)) rfl (by kernel_rfl) (fun _ _ _ => id) (E9) (fun W hSW => by have hv := hSW.2.2; go_simp) ?_
   try simp only [pu, l0, l1, l2]
   refine tk 8 ⟨some 108, .convert 5 3 (.tmp 107), _, _, _, none⟩ (.int .i64 (un : Int)) rfl (by kernel_rfl) (fun _ _ _ => id) (E9) (fun W hSW => by go_simp) ?_
   try simp only [pu, l0, l1, l2]
   refine tk 9 ⟨some 109, .move (.tmp 7), _, _, _, none⟩ (.pointer (some ⟨b, 0, none⟩)) rfl (by kernel_rfl) (fun _ _ _ => id) (E9) (fun W hSW => by go_simp) ?_
   try simp only [pu, l0, l1, l2]
   refine tk 10 ⟨some 110, .nilCheck (.tmp 109), _, _, _, none⟩ (.pointer (some ⟨b, 0, none⟩)) rfl (by kernel_rfl) (fun _ _ _ => id) (E9) (fun W hSW => by go_simp) ?_
   try simp only [pu, l0, l1, l2]
   refine tk 11 ⟨some 111, .fieldAddr 35 (.tmp 110) 1, _, _, _, none⟩ (.pointer (some ⟨b, 1, none⟩)) rfl (by kernel_rfl) (fun _ _ _ => id) (E9) (fun W hSW => by go_simp) ?_
   try simp only [pu, l0, l1, l2]
   refine tk 12 ⟨some 112, .load 24 (.tmp 111), _, _, _, none⟩ (.slice (some ⟨g, o, none⟩) M c) rfl (by kernel_rfl) (fun _ _ _ => id) (E9) (fun W hSW => by have hv := hSW.1; go_simp) ?_
   try simp only [pu, l0, l1, l2]
   refine tk 13 ⟨some 113, .call { callee := .builtin .len, args := #[.tmp 112], argTypes := #[24] }, _, _, _, none⟩ (.int .i64 (M : Int)) rfl (by kernel_rfl) (fun _ _ _ => id) (E9) (fun W hSW => by go_simp) ?_
   try simp only [pu, l0, l1, l2]
   refine tk 14 ⟨some 114, .binOp .rem 3 (.tmp 108) (.tmp 113) 3, _, _, _, none⟩ (.int .i64 (q : Int)) rfl (by kernel_rfl) (fun _ _ _ => id) (E9) (fun W hSW => by go_simp) ?_
   try simp only [pu, l0, l1, l2]
   refine tk 15 ⟨some 115, .indexAddr 24 (.tmp 103) (.tmp 114), _, _, _, none⟩ (.pointer (some ⟨g, o + q * 121, none⟩)) rfl (by kernel_rfl) (fun _ _ _ => id) (E9) (fun W hSW => by go_simp) ?_
   try simp only [pu, l0, l1, l2]
   refine tk 16 ⟨some 116, .load 52 (.tmp 115), _, _, _, none⟩ (.agg (msgC m2).toArray) rfl (by kernel_rfl) (fun _ _ _ => id) (E9) (fun W hSW => exec_load_mid 52 (.tmp 115) rfl g (o + q * 121) rfl (msgC m2) _ hSW.2.1 Tryz.underlying52 rfl HIm2.out) ?_
   try simp only [pu, l0, l1, l2]
   refine rd1 17 ⟨none, .store 52 (.tmp 12) (.tmp 116), _, _, _, none⟩ (by kernel_rfl) rfl fun K' hK' => ?_
   refine step_store_cells rfl 52 (.tmp 12) (.tmp 116) rfl x 0 (msgC m2) rfl rfl (there_block H9.out.hd 0 _ (by rw [msgC_length HWm.out, msgC_length HWm2.out]; omega)) HIm2.out (one_msgC m2) ?_
   have H10 : Hid (Fr w1 (w9.setCells x 0 (msgC m2)) (blkT x (msgC m2).toArray 52 :: waT bx mb ws :: loT b2 n A' C' L :: WL b kb n (acted n l).ks (some ⟨g, o, none⟩) c all)) := iq (by have h := H9.out.setAll 0 (msgC m2); rw [setAll_all (by rw [msgC_length HWm.out, msgC_length HWm2.out])] at h; exact h)
   have E10 : (w9.setCells x 0 (msgC m2)).cell? ⟨b, 1, none⟩ = some (.slice (some ⟨g, o, none⟩) M c) /\ (w9.setCells x 0 (msgC m2)).rangeAt g (o + q * 121) (msgC m2) /\ (w9.setCells x 0 (msgC m2)).cell? ⟨g1, o1 + i, none⟩ = some (.int .u8 (un : Int)) := ⟨(HEV.out _ _ _ _ _ _ H10.out.pop).1, HR2.out _ H10.out.pop.pop.pop.hd3, (H10.out.bel.cell (p := ⟨g1, o1 + i, none⟩) HG1.out).trans HCu.out⟩
   refine hK'.out _ _ E10 (fun _ => ?_)
   clear hK' K' H9 E9 E10
   try simp only [Act.put]
   generalize w9.setCells x 0 (msgC m2) = w8 at H10 ⊢
   refine wpAnyH_done (by kernel_rfl) ?_ _
   have HX : Hid (∃ m, m ∈ all /\ (p <= i -> ∀ m', all[all.length - 1 - i % all.length]? = some m' -> m' = m) /\ Fr w1 w8 (blkT x (msgC m).toArray 52 :: waT bx mb ws :: loT b2 n A' C' L :: WL b kb n (acted n l).ks (some ⟨g, o, none⟩) c all)) := iq ⟨m2, HMm2.out, fun h => absurd hpi (by omega), H10.out⟩
   clear H10
  all_goals
   clear HMm HWm HIm HAt HR0 HEV
   obtain ⟨m, hmm, hsel, hfx⟩ := HX.out
   have HMm := iq hmm
   have HSel := iq hsel
   have H9 := iq hfx
   clear hmm hsel hfx HX
   have HWm := iq (HWf.out m HMm.out)
   have HIm := iq (info_msg HWm.out)
   have HWd := iq (world_m HGd.out HMm.out)
   have HPrs : Hid (∀ W' A' C' L, Fr w1 W' (loT b2 n A' C' L :: WL b kb n (acted n l).ks (some ⟨g, o, none⟩) c all) -> Prs W' m.body.qa m.body.qs) := iq fun W' A' C' L hf => hf.pop.pop.pop.pop.hd m HMm.out
   go_upto_region 15 with (first | ((with_reducible refine wpList_load_midG ?_ 52 (.tmp 12) ?_ x 0 ?_ (msgC m) _ ?_ Tryz.underlying52 ?_ ?_ ?_); rotate_left; rfl; rfl; exact (range_of H9.out.hd); rfl; exact HIm.out; rotate_left; rfl) | (go_at_call 35; refine (put_any H9.out.pop m HWm.out (fun W' h => HPrs.out W' _ _ _ h) HWd.out.1 HWd.out.2.1 (Nat.le_trans (HWs.out.room HGd.out) (by decide))).mono ?_; rintro E w10 ⟨mb2, A2, c2, rfl, h10⟩; have H10 := iq h10; clear h10 H9))
   have HPs := iq (put_step HGd.out HWf.out HWs.out HQt.out (x := m.at A2 c2) HMm.out rfl (e := chk n L m) rfl)
   rw [putW_at] at HPs
   obtain ⟨f, hf⟩ : ∃ f, f = (putW (chk n L m) ws m).1 := ⟨_, rfl⟩
   rw [<- hf] at HPs ⊢
   clear hf
   obtain ⟨ws2, hws2⟩ : ∃ y, y = (putW (chk n L m) ws (m.at A2 c2)).2 := ⟨_, rfl⟩
   rw [<- hws2] at HPs H10
   clear hws2
   have hf3 := HPs.out.1
   have HPd : Hid (∀ m', all[all.length - 1 - i % all.length]? = some m' -> p <= i -> (chk n L m' = 0 \/ m'.number <= cc m'.oi) -> Pend n L ws2 cc m') := iq fun m' h1 h2 h3 => by
    have e := HSel.out h2 m' h1
    subst e
    rcases h3 with h3 | h3
    ·exact HPs.out.2.2 h3
    ·exact .inl h3
   rcases hf3 with hf3 | hf3 | hf3
   all_goals
    subst hf3
    skip
    go_wp2_with fail
    have DI : Hid (∃ mb3 ws3 A3 C3 L3 c3, Fr w1 w10 (waT bx mb3 ws3 :: loT b2 n A3 C3 L3 :: WL b kb n (acted n l).ks (some ⟨g, o, none⟩) c all) /\ Wst all L3 ws3 c3 /\ (∀ o, cc o <= c3 o) /\ ws3.length <= ws2.length /\ (∀ m', all[all.length - 1 - i % all.length]? = some m' -> p <= i -> (chk n L m' = 0 \/ m'.number <= cc m'.oi) -> Pend n L3 ws3 c3 m')) := iq ⟨_, _, _, _, _, _, H10.out, HPs.out.2.1, fun o => Nat.le_refl _, Nat.le_refl _, HPd.out⟩
    clear H10 HPs HPd
    go_loopg [] (ws2.length) (fun gk wr => Hid (∃ mb3 ws3 A3 C3 L3 c3, Fr w1 wr (waT bx mb3 ws3 :: loT b2 n A3 C3 L3 :: WL b kb n (acted n l).ks (some ⟨g, o, none⟩) c all) /\ Wst all L3 ws3 c3 /\ (∀ o, cc o <= c3 o) /\ ws3.length <= gk /\ (∀ m', all[all.length - 1 - i % all.length]? = some m' -> p <= i -> (chk n L m' = 0 \/ m'.number <= cc m'.oi) -> Pend n L3 ws3 c3 m')))
    case atStart => exact DI
    case round =>
     clear DI
     obtain ⟨mb3, ws3, A3, C3, L3, c3, hfr, hws3, hcc, hk3, hpp⟩ := hrel.out
     have H11 := iq hfr
     have HWs3 := iq hws3
     have HCc := iq hcc
     have HK3 := iq hk3
     have HPp := iq hpp
     clear hrel hfr hws3 hcc hk3 hpp
     go_upto_region 18 with (first | (go_at_call 33; refine (next_any H11.out).mono ?_; rintro E w12 ⟨y, ws4, rfl, hnx, hfr, hyp⟩; have HNx := iq hnx; have HYp := iq hyp; have H12 := iq (hfr.box Z.toArray 52); obtain ⟨D, hD⟩ : ∃ D, D = y.getD zeroMsg := ⟨_, rfl⟩; obtain ⟨so, hso⟩ : ∃ s, s = y.isSome := ⟨_, rfl⟩; rw [<- hD, <- hso]; have HD := iq hD; have HSo := iq hso; have HDw : Hid D.Wf := iq (by rw [hD]; cases y with | none => exact zeroMsg_wf | some a => exact (hyp a rfl).1); clear hD hso hnx hyp hfr H11) | (refine wpList_store_part rfl 52 (.tmp 14) (.tmp 135) rfl w12.heap.size 0 Z (msgC D) (msgC D) 52 H12.out.hd (HLE.out D HDw.out).1 (HLE.out D HDw.out).2 rfl rfl (info_msg HDw.out) (one_msgC _) ?_; intro w13 G; have H13 : Hid (Fr w1 w13 (blkT w12.heap.size (msgC D).toArray 52 :: waT bx mb3 (wdel ws4 (fstP y)) :: loT b2 n A3 C3 L3 :: WL b kb n (acted n l).ks (some ⟨g, o, none⟩) c all)) := iq (H12.out.turn (own_grown G.out.2 rfl) G.out.1 (blkT_ok _ _ _)); have HPr : Hid (∀ a, y = some a -> Prs w13 a.body.qa a.body.qs /\ a.body.qs.length <= 1000000) := iq fun a e => ⟨((HYp.out a e).2.1.below (bl.alloc (Nat.le_refl _) _)).grown_ G.out.2 (fun g hg => by have := prs_lt (HYp.out a e).2.1 hg; omega), (HYp.out a e).2.2⟩; clear G H12))
     cases y with
     | none =>
      have hso : so = false := HSo.out
      subst hso
      obtain ⟨k1, k2, k3⟩ := none_step HGd.out HWs3.out HNx.out
      obtain ⟨ws5, hws5⟩ : ∃ y, y = wdel ws4 (fstP none) := ⟨_, rfl⟩
      rw [<- hws5] at k1 k2 H13
      clear hws5
      have HK1 := iq k1
      have HK2 := iq k2
      have HKn := iq k3
      clear k1 k2 k3
      have hl5 : ¬ ((ws5.length : Int) > 121) := by have := HK1.out.room HGd.out; omega
      have hl6 : decide ((121 : Int) < (ws5.length : Int)) = false := decide_eq_false (by omega)
      have hwi : IntKind.i64.wrap ((i : Int) + 1) = (i : Int) + 1 := by rw [IntKind.wrap_i64]; omega
      go_wp2_with (go_at_call 37; refine (wlen_any H13.out.hd2).mono ?_; rintro E w14 ⟨rfl, rfl⟩)
      go_roundw
      case measure => simp [intOf] <;> omega
      case rel => exact ⟨i + 1, by omega, by go_num, iq ⟨_, _, _, _, _, _, H13.out.pop, HK1.out, HK2.out, fun hM => by
       by_cases hpi : p <= i
       ·exact (HSw.out hM).step HGd.out HWf.out (HM.out ▸ hM) HWs.out.ks HCc.out fun m' h1 h2 => HKn.out m' (List.mem_of_getElem? h1) (HPp.out m' h1 hpi h2)
       ·exact sw_start all (by omega) (HM.out ▸ hM) _⟩⟩
     | some a =>
      have hso : so = true := HSo.out
      subst hso
      have hDa : a = D := HD.out.symm
      subst hDa
      have HC0 := iq (some_step HGd.out HWf.out HWs3.out HNx.out (a' := a) rfl).1
      have HLl : Hid (L3.length < 1000000) := iq (by have := notYet_length (nm_all HGd.out) HWs3.out.ks; rw [<- HM.out] at this; omega)
      have HIa := iq (info_msg HDw.out)
      obtain ⟨z, hz0⟩ : ∃ z, z = w12.heap.size := ⟨_, rfl⟩
      rw [<- hz0] at H13 ⊢
      clear hz0
      go_wp2_with (first | ((with_reducible refine wpList_load_midG ?_ 52 (.tmp 14) ?_ z 0 ?_ (msgC a) _ ?_ Tryz.underlying52 ?_ ?_ ?_); rotate_left; rfl; rfl; exact (range_of H13.out.hd); rfl; exact HIa.out; rotate_left; rfl) | (go_at_call 18; refine (add_fr (H13.out.pop.swap) a HDw.out (HPr.out a rfl).1 (HPr.out a rfl).2 HLl.out).mono ?_; rintro E w14 ⟨he, _, hz⟩; rw [HC0.out] at he hz; subst he; obtain ⟨A4, C4, a4, c4, h14⟩ := hz rfl; have H14 := iq h14.swap; clear hz h14 H13))
      have HSs := iq (some_step HGd.out HWf.out HWs3.out HNx.out (a' := a.at a4 c4) rfl)
      go_roundg (wdel ws4 (fstP (some a))).length
      case measure => exact Nat.lt_of_lt_of_le HSs.out.2.2.1 HK3.out
      case rel => exact iq ⟨_, _, _, _, _, _, H14.out, HSs.out.2.1, fun o => Nat.le_trans (HCc.out o) (by
       by_cases e : o = a.oi
       ·rw [e, upd_same]; omega
       ·rw [upd_ne _ _ e]; exact Nat.le_refl _), Nat.le_refl _, fun m' h1 h2 h3 => HSs.out.2.2.2 m' (List.mem_of_getElem? h1) (HPp.out m' h1 h2 h3)⟩
open Go.RowKit
theorem all_in (W : World) (hk : KIs W) (h0 : 0 < W.heap.size) (a0 : Int) (w0 : (Lit.int .u8 a0).wf = true) (A : Option Addr) (n c : Nat) (h : ∃ l : List MAct, l.length = n /\ As W A l) (hn : n <= 4398046511104) (A1 : Option Addr) (n1 c1 : Nat) (h1 : ∃ bs, Rd (fun _ => True) W A1 n1 bs /\ Sl A1 n1 c1) (hn1 : n1 <= 140737488351232) :
  Calls Tryz.prog 8 #[.int .u8 a0, .slice A n c, .slice A1 n1 c1] W fun E w' => E = .returned (.bool true) /\ Below W.heap.size W w' := by
 obtain ⟨l, rfl, hAs⟩ := h
 obtain ⟨bs, hr, hs⟩ := h1
 obtain rfl : bs.length = n1 := hr.1
 obtain ⟨e0, l0⟩ := n8_of w0
 rw [e0]
 exact all_walk hk h0 _ l0 A c l hAs hn A1 c1 bs hr hn1
end Go.Proofs.YtllbbcifcbkgeaaGreatDoor.Sh
