/- Laws and walks. -/
import Derived.Test.YtllbbcifcbkgeaaGreatDoorF7a
import Derived.Test.YtllbbcifcbkgeaaGreatDoorV6a
set_option maxHeartbeats 16000000
set_option maxRecDepth 100000
namespace Go.Proofs.YtllbbcifcbkgeaaGreatDoor.Sh
open Go.RowKit
def MMsg.oi (m : MMsg) : Nat := m.origin.toNat - 1
open Classical in
noncomputable def chk (n : Nat) (L : List MMsg) (m : MMsg) : Int :=
 if m.may /\ nms n m = true then
  if m.right then
   if m.number < cnt L m.oi + 1 then 13
   else if m.number = cnt L m.oi + 1 /\ blw m.deps (ahd L m.oi) = true then 1
   else if cnt L m.oi + 1 < m.number \/ blw (kn L) m.deps = true then 12 else 0
  else 11
 else 1
theorem chk_may {n : Nat} {L : List MMsg} {m : MMsg} (h : ¬ m.may) : chk n L m = 1 := by rw [chk, if_neg (fun x => h x.1)]
theorem chk_names {n : Nat} {L : List MMsg} {m : MMsg} (h : nms n m = false) : chk n L m = 1 := by rw [chk, if_neg (fun x => by rw [h] at x; cases x.2)]
section
variable {n : Nat} {L : List MMsg} {m : MMsg} (h1 : m.may) (h2 : nms n m = true)
include h1 h2
theorem chk_tag (h : ¬ m.right) : chk n L m = 11 := by rw [chk, if_pos ⟨h1, h2⟩, if_neg h]
variable (h3 : m.right)
include h3
theorem chk_again (h : m.number < cnt L m.oi + 1) : chk n L m = 13 := by rw [chk, if_pos ⟨h1, h2⟩, if_pos h3, if_pos h]
theorem chk_low (h : m.number = cnt L m.oi + 1) (hb : blw m.deps (ahd L m.oi) = true) : chk n L m = 1 := by rw [chk, if_pos ⟨h1, h2⟩, if_pos h3, if_neg (by omega), if_pos ⟨h, hb⟩]
theorem chk_far (h : cnt L m.oi + 1 < m.number) : chk n L m = 12 := by rw [chk, if_pos ⟨h1, h2⟩, if_pos h3, if_neg (by omega), if_neg (fun x => by have := x.1; omega), if_pos (.inl h)]
theorem chk_next (h : m.number = cnt L m.oi + 1) (hb : blw m.deps (ahd L m.oi) = false) (z : Bool) (hz : blw (kn L) m.deps = z) : chk n L m = if z then 12 else 0 := by
 rw [chk, if_pos ⟨h1, h2⟩, if_pos h3, if_neg (by omega), if_neg (fun x => by rw [hb] at x; cases x.2)]
 by_cases hq : z = true
 ·subst hq; rw [if_pos (.inr hz), if_pos rfl]
 ·rw [if_neg (fun x => x.elim (fun y => by omega) (fun y => hq (hz ▸ y))), if_neg hq]
end
open Classical in
theorem check_any {w : World} {b n : Nat} {A : Nat -> Option Addr} {C : Nat -> Nat} {L : List MMsg} (h : LoreAt w b n A C L) (m : MMsg) (hm : m.Wf) (hq : Prs w m.body.qa m.body.qs) (hn : m.body.qs.length <= 140737488355328) (hk : KIs w) (h0 : 0 < w.heap.size) :
  Calls Tryz.prog 17 #[.pointer (some ⟨b, 0, none⟩), .agg (msgC m).toArray] w fun E w' => E = .returned (.int .i64 (chk n L m)) /\ Below w.heap.size w w' := by
 have hlen := h.cnt_le (i := m.oi)
 have H0 := iq ((Fr.start hk h0).box (msgC m).toArray 52)
 have HMay := iq (fun (W : World) (hb : Below w.heap.size w W) => may_ms m W hm (hq.below hb) hn)
 have HNam := iq (fun (W : World) (hb : Below w.heap.size w W) => names_any (h.below hb) m hm (hq.below hb) hn)
 have HKs := iq (fun (W : World) (hb : Below w.heap.size w W) => (show KIs W /\ 0 < W.heap.size from ⟨fun i hi => (hb.cell (p := ⟨0, i, none⟩) h0).trans (hk i hi), Nat.lt_of_lt_of_le h0 hb.size⟩))
 have HRi := iq (fun (W : World) (hb : Below w.heap.size w W) => right_ms m W hm (hq.below hb) hn (HKs.out W hb).1 (HKs.out W hb).2)
 have HKn := iq (fun (W : World) (hb : Below w.heap.size w W) => knowns_any (h.below hb) (HKs.out W hb).1 (HKs.out W hb).2)
 have HAh := iq (fun (W : World) (hb : Below w.heap.size w W) (i : Nat) (hi : i < 11) (e : m.origin = (i : Int) + 1) => ahead_any (h.below hb) hi m.origin e (HKs.out W hb).1 (HKs.out W hb).2)
 have HBl := iq (fun (W : World) (a c : List Nat) (ha : a.length = 11) (hc : c.length = 11) => below_any a c ha hc W)
 have HDl := iq hm.1
 have HAl := iq (ahd_length (fun x hx => (h.wf x hx).1) m.oi)
 have HKg := iq (fun (i : Nat) (hi : i < 11) => kn_get L hi)
 have HI := iq (info_msg hm)
 have HIk := iq (info_vec (kn_length L))
 have HId := iq (info_vec hm.1)
 have HM := iq hm
 have HOk := iq (one_u64s (kn L))
 have HC := iq (fun (W : World) (H : W.heap[w.heap.size]? = some (.cells (msgC m).toArray 52 (0, 0))) => (show W.cell? ⟨w.heap.size, 0, none⟩ = some (.int .i64 m.origin) /\ W.cell? ⟨w.heap.size, 1, none⟩ = some (.int .u64 (m.number : Int)) /\ W.rangeAt w.heap.size 2 (u64s m.deps) from let l := msg_lies (range_of H) HM.out; ⟨l.origin, l.number, l.deps⟩))
 clear hm hq hn hk h0 h
 by_cases hmay : m.may
 ·have hd : decide m.may = true := decide_eq_true hmay
  have HMay := iq (fun W hb => by have := HMay.out W hb; rw [hd] at this; exact this)
  clear hd
  cases hnms : nms n m with
  | false =>
   rw [chk_names hnms]
   have HNam := iq (fun W hb => by have := HNam.out W hb; rw [hnms] at this; exact this)
   clear hnms hmay HRi HKn HAh HBl
   go_enter Tryz.func17, Tryz.ntmps17
   go_wp2_with (first | ((with_reducible refine wpList_load_midG ?_ 52 (.tmp 3) ?_ w.heap.size 0 ?_ (msgC m) _ ?_ Tryz.underlying52 ?_ ?_ ?_); rotate_left; rfl; rfl; exact (by first | exact range_of H2.out.hd | exact range_of H1.out.hd | exact range_of H0.out.hd); rfl; exact HI.out; rotate_left; rfl) | (go_at_call 41; refine (HMay.out _ H0.out.bel).mono ?_; rintro E w1 ⟨rfl, hb_⟩; have H1 := iq (H0.out.below hb_.out); clear hb_) | (go_at_call 42; refine (HNam.out _ H1.out.bel).mono ?_; rintro E w2 ⟨rfl, hb_⟩; have H2 := iq (H1.out.below hb_); clear hb_))
   go_ret
   exact ⟨rfl, H2.out.bel⟩
  | true =>
   by_cases hri : m.right
   ·have HNam := iq (fun W hb => by have := HNam.out W hb; rw [hnms] at this; exact this)
    have hd : decide m.right = true := decide_eq_true hri
    have HRi := iq (fun W hb => by have := HRi.out W hb; rw [hd] at this; exact this)
    clear hd
    have ho1 : 1 <= m.origin /\ m.origin <= 11 := of_decide_eq_true hmay.1
    have hnum : 1 <= m.number /\ m.number <= 65536 := of_decide_eq_true hmay.2.1.1
    have hoi : m.origin = (m.oi : Int) + 1 := by unfold MMsg.oi; omega
    have hoi2 : m.oi < 11 := by omega
    have HAh := iq (fun W hb => HAh.out W hb m.oi hoi2 hoi)
    have hlen := hlen hoi2
    have HG := iq (HKg.out m.oi hoi2)
    have ho2 : IntKind.i64.wrap (m.origin - 1) = (m.oi : Int) := by rw [IntKind.wrap_i64]; omega
    have ho3 : (0 : Int) <= (m.oi : Int) := by omega
    have ho4 : (m.oi : Int) < 11 := by omega
    have ho5 : (m.oi : Int).toNat = m.oi := by omega
    have HAg := iq (chk_again (n := n) (L := L) hmay hnms hri)
    have HLo := iq (chk_low (n := n) (L := L) hmay hnms hri)
    have HFa := iq (chk_far (n := n) (L := L) hmay hnms hri)
    have HNx := iq (chk_next (n := n) (L := L) hmay hnms hri)
    clear hmay hnms hri ho1 hoi
    obtain ⟨o, hoo⟩ : ∃ o, o = m.oi := ⟨_, rfl⟩
    rw [<- hoo] at HAh HAl hlen HG ho2 ho3 ho4 ho5 hoi2 HAg HLo HFa HNx
    clear hoo
    obtain ⟨k, hkk⟩ : ∃ k, k = cnt L o := ⟨_, rfl⟩
    rw [<- hkk] at hlen HG HAg HLo HFa HNx
    clear hkk
    have hwk : IntKind.u64.wrap ((k : Int) + 1) = (k : Int) + 1 := by rw [IntKind.wrap_u64]; omega
    obtain ⟨K, hK⟩ : ∃ K, K = u64s (kn L) := ⟨_, rfl⟩
    have HKl : Hid (K.length = 11) := iq (by rw [hK, u64s_length, kn_length])
    have HKo : Hid (K[o]? = some (.int .u64 (k : Int))) := iq (by rw [hK, u64s, List.getElem?_map, HG.out]; rfl)
    rw [<- hK] at HKn HIk HOk
    have hz := zero_vec
    have hzl : (u64s z11).length = 11 := rfl
    have hzn : ¬ (u64s z11 = []) := by decide
    obtain ⟨Z, hZ⟩ : ∃ Z, Z = u64s z11 := ⟨_, rfl⟩
    rw [<- hZ] at hz hzl hzn
    have HZl := iq hzl
    have HKne : Hid (¬ K = []) := iq (fun e => by have := HKl.out; rw [e] at this; cases this)
    have HK := iq hK
    clear hK hZ
    by_cases hlt : m.number < k + 1
    ·have hl0 : (m.number : Int) < (k : Int) + 1 := by omega
     rw [HAg.out hlt]
     clear hlt HLo HFa HNx
     go_enter Tryz.func17, Tryz.ntmps17
     go_wp2_with (first | ((with_reducible refine wpList_load_midG ?_ 52 (.tmp 3) ?_ w.heap.size 0 ?_ (msgC m) _ ?_ Tryz.underlying52 ?_ ?_ ?_); rotate_left; rfl; rfl; exact (by first | exact range_of H2.out.hd | exact range_of H1.out.hd | exact range_of H0.out.hd); rfl; exact HI.out; rotate_left; rfl) | (go_at_call 41; refine (HMay.out _ H0.out.bel).mono ?_; rintro E w1 ⟨rfl, hb_⟩; have H1 := iq (H0.out.below hb_.out); clear hb_) | (go_at_call 42; refine (HNam.out _ H1.out.bel).mono ?_; rintro E w2 ⟨rfl, hb_⟩; have H2 := iq (H1.out.below hb_); clear hb_) | (go_at_call 43; refine (HRi.out _ H2.out.bel).mono ?_; rintro E w3 ⟨rfl, hb_⟩; have H3 := iq (H2.out.below hb_.out); clear hb_) | (go_at_call 20; refine (HKn.out _ H3.out.bel).mono ?_; rintro E w4 ⟨rfl, hb_⟩; have H4 := iq ((H3.out.below hb_).box Z.toArray 27); have H4' : Hid (Fr w (w4.alloc (.cells Z.toArray 27)) [blkT w4.heap.size Z.toArray 27, blkT w.heap.size (msgC m).toArray 52]) := H4; have HLE : Hid (0 + K.length <= Z.length /\ setAll Z 0 K = K) := iq ⟨by rw [HKl.out, HZl.out]; omega, setAll_all (by rw [HKl.out, HZl.out])⟩; clear hb_ H4) | (refine wpList_store_part rfl 27 (.tmp 5) (.tmp 25) rfl w4.heap.size 0 Z K K 27 H4'.out.hd HLE.out.1 HLE.out.2 rfl rfl HIk.out HOk.out ?_; intro w5 G5; have H5 : Hid (Fr w w5 [blkT w4.heap.size K.toArray 27, blkT w.heap.size (msgC m).toArray 52]) := iq (H4'.out.turn (own_grown G5.out.2 rfl) G5.out.1 (blkT_ok _ _ _)); have cm := HC.out w5 H5.out.hd2; have cm0 := cm.1; have cm1 := cm.2.1; have ck : w5.cell? ⟨w4.heap.size, o, none⟩ = some (.int .u64 (k : Int)) := block_cell H5.out.hd o _ HKo.out; clear cm H4'))
     go_ret
     exact ⟨rfl, H5.out.bel⟩
    ·by_cases hgt : k + 1 < m.number
     ·have hl0 : ¬ ((m.number : Int) < (k : Int) + 1) := by omega
      have HNe : Hid (¬ ((m.number : Int) = (k : Int) + 1)) := iq (by omega)
      have hgt2 : (m.number : Int) > (k : Int) + 1 := by omega
      rw [HFa.out hgt]
      clear hlt hgt HLo HAg HNx
      go_enter Tryz.func17, Tryz.ntmps17
      go_wp2_with (first | ((with_reducible refine wpList_load_midG ?_ 52 (.tmp 3) ?_ w.heap.size 0 ?_ (msgC m) _ ?_ Tryz.underlying52 ?_ ?_ ?_); rotate_left; rfl; rfl; exact (by first | exact range_of H2.out.hd | exact range_of H1.out.hd | exact range_of H0.out.hd); rfl; exact HI.out; rotate_left; rfl) | (go_at_call 41; refine (HMay.out _ H0.out.bel).mono ?_; rintro E w1 ⟨rfl, hb_⟩; have H1 := iq (H0.out.below hb_.out); clear hb_) | (go_at_call 42; refine (HNam.out _ H1.out.bel).mono ?_; rintro E w2 ⟨rfl, hb_⟩; have H2 := iq (H1.out.below hb_); clear hb_) | (go_at_call 43; refine (HRi.out _ H2.out.bel).mono ?_; rintro E w3 ⟨rfl, hb_⟩; have H3 := iq (H2.out.below hb_.out); clear hb_) | (go_at_call 20; refine (HKn.out _ H3.out.bel).mono ?_; rintro E w4 ⟨rfl, hb_⟩; have H4 := iq ((H3.out.below hb_).box Z.toArray 27); have H4' : Hid (Fr w (w4.alloc (.cells Z.toArray 27)) [blkT w4.heap.size Z.toArray 27, blkT w.heap.size (msgC m).toArray 52]) := H4; have HLE : Hid (0 + K.length <= Z.length /\ setAll Z 0 K = K) := iq ⟨by rw [HKl.out, HZl.out]; omega, setAll_all (by rw [HKl.out, HZl.out])⟩; clear hb_ H4) | (refine wpList_store_part rfl 27 (.tmp 5) (.tmp 25) rfl w4.heap.size 0 Z K K 27 H4'.out.hd HLE.out.1 HLE.out.2 rfl rfl HIk.out HOk.out ?_; intro w5 G5; have H5 : Hid (Fr w w5 [blkT w4.heap.size K.toArray 27, blkT w.heap.size (msgC m).toArray 52]) := iq (H4'.out.turn (own_grown G5.out.2 rfl) G5.out.1 (blkT_ok _ _ _)); have cm := HC.out w5 H5.out.hd2; have cm0 := cm.1; have cm1 := cm.2.1; have ck : w5.cell? ⟨w4.heap.size, o, none⟩ = some (.int .u64 (k : Int)) := block_cell H5.out.hd o _ HKo.out; clear cm H4'))
      refine wp_region_any (by kernel_rfl) ?_
      change wpAny _ _ _ _ _ _ _ (World.drewN _ 1)
      refine held_gen (G := fun W' => wpAny _ _ _ _ _ _ _ W') (fun W' => Fr w W' [blkT w4.heap.size K.toArray 27, blkT w.heap.size (msgC m).toArray 52]) (H5.out.drewN 1) (fun x0 hw => ?_)
      have H6 := iq hw
      clear hw cm0 cm1 ck
      have HB5 := iq H6.out.bel
      have hcx := HC.out x0 H6.out.hd2
      have HX0 := iq hcx.1
      have HX1 := iq hcx.2.1
      have HX3 := iq hcx.2.2
      have HX5 : Hid (w.heap.size < x0.heap.size) := iq (blkT_ok _ _ _ |>.lt x0 H6.out.hd2 _ rfl)
      clear hcx
      refine wpAny_of_held (S := fun W => Below x0.heap.size x0 W) _ _ _ _ ?_
      refine tk 0 ⟨some 38, .fieldAddr 52 (.tmp 3) 1, _, _, _, none⟩ (.pointer (some ⟨w.heap.size, 1, none⟩)) rfl (by kernel_rfl) (fun _ _ _ => id) bl (fun W hSW => by go_simp) ?_
      try simp only [Act.put, l0, l1, l2]
      refine tk 1 ⟨some 39, .load 25 (.tmp 38), _, _, _, none⟩ (.int .u64 (m.number : Int)) rfl (by kernel_rfl) (fun _ _ _ => id) bl (fun W hSW => by have hv := (hSW.cell (p := ⟨w.heap.size, 1, none⟩) HX5.out).trans HX1.out; go_simp) ?_
      try simp only [pu, l0, l1, l2]
      refine tk 2 ⟨some 40, .move (.tmp 6), _, _, _, none⟩ (.int .u64 ((k : Int) + 1)) rfl (by kernel_rfl) (fun _ _ _ => id) bl (fun W hSW => by go_simp) ?_
      try simp only [pu, l0, l1, l2]
      refine tk 3 ⟨some 41, .binOp .eql 25 (.tmp 39) (.tmp 40) 25, _, _, _, none⟩ (.bool false) rfl (by kernel_rfl) (fun _ _ _ => id) bl (fun W hSW => by have he := HNe.out; go_simp) ?_
      try simp only [pu, l0, l1, l2]
      refine tk 4 ⟨some 42, .move (.tmp 41), _, _, _, none⟩ (.bool false) rfl (by kernel_rfl) (fun _ _ _ => id) bl (fun W hSW => by go_simp) ?_
      try simp only [pu, l0, l1, l2]
      refine sk 5 ⟨some 43, .fieldAddr 52 (.tmp 3) 2, _, _, _, some (4, true)⟩ rfl (by kernel_rfl) (fun _ _ _ => id) bl ?_
      try simp only [pu, l0, l1, l2]
      refine sk 6 ⟨some 44, .load 27 (.tmp 43), _, _, _, some (4, true)⟩ rfl (by kernel_rfl) (fun _ _ _ => id) bl ?_
      try simp only [pu, l0, l1, l2]
      refine sk 7 ⟨some 45, .move (.tmp 0), _, _, _, some (4, true)⟩ rfl (by kernel_rfl) (fun _ _ _ => id) bl ?_
      try simp only [pu, l0, l1, l2]
      refine sk 8 ⟨some 46, .fieldAddr 52 (.tmp 3) 0, _, _, _, some (4, true)⟩ rfl (by kernel_rfl) (fun _ _ _ => id) bl ?_
      try simp only [pu, l0, l1, l2]
      refine sk 9 ⟨some 47, .load 3 (.tmp 46), _, _, _, some (4, true)⟩ rfl (by kernel_rfl) (fun _ _ _ => id) bl ?_
      try simp only [pu, l0, l1, l2]
      refine sk 10 ⟨some 48, .call { callee := .value (.func 45), args := #[.tmp 45, .tmp 47], argTypes := #[36, 3] }, _, _, _, some (4, true)⟩ rfl (by kernel_rfl) (fun _ _ _ => id) bl ?_
      try simp only [pu, l0, l1, l2]
      refine sk 11 ⟨some 49, .call { callee := .value (.func 44), args := #[.tmp 44, .tmp 48], argTypes := #[27, 27] }, _, _, _, some (4, true)⟩ rfl (by kernel_rfl) (fun _ _ _ => id) bl ?_
      try simp only [pu, l0, l1, l2]
      refine tk 12 ⟨some 50, .pick (.tmp 42) (.tmp 49) (.const (.bool false)), _, _, _, none⟩ (.bool false) rfl (by kernel_rfl) (fun _ _ _ => id) bl (fun W hSW => by go_simp) ?_
      try simp only [pu, l0, l1, l2]
      refine tk 13 ⟨some 37, .assign (.tmp 50), _, _, _, none⟩ (.bool false) rfl (by kernel_rfl) (fun _ _ _ => id) bl (fun W hSW => by go_simp) ?_
      try simp only [pu, l0, l1, l2]
      refine wpAnyH_done (by kernel_rfl) ?_ _
      have hcx := HC.out x0 H6.out.hd2
      have cx1 := hcx.2.1
      clear hcx
      go_wp2_with fail
      go_ret
      exact ⟨rfl, H6.out.bel⟩
     ·have hl0 : ¬ ((m.number : Int) < (k : Int) + 1) := by omega
      have HEq : Hid ((m.number : Int) = (k : Int) + 1) := iq (by omega)
      have hgt2 : ¬ ((m.number : Int) > (k : Int) + 1) := by omega
      have hgd1 : decide ((m.number : Int) > (k : Int) + 1) = false := decide_eq_false (by omega)
      have hgd2 : decide ((k : Int) + 1 < (m.number : Int)) = false := decide_eq_false (by omega)
      have heq : m.number = k + 1 := by omega
      have HLo := iq (HLo.out heq)
      have HNx := iq (HNx.out heq)
      clear hlt hgt heq HFa HAg
      obtain ⟨z1, hz1⟩ : ∃ z, z = blw m.deps (ahd L o) := ⟨_, rfl⟩
      have HBl1 : Hid (∀ W, Calls Tryz.prog 44 #[.agg (u64s m.deps).toArray, .agg (u64s (ahd L o)).toArray] W fun E w' => E = .returned (.bool z1) /\ Below W.heap.size W w') := iq fun W => by rw [hz1]; exact HBl.out W _ _ HDl.out HAl.out
      rw [<- hz1] at HLo HNx
      clear hz1
      obtain ⟨z2, hz2⟩ : ∃ z, z = blw (kn L) m.deps := ⟨_, rfl⟩
      have HBl2 : Hid (∀ W, Calls Tryz.prog 44 #[.agg K.toArray, .agg (u64s m.deps).toArray] W fun E w' => E = .returned (.bool z2) /\ Below W.heap.size W w') := iq fun W => by rw [HK.out, hz2]; exact HBl.out W _ _ (kn_length L) HDl.out
      have HZ2 := iq hz2.symm
      clear hz2
      go_enter Tryz.func17, Tryz.ntmps17
      go_wp2_with (first | ((with_reducible refine wpList_load_midG ?_ 52 (.tmp 3) ?_ w.heap.size 0 ?_ (msgC m) _ ?_ Tryz.underlying52 ?_ ?_ ?_); rotate_left; rfl; rfl; exact (by first | exact range_of H2.out.hd | exact range_of H1.out.hd | exact range_of H0.out.hd); rfl; exact HI.out; rotate_left; rfl) | (go_at_call 41; refine (HMay.out _ H0.out.bel).mono ?_; rintro E w1 ⟨rfl, hb_⟩; have H1 := iq (H0.out.below hb_.out); clear hb_) | (go_at_call 42; refine (HNam.out _ H1.out.bel).mono ?_; rintro E w2 ⟨rfl, hb_⟩; have H2 := iq (H1.out.below hb_); clear hb_) | (go_at_call 43; refine (HRi.out _ H2.out.bel).mono ?_; rintro E w3 ⟨rfl, hb_⟩; have H3 := iq (H2.out.below hb_.out); clear hb_) | (go_at_call 20; refine (HKn.out _ H3.out.bel).mono ?_; rintro E w4 ⟨rfl, hb_⟩; have H4 := iq ((H3.out.below hb_).box Z.toArray 27); have H4' : Hid (Fr w (w4.alloc (.cells Z.toArray 27)) [blkT w4.heap.size Z.toArray 27, blkT w.heap.size (msgC m).toArray 52]) := H4; have HLE : Hid (0 + K.length <= Z.length /\ setAll Z 0 K = K) := iq ⟨by rw [HKl.out, HZl.out]; omega, setAll_all (by rw [HKl.out, HZl.out])⟩; clear hb_ H4) | (refine wpList_store_part rfl 27 (.tmp 5) (.tmp 25) rfl w4.heap.size 0 Z K K 27 H4'.out.hd HLE.out.1 HLE.out.2 rfl rfl HIk.out HOk.out ?_; intro w5 G5; have H5 : Hid (Fr w w5 [blkT w4.heap.size K.toArray 27, blkT w.heap.size (msgC m).toArray 52]) := iq (H4'.out.turn (own_grown G5.out.2 rfl) G5.out.1 (blkT_ok _ _ _)); have cm := HC.out w5 H5.out.hd2; have cm0 := cm.1; have cm1 := cm.2.1; have ck : w5.cell? ⟨w4.heap.size, o, none⟩ = some (.int .u64 (k : Int)) := block_cell H5.out.hd o _ HKo.out; clear cm H4'))
      refine wp_region_any (by kernel_rfl) ?_
      change wpAny _ _ _ _ _ _ _ (World.drewN _ 1)
      refine held_gen (G := fun W' => wpAny _ _ _ _ _ _ _ W') (fun W' => Fr w W' [blkT w4.heap.size K.toArray 27, blkT w.heap.size (msgC m).toArray 52]) (H5.out.drewN 1) (fun x0 hw => ?_)
      have H6 := iq hw
      clear hw cm0 cm1 ck
      have HB5 := iq H6.out.bel
      have hcx := HC.out x0 H6.out.hd2
      have HX0 := iq hcx.1
      have HX1 := iq hcx.2.1
      have HX3 := iq hcx.2.2
      have HX5 : Hid (w.heap.size < x0.heap.size) := iq (blkT_ok _ _ _ |>.lt x0 H6.out.hd2 _ rfl)
      clear hcx
      refine wpAny_of_held (S := fun W => Below x0.heap.size x0 W) _ _ _ _ ?_
      refine tk 0 ⟨some 38, .fieldAddr 52 (.tmp 3) 1, _, _, _, none⟩ (.pointer (some ⟨w.heap.size, 1, none⟩)) rfl (by kernel_rfl) (fun _ _ _ => id) bl (fun W hSW => by go_simp) ?_
      try simp only [Act.put, l0, l1, l2]
      refine tk 1 ⟨some 39, .load 25 (.tmp 38), _, _, _, none⟩ (.int .u64 (m.number : Int)) rfl (by kernel_rfl) (fun _ _ _ => id) bl (fun W hSW => by have hv := (hSW.cell (p := ⟨w.heap.size, 1, none⟩) HX5.out).trans HX1.out; go_simp) ?_
      try simp only [pu, l0, l1, l2]
      refine tk 2 ⟨some 40, .move (.tmp 6), _, _, _, none⟩ (.int .u64 ((k : Int) + 1)) rfl (by kernel_rfl) (fun _ _ _ => id) bl (fun W hSW => by go_simp) ?_
      try simp only [pu, l0, l1, l2]
      refine tk 3 ⟨some 41, .binOp .eql 25 (.tmp 39) (.tmp 40) 25, _, _, _, none⟩ (.bool true) rfl (by kernel_rfl) (fun _ _ _ => id) bl (fun W hSW => by have he := HEq.out; go_simp) ?_
      try simp only [pu, l0, l1, l2]
      refine tk 4 ⟨some 42, .move (.tmp 41), _, _, _, none⟩ (.bool true) rfl (by kernel_rfl) (fun _ _ _ => id) bl (fun W hSW => by go_simp) ?_
      try simp only [pu, l0, l1, l2]
      refine tk 5 ⟨some 43, .fieldAddr 52 (.tmp 3) 2, _, _, _, some (4, true)⟩ (.pointer (some ⟨w.heap.size, 2, none⟩)) rfl (by kernel_rfl) (fun _ _ _ => id) bl (fun W hSW => by go_simp) ?_
      try simp only [pu, l0, l1, l2]
      refine tk 6 ⟨some 44, .load 27 (.tmp 43), _, _, _, some (4, true)⟩ (.agg (u64s m.deps).toArray) rfl (by kernel_rfl) (fun _ _ _ => id) bl (fun W hSW => exec_load_mid 27 (.tmp 43) rfl w.heap.size 2 rfl (u64s m.deps) _ (fun j v hv => (hSW.cell (p := ⟨w.heap.size, 2 + j, none⟩) HX5.out).trans (HX3.out j v hv)) Tryz.underlying27 rfl HId.out) ?_
      try simp only [pu, l0, l1, l2]
      refine tk 7 ⟨some 45, .move (.tmp 0), _, _, _, some (4, true)⟩ (.pointer (some ⟨b, 0, none⟩)) rfl (by kernel_rfl) (fun _ _ _ => id) bl (fun W hSW => by go_simp) ?_
      try simp only [pu, l0, l1, l2]
      refine tk 8 ⟨some 46, .fieldAddr 52 (.tmp 3) 0, _, _, _, some (4, true)⟩ (.pointer (some ⟨w.heap.size, 0, none⟩)) rfl (by kernel_rfl) (fun _ _ _ => id) bl (fun W hSW => by go_simp) ?_
      try simp only [pu, l0, l1, l2]
      refine tk 9 ⟨some 47, .load 3 (.tmp 46), _, _, _, some (4, true)⟩ (.int .i64 m.origin) rfl (by kernel_rfl) (fun _ _ _ => id) bl (fun W hSW => by have hv := (hSW.cell (p := ⟨w.heap.size, 0, none⟩) HX5.out).trans HX0.out; go_simp) ?_
      try simp only [pu, l0, l1, l2]
      refine rd1 10 ⟨some 48, .call { callee := .value (.func 45), args := #[.tmp 45, .tmp 47], argTypes := #[36, 3] }, _, _, _, some (4, true)⟩ (by kernel_rfl) rfl fun K' hK' => ?_
      go_simp
      go_at_call 45
      refine (HAh.out _ HB5.out).mono ?_
      rintro E x1 ⟨rfl, b1⟩
      have NB := iq b1
      have HB5 := iq (HB5.out.trans (b1.mono HB5.out.size))
      clear b1
      refine hK'.out _ _ (NB.out) (fun _ => wpAnyH_next NB.out ?_)
      have HN1 := NB
      clear hK' K' NB
      try simp only [Act.put, l0, l1, l2]
      refine rd1 11 ⟨some 49, .call { callee := .value (.func 44), args := #[.tmp 44, .tmp 48], argTypes := #[27, 27] }, _, _, _, some (4, true)⟩ (by kernel_rfl) rfl fun K' hK' => ?_
      go_simp
      go_at_call 44
      refine (HBl1.out _).mono ?_
      rintro E x2 ⟨rfl, b2⟩
      have NB := iq b2
      have HB5 := iq (HB5.out.trans (b2.mono HB5.out.size))
      clear b2
      refine hK'.out _ _ (NB.out) (fun _ => wpAnyH_next NB.out ?_)
      have HN2 := NB
      clear hK' K' NB
      try simp only [Act.put, l0, l1, l2]
      refine tk 12 ⟨some 50, .pick (.tmp 42) (.tmp 49) (.const (.bool false)), _, _, _, none⟩ (.bool z1) rfl (by kernel_rfl) (fun _ _ _ => id) bl (fun W hSW => by go_simp) ?_
      try simp only [pu, l0, l1, l2]
      refine tk 13 ⟨some 37, .assign (.tmp 50), _, _, _, none⟩ (.bool z1) rfl (by kernel_rfl) (fun _ _ _ => id) bl (fun W hSW => by go_simp) ?_
      try simp only [pu, l0, l1, l2]
      refine wpAnyH_done (by kernel_rfl) ?_ _
      have H7 := iq ((H6.out.below HN1.out).below HN2.out)
      have hcx := HC.out x2 H7.out.hd2
      have cx1 := hcx.2.1
      clear hcx H6 HN1 HN2
      cases z1 with
      | true =>
       have HE := iq (HLo.out rfl)
       clear HLo HNx HZ2 HBl2
       go_wp2_with fail
       go_ret
       exact ⟨by rw [HE.out]; rfl, H7.out.bel⟩
      | false =>
       have HE := iq (HNx.out rfl z2 HZ2.out)
       clear HLo HNx HZ2
       cases z2 with
       | true =>
        go_wp2_with (first | (rw [hgd2]) | (rw [hgd1]) | ((with_reducible refine wpList_load_midG ?_ 27 (.tmp 5) ?_ w4.heap.size 0 ?_ K _ ?_ Tryz.underlying27 ?_ ?_ ?_); rotate_left; rfl; rfl; exact range_of H7.out.hd; rfl; exact HIk.out; rotate_left; rfl) | ((with_reducible refine wpList_load_midG ?_ 27 (.tmp 58) ?_ w.heap.size 2 ?_ (u64s m.deps) _ ?_ Tryz.underlying27 ?_ ?_ ?_); rotate_left; rfl; rfl; exact (HC.out _ H7.out.hd2).2.2; rfl; exact HId.out; rotate_left; rfl) | (go_at_call 44; refine (HBl2.out _).mono ?_; rintro E w8 ⟨rfl, b8⟩; have H8 := iq (H7.out.below b8); clear b8))
        go_ret
        exact ⟨by rw [HE.out]; rfl, H8.out.bel⟩
       | false =>
        go_wp2_with (first | (rw [hgd2]) | (rw [hgd1]) | ((with_reducible refine wpList_load_midG ?_ 27 (.tmp 5) ?_ w4.heap.size 0 ?_ K _ ?_ Tryz.underlying27 ?_ ?_ ?_); rotate_left; rfl; rfl; exact range_of H7.out.hd; rfl; exact HIk.out; rotate_left; rfl) | ((with_reducible refine wpList_load_midG ?_ 27 (.tmp 58) ?_ w.heap.size 2 ?_ (u64s m.deps) _ ?_ Tryz.underlying27 ?_ ?_ ?_); rotate_left; rfl; rfl; exact (HC.out _ H7.out.hd2).2.2; rfl; exact HId.out; rotate_left; rfl) | (go_at_call 44; refine (HBl2.out _).mono ?_; rintro E w8 ⟨rfl, b8⟩; have H8 := iq (H7.out.below b8); clear b8))
        go_ret
        exact ⟨by rw [HE.out]; rfl, H8.out.bel⟩
   ·have HNam := iq (fun W hb => by have := HNam.out W hb; rw [hnms] at this; exact this)
    rw [chk_tag hmay hnms hri]
    have hd : decide m.right = false := decide_eq_false hri
    have HRi := iq (fun W hb => by have := HRi.out W hb; rw [hd] at this; exact this)
    clear hd hnms hmay hri HKn HAh HBl
    go_enter Tryz.func17, Tryz.ntmps17
    go_wp2_with (first | ((with_reducible refine wpList_load_midG ?_ 52 (.tmp 3) ?_ w.heap.size 0 ?_ (msgC m) _ ?_ Tryz.underlying52 ?_ ?_ ?_); rotate_left; rfl; rfl; exact (by first | exact range_of H2.out.hd | exact range_of H1.out.hd | exact range_of H0.out.hd); rfl; exact HI.out; rotate_left; rfl) | (go_at_call 41; refine (HMay.out _ H0.out.bel).mono ?_; rintro E w1 ⟨rfl, hb_⟩; have H1 := iq (H0.out.below hb_.out); clear hb_) | (go_at_call 42; refine (HNam.out _ H1.out.bel).mono ?_; rintro E w2 ⟨rfl, hb_⟩; have H2 := iq (H1.out.below hb_); clear hb_) | (go_at_call 43; refine (HRi.out _ H2.out.bel).mono ?_; rintro E w3 ⟨rfl, hb_⟩; have H3 := iq (H2.out.below hb_.out); clear hb_))
    go_ret
    exact ⟨rfl, H3.out.bel⟩
 ·rw [chk_may hmay]
  have hd : decide m.may = false := decide_eq_false hmay
  have HMay := iq (fun W hb => by have := HMay.out W hb; rw [hd] at this; exact this)
  clear hd hmay HNam HRi HKn HAh HBl
  go_enter Tryz.func17, Tryz.ntmps17
  go_wp2_with (first | ((with_reducible refine wpList_load_midG ?_ 52 (.tmp 3) ?_ w.heap.size 0 ?_ (msgC m) _ ?_ Tryz.underlying52 ?_ ?_ ?_); rotate_left; rfl; rfl; exact (by first | exact range_of H2.out.hd | exact range_of H1.out.hd | exact range_of H0.out.hd); rfl; exact HI.out; rotate_left; rfl) | (go_at_call 41; refine (HMay.out _ H0.out.bel).mono ?_; rintro E w1 ⟨rfl, hb_⟩; have H1 := iq (H0.out.below hb_.out); clear hb_))
  go_ret
  exact ⟨rfl, H1.out.bel⟩
end Go.Proofs.YtllbbcifcbkgeaaGreatDoor.Sh
