/- Laws and walks. -/
import Derived.Test.YtllbbcifcbkgeaaGreatDoorF28a
set_option maxHeartbeats 16000000
set_option maxRecDepth 100000
namespace Go.Proofs.YtllbbcifcbkgeaaGreatDoor.Sh
open Go.RowKit
theorem acts_any (k : Nat) (hk8 : k < 256) (A0 : Option Addr) (c0 : Nat) (l : List MAct) (w : World) (h : As w A0 l) (hl : l.length <= 100) (hq : ∀ x ∈ l, x.q.length <= 20) (hk : KIs w) (h0 : 0 < w.heap.size) :
  Calls Tryz.prog 14 #[.int .u8 (k : Int), .slice A0 l.length c0] w fun E w' => ActsP w (3 + 2 * (k % 5)) l E w' := by
 have HAs := iq (fun (W : World) (hb : Below w.heap.size w W) => h.below hb)
 have HLq := iq hq
 have HO := iq (odd_any k hk8 w)
 obtain ⟨n, hn⟩ : ∃ n, n = 3 + 2 * (k % 5) := ⟨_, rfl⟩
 have hn11 : n <= 11 := by omega
 have hn3 : 3 <= n := by omega
 rw [<- hn] at HO ⊢
 have HM := iq (make_vecs n hn11 w)
 have HW := iq (show Fr w ((w.alloc (.cells (ksC (List.replicate n z11)).toArray 27)).alloc (.cells #[.slice (some ⟨w.heap.size, 0, none⟩) n n, .slice none 0 0] 35)) (WL (w.heap.size + 1) w.heap.size n (List.replicate n z11) none 0 []) from (((mr_nil (qs_nil (Fr.start hk h0))).box _ _).box' (by simp) _ _))
 have HOk := iq (fun i hi => ok_acted n (by omega) l i hi)
 obtain ⟨N, hN⟩ : ∃ N, N = l.length := ⟨_, rfl⟩
 have HN := iq hN
 have hN100 : N <= 100 := by omega
 rw [<- hN]
 clear hn h hN hq hk h0
 go_enter Tryz.func14, Tryz.ntmps14
 go_wp2_with (first | (go_at_call 38; refine HO.out.mono ?_; rintro E w1 ⟨rfl, rfl⟩) | (refine wpList_make_ln _ rfl 33 (.tmp 13) (.tmp 13) rfl _ _ _ _ rfl rfl HM.out ?_))
 have H0 : Hid (∃ A c all, all.map MMsg.bare = (acted n (l.take 0)).all.map MMsg.bare /\ Fr w ((w.alloc (.cells (ksC (List.replicate n z11)).toArray 27)).alloc (.cells #[.slice (some ⟨w.heap.size, 0, none⟩) n n, .slice none 0 0] 35)) (WL (w.heap.size + 1) w.heap.size n (acted n (l.take 0)).ks A c all)) := iq ⟨none, 0, [], rfl, HW.out⟩
 clear HM HO HW
 go_loopw [6] (fun v6 wr => ∃ i : Nat, i <= N /\ v6 = .int .i64 (i : Int) /\ Hid (∃ A c all, all.map MMsg.bare = (acted n (l.take i)).all.map MMsg.bare /\ Fr w wr (WL (w.heap.size + 1) w.heap.size n (acted n (l.take i)).ks A c all))) (fun v6 _ => N - (intOf v6).toNat)
 case atStart => exact ⟨0, by omega, rfl, H0⟩
 case round =>
  clear H0
  obtain ⟨i, hi, rfl, DD⟩ := hrel
  obtain ⟨A, c, all, hbare, hfr⟩ := DD.out
  have HBr := iq hbare
  have H4 := iq hfr
  clear DD hbare hfr
  by_cases hii : i < N
  ·have hdec : decide ((i : Int) < (N : Int)) = true := decide_eq_true (by omega)
   have hj0 : (0 : Int) <= (i : Int) := by omega
   have hjn : (i : Int) < (N : Int) := by omega
   have htn : ((i : Int)).toNat = i := by omega
   have hw1 : IntKind.i64.wrap ((i : Int) + 1) = (i : Int) + 1 := by rw [IntKind.wrap_i64]; omega
   obtain ⟨x, hx⟩ : ∃ x, l[i]? = some x := ⟨_, List.getElem?_eq_getElem (by rw [<- HN.out]; omega)⟩
   have hmem := List.mem_of_getElem? hx
   have HQx := iq (HLq.out x hmem)
   have hxo := ((HAs.out w bl).1 x hmem).1
   have HXo := iq hxo
   have HOc := iq (fun (W : World) (hb : Below w.heap.size w W) => ((HAs.out W hb).1 x hmem).2)
   have HNx : Hid (acted n (l.take (i + 1)) = stepA n (acted n (l.take i)) x) := iq (by rw [List.take_add_one, hx]; exact acted_snoc n _ x)
   obtain ⟨S, hS⟩ : ∃ S, S = acted n (l.take i) := ⟨_, rfl⟩
   have hok := HOk.out i (by rw [<- HN.out]; omega)
   rw [<- hS] at hok HNx H4 HBr
   have HSk := iq hok
   have HAl : Hid (all.length <= 1000000) := iq (by have h1 := congrArg List.length HBr.out; rw [List.length_map, List.length_map] at h1; have h2 := hok.few; omega)
   obtain ⟨g, og, rfl, hgl, hrg⟩ := (HAs.out wr H4.out.bel).2 (by rw [<- HN.out]; omega)
   have HRg := iq (hrg i x hx)
   have HIa := iq (info_act x)
   have HOa := iq (one_actC x)
   have hza := zero_act
   have HLa : Hid (0 + (actC x).length <= (actC zeroAct).length /\ setAll (actC zeroAct) 0 (actC x) = actC x) := iq ⟨by simp [actC_length], setAll_all rfl⟩
   have hnz : ¬ n = 0 := by omega
   obtain ⟨o, ho⟩ : ∃ o, o = x.who % n := ⟨_, rfl⟩
   have htm : Int.tmod (x.who : Int) (n : Int) = (o : Int) := by rw [Int.tmod_eq_emod_of_nonneg (by omega), ho]; omega
   have HOe := iq ho
   have HOn : Hid (o < n) := iq (by rw [ho]; exact Nat.mod_lt _ (by omega))
   have HIi := iq hii
   have hxw := hxo.who
   have hww : IntKind.i64.wrap (x.who : Int) = (x.who : Int) := by rw [IntKind.wrap_i64]; omega
   have hwo : IntKind.i64.wrap (o : Int) = (o : Int) := by rw [IntKind.wrap_i64]; have := HOn.out; omega
   have HA0 := iq (H4.out.box (actC zeroAct).toArray 87)
   clear hx hmem hxo hS hok hgl hrg ho H4 hii
   go_wp2_with (first | ((with_reducible refine wpList_load_midG ?_ 87 (.tmp 25) ?_ g (og + i * 8) ?_ (actC x) _ ?_ Tryz.underlying87 ?_ ?_ ?_); rotate_left; rfl; rfl; exact HRg.out; rfl; exact HIa.out; rotate_left; rfl) | (refine wpList_store_part rfl 87 (.tmp 7) (.tmp 26) rfl wr.heap.size 0 (actC zeroAct) (actC x) (actC x) 87 HA0.out.hd HLa.out.1 HLa.out.2 rfl rfl HIa.out HOa.out ?_; intro w5 G5; have H5 : Hid (Fr w w5 (blkT wr.heap.size (actC x).toArray 87 :: WL (w.heap.size + 1) w.heap.size n S.ks A c all)) := iq (HA0.out.turn (own_grown G5.out.2 rfl) G5.out.1 (blkT_ok _ _ _)); clear G5 HA0))
   refine wp_region_any (by kernel_rfl) ?_
   change wpAny _ _ _ _ _ _ _ (World.drewN _ 1)
   refine held_gen (G := fun W' => wpAny _ _ _ _ _ _ _ W') (fun W' => Fr w W' (blkT wr.heap.size (actC x).toArray 87 :: WL (w.heap.size + 1) w.heap.size n S.ks A c all)) (H5.out.drewN 1) (fun y0 hw => ?_)
   have H6 := iq hw
   clear hw H5
   have HEv : Hid (∀ W, Fr w W (blkT wr.heap.size (actC x).toArray 87 :: WL (w.heap.size + 1) w.heap.size n S.ks A c all) -> W.cell? ⟨wr.heap.size, 0, none⟩ = some (.int .u8 (x.who : Int)) /\ W.cell? ⟨w.heap.size + 1, 0, none⟩ = some (.slice (some ⟨w.heap.size, 0, none⟩) n n)) := iq fun W hf => ⟨block_cell hf.hd 0 _ rfl, block_cell hf.hd2 0 _ rfl⟩
   refine wpAny_of_held (S := fun W => W.cell? ⟨wr.heap.size, 0, none⟩ = some (.int .u8 (x.who : Int)) /\ W.cell? ⟨w.heap.size + 1, 0, none⟩ = some (.slice (some ⟨w.heap.size, 0, none⟩) n n)) _ _ _ _ ?_
   refine tk 0 ⟨some 27, .fieldAddr 87 (.tmp 7) 0, _, _, _, none⟩ (.pointer (some ⟨wr.heap.size, 0, none⟩)) rfl (by kernel_rfl) (fun _ _ _ => id) (HEv.out _ H6.out) (fun W hSW => by go_simp) ?_
   try simp only [Act.put, l0, l1, l2]
   refine tk 1 ⟨some 28, .load 5 (.tmp 27), _, _, _, none⟩ (.int .u8 (x.who : Int)) rfl (by kernel_rfl) (fun _ _ _ => id) (HEv.out _ H6.out) (fun W hSW => by have hv := hSW.1; go_simp) ?_
   try simp only [pu, l0, l1, l2]
   refine tk 2 ⟨some 29, .convert 5 3 (.tmp 28), _, _, _, none⟩ (.int .i64 (x.who : Int)) rfl (by kernel_rfl) (fun _ _ _ => id) (HEv.out _ H6.out) (fun W hSW => by go_simp) ?_
   try simp only [pu, l0, l1, l2]
   refine tk 3 ⟨some 30, .move (.tmp 5), _, _, _, none⟩ (.pointer (some ⟨w.heap.size + 1, 0, none⟩)) rfl (by kernel_rfl) (fun _ _ _ => id) (HEv.out _ H6.out) (fun W hSW => by go_simp) ?_
   try simp only [pu, l0, l1, l2]
   refine tk 4 ⟨some 31, .nilCheck (.tmp 30), _, _, _, none⟩ (.pointer (some ⟨w.heap.size + 1, 0, none⟩)) rfl (by kernel_rfl) (fun _ _ _ => id) (HEv.out _ H6.out) (fun W hSW => by go_simp) ?_
   try simp only [pu, l0, l1, l2]
   refine tk 5 ⟨some 32, .fieldAddr 35 (.tmp 31) 0, _, _, _, none⟩ (.pointer (some ⟨w.heap.size + 1, 0, none⟩)) rfl (by kernel_rfl) (fun _ _ _ => id) (HEv.out _ H6.out) (fun W hSW => by go_simp) ?_
   try simp only [pu, l0, l1, l2]
   refine tk 6 ⟨some 33, .load 33 (.tmp 32), _, _, _, none⟩ (.slice (some ⟨w.heap.size, 0, none⟩) n n) rfl (by kernel_rfl) (fun _ _ _ => id) (HEv.out _ H6.out) (fun W hSW => by have hv := hSW.2; go_simp) ?_
   try simp only [pu, l0, l1, l2]
   refine tk 7 ⟨some 34, .call { callee := .builtin .len, args := #[.tmp 33], argTypes := #[33] }, _, _, _, none⟩ (.int .i64 (n : Int)) rfl (by kernel_rfl) (fun _ _ _ => id) (HEv.out _ H6.out) (fun W hSW => by go_simp) ?_
   try simp only [pu, l0, l1, l2]
   refine tk 8 ⟨some 35, .binOp .rem 3 (.tmp 29) (.tmp 34) 3, _, _, _, none⟩ (.int .i64 (o : Int)) rfl (by kernel_rfl) (fun _ _ _ => id) (HEv.out _ H6.out) (fun W hSW => by have hv := htm; go_simp) ?_
   try simp only [pu, l0, l1, l2]
   refine tk 9 ⟨some 8, .assign (.tmp 35), _, _, _, none⟩ (.int .i64 (o : Int)) rfl (by kernel_rfl) (fun _ _ _ => id) (HEv.out _ H6.out) (fun W hSW => by go_simp) ?_
   try simp only [pu, l0, l1, l2]
   refine wpAnyH_done (by kernel_rfl) ?_ _
   have hme : y0.cell? ⟨wr.heap.size, 2, none⟩ = some (.bool x.meet) := block_cell H6.out.hd 2 _ rfl
   have HMe := iq hme
   cases hmt : x.meet with
   | true =>
    rw [hmt] at hme
    obtain ⟨j, hj⟩ : ∃ j, j = x.other % n := ⟨_, rfl⟩
    have htm : Int.tmod (x.other : Int) (n : Int) = (j : Int) := by rw [Int.tmod_eq_emod_of_nonneg (by omega), hj]; omega
    have HJe := iq hj
    have hjn : j < n := by rw [hj]; exact Nat.mod_lt _ (by omega)
    have HJn := iq hjn
    have hxw := HXo.out.other
    have hww : IntKind.i64.wrap (x.other : Int) = (x.other : Int) := by rw [IntKind.wrap_i64]; omega
    have hwo : IntKind.i64.wrap (j : Int) = (j : Int) := by rw [IntKind.wrap_i64]; omega
    have hoo := HOn.out
    clear hj
    go_wp2_with fail
    refine wp_region_any (by kernel_rfl) ?_
    change wpAny _ _ _ _ _ _ _ (World.drewN _ 1)
    refine held_gen (G := fun W' => wpAny _ _ _ _ _ _ _ W') (fun W' => Fr w W' (blkT wr.heap.size (actC x).toArray 87 :: WL (w.heap.size + 1) w.heap.size n S.ks A c all)) (H6.out.drewN 1) (fun y1 hw => ?_)
    have H7 := iq hw
    clear hw H6 hme
    have HEv2 : Hid (∀ W, Fr w W (blkT wr.heap.size (actC x).toArray 87 :: WL (w.heap.size + 1) w.heap.size n S.ks A c all) -> W.cell? ⟨wr.heap.size, 1, none⟩ = some (.int .u8 (x.other : Int)) /\ W.cell? ⟨w.heap.size + 1, 0, none⟩ = some (.slice (some ⟨w.heap.size, 0, none⟩) n n)) := iq fun W hf => ⟨block_cell hf.hd 1 _ rfl, block_cell hf.hd2 0 _ rfl⟩
    refine wpAny_of_held (S := fun W => W.cell? ⟨wr.heap.size, 1, none⟩ = some (.int .u8 (x.other : Int)) /\ W.cell? ⟨w.heap.size + 1, 0, none⟩ = some (.slice (some ⟨w.heap.size, 0, none⟩) n n)) _ _ _ _ ?_
    refine tk 0 ⟨some 38, .fieldAddr 87 (.tmp 7) 1, _, _, _, none⟩ (.pointer (some ⟨wr.heap.size, 1, none⟩)) rfl (by kernel_rfl) (fun _ _ _ => id) (HEv2.out _ H7.out) (fun W hSW => by go_simp) ?_
    try simp only [Act.put, l0, l1, l2]
    refine tk 1 ⟨some 39, .load 5 (.tmp 38), _, _, _, none⟩ (.int .u8 (x.other : Int)) rfl (by kernel_rfl) (fun _ _ _ => id) (HEv2.out _ H7.out) (fun W hSW => by have hv := hSW.1; go_simp) ?_
    try simp only [pu, l0, l1, l2]
    refine tk 2 ⟨some 40, .convert 5 3 (.tmp 39), _, _, _, none⟩ (.int .i64 (x.other : Int)) rfl (by kernel_rfl) (fun _ _ _ => id) (HEv2.out _ H7.out) (fun W hSW => by go_simp) ?_
    try simp only [pu, l0, l1, l2]
    refine tk 3 ⟨some 41, .move (.tmp 5), _, _, _, none⟩ (.pointer (some ⟨w.heap.size + 1, 0, none⟩)) rfl (by kernel_rfl) (fun _ _ _ => id) (HEv2.out _ H7.out) (fun W hSW => by go_simp) ?_
    try simp only [pu, l0, l1, l2]
    refine tk 4 ⟨some 42, .nilCheck (.tmp 41), _, _, _, none⟩ (.pointer (some ⟨w.heap.size + 1, 0, none⟩)) rfl (by kernel_rfl) (fun _ _ _ => id) (HEv2.out _ H7.out) (fun W hSW => by go_simp) ?_
    try simp only [pu, l0, l1, l2]
    refine tk 5 ⟨some 43, .fieldAddr 35 (.tmp 42) 0, _, _, _, none⟩ (.pointer (some ⟨w.heap.size + 1, 0, none⟩)) rfl (by kernel_rfl) (fun _ _ _ => id) (HEv2.out _ H7.out) (fun W hSW => by go_simp) ?_
    try simp only [pu, l0, l1, l2]
    refine tk 6 ⟨some 44, .load 33 (.tmp 43), _, _, _, none⟩ (.slice (some ⟨w.heap.size, 0, none⟩) n n) rfl (by kernel_rfl) (fun _ _ _ => id) (HEv2.out _ H7.out) (fun W hSW => by have hv := hSW.2; go_simp) ?_
    try simp only [pu, l0, l1, l2]
    refine tk 7 ⟨some 45, .call { callee := .builtin .len, args := #[.tmp 44], argTypes := #[33] }, _, _, _, none⟩ (.int .i64 (n : Int)) rfl (by kernel_rfl) (fun _ _ _ => id) (HEv2.out _ H7.out) (fun W hSW => by go_simp) ?_
    try simp only [pu, l0, l1, l2]
    refine tk 8 ⟨some 46, .binOp .rem 3 (.tmp 40) (.tmp 45) 3, _, _, _, none⟩ (.int .i64 (j : Int)) rfl (by kernel_rfl) (fun _ _ _ => id) (HEv2.out _ H7.out) (fun W hSW => by have hv := htm; go_simp) ?_
    try simp only [pu, l0, l1, l2]
    refine tk 9 ⟨some 9, .assign (.tmp 46), _, _, _, none⟩ (.int .i64 (j : Int)) rfl (by kernel_rfl) (fun _ _ _ => id) (HEv2.out _ H7.out) (fun W hSW => by go_simp) ?_
    try simp only [pu, l0, l1, l2]
    refine wpAnyH_done (by kernel_rfl) ?_ _
    go_wp2_with fail
    have D0 : Hid (Fr w y1 (blkT wr.heap.size (actC x).toArray 87 :: WL (w.heap.size + 1) w.heap.size n (meetK S o j 0) A c all)) := iq (by rw [meet_zero HSk.out HOn.out]; exact H7.out)
    clear H7 HEv HEv2
    obtain ⟨a, ha⟩ : ∃ a, a = wr.heap.size := ⟨_, rfl⟩
    rw [<- ha] at D0 ⊢
    clear ha
    have HEk : Hid (∀ W ks, Fr w W (blkT a (actC x).toArray 87 :: WL (w.heap.size + 1) w.heap.size n ks A c all) -> W.cell? ⟨w.heap.size + 1, 0, none⟩ = some (.slice (some ⟨w.heap.size, 0, none⟩) n n)) := iq fun W ks hf => block_cell hf.hd2 0 _ rfl
    go_loopw [10] (fun v10 w2 => ∃ k : Nat, k <= 11 /\ v10 = .int .i64 (k : Int) /\ Hid (Fr w w2 (blkT a (actC x).toArray 87 :: WL (w.heap.size + 1) w.heap.size n (meetK S o j k) A c all))) (fun v10 _ => 11 - (intOf v10).toNat)
    case atStart => exact ⟨0, by omega, rfl, D0⟩
    case round =>
     clear D0
     obtain ⟨k, hk, rfl, D0⟩ := hrel
     by_cases hkk : k < 11
     ·have hdec : decide ((k : Int) < (11 : Int)) = true := decide_eq_true (by omega)
      have hj0 : (0 : Int) <= (k : Int) := by omega
      have hjn : (k : Int) < (11 : Int) := by omega
      have htn : ((k : Int)).toNat = k := by omega
      have hw1 : IntKind.i64.wrap ((k : Int) + 1) = (k : Int) + 1 := by rw [IntKind.wrap_i64]; omega
      have HCo := iq (meet_own (j := j) HSk.out HOn.out hkk)
      have HCj := iq (meet_other HSk.out HOn.out HJn.out hkk)
      have hnk := meet_next (j := j) HSk.out HOn.out hkk
      obtain ⟨p, hp⟩ : ∃ p, p = (S.ks.getD o []).getD k 0 := ⟨_, rfl⟩
      obtain ⟨q, hq⟩ : ∃ q, q = (S.ks.getD j []).getD k 0 := ⟨_, rfl⟩
      rw [<- hp] at HCo hnk
      rw [<- hq] at HCj hnk
      obtain ⟨mx, hmx⟩ : ∃ m, m = max p q := ⟨_, rfl⟩
      rw [<- hmx] at hnk
      have HNk := iq hnk
      have HMx : Hid ((if (p : Int) < (q : Int) then (q : Int) else (p : Int)) = (mx : Int) /\ (if p < q then (q : Int) else (p : Int)) = (mx : Int)) := iq ⟨by split <;> omega, by split <;> omega⟩
      have hio : (0 : Int) <= (o : Int) := by omega
      have hio2 : (o : Int) < (n : Int) := by omega
      have hio3 : ((o : Int)).toNat = o := by omega
      have hij : (0 : Int) <= (j : Int) := by omega
      have hij2 : (j : Int) < (n : Int) := by omega
      have hij3 : ((j : Int)).toNat = j := by omega
      clear hp hq hmx hnk
      go_wp2_with fail
      refine wp_region_any (by kernel_rfl) ?_
      change wpAny _ _ _ _ _ _ _ (World.drewN _ 1)
      refine held_gen (G := fun W' => wpAny _ _ _ _ _ _ _ W') (fun W' => Fr w W' (blkT a (actC x).toArray 87 :: WL (w.heap.size + 1) w.heap.size n (meetK S o j k) A c all)) (D0.out.drewN 1) (fun z0 hw => ?_)
      have D1 := iq hw
      clear hw D0
      refine wpAny_of_held (S := fun W => W.cell? ⟨w.heap.size + 1, 0, none⟩ = some (.slice (some ⟨w.heap.size, 0, none⟩) n n)) _ _ _ _ ?_
      refine tk 0 ⟨some 51, .move (.tmp 5), _, _, _, none⟩ (.pointer (some ⟨w.heap.size + 1, 0, none⟩)) rfl (by kernel_rfl) (fun _ _ _ => id) (HEk.out _ _ D1.out) (fun W hSW => by go_simp) ?_
      try simp only [Act.put, l0, l1, l2]
      refine tk 1 ⟨some 52, .nilCheck (.tmp 51), _, _, _, none⟩ (.pointer (some ⟨w.heap.size + 1, 0, none⟩)) rfl (by kernel_rfl) (fun _ _ _ => id) (HEk.out _ _ D1.out) (fun W hSW => by go_simp) ?_
      try simp only [pu, l0, l1, l2]
      refine tk 2 ⟨some 53, .fieldAddr 35 (.tmp 52) 0, _, _, _, none⟩ (.pointer (some ⟨w.heap.size + 1, 0, none⟩)) rfl (by kernel_rfl) (fun _ _ _ => id) (HEk.out _ _ D1.out) (fun W hSW => by go_simp) ?_
      try simp only [pu, l0, l1, l2]
      refine tk 3 ⟨some 54, .load 33 (.tmp 53), _, _, _, none⟩ (.slice (some ⟨w.heap.size, 0, none⟩) n n) rfl (by kernel_rfl) (fun _ _ _ => id) (HEk.out _ _ D1.out) (fun W hSW => by have hv := hSW; go_simp) ?_
      try simp only [pu, l0, l1, l2]
      refine tk 4 ⟨some 55, .move (.tmp 8), _, _, _, none⟩ (.int .i64 (o : Int)) rfl (by kernel_rfl) (fun _ _ _ => id) (HEk.out _ _ D1.out) (fun W hSW => by go_simp) ?_
      try simp only [pu, l0, l1, l2]
      refine tk 5 ⟨some 56, .move (.tmp 10), _, _, _, none⟩ (.int .i64 (k : Int)) rfl (by kernel_rfl) (fun _ _ _ => id) (HEk.out _ _ D1.out) (fun W hSW => by go_simp) ?_
      try simp only [pu, l0, l1, l2]
      refine tk 6 ⟨some 57, .move (.tmp 5), _, _, _, none⟩ (.pointer (some ⟨w.heap.size + 1, 0, none⟩)) rfl (by kernel_rfl) (fun _ _ _ => id) (HEk.out _ _ D1.out) (fun W hSW => by go_simp) ?_
      try simp only [pu, l0, l1, l2]
      refine tk 7 ⟨some 58, .nilCheck (.tmp 57), _, _, _, none⟩ (.pointer (some ⟨w.heap.size + 1, 0, none⟩)) rfl (by kernel_rfl) (fun _ _ _ => id) (HEk.out _ _ D1.out) (fun W hSW => by go_simp) ?_
      try simp only [pu, l0, l1, l2]
      refine tk 8 ⟨some 59, .fieldAddr 35 (.tmp 58) 0, _, _, _, none⟩ (.pointer (some ⟨w.heap.size + 1, 0, none⟩)) rfl (by kernel_rfl) (fun _ _ _ => id) (HEk.out _ _ D1.out) (fun W hSW => by go_simp) ?_
      try simp only [pu, l0, l1, l2]
      refine tk 9 ⟨some 60, .load 33 (.tmp 59), _, _, _, none⟩ (.slice (some ⟨w.heap.size, 0, none⟩) n n) rfl (by kernel_rfl) (fun _ _ _ => id) (HEk.out _ _ D1.out) (fun W hSW => by have hv := hSW; go_simp) ?_
      try simp only [pu, l0, l1, l2]
      refine tk 10 ⟨some 61, .move (.tmp 8), _, _, _, none⟩ (.int .i64 (o : Int)) rfl (by kernel_rfl) (fun _ _ _ => id) (HEk.out _ _ D1.out) (fun W hSW => by go_simp) ?_
      try simp only [pu, l0, l1, l2]
      refine tk 11 ⟨some 62, .move (.tmp 10), _, _, _, none⟩ (.int .i64 (k : Int)) rfl (by kernel_rfl) (fun _ _ _ => id) (HEk.out _ _ D1.out) (fun W hSW => by go_simp) ?_
      try simp only [pu, l0, l1, l2]
      refine tk 12 ⟨some 63, .indexAddr 33 (.tmp 60) (.tmp 61), _, _, _, none⟩ (.pointer (some ⟨w.heap.size, o * 11, none⟩)) rfl (by kernel_rfl) (fun _ _ _ => id) (HEk.out _ _ D1.out) (fun W hSW => by go_simp) ?_
      try simp only [pu, l0, l1, l2]
      refine tk 13 ⟨some 64, .indexAddr 27 (.tmp 63) (.tmp 62), _, _, _, none⟩ (.pointer (some ⟨w.heap.size, o * 11 + k, none⟩)) rfl (by kernel_rfl) (fun _ _ _ => id) (HEk.out _ _ D1.out) (fun W hSW => by go_simp) ?_
      try simp only [pu, l0, l1, l2]
      refine tk 15 ⟨some 66, .move (.tmp 5), _, _, _, none⟩ (.pointer (some ⟨w.heap.size + 1, 0, none⟩)) rfl (by kernel_rfl) (fun _ _ _ => id) (HEk.out _ _ D1.out) (fun W hSW => by go_simp) ?_
      try simp only [pu, l0, l1, l2]
      refine tk 16 ⟨some 67, .nilCheck (.tmp 66), _, _, _, none⟩ (.pointer (some ⟨w.heap.size + 1, 0, none⟩)) rfl (by kernel_rfl) (fun _ _ _ => id) (HEk.out _ _ D1.out) (fun W hSW => by go_simp) ?_
      try simp only [pu, l0, l1, l2]
      refine tk 17 ⟨some 68, .fieldAddr 35 (.tmp 67) 0, _, _, _, none⟩ (.pointer (some ⟨w.heap.size + 1, 0, none⟩)) rfl (by kernel_rfl) (fun _ _ _ => id) (HEk.out _ _ D1.out) (fun W hSW => by go_simp) ?_
      try simp only [pu, l0, l1, l2]
      refine tk 18 ⟨some 69, .load 33 (.tmp 68), _, _, _, none⟩ (.slice (some ⟨w.heap.size, 0, none⟩) n n) rfl (by kernel_rfl) (fun _ _ _ => id) (HEk.out _ _ D1.out) (fun W hSW => by have hv := hSW; go_simp) ?_
      try simp only [pu, l0, l1, l2]
      refine tk 19 ⟨some 70, .move (.tmp 9), _, _, _, none⟩ (.int .i64 (j : Int)) rfl (by kernel_rfl) (fun _ _ _ => id) (HEk.out _ _ D1.out) (fun W hSW => by go_simp) ?_
      try simp only [pu, l0, l1, l2]
      refine tk 20 ⟨some 71, .move (.tmp 10), _, _, _, none⟩ (.int .i64 (k : Int)) rfl (by kernel_rfl) (fun _ _ _ => id) (HEk.out _ _ D1.out) (fun W hSW => by go_simp) ?_
      try simp only [pu, l0, l1, l2]
      refine tk 21 ⟨some 72, .indexAddr 33 (.tmp 69) (.tmp 70), _, _, _, none⟩ (.pointer (some ⟨w.heap.size, j * 11, none⟩)) rfl (by kernel_rfl) (fun _ _ _ => id) (HEk.out _ _ D1.out) (fun W hSW => by go_simp) ?_
      try simp only [pu, l0, l1, l2]
      refine tk 22 ⟨some 73, .indexAddr 27 (.tmp 72) (.tmp 71), _, _, _, none⟩ (.pointer (some ⟨w.heap.size, j * 11 + k, none⟩)) rfl (by kernel_rfl) (fun _ _ _ => id) (HEk.out _ _ D1.out) (fun W hSW => by go_simp) ?_
      try simp only [pu, l0, l1, l2]
      refine tk 25 ⟨some 76, .indexAddr 33 (.tmp 54) (.tmp 55), _, _, _, none⟩ (.pointer (some ⟨w.heap.size, o * 11, none⟩)) rfl (by kernel_rfl) (fun _ _ _ => id) (HEk.out _ _ D1.out) (fun W hSW => by go_simp) ?_
      try simp only [pu, l0, l1, l2]
      refine rdy [14, 23] (by kernel_rfl) ?_
      refine (AllReadyH.cons (o := ⟨some 65, .load 25 (.tmp 64), _, _, _, none⟩) rfl (fun K' hK' => ?_) (AllReadyH.cons (o := ⟨some 74, .load 25 (.tmp 73), _, _, _, none⟩) rfl (fun K' hK' => ?_) AllReadyH.nil))
      ·have hc14 := block_cell D1.out.hd3 (o * 11 + k) _ HCo.out
       go_simp
       refine hK'.out _ _ (HEk.out _ _ D1.out) (fun _ => ?_)
       clear hK' K' hc14
       try simp only [Act.put, l0, l1, l2]
       refine rd1 23 ⟨some 74, .load 25 (.tmp 73), _, _, _, none⟩ (by kernel_rfl) rfl fun K' hK' => ?_
       have hc23 := block_cell D1.out.hd3 (j * 11 + k) _ HCj.out
       go_simp
       refine hK'.out _ _ (HEk.out _ _ D1.out) (fun _ => ?_)
       clear hK' K' hc23
       try simp only [Act.put, l0, l1, l2]
       refine tk 24 ⟨some 75, .call { callee := .builtin .max, args := #[.tmp 65, .tmp 74], argTypes := #[25, 25] }, _, _, _, none⟩ (.int .u64 (mx : Int)) rfl (by kernel_rfl) (fun _ _ _ => id) (HEk.out _ _ D1.out) (fun W hSW => by have hm1 := HMx.out.1; have hm2 := HMx.out.2; go_simp) ?_
       try simp only [pu, l0, l1, l2]
       refine tk 26 ⟨some 77, .indexAddr 27 (.tmp 76) (.tmp 56), _, _, _, none⟩ (.pointer (some ⟨w.heap.size, o * 11 + k, none⟩)) rfl (by kernel_rfl) (fun _ _ _ => id) (HEk.out _ _ D1.out) (fun W hSW => by go_simp) ?_
       try simp only [pu, l0, l1, l2]
       refine rd1 27 ⟨none, .store 25 (.tmp 77) (.tmp 75), _, _, _, none⟩ (by kernel_rfl) rfl fun K' hK' => ?_
       have hc27 := block_cell D1.out.hd3 (o * 11 + k) _ HCo.out
       have hf27 := free_block D1.out.hd3 (o * 11 + k)
       go_simp
       have D2 : Hid (Fr w (z0.setCell ⟨w.heap.size, o * 11 + k, none⟩ (.int .u64 (mx : Int))) (blkT a (actC x).toArray 87 :: WL (w.heap.size + 1) w.heap.size n (meetK S o j (k + 1)) A c all)) := iq (by have := D1.out.third.set (o * 11 + k) (.int .u64 (mx : Int)); rw [HNk.out] at this; exact this.rot3)
       refine hK'.out _ _ (HEk.out _ _ D2.out) (fun _ => ?_)
       clear hK' K' hc27 hf27
       refine wpAnyH_done (by kernel_rfl) ?_ _
       go_wp2_with fail
       go_roundw
       case measure => simp [intOf] <;> omega
       case rel => exact ⟨k + 1, by omega, by go_num, D2⟩
      ·have hc23 := block_cell D1.out.hd3 (j * 11 + k) _ HCj.out
       go_simp
       refine hK'.out _ _ (HEk.out _ _ D1.out) (fun _ => ?_)
       clear hK' K' hc23
       try simp only [Act.put, l0, l1, l2]
       refine rd1 14 ⟨some 65, .load 25 (.tmp 64), _, _, _, none⟩ (by kernel_rfl) rfl fun K' hK' => ?_
       have hc14 := block_cell D1.out.hd3 (o * 11 + k) _ HCo.out
       go_simp
       refine hK'.out _ _ (HEk.out _ _ D1.out) (fun _ => ?_)
       clear hK' K' hc14
       try simp only [Act.put, l0, l1, l2]
       refine tk 24 ⟨some 75, .call { callee := .builtin .max, args := #[.tmp 65, .tmp 74], argTypes := #[25, 25] }, _, _, _, none⟩ (.int .u64 (mx : Int)) rfl (by kernel_rfl) (fun _ _ _ => id) (HEk.out _ _ D1.out) (fun W hSW => by have hm1 := HMx.out.1; have hm2 := HMx.out.2; go_simp) ?_
       try simp only [pu, l0, l1, l2]
       refine tk 26 ⟨some 77, .indexAddr 27 (.tmp 76) (.tmp 56), _, _, _, none⟩ (.pointer (some ⟨w.heap.size, o * 11 + k, none⟩)) rfl (by kernel_rfl) (fun _ _ _ => id) (HEk.out _ _ D1.out) (fun W hSW => by go_simp) ?_
       try simp only [pu, l0, l1, l2]
       refine rd1 27 ⟨none, .store 25 (.tmp 77) (.tmp 75), _, _, _, none⟩ (by kernel_rfl) rfl fun K' hK' => ?_
       have hc27 := block_cell D1.out.hd3 (o * 11 + k) _ HCo.out
       have hf27 := free_block D1.out.hd3 (o * 11 + k)
       go_simp
       have D2 : Hid (Fr w (z0.setCell ⟨w.heap.size, o * 11 + k, none⟩ (.int .u64 (mx : Int))) (blkT a (actC x).toArray 87 :: WL (w.heap.size + 1) w.heap.size n (meetK S o j (k + 1)) A c all)) := iq (by have := D1.out.third.set (o * 11 + k) (.int .u64 (mx : Int)); rw [HNk.out] at this; exact this.rot3)
       refine hK'.out _ _ (HEk.out _ _ D2.out) (fun _ => ?_)
       clear hK' K' hc27 hf27
       refine wpAnyH_done (by kernel_rfl) ?_ _
       go_wp2_with fail
       go_roundw
       case measure => simp [intOf] <;> omega
       case rel => exact ⟨k + 1, by omega, by go_num, D2⟩
     ·obtain rfl : k = 11 := by omega
      have D9 : Hid (Fr w wr (WL (w.heap.size + 1) w.heap.size n (acted n (l.take (i + 1))).ks A c all)) := iq (by rw [HNx.out, stepA, if_pos (by rw [hmt])]; have := D0.out.pop; rw [meetK, HOe.out, HJe.out] at this; exact this)
      have HB9 : Hid (all.map MMsg.bare = (acted n (l.take (i + 1))).all.map MMsg.bare) := iq (by rw [HNx.out, stepA, if_pos (by rw [hmt])]; exact HBr.out)
      go_wp2_with fail
      go_roundw
      case measure => simp [intOf] <;> omega
      case rel => exact ⟨i + 1, by omega, by go_num, iq ⟨A, c, all, HB9.out, D9.out⟩⟩
   | false =>
    rw [hmt] at hme
    have hme2 := hme
    have hrow := HSk.out.row HOn.out
    obtain ⟨v, hv⟩ : ∃ v, v = S.ks.getD o [] := ⟨_, rfl⟩
    rw [<- hv] at hrow
    obtain ⟨hr1, hr2, hr3⟩ := hrow
    have hon := HOn.out
    have hov : v[o]? = some (v.getD o 0) := getD_some (by omega)
    have hpi : v.getD o 0 <= i := getD_le hr3 o
    obtain ⟨p, hp⟩ : ∃ p, p = v.getD o 0 := ⟨_, rfl⟩
    rw [<- hp] at hov hpi
    have hwo1 : IntKind.i64.wrap ((o : Int) + 1) = (o : Int) + 1 := by rw [IntKind.wrap_i64]; omega
    have hwp1 : IntKind.u64.wrap ((p : Int) + 1) = (p : Int) + 1 := by rw [IntKind.wrap_u64]; omega
    have hio : (0 : Int) <= (o : Int) := by omega
    have hio2 : (o : Int) < (n : Int) := by omega
    have hio3 : ((o : Int)).toNat = o := by omega
    have hio4 : (o : Int) < 11 := by omega
    have hmo : (mOf n S x).origin = (o : Int) + 1 /\ (((mOf n S x).number : Nat) : Int) = (p : Int) + 1 /\ (mOf n S x).deps = v /\ (mOf n S x).body = aBody x n /\ (mOf n S x).tag = noTag := by rw [mOf, <- HOe.out, <- hv, <- hp]; exact ⟨by simp, by simp, rfl, rfl, rfl⟩
    have hbw := aBody_wf x n
    have hmw : (mOf n S x).Wf := ⟨by rw [hmo.2.2.1]; exact hr2, by rw [hmo.2.2.2.1]; exact hbw, by rw [hmo.2.2.2.2]; rfl⟩
    obtain ⟨m, hm⟩ : ∃ m, m = mOf n S x := ⟨_, rfl⟩
    rw [<- hm] at hmo hmw
    have HMw := iq hmw
    have HMo := iq hmo
    have HMe := iq hm
    have HBm : Hid (∀ AA cc W, (Instr.build 52 #[(0, .int .i64 ((o : Int) + 1)), (1, .int .u64 ((p : Int) + 1)), (2, .agg (u64s v).toArray), (3, .agg (bodyC ((aBody x n).at AA cc)).toArray)]).run Tryz.prog W = .ok (.agg (msgC (m.at AA cc)).toArray) W) := iq fun AA cc W => by
     have e := build_msg (m.at AA cc) (MMsg.at_wf HMw.out AA cc) HMo.out.2.2.2.2 W
     rw [show (m.at AA cc).origin = (o : Int) + 1 from HMo.out.1, show (((m.at AA cc).number : Nat) : Int) = (p : Int) + 1 from HMo.out.2.1, show (m.at AA cc).deps = v from HMo.out.2.2.1, show (m.at AA cc).body = (aBody x n).at AA cc by rw [<- HMo.out.2.2.2.1]; rfl] at e
     exact e
    have HBd : Hid (∀ W os, Fr w W os -> Calls Tryz.prog 39 #[.agg (actC x).toArray, .int .i64 (n : Int)] W fun E w' => ∃ AA cc, E = .returned (.agg (bodyC ((aBody x n).at AA cc)).toArray) /\ Fr w w' (qT (m.at AA cc) :: os)) := iq fun W os H => (body_any x n W HXo.out (Nat.le_trans HQx.out (by decide)) H.ksW H.posW (HOc.out W H.bel)).mono fun E w' hE => by
     obtain ⟨AA, cc, rfl, hp, hb⟩ := hE
     have eb : (m.at AA cc).body.qs = (aBody x n).qs := by rw [<- HMo.out.2.2.2.1]; rfl
     exact ⟨AA, cc, rfl, H.add (o := qT (m.at AA cc)) hb (by show Prs w' AA (m.at AA cc).body.qs; rw [eb]; exact hp.1) (qT_ok _) fun k ⟨h1, og, h2⟩ => hp.2 k og (by rw [<- eb]; exact h1) h2⟩
    have HRo := iq hr1
    have HO11 : Hid (o < 11) := iq (by omega)
    have HPc := iq (ks_cell HSk.out.ks hr1 hov)
    have HKr := iq (fun k u hu => ksC_get HSk.out.ks hr1 k u hu)
    have HIv : Hid ((Tryz.prog.info? 27).map (·.size) = some (u64s v).length) := iq (info_vec hr2)
    have HVe := iq hv
    have HPe := iq hp
    clear hr1 hr2 hr3 hov hmo hbw hmw hm hv hp hme2
    go_wp2_with fail
    refine wp_region_any (by kernel_rfl) ?_
    change wpAny _ _ _ _ _ _ _ (World.drewN _ 1)
    refine held_gen (G := fun W' => wpAny _ _ _ _ _ _ _ W') (fun W' => Fr w W' (blkT wr.heap.size (actC x).toArray 87 :: WL (w.heap.size + 1) w.heap.size n S.ks A c all)) (H6.out.drewN 1) (fun y1 hw => ?_)
    have H7 := iq hw
    clear hw H6 hme HEv
    obtain ⟨a, ha⟩ : ∃ a, a = wr.heap.size := ⟨_, rfl⟩
    rw [<- ha] at H7 ⊢
    clear ha
    have HEv : Hid (∀ W os, Fr w W os -> W.heap[a]? = some (.cells (actC x).toArray 87 (0, 0)) -> W.heap[w.heap.size + 1]? = some (.cells #[.slice (some ⟨w.heap.size, 0, none⟩) n n, .slice A all.length c] 35 (0, 0)) -> W.heap[w.heap.size]? = some (.cells (ksC S.ks).toArray 27 (0, 0)) -> W.cell? ⟨w.heap.size + 1, 0, none⟩ = some (.slice (some ⟨w.heap.size, 0, none⟩) n n) /\ W.cell? ⟨w.heap.size, o * 11 + o, none⟩ = some (.int .u64 (p : Int)) /\ W.rangeAt w.heap.size (o * 11) (u64s v) /\ W.rangeAt a 0 (actC x)) := iq fun W os hf h1 h2 h3 => ⟨block_cell h2 0 _ rfl, block_cell h3 _ _ HPc.out, fun k u hu => block_cell h3 _ _ (HKr.out k u hu), range_of h1⟩
    refine wpAny_of_held (S := fun W => W.cell? ⟨w.heap.size + 1, 0, none⟩ = some (.slice (some ⟨w.heap.size, 0, none⟩) n n) /\ W.cell? ⟨w.heap.size, o * 11 + o, none⟩ = some (.int .u64 (p : Int)) /\ W.rangeAt w.heap.size (o * 11) (u64s v) /\ W.rangeAt a 0 (actC x)) _ _ _ _ ?_
    refine tk 0 ⟨some 78, .move (.tmp 8), _, _, _, none⟩ (.int .i64 (o : Int)) rfl (by kernel_rfl) (fun _ _ _ => id) (HEv.out _ _ H7.out H7.out.hd H7.out.hd2 H7.out.hd3) (fun W hSW => by go_simp) ?_
    try simp only [Act.put, l0, l1, l2]
    refine tk 1 ⟨some 79, .binOp .add 3 (.tmp 78) (.const (.int .i64 1)) 3, _, _, _, none⟩ (.int .i64 ((o : Int) + 1)) rfl (by kernel_rfl) (fun _ _ _ => id) (HEv.out _ _ H7.out H7.out.hd H7.out.hd2 H7.out.hd3) (fun W hSW => by have hv := hwo1; go_simp) ?_
    try simp only [pu, l0, l1, l2]
    refine tk 2 ⟨some 80, .move (.tmp 5), _, _, _, none⟩ (.pointer (some ⟨w.heap.size + 1, 0, none⟩)) rfl (by kernel_rfl) (fun _ _ _ => id) (HEv.out _ _ H7.out H7.out.hd H7.out.hd2 H7.out.hd3) (fun W hSW => by go_simp) ?_
    try simp only [pu, l0, l1, l2]
    refine tk 3 ⟨some 81, .nilCheck (.tmp 80), _, _, _, none⟩ (.pointer (some ⟨w.heap.size + 1, 0, none⟩)) rfl (by kernel_rfl) (fun _ _ _ => id) (HEv.out _ _ H7.out H7.out.hd H7.out.hd2 H7.out.hd3) (fun W hSW => by go_simp) ?_
    try simp only [pu, l0, l1, l2]
    refine tk 4 ⟨some 82, .fieldAddr 35 (.tmp 81) 0, _, _, _, none⟩ (.pointer (some ⟨w.heap.size + 1, 0, none⟩)) rfl (by kernel_rfl) (fun _ _ _ => id) (HEv.out _ _ H7.out H7.out.hd H7.out.hd2 H7.out.hd3) (fun W hSW => by go_simp) ?_
    try simp only [pu, l0, l1, l2]
    refine tk 5 ⟨some 83, .load 33 (.tmp 82), _, _, _, none⟩ (.slice (some ⟨w.heap.size, 0, none⟩) n n) rfl (by kernel_rfl) (fun _ _ _ => id) (HEv.out _ _ H7.out H7.out.hd H7.out.hd2 H7.out.hd3) (fun W hSW => by have hv := hSW.1; go_simp) ?_
    try simp only [pu, l0, l1, l2]
    refine tk 6 ⟨some 84, .move (.tmp 8), _, _, _, none⟩ (.int .i64 (o : Int)) rfl (by kernel_rfl) (fun _ _ _ => id) (HEv.out _ _ H7.out H7.out.hd H7.out.hd2 H7.out.hd3) (fun W hSW => by go_simp) ?_
    try simp only [pu, l0, l1, l2]
    refine tk 7 ⟨some 85, .move (.tmp 8), _, _, _, none⟩ (.int .i64 (o : Int)) rfl (by kernel_rfl) (fun _ _ _ => id) (HEv.out _ _ H7.out H7.out.hd H7.out.hd2 H7.out.hd3) (fun W hSW => by go_simp) ?_
    try simp only [pu, l0, l1, l2]
    refine tk 8 ⟨some 86, .indexAddr 33 (.tmp 83) (.tmp 84), _, _, _, none⟩ (.pointer (some ⟨w.heap.size, o * 11, none⟩)) rfl (by kernel_rfl) (fun _ _ _ => id) (HEv.out _ _ H7.out H7.out.hd H7.out.hd2 H7.out.hd3) (fun W hSW => by go_simp) ?_
    try simp only [pu, l0, l1, l2]
    refine tk 9 ⟨some 87, .indexAddr 27 (.tmp 86) (.tmp 85), _, _, _, none⟩ (.pointer (some ⟨w.heap.size, o * 11 + o, none⟩)) rfl (by kernel_rfl) (fun _ _ _ => id) (HEv.out _ _ H7.out H7.out.hd H7.out.hd2 H7.out.hd3) (fun W hSW => by go_simp) ?_
    try simp only [pu, l0, l1, l2]
    refine tk 10 ⟨some 88, .load 25 (.tmp 87), _, _, _, none⟩ (.int .u64 (p : Int)) rfl (by kernel_rfl) (fun _ _ _ => id) (HEv.out _ _ H7.out H7.out.hd H7.out.hd2 H7.out.hd3) (fun W hSW => by have hv := hSW.2.1; go_simp) ?_
    try simp only [pu, l0, l1, l2]
    refine tk 11 ⟨some 89, .binOp .add 25 (.tmp 88) (.const (.int .u64 1)) 25, _, _, _, none⟩ (.int .u64 ((p : Int) + 1)) rfl (by kernel_rfl) (fun _ _ _ => id) (HEv.out _ _ H7.out H7.out.hd H7.out.hd2 H7.out.hd3) (fun W hSW => by have hv := hwp1; go_simp) ?_
    try simp only [pu, l0, l1, l2]
    refine tk 12 ⟨some 90, .move (.tmp 5), _, _, _, none⟩ (.pointer (some ⟨w.heap.size + 1, 0, none⟩)) rfl (by kernel_rfl) (fun _ _ _ => id) (HEv.out _ _ H7.out H7.out.hd H7.out.hd2 H7.out.hd3) (fun W hSW => by go_simp) ?_
    try simp only [pu, l0, l1, l2]
    refine tk 13 ⟨some 91, .nilCheck (.tmp 90), _, _, _, none⟩ (.pointer (some ⟨w.heap.size + 1, 0, none⟩)) rfl (by kernel_rfl) (fun _ _ _ => id) (HEv.out _ _ H7.out H7.out.hd H7.out.hd2 H7.out.hd3) (fun W hSW => by go_simp) ?_
    try simp only [pu, l0, l1, l2]
    refine tk 14 ⟨some 92, .fieldAddr 35 (.tmp 91) 0, _, _, _, none⟩ (.pointer (some ⟨w.heap.size + 1, 0, none⟩)) rfl (by kernel_rfl) (fun _ _ _ => id) (HEv.out _ _ H7.out H7.out.hd H7.out.hd2 H7.out.hd3) (fun W hSW => by go_simp) ?_
    try simp only [pu, l0, l1, l2]
    refine tk 15 ⟨some 93, .load 33 (.tmp 92), _, _, _, none⟩ (.slice (some ⟨w.heap.size, 0, none⟩) n n) rfl (by kernel_rfl) (fun _ _ _ => id) (HEv.out _ _ H7.out H7.out.hd H7.out.hd2 H7.out.hd3) (fun W hSW => by have hv := hSW.1; go_simp) ?_
    try simp only [pu, l0, l1, l2]
    refine tk 16 ⟨some 94, .move (.tmp 8), _, _, _, none⟩ (.int .i64 (o : Int)) rfl (by kernel_rfl) (fun _ _ _ => id) (HEv.out _ _ H7.out H7.out.hd H7.out.hd2 H7.out.hd3) (fun W hSW => by go_simp) ?_
    try simp only [pu, l0, l1, l2]
    refine tk 17 ⟨some 95, .indexAddr 33 (.tmp 93) (.tmp 94), _, _, _, none⟩ (.pointer (some ⟨w.heap.size, o * 11, none⟩)) rfl (by kernel_rfl) (fun _ _ _ => id) (HEv.out _ _ H7.out H7.out.hd H7.out.hd2 H7.out.hd3) (fun W hSW => by go_simp) ?_
    try simp only [pu, l0, l1, l2]
    refine tk 18 ⟨some 96, .load 27 (.tmp 95), _, _, _, none⟩ (.agg (u64s v).toArray) rfl (by kernel_rfl) (fun _ _ _ => id) (HEv.out _ _ H7.out H7.out.hd H7.out.hd2 H7.out.hd3) (fun W hSW => exec_load_mid 27 (.tmp 95) rfl w.heap.size (o * 11) rfl (u64s v) _ hSW.2.2.1 Tryz.underlying27 rfl HIv.out) ?_
    try simp only [pu, l0, l1, l2]
    refine tk 19 ⟨some 97, .load 87 (.tmp 7), _, _, _, none⟩ (.agg (actC x).toArray) rfl (by kernel_rfl) (fun _ _ _ => id) (HEv.out _ _ H7.out H7.out.hd H7.out.hd2 H7.out.hd3) (fun W hSW => exec_load_mid 87 (.tmp 7) rfl a 0 rfl (actC x) _ hSW.2.2.2 Tryz.underlying87 rfl HIa.out) ?_
    try simp only [pu, l0, l1, l2]
    refine tk 20 ⟨some 98, .move (.tmp 5), _, _, _, none⟩ (.pointer (some ⟨w.heap.size + 1, 0, none⟩)) rfl (by kernel_rfl) (fun _ _ _ => id) (HEv.out _ _ H7.out H7.out.hd H7.out.hd2 H7.out.hd3) (fun W hSW => by go_simp) ?_
    try simp only [pu, l0, l1, l2]
    refine tk 21 ⟨some 99, .nilCheck (.tmp 98), _, _, _, none⟩ (.pointer (some ⟨w.heap.size + 1, 0, none⟩)) rfl (by kernel_rfl) (fun _ _ _ => id) (HEv.out _ _ H7.out H7.out.hd H7.out.hd2 H7.out.hd3) (fun W hSW => by go_simp) ?_
    try simp only [pu, l0, l1, l2]
    refine tk 22 ⟨some 100, .fieldAddr 35 (.tmp 99) 0, _, _, _, none⟩ (.pointer (some ⟨w.heap.size + 1, 0, none⟩)) rfl (by kernel_rfl) (fun _ _ _ => id) (HEv.out _ _ H7.out H7.out.hd H7.out.hd2 H7.out.hd3) (fun W hSW => by go_simp) ?_
    try simp only [pu, l0, l1, l2]
    refine tk 23 ⟨some 101, .load 33 (.tmp 100), _, _, _, none⟩ (.slice (some ⟨w.heap.size, 0, none⟩) n n) rfl (by kernel_rfl) (fun _ _ _ => id) (HEv.out _ _ H7.out H7.out.hd H7.out.hd2 H7.out.hd3) (fun W hSW => by have hv := hSW.1; go_simp) ?_
    try simp only [pu, l0, l1, l2]
    refine tk 24 ⟨some 102, .call { callee := .builtin .len, args := #[.tmp 101], argTypes := #[33] }, _, _, _, none⟩ (.int .i64 (n : Int)) rfl (by kernel_rfl) (fun _ _ _ => id) (HEv.out _ _ H7.out H7.out.hd H7.out.hd2 H7.out.hd3) (fun W hSW => by go_simp) ?_
    try simp only [pu, l0, l1, l2]
    refine rdy [25, 27] (by kernel_rfl) ?_
    refine (AllReadyH.cons (o := ⟨some 103, .call { callee := .value (.func 39), args := #[.tmp 97, .tmp 102], argTypes := #[87, 3] }, _, _, _, none⟩) rfl (fun K' hK' => ?_) (AllReadyH.cons (o := ⟨some 11, .alloc 52, _, _, _, none⟩) rfl (fun K' hK' => ?_) AllReadyH.nil))
    focus
     go_simp
     go_at_call 39
     refine (HBd.out _ _ H7.out).mono ?_
     rintro E y2 ⟨AA, cc, rfl, hfb⟩
     have H7b := iq hfb
     clear hfb
     refine hK'.out _ _ (HEv.out _ _ H7b.out H7b.out.hd2 H7b.out.hd3 H7b.out.pop.hd3) (fun _ => ?_)
     clear hK' K'
     try simp only [Act.put, l0, l1, l2]
     refine tk 26 ⟨some 104, .build 52 #[(0, .tmp 79), (1, .tmp 89), (2, .tmp 96), (3, .tmp 103)], _, _, _, none⟩ (.agg (msgC (m.at AA cc)).toArray) rfl (by kernel_rfl) (fun _ _ _ => id) (HEv.out _ _ H7b.out H7b.out.hd2 H7b.out.hd3 H7b.out.pop.hd3) (fun W hSW => exec_build4 52 (.tmp 79) (.tmp 89) (.tmp 96) (.tmp 103) rfl _ _ _ _ _ rfl rfl rfl rfl (HBm.out AA cc W)) ?_
     try simp only [pu, l0, l1, l2]
     refine rd1 27 ⟨some 11, .alloc 52, _, _, _, none⟩ (by kernel_rfl) rfl fun K' hK' => ?_
     have H7bz := iq (H7b.out.box (msgC zeroMsg).toArray 52)
     have hzm := zero_msg
     go_simp
     refine hK'.out _ _ (HEv.out _ _ H7bz.out H7bz.out.hd3 H7bz.out.pop.hd3 H7bz.out.pop.pop.hd3) (fun _ => ?_)
     clear hK' K' hzm
     try simp only [Act.put, l0, l1, l2]
     refine rd1 28 ⟨none, .store 52 (.tmp 11) (.tmp 104), _, _, _, none⟩ (by kernel_rfl) rfl fun K' hK' => ?_
     have Hs := iq (H7bz.out)
     have Hm := iq (Fr.setAll Hs.out 0 (msgC (m.at AA cc)))
     have e1 := msgC_length zeroMsg_wf
     have e2 := msgC_length (MMsg.at_wf HMw.out AA cc)
     rw [setAll_all (by rw [e1, e2])] at Hm
     refine step_store_cells rfl 52 (.tmp 11) (.tmp 104) rfl y2.heap.size 0 (msgC (m.at AA cc)) rfl rfl (there_block Hs.out.hd 0 _ (by omega)) (info_msg (MMsg.at_wf HMw.out AA cc)) (one_msgC _) ?_
     refine hK'.out _ _ (HEv.out _ _ Hm.out Hm.out.hd3 Hm.out.pop.hd3 Hm.out.pop.pop.hd3) (fun _ => ?_)
     clear hK' K' e1 e2 Hs H7bz
     obtain ⟨z, hzz⟩ : ∃ z, z = y2.heap.size := ⟨_, rfl⟩
     rw [<- hzz] at Hm ⊢
     clear hzz
    rotate_left
    focus
     have H7z := iq (H7.out.box (msgC zeroMsg).toArray 52)
     have hzm := zero_msg
     go_simp
     refine hK'.out _ _ (HEv.out _ _ H7z.out H7z.out.hd2 H7z.out.hd3 H7z.out.pop.hd3) (fun _ => ?_)
     clear hK' K' hzm
     try simp only [Act.put, l0, l1, l2]
     refine rd1 25 ⟨some 103, .call { callee := .value (.func 39), args := #[.tmp 97, .tmp 102], argTypes := #[87, 3] }, _, _, _, none⟩ (by kernel_rfl) rfl fun K' hK' => ?_
     go_simp
     go_at_call 39
     refine (HBd.out _ _ H7z.out).mono ?_
     rintro E y2 ⟨AA, cc, rfl, hfb⟩
     have H7zb := iq hfb
     clear hfb
     refine hK'.out _ _ (HEv.out _ _ H7zb.out H7zb.out.hd3 H7zb.out.pop.hd3 H7zb.out.pop.pop.hd3) (fun _ => ?_)
     clear hK' K'
     try simp only [Act.put, l0, l1, l2]
     refine tk 26 ⟨some 104, .build 52 #[(0, .tmp 79), (1, .tmp 89), (2, .tmp 96), (3, .tmp 103)], _, _, _, none⟩ (.agg (msgC (m.at AA cc)).toArray) rfl (by kernel_rfl) (fun _ _ _ => id) (HEv.out _ _ H7zb.out H7zb.out.hd3 H7zb.out.pop.hd3 H7zb.out.pop.pop.hd3) (fun W hSW => exec_build4 52 (.tmp 79) (.tmp 89) (.tmp 96) (.tmp 103) rfl _ _ _ _ _ rfl rfl rfl rfl (HBm.out AA cc W)) ?_
     try simp only [pu, l0, l1, l2]
     refine rd1 28 ⟨none, .store 52 (.tmp 11) (.tmp 104), _, _, _, none⟩ (by kernel_rfl) rfl fun K' hK' => ?_
     have Hs := iq (H7zb.out.swap)
     have Hm := iq (Fr.setAll Hs.out 0 (msgC (m.at AA cc)))
     have e1 := msgC_length zeroMsg_wf
     have e2 := msgC_length (MMsg.at_wf HMw.out AA cc)
     rw [setAll_all (by rw [e1, e2])] at Hm
     refine step_store_cells rfl 52 (.tmp 11) (.tmp 104) rfl y1.heap.size 0 (msgC (m.at AA cc)) rfl rfl (there_block Hs.out.hd 0 _ (by omega)) (info_msg (MMsg.at_wf HMw.out AA cc)) (one_msgC _) ?_
     refine hK'.out _ _ (HEv.out _ _ Hm.out Hm.out.hd3 Hm.out.pop.hd3 Hm.out.pop.pop.hd3) (fun _ => ?_)
     clear hK' K' e1 e2 Hs H7zb
     obtain ⟨z, hzz⟩ : ∃ z, z = y1.heap.size := ⟨_, rfl⟩
     rw [<- hzz] at Hm ⊢
     clear hzz
    rotate_left
    all_goals
     refine wpAnyH_done (by kernel_rfl) ?_ _
     have HIm := iq (info_msg (MMsg.at_wf HMw.out AA cc))
     have HQn : Hid ((m.at AA cc).body.qs.length <= 140737488355328) := iq (by rw [show (m.at AA cc).body.qs = (aBody x n).qs by rw [<- HMo.out.2.2.2.1]; rfl]; exact Nat.le_trans (aBody_few x n HQx.out) (by decide))
     by_cases hmay : (m.at AA cc).may
     ·have HMay : Hid (∀ W os, Fr w W (blkT z (msgC (m.at AA cc)).toArray 52 :: qT (m.at AA cc) :: os) -> Calls Tryz.prog 40 #[.agg (msgC (m.at AA cc)).toArray] W fun E w' => E = .returned (.bool true) /\ Below W.heap.size W w') := iq fun W os H => (may_rf (m.at AA cc) W (MMsg.at_wf HMw.out AA cc) H.hd2 HQn.out).mono fun E w' h => ⟨by rw [h.1]; simp [hmay], h.2.out⟩
      go_wp2_with (first | ((with_reducible refine wpList_load_midG ?_ 52 (.tmp 11) ?_ z 0 ?_ (msgC (m.at AA cc)) _ ?_ Tryz.underlying52 ?_ ?_ ?_); rotate_left; rfl; rfl; exact range_of Hm.out.hd; rfl; exact HIm.out; rotate_left; rfl) | (go_at_call 40; refine (HMay.out _ _ Hm.out).mono ?_; rintro E y3 ⟨rfl, hb3⟩; have H8 := iq (Hm.out.below hb3)))
      refine wp_region_any (by kernel_rfl) ?_
      change wpAny _ _ _ _ _ _ _ (World.drewN _ 1)
      refine held_gen (G := fun W' => wpAny _ _ _ _ _ _ _ W') (fun W' => Fr w W' [blkT z (msgC (m.at AA cc)).toArray 52, qT (m.at AA cc), blkT (w.heap.size + 1) #[.slice (some ⟨w.heap.size, 0, none⟩) n n, .slice A all.length c] 35, blkT w.heap.size (ksC S.ks).toArray 27, mrT A c all, qsT all]) ((H8.out.sub (((List.sublist_cons_self _ _).cons_cons _).cons_cons _)).drewN 1) (fun y4 hw => ?_)
      have J1 := iq hw
      clear hw H8 Hm
      refine wpAny_of_held (S := fun W => W.rangeAt z 0 (msgC (m.at AA cc))) _ _ _ _ ?_
      refine tk 0 ⟨some 107, .move (.tmp 5), _, _, _, none⟩ (.pointer (some ⟨w.heap.size + 1, 0, none⟩)) rfl (by kernel_rfl) (fun _ _ _ => id) (range_of J1.out.hd) (fun W hSW => by go_simp) ?_
      try simp only [Act.put, l0, l1, l2]
      refine tk 1 ⟨some 108, .move (.tmp 5), _, _, _, none⟩ (.pointer (some ⟨w.heap.size + 1, 0, none⟩)) rfl (by kernel_rfl) (fun _ _ _ => id) (range_of J1.out.hd) (fun W hSW => by go_simp) ?_
      try simp only [pu, l0, l1, l2]
      refine tk 2 ⟨some 109, .nilCheck (.tmp 108), _, _, _, none⟩ (.pointer (some ⟨w.heap.size + 1, 0, none⟩)) rfl (by kernel_rfl) (fun _ _ _ => id) (range_of J1.out.hd) (fun W hSW => by go_simp) ?_
      try simp only [pu, l0, l1, l2]
      refine tk 3 ⟨some 110, .fieldAddr 35 (.tmp 109) 1, _, _, _, none⟩ (.pointer (some ⟨w.heap.size + 1, 1, none⟩)) rfl (by kernel_rfl) (fun _ _ _ => id) (range_of J1.out.hd) (fun W hSW => by go_simp) ?_
      try simp only [pu, l0, l1, l2]
      refine tk 5 ⟨some 112, .load 52 (.tmp 11), _, _, _, none⟩ (.agg (msgC (m.at AA cc)).toArray) rfl (by kernel_rfl) (fun _ _ _ => id) (range_of J1.out.hd) (fun W hSW => exec_load_mid 52 (.tmp 11) rfl z 0 rfl (msgC (m.at AA cc)) _ hSW Tryz.underlying52 rfl HIm.out) ?_
      try simp only [pu, l0, l1, l2]
      refine rdy [4, 6] (by kernel_rfl) ?_
      refine (AllReadyH.cons (o := ⟨some 111, .load 24 (.tmp 110), _, _, _, none⟩) rfl (fun K' hK' => ?_) (AllReadyH.cons (o := ⟨some 113, .call { callee := .value (.func 28), args := #[.tmp 112], argTypes := #[52] }, _, _, _, none⟩) rfl (fun K' hK' => ?_) AllReadyH.nil))
      focus
       have hc4 := block_cell J1.out.hd3 1 _ rfl
       go_simp
       refine hK'.out _ _ (range_of J1.out.hd) (fun _ => ?_)
       clear hK' K' hc4
       try simp only [Act.put, l0, l1, l2]
       refine rd1 6 ⟨some 113, .call { callee := .value (.func 28), args := #[.tmp 112], argTypes := #[52] }, _, _, _, none⟩ (by kernel_rfl) rfl fun K' hK' => ?_
       go_simp
       go_at_call 28
       refine (tagged_any (m.at AA cc) _ (MMsg.at_wf HMw.out AA cc) J1.out.hd2 HQn.out J1.out.ksW J1.out.posW).mono ?_
       rintro E y5 ⟨rfl, hb5⟩
       have J1t := iq (J1.out.below hb5.out)
       clear hb5
       refine hK'.out _ _ (range_of J1t.out.hd) (fun _ => ?_)
       clear hK' K'
       try simp only [Act.put, l0, l1, l2]
       refine rd1 7 ⟨some 114, .buildSlice 24 1 #[(0, .tmp 113)], _, _, _, none⟩ (by kernel_rfl) rfl fun K' hK' => ?_
       refine step_buildSl rfl 24 52 (.tmp 113) rfl (msgC (tagM (m.at AA cc))) rfl (buildSl_msg _ (tagM_wf (MMsg.at_wf HMw.out AA cc)) _) ?_
       have J1tx := iq (J1t.out.box (msgC (tagM (m.at AA cc))).toArray 52)
       refine hK'.out _ _ (range_of J1tx.out.hd2) (fun _ => ?_)
       clear hK' K'
       try simp only [Act.put, l0, l1, l2]
       refine rd1 8 ⟨some 115, .call { callee := .builtin .append, args := #[.tmp 111, .tmp 114], argTypes := #[24, 24] }, _, _, _, none⟩ (by kernel_rfl) rfl fun K' hK' => ?_
       obtain ⟨A2, c2, y6, hr6, hf6, _⟩ := mr_append (Fr.front [_, _, _, _, _] [_] J1tx.out) 24 _ (tagM (m.at AA cc)) (tagM_wf (MMsg.at_wf HMw.out AA cc)) (range_of J1tx.out.hd) HAl.out
       refine step_append_one rfl (.tmp 111) (.tmp 114) 24 rfl _ _ rfl rfl _ _ hr6 ?_
       have J4 := iq hf6
       clear hr6 hf6
       refine hK'.out _ _ (range_of J4.out.hd3) (fun _ => ?_)
       clear hK' K'
       try simp only [Act.put, l0, l1, l2]
       refine tk 9 ⟨some 116, .nilCheck (.tmp 107), _, _, _, none⟩ (.pointer (some ⟨w.heap.size + 1, 0, none⟩)) rfl (by kernel_rfl) (fun _ _ _ => id) (range_of J4.out.hd3) (fun W hSW => by go_simp) ?_
       try simp only [pu, l0, l1, l2]
       refine tk 10 ⟨some 117, .fieldAddr 35 (.tmp 116) 1, _, _, _, none⟩ (.pointer (some ⟨w.heap.size + 1, 1, none⟩)) rfl (by kernel_rfl) (fun _ _ _ => id) (range_of J4.out.hd3) (fun W hSW => by go_simp) ?_
       try simp only [pu, l0, l1, l2]
       refine rd1 11 ⟨none, .store 24 (.tmp 117) (.tmp 115), _, _, _, none⟩ (by kernel_rfl) rfl fun K' hK' => ?_
       have hc11 := block_cell J4.out.pop.pop.hd3 1 _ rfl
       have hf11 := free_block J4.out.pop.pop.hd3 1
       go_simp
       have J5 := iq ((Fr.front [_, _, _, _] [_, _] J4.out).set (C := [.slice (some ⟨w.heap.size, 0, none⟩) n n, .slice A all.length c]) 1 (.slice A2 (all.length + 1) c2))
       refine hK'.out _ _ (range_of J5.out.pop.hd3) (fun _ => ?_)
       clear hK' K' hc11 hf11
      rotate_left
      focus
       go_simp
       go_at_call 28
       refine (tagged_any (m.at AA cc) _ (MMsg.at_wf HMw.out AA cc) J1.out.hd2 HQn.out J1.out.ksW J1.out.posW).mono ?_
       rintro E y5 ⟨rfl, hb5⟩
       have J1t := iq (J1.out.below hb5.out)
       clear hb5
       refine hK'.out _ _ (range_of J1t.out.hd) (fun _ => ?_)
       clear hK' K'
       try simp only [Act.put, l0, l1, l2]
       refine rdy [4, 7] (by kernel_rfl) ?_
       refine (AllReadyH.cons (o := ⟨some 111, .load 24 (.tmp 110), _, _, _, none⟩) rfl (fun K' hK' => ?_) (AllReadyH.cons (o := ⟨some 114, .buildSlice 24 1 #[(0, .tmp 113)], _, _, _, none⟩) rfl (fun K' hK' => ?_) AllReadyH.nil))
       focus
        have hc4 := block_cell J1t.out.hd3 1 _ rfl
        go_simp
        refine hK'.out _ _ (range_of J1t.out.hd) (fun _ => ?_)
        clear hK' K' hc4
        try simp only [Act.put, l0, l1, l2]
        refine rd1 7 ⟨some 114, .buildSlice 24 1 #[(0, .tmp 113)], _, _, _, none⟩ (by kernel_rfl) rfl fun K' hK' => ?_
        refine step_buildSl rfl 24 52 (.tmp 113) rfl (msgC (tagM (m.at AA cc))) rfl (buildSl_msg _ (tagM_wf (MMsg.at_wf HMw.out AA cc)) _) ?_
        have J1tx := iq (J1t.out.box (msgC (tagM (m.at AA cc))).toArray 52)
        refine hK'.out _ _ (range_of J1tx.out.hd2) (fun _ => ?_)
        clear hK' K'
        try simp only [Act.put, l0, l1, l2]
        refine rd1 8 ⟨some 115, .call { callee := .builtin .append, args := #[.tmp 111, .tmp 114], argTypes := #[24, 24] }, _, _, _, none⟩ (by kernel_rfl) rfl fun K' hK' => ?_
        obtain ⟨A2, c2, y6, hr6, hf6, _⟩ := mr_append (Fr.front [_, _, _, _, _] [_] J1tx.out) 24 _ (tagM (m.at AA cc)) (tagM_wf (MMsg.at_wf HMw.out AA cc)) (range_of J1tx.out.hd) HAl.out
        refine step_append_one rfl (.tmp 111) (.tmp 114) 24 rfl _ _ rfl rfl _ _ hr6 ?_
        have J4 := iq hf6
        clear hr6 hf6
        refine hK'.out _ _ (range_of J4.out.hd3) (fun _ => ?_)
        clear hK' K'
        try simp only [Act.put, l0, l1, l2]
        refine tk 9 ⟨some 116, .nilCheck (.tmp 107), _, _, _, none⟩ (.pointer (some ⟨w.heap.size + 1, 0, none⟩)) rfl (by kernel_rfl) (fun _ _ _ => id) (range_of J4.out.hd3) (fun W hSW => by go_simp) ?_
        try simp only [pu, l0, l1, l2]
        refine tk 10 ⟨some 117, .fieldAddr 35 (.tmp 116) 1, _, _, _, none⟩ (.pointer (some ⟨w.heap.size + 1, 1, none⟩)) rfl (by kernel_rfl) (fun _ _ _ => id) (range_of J4.out.hd3) (fun W hSW => by go_simp) ?_
        try simp only [pu, l0, l1, l2]
        refine rd1 11 ⟨none, .store 24 (.tmp 117) (.tmp 115), _, _, _, none⟩ (by kernel_rfl) rfl fun K' hK' => ?_
        have hc11 := block_cell J4.out.pop.pop.hd3 1 _ rfl
        have hf11 := free_block J4.out.pop.pop.hd3 1
        go_simp
        have J5 := iq ((Fr.front [_, _, _, _] [_, _] J4.out).set (C := [.slice (some ⟨w.heap.size, 0, none⟩) n n, .slice A all.length c]) 1 (.slice A2 (all.length + 1) c2))
        refine hK'.out _ _ (range_of J5.out.pop.hd3) (fun _ => ?_)
        clear hK' K' hc11 hf11
       rotate_left
       focus
        refine step_buildSl rfl 24 52 (.tmp 113) rfl (msgC (tagM (m.at AA cc))) rfl (buildSl_msg _ (tagM_wf (MMsg.at_wf HMw.out AA cc)) _) ?_
        have J1tx := iq (J1t.out.box (msgC (tagM (m.at AA cc))).toArray 52)
        refine hK'.out _ _ (range_of J1tx.out.hd2) (fun _ => ?_)
        clear hK' K'
        try simp only [Act.put, l0, l1, l2]
        refine rd1 4 ⟨some 111, .load 24 (.tmp 110), _, _, _, none⟩ (by kernel_rfl) rfl fun K' hK' => ?_
        have hc4 := block_cell J1tx.out.pop.hd3 1 _ rfl
        go_simp
        refine hK'.out _ _ (range_of J1tx.out.hd2) (fun _ => ?_)
        clear hK' K' hc4
        try simp only [Act.put, l0, l1, l2]
        refine rd1 8 ⟨some 115, .call { callee := .builtin .append, args := #[.tmp 111, .tmp 114], argTypes := #[24, 24] }, _, _, _, none⟩ (by kernel_rfl) rfl fun K' hK' => ?_
        obtain ⟨A2, c2, y6, hr6, hf6, _⟩ := mr_append (Fr.front [_, _, _, _, _] [_] J1tx.out) 24 _ (tagM (m.at AA cc)) (tagM_wf (MMsg.at_wf HMw.out AA cc)) (range_of J1tx.out.hd) HAl.out
        refine step_append_one rfl (.tmp 111) (.tmp 114) 24 rfl _ _ rfl rfl _ _ hr6 ?_
        have J4 := iq hf6
        clear hr6 hf6
        refine hK'.out _ _ (range_of J4.out.hd3) (fun _ => ?_)
        clear hK' K'
        try simp only [Act.put, l0, l1, l2]
        refine tk 9 ⟨some 116, .nilCheck (.tmp 107), _, _, _, none⟩ (.pointer (some ⟨w.heap.size + 1, 0, none⟩)) rfl (by kernel_rfl) (fun _ _ _ => id) (range_of J4.out.hd3) (fun W hSW => by go_simp) ?_
        try simp only [pu, l0, l1, l2]
        refine tk 10 ⟨some 117, .fieldAddr 35 (.tmp 116) 1, _, _, _, none⟩ (.pointer (some ⟨w.heap.size + 1, 1, none⟩)) rfl (by kernel_rfl) (fun _ _ _ => id) (range_of J4.out.hd3) (fun W hSW => by go_simp) ?_
        try simp only [pu, l0, l1, l2]
        refine rd1 11 ⟨none, .store 24 (.tmp 117) (.tmp 115), _, _, _, none⟩ (by kernel_rfl) rfl fun K' hK' => ?_
        have hc11 := block_cell J4.out.pop.pop.hd3 1 _ rfl
        have hf11 := free_block J4.out.pop.pop.hd3 1
        go_simp
        have J5 := iq ((Fr.front [_, _, _, _] [_, _] J4.out).set (C := [.slice (some ⟨w.heap.size, 0, none⟩) n n, .slice A all.length c]) 1 (.slice A2 (all.length + 1) c2))
        refine hK'.out _ _ (range_of J5.out.pop.hd3) (fun _ => ?_)
        clear hK' K' hc11 hf11
       rotate_left
      rotate_left 2
      all_goals
       refine wpAnyH_done (by kernel_rfl) ?_ _
       have J6 := iq (said_frame J5.out (tag_bare m AA cc ((at_may m AA cc).1 hmay)).2)
       clear J5
       go_wp2_with fail
       refine wp_region_any (by kernel_rfl) ?_
       change wpAny _ _ _ _ _ _ _ (World.drewN _ 1)
       refine held_gen (G := fun W' => wpAny _ _ _ _ _ _ _ W') (fun W' => Fr w W' [blkT (w.heap.size + 1) #[.slice (some ⟨w.heap.size, 0, none⟩) n n, .slice A2 (all.length + 1) c2] 35, blkT w.heap.size (ksC S.ks).toArray 27, mrT A2 c2 (all ++ [tagM (m.at AA cc)]), qsT (all ++ [tagM (m.at AA cc)])]) (J6.out.drewN 1) (fun y8 hw => ?_)
       have J7 := iq hw
       clear hw J6
       refine wpAny_of_held (S := fun W => W.cell? ⟨w.heap.size + 1, 0, none⟩ = some (.slice (some ⟨w.heap.size, 0, none⟩) n n)) _ _ _ _ ?_
       refine tk 0 ⟨some 118, .move (.tmp 5), _, _, _, none⟩ (.pointer (some ⟨w.heap.size + 1, 0, none⟩)) rfl (by kernel_rfl) (fun _ _ _ => id) (block_cell J7.out.hd 0 _ rfl) (fun W hSW => by go_simp) ?_
       try simp only [Act.put, l0, l1, l2]
       refine tk 1 ⟨some 119, .nilCheck (.tmp 118), _, _, _, none⟩ (.pointer (some ⟨w.heap.size + 1, 0, none⟩)) rfl (by kernel_rfl) (fun _ _ _ => id) (block_cell J7.out.hd 0 _ rfl) (fun W hSW => by go_simp) ?_
       try simp only [pu, l0, l1, l2]
       refine tk 2 ⟨some 120, .fieldAddr 35 (.tmp 119) 0, _, _, _, none⟩ (.pointer (some ⟨w.heap.size + 1, 0, none⟩)) rfl (by kernel_rfl) (fun _ _ _ => id) (block_cell J7.out.hd 0 _ rfl) (fun W hSW => by go_simp) ?_
       try simp only [pu, l0, l1, l2]
       refine tk 3 ⟨some 121, .load 33 (.tmp 120), _, _, _, none⟩ (.slice (some ⟨w.heap.size, 0, none⟩) n n) rfl (by kernel_rfl) (fun _ _ _ => id) (block_cell J7.out.hd 0 _ rfl) (fun W hSW => by have hv := hSW; go_simp) ?_
       try simp only [pu, l0, l1, l2]
       refine tk 4 ⟨some 122, .move (.tmp 8), _, _, _, none⟩ (.int .i64 (o : Int)) rfl (by kernel_rfl) (fun _ _ _ => id) (block_cell J7.out.hd 0 _ rfl) (fun W hSW => by go_simp) ?_
       try simp only [pu, l0, l1, l2]
       refine tk 5 ⟨some 123, .move (.tmp 8), _, _, _, none⟩ (.int .i64 (o : Int)) rfl (by kernel_rfl) (fun _ _ _ => id) (block_cell J7.out.hd 0 _ rfl) (fun W hSW => by go_simp) ?_
       try simp only [pu, l0, l1, l2]
       refine tk 6 ⟨some 124, .indexAddr 33 (.tmp 121) (.tmp 122), _, _, _, none⟩ (.pointer (some ⟨w.heap.size, o * 11, none⟩)) rfl (by kernel_rfl) (fun _ _ _ => id) (block_cell J7.out.hd 0 _ rfl) (fun W hSW => by go_simp) ?_
       try simp only [pu, l0, l1, l2]
       refine tk 7 ⟨some 125, .indexAddr 27 (.tmp 124) (.tmp 123), _, _, _, none⟩ (.pointer (some ⟨w.heap.size, o * 11 + o, none⟩)) rfl (by kernel_rfl) (fun _ _ _ => id) (block_cell J7.out.hd 0 _ rfl) (fun W hSW => by go_simp) ?_
       try simp only [pu, l0, l1, l2]
       refine tk 10 ⟨some 128, .indexAddr 33 (.tmp 121) (.tmp 122), _, _, _, none⟩ (.pointer (some ⟨w.heap.size, o * 11, none⟩)) rfl (by kernel_rfl) (fun _ _ _ => id) (block_cell J7.out.hd 0 _ rfl) (fun W hSW => by go_simp) ?_
       try simp only [pu, l0, l1, l2]
       refine rd1 8 ⟨some 126, .load 25 (.tmp 125), _, _, _, none⟩ (by kernel_rfl) rfl fun K' hK' => ?_
       have hc8 := block_cell J7.out.hd2 (o * 11 + o) _ HPc.out
       go_simp
       refine hK'.out _ _ (block_cell J7.out.hd 0 _ rfl) (fun _ => ?_)
       clear hK' K' hc8
       try simp only [Act.put, l0, l1, l2]
       refine tk 9 ⟨some 127, .binOp .add 25 (.tmp 126) (.const (.int .u64 1)) 25, _, _, _, none⟩ (.int .u64 ((p : Int) + 1)) rfl (by kernel_rfl) (fun _ _ _ => id) (block_cell J7.out.hd 0 _ rfl) (fun W hSW => by have hv := hwp1; go_simp) ?_
       try simp only [pu, l0, l1, l2]
       refine tk 11 ⟨some 129, .indexAddr 27 (.tmp 128) (.tmp 123), _, _, _, none⟩ (.pointer (some ⟨w.heap.size, o * 11 + o, none⟩)) rfl (by kernel_rfl) (fun _ _ _ => id) (block_cell J7.out.hd 0 _ rfl) (fun W hSW => by go_simp) ?_
       try simp only [pu, l0, l1, l2]
       refine rd1 12 ⟨none, .store 25 (.tmp 129) (.tmp 127), _, _, _, none⟩ (by kernel_rfl) rfl fun K' hK' => ?_
       have hc12 := block_cell J7.out.hd2 (o * 11 + o) _ HPc.out
       have hf12 := free_block J7.out.hd2 (o * 11 + o)
       go_simp
       have J8 := iq (J7.out.swap.set (o * 11 + o) (.int .u64 ((p : Int) + 1))).swap
       refine hK'.out _ _ (block_cell J8.out.hd 0 _ rfl) (fun _ => ?_)
       clear hK' K' hc12 hf12
       refine wpAnyH_done (by kernel_rfl) ?_ _
       go_wp2_with fail
       have hst : acted n (l.take (i + 1)) = ⟨S.ks.set o (v.set o (p + 1)), S.all ++ [tagM m]⟩ := by rw [HNx.out, stepA, if_neg (by rw [hmt]; decide), if_pos (by rw [<- HMe.out]; exact (at_may m AA cc).1 hmay), <- HMe.out, <- HOe.out, <- HVe.out, <- HPe.out]
       have D9 : Hid (Fr w _ (WL (w.heap.size + 1) w.heap.size n (acted n (l.take (i + 1))).ks A2 c2 (all ++ [tagM (m.at AA cc)]))) := iq (by rw [hst]; have := J8.out; rw [show ((p : Int) + 1) = ((p + 1 : Nat) : Int) by simp, ksC_set HSk.out.ks HRo.out o (p + 1) HO11.out] at this; rw [WL, List.length_append]; exact this)
       have HB9 : Hid ((all ++ [tagM (m.at AA cc)]).map MMsg.bare = (acted n (l.take (i + 1))).all.map MMsg.bare) := iq (by rw [hst, List.map_append, List.map_append, HBr.out]; show _ ++ [(tagM (m.at AA cc)).bare] = _ ++ [(tagM m).bare]; rw [(tag_bare m AA cc ((at_may m AA cc).1 hmay)).1])
       have hii := HIi.out
       go_roundw
       case measure => simp [intOf] <;> omega
       case rel => exact ⟨i + 1, by omega, by go_num, iq ⟨A2, c2, all ++ [tagM (m.at AA cc)], HB9.out, D9.out⟩⟩
     ·have HMay : Hid (∀ W os, Fr w W (blkT z (msgC (m.at AA cc)).toArray 52 :: qT (m.at AA cc) :: os) -> Calls Tryz.prog 40 #[.agg (msgC (m.at AA cc)).toArray] W fun E w' => E = .returned (.bool false) /\ Below W.heap.size W w') := iq fun W os H => (may_rf (m.at AA cc) W (MMsg.at_wf HMw.out AA cc) H.hd2 HQn.out).mono fun E w' h => ⟨by rw [h.1]; simp [hmay], h.2.out⟩
      go_wp2_with (first | ((with_reducible refine wpList_load_midG ?_ 52 (.tmp 11) ?_ z 0 ?_ (msgC (m.at AA cc)) _ ?_ Tryz.underlying52 ?_ ?_ ?_); rotate_left; rfl; rfl; exact range_of Hm.out.hd; rfl; exact HIm.out; rotate_left; rfl) | (go_at_call 40; refine (HMay.out _ _ Hm.out).mono ?_; rintro E y3 ⟨rfl, hb3⟩; have H8 := iq (Hm.out.below hb3)))
      have D9 : Hid (Fr w y3 (WL (w.heap.size + 1) w.heap.size n (acted n (l.take (i + 1))).ks A c all)) := iq (by rw [HNx.out, stepA, if_neg (by rw [hmt]; decide), if_neg (by rw [<- HMe.out]; exact fun h => hmay ((at_may m AA cc).2 h))]; exact H8.out.pop.pop.pop)
      have HB9 : Hid (all.map MMsg.bare = (acted n (l.take (i + 1))).all.map MMsg.bare) := iq (by rw [HNx.out, stepA, if_neg (by rw [hmt]; decide), if_neg (by rw [<- HMe.out]; exact fun h => hmay ((at_may m AA cc).2 h))]; exact HBr.out)
      have hii := HIi.out
      go_roundw
      case measure => simp [intOf] <;> omega
      case rel => exact ⟨i + 1, by omega, by go_num, iq ⟨A, c, all, HB9.out, D9.out⟩⟩
  ·obtain rfl : i = N := by omega
   have hall : l.take i = l := by rw [HN.out, List.take_length]
   rw [hall] at HBr H4
   go_wp2_with fail
   go_ret
   exact ⟨_, _, A, c, all, rfl, HBr.out, H4.out⟩
end Go.Proofs.YtllbbcifcbkgeaaGreatDoor.Sh
