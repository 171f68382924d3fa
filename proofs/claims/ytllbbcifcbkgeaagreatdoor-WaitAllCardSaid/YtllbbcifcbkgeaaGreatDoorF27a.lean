/- Laws and walks. -/
import Derived.Test.YtllbbcifcbkgeaaGreatDoorF25a
set_option maxHeartbeats 16000000
set_option maxRecDepth 100000
namespace Go.Proofs.YtllbbcifcbkgeaaGreatDoor.Sh
open Go.RowKit
theorem aQs_take (x : MAct) (n i : Nat) (hi : i + 1 < (aQs x n).length) : (aQs x n).take (i + 2) = (aQs x n).take (i + 1) ++ [(((i + 2 : Nat) : Int), 1 + (x.q.getD (i + 1) 0).toNat % 8)] := by
 rw [List.take_add_one, aQs_get x n i hi]; rfl
theorem body_4 (x : MAct) (n : Nat) (w : World) (hx : x.Ok) (hql : x.q.length <= 1000) (hk : KIs w) (h0 : 0 < w.heap.size) (hoc : Oc w x.qa x.q) (hkk : x.kind % 6 = 3) : Calls Tryz.prog 39 #[.agg (actC x).toArray, .int .i64 (n : Int)] w fun E w' => BodyP w (aBody x n) E w' := by
 have hbod : aBody x n = { aBase x with qs := aQs x n } := by rw [aBody, hkk]; rfl
 have hk6 : x.kind % 6 = 3 := hkk
 have hz := zero_body
 have hzl := bodyC_length zero_wf
 have hzn : ¬ (bodyC zeroBody = []) := fun e => by rw [e] at hzl; cases hzl
 have H0 := iq (((Fr.start hk h0).box (actC x).toArray 87).box' (k := w.heap.size + 1) (by simp) (bodyC zeroBody).toArray 50)
 have H1 := iq (H0.out.box' (k := w.heap.size + 2) (by simp) (bodyC zeroBody).toArray 50)
 have c3 := block_cell H0.out.hd2 3 _ rfl
 have c4 := block_cell H0.out.hd2 4 _ rfl
 have HAc : Hid (∀ (W : World), W.heap[w.heap.size]? = some (.cells (actC x).toArray 87 (0, 0)) -> W.cell? ⟨w.heap.size, 5, none⟩ = some (.int .u8 (x.k : Int)) /\ W.cell? ⟨w.heap.size, 6, none⟩ = some (.int .u8 (x.client : Int)) /\ W.cell? ⟨w.heap.size, 7, none⟩ = some (.slice x.qa x.q.length x.qc)) := iq fun W h => ⟨block_cell h 5 _ rfl, block_cell h 6 _ rfl, block_cell h 7 _ rfl⟩
 have ht1 : Int.tmod (x.kind : Int) 6 = 3 := by rw [Int.tmod_eq_emod_of_nonneg (by omega)]; omega
 have ht2 : (x.kind : Int) % 6 = 3 := by omega
 obtain ⟨V, hV⟩ : ∃ V : Nat, V = 1 + x.view % 6 := ⟨_, rfl⟩
 have ht3 : Int.tmod (x.view : Int) 6 = (V : Int) - 1 := by rw [Int.tmod_eq_emod_of_nonneg (by omega)]; omega
 have hw3 : IntKind.u64.wrap ((V : Int) - 1) = (V : Int) - 1 := by rw [IntKind.wrap_u64]; omega
 have hw4 : IntKind.u64.wrap (1 + ((V : Int) - 1)) = (V : Int) := by rw [IntKind.wrap_u64]; omega
 have hw5 : 1 + ((V : Int) - 1) = (V : Int) := by omega
 have hba : aBase x = { zeroBody with kind := 4, view := V } := by rw [aBase, hk6, <- hV]; rfl
 obtain ⟨o, ho⟩ : ∃ o : MBody, o = { zeroBody with kind := 4, view := V } := ⟨_, rfl⟩
 have HO := iq ho
 have hbo : bodyC o = .int .u8 4 :: .int .u64 (V : Int) :: (bodyC zeroBody).drop 2 := by rw [ho]; rfl
 have HBo := iq hbo
 have HOw : Hid o.Wf := iq (by rw [ho]; exact ⟨rfl, rfl⟩)
 have HZl := iq hzl
 have HIn := iq (fun (o : MBody) (h : o.Wf) => info_body h)
 have HLE : Hid (∀ C : List Value, ∀ o : MBody, C.length = 76 -> o.Wf -> 0 + (bodyC o).length <= C.length /\ setAll C 0 (bodyC o) = bodyC o) := iq fun C o hc hm => ⟨by rw [bodyC_length hm, hc]; omega, setAll_all (by rw [bodyC_length hm, hc])⟩
 obtain ⟨K1, hK1⟩ : ∃ K1 : Nat, K1 = 1 + x.k % 6 := ⟨_, rfl⟩
 have hxq := hx.k
 have ht5 : Int.tmod (x.k : Int) 6 = (K1 : Int) - 1 := by rw [Int.tmod_eq_emod_of_nonneg (by omega)]; omega
 have hw7 : IntKind.u64.wrap ((K1 : Int) - 1) = (K1 : Int) - 1 := by rw [IntKind.wrap_u64]; omega
 have hw8 : 1 + ((K1 : Int) - 1) = (K1 : Int) := by omega
 have hw9 : IntKind.u64.wrap (K1 : Int) = (K1 : Int) := by rw [IntKind.wrap_u64]; omega
 have HLn := iq (aQs_length x n)
 have HTk := iq (fun i hi => aQs_take x n i hi)
 obtain ⟨l, hl⟩ : ∃ l, l = aQs x n := ⟨_, rfl⟩
 rw [<- hl] at HLn HTk
 have HL1 : Hid (l.take 1 = [(1, K1)]) := iq (by rw [hl, hK1]; rfl)
 have HOc := iq (fun (W : World) (hb : Below w.heap.size w W) => hoc.below hb)
 have HEnd : Hid (∀ A c, ((bodyC o).set 43 (.slice A l.length c)) = bodyC { o with qs := l, qa := A, qc := c }) := iq fun A c => by rw [ho]; rfl
 have HWE : Hid (∀ A c, ({ o with qs := l, qa := A, qc := c } : MBody).Wf) := iq fun A c => by rw [ho]; exact ⟨rfl, rfl⟩
 rw [hba, <- ho] at hbod
 have hw6 : IntKind.u64.wrap (V : Int) = (V : Int) := by rw [IntKind.wrap_u64]; omega
 have HSt : Hid (((bodyC zeroBody).set 0 (.int .u8 4)).set 1 (.int .u64 (V : Int)) = bodyC o) := iq (by rw [ho]; rfl)
 have HOo := iq (one_bodyC o)
 have hxk := hx.kind
 have hxv := hx.view
 rw [<- hl] at hbod
 have HBd := iq hbod
 clear hK1 hl hoc hkk hk6 hV hba ho hbo hbod hzl
 go_enter Tryz.func39, Tryz.ntmps39
 go_wp2_with (first | (rw [HSt.out]; refine wpList_store_part rfl 50 (.tmp 5) (.tmp 16) rfl (w.heap.size + 1 + 1) 0 (bodyC zeroBody) (bodyC o) (bodyC o) 50 H1.out.hd (HLE.out _ o HZl.out HOw.out).1 (HLE.out _ o HZl.out HOw.out).2 rfl rfl (HIn.out o HOw.out) HOo.out ?_; intro w9 G9; have H9 : Hid (Fr w w9 [blkT (w.heap.size + 1 + 1) (bodyC o).toArray 50, blkT (w.heap.size + 1) (bodyC zeroBody).toArray 50, blkT w.heap.size (actC x).toArray 87]) := iq (H1.out.turn (own_grown G9.out.2 rfl) G9.out.1 (blkT_ok _ _ _)); have e0 := block_cell H9.out.hd 0 (.int .u8 4) (by rw [HBo.out]; rfl); clear G9 H1 H0; have e5 := (HAc.out _ H9.out.hd3).1) | (refine wpList_buildSl rfl 48 55 (.tmp 49) rfl (prC (1, K1)) rfl (buildSl_pr (1, K1) _) ?_; have hc43 : (w9.alloc (.cells (prC (1, K1)).toArray 55)).cell? ⟨w.heap.size + 1 + 1, 43, none⟩ = some (.slice none 0 0) := block_cell (pr_lit H9.out (1, K1)).hd2 43 _ (by rw [HBo.out]; rfl); have hf43 : (w9.alloc (.cells (prC (1, K1)).toArray 55)).frozen? ⟨w.heap.size + 1 + 1, 43, none⟩ = false := free_block (pr_lit H9.out (1, K1)).hd2 43))
 have H3 : Hid (∃ A c, Fr w ((w9.alloc (.cells (prC (1, K1)).toArray 55)).setCell ⟨w.heap.size + 1 + 1, 43, none⟩ (.slice (some ⟨w9.heap.size, 0, none⟩) 1 1)) [prT A c (l.take 1), (blkT (w.heap.size + 1 + 1) ((bodyC o).set 43 (.slice A (l.take 1).length c)).toArray 50), blkT (w.heap.size + 1) (bodyC zeroBody).toArray 50, blkT w.heap.size (actC x).toArray 87]) := iq ⟨some ⟨w9.heap.size, 0, none⟩, 1, by rw [HL1.out]; exact ((pr_lit H9.out (1, K1)).swap.set 43 (.slice (some ⟨w9.heap.size, 0, none⟩) 1 1)).swap⟩
 clear H9 hc43 hf43 e0 e5
 go_loopw [6] (fun v6 wr => ∃ r : Nat, 2 <= r /\ r <= l.length + 1 /\ v6 = .int .i64 (r : Int) /\ Hid (∃ A c, Fr w wr [prT A c (l.take (r - 1)), (blkT (w.heap.size + 1 + 1) ((bodyC o).set 43 (.slice A (l.take (r - 1)).length c)).toArray 50), blkT (w.heap.size + 1) (bodyC zeroBody).toArray 50, blkT w.heap.size (actC x).toArray 87])) (fun v6 _ => l.length + 2 - (intOf v6).toNat)
 case atStart => exact ⟨2, by omega, by rw [HLn.out]; omega, rfl, H3⟩
 case round =>
  clear H3
  obtain ⟨r, hr2, hrl, rfl, DD⟩ := hrel
  obtain ⟨A, c, hfr⟩ := DD.out
  have hln := HLn.out
  have c7 := (HAc.out _ hfr.pop.hd3).2.2
  have H4 := iq hfr
  clear DD hfr
  by_cases hA : (r : Int) <= (n : Int)
  ·by_cases hB : (r : Int) <= (x.q.length : Int)
   ·obtain ⟨gq, oq, hqa, hgl, hqc⟩ := HOc.out w bl (by omega)
    have hi1 : r - 1 < x.q.length := by omega
    obtain ⟨y, hy⟩ : ∃ y, x.q[r - 1]? = some y := ⟨_, List.getElem?_eq_getElem hi1⟩
    have hyc := hqc _ y hy
    have hnx := HTk.out (r - 2) (by omega)
    rw [show r - 2 + 2 = r + 1 - 1 by omega, show r - 2 + 1 = r - 1 by omega] at hnx
    rw [show x.q.getD (r - 1) 0 = y by rw [List.getD_eq_getElem?_getD, hy]; rfl] at hnx
    rw [show r + 1 - 1 = r by omega] at hnx
    have hy256 := y.toNat_lt
    obtain ⟨Y, hY⟩ : ∃ Y, Y = y.toNat := ⟨_, rfl⟩
    rw [<- hY] at hnx hyc hy256
    obtain ⟨K2, hK2⟩ : ∃ K2 : Nat, K2 = 1 + Y % 8 := ⟨_, rfl⟩
    rw [<- hK2] at hnx
    have hm5 : Int.tmod (Y : Int) 8 = (K2 : Int) - 1 := by rw [Int.tmod_eq_emod_of_nonneg (by omega)]; omega
    have hm7 : IntKind.u64.wrap ((K2 : Int) - 1) = (K2 : Int) - 1 := by rw [IntKind.wrap_u64]; omega
    have hm8 : 1 + ((K2 : Int) - 1) = (K2 : Int) := by omega
    have hm9 : IntKind.u64.wrap (K2 : Int) = (K2 : Int) := by rw [IntKind.wrap_u64]; omega
    obtain ⟨i, hi⟩ : ∃ i, i = r - 1 := ⟨_, rfl⟩
    rw [<- hi] at hyc hnx H4
    obtain ⟨ql, hqe⟩ : ∃ ql, ql = x.q.length := ⟨_, rfl⟩
    rw [<- hqe] at hB c7
    have hA8 := HAc.out
    rw [<- hqe, hqa] at hA8
    rw [hqa] at c7
    have HA8 := iq hA8
    have hs1 : IntKind.i64.wrap ((r : Int) - 1) = (i : Int) := by rw [IntKind.wrap_i64]; omega
    have hs2 : (0 : Int) <= (i : Int) := by omega
    have hs3 : (i : Int) < (ql : Int) := by omega
    have hs4 : ((i : Int)).toNat = i := by omega
    have hw1 : IntKind.i64.wrap ((r : Int) + 1) = (r : Int) + 1 := by rw [IntKind.wrap_i64]; omega
    have HRL : Hid (r + 1 <= l.length + 1) := iq (by omega)
    have HYc := iq hyc
    have HYb : Hid (∀ W, Below w.heap.size w W -> W.cell? ⟨gq, oq + i, none⟩ = some (.int .u8 (Y : Int))) := iq fun W hb => (hb.cell (p := ⟨gq, _, none⟩) hgl).trans HYc.out
    obtain ⟨pp, hpp⟩ : ∃ pp, pp = l.take i := ⟨_, rfl⟩
    rw [<- hpp] at H4 hnx
    have HNx := iq hnx
    have HPl : Hid (pp.length <= 1000000) := iq (by rw [hpp, List.length_take]; omega)
    have HG43 : Hid (∀ v, ((bodyC o).set 43 v)[43]? = some v) := iq fun v => List.getElem?_set_self (by rw [bodyC_length HOw.out]; omega)
    clear hgl hqa hqc hi1 hy hyc hnx hY hK2 hy256 hi hqe hA8 hpp hrl hln
    go_wp2_with fail
    refine wp_region_any (by kernel_rfl) ?_
    change wpAny _ _ _ _ _ _ _ (World.drewN _ 1)
    refine held_gen (G := fun W' => wpAny _ _ _ _ _ _ _ W') (fun W' => Fr w W' [prT A c pp, (blkT (w.heap.size + 1 + 1) ((bodyC o).set 43 (.slice A pp.length c)).toArray 50), blkT (w.heap.size + 1) (bodyC zeroBody).toArray 50, blkT w.heap.size (actC x).toArray 87]) (H4.out.drewN 1) (fun y0 hw => ?_)
    have H5 := iq hw
    clear hw H4 c7
    have HEv : Hid (∀ W os, Fr w W os -> W.heap[w.heap.size]? = some (.cells (actC x).toArray 87 (0, 0)) -> W.cell? ⟨w.heap.size, 7, none⟩ = some (.slice (some ⟨gq, oq, none⟩) ql x.qc) /\ W.cell? ⟨gq, oq + i, none⟩ = some (.int .u8 (Y : Int))) := iq fun W os hf h => ⟨(HA8.out W h).2.2, HYb.out W hf.bel⟩
    refine wpAny_of_held (S := fun W => W.cell? ⟨w.heap.size, 7, none⟩ = some (.slice (some ⟨gq, oq, none⟩) ql x.qc) /\ W.cell? ⟨gq, oq + i, none⟩ = some (.int .u8 (Y : Int))) _ _ _ _ ?_
    refine tk 0 ⟨some 64, .fieldAddr 50 (.tmp 5) 4, _, _, _, none⟩ (.pointer (some ⟨w.heap.size + 1 + 1, 43, none⟩)) rfl (by kernel_rfl) (fun _ _ _ => id) (HEv.out _ _ H5.out H5.out.pop.hd3) (fun W hSW => by go_simp) ?_
    try simp only [Act.put, l0, l1, l2]
    refine tk 2 ⟨some 66, .move (.tmp 6), _, _, _, none⟩ (.int .i64 (r : Int)) rfl (by kernel_rfl) (fun _ _ _ => id) (HEv.out _ _ H5.out H5.out.pop.hd3) (fun W hSW => by go_simp) ?_
    try simp only [pu, l0, l1, l2]
    refine tk 3 ⟨some 67, .fieldAddr 87 (.tmp 2) 7, _, _, _, none⟩ (.pointer (some ⟨w.heap.size, 7, none⟩)) rfl (by kernel_rfl) (fun _ _ _ => id) (HEv.out _ _ H5.out H5.out.pop.hd3) (fun W hSW => by go_simp) ?_
    try simp only [pu, l0, l1, l2]
    refine tk 4 ⟨some 68, .load 23 (.tmp 67), _, _, _, none⟩ (.slice (some ⟨gq, oq, none⟩) ql x.qc) rfl (by kernel_rfl) (fun _ _ _ => id) (HEv.out _ _ H5.out H5.out.pop.hd3) (fun W hSW => by have hv := hSW.1; go_simp) ?_
    try simp only [pu, l0, l1, l2]
    refine tk 5 ⟨some 69, .move (.tmp 6), _, _, _, none⟩ (.int .i64 (r : Int)) rfl (by kernel_rfl) (fun _ _ _ => id) (HEv.out _ _ H5.out H5.out.pop.hd3) (fun W hSW => by go_simp) ?_
    try simp only [pu, l0, l1, l2]
    refine tk 6 ⟨some 70, .binOp .sub 3 (.tmp 69) (.const (.int .i64 1)) 3, _, _, _, none⟩ (.int .i64 (i : Int)) rfl (by kernel_rfl) (fun _ _ _ => id) (HEv.out _ _ H5.out H5.out.pop.hd3) (fun W hSW => by have hv := hs1; go_simp) ?_
    try simp only [pu, l0, l1, l2]
    refine tk 7 ⟨some 71, .indexAddr 23 (.tmp 68) (.tmp 70), _, _, _, none⟩ (.pointer (some ⟨gq, oq + i, none⟩)) rfl (by kernel_rfl) (fun _ _ _ => id) (HEv.out _ _ H5.out H5.out.pop.hd3) (fun W hSW => by go_simp) ?_
    try simp only [pu, l0, l1, l2]
    refine tk 8 ⟨some 72, .load 5 (.tmp 71), _, _, _, none⟩ (.int .u8 (Y : Int)) rfl (by kernel_rfl) (fun _ _ _ => id) (HEv.out _ _ H5.out H5.out.pop.hd3) (fun W hSW => by have hv := hSW.2; go_simp) ?_
    try simp only [pu, l0, l1, l2]
    refine tk 9 ⟨some 73, .binOp .rem 5 (.tmp 72) (.const (.int .u8 8)) 5, _, _, _, none⟩ (.int .u8 ((K2 : Int) - 1)) rfl (by kernel_rfl) (fun _ _ _ => id) (HEv.out _ _ H5.out H5.out.pop.hd3) (fun W hSW => by go_simp) ?_
    try simp only [pu, l0, l1, l2]
    refine tk 10 ⟨some 74, .convert 5 25 (.tmp 73), _, _, _, none⟩ (.int .u64 ((K2 : Int) - 1)) rfl (by kernel_rfl) (fun _ _ _ => id) (HEv.out _ _ H5.out H5.out.pop.hd3) (fun W hSW => by go_simp) ?_
    try simp only [pu, l0, l1, l2]
    refine tk 11 ⟨some 75, .binOp .add 25 (.const (.int .u64 1)) (.tmp 74) 25, _, _, _, none⟩ (.int .u64 (K2 : Int)) rfl (by kernel_rfl) (fun _ _ _ => id) (HEv.out _ _ H5.out H5.out.pop.hd3) (fun W hSW => by go_simp) ?_
    try simp only [pu, l0, l1, l2]
    refine tk 12 ⟨some 76, .build 55 #[(0, .tmp 66), (1, .tmp 75)], _, _, _, none⟩ (.agg (prC ((r : Int), K2)).toArray) rfl (by kernel_rfl) (fun _ _ _ => id) (HEv.out _ _ H5.out H5.out.pop.hd3) (fun W hSW => by go_simp; rfl) ?_
    try simp only [pu, l0, l1, l2]
    refine rdy [1, 13] (by kernel_rfl) ?_
    refine (AllReadyH.cons (o := ⟨some 65, .load 48 (.tmp 64), _, _, _, none⟩) rfl (fun K' hK' => ?_) (AllReadyH.cons (o := ⟨some 77, .buildSlice 48 1 #[(0, .tmp 76)], _, _, _, none⟩) rfl (fun K' hK' => ?_) AllReadyH.nil))
    ·have hc1 := block_cell H5.out.hd2 43 _ (HG43.out _)
     go_simp
     refine hK'.out _ _ (HEv.out _ _ H5.out H5.out.pop.hd3) (fun _ => ?_)
     clear hK' K' hc1
     try simp only [Act.put, l0, l1, l2]
     refine rd1 13 ⟨some 77, .buildSlice 48 1 #[(0, .tmp 76)], _, _, _, none⟩ (by kernel_rfl) rfl fun K' hK' => ?_
     refine step_buildSl rfl 48 55 (.tmp 76) rfl (prC ((r : Int), K2)) rfl (buildSl_pr ((r : Int), K2) _) ?_
     have G3 := iq (H5.out.box (prC ((r : Int), K2)).toArray 55)
     refine hK'.out _ _ (HEv.out _ _ G3.out G3.out.pop.pop.hd3) (fun _ => ?_)
     clear hK' K'
     try simp only [Act.put, l0, l1, l2]
     refine rd1 14 ⟨some 78, .call { callee := .builtin .append, args := #[.tmp 65, .tmp 77], argTypes := #[48, 48] }, _, _, _, none⟩ (by kernel_rfl) rfl fun K' hK' => ?_
     obtain ⟨A2, c2, y4, hr4, hf4⟩ := pr_append G3.out.swap 48 _ ((r : Int), K2) (range_of G3.out.hd) HPl.out
     refine step_append_one rfl (.tmp 65) (.tmp 77) 48 rfl _ _ rfl rfl _ _ hr4 ?_
     have G4 := iq hf4
     clear hr4 hf4 G3 H5
     refine hK'.out _ _ (HEv.out _ _ G4.out G4.out.pop.pop.hd3) (fun _ => ?_)
     clear hK' K'
     try simp only [Act.put, l0, l1, l2]
     refine tk 15 ⟨some 79, .fieldAddr 50 (.tmp 5) 4, _, _, _, none⟩ (.pointer (some ⟨w.heap.size + 1 + 1, 43, none⟩)) rfl (by kernel_rfl) (fun _ _ _ => id) (HEv.out _ _ G4.out G4.out.pop.pop.hd3) (fun W hSW => by go_simp) ?_
     try simp only [pu, l0, l1, l2]
     refine rd1 16 ⟨none, .store 48 (.tmp 79) (.tmp 78), _, _, _, none⟩ (by kernel_rfl) rfl fun K' hK' => ?_
     have hc16 := block_cell G4.out.hd3 43 _ (HG43.out _)
     have hf16 := free_block G4.out.hd3 43
     go_simp
     have G5 : Hid (Fr w (y4.setCell ⟨w.heap.size + 1 + 1, 43, none⟩ (.slice A2 (pp.length + 1) c2)) [prT A2 c2 (pp ++ [((r : Int), K2)]), (blkT (w.heap.size + 1 + 1) ((bodyC o).set 43 (.slice A2 (pp.length + 1) c2)).toArray 50), blkT (w.heap.size + 1) (bodyC zeroBody).toArray 50, blkT w.heap.size (actC x).toArray 87]) := iq (by have := G4.out.third.set 43 (.slice A2 (pp.length + 1) c2); rw [List.set_set] at this; exact this.swap.sub (((List.sublist_cons_self _ _).cons_cons _).cons_cons _))
     refine hK'.out _ _ (HEv.out _ _ G5.out G5.out.pop.hd3) (fun _ => ?_)
     clear hK' K' hc16 hf16 G4
     refine wpAnyH_done (by kernel_rfl) ?_ _
     go_wp2_with fail
     go_roundw
     case measure => have := HRL.out; simp [intOf] <;> omega
     case rel => exact ⟨r + 1, by omega, HRL.out, by go_num, iq ⟨A2, c2, by rw [show r + 1 - 1 = r by omega, HNx.out, List.length_append]; exact G5.out⟩⟩
    ·refine step_buildSl rfl 48 55 (.tmp 76) rfl (prC ((r : Int), K2)) rfl (buildSl_pr ((r : Int), K2) _) ?_
     have G3 := iq (H5.out.box (prC ((r : Int), K2)).toArray 55)
     refine hK'.out _ _ (HEv.out _ _ G3.out G3.out.pop.pop.hd3) (fun _ => ?_)
     clear hK' K'
     try simp only [Act.put, l0, l1, l2]
     refine rd1 1 ⟨some 65, .load 48 (.tmp 64), _, _, _, none⟩ (by kernel_rfl) rfl fun K' hK' => ?_
     have hc1 := block_cell G3.out.hd3 43 _ (HG43.out _)
     go_simp
     refine hK'.out _ _ (HEv.out _ _ G3.out G3.out.pop.pop.hd3) (fun _ => ?_)
     clear hK' K' hc1
     try simp only [Act.put, l0, l1, l2]
     refine rd1 14 ⟨some 78, .call { callee := .builtin .append, args := #[.tmp 65, .tmp 77], argTypes := #[48, 48] }, _, _, _, none⟩ (by kernel_rfl) rfl fun K' hK' => ?_
     obtain ⟨A2, c2, y4, hr4, hf4⟩ := pr_append G3.out.swap 48 _ ((r : Int), K2) (range_of G3.out.hd) HPl.out
     refine step_append_one rfl (.tmp 65) (.tmp 77) 48 rfl _ _ rfl rfl _ _ hr4 ?_
     have G4 := iq hf4
     clear hr4 hf4 G3 H5
     refine hK'.out _ _ (HEv.out _ _ G4.out G4.out.pop.pop.hd3) (fun _ => ?_)
     clear hK' K'
     try simp only [Act.put, l0, l1, l2]
     refine tk 15 ⟨some 79, .fieldAddr 50 (.tmp 5) 4, _, _, _, none⟩ (.pointer (some ⟨w.heap.size + 1 + 1, 43, none⟩)) rfl (by kernel_rfl) (fun _ _ _ => id) (HEv.out _ _ G4.out G4.out.pop.pop.hd3) (fun W hSW => by go_simp) ?_
     try simp only [pu, l0, l1, l2]
     refine rd1 16 ⟨none, .store 48 (.tmp 79) (.tmp 78), _, _, _, none⟩ (by kernel_rfl) rfl fun K' hK' => ?_
     have hc16 := block_cell G4.out.hd3 43 _ (HG43.out _)
     have hf16 := free_block G4.out.hd3 43
     go_simp
     have G5 : Hid (Fr w (y4.setCell ⟨w.heap.size + 1 + 1, 43, none⟩ (.slice A2 (pp.length + 1) c2)) [prT A2 c2 (pp ++ [((r : Int), K2)]), (blkT (w.heap.size + 1 + 1) ((bodyC o).set 43 (.slice A2 (pp.length + 1) c2)).toArray 50), blkT (w.heap.size + 1) (bodyC zeroBody).toArray 50, blkT w.heap.size (actC x).toArray 87]) := iq (by have := G4.out.third.set 43 (.slice A2 (pp.length + 1) c2); rw [List.set_set] at this; exact this.swap.sub (((List.sublist_cons_self _ _).cons_cons _).cons_cons _))
     refine hK'.out _ _ (HEv.out _ _ G5.out G5.out.pop.hd3) (fun _ => ?_)
     clear hK' K' hc16 hf16 G4
     refine wpAnyH_done (by kernel_rfl) ?_ _
     go_wp2_with fail
     go_roundw
     case measure => have := HRL.out; simp [intOf] <;> omega
     case rel => exact ⟨r + 1, by omega, HRL.out, by go_num, iq ⟨A2, c2, by rw [show r + 1 - 1 = r by omega, HNx.out, List.length_append]; exact G5.out⟩⟩
   ·have hall : l.take (r - 1) = l := List.take_of_length_le (by omega)
    obtain ⟨oE, hoE⟩ : ∃ oE : MBody, oE = { o with qs := l, qa := A, qc := c } := ⟨_, rfl⟩
    have HWX : Hid oE.Wf := iq (by rw [hoE]; exact HWE.out A c)
    have HOX := iq (one_bodyC oE)
    have H8 : Hid (Fr w wr [blkT (w.heap.size + 1 + 1) (bodyC oE).toArray 50, blkT (w.heap.size + 1) (bodyC zeroBody).toArray 50, prT A c l, blkT w.heap.size (actC x).toArray 87]) := iq (by have := H4.out; rw [hall, HEnd.out A c, <- hoE] at this; exact this.rot3)
    have HOE := iq hoE
    clear hall hoE H4
    go_wp2_with (first | ((with_reducible refine wpList_load_midG ?_ 50 (.tmp 5) ?_ (w.heap.size + 1 + 1) 0 ?_ (bodyC oE) _ ?_ Tryz.underlying50 ?_ ?_ ?_); rotate_left; rfl; rfl; exact range_of H8.out.hd; rfl; exact HIn.out oE HWX.out; rotate_left; rfl) | (refine wpList_store_part rfl 50 (.tmp 4) (.tmp 92) rfl (w.heap.size + 1) 0 (bodyC zeroBody) (bodyC oE) (bodyC oE) 50 H8.out.hd2 (HLE.out _ oE HZl.out HWX.out).1 (HLE.out _ oE HZl.out HWX.out).2 rfl rfl (HIn.out oE HWX.out) HOX.out ?_; intro w10 G10; have HX : Hid (Fr w w10 [blkT (w.heap.size + 1) (bodyC oE).toArray 50, blkT (w.heap.size + 1 + 1) (bodyC oE).toArray 50, prT A c l, blkT w.heap.size (actC x).toArray 87]) := iq (H8.out.swap.turn (own_grown G10.out.2 rfl) G10.out.1 (blkT_ok _ _ _)); clear G10 H8))
    exact bodyPost_ret (ret_range (cs := bodyC oE) rfl rfl (range_of HX.out.hd) Tryz.underlying50 rfl (HIn.out oE HWX.out)) rfl (by rw [HBd.out, HOE.out]; exact ⟨A, c, rfl, pr_prsB HX.out.pop.pop, HX.out.bel⟩)
  ·have hall : l.take (r - 1) = l := List.take_of_length_le (by omega)
   obtain ⟨oE, hoE⟩ : ∃ oE : MBody, oE = { o with qs := l, qa := A, qc := c } := ⟨_, rfl⟩
   have HWX : Hid oE.Wf := iq (by rw [hoE]; exact HWE.out A c)
   have HOX := iq (one_bodyC oE)
   have H8 : Hid (Fr w wr [blkT (w.heap.size + 1 + 1) (bodyC oE).toArray 50, blkT (w.heap.size + 1) (bodyC zeroBody).toArray 50, prT A c l, blkT w.heap.size (actC x).toArray 87]) := iq (by have := H4.out; rw [hall, HEnd.out A c, <- hoE] at this; exact this.rot3)
   have HOE := iq hoE
   clear hall hoE H4
   go_wp2_with (first | ((with_reducible refine wpList_load_midG ?_ 50 (.tmp 5) ?_ (w.heap.size + 1 + 1) 0 ?_ (bodyC oE) _ ?_ Tryz.underlying50 ?_ ?_ ?_); rotate_left; rfl; rfl; exact range_of H8.out.hd; rfl; exact HIn.out oE HWX.out; rotate_left; rfl) | (refine wpList_store_part rfl 50 (.tmp 4) (.tmp 92) rfl (w.heap.size + 1) 0 (bodyC zeroBody) (bodyC oE) (bodyC oE) 50 H8.out.hd2 (HLE.out _ oE HZl.out HWX.out).1 (HLE.out _ oE HZl.out HWX.out).2 rfl rfl (HIn.out oE HWX.out) HOX.out ?_; intro w10 G10; have HX : Hid (Fr w w10 [blkT (w.heap.size + 1) (bodyC oE).toArray 50, blkT (w.heap.size + 1 + 1) (bodyC oE).toArray 50, prT A c l, blkT w.heap.size (actC x).toArray 87]) := iq (H8.out.swap.turn (own_grown G10.out.2 rfl) G10.out.1 (blkT_ok _ _ _)); clear G10 H8))
   exact bodyPost_ret (ret_range (cs := bodyC oE) rfl rfl (range_of HX.out.hd) Tryz.underlying50 rfl (HIn.out oE HWX.out)) rfl (by rw [HBd.out, HOE.out]; exact ⟨A, c, rfl, pr_prsB HX.out.pop.pop, HX.out.bel⟩)
end Go.Proofs.YtllbbcifcbkgeaaGreatDoor.Sh
