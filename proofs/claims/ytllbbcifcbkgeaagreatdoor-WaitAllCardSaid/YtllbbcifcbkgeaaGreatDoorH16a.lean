/- Laws and walks. -/
import Derived.Test.YtllbbcifcbkgeaaGreatDoorH14a
set_option maxHeartbeats 16000000
set_option maxRecDepth 100000
namespace Go.Proofs.YtllbbcifcbkgeaaGreatDoor.Sh
open Go.RowKit
def NextP (v : World) (os : List Thing) (b k bl n : Nat) (A : Nat -> Option Addr) (C : Nat -> Nat) (L ws : List MMsg) (E : Ending) (W' : World) : Prop :=
 ∃ (o : Option MMsg) (ws' : List MMsg), E = .returned (.tuple #[.agg (msgC (o.getD zeroMsg)).toArray, .bool o.isSome]) /\ Nx n L ws ws' o /\ Fr v W' (waT b (some k) (wdel ws' (fstP o)) :: loT bl n A C L :: os) /\ ∀ m, o = some m -> m.Wf /\ Prs W' m.body.qa m.body.qs /\ m.body.qs.length <= 1000000
theorem exec_look1 {P : Program} {o : Oper} {f : Operand -> Value} {w : World} (t : TypeId) (x y : Operand) (ho : o.op = .lookup t x y false) (u v : Value) (hx : f x = u) (hy : f y = v) (r : Value) (hr : (Instr.lookup t u v false).run P w = .ok r w) : (execOp f o).run P w = .ok (.value r) w := by
 unfold execOp
 simp only [ho, hx, hy, Sem.run_bind, hr, Result.andThen_ok]
 rfl
theorem Left_dk {W : World} {b k it n c : Nat} {ws rs : List MMsg} (h : WgAt W b k it n c ws rs) : Dk rs := by obtain ⟨_, _, _, _, _, h3⟩ := h.rg; exact h3.2.2.2
theorem Fr.drop23_ {v W : World} {a b c : Thing} {os : List Thing} (H : Fr v W (a :: b :: c :: os)) : Fr v W (c :: os) := H.pop.pop
theorem Fr.four {v w w' : World} {a b c d d' : Thing} {os : List Thing} {j : Nat} (H : Fr v w (a :: b :: c :: d :: os)) (hg : w.grownBy w' (some j)) (hd : d.F j) (hp : d'.P w') (ok : d'.Ok) (hf : ∀ i, d'.F i -> d.F i) : Fr v w' (c :: d' :: os) := by
 have h : Fr v w (d :: c :: os) := H.pop.pop.swap
 exact (h.turn (o' := d') ⟨(Turns.refl _ w).grown hg fun g e => by cases e; exact .inl hd, fun i hi => .inl (hf i hi)⟩ hp ok).swap
theorem okP {n : Nat} {L ws ws' : List MMsg} {o : Option MMsg} (h : Nx n L ws ws' o) (hp : ∀ m ∈ ws', PkOk m.pk) (hd : Dk ws') : PkOk (fstP o) := by
 cases o with
 | none => exact ⟨rfl, rfl⟩
 | some a => exact hp a (h.is hd).1
theorem Prs.grown_ {w w' : World} {m : MMsg} {j : Nat} (h : Prs w m.body.qa m.body.qs) (hg : w.grownBy w' (some j)) (hn : ∀ g, m.onQ g -> j ≠ g) : Prs w' m.body.qa m.body.qs :=
 prs_kept h fun g hg' => hg.block g (prs_lt h hg') fun e => hn g hg' (Option.some.inj e).symm
theorem next_some {v W : World} {os : List Thing} {b k bl n : Nat} {ws : List MMsg} {A : Nat -> Option Addr} {C : Nat -> Nat} {L : List MMsg} (H : Fr v W (waT b (some k) ws :: loT bl n A C L :: os)) :
  Calls Tryz.prog 33 #[.pointer (some ⟨b, 0, none⟩), .pointer (some ⟨bl, 0, none⟩)] W (NextP v os b k bl n A C L ws) := by
 have hz := zero_msg
 have hzp := zero_pair
 have hzl := msgC_length zeroMsg_wf
 have hzn : ¬ (msgC zeroMsg = []) := fun e => by rw [e] at hzl; cases hzl
 have h1 := (H.box (msgC zeroMsg).toArray 52).box' (k := W.heap.size + 1) (by simp) (prC (0, 0)).toArray 55
 have H1 := iq (h1.third)
 have hc : ((W.alloc (.cells (msgC zeroMsg).toArray 52)).alloc (.cells (prC (0, 0)).toArray 55)).cell? ⟨b, 0, none⟩ = some (.map (some k)) := block_cell (C := [.map (some k)]) (WaitAt.top H1.out.hd) 0 _ rfl
 obtain ⟨D, hown, hbeg⟩ := wr_begin H1.out
 have HOwn := iq hown
 have HBeg := iq hbeg
 have hsz : ((W.alloc (.cells (msgC zeroMsg).toArray 52)).alloc (.cells (prC (0, 0)).toArray 55)).heap.size = W.heap.size + 1 + 1 := by simp
 have HSz := iq hsz
 obtain ⟨nn, hnn⟩ : ∃ nn, nn = ws.length := ⟨_, rfl⟩
 rw [<- hnn] at HOwn HBeg
 clear H h1 hown hbeg hsz hnn
 go_enter Tryz.func33, Tryz.ntmps33
 go_wp2_with (at_range; refine wpList_range_own _ rfl (.tmp 22) 106 rfl 55 52 keyedP Tryz.underlying106 rdM k nn D rfl HOwn.out ?_; intro w3 hr3 hg3 hs3; have H3 := iq (HBeg.out _ _ hr3 hg3); clear hr3 hg3 hs3)
 simp only [Act.put, l0, l1, l2]
 rw [HSz.out] at H3
 rw [HSz.out]
 obtain ⟨r4, hr4⟩ : ∃ r, r = W.heap.size := ⟨_, rfl⟩
 rw [<- hr4] at H3 ⊢
 obtain ⟨r6, hr6⟩ : ∃ r, r = r4 + 1 := ⟨_, rfl⟩
 rw [<- hr6] at H3 ⊢
 obtain ⟨it, hit⟩ : ∃ r, r = r6 + 1 := ⟨_, rfl⟩
 rw [<- hit] at H3 ⊢
 clear hr4 hr6 hit HSz HOwn HBeg
 have D0 : Hid (∃ o rs ws' c, o.isSome = false /\ Gone n L ws rs ws' o /\ Fr v w3 (wgT b k it nn c ws' rs :: blkT r6 (prC (fstP o)).toArray 55 :: blkT r4 (msgC zeroMsg).toArray 52 :: loT bl n A C L :: os)) := iq ⟨none, ws, ws, _, rfl, gone_start n L ws, H3.out⟩
 clear H3 hc
 go_loopw [7] (fun v7 wr => ∃ (so : Bool) (c : Nat), v7 = .bool so /\ wr.rangeLeft k it = c /\ Hid (∃ o rs ws', o.isSome = so /\ Gone n L ws rs ws' o /\ Fr v wr (wgT b k it nn c ws' rs :: blkT r6 (prC (fstP o)).toArray 55 :: blkT r4 (msgC zeroMsg).toArray 52 :: loT bl n A C L :: os))) (fun _ V => V.rangeLeft k it)
 case atStart =>
  obtain ⟨o, rs, ws', c, h1, h2, h3⟩ := D0.out
  exact ⟨false, c, rfl, WgAt.rl h3.hd, iq ⟨o, rs, ws', h1, h2, h3⟩⟩
 case round =>
  clear D0
  obtain ⟨so, c, rfl, hcl, DD⟩ := hrel
  have HCl := iq hcl
  obtain ⟨o, rs, ws', hso, hgo, hfr⟩ := DD.out
  have HSo := iq hso
  have HGo := iq hgo
  have HF := iq hfr
  clear DD hcl hso hgo hfr
  go_upto_region 8 with (first | (at_next; refine wpList_next_wg rfl (.tmp 23) rfl rfl HF.out ?_ ?_; (intro hnil; have HNil := iq hnil; clear hnil); rotate_left; (intro m w5 c5 hm5 hf5 hc5 hen; have HM5 := iq hm5; have HC5 := iq hc5; have HWf5 := iq (WgAt.wf hf5.hd m (WgAt.sub HF.out.hd m hm5)); have HDr := iq (Left_dk HF.out.hd); have HDw := iq (WgAt.dk HF.out.hd); have H6 := iq ((hf5.box (prC (0, 0)).toArray 55).box' (k := w5.heap.size + 1) (by simp) (msgC zeroMsg).toArray 52); clear hm5 hf5 hc5); rotate_left) | (refine wpList_store_part rfl 55 (.tmp 8) (.tmp 27) rfl w5.heap.size 0 (prC (0, 0)) (prC m.pk) (prC m.pk) 55 H6.out.hd2 (Nat.le_refl 2) rfl rfl rfl (info_pair _) (one_prC _) ?_; intro w7 G7; have H7 : Hid (Fr v w7 (blkT w5.heap.size (prC m.pk).toArray 55 :: blkT (w5.heap.size + 1) (msgC zeroMsg).toArray 52 :: wgT b k it nn c5 ws' (wdel rs m.pk) :: blkT r6 (prC (fstP o)).toArray 55 :: blkT r4 (msgC zeroMsg).toArray 52 :: loT bl n A C L :: os)) := iq (H6.out.swap.turn (own_grown G7.out.2 rfl) G7.out.1 (blkT_ok _ _ _)); clear G7 H6) | (refine wpList_store_part rfl 52 (.tmp 9) (.tmp 28) rfl (w5.heap.size + 1) 0 (msgC zeroMsg) (msgC m) (msgC m) 52 H7.out.hd2 (by rw [msgC_length HWf5.out.1, hzl]; omega) (setAll_all (by rw [msgC_length HWf5.out.1, hzl])) rfl rfl (info_msg HWf5.out.1) (one_msgC m) ?_; intro w8 G8; have H8 : Hid (Fr v w8 (blkT (w5.heap.size + 1) (msgC m).toArray 52 :: blkT w5.heap.size (prC m.pk).toArray 55 :: wgT b k it nn c5 ws' (wdel rs m.pk) :: blkT r6 (prC (fstP o)).toArray 55 :: blkT r4 (msgC zeroMsg).toArray 52 :: loT bl n A C L :: os)) := iq (H7.out.swap.turn (own_grown G8.out.2 rfl) G8.out.1 (blkT_ok _ _ _)); clear G8 H7))
  ·have HNx : Hid (Nx n L ws ws' o) := iq (by have h := HGo.out; rw [HNil.out] at h; exact h.done)
   have HW5 := iq (wr_end HF.out)
   have HWd : Hid (Dk ws') := iq (WaitAt.dk HW5.out.hd)
   have HWw := iq (WaitAt.wf HW5.out.hd)
   have HPf : Hid (PkOk (fstP o)) := iq (okP HNx.out (fun m hm => (HWw.out m hm).2.1) HWd.out)
   have HIp := iq (info_pair (fstP o))
   obtain ⟨D, hD⟩ : ∃ D, D = o.getD zeroMsg := ⟨_, rfl⟩
   have HDD := iq hD
   have HDw : Hid D.Wf := iq (by
    rw [hD]
    cases o with
    | none => exact zeroMsg_wf
    | some a => exact (HWw.out a (HNx.out.is HWd.out).1).1)
   have HLk : Hid (∀ W', WaitAt W' b (some k) ws' -> (Instr.lookup 106 (.map (some k)) (kv (fstP o)) false).run Tryz.prog W' = .ok (.agg (msgC D).toArray) W') := iq fun W' hw => by
    have h := (look_any hw HPf.out).2
    rw [HNx.out.look HWd.out] at h
    rw [hD]
    exact h
   clear hD HF HWw
   try simp only [Act.put, l0, l1, l2]
   have HAq : Hid (∀ a, o = some a -> a.Wf /\ a.body.qs.length <= 1000000 /\ ∀ g, a.onQ g -> r4 ≠ g /\ k ≠ g) := iq fun a e => by
    have ha : a ∈ ws' := ((e ▸ HNx.out : Nx n L ws ws' (some a)).is HWd.out).1
    have hw := WaitAt.wf HW5.out.hd a ha
    refine ⟨hw.1, hw.2.2.2, fun g hg => ⟨fun x => ?_, fun x => (WaitAt.qb HW5.out.hd a ha g hg).2 (by rw [x])⟩⟩
    exact (List.pairwise_cons.1 HW5.out.apart).1 (blkT r4 (msgC zeroMsg).toArray 52) (by simp) g (.inr (.inr ⟨a, ha, hg⟩)) x.symm
   refine wp_region_any (by kernel_rfl) ?_
   change wpAny _ _ _ _ _ _ _ (World.drewN _ 1)
   refine held_gen (G := fun W' => wpAny _ _ _ _ _ _ _ W') (fun W' => Fr v W' (waT b (some k) ws' :: blkT r6 (prC (fstP o)).toArray 55 :: blkT r4 (msgC zeroMsg).toArray 52 :: loT bl n A C L :: os)) (HW5.out.drewN 1) (fun w5 hw5 => ?_)
   have H5 := iq hw5
   clear hw5 HW5
   have HEV : Hid (∀ W', Fr v W' (waT b (some k) ws' :: blkT r6 (prC (fstP o)).toArray 55 :: blkT r4 (msgC zeroMsg).toArray 52 :: loT bl n A C L :: os) -> WaitAt W' b (some k) ws' /\ W'.rangeAt r6 0 (prC (fstP o))) := iq fun W' hf => ⟨hf.hd, range_of hf.hd2⟩
   have E5 := HEV.out _ H5.out
   refine wpAny_of_held (S := fun W' => WaitAt W' b (some k) ws' /\ W'.rangeAt r6 0 (prC (fstP o))) _ _ _ _ ?_
   refine tk 0 ⟨some 56, .move (.tmp 0), _, _, _, none⟩ (.pointer (some ⟨b, 0, none⟩)) rfl (by kernel_rfl) (fun _ _ _ => id) (E5) (fun W hSW => by go_simp) ?_
   try simp only [Act.put, l0, l1, l2]
   refine tk 1 ⟨some 57, .nilCheck (.tmp 56), _, _, _, none⟩ (.pointer (some ⟨b, 0, none⟩)) rfl (by kernel_rfl) (fun _ _ _ => id) (E5) (fun W hSW => by go_simp) ?_
   try simp only [pu, l0, l1, l2]
   refine tk 2 ⟨some 58, .fieldAddr 108 (.tmp 57) 0, _, _, _, none⟩ (.pointer (some ⟨b, 0, none⟩)) rfl (by kernel_rfl) (fun _ _ _ => id) (E5) (fun W hSW => by go_simp) ?_
   try simp only [pu, l0, l1, l2]
   refine tk 3 ⟨some 59, .load 106 (.tmp 58), _, _, _, none⟩ (.map (some k)) rfl (by kernel_rfl) (fun _ _ _ => id) (E5) (fun W hSW => by have hv := block_cell (C := [.map (some k)]) (WaitAt.top hSW.1) 0 _ rfl; go_simp) ?_
   try simp only [pu, l0, l1, l2]
   refine tk 4 ⟨some 60, .load 55 (.tmp 6), _, _, _, none⟩ (.agg (prC (fstP o)).toArray) rfl (by kernel_rfl) (fun _ _ _ => id) (E5) (fun W hSW => exec_load_mid 55 (.tmp 6) rfl r6 0 rfl (prC (fstP o)) _ hSW.2 Tryz.underlying55 rfl HIp.out) ?_
   try simp only [pu, l0, l1, l2]
   refine tk 5 ⟨some 61, .lookup 106 (.tmp 59) (.tmp 60) false, _, _, _, none⟩ (.agg (msgC D).toArray) rfl (by kernel_rfl) (fun _ _ _ => id) (E5) (fun W hSW => exec_look1 106 (.tmp 59) (.tmp 60) rfl _ _ rfl rfl _ (HLk.out W hSW.1)) ?_
   try simp only [pu, l0, l1, l2]
   refine rd1 6 ⟨some 11, .alloc 52, _, _, _, none⟩ (by kernel_rfl) rfl fun K' hK' => ?_
   go_simp
   have h6 := H5.out.box (msgC zeroMsg).toArray 52
   obtain ⟨z, hzz⟩ : ∃ z, z = w5.heap.size := ⟨_, rfl⟩
   rw [<- hzz] at h6
   rw [<- hzz]
   have H6 := iq h6
   have E6 := HEV.out _ h6.pop
   clear h6 H5
   refine hK'.out _ _ E6 (fun _ => ?_)
   clear hK' K'
   try simp only [Act.put, l0, l1, l2]
   obtain ⟨w6, hw6⟩ : ∃ w6, w6 = w5.alloc (.cells (msgC zeroMsg).toArray 52) := ⟨_, rfl⟩
   rw [<- hw6] at H6 E6
   rw [<- hw6]
   clear hw6 hzz E5
   refine rd1 7 ⟨none, .store 52 (.tmp 11) (.tmp 61), _, _, _, none⟩ (by kernel_rfl) rfl fun K' hK' => ?_
   refine step_store_cells rfl 52 (.tmp 11) (.tmp 61) rfl z 0 (msgC D) rfl rfl (there_block H6.out.hd 0 _ (by rw [msgC_length HDw.out, hzl]; omega)) (info_msg HDw.out) (one_msgC D) ?_
   have H7 : Hid (Fr v (w6.setCells z 0 (msgC D)) (blkT z (msgC D).toArray 52 :: waT b (some k) ws' :: blkT r6 (prC (fstP o)).toArray 55 :: blkT r4 (msgC zeroMsg).toArray 52 :: loT bl n A C L :: os)) := iq (by have h := H6.out.setAll 0 (msgC D); rw [setAll_all (by rw [msgC_length HDw.out, hzl])] at h; exact h)
   have E7 := HEV.out _ H7.out.pop
   refine hK'.out _ _ E7 (fun _ => ?_)
   clear hK' K' H6
   try simp only [Act.put]
   generalize w6.setCells z 0 (msgC D) = w7 at H7 E7 ⊢
   refine wpAnyH_done (by kernel_rfl) ?_ _
   clear E6 E7 HEV
   go_wp2_with fail
   refine wp_region_any (by kernel_rfl) ?_
   change wpAny _ _ _ _ _ _ _ (World.drewN _ 1)
   refine held_gen (G := fun W' => wpAny _ _ _ _ _ _ _ W') (fun W' => Fr v W' (waT b (some k) ws' :: blkT z (msgC D).toArray 52 :: blkT r6 (prC (fstP o)).toArray 55 :: blkT r4 (msgC zeroMsg).toArray 52 :: loT bl n A C L :: os)) (H7.out.swap.drewN 1) (fun w8 hw8 => ?_)
   have H8 := iq hw8
   clear hw8 H7
   have E8 : w8.cell? ⟨b, 0, none⟩ = some (.map (some k)) /\ w8.rangeAt r6 0 (prC (fstP o)) := ⟨block_cell (C := [.map (some k)]) (WaitAt.top H8.out.hd) 0 _ rfl, range_of H8.out.hd3⟩
   refine wpAny_of_held (S := fun W => W.cell? ⟨b, 0, none⟩ = some (.map (some k)) /\ W.rangeAt r6 0 (prC (fstP o))) _ _ _ _ ?_
   refine tk 0 ⟨some 62, .move (.tmp 0), _, _, _, none⟩ (.pointer (some ⟨b, 0, none⟩)) rfl (by kernel_rfl) (fun _ _ _ => id) (E8) (fun W hSW => by go_simp) ?_
   try simp only [Act.put, l0, l1, l2]
   refine tk 1 ⟨some 63, .nilCheck (.tmp 62), _, _, _, none⟩ (.pointer (some ⟨b, 0, none⟩)) rfl (by kernel_rfl) (fun _ _ _ => id) (E8) (fun W hSW => by go_simp) ?_
   try simp only [pu, l0, l1, l2]
   refine tk 2 ⟨some 64, .fieldAddr 108 (.tmp 63) 0, _, _, _, none⟩ (.pointer (some ⟨b, 0, none⟩)) rfl (by kernel_rfl) (fun _ _ _ => id) (E8) (fun W hSW => by go_simp) ?_
   try simp only [pu, l0, l1, l2]
   refine tk 3 ⟨some 65, .load 106 (.tmp 64), _, _, _, none⟩ (.map (some k)) rfl (by kernel_rfl) (fun _ _ _ => id) (E8) (fun W hSW => by have hv := hSW.1; go_simp) ?_
   try simp only [pu, l0, l1, l2]
   refine tk 4 ⟨some 66, .load 55 (.tmp 6), _, _, _, none⟩ (.agg (prC (fstP o)).toArray) rfl (by kernel_rfl) (fun _ _ _ => id) (E8) (fun W hSW => exec_load_mid 55 (.tmp 6) rfl r6 0 rfl (prC (fstP o)) _ hSW.2 Tryz.underlying55 rfl HIp.out) ?_
   try simp only [pu, l0, l1, l2]
   refine rd1 5 ⟨none, .call { callee := .builtin .delete, args := #[.tmp 65, .tmp 66], argTypes := #[106, 55] }, _, _, _, none⟩ (by kernel_rfl) rfl fun K' hK' => ?_
   obtain ⟨w9, r9, h9, hg9⟩ := wait_del H8.out HPf.out _
   have HPr : Hid (∀ a, o = some a -> Prs w9 a.body.qa a.body.qs) := iq fun a e => (WaitAt.wf H8.out.hd a ((e ▸ HNx.out : Nx n L ws ws' (some a)).is HWd.out).1).2.2.1.grown_ hg9 fun g hg => ((HAq.out a e).2.2 g hg).2
   have H9 := iq h9
   refine step_delete rfl (.tmp 65) (.tmp 66) 106 55 rfl _ _ rfl rfl w9 r9 ?_
   refine hK'.out _ _ ⟨block_cell (C := [.map (some k)]) (WaitAt.top H9.out.hd) 0 _ rfl, range_of H9.out.hd3⟩ (fun _ => ?_)
   clear hK' K' r9 h9 hg9 E8 H8
   try simp only [Act.put]
   refine wpAnyH_done (by kernel_rfl) ?_ _
   have HID := iq (info_msg HDw.out)
   go_wp2_with (first | (((with_reducible refine wpList_load_midG ?_ 52 (.tmp 11) ?_ z 0 ?_ (msgC D) _ ?_ Tryz.underlying52 ?_ ?_ ?_); rotate_left; rfl; rfl; exact (range_of H9.out.hd2); rfl; exact HID.out; rotate_left; rfl)) | (refine wpList_store_part rfl 52 (.tmp 4) (.tmp 67) rfl r4 0 (msgC zeroMsg) (msgC D) (msgC D) 52 H9.out.pop.pop.pop.hd (by rw [msgC_length HDw.out, hzl]; omega) (setAll_all (by rw [msgC_length HDw.out, hzl])) rfl rfl HID.out (one_msgC D) ?_; intro w10 G10))
   have H10 := iq (Fr.four (j := r4) (d' := blkT r4 (msgC D).toArray 52) (H9.out.perm (os' := blkT z (msgC D).toArray 52 :: blkT r6 (prC (fstP o)).toArray 55 :: waT b (some k) (wdel ws' (fstP o)) :: blkT r4 (msgC zeroMsg).toArray 52 :: loT bl n A C L :: os) (by simpa using (List.perm_middle (a := waT b (some k) (wdel ws' (fstP o))) (l₁ := [blkT z (msgC D).toArray 52, blkT r6 (prC (fstP o)).toArray 55])).symm)) G10.out.2 rfl G10.out.1 (blkT_ok _ _ _) (fun i hi => hi))
   refine bodyPost_ret (ret_range2 (cs := msgC D) rfl rfl rfl (range_of G10.out.1) Tryz.underlying52 rfl HID.out) rfl ⟨o, ws', ?_, HNx.out, H10.out.sub (List.Sublist.cons_cons _ (List.sublist_cons_self _ _)), fun a e => ⟨(HAq.out a e).1, (HPr.out a e).grown_ G10.out.2 fun g hg => ((HAq.out a e).2.2 g hg).1, (HAq.out a e).2.1⟩⟩
   rw [HSo.out, <- HDD.out]
   rfl
  simp only [Act.put]
  obtain ⟨x, hx⟩ : ∃ x, x = w5.heap.size := ⟨_, rfl⟩
  rw [<- hx] at H8 ⊢
  obtain ⟨y, hy⟩ : ∃ y, y = x + 1 := ⟨_, rfl⟩
  rw [<- hy] at H8 ⊢
  clear hx hy
  have HIm := iq (info_msg HWf5.out.1)
  have HIp := iq (info_pair m.pk)
  have HCk := iq (check_any (H8.out.pop.pop.pop.pop.pop.hd) m HWf5.out.1 (WgAt.wf H8.out.hd3 m (WgAt.sub HF.out.hd m HM5.out)).2.2.1 (by have := HWf5.out.2.2.2; omega) H8.out.ksW H8.out.posW)
  cases hmw : mwB n L m with
  | false =>
   have hw := hmw
   rw [mwB] at hw
   have HMw := iq hmw
   clear hmw
   go_wp2_with (first | (((with_reducible refine wpList_load_midG ?_ 52 (.tmp 9) ?_ y 0 ?_ (msgC m) _ ?_ Tryz.underlying52 ?_ ?_ ?_); rotate_left; rfl; rfl; exact (range_of H8.out.hd); rfl; exact HIm.out; rotate_left; rfl)) | (go_at_call 17; refine HCk.out.mono ?_; rintro E w9 ⟨rfl, b9⟩; have H9 := iq (H8.out.below b9); clear b9 H8 HCk) | (go_at_call 54; (refine (mayWait_any _ _).mono ?_; rintro E w10 ⟨rfl, rfl⟩; rw [hw])))
   refine wp_region_any (by kernel_rfl) ?_
   change wpAny _ _ _ _ _ _ _ (World.drewN _ 1)
   refine held_gen (G := fun W' => wpAny _ _ _ _ _ _ _ W') (fun W' => Fr v W' (blkT y (msgC m).toArray 52 :: blkT x (prC m.pk).toArray 55 :: wgT b k it nn c5 ws' (wdel rs m.pk) :: blkT r6 (prC (fstP o)).toArray 55 :: blkT r4 (msgC zeroMsg).toArray 52 :: loT bl n A C L :: os)) (H9.out.drewN 1) (fun w11 hw11 => ?_)
   have H11 := iq hw11
   clear hw11 H9
   have HEV : Hid (∀ W', Fr v W' (blkT y (msgC m).toArray 52 :: blkT x (prC m.pk).toArray 55 :: wgT b k it nn c5 ws' (wdel rs m.pk) :: blkT r6 (prC (fstP o)).toArray 55 :: blkT r4 (msgC zeroMsg).toArray 52 :: loT bl n A C L :: os) -> W'.cell? ⟨b, 0, none⟩ = some (.map (some k)) /\ W'.rangeAt x 0 (prC m.pk)) := iq fun W' hf => ⟨block_cell (C := [.map (some k)]) (WgAt.top hf.hd3) 0 _ rfl, range_of hf.hd2⟩
   have E11 := HEV.out _ H11.out
   refine wpAny_of_held (S := fun W => W.cell? ⟨b, 0, none⟩ = some (.map (some k)) /\ W.rangeAt x 0 (prC m.pk)) _ _ _ _ ?_
   refine tk 0 ⟨some 36, .move (.tmp 0), _, _, _, none⟩ (.pointer (some ⟨b, 0, none⟩)) rfl (by kernel_rfl) (fun _ _ _ => id) (E11) (fun W hSW => by go_simp) ?_
   try simp only [Act.put, l0, l1, l2]
   refine tk 1 ⟨some 37, .nilCheck (.tmp 36), _, _, _, none⟩ (.pointer (some ⟨b, 0, none⟩)) rfl (by kernel_rfl) (fun _ _ _ => id) (E11) (fun W hSW => by go_simp) ?_
   try simp only [pu, l0, l1, l2]
   refine tk 2 ⟨some 38, .fieldAddr 108 (.tmp 37) 0, _, _, _, none⟩ (.pointer (some ⟨b, 0, none⟩)) rfl (by kernel_rfl) (fun _ _ _ => id) (E11) (fun W hSW => by go_simp) ?_
   try simp only [pu, l0, l1, l2]
   refine tk 3 ⟨some 39, .load 106 (.tmp 38), _, _, _, none⟩ (.map (some k)) rfl (by kernel_rfl) (fun _ _ _ => id) (E11) (fun W hSW => by have hv := hSW.1; go_simp) ?_
   try simp only [pu, l0, l1, l2]
   refine tk 4 ⟨some 40, .load 55 (.tmp 8), _, _, _, none⟩ (.agg (prC m.pk).toArray) rfl (by kernel_rfl) (fun _ _ _ => id) (E11) (fun W hSW => exec_load_mid 55 (.tmp 8) rfl x 0 rfl (prC m.pk) _ hSW.2 Tryz.underlying55 rfl HIp.out) ?_
   try simp only [pu, l0, l1, l2]
   refine rd1 5 ⟨none, .call { callee := .builtin .delete, args := #[.tmp 39, .tmp 40], argTypes := #[106, 55] }, _, _, _, none⟩ (by kernel_rfl) rfl fun K' hK' => ?_
   obtain ⟨w12, c12, r12, h12, hle12, hg12⟩ := wg_del (p := m.pk) H11.out.third HWf5.out.2.1 (fun z hz e => by have h1 := (List.mem_filter.1 hz).2; simp [e] at h1) _
   have H12 := iq h12
   have HLe12 := iq hle12
   refine step_delete rfl (.tmp 39) (.tmp 40) 106 55 rfl _ _ rfl rfl w12 r12 ?_
   refine hK'.out _ _ ⟨block_cell (C := [.map (some k)]) (WgAt.top H12.out.hd) 0 _ rfl, range_of H12.out.hd3⟩ (fun _ => ?_)
   clear hK' K' r12 h12 hg12 E11 hle12
   try simp only [Act.put]
   refine wpAnyH_done (by kernel_rfl) ?_ _
   go_wp2_with fail
   go_roundw
   case measure => rw [WgAt.rl H12.out.hd, HCl.out]; exact Nat.lt_of_le_of_lt HLe12.out HC5.out
   exact ⟨so, c12, rfl, WgAt.rl H12.out.hd, iq ⟨o, wdel rs m.pk, wdel ws' m.pk, HSo.out, HGo.out.bad HDr.out HDw.out HM5.out HMw.out, H12.out.drop23⟩⟩
  | true =>
   have hw := hmw
   rw [mwB] at hw
   have HMw := iq hmw
   clear hmw
   by_cases h0 : chk n L m = 0
   ·have hb0 : (chk n L m == 0) = true := by simp [h0]
    have HE0 := iq h0
    clear h0
    cases o with
    | none =>
     have hsf : so = false := HSo.out.symm
     subst hsf
     go_wp2_with (first | (((with_reducible refine wpList_load_midG ?_ 52 (.tmp 9) ?_ y 0 ?_ (msgC m) _ ?_ Tryz.underlying52 ?_ ?_ ?_); rotate_left; rfl; rfl; exact (range_of H8.out.hd); rfl; exact HIm.out; rotate_left; rfl)) | (go_at_call 17; refine HCk.out.mono ?_; rintro E w9 ⟨rfl, b9⟩; have H9 := iq (H8.out.below b9); clear b9 H8 HCk) | (go_at_call 54; (refine (mayWait_any _ _).mono ?_; rintro E w10 ⟨rfl, rfl⟩; rw [hw])) | (((with_reducible refine wpList_load_midG ?_ 55 (.tmp 8) ?_ x 0 ?_ (prC m.pk) _ ?_ Tryz.underlying55 ?_ ?_ ?_); rotate_left; rfl; rfl; exact (range_of H9.out.hd2); rfl; exact HIp.out; rotate_left; rfl)) | (refine wpList_store_part rfl 55 (.tmp 6) (.tmp 55) rfl r6 0 (prC (fstP none)) (prC m.pk) (prC m.pk) 55 H9.out.pop.pop.pop.hd (Nat.le_refl 2) rfl rfl rfl (info_pair _) (one_prC _) ?_; intro w13 G13; have H13 : Hid (Fr v w13 (wgT b k it nn c5 ws' (wdel rs m.pk) :: blkT r6 (prC (fstP (some m))).toArray 55 :: blkT r4 (msgC zeroMsg).toArray 52 :: loT bl n A C L :: os)) := iq (Fr.four (j := r6) (d' := blkT r6 (prC (fstP (some m))).toArray 55) H9.out G13.out.2 rfl G13.out.1 (blkT_ok _ _ _) (fun i hi => hi)); clear G13))
     go_roundw
     case measure => rw [WgAt.rl H13.out.hd, HCl.out]; exact HC5.out
     exact ⟨true, c5, rfl, WgAt.rl H13.out.hd, iq ⟨(some m), wdel rs m.pk, ws', rfl, HGo.out.good HDr.out HM5.out HMw.out (fun g h => h.first HE0.out), H13.out⟩⟩
    | some a =>
     have hsf : so = true := HSo.out.symm
     subst hsf
     have c6 : ∀ w9, Fr v w9 (blkT y (msgC m).toArray 52 :: blkT x (prC m.pk).toArray 55 :: wgT b k it nn c5 ws' (wdel rs m.pk) :: blkT r6 (prC (fstP (some a))).toArray 55 :: blkT r4 (msgC zeroMsg).toArray 52 :: loT bl n A C L :: os) -> w9.cell? ⟨r6, 0, none⟩ = some (.int .i64 a.origin) /\ w9.cell? ⟨x, 0, none⟩ = some (.int .i64 m.origin) := fun w9 hf => ⟨block_cell (C := prC (fstP (some a))) hf.pop.pop.pop.hd 0 _ rfl, block_cell (C := prC m.pk) hf.hd2 0 _ rfl⟩
     have HC6 := iq c6
     clear c6
     by_cases hlt : m.origin < a.origin
     ·have hd : decide (m.origin < a.origin) = true := decide_eq_true hlt
      have HLt := iq hlt
      clear hlt
      go_wp2_with (first | (((with_reducible refine wpList_load_midG ?_ 52 (.tmp 9) ?_ y 0 ?_ (msgC m) _ ?_ Tryz.underlying52 ?_ ?_ ?_); rotate_left; rfl; rfl; exact (range_of H8.out.hd); rfl; exact HIm.out; rotate_left; rfl)) | (go_at_call 17; refine HCk.out.mono ?_; rintro E w9 ⟨rfl, b9⟩; have H9 := iq (H8.out.below b9); clear b9 H8 HCk; obtain ⟨g6, gx⟩ := HC6.out _ H9.out) | (go_at_call 54; (refine (mayWait_any _ _).mono ?_; rintro E w10 ⟨rfl, rfl⟩; rw [hw])) | (((with_reducible refine wpList_load_midG ?_ 55 (.tmp 8) ?_ x 0 ?_ (prC m.pk) _ ?_ Tryz.underlying55 ?_ ?_ ?_); rotate_left; rfl; rfl; exact (range_of H9.out.hd2); rfl; exact HIp.out; rotate_left; rfl)) | (refine wpList_store_part rfl 55 (.tmp 6) (.tmp 55) rfl r6 0 (prC (fstP (some a))) (prC m.pk) (prC m.pk) 55 H9.out.pop.pop.pop.hd (Nat.le_refl 2) rfl rfl rfl (info_pair _) (one_prC _) ?_; intro w13 G13; have H13 : Hid (Fr v w13 (wgT b k it nn c5 ws' (wdel rs m.pk) :: blkT r6 (prC (fstP (some m))).toArray 55 :: blkT r4 (msgC zeroMsg).toArray 52 :: loT bl n A C L :: os)) := iq (Fr.four (j := r6) (d' := blkT r6 (prC (fstP (some m))).toArray 55) H9.out G13.out.2 rfl G13.out.1 (blkT_ok _ _ _) (fun i hi => hi)); clear G13))
      go_roundw
      case measure => rw [WgAt.rl H13.out.hd, HCl.out]; exact HC5.out
      exact ⟨true, c5, rfl, WgAt.rl H13.out.hd, iq ⟨(some m), wdel rs m.pk, ws', rfl, HGo.out.good HDr.out HM5.out HMw.out (fun g h => h.less HE0.out HLt.out), H13.out⟩⟩
     ·have hd : decide (m.origin < a.origin) = false := decide_eq_false hlt
      have HLt : Hid (a.origin <= m.origin) := iq (by omega)
      clear hlt
      go_wp2_with (first | (((with_reducible refine wpList_load_midG ?_ 52 (.tmp 9) ?_ y 0 ?_ (msgC m) _ ?_ Tryz.underlying52 ?_ ?_ ?_); rotate_left; rfl; rfl; exact (range_of H8.out.hd); rfl; exact HIm.out; rotate_left; rfl)) | (go_at_call 17; refine HCk.out.mono ?_; rintro E w9 ⟨rfl, b9⟩; have H9 := iq (H8.out.below b9); clear b9 H8 HCk; obtain ⟨g6, gx⟩ := HC6.out _ H9.out) | (go_at_call 54; (refine (mayWait_any _ _).mono ?_; rintro E w10 ⟨rfl, rfl⟩; rw [hw])))
      go_roundw
      case measure => rw [WgAt.rl H9.out.drop23_.hd, HCl.out]; exact HC5.out
      exact ⟨true, c5, rfl, WgAt.rl H9.out.drop23_.hd, iq ⟨(some a), wdel rs m.pk, ws', rfl, HGo.out.good HDr.out HM5.out HMw.out (fun g h => h.keep HLt.out), H9.out.drop23_⟩⟩
   ·have HE0 := iq h0
    have hb0 : (chk n L m == 0) = false := by simpa using h0
    clear h0
    go_wp2_with (first | (((with_reducible refine wpList_load_midG ?_ 52 (.tmp 9) ?_ y 0 ?_ (msgC m) _ ?_ Tryz.underlying52 ?_ ?_ ?_); rotate_left; rfl; rfl; exact (range_of H8.out.hd); rfl; exact HIm.out; rotate_left; rfl)) | (go_at_call 17; refine HCk.out.mono ?_; rintro E w9 ⟨rfl, b9⟩; have H9 := iq (H8.out.below b9); clear b9 H8 HCk) | (go_at_call 54; (refine (mayWait_any _ _).mono ?_; rintro E w10 ⟨rfl, rfl⟩; rw [hw])))
    go_roundw
    case measure => rw [WgAt.rl H9.out.drop23_.hd, HCl.out]; exact HC5.out
    exact ⟨so, c5, rfl, WgAt.rl H9.out.drop23_.hd, iq ⟨o, wdel rs m.pk, ws', HSo.out, HGo.out.good HDr.out HM5.out HMw.out (fun g h => h.more HE0.out), H9.out.drop23_⟩⟩
end Go.Proofs.YtllbbcifcbkgeaaGreatDoor.Sh
