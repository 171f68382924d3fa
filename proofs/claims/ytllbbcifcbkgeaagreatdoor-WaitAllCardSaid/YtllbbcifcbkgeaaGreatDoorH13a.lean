/- Laws and walks. -/
import Derived.Test.YtllbbcifcbkgeaaGreatDoorH9a
set_option maxHeartbeats 16000000
set_option maxRecDepth 100000
namespace Go.Proofs.YtllbbcifcbkgeaaGreatDoor.Sh
open Go.RowKit
theorem msgC_01 (m : MMsg) : (msgC m)[0]? = some (.int .i64 m.origin) /\ (msgC m)[1]? = some (.int .u64 (m.number : Int)) := ⟨rfl, rfl⟩
theorem exec_look2 {P : Program} {o : Oper} {f : Operand -> Value} {w : World} (t : TypeId) (x y : Operand) (ho : o.op = .lookup t x y true) (u v : Value) (hx : f x = u) (hy : f y = v) (r : Value) (hr : (Instr.lookup t u v true).run P w = .ok r w) : (execOp f o).run P w = .ok (.value r) w := by
 unfold execOp
 simp only [ho, hx, hy, Sem.run_bind, hr, Result.andThen_ok]
 rfl
theorem putW_at (e : Int) (ws : List MMsg) (m : MMsg) (A : Option Addr) (c : Nat) : (putW e ws (m.at A c)).1 = (putW e ws m).1 := by
 unfold putW
 show (if _ then _ else if (fW ws m.pk).isSome then _ else if cnN m.origin ws < 11 then _ else if mxN m.origin ws < m.number then _ else _ : Int × List MMsg).1 = _
 split
 ·rfl
 ·split
  ·rfl
  ·split
   ·rfl
   ·split <;> rfl
theorem put_may {v W : World} {os : List Thing} {b bl n : Nat} {mb : Option Nat} {ws : List MMsg} {A : Nat -> Option Addr} {C : Nat -> Nat} {L : List MMsg} (H : Fr v W (waT b mb ws :: loT bl n A C L :: os)) (m : MMsg) (hm : m.Wf) (hq : ∀ W', Fr v W' (loT bl n A C L :: os) -> Prs W' m.body.qa m.body.qs) (hn : m.body.qs.length <= 1000000) (hp : PkOk m.pk) (hl : ws.length <= 1000000)
  (hw : (decide (chk n L m = 0) || decide (chk n L m = 12)) = true) :
  Calls Tryz.prog 35 #[.pointer (some ⟨b, 0, none⟩), .pointer (some ⟨bl, 0, none⟩), .agg (msgC m).toArray] W fun E W' => ∃ mb' A' c', E = .returned (.int .i64 (putW (chk n L m) ws m).1) /\ Fr v W' (waT b mb' (putW (chk n L m) ws (m.at A' c')).2 :: loT bl n A C L :: os) := by
 have H1 := iq (H.box (msgC m).toArray 52)
 have HWm := iq hm
 have HN : Hid (m.body.qs.length <= 140737488355328) := iq (by omega)
 have HN2 := iq hn
 have HIm := iq (info_msg hm)
 have HPk := iq hp
 have HLe := iq hl
 have HQ := iq hq
 have HIp := iq (info_pair m.pk)
 obtain ⟨x, hx⟩ : ∃ x, x = W.heap.size := ⟨_, rfl⟩
 have HX := iq hx
 have HPW : Hid (∀ A c, putW (chk n L m) ws (m.at A c) = if (fW ws m.pk).isSome then (13, ws) else if cnN m.origin ws < 11 then (0, ws ++ [m.at A c]) else if mxN m.origin ws < m.number then (7, ws) else (0, wdel ws (m.origin, mxN m.origin ws) ++ [m.at A c])) := iq fun A c => by
  unfold putW
  rw [hw]
  rfl
 have HPW1 : Hid ((putW (chk n L m) ws m).1 = (putW (chk n L m) ws (m.at none 0)).1) := iq (putW_at _ _ _ _ _).symm
 clear HPW1
 have hz := zero_msg
 have hzl := msgC_length zeroMsg_wf
 have hzn : ¬ (msgC zeroMsg = []) := fun e => by rw [e] at hzl; cases hzl
 clear H hm hn hq hp hl hx
 go_enter Tryz.func35, Tryz.ntmps35
 go_wp2_with (first | (go_at_call 17; (refine (check_any H1.out.third.hd m HWm.out (HQ.out _ H1.out.pop.pop) HN.out H1.out.ksW H1.out.posW).mono ?_; rintro E w2 ⟨rfl, b2⟩; have H2 := iq (H1.out.below b2); have x0 := block_cell (C := msgC m) H2.out.hd 0 _ (msgC_01 m).1; have x1 := block_cell (C := msgC m) H2.out.hd 1 _ (msgC_01 m).2; clear b2 H1)) | (go_at_call 54; (refine (mayWait_any _ _).mono ?_; rintro E w3 ⟨rfl, rfl⟩; rw [hw])) | (((with_reducible refine wpList_load_midG ?_ 52 (.tmp 5) ?_ W.heap.size 0 ?_ (msgC m) _ ?_ Tryz.underlying52 ?_ ?_ ?_); rotate_left; rfl; rfl; exact (range_of H1.out.hd); rfl; exact HIm.out; rotate_left; rfl)))
 have H3 := iq (H2.out.box (prC m.pk).toArray 55)
 obtain ⟨y, hy⟩ : ∃ y, y = w2.heap.size := ⟨_, rfl⟩
 obtain ⟨x', hx'⟩ : ∃ x', x' = W.heap.size := ⟨_, rfl⟩
 rw [<- hy, <- hx'] at H3
 rw [<- hy, <- hx']
 have E0 : x = x' := HX.out.trans hx'.symm
 subst E0
 clear H2 hy hx' HX x0 x1
 have HWa : Hid (∀ W', Fr v W' (blkT y (prC m.pk).toArray 55 :: blkT x (msgC m).toArray 52 :: waT b mb ws :: loT bl n A C L :: os) -> WaitAt W' b mb ws /\ W'.rangeAt y 0 (prC m.pk)) := iq fun W' hf => ⟨hf.pop.pop.hd, range_of hf.hd⟩
 obtain ⟨D, hD⟩ : ∃ D, D = (fW ws m.pk).getD zeroMsg := ⟨_, rfl⟩
 obtain ⟨sm, hsm⟩ : ∃ sm, sm = (fW ws m.pk).isSome := ⟨_, rfl⟩
 have HDw : Hid D.Wf := iq (by
  rw [hD]
  cases hf : fW ws m.pk with
  | none => exact zeroMsg_wf
  | some d => exact (WaitAt.wf H3.out.pop.pop.hd d (fW_mem hf).1).1)
 have HLk : Hid (∀ W', WaitAt W' b mb ws -> (Instr.lookup 106 (.map mb) (kv m.pk) true).run Tryz.prog W' = .ok (.tuple #[.agg (msgC D).toArray, .bool sm]) W') := iq fun W' hw => by rw [hD, hsm]; exact (look_any hw HPk.out).1
 have HSm := iq hsm
 clear hD hsm
 refine wp_region_any (by kernel_rfl) ?_
 change wpAny _ _ _ _ _ _ _ (World.drewN _ 1)
 refine held_gen (G := fun W' => wpAny _ _ _ _ _ _ _ W') (fun W' => Fr v W' (blkT y (prC m.pk).toArray 55 :: blkT x (msgC m).toArray 52 :: waT b mb ws :: loT bl n A C L :: os)) (H3.out.drewN 1) (fun w5 hw5 => ?_)
 have H5 := iq hw5
 clear hw5 H3
 have E5 := HWa.out _ H5.out
 refine wpAny_of_held (S := fun W' => WaitAt W' b mb ws /\ W'.rangeAt y 0 (prC m.pk)) _ _ _ _ ?_
 refine tk 0 ⟨some 30, .move (.tmp 0), _, _, _, none⟩ (.pointer (some ⟨b, 0, none⟩)) rfl (by kernel_rfl) (fun _ _ _ => id) (E5) (fun W hSW => by go_simp) ?_
 try simp only [Act.put, l0, l1, l2]
 refine tk 1 ⟨some 31, .nilCheck (.tmp 30), _, _, _, none⟩ (.pointer (some ⟨b, 0, none⟩)) rfl (by kernel_rfl) (fun _ _ _ => id) (E5) (fun W hSW => by go_simp) ?_
 try simp only [pu, l0, l1, l2]
 refine tk 2 ⟨some 32, .fieldAddr 108 (.tmp 31) 0, _, _, _, none⟩ (.pointer (some ⟨b, 0, none⟩)) rfl (by kernel_rfl) (fun _ _ _ => id) (E5) (fun W hSW => by go_simp) ?_
 try simp only [pu, l0, l1, l2]
 refine tk 3 ⟨some 33, .load 106 (.tmp 32), _, _, _, none⟩ (.map mb) rfl (by kernel_rfl) (fun _ _ _ => id) (E5) (fun W hSW => by have hv := block_cell (C := [.map mb]) (WaitAt.top hSW.1) 0 _ rfl; go_simp) ?_
 try simp only [pu, l0, l1, l2]
 refine tk 4 ⟨some 34, .load 55 (.tmp 8), _, _, _, none⟩ (.agg (prC m.pk).toArray) rfl (by kernel_rfl) (fun _ _ _ => id) (E5) (fun W hSW => exec_load_mid 55 (.tmp 8) rfl y 0 rfl (prC m.pk) _ hSW.2 Tryz.underlying55 rfl HIp.out) ?_
 try simp only [pu, l0, l1, l2]
 refine tk 5 ⟨some 35, .lookup 106 (.tmp 33) (.tmp 34) true, _, _, _, none⟩ (.tuple #[.agg (msgC D).toArray, .bool sm]) rfl (by kernel_rfl) (fun _ _ _ => id) (E5) (fun W hSW => exec_look2 106 (.tmp 33) (.tmp 34) rfl _ _ rfl rfl _ (HLk.out W hSW.1)) ?_
 try simp only [pu, l0, l1, l2]
 refine tk 6 ⟨some 29, .move (.tmp 35), _, _, _, none⟩ (.tuple #[.agg (msgC D).toArray, .bool sm]) rfl (by kernel_rfl) (fun _ _ _ => id) (E5) (fun W hSW => by go_simp) ?_
 try simp only [pu, l0, l1, l2]
 refine tk 7 ⟨some 36, .extract (.tmp 29) 0, _, _, _, none⟩ (.agg (msgC D).toArray) rfl (by kernel_rfl) (fun _ _ _ => id) (E5) (fun W hSW => by go_simp) ?_
 try simp only [pu, l0, l1, l2]
 refine tk 8 ⟨some 37, .extract (.tmp 29) 1, _, _, _, none⟩ (.bool sm) rfl (by kernel_rfl) (fun _ _ _ => id) (E5) (fun W hSW => by go_simp) ?_
 try simp only [pu, l0, l1, l2]
 refine rd1 9 ⟨some 9, .alloc 52, _, _, _, none⟩ (by kernel_rfl) rfl fun K' hK' => ?_
 go_simp
 have h6 := H5.out.box (msgC zeroMsg).toArray 52
 obtain ⟨z, hzz⟩ : ∃ z, z = w5.heap.size := ⟨_, rfl⟩
 rw [<- hzz] at h6
 rw [<- hzz]
 have H6 := iq h6
 have E6 := HWa.out _ h6.pop
 clear h6 H5
 refine hK'.out _ _ E6 (fun _ => ?_)
 clear hK' K'
 try simp only [Act.put, l0, l1, l2]
 obtain ⟨w6, hw6⟩ : ∃ w6, w6 = w5.alloc (.cells (msgC zeroMsg).toArray 52) := ⟨_, rfl⟩
 rw [<- hw6] at H6 E6
 rw [<- hw6]
 clear hw6 hzz E5
 refine rd1 10 ⟨none, .store 52 (.tmp 9) (.tmp 36), _, _, _, none⟩ (by kernel_rfl) rfl fun K' hK' => ?_
 refine step_store_cells rfl 52 (.tmp 9) (.tmp 36) rfl z 0 (msgC D) rfl rfl (there_block H6.out.hd 0 _ (by rw [msgC_length HDw.out, hzl]; omega)) (info_msg HDw.out) (one_msgC D) ?_
 have H7 : Hid (Fr v (w6.setCells z 0 (msgC D)) (blkT z (msgC D).toArray 52 :: blkT y (prC m.pk).toArray 55 :: blkT x (msgC m).toArray 52 :: waT b mb ws :: loT bl n A C L :: os)) := iq (by have h := H6.out.setAll 0 (msgC D); rw [setAll_all (by rw [msgC_length HDw.out, hzl])] at h; exact h)
 have E7 := HWa.out _ H7.out.pop
 refine hK'.out _ _ E7 (fun _ => ?_)
 clear hK' K' H6
 try simp only [Act.put]
 generalize w6.setCells z 0 (msgC D) = w7 at H7 E7 ⊢
 refine tk 11 ⟨some 10, .assign (.tmp 37), _, _, _, none⟩ (.bool sm) rfl (by kernel_rfl) (fun _ _ _ => id) (E7) (fun W hSW => by go_simp) ?_
 try simp only [Act.put, l0, l1, l2]
 refine wpAnyH_done (by kernel_rfl) ?_ _
 clear E6 E7 hz hzl hzn
 have HP1 : Hid (∀ A c, (putW (chk n L m) ws m).1 = (putW (chk n L m) ws (m.at A c)).1) := iq fun A c => (putW_at _ _ _ A c).symm
 cases sm with
 | true =>
  go_wp2_with fail
  have hsm := HSm.out
  refine bodyPost_ret (results_tmp rfl _ _ _) rfl ⟨mb, none, 0, ?_, ?_⟩
  ·rw [HP1.out none 0, HPW.out, if_pos hsm.symm]; rfl
  ·rw [HPW.out, if_pos hsm.symm]
   exact H7.out.pop.pop.pop
 | false =>
  have hRoom := room_any (H7.out.perm (os' := waT b mb ws :: blkT z (msgC D).toArray 52 :: blkT y (prC m.pk).toArray 55 :: blkT x (msgC m).toArray 52 :: loT bl n A C L :: os) (by simpa using List.perm_middle (l₁ := [blkT z (msgC D).toArray 52, blkT y (prC m.pk).toArray 55, blkT x (msgC m).toArray 52]))) m.pk HPk.out HLe.out
  by_cases hA : cnN m.origin ws < 11
  ·simp only [if_pos (show cnN m.pk.1 ws < 11 from hA)] at hRoom
   have HRoom := iq hRoom
   clear hRoom
   go_wp2_with (((with_reducible refine wpList_load_midG ?_ 55 (.tmp 8) ?_ y 0 ?_ (prC m.pk) _ ?_ Tryz.underlying55 ?_ ?_ ?_); rotate_left; rfl; rfl; exact (range_of H7.out.hd2); rfl; exact HIp.out; rotate_left; rfl))
   refine HRoom.out.mono ?_
   rintro E w8 ⟨rfl, h⟩
   have H8 := iq h
   clear h HRoom
   have HQ8 := iq (HQ.out _ H8.out.pop.pop.pop.pop)
   have x56 : w8.cell? ⟨x, 56, none⟩ = some m.body.qv := block_cell (C := msgC m) H8.out.pop.pop.pop.hd 56 _ (msgC_q m HWm.out)
   rw [MBody.qv] at x56
   obtain ⟨lq, hlq⟩ : ∃ lq, lq = m.body.qs.length := ⟨_, rfl⟩
   have HLq := iq hlq
   have hcl := clone_pairs m.body.qa m.body.qc m.body.qs w8 HQ8.out HN2.out
   rw [<- hlq] at x56 hcl
   have HCl := iq hcl
   clear hlq hcl
   go_wp2_with (go_at_call 56; refine HCl.out.mono ?_)
   rintro E w9 ⟨A', c', rfl, hpr, hb9⟩
   have h9 := H8.out.below hb9
   have HM9 : Hid (Fr v w9 (qT (m.at A' c') :: waT b mb (ws) :: blkT z (msgC D).toArray 52 :: blkT y (prC m.pk).toArray 55 :: blkT x (msgC m).toArray 52 :: loT bl n A C L :: os)) := iq (H8.out.add hb9 (o := qT (m.at A' c')) hpr.1 (qT_ok _) fun k hk => by obtain ⟨h1, o, e⟩ := hk; exact hpr.2 k o h1 e)
   clear h9 hpr hb9 x56 HCl H8
   have y56 : w9.cell? ⟨x, 56, none⟩ = some (.slice m.body.qa lq m.body.qc) := by rw [HLq.out]; exact block_cell (C := msgC m) HM9.out.pop.pop.pop.pop.hd 56 _ (msgC_q m HWm.out)
   have f56 : w9.frozen? ⟨x, 56, none⟩ = false := free_block HM9.out.pop.pop.pop.pop.hd 56
   have HX9 : Hid (Fr v (w9.setCell ⟨x, 56, none⟩ (.slice A' lq c')) (blkT x (msgC (m.at A' c')).toArray 52 :: qT (m.at A' c') :: waT b mb (ws) :: blkT z (msgC D).toArray 52 :: blkT y (prC m.pk).toArray 55 :: loT bl n A C L :: os)) := iq (by
    have h := (HM9.out.perm (os' := blkT x (msgC m).toArray 52 :: qT (m.at A' c') :: waT b mb (ws) :: blkT z (msgC D).toArray 52 :: blkT y (prC m.pk).toArray 55 :: loT bl n A C L :: os) (by simpa using List.perm_middle (l₁ := [qT (m.at A' c'), waT b mb (ws), blkT z (msgC D).toArray 52, blkT y (prC m.pk).toArray 55]))).set 56 (.slice A' lq c')
    rw [HLq.out, msgC_set m HWm.out] at h
    rw [HLq.out]
    exact h)
   have HI9 := iq (info_msg (MMsg.at_wf HWm.out A' c'))
   have HHo := iq (hold_any (HX9.out.perm (os' := qT (m.at A' c') :: waT b mb (ws) :: blkT x (msgC (m.at A' c')).toArray 52 :: blkT z (msgC D).toArray 52 :: blkT y (prC m.pk).toArray 55 :: loT bl n A C L :: os) (by simpa using (List.perm_middle (a := blkT x (msgC (m.at A' c')).toArray 52) (l₁ := [qT (m.at A' c'), waT b mb (ws)])).symm)) (MMsg.at_wf HWm.out A' c') HPk.out HN2.out (show fW ws m.pk = none from Option.isSome_eq_false_iff.1 HSm.out.symm |> Option.isNone_iff_eq_none.1) HLe.out)
   have HPk9 : Hid ((m.at A' c').pk = m.pk) := iq rfl
   clear HM9
   go_wp2_with (first | (((with_reducible refine wpList_load_midG ?_ 55 (.tmp 8) ?_ y 0 ?_ (prC m.pk) _ ?_ Tryz.underlying55 ?_ ?_ ?_); rotate_left; rfl; rfl; exact (range_of HX9.out.pop.pop.pop.pop.hd); rfl; exact HIp.out; rotate_left; rfl)) | (((with_reducible refine wpList_load_midG ?_ 52 (.tmp 5) ?_ x 0 ?_ (msgC (m.at A' c')) _ ?_ Tryz.underlying52 ?_ ?_ ?_); rotate_left; rfl; rfl; exact (range_of HX9.out.hd); rfl; exact HI9.out; rotate_left; rfl)) | (go_at_call 57; refine HHo.out.mono ?_; rintro E w11 ⟨rfl, h⟩; have H11 := iq h; clear h))
   obtain ⟨kk, h12⟩ := H11.out
   refine bodyPost_ret (results_tmp rfl _ _ _) rfl ⟨some kk, A', c', ?_, ?_⟩
   ·rw [HP1.out A' c', HPW.out, if_neg (show ¬ ((fW ws m.pk).isSome = true) by rw [<- HSm.out]; simp), if_pos hA]; rfl
   ·rw [HPW.out, if_neg (show ¬ ((fW ws m.pk).isSome = true) by rw [<- HSm.out]; simp), if_pos hA]
    exact h12.sub (List.Sublist.cons_cons _ ((List.sublist_cons_self _ _).trans ((List.sublist_cons_self _ _).trans (List.sublist_cons_self _ _))))
  by_cases hB : mxN m.origin ws < m.number
  ·simp only [if_neg (show ¬ cnN m.pk.1 ws < 11 from hA), if_pos (show mxN m.pk.1 ws < m.pk.2 from hB)] at hRoom
   have HRoom := iq hRoom
   clear hRoom
   go_wp2_with (first | (((with_reducible refine wpList_load_midG ?_ 55 (.tmp 8) ?_ y 0 ?_ (prC m.pk) _ ?_ Tryz.underlying55 ?_ ?_ ?_); rotate_left; rfl; rfl; exact (range_of H7.out.hd2); rfl; exact HIp.out; rotate_left; rfl)) | (go_at_call 55; refine HRoom.out.mono ?_; rintro E w8 ⟨rfl, h⟩; have H8 := iq h; clear h))
   refine bodyPost_ret (results_tmp rfl _ _ _) rfl ⟨mb, none, 0, ?_, ?_⟩
   ·rw [HP1.out none 0, HPW.out, if_neg (show ¬ ((fW ws m.pk).isSome = true) by rw [<- HSm.out]; simp), if_neg hA, if_pos hB]; rfl
   ·rw [HPW.out, if_neg (show ¬ ((fW ws m.pk).isSome = true) by rw [<- HSm.out]; simp), if_neg hA, if_pos hB]
    exact H8.out.sub (List.Sublist.cons_cons _ ((List.sublist_cons_self _ _).trans ((List.sublist_cons_self _ _).trans (List.sublist_cons_self _ _))))
  ·simp only [if_neg (show ¬ cnN m.pk.1 ws < 11 from hA), if_neg (show ¬ mxN m.pk.1 ws < m.pk.2 from hB)] at hRoom
   have HRoom := iq hRoom
   clear hRoom
   go_wp2_with (((with_reducible refine wpList_load_midG ?_ 55 (.tmp 8) ?_ y 0 ?_ (prC m.pk) _ ?_ Tryz.underlying55 ?_ ?_ ?_); rotate_left; rfl; rfl; exact (range_of H7.out.hd2); rfl; exact HIp.out; rotate_left; rfl))
   refine HRoom.out.mono ?_
   rintro E w8 ⟨rfl, h⟩
   have H8 := iq h
   clear h HRoom
   have HQ8 := iq (HQ.out _ H8.out.pop.pop.pop.pop)
   have x56 : w8.cell? ⟨x, 56, none⟩ = some m.body.qv := block_cell (C := msgC m) H8.out.pop.pop.pop.hd 56 _ (msgC_q m HWm.out)
   rw [MBody.qv] at x56
   obtain ⟨lq, hlq⟩ : ∃ lq, lq = m.body.qs.length := ⟨_, rfl⟩
   have HLq := iq hlq
   have hcl := clone_pairs m.body.qa m.body.qc m.body.qs w8 HQ8.out HN2.out
   rw [<- hlq] at x56 hcl
   have HCl := iq hcl
   clear hlq hcl
   go_wp2_with (go_at_call 56; refine HCl.out.mono ?_)
   rintro E w9 ⟨A', c', rfl, hpr, hb9⟩
   have h9 := H8.out.below hb9
   have HM9 : Hid (Fr v w9 (qT (m.at A' c') :: waT b mb (wdel ws (m.origin, mxN m.origin ws)) :: blkT z (msgC D).toArray 52 :: blkT y (prC m.pk).toArray 55 :: blkT x (msgC m).toArray 52 :: loT bl n A C L :: os)) := iq (H8.out.add hb9 (o := qT (m.at A' c')) hpr.1 (qT_ok _) fun k hk => by obtain ⟨h1, o, e⟩ := hk; exact hpr.2 k o h1 e)
   clear h9 hpr hb9 x56 HCl H8
   have y56 : w9.cell? ⟨x, 56, none⟩ = some (.slice m.body.qa lq m.body.qc) := by rw [HLq.out]; exact block_cell (C := msgC m) HM9.out.pop.pop.pop.pop.hd 56 _ (msgC_q m HWm.out)
   have f56 : w9.frozen? ⟨x, 56, none⟩ = false := free_block HM9.out.pop.pop.pop.pop.hd 56
   have HX9 : Hid (Fr v (w9.setCell ⟨x, 56, none⟩ (.slice A' lq c')) (blkT x (msgC (m.at A' c')).toArray 52 :: qT (m.at A' c') :: waT b mb (wdel ws (m.origin, mxN m.origin ws)) :: blkT z (msgC D).toArray 52 :: blkT y (prC m.pk).toArray 55 :: loT bl n A C L :: os)) := iq (by
    have h := (HM9.out.perm (os' := blkT x (msgC m).toArray 52 :: qT (m.at A' c') :: waT b mb (wdel ws (m.origin, mxN m.origin ws)) :: blkT z (msgC D).toArray 52 :: blkT y (prC m.pk).toArray 55 :: loT bl n A C L :: os) (by simpa using List.perm_middle (l₁ := [qT (m.at A' c'), waT b mb (wdel ws (m.origin, mxN m.origin ws)), blkT z (msgC D).toArray 52, blkT y (prC m.pk).toArray 55]))).set 56 (.slice A' lq c')
    rw [HLq.out, msgC_set m HWm.out] at h
    rw [HLq.out]
    exact h)
   have HI9 := iq (info_msg (MMsg.at_wf HWm.out A' c'))
   have HHo := iq (hold_any (HX9.out.perm (os' := qT (m.at A' c') :: waT b mb (wdel ws (m.origin, mxN m.origin ws)) :: blkT x (msgC (m.at A' c')).toArray 52 :: blkT z (msgC D).toArray 52 :: blkT y (prC m.pk).toArray 55 :: loT bl n A C L :: os) (by simpa using (List.perm_middle (a := blkT x (msgC (m.at A' c')).toArray 52) (l₁ := [qT (m.at A' c'), waT b mb (wdel ws (m.origin, mxN m.origin ws))])).symm)) (MMsg.at_wf HWm.out A' c') HPk.out HN2.out (by have h := fW_del ws (m.origin, mxN m.origin ws); have h2 := congrFun h m.pk; unfold updP at h2; split at h2; exact h2; rw [show fW ws m.pk = none from Option.isNone_iff_eq_none.1 (Option.isSome_eq_false_iff.1 HSm.out.symm)] at h2; exact h2) (Nat.le_trans (List.length_filter_le _ _) HLe.out))
   have HPk9 : Hid ((m.at A' c').pk = m.pk) := iq rfl
   clear HM9
   go_wp2_with (first | (((with_reducible refine wpList_load_midG ?_ 55 (.tmp 8) ?_ y 0 ?_ (prC m.pk) _ ?_ Tryz.underlying55 ?_ ?_ ?_); rotate_left; rfl; rfl; exact (range_of HX9.out.pop.pop.pop.pop.hd); rfl; exact HIp.out; rotate_left; rfl)) | (((with_reducible refine wpList_load_midG ?_ 52 (.tmp 5) ?_ x 0 ?_ (msgC (m.at A' c')) _ ?_ Tryz.underlying52 ?_ ?_ ?_); rotate_left; rfl; rfl; exact (range_of HX9.out.hd); rfl; exact HI9.out; rotate_left; rfl)) | (go_at_call 57; refine HHo.out.mono ?_; rintro E w11 ⟨rfl, h⟩; have H11 := iq h; clear h))
   obtain ⟨kk, h12⟩ := H11.out
   refine bodyPost_ret (results_tmp rfl _ _ _) rfl ⟨some kk, A', c', ?_, ?_⟩
   ·rw [HP1.out A' c', HPW.out, if_neg (show ¬ ((fW ws m.pk).isSome = true) by rw [<- HSm.out]; simp), if_neg hA, if_neg hB]; rfl
   ·rw [HPW.out, if_neg (show ¬ ((fW ws m.pk).isSome = true) by rw [<- HSm.out]; simp), if_neg hA, if_neg hB]
    exact h12.sub (List.Sublist.cons_cons _ ((List.sublist_cons_self _ _).trans ((List.sublist_cons_self _ _).trans (List.sublist_cons_self _ _))))
end Go.Proofs.YtllbbcifcbkgeaaGreatDoor.Sh
