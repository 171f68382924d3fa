/- Laws and walks. -/
import Derived.Test.YtllbbcifcbkgeaaGreatDoorH4a
set_option maxHeartbeats 16000000
set_option maxRecDepth 100000
namespace Go.Proofs.YtllbbcifcbkgeaaGreatDoor.Sh
open Go.RowKit
theorem eqW_nil (W : World) : (binOp BinOp.eql 106 (.map none) (.map none)).run Tryz.prog W = .ok (.bool true) W := by kernel_rfl
theorem eqW_some (b : Nat) (W : World) : (binOp BinOp.eql 106 (.map (some b)) (.map none)).run Tryz.prog W = .ok (.bool false) W := by kernel_rfl
theorem make_wmap (W : World) : (Instr.makeMap 106 none).run Tryz.prog W = .ok (.map (some W.heap.size)) (W.alloc (.map #[] 0)) := by kernel_rfl
theorem Fr.swap22 {v W : World} {a b c d : Thing} {os : List Thing} (H : Fr v W (a :: b :: c :: d :: os)) : Fr v W (c :: d :: a :: b :: os) := H.perm ((List.perm_append_comm (l₁ := [a, b]) (l₂ := [c, d])).append_right os)
theorem Fr.drop23 {v W : World} {a b c : Thing} {os : List Thing} (H : Fr v W (a :: b :: c :: os)) : Fr v W (a :: os) := H.sub (((List.sublist_cons_self _ _).trans (List.sublist_cons_self _ _)).cons_cons _)
theorem info_pair (p : Int × Nat) : (Tryz.prog.info? 55).map (·.size) = some (prC p).length := by kernel_rfl
theorem hold_some {v W : World} {os : List Thing} {b k : Nat} {ws : List MMsg} {m : MMsg} (H : Fr v W (qT m :: waT b (some k) ws :: os)) (hm : m.Wf) (hp : PkOk m.pk) (hq : m.body.qs.length <= 1000000) (hn : fW ws m.pk = none) (hs : ws.length <= 1000000) :
  Calls Tryz.prog 57 #[.pointer (some ⟨b, 0, none⟩), kv m.pk, .agg (msgC m).toArray] W fun E W' => E = .returned (.tuple #[]) /\ Fr v W' (waT b (some k) (ws ++ [m]) :: os) := by
 have H2 := iq ((H.box (prC m.pk).toArray 55).box' (k := W.heap.size + 1) (by simp) (msgC m).toArray 52)
 have HIp := iq (info_pair m.pk)
 have HIm := iq (info_msg hm)
 have HWm := iq hm
 have HPk := iq hp
 have HQ := iq hq
 have HNo := iq hn
 have HLe := iq hs
 have hc : ((W.alloc (.cells (prC m.pk).toArray 55)).alloc (.cells (msgC m).toArray 52)).cell? ⟨b, 0, none⟩ = some (.map (some k)) := block_cell (C := [.map (some k)]) (WaitAt.top H2.out.pop.pop.pop.hd) 0 _ rfl
 have he := eqW_some k
 rw [kv]
 clear H hm hp hq hn hs
 go_enter Tryz.func57, Tryz.ntmps57
 go_wp2_with fail
 obtain ⟨x, hx⟩ : ∃ x, x = W.heap.size := ⟨_, rfl⟩
 obtain ⟨y, hy⟩ : ∃ y, y = W.heap.size + 1 := ⟨_, rfl⟩
 rw [<- hy, <- hx] at H2
 rw [<- hy, <- hx]
 clear hc he hx hy
 have HEV : Hid (∀ W, Fr v W (blkT y (msgC m).toArray 52 :: blkT x (prC m.pk).toArray 55 :: qT m :: waT b (some k) ws :: os) -> W.cell? ⟨b, 0, none⟩ = some (.map (some k)) /\ W.rangeAt x 0 (prC m.pk) /\ W.rangeAt y 0 (msgC m)) := iq fun W hf => ⟨block_cell (C := [.map (some k)]) (WaitAt.top hf.pop.pop.pop.hd) 0 _ rfl, range_of hf.hd2, range_of hf.hd⟩
 refine wp_region_any (by kernel_rfl) ?_
 change wpAny _ _ _ _ _ _ _ (World.drewN _ 1)
 refine held_gen (G := fun W' => wpAny _ _ _ _ _ _ _ W') (fun W' => Fr v W' (blkT y (msgC m).toArray 52 :: blkT x (prC m.pk).toArray 55 :: qT m :: waT b (some k) ws :: os)) (H2.out.drewN 1) (fun y0 hw => ?_)
 have H8 := iq hw
 clear hw H2
 refine wpAny_of_held (S := fun W => W.cell? ⟨b, 0, none⟩ = some (.map (some k)) /\ W.rangeAt x 0 (prC m.pk) /\ W.rangeAt y 0 (msgC m)) _ _ _ _ ?_
 refine tk 0 ⟨some 15, .move (.tmp 0), _, _, _, none⟩ (.pointer (some ⟨b, 0, none⟩)) rfl (by kernel_rfl) (fun _ _ _ => id) (HEV.out _ H8.out) (fun W hSW => by go_simp) ?_
 try simp only [Act.put, l0, l1, l2]
 refine tk 1 ⟨some 16, .nilCheck (.tmp 15), _, _, _, none⟩ (.pointer (some ⟨b, 0, none⟩)) rfl (by kernel_rfl) (fun _ _ _ => id) (HEV.out _ H8.out) (fun W hSW => by go_simp) ?_
 try simp only [pu, l0, l1, l2]
 refine tk 2 ⟨some 17, .fieldAddr 108 (.tmp 16) 0, _, _, _, none⟩ (.pointer (some ⟨b, 0, none⟩)) rfl (by kernel_rfl) (fun _ _ _ => id) (HEV.out _ H8.out) (fun W hSW => by go_simp) ?_
 try simp only [pu, l0, l1, l2]
 refine tk 3 ⟨some 18, .load 106 (.tmp 17), _, _, _, none⟩ (.map (some k)) rfl (by kernel_rfl) (fun _ _ _ => id) (HEV.out _ H8.out) (fun W hSW => by have hv := hSW.1; go_simp) ?_
 try simp only [pu, l0, l1, l2]
 refine tk 4 ⟨some 19, .load 55 (.tmp 4), _, _, _, none⟩ (.agg (prC m.pk).toArray) rfl (by kernel_rfl) (fun _ _ _ => id) (HEV.out _ H8.out) (fun W hSW => exec_load_mid 55 (.tmp 4) rfl x 0 rfl (prC m.pk) _ hSW.2.1 Tryz.underlying55 rfl HIp.out) ?_
 try simp only [pu, l0, l1, l2]
 refine tk 5 ⟨some 20, .load 52 (.tmp 5), _, _, _, none⟩ (.agg (msgC m).toArray) rfl (by kernel_rfl) (fun _ _ _ => id) (HEV.out _ H8.out) (fun W hSW => exec_load_mid 52 (.tmp 5) rfl y 0 rfl (msgC m) _ hSW.2.2 Tryz.underlying52 rfl HIm.out) ?_
 try simp only [pu, l0, l1, l2]
 refine rd1 6 ⟨none, .mapUpdate 106 (.tmp 18) (.tmp 19) (.tmp 20), _, _, _, none⟩ (by kernel_rfl) rfl fun K' hK' => ?_
 obtain ⟨W', r1, h9, _⟩ := wait_put H8.out.swap22 HWm.out HPk.out HQ.out HNo.out HLe.out
 have H9 := iq h9
 refine step_mapUpdate rfl (.tmp 18) (.tmp 19) (.tmp 20) 106 rfl _ _ _ rfl rfl rfl W' r1 ?_
 refine hK'.out _ _ ⟨block_cell (C := [.map (some k)]) (WaitAt.top H9.out.hd) 0 _ rfl, range_of H9.out.hd3, range_of H9.out.hd2⟩ (fun _ => ?_)
 clear hK' K' r1 h9
 refine wpAnyH_done (by kernel_rfl) ?_ _
 go_wp2_with fail
 try simp only [Exit.inBlock, Exit.then]
 exact bodyPost_end (results_none rfl _ _ _) rfl ⟨rfl, H9.out.drop23⟩
theorem hold_none {v W : World} {os : List Thing} {b : Nat} {m : MMsg} (H : Fr v W (qT m :: waT b none [] :: os)) (hm : m.Wf) (hp : PkOk m.pk) (hq : m.body.qs.length <= 1000000) :
  Calls Tryz.prog 57 #[.pointer (some ⟨b, 0, none⟩), kv m.pk, .agg (msgC m).toArray] W fun E W' => E = .returned (.tuple #[]) /\ ∃ k, Fr v W' (waT b (some k) [m] :: os) := by
 have H2 := iq ((H.box (prC m.pk).toArray 55).box' (k := W.heap.size + 1) (by simp) (msgC m).toArray 52)
 have HIp := iq (info_pair m.pk)
 have HIm := iq (info_msg hm)
 have HWm := iq hm
 have HPk := iq hp
 have HQ := iq hq
 have HNo : Hid (fW [] m.pk = none) := iq rfl
 have HLe : Hid (([] : List MMsg).length <= 1000000) := iq (by decide)
 obtain ⟨W2, hW2⟩ : ∃ X, X = (W.alloc (.cells (prC m.pk).toArray 55)).alloc (.cells (msgC m).toArray 52) := ⟨_, rfl⟩
 have hsz : W2.heap.size = W.heap.size + 1 + 1 := by rw [hW2]; simp
 have hc : ((W.alloc (.cells (prC m.pk).toArray 55)).alloc (.cells (msgC m).toArray 52)).cell? ⟨b, 0, none⟩ = some (.map none) := block_cell (C := [.map none]) (WaitAt.top H2.out.pop.pop.pop.hd) 0 _ rfl
 have h3 := wait_made (by have := H2.out.swap22.swap; rw [<- hW2] at this; exact this)
 have hc2 : (((W.alloc (.cells (prC m.pk).toArray 55)).alloc (.cells (msgC m).toArray 52)).alloc (.map #[] 0)).cell? ⟨b, 0, none⟩ = some (.map none) := block_cell (C := [.map none]) (WaitAt.top ((H2.out.below (bl.alloc (Nat.le_refl _) (.map #[] 0))).pop.pop.pop.hd)) 0 _ rfl
 have hf2 : (((W.alloc (.cells (prC m.pk).toArray 55)).alloc (.cells (msgC m).toArray 52)).alloc (.map #[] 0)).frozen? ⟨b, 0, none⟩ = false := free_block (C := #[.map none]) (WaitAt.top ((H2.out.below (bl.alloc (Nat.le_refl _) (.map #[] 0))).pop.pop.pop.hd)) 0
 have H3 := iq h3.swap.swap22
 have HW2 := iq hW2
 have he := eqW_nil
 have hmk := make_wmap
 rw [kv]
 have hSz := iq hsz
 clear H hm hp hq h3 H2 hW2 hsz
 go_enter Tryz.func57, Tryz.ntmps57
 go_wp2_with fail
 have h4 := H3.out
 rw [hSz.out, HW2.out] at h4
 have H4 := iq h4
 clear H3 h4 HW2 hSz hc hc2 hf2 he hmk W2
 obtain ⟨W3, hW3⟩ : ∃ X, X = (((W.alloc (.cells (prC m.pk).toArray 55)).alloc (.cells (msgC m).toArray 52)).alloc (.map #[] 0)).setCell ⟨b, 0, none⟩ (.map (some (W.heap.size + 1 + 1))) := ⟨_, rfl⟩
 rw [<- hW3] at H4 ⊢
 obtain ⟨k, hk⟩ : ∃ k, k = W.heap.size + 1 + 1 := ⟨_, rfl⟩
 rw [<- hk] at H4 ⊢
 obtain ⟨y, hy⟩ : ∃ y, y = W.heap.size + 1 := ⟨_, rfl⟩
 obtain ⟨x, hx⟩ : ∃ x, x = W.heap.size := ⟨_, rfl⟩
 rw [<- hy, <- hx] at H4 ⊢
 clear hW3 hk hy hx
 have HEV : Hid (∀ W, Fr v W (blkT y (msgC m).toArray 52 :: blkT x (prC m.pk).toArray 55 :: qT m :: waT b (some k) [] :: os) -> W.cell? ⟨b, 0, none⟩ = some (.map (some k)) /\ W.rangeAt x 0 (prC m.pk) /\ W.rangeAt y 0 (msgC m)) := iq fun W hf => ⟨block_cell (C := [.map (some k)]) (WaitAt.top hf.pop.pop.pop.hd) 0 _ rfl, range_of hf.hd2, range_of hf.hd⟩
 refine wp_region_any (by kernel_rfl) ?_
 change wpAny _ _ _ _ _ _ _ (World.drewN _ 1)
 refine held_gen (G := fun W' => wpAny _ _ _ _ _ _ _ W') (fun W' => Fr v W' (blkT y (msgC m).toArray 52 :: blkT x (prC m.pk).toArray 55 :: qT m :: waT b (some k) [] :: os)) (H4.out.drewN 1) (fun y0 hw => ?_)
 have H8 := iq hw
 clear hw H4
 refine wpAny_of_held (S := fun W => W.cell? ⟨b, 0, none⟩ = some (.map (some k)) /\ W.rangeAt x 0 (prC m.pk) /\ W.rangeAt y 0 (msgC m)) _ _ _ _ ?_
 refine tk 0 ⟨some 15, .move (.tmp 0), _, _, _, none⟩ (.pointer (some ⟨b, 0, none⟩)) rfl (by kernel_rfl) (fun _ _ _ => id) (HEV.out _ H8.out) (fun W hSW => by go_simp) ?_
 try simp only [Act.put, l0, l1, l2]
 refine tk 1 ⟨some 16, .nilCheck (.tmp 15), _, _, _, none⟩ (.pointer (some ⟨b, 0, none⟩)) rfl (by kernel_rfl) (fun _ _ _ => id) (HEV.out _ H8.out) (fun W hSW => by go_simp) ?_
 try simp only [pu, l0, l1, l2]
 refine tk 2 ⟨some 17, .fieldAddr 108 (.tmp 16) 0, _, _, _, none⟩ (.pointer (some ⟨b, 0, none⟩)) rfl (by kernel_rfl) (fun _ _ _ => id) (HEV.out _ H8.out) (fun W hSW => by go_simp) ?_
 try simp only [pu, l0, l1, l2]
 refine tk 3 ⟨some 18, .load 106 (.tmp 17), _, _, _, none⟩ (.map (some k)) rfl (by kernel_rfl) (fun _ _ _ => id) (HEV.out _ H8.out) (fun W hSW => by have hv := hSW.1; go_simp) ?_
 try simp only [pu, l0, l1, l2]
 refine tk 4 ⟨some 19, .load 55 (.tmp 4), _, _, _, none⟩ (.agg (prC m.pk).toArray) rfl (by kernel_rfl) (fun _ _ _ => id) (HEV.out _ H8.out) (fun W hSW => exec_load_mid 55 (.tmp 4) rfl x 0 rfl (prC m.pk) _ hSW.2.1 Tryz.underlying55 rfl HIp.out) ?_
 try simp only [pu, l0, l1, l2]
 refine tk 5 ⟨some 20, .load 52 (.tmp 5), _, _, _, none⟩ (.agg (msgC m).toArray) rfl (by kernel_rfl) (fun _ _ _ => id) (HEV.out _ H8.out) (fun W hSW => exec_load_mid 52 (.tmp 5) rfl y 0 rfl (msgC m) _ hSW.2.2 Tryz.underlying52 rfl HIm.out) ?_
 try simp only [pu, l0, l1, l2]
 refine rd1 6 ⟨none, .mapUpdate 106 (.tmp 18) (.tmp 19) (.tmp 20), _, _, _, none⟩ (by kernel_rfl) rfl fun K' hK' => ?_
 obtain ⟨W', r1, h9, _⟩ := wait_put H8.out.swap22 HWm.out HPk.out HQ.out HNo.out HLe.out
 have H9 := iq h9
 refine step_mapUpdate rfl (.tmp 18) (.tmp 19) (.tmp 20) 106 rfl _ _ _ rfl rfl rfl W' r1 ?_
 refine hK'.out _ _ ⟨block_cell (C := [.map (some k)]) (WaitAt.top H9.out.hd) 0 _ rfl, range_of H9.out.hd3, range_of H9.out.hd2⟩ (fun _ => ?_)
 clear hK' K' r1 h9
 refine wpAnyH_done (by kernel_rfl) ?_ _
 go_wp2_with fail
 try simp only [Exit.inBlock, Exit.then]
 exact bodyPost_end (results_none rfl _ _ _) rfl ⟨rfl, k, H9.out.drop23⟩
end Go.Proofs.YtllbbcifcbkgeaaGreatDoor.Sh
