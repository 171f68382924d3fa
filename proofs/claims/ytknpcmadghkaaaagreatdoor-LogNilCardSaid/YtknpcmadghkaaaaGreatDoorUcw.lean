/- Laws and walks. -/
import Derived.Test.YtknpcmadghkaaaaGreatDoorUbw
set_option maxHeartbeats 16000000
set_option maxRecDepth 100000
namespace Go.Proofs.YtknpcmadghkaaaaGreatDoor.Sh
open Go.RowKit
structure PrAt (w : World) (m : MMsg) (g bq o : Nat) (x : Int) (y : Nat) (W : World) : Prop where
 bd : BdAt w m g W
 p0 : W.cell? ⟨bq, o, none⟩ = some (.int .i64 x)
 p1 : W.cell? ⟨bq, o + 1, none⟩ = some (.int .u64 (y : Int))
 lo : bq < w.heap.size
theorem PrAt.next {w : World} {m : MMsg} {g bq o B : Nat} {x : Int} {y : Nat} {W W' : World} (H : PrAt w m g bq o x y W) (hb : Below B W W') (hB : g < B) : PrAt w m g bq o x y W' :=
 have h1 : bq < B := by have := H.lo; have := H.bd.low; omega
 ⟨H.bd.next hb hB, (hb.cell (p := ⟨bq, o, none⟩) h1).trans H.p0, (hb.cell (p := ⟨bq, o + 1, none⟩) h1).trans H.p1, H.lo⟩
theorem PrAt.drewN {w : World} {m : MMsg} {g bq o : Nat} {x : Int} {y : Nat} {W : World} (H : PrAt w m g bq o x y W) (q : Nat) : PrAt w m g bq o x y (W.drewN q) := ⟨H.bd.drewN q, H.p0, H.p1, H.lo⟩
theorem PrAt.fresh {w : World} {m : MMsg} {g bq o n : Nat} {x : Int} {y : Nat} {W W' : World} {v : Value} {xs : List Value} (H : PrAt w m g bq o x y W) (ho : W.ownsRow (g + 1) 5 1 v n xs) (hg : W.grownBy W' v.ownBlock) : PrAt w m g bq o x y W' :=
 have hx : ∀ p : Addr, p.block = bq -> ¬ (some p.block = v.ownBlock) := fun p hp e => by have := (ho.lt _ e.symm).1; have := H.lo; have := H.bd.low; omega
 ⟨H.bd.fresh ho hg, hg.cell H.p0 (hx _ rfl), hg.cell H.p1 (hx _ rfl), H.lo⟩
theorem bytesr_4 (m : MMsg) (w : World) (hm : m.Wf) (ho : isRepl m.origin = true) (HKI : Hid (m.body.kind = 4)) (h11 : m.body.qs.length <= 11) (hrep : ∀ p ∈ m.body.qs, 1 <= p.1 /\ p.1 <= 11) (hq : Prs w m.body.qa m.body.qs)
  (HM : Hid (∀ W, Below w.heap.size w W -> Calls Tryz.prog 41 #[.agg (msgC m).toArray] W fun E w' => E = .returned (.bool true) /\ Hid (Below W.heap.size W w'))) :
  Calls Tryz.prog 55 #[.agg (msgC m).toArray] w fun E w' => ∃ A' n' c', E = .returned (.slice A' n' c') /\ Ow w.heap.size w' A' n' c' (byteOf m.origin :: (depsB m.deps ++ (m.body.kind :: (be 8 m.body.view ++ (byteOf (m.body.qs.length : Int) :: pairsB m.body.qs))))) /\ Hid (Below w.heap.size w w') := by
 have HI : Hid ((Tryz.prog.info? 39).map (·.size) = some (msgC m).length) := iq (by rw [msgC_length hm]; exact Tryz.is39)
 have HJ : Hid ((Tryz.prog.info? 35).map (·.size) = some (bodyC m.body).length) := iq (by rw [bodyC_length hm.2.1]; exact Tryz.is35)
 have HL : Hid (RqAt w.heap.size w (msgC m) (w.alloc (.cells (msgC m).toArray 39))) := iq ⟨bl.alloc (Nat.le_refl _) _, by simp, range_box w (msgC m) 39⟩
 have HMW := iq hm
 have HL11 := iq hm.1
 have hu : IntKind.u8.wrap m.origin = ((byteOf m.origin).toNat : Int) := u8_wrap (by simp only [isRepl, decide_eq_true_eq] at ho; omega)
 have hz : ∀ w, (zeroValue 35).run Tryz.prog w = .ok (.agg (bodyC zeroBody).toArray) w := zero_body
 have HLE : Hid (0 + (bodyC m.body).length <= (bodyC zeroBody).length /\ setAll (bodyC zeroBody) 0 (bodyC m.body) = bodyC m.body) := iq ⟨by rw [bodyC_length zero_wf, bodyC_length hm.2.1]; omega, setAll_all (by rw [bodyC_length zero_wf, bodyC_length hm.2.1])⟩
 have HQP := iq hq
 have HRP := iq hrep
 obtain ⟨k, hk⟩ : ∃ k, m.body.qs.length = k := ⟨_, rfl⟩
 have HKQ := iq hk
 have hwm : IntKind.u8.wrap (k : Int) = ((byteOf (k : Int)).toNat : Int) := u8_wrap (by omega)
 rw [hk] at h11 ⊢
 clear hq hrep hk
 clear hm ho
 go_enter Tryz.func55, Tryz.ntmps55
 go_wp2_with (first | ((with_reducible refine wpList_load_midG ?_ 39 (.tmp 1) ?_ w.heap.size 0 ?_ (msgC m) _ ?_ Tryz.underlying39 ?_ ?_ ?_); rotate_left; rfl; rfl; exact HL.out.src; rfl; exact HI.out; rotate_left; rfl) | (go_at_call 41; refine (HM.out _ HL.out.bel).mono ?_; rintro E w1 ⟨rfl, hb1⟩; have HL1 := iq (HL.out.next (Nat.le_refl _) hb1.out); have o0 : w1.cell? ⟨w.heap.size, 0, none⟩ = some (.int .i64 m.origin) := (msg_lies HL1.out.src HMW.out).origin))
 have D1 : Hid (RqAt w.heap.size w (msgC m) (w1.alloc (.cells #[.int .u8 ((byteOf m.origin).toNat : Int)] 5)) /\ Ow (w.heap.size + 1) (w1.alloc (.cells #[.int .u8 ((byteOf m.origin).toNat : Int)] 5)) (some ⟨w1.heap.size, 0, none⟩) 1 1 ([byteOf m.origin] ++ depsB (m.deps.take 0))) := iq ⟨HL1.out.next (Nat.le_refl _) (bl.alloc (Nat.le_refl _) _), ⟨by
  simpa [depsB, u8s] using World.ownsRow_lit w1 #[.int .u8 ((byteOf m.origin).toNat : Int)] 1 (base := w.heap.size + 1) (e := 5) (size := 1) (by have := HL1.out.lt; omega) (by unfold maxLen; omega) rfl, sl_1⟩⟩
 clear HL hb1 o0 hu
 generalize w1.alloc (.cells #[.int .u8 ((byteOf m.origin).toNat : Int)] 5) = w2 at D1 ⊢
 generalize w1.heap.size = g2 at D1 ⊢
 go_loopw [3, 4] (fun v3 v4 wr => ∃ j : Nat, j <= 11 /\ v4 = .int .i64 (j : Int) /\ ∃ A0 n0 c0, v3 = .slice A0 n0 c0 /\ n0 <= 1 + 8 * j /\ Hid (RqAt w.heap.size w (msgC m) wr /\ Ow (w.heap.size + 1) wr A0 n0 c0 ([byteOf m.origin] ++ depsB (m.deps.take j)))) (fun _ v4 _ => 11 - (intOf v4).toNat)
 case atStart => exact ⟨0, by omega, rfl, _, _, _, rfl, by omega, D1⟩
 case round =>
  clear D1
  obtain ⟨j, hj, rfl, A0, n0, c0, rfl, hn0, D⟩ := hrel
  by_cases hjj : j < 11
  ·obtain ⟨x, hx⟩ : ∃ x, m.deps[j]? = some x := ⟨_, List.getElem?_eq_getElem (by rw [HL11.out]; exact hjj)⟩
   have HT := iq (depsB_take hx)
   have cx : wr.cell? ⟨w.heap.size, 2 + j, none⟩ = some (.int .u64 (x : Int)) := (msg_lies D.out.1.src HMW.out).deps j _ (by simp [u64s, hx])
   clear hx
   go_wp2_with (go_at_call 84; refine (rword_ow x D.out.2 (by omega)).mono ?_; rintro E w7 ⟨A7, n7, c7, rfl, H7, hb7⟩; have O7 := iq H7; clear H7)
   go_roundw
   case measure => simp [intOf] <;> omega
   case rel => exact ⟨j + 1, by omega, by go_num, _, _, _, rfl, by
       have h1 := O7.out.len
       have h2 := D.out.2.len
       rw [List.length_append, h2, be_length] at h1
       omega, iq ⟨D.out.1.next (Nat.le_refl _) hb7.out, by rw [HT.out, <- List.append_assoc]; exact O7.out.low (by have := D.out.1.lt; omega)⟩⟩
  ·obtain rfl : j = 11 := by omega
   have O3 : Hid (Ow (w.heap.size + 1) wr A0 n0 c0 ([byteOf m.origin] ++ depsB m.deps) /\ ∀ k, (Value.slice A0 n0 c0).ownBlock = some k -> k < wr.heap.size) := iq ⟨by have := D.out.2; rwa [List.take_of_length_le (by rw [HL11.out]; exact Nat.le_refl _)] at this, fun k hk => (D.out.2.1.lt k hk).2⟩
   have HN : Hid ((wr.alloc (.cells (bodyC zeroBody).toArray 35)).heap[wr.heap.size]? = some (.cells (bodyC zeroBody).toArray 35 (0, 0))) := iq (heap_alloc_new wr _)
   go_wp2_with (first | ((with_reducible refine wpList_load_midG ?_ 35 (.tmp 24) ?_ w.heap.size 13 ?_ (bodyC m.body) _ ?_ Tryz.underlying35 ?_ ?_ ?_); rotate_left; rfl; rfl; exact (msg_lies D.out.1.src HMW.out).body.all; rfl; exact HJ.out; rotate_left; rfl) | (refine wpList_store_part rfl 35 (.tmp 5) (.tmp 25) rfl wr.heap.size 0 (bodyC zeroBody) (bodyC m.body) (bodyC m.body) 35 HN.out HLE.out.1 HLE.out.2 rfl rfl HJ.out (one_bodyC _) ?_; intro wb Gb; have BB : Hid (Below wr.heap.size wr wb) := iq ((bl.alloc (Nat.le_refl _) _).grown Gb.out.2 (by simp) (fun k hk => by injection hk with hk; omega)); have DB : Hid (BdAt w m wr.heap.size wb /\ Ow (w.heap.size + 1) wb A0 n0 c0 ([byteOf m.origin] ++ depsB m.deps)) := iq ⟨⟨D.out.1.next (Nat.le_refl _) BB.out, range_of Gb.out.1, (Array.getElem?_eq_some_iff.1 Gb.out.1).1, D.out.1.lt⟩, O3.out.1.below BB.out⟩; have b0 : wb.cell? ⟨wr.heap.size, 0, none⟩ = some (.int .u8 4) := (body_lies DB.out.1.src HMW.out.2.1).kind.trans (by rw [HKI.out]; rfl)) | (at_builtin; (refine wpList_append_made rfl (.tmp 26) (.tmp 29) rfl (w.heap.size + 1) n0 1 wb.heap.size (.slice A0 n0 c0) ([byteOf m.origin] ++ depsB m.deps) [4] _ rfl rfl rfl DB.out.2.1 (by have := DB.out.1.lt; have := DB.out.1.low; omega) rfl rfl (by omega) ?_); intro A4 c4 w4 K4 G4; have D4 : Hid (BdAt w m wr.heap.size w4) := iq ⟨DB.out.1.rq.fresh (Nat.le_refl _) DB.out.2.1 G4.out, fun j v hv => G4.out.cell (DB.out.1.src j v hv) (fun e => by have := O3.out.2 _ e.symm; simp at this), Nat.lt_of_lt_of_le DB.out.1.lt G4.out.size, DB.out.1.low⟩; have O4 : Hid (Ow (w.heap.size + 1) w4 A4 (n0 + 1) c4 ([byteOf m.origin] ++ depsB m.deps ++ [4])) := iq ⟨K4.out.1, K4.out.2⟩; have ew40 : w4.cell? ⟨wr.heap.size, 0, none⟩ = some (.int .u8 4) := (body_lies D4.out.src HMW.out.2.1).kind.trans (by rw [HKI.out]; rfl); have ew41 : w4.cell? ⟨wr.heap.size, 1, none⟩ = some (.int .u64 (m.body.view : Int)) := (body_lies D4.out.src HMW.out.2.1).view; have ew42 : w4.cell? ⟨wr.heap.size, 2, none⟩ = some (.int .u64 (m.body.k : Int)) := (body_lies D4.out.src HMW.out.2.1).k) | (go_at_call 84; (with_reducible refine (rword_ow m.body.view O4.out (by omega)).mono ?_); rintro E w5 ⟨Aw5, nw5, cw5, rfl, Hw5, hbw5⟩; have Ow5 := iq Hw5; have lw5 := Hw5.len; clear Hw5; have Dw5 : Hid (BdAt w m wr.heap.size w5) := iq (D4.out.next hbw5.out D4.out.lt); have ew50 : w5.cell? ⟨wr.heap.size, 0, none⟩ = some (.int .u8 4) := (body_lies Dw5.out.src HMW.out.2.1).kind.trans (by rw [HKI.out]; rfl); have ew51 : w5.cell? ⟨wr.heap.size, 1, none⟩ = some (.int .u64 (m.body.view : Int)) := (body_lies Dw5.out.src HMW.out.2.1).view; have ew52 : w5.cell? ⟨wr.heap.size, 2, none⟩ = some (.int .u64 (m.body.k : Int)) := (body_lies Dw5.out.src HMW.out.2.1).k; have qw5 : w5.cell? ⟨wr.heap.size, 43, none⟩ = some (.slice m.body.qa k m.body.qc) := ((body_lies Dw5.out.src HMW.out.2.1).q).trans (by rw [MBody.qv, HKQ.out]); simp only [List.length_append, be_length, List.length_cons, List.length_nil, depsB_len, HL11.out] at lw5) | (at_builtin; (refine wpList_append_made rfl (.tmp 58) (.tmp 63) rfl (wr.heap.size + 1) nw5 1 w5.heap.size (.slice Aw5 nw5 cw5) ([byteOf m.origin] ++ depsB m.deps ++ [4] ++ be 8 m.body.view) [byteOf (k : Int)] _ rfl rfl rfl (Ow5.out.low (by have := D4.out.lt; omega)).1 (by have := Dw5.out.lt; omega) rfl rfl (by omega) ?_); intro A6 c6 w6 K6 G6; have D6 : Hid (BdAt w m wr.heap.size w6) := iq (Dw5.out.fresh (Ow5.out.low (B' := wr.heap.size + 1) (by have := D4.out.lt; omega)).1 G6.out); have q6 : w6.cell? ⟨wr.heap.size, 43, none⟩ = some (.slice m.body.qa k m.body.qc) := ((body_lies D6.out.src HMW.out.2.1).q).trans (by rw [MBody.qv, HKQ.out])))
   clear hwm
   have D7 : Hid (BdAt w m wr.heap.size w6 /\ Ow (wr.heap.size + 1) w6 A6 (nw5 + 1) c6 ([byteOf m.origin] ++ depsB m.deps ++ [4] ++ be 8 m.body.view ++ [byteOf (k : Int)] ++ pairsB (m.body.qs.take 0))) := iq ⟨D6.out, by rw [List.take_zero, pairsB, List.flatMap_nil, List.append_nil]; exact K6.out⟩
   have hn6 : nw5 + 1 <= 200 := by omega
   generalize nw5 + 1 = n6 at D7 hn6 ⊢
   generalize hgg : wr.heap.size = g at D7 q6 ⊢
   clear K6 G6 D6 q6 O4
   go_loopw [3, 6] (fun v3 v6 wq => ∃ j : Nat, j <= k /\ v6 = .int .i64 (j : Int) /\ ∃ A0 n0 c0, v3 = .slice A0 n0 c0 /\ n0 <= 200 + 9 * j /\ Hid (BdAt w m g wq /\ Ow (g + 1) wq A0 n0 c0 ([byteOf m.origin] ++ depsB m.deps ++ [4] ++ be 8 m.body.view ++ [byteOf (k : Int)] ++ pairsB (m.body.qs.take j)))) (fun _ v6 _ => k - (intOf v6).toNat)
   case atStart => exact ⟨0, by omega, rfl, _, _, _, rfl, by omega, D7⟩
   case round =>
    clear D7 hn6
    obtain ⟨j, hj, rfl, A7, n7, c7, rfl, hn7, T⟩ := hrel
    have q7 : wr.cell? ⟨g, 43, none⟩ = some (.slice m.body.qa k m.body.qc) := ((body_lies T.out.1.src HMW.out.2.1).q).trans (by rw [MBody.qv, HKQ.out])
    by_cases hjk : j < k
    ·obtain ⟨p, hp⟩ : ∃ p, m.body.qs[j]? = some p := ⟨_, List.getElem?_eq_getElem (by rw [HKQ.out]; exact hjk)⟩
     obtain ⟨bq, oq, hqa, hbq, hcq⟩ := HQP.out (by rw [HKQ.out]; omega)
     have p0 : wr.cell? ⟨bq, oq + j * 2, none⟩ = some (.int .i64 p.1) := (T.out.1.rq.bel.cell (p := ⟨bq, oq + j * 2, none⟩) hbq).trans (hcq j p hp).1
     have p1 : wr.cell? ⟨bq, oq + j * 2 + 1, none⟩ = some (.int .u64 (p.2 : Int)) := (T.out.1.rq.bel.cell (p := ⟨bq, oq + j * 2 + 1, none⟩) hbq).trans (hcq j p hp).2
     have HT := iq (pairsB_take hp)
     have HW : Hid (IntKind.u8.wrap p.1 = ((byteOf p.1).toNat : Int)) := iq (u8_wrap (by have := HRP.out p (List.mem_of_getElem? hp); omega))
     obtain ⟨x, y⟩ := p
     have HQA : Hid ((m.body.qa : Option Addr) = some ⟨bq, oq, none⟩) := iq hqa
     clear hp hcq hqa
     dsimp only at p0 p1 HW
     have P7 : Hid (PrAt w m g bq (oq + j * 2) x y wr) := iq ⟨T.out.1, p0, p1, hbq⟩
     have hj1 : (j : Int) < (k : Int) := by omega
     go_wp2_with fail
     refine wp_region_any (by kernel_rfl) ?_
     have P8 := iq (P7.out.drewN 1)
     have O8 := iq (T.out.2.below (below_drewN bl 1))
     have bn7 : ∀ kb, (Value.slice A7 n7 c7).ownBlock = some kb -> g + 1 <= kb := fun kb hk => (T.out.2.1.lt kb hk).1
     change wpAny _ _ _ _ _ _ _ (wr.drewN 1)
     generalize wr.drewN 1 = w8 at P8 O8 ⊢
     refine wpAny_of_held (S := fun W => W.rangeAt g 0 (bodyC m.body) /\ W.cell? ⟨bq, oq + j * 2, none⟩ = some (.int .i64 x) /\ W.cell? ⟨bq, oq + j * 2 + 1, none⟩ = some (.int .u64 (y : Int))) _ _ _ _ ?_
     refine tk 0 ⟨some 72, .move (.tmp 3), _, _, _, none⟩ (.slice A7 n7 c7) rfl (by kernel_rfl) (fun _ _ _ => id) (⟨P8.out.bd.src, P8.out.p0, P8.out.p1⟩) (fun W hSW => by go_simp) ?_
     try simp only [Act.put, l0, l1, l2]
     refine tk 1 ⟨some 73, .fieldAddr 35 (.tmp 5) 4, _, _, _, none⟩ (.pointer (some ⟨g, 43, none⟩)) rfl (by kernel_rfl) (fun _ _ _ => id) (⟨P8.out.bd.src, P8.out.p0, P8.out.p1⟩) (fun W hSW => by go_simp) ?_
     try simp only [pu, l0, l1, l2]
     refine tk 2 ⟨some 74, .load 33 (.tmp 73), _, _, _, none⟩ (.slice m.body.qa k m.body.qc) rfl (by kernel_rfl) (fun _ _ _ => id) (⟨P8.out.bd.src, P8.out.p0, P8.out.p1⟩) (fun W hSW => by have hv : W.cell? ⟨g, 43, none⟩ = some (.slice m.body.qa k m.body.qc) := ((body_lies hSW.1 HMW.out.2.1).q).trans (by rw [MBody.qv, HKQ.out]); go_simp) ?_
     try simp only [pu, l0, l1, l2]
     refine tk 3 ⟨some 75, .move (.tmp 6), _, _, _, none⟩ (.int .i64 (j : Int)) rfl (by kernel_rfl) (fun _ _ _ => id) (⟨P8.out.bd.src, P8.out.p0, P8.out.p1⟩) (fun W hSW => by go_simp) ?_
     try simp only [pu, l0, l1, l2]
     refine tk 4 ⟨some 76, .indexAddr 33 (.tmp 74) (.tmp 75), _, _, _, none⟩ (.pointer (some ⟨bq, oq + j * 2, none⟩)) rfl (by kernel_rfl) (fun _ _ _ => id) (⟨P8.out.bd.src, P8.out.p0, P8.out.p1⟩) (fun W hSW => by have hqq := HQA.out; go_simp) ?_
     try simp only [pu, l0, l1, l2]
     refine tk 5 ⟨some 77, .fieldAddr 78 (.tmp 76) 0, _, _, _, none⟩ (.pointer (some ⟨bq, oq + j * 2, none⟩)) rfl (by kernel_rfl) (fun _ _ _ => id) (⟨P8.out.bd.src, P8.out.p0, P8.out.p1⟩) (fun W hSW => by go_simp) ?_
     try simp only [pu, l0, l1, l2]
     refine tk 6 ⟨some 78, .load 3 (.tmp 77), _, _, _, none⟩ (.int .i64 x) rfl (by kernel_rfl) (fun _ _ _ => id) (⟨P8.out.bd.src, P8.out.p0, P8.out.p1⟩) (fun W hSW => by have hv := hSW.2.1; go_simp) ?_
     try simp only [pu, l0, l1, l2]
     refine tk 7 ⟨some 79, .convert 3 5 (.tmp 78), _, _, _, none⟩ (.int .u8 ((byteOf x).toNat : Int)) rfl (by kernel_rfl) (fun _ _ _ => id) (⟨P8.out.bd.src, P8.out.p0, P8.out.p1⟩) (fun W hSW => by have hv := HW.out; go_simp) ?_
     try simp only [pu, l0, l1, l2]
     refine tk 10 ⟨some 82, .fieldAddr 35 (.tmp 5) 4, _, _, _, none⟩ (.pointer (some ⟨g, 43, none⟩)) rfl (by kernel_rfl) (fun _ _ _ => id) (⟨P8.out.bd.src, P8.out.p0, P8.out.p1⟩) (fun W hSW => by go_simp) ?_
     try simp only [pu, l0, l1, l2]
     refine tk 11 ⟨some 83, .load 33 (.tmp 82), _, _, _, none⟩ (.slice m.body.qa k m.body.qc) rfl (by kernel_rfl) (fun _ _ _ => id) (⟨P8.out.bd.src, P8.out.p0, P8.out.p1⟩) (fun W hSW => by have hv : W.cell? ⟨g, 43, none⟩ = some (.slice m.body.qa k m.body.qc) := ((body_lies hSW.1 HMW.out.2.1).q).trans (by rw [MBody.qv, HKQ.out]); go_simp) ?_
     try simp only [pu, l0, l1, l2]
     refine tk 12 ⟨some 84, .move (.tmp 6), _, _, _, none⟩ (.int .i64 (j : Int)) rfl (by kernel_rfl) (fun _ _ _ => id) (⟨P8.out.bd.src, P8.out.p0, P8.out.p1⟩) (fun W hSW => by go_simp) ?_
     try simp only [pu, l0, l1, l2]
     refine tk 13 ⟨some 85, .indexAddr 33 (.tmp 83) (.tmp 84), _, _, _, none⟩ (.pointer (some ⟨bq, oq + j * 2, none⟩)) rfl (by kernel_rfl) (fun _ _ _ => id) (⟨P8.out.bd.src, P8.out.p0, P8.out.p1⟩) (fun W hSW => by have hqq := HQA.out; go_simp) ?_
     try simp only [pu, l0, l1, l2]
     refine tk 14 ⟨some 86, .fieldAddr 78 (.tmp 85) 1, _, _, _, none⟩ (.pointer (some ⟨bq, oq + j * 2 + 1, none⟩)) rfl (by kernel_rfl) (fun _ _ _ => id) (⟨P8.out.bd.src, P8.out.p0, P8.out.p1⟩) (fun W hSW => by go_simp) ?_
     try simp only [pu, l0, l1, l2]
     refine tk 15 ⟨some 87, .load 25 (.tmp 86), _, _, _, none⟩ (.int .u64 (y : Int)) rfl (by kernel_rfl) (fun _ _ _ => id) (⟨P8.out.bd.src, P8.out.p0, P8.out.p1⟩) (fun W hSW => by have hv := hSW.2.2; go_simp) ?_
     try simp only [pu, l0, l1, l2]
     refine rd1 8 ⟨some 80, .buildSlice 23 1 #[(0, .tmp 79)], _, _, _, none⟩ (by kernel_rfl) rfl fun K' hK' => ?_
     go_simp
     have P9 : Hid (PrAt w m g bq (oq + j * 2) x y (w8.alloc (.cells #[.int .u8 ((byteOf x).toNat : Int)] 5))) := iq (P8.out.next (bl.alloc (Nat.le_refl _) _) P8.out.bd.lt)
     refine hK'.out _ _ ⟨P9.out.bd.src, P9.out.p0, P9.out.p1⟩ (fun _ => ?_)
     clear hK' K'
     try simp only [Act.put, l0, l1, l2]
     have O9 : Hid (Ow (g + 1) (w8.alloc (.cells #[.int .u8 ((byteOf x).toNat : Int)] 5)) A7 n7 c7 _) := iq (O8.out.below (bl.alloc (Nat.le_refl _) (.cells #[.int .u8 ((byteOf x).toNat : Int)] 5)))
     refine rd1 9 ⟨some 81, .call { callee := .builtin .append, args := #[.tmp 72, .tmp 80], argTypes := #[23, 23] }, _, _, _, none⟩ (by kernel_rfl) rfl fun K' hK' => ?_
     refine step_append_gb rfl (.tmp 72) (.tmp 80) rfl (g + 1) n7 1 1 (.slice A7 n7 c7) (some ⟨w8.heap.size, 0, none⟩) ([byteOf m.origin] ++ depsB m.deps ++ [4] ++ be 8 m.body.view ++ [byteOf (k : Int)] ++ pairsB (m.body.qs.take j)) [byteOf x] rfl rfl O9.out.1 (Pr := fun _ => True) (rd_byte rfl) sl_1 (by have := P9.out.bd.lt; omega) (by omega) ?_
     intro A10 c10 w10 H10 G10
     have P10 := iq (P9.out.fresh O9.out.1 G10.out)
     refine hK'.out _ _ ⟨P10.out.bd.src, P10.out.p0, P10.out.p1⟩ (fun _ => ?_)
     clear hK' K'
     try simp only [Act.put, l0, l1, l2]
     have O10 : Hid (Ow (g + 1) w10 A10 (n7 + 1) c10 ([byteOf m.origin] ++ depsB m.deps ++ [4] ++ be 8 m.body.view ++ [byteOf (k : Int)] ++ pairsB (m.body.qs.take j) ++ [byteOf x])) := iq H10.out
     refine rd1 16 ⟨some 88, .call { callee := .value (.func 84), args := #[.tmp 81, .tmp 87], argTypes := #[23, 25] }, _, _, _, none⟩ (by kernel_rfl) rfl fun K' hK' => ?_
     go_simp
     go_at_call 84
     refine (rword_ow y O10.out (by omega)).mono ?_
     rintro E w11 ⟨A11, n11, c11, rfl, H11, b11⟩
     have O11 := iq H11
     clear H11
     have P11 := iq (P10.out.next b11.out P10.out.bd.lt)
     refine hK'.out _ _ (⟨P11.out.bd.src, P11.out.p0, P11.out.p1⟩) (fun _ => ?_)
     clear hK' K'
     try simp only [Act.put, l0, l1, l2]
     refine tk 17 ⟨some 3, .assign (.tmp 88), _, _, _, none⟩ (.slice A11 n11 c11) rfl (by kernel_rfl) (fun _ _ _ => id) (⟨P11.out.bd.src, P11.out.p0, P11.out.p1⟩) (fun W hSW => by go_simp) ?_
     try simp only [pu, l0, l1, l2]
     refine wpAnyH_done (by kernel_rfl) ?_ _
     go_wp2_with fail
     go_roundw
     case measure => simp [intOf] <;> omega
     case rel =>
      have h1 := O11.out.len
      have h2 := T.out.2.len
      simp only [List.length_append, be_length, List.length_cons, List.length_nil] at h1 h2
      refine ⟨j + 1, by omega, by go_num, _, _, _, rfl, by omega, iq ⟨P11.out.bd, ?_⟩⟩
      rw [HT.out]
      have := O11.out.low (B' := g + 1) (by have := P10.out.bd.lt; omega)
      simpa [pairB, List.append_assoc] using this
    ·obtain rfl : j = k := by omega
     have HE : Hid (m.body.qs.take j = m.body.qs) := iq (List.take_of_length_le (by rw [HKQ.out]; exact Nat.le_refl _))
     go_wp2_with fail
     go_ret
     exact ⟨_, _, _, rfl, by rw [HKI.out]; have := T.out.2.low (B' := w.heap.size) (by have := T.out.1.low; omega); rw [HE.out] at this; simpa [List.append_assoc] using this, iq T.out.1.rq.bel⟩
end Go.Proofs.YtknpcmadghkaaaaGreatDoor.Sh
