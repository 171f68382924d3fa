/- Laws and walks. -/
import Derived.Test.YtknpcmadghkaaaaGreatDoorUaw
import Derived.Test.YtknpcmadghkaaaaGreatDoorQaw
set_option maxHeartbeats 16000000
set_option maxRecDepth 100000
namespace Go.Proofs.YtknpcmadghkaaaaGreatDoor.Sh
open Go.RowKit
structure BdAt (w : World) (m : MMsg) (g : Nat) (wr : World) : Prop where
 rq : RqAt w.heap.size w (msgC m) wr
 src : wr.rangeAt g 0 (bodyC m.body)
 lt : g < wr.heap.size
 low : w.heap.size < g
theorem BdAt.next {w : World} {m : MMsg} {g B : Nat} {wr w' : World} (H : BdAt w m g wr) (hb : Below B wr w') (hB : g < B) : BdAt w m g w' :=
 ⟨⟨H.rq.bel.trans (hb.mono (by have := H.low; omega)), Nat.lt_of_lt_of_le H.rq.lt hb.size, rangeAt_below H.rq.src hb (by have := H.low; omega)⟩, rangeAt_below H.src hb hB, Nat.lt_of_lt_of_le H.lt hb.size, H.low⟩
theorem BdAt.drewN {w : World} {m : MMsg} {g : Nat} {wr : World} (H : BdAt w m g wr) (q : Nat) : BdAt w m g (wr.drewN q) := ⟨H.rq.drewN q, H.src, H.lt, H.low⟩
theorem BdAt.fresh {w : World} {m : MMsg} {g n : Nat} {wr w' : World} {v : Value} {xs : List Value} (H : BdAt w m g wr) (ho : wr.ownsRow (g + 1) 5 1 v n xs) (hg : wr.grownBy w' v.ownBlock) : BdAt w m g w' :=
 ⟨H.rq.fresh (Nat.le_refl _) (own_low ho (by have := H.low; omega)) hg, fun j u hu => hg.cell (H.src j u hu) (fun e => by have := ho.lt _ e.symm; simp at this; omega), Nat.lt_of_lt_of_le H.lt hg.size, H.low⟩
theorem bytesr_3 (m : MMsg) (w : World) (hm : m.Wf) (ho : isRepl m.origin = true) (HKI : Hid (m.body.kind = 3)) 
  (HM : Hid (∀ W, Below w.heap.size w W -> Calls Tryz.prog 41 #[.agg (msgC m).toArray] W fun E w' => E = .returned (.bool true) /\ Hid (Below W.heap.size W w'))) :
  Calls Tryz.prog 55 #[.agg (msgC m).toArray] w fun E w' => ∃ A' n' c', E = .returned (.slice A' n' c') /\ Ow w.heap.size w' A' n' c' (byteOf m.origin :: (depsB m.deps ++ (m.body.kind :: (be 8 m.body.view)))) /\ Hid (Below w.heap.size w w') := by
 have HI : Hid ((Tryz.prog.info? 39).map (·.size) = some (msgC m).length) := iq (by rw [msgC_length hm]; exact Tryz.is39)
 have HJ : Hid ((Tryz.prog.info? 35).map (·.size) = some (bodyC m.body).length) := iq (by rw [bodyC_length hm.2.1]; exact Tryz.is35)
 have HL : Hid (RqAt w.heap.size w (msgC m) (w.alloc (.cells (msgC m).toArray 39))) := iq ⟨bl.alloc (Nat.le_refl _) _, by simp, range_box w (msgC m) 39⟩
 have HMW := iq hm
 have HL11 := iq hm.1
 have hu : IntKind.u8.wrap m.origin = ((byteOf m.origin).toNat : Int) := u8_wrap (by simp only [isRepl, decide_eq_true_eq] at ho; omega)
 have hz : ∀ w, (zeroValue 35).run Tryz.prog w = .ok (.agg (bodyC zeroBody).toArray) w := zero_body
 have HLE : Hid (0 + (bodyC m.body).length <= (bodyC zeroBody).length /\ setAll (bodyC zeroBody) 0 (bodyC m.body) = bodyC m.body) := iq ⟨by rw [bodyC_length zero_wf, bodyC_length hm.2.1]; omega, setAll_all (by rw [bodyC_length zero_wf, bodyC_length hm.2.1])⟩
 clear hm ho
 go_enter Tryz.func55, Tryz.ntmps55
 go_wp2_with (first | ((with_reducible refine wpList_load_midG ?_ 39 (.tmp 1) ?_ w.heap.size 0 ?_ (msgC m) _ ?_ Tryz.underlying39 ?_ ?_ ?_); rotate_left; rfl; rfl; exact HL.out.src; rfl; exact HI.out; rotate_left; rfl) | (go_at_call 41; refine (HM.out _ HL.out.bel).mono ?_; rintro E w1 ⟨rfl, hb1⟩; have HL1 := iq (HL.out.next (Nat.le_refl _) hb1.out); have o0 : w1.cell? ⟨w.heap.size, 0, none⟩ = some (.int .i64 m.origin) := (msg_lies HL1.out.src HMW.out).origin))
 have D1 : Hid (RqAt w.heap.size w (msgC m) (w1.alloc (.cells #[.int .u8 ((byteOf m.origin).toNat : Int)] 5)) /\ Ow (w.heap.size + 1) (w1.alloc (.cells #[.int .u8 ((byteOf m.origin).toNat : Int)] 5)) (some ⟨w1.heap.size, 0, none⟩) 1 1 ([byteOf m.origin] ++ depsB (m.deps.take 0))) := iq ⟨HL1.out.next (Nat.le_refl _) (bl.alloc (Nat.le_refl _) _), ⟨by
  simpa [depsB, u8s] using World.ownsRow_lit w1 #[.int .u8 ((byteOf m.origin).toNat : Int)] 1 (base := w.heap.size + 1) (e := 5) (size := 1) (by have := HL1.out.lt; omega) (by unfold maxLen; omega) rfl, sl_1⟩⟩
 clear HL hb1 o0 hu
 generalize w1.alloc (.cells #[.int .u8 ((byteOf m.origin).toNat : Int)] 5) = w2 at D1 ⊢
 generalize w1.heap.size = g2 at D1 ⊢
 go_loopw [3, 4] (fun v3 v4 wr => ∃ j : Nat, j <= 11 /\ v4 = .int .i64 (j : Int) /\ ∃ A0 n0 c0, v3 = .slice A0 n0 c0 /\ n0 <= 1 + 8 * j /\ Hid (RqAt w.heap.size w (msgC m) wr /\ Ow (w.heap.size + 1) wr A0 n0 c0 ([byteOf m.origin] ++ depsB (m.deps.take j)))) (fun _ v4 _ => 11 - (intOf v4).toNat)
 case atStart => exact ⟨0, by omega, rfl, _, _, _, rfl, by omega, D1⟩
 case round =>
  clear D1
  obtain ⟨j, hj, rfl, A0, n0, c0, rfl, hn0, D⟩ := hrel
  by_cases hjj : j < 11
  ·obtain ⟨x, hx⟩ : ∃ x, m.deps[j]? = some x := ⟨_, List.getElem?_eq_getElem (by rw [HL11.out]; exact hjj)⟩
   have HT := iq (depsB_take hx)
   have cx : wr.cell? ⟨w.heap.size, 2 + j, none⟩ = some (.int .u64 (x : Int)) := (msg_lies D.out.1.src HMW.out).deps j _ (by simp [u64s, hx])
   clear hx
   go_wp2_with (go_at_call 84; refine (rword_ow x D.out.2 (by omega)).mono ?_; rintro E w7 ⟨A7, n7, c7, rfl, H7, hb7⟩; have O7 := iq H7; clear H7)
   go_roundw
   case measure => simp [intOf] <;> omega
   case rel => exact ⟨j + 1, by omega, by go_num, _, _, _, rfl, by
       have h1 := O7.out.len
       have h2 := D.out.2.len
       rw [List.length_append, h2, be_length] at h1
       omega, iq ⟨D.out.1.next (Nat.le_refl _) hb7.out, by rw [HT.out, <- List.append_assoc]; exact O7.out.low (by have := D.out.1.lt; omega)⟩⟩
  ·obtain rfl : j = 11 := by omega
   have O3 : Hid (Ow (w.heap.size + 1) wr A0 n0 c0 ([byteOf m.origin] ++ depsB m.deps) /\ ∀ k, (Value.slice A0 n0 c0).ownBlock = some k -> k < wr.heap.size) := iq ⟨by have := D.out.2; rwa [List.take_of_length_le (by rw [HL11.out]; exact Nat.le_refl _)] at this, fun k hk => (D.out.2.1.lt k hk).2⟩
   have HN : Hid ((wr.alloc (.cells (bodyC zeroBody).toArray 35)).heap[wr.heap.size]? = some (.cells (bodyC zeroBody).toArray 35 (0, 0))) := iq (heap_alloc_new wr _)
   go_wp2_with (first | ((with_reducible refine wpList_load_midG ?_ 35 (.tmp 24) ?_ w.heap.size 13 ?_ (bodyC m.body) _ ?_ Tryz.underlying35 ?_ ?_ ?_); rotate_left; rfl; rfl; exact (msg_lies D.out.1.src HMW.out).body.all; rfl; exact HJ.out; rotate_left; rfl) | (refine wpList_store_part rfl 35 (.tmp 5) (.tmp 25) rfl wr.heap.size 0 (bodyC zeroBody) (bodyC m.body) (bodyC m.body) 35 HN.out HLE.out.1 HLE.out.2 rfl rfl HJ.out (one_bodyC _) ?_; intro wb Gb; have BB : Hid (Below wr.heap.size wr wb) := iq ((bl.alloc (Nat.le_refl _) _).grown Gb.out.2 (by simp) (fun k hk => by injection hk with hk; omega)); have DB : Hid (BdAt w m wr.heap.size wb /\ Ow (w.heap.size + 1) wb A0 n0 c0 ([byteOf m.origin] ++ depsB m.deps)) := iq ⟨⟨D.out.1.next (Nat.le_refl _) BB.out, range_of Gb.out.1, (Array.getElem?_eq_some_iff.1 Gb.out.1).1, D.out.1.lt⟩, O3.out.1.below BB.out⟩; have b0 : wb.cell? ⟨wr.heap.size, 0, none⟩ = some (.int .u8 3) := (body_lies DB.out.1.src HMW.out.2.1).kind.trans (by rw [HKI.out]; rfl)) | (at_builtin; go_must (refine wpList_append_made rfl (.tmp 26) (.tmp 29) rfl (w.heap.size + 1) n0 1 wb.heap.size (.slice A0 n0 c0) ([byteOf m.origin] ++ depsB m.deps) [3] _ rfl rfl rfl DB.out.2.1 (by have := DB.out.1.lt; have := DB.out.1.low; omega) rfl rfl (by omega) ?_); intro A4 c4 w4 K4 G4; have D4 : Hid (BdAt w m wr.heap.size w4) := iq ⟨DB.out.1.rq.fresh (Nat.le_refl _) DB.out.2.1 G4.out, fun j v hv => G4.out.cell (DB.out.1.src j v hv) (fun e => by have := O3.out.2 _ e.symm; simp at this), Nat.lt_of_lt_of_le DB.out.1.lt G4.out.size, DB.out.1.low⟩; have O4 : Hid (Ow (w.heap.size + 1) w4 A4 (n0 + 1) c4 ([byteOf m.origin] ++ depsB m.deps ++ [3])) := iq ⟨K4.out.1, K4.out.2⟩; have ew40 : w4.cell? ⟨wr.heap.size, 0, none⟩ = some (.int .u8 3) := (body_lies D4.out.src HMW.out.2.1).kind.trans (by rw [HKI.out]; rfl); have ew41 : w4.cell? ⟨wr.heap.size, 1, none⟩ = some (.int .u64 (m.body.view : Int)) := (body_lies D4.out.src HMW.out.2.1).view; have ew42 : w4.cell? ⟨wr.heap.size, 2, none⟩ = some (.int .u64 (m.body.k : Int)) := (body_lies D4.out.src HMW.out.2.1).k) | (go_at_call 84; (with_reducible refine (rword_ow m.body.view O4.out (by omega)).mono ?_); rintro E w5 ⟨Aw5, nw5, cw5, rfl, Hw5, hbw5⟩; have Ow5 := iq Hw5; have lw5 := Hw5.len; clear Hw5; have Dw5 : Hid (BdAt w m wr.heap.size w5) := iq (D4.out.next hbw5.out D4.out.lt); have ew50 : w5.cell? ⟨wr.heap.size, 0, none⟩ = some (.int .u8 3) := (body_lies Dw5.out.src HMW.out.2.1).kind.trans (by rw [HKI.out]; rfl); have ew51 : w5.cell? ⟨wr.heap.size, 1, none⟩ = some (.int .u64 (m.body.view : Int)) := (body_lies Dw5.out.src HMW.out.2.1).view; have ew52 : w5.cell? ⟨wr.heap.size, 2, none⟩ = some (.int .u64 (m.body.k : Int)) := (body_lies Dw5.out.src HMW.out.2.1).k; simp only [List.length_append, be_length, List.length_cons, List.length_nil, depsB_len, HL11.out] at lw5))
   go_ret
   exact ⟨_, _, _, rfl, by rw [HKI.out]; have := Ow5.out.low (B' := w.heap.size) (by have := D4.out.lt; have := D4.out.low; omega); simpa [List.append_assoc] using this, iq Dw5.out.rq.bel⟩
theorem bytesr_5 (m : MMsg) (w : World) (hm : m.Wf) (ho : isRepl m.origin = true) (HKI : Hid (m.body.kind = 5)) 
  (HM : Hid (∀ W, Below w.heap.size w W -> Calls Tryz.prog 41 #[.agg (msgC m).toArray] W fun E w' => E = .returned (.bool true) /\ Hid (Below W.heap.size W w'))) :
  Calls Tryz.prog 55 #[.agg (msgC m).toArray] w fun E w' => ∃ A' n' c', E = .returned (.slice A' n' c') /\ Ow w.heap.size w' A' n' c' (byteOf m.origin :: (depsB m.deps ++ (m.body.kind :: (be 8 m.body.view)))) /\ Hid (Below w.heap.size w w') := by
 have HI : Hid ((Tryz.prog.info? 39).map (·.size) = some (msgC m).length) := iq (by rw [msgC_length hm]; exact Tryz.is39)
 have HJ : Hid ((Tryz.prog.info? 35).map (·.size) = some (bodyC m.body).length) := iq (by rw [bodyC_length hm.2.1]; exact Tryz.is35)
 have HL : Hid (RqAt w.heap.size w (msgC m) (w.alloc (.cells (msgC m).toArray 39))) := iq ⟨bl.alloc (Nat.le_refl _) _, by simp, range_box w (msgC m) 39⟩
 have HMW := iq hm
 have HL11 := iq hm.1
 have hu : IntKind.u8.wrap m.origin = ((byteOf m.origin).toNat : Int) := u8_wrap (by simp only [isRepl, decide_eq_true_eq] at ho; omega)
 have hz : ∀ w, (zeroValue 35).run Tryz.prog w = .ok (.agg (bodyC zeroBody).toArray) w := zero_body
 have HLE : Hid (0 + (bodyC m.body).length <= (bodyC zeroBody).length /\ setAll (bodyC zeroBody) 0 (bodyC m.body) = bodyC m.body) := iq ⟨by rw [bodyC_length zero_wf, bodyC_length hm.2.1]; omega, setAll_all (by rw [bodyC_length zero_wf, bodyC_length hm.2.1])⟩
 clear hm ho
 go_enter Tryz.func55, Tryz.ntmps55
 go_wp2_with (first | ((with_reducible refine wpList_load_midG ?_ 39 (.tmp 1) ?_ w.heap.size 0 ?_ (msgC m) _ ?_ Tryz.underlying39 ?_ ?_ ?_); rotate_left; rfl; rfl; exact HL.out.src; rfl; exact HI.out; rotate_left; rfl) | (go_at_call 41; refine (HM.out _ HL.out.bel).mono ?_; rintro E w1 ⟨rfl, hb1⟩; have HL1 := iq (HL.out.next (Nat.le_refl _) hb1.out); have o0 : w1.cell? ⟨w.heap.size, 0, none⟩ = some (.int .i64 m.origin) := (msg_lies HL1.out.src HMW.out).origin))
 have D1 : Hid (RqAt w.heap.size w (msgC m) (w1.alloc (.cells #[.int .u8 ((byteOf m.origin).toNat : Int)] 5)) /\ Ow (w.heap.size + 1) (w1.alloc (.cells #[.int .u8 ((byteOf m.origin).toNat : Int)] 5)) (some ⟨w1.heap.size, 0, none⟩) 1 1 ([byteOf m.origin] ++ depsB (m.deps.take 0))) := iq ⟨HL1.out.next (Nat.le_refl _) (bl.alloc (Nat.le_refl _) _), ⟨by
  simpa [depsB, u8s] using World.ownsRow_lit w1 #[.int .u8 ((byteOf m.origin).toNat : Int)] 1 (base := w.heap.size + 1) (e := 5) (size := 1) (by have := HL1.out.lt; omega) (by unfold maxLen; omega) rfl, sl_1⟩⟩
 clear HL hb1 o0 hu
 generalize w1.alloc (.cells #[.int .u8 ((byteOf m.origin).toNat : Int)] 5) = w2 at D1 ⊢
 generalize w1.heap.size = g2 at D1 ⊢
 go_loopw [3, 4] (fun v3 v4 wr => ∃ j : Nat, j <= 11 /\ v4 = .int .i64 (j : Int) /\ ∃ A0 n0 c0, v3 = .slice A0 n0 c0 /\ n0 <= 1 + 8 * j /\ Hid (RqAt w.heap.size w (msgC m) wr /\ Ow (w.heap.size + 1) wr A0 n0 c0 ([byteOf m.origin] ++ depsB (m.deps.take j)))) (fun _ v4 _ => 11 - (intOf v4).toNat)
 case atStart => exact ⟨0, by omega, rfl, _, _, _, rfl, by omega, D1⟩
 case round =>
  clear D1
  obtain ⟨j, hj, rfl, A0, n0, c0, rfl, hn0, D⟩ := hrel
  by_cases hjj : j < 11
  ·obtain ⟨x, hx⟩ : ∃ x, m.deps[j]? = some x := ⟨_, List.getElem?_eq_getElem (by rw [HL11.out]; exact hjj)⟩
   have HT := iq (depsB_take hx)
   have cx : wr.cell? ⟨w.heap.size, 2 + j, none⟩ = some (.int .u64 (x : Int)) := (msg_lies D.out.1.src HMW.out).deps j _ (by simp [u64s, hx])
   clear hx
   go_wp2_with (go_at_call 84; refine (rword_ow x D.out.2 (by omega)).mono ?_; rintro E w7 ⟨A7, n7, c7, rfl, H7, hb7⟩; have O7 := iq H7; clear H7)
   go_roundw
   case measure => simp [intOf] <;> omega
   case rel => exact ⟨j + 1, by omega, by go_num, _, _, _, rfl, by
       have h1 := O7.out.len
       have h2 := D.out.2.len
       rw [List.length_append, h2, be_length] at h1
       omega, iq ⟨D.out.1.next (Nat.le_refl _) hb7.out, by rw [HT.out, <- List.append_assoc]; exact O7.out.low (by have := D.out.1.lt; omega)⟩⟩
  ·obtain rfl : j = 11 := by omega
   have O3 : Hid (Ow (w.heap.size + 1) wr A0 n0 c0 ([byteOf m.origin] ++ depsB m.deps) /\ ∀ k, (Value.slice A0 n0 c0).ownBlock = some k -> k < wr.heap.size) := iq ⟨by have := D.out.2; rwa [List.take_of_length_le (by rw [HL11.out]; exact Nat.le_refl _)] at this, fun k hk => (D.out.2.1.lt k hk).2⟩
   have HN : Hid ((wr.alloc (.cells (bodyC zeroBody).toArray 35)).heap[wr.heap.size]? = some (.cells (bodyC zeroBody).toArray 35 (0, 0))) := iq (heap_alloc_new wr _)
   go_wp2_with (first | ((with_reducible refine wpList_load_midG ?_ 35 (.tmp 24) ?_ w.heap.size 13 ?_ (bodyC m.body) _ ?_ Tryz.underlying35 ?_ ?_ ?_); rotate_left; rfl; rfl; exact (msg_lies D.out.1.src HMW.out).body.all; rfl; exact HJ.out; rotate_left; rfl) | (refine wpList_store_part rfl 35 (.tmp 5) (.tmp 25) rfl wr.heap.size 0 (bodyC zeroBody) (bodyC m.body) (bodyC m.body) 35 HN.out HLE.out.1 HLE.out.2 rfl rfl HJ.out (one_bodyC _) ?_; intro wb Gb; have BB : Hid (Below wr.heap.size wr wb) := iq ((bl.alloc (Nat.le_refl _) _).grown Gb.out.2 (by simp) (fun k hk => by injection hk with hk; omega)); have DB : Hid (BdAt w m wr.heap.size wb /\ Ow (w.heap.size + 1) wb A0 n0 c0 ([byteOf m.origin] ++ depsB m.deps)) := iq ⟨⟨D.out.1.next (Nat.le_refl _) BB.out, range_of Gb.out.1, (Array.getElem?_eq_some_iff.1 Gb.out.1).1, D.out.1.lt⟩, O3.out.1.below BB.out⟩; have b0 : wb.cell? ⟨wr.heap.size, 0, none⟩ = some (.int .u8 5) := (body_lies DB.out.1.src HMW.out.2.1).kind.trans (by rw [HKI.out]; rfl)) | (at_builtin; go_must (refine wpList_append_made rfl (.tmp 26) (.tmp 29) rfl (w.heap.size + 1) n0 1 wb.heap.size (.slice A0 n0 c0) ([byteOf m.origin] ++ depsB m.deps) [5] _ rfl rfl rfl DB.out.2.1 (by have := DB.out.1.lt; have := DB.out.1.low; omega) rfl rfl (by omega) ?_); intro A4 c4 w4 K4 G4; have D4 : Hid (BdAt w m wr.heap.size w4) := iq ⟨DB.out.1.rq.fresh (Nat.le_refl _) DB.out.2.1 G4.out, fun j v hv => G4.out.cell (DB.out.1.src j v hv) (fun e => by have := O3.out.2 _ e.symm; simp at this), Nat.lt_of_lt_of_le DB.out.1.lt G4.out.size, DB.out.1.low⟩; have O4 : Hid (Ow (w.heap.size + 1) w4 A4 (n0 + 1) c4 ([byteOf m.origin] ++ depsB m.deps ++ [5])) := iq ⟨K4.out.1, K4.out.2⟩; have ew40 : w4.cell? ⟨wr.heap.size, 0, none⟩ = some (.int .u8 5) := (body_lies D4.out.src HMW.out.2.1).kind.trans (by rw [HKI.out]; rfl); have ew41 : w4.cell? ⟨wr.heap.size, 1, none⟩ = some (.int .u64 (m.body.view : Int)) := (body_lies D4.out.src HMW.out.2.1).view; have ew42 : w4.cell? ⟨wr.heap.size, 2, none⟩ = some (.int .u64 (m.body.k : Int)) := (body_lies D4.out.src HMW.out.2.1).k) | (go_at_call 84; (with_reducible refine (rword_ow m.body.view O4.out (by omega)).mono ?_); rintro E w5 ⟨Aw5, nw5, cw5, rfl, Hw5, hbw5⟩; have Ow5 := iq Hw5; have lw5 := Hw5.len; clear Hw5; have Dw5 : Hid (BdAt w m wr.heap.size w5) := iq (D4.out.next hbw5.out D4.out.lt); have ew50 : w5.cell? ⟨wr.heap.size, 0, none⟩ = some (.int .u8 5) := (body_lies Dw5.out.src HMW.out.2.1).kind.trans (by rw [HKI.out]; rfl); have ew51 : w5.cell? ⟨wr.heap.size, 1, none⟩ = some (.int .u64 (m.body.view : Int)) := (body_lies Dw5.out.src HMW.out.2.1).view; have ew52 : w5.cell? ⟨wr.heap.size, 2, none⟩ = some (.int .u64 (m.body.k : Int)) := (body_lies Dw5.out.src HMW.out.2.1).k; simp only [List.length_append, be_length, List.length_cons, List.length_nil, depsB_len, HL11.out] at lw5))
   go_ret
   exact ⟨_, _, _, rfl, by rw [HKI.out]; have := Ow5.out.low (B' := w.heap.size) (by have := D4.out.lt; have := D4.out.low; omega); simpa [List.append_assoc] using this, iq Dw5.out.rq.bel⟩
theorem bytesr_1 (m : MMsg) (w : World) (hm : m.Wf) (ho : isRepl m.origin = true) (HKI : Hid (m.body.kind = 1)) (hr : reqMay m.body.req = true)
  (HM : Hid (∀ W, Below w.heap.size w W -> Calls Tryz.prog 41 #[.agg (msgC m).toArray] W fun E w' => E = .returned (.bool true) /\ Hid (Below W.heap.size W w'))) :
  Calls Tryz.prog 55 #[.agg (msgC m).toArray] w fun E w' => ∃ A' n' c', E = .returned (.slice A' n' c') /\ Ow w.heap.size w' A' n' c' (byteOf m.origin :: (depsB m.deps ++ (m.body.kind :: (be 8 m.body.view ++ (reqB m.body.req ++ m.body.req.tag))))) /\ Hid (Below w.heap.size w w') := by
 have HI : Hid ((Tryz.prog.info? 39).map (·.size) = some (msgC m).length) := iq (by rw [msgC_length hm]; exact Tryz.is39)
 have HJ : Hid ((Tryz.prog.info? 35).map (·.size) = some (bodyC m.body).length) := iq (by rw [bodyC_length hm.2.1]; exact Tryz.is35)
 have HL : Hid (RqAt w.heap.size w (msgC m) (w.alloc (.cells (msgC m).toArray 39))) := iq ⟨bl.alloc (Nat.le_refl _) _, by simp, range_box w (msgC m) 39⟩
 have HMW := iq hm
 have HL11 := iq hm.1
 have hu : IntKind.u8.wrap m.origin = ((byteOf m.origin).toNat : Int) := u8_wrap (by simp only [isRepl, decide_eq_true_eq] at ho; omega)
 have hz : ∀ w, (zeroValue 35).run Tryz.prog w = .ok (.agg (bodyC zeroBody).toArray) w := zero_body
 have HLE : Hid (0 + (bodyC m.body).length <= (bodyC zeroBody).length /\ setAll (bodyC zeroBody) 0 (bodyC m.body) = bodyC m.body) := iq ⟨by rw [bodyC_length zero_wf, bodyC_length hm.2.1]; omega, setAll_all (by rw [bodyC_length zero_wf, bodyC_length hm.2.1])⟩
 have HRM := iq hr
 have hlr := reqB_len hr
 have HIR : Hid ((Tryz.prog.info? 32).map (·.size) = some (reqC m.body.req).length) := iq (by rw [reqC_length hm.2.1.1]; exact Tryz.is32)
 clear hr
 clear hm ho
 go_enter Tryz.func55, Tryz.ntmps55
 go_wp2_with (first | ((with_reducible refine wpList_load_midG ?_ 39 (.tmp 1) ?_ w.heap.size 0 ?_ (msgC m) _ ?_ Tryz.underlying39 ?_ ?_ ?_); rotate_left; rfl; rfl; exact HL.out.src; rfl; exact HI.out; rotate_left; rfl) | (go_at_call 41; refine (HM.out _ HL.out.bel).mono ?_; rintro E w1 ⟨rfl, hb1⟩; have HL1 := iq (HL.out.next (Nat.le_refl _) hb1.out); have o0 : w1.cell? ⟨w.heap.size, 0, none⟩ = some (.int .i64 m.origin) := (msg_lies HL1.out.src HMW.out).origin))
 have D1 : Hid (RqAt w.heap.size w (msgC m) (w1.alloc (.cells #[.int .u8 ((byteOf m.origin).toNat : Int)] 5)) /\ Ow (w.heap.size + 1) (w1.alloc (.cells #[.int .u8 ((byteOf m.origin).toNat : Int)] 5)) (some ⟨w1.heap.size, 0, none⟩) 1 1 ([byteOf m.origin] ++ depsB (m.deps.take 0))) := iq ⟨HL1.out.next (Nat.le_refl _) (bl.alloc (Nat.le_refl _) _), ⟨by
  simpa [depsB, u8s] using World.ownsRow_lit w1 #[.int .u8 ((byteOf m.origin).toNat : Int)] 1 (base := w.heap.size + 1) (e := 5) (size := 1) (by have := HL1.out.lt; omega) (by unfold maxLen; omega) rfl, sl_1⟩⟩
 clear HL hb1 o0 hu
 generalize w1.alloc (.cells #[.int .u8 ((byteOf m.origin).toNat : Int)] 5) = w2 at D1 ⊢
 generalize w1.heap.size = g2 at D1 ⊢
 go_loopw [3, 4] (fun v3 v4 wr => ∃ j : Nat, j <= 11 /\ v4 = .int .i64 (j : Int) /\ ∃ A0 n0 c0, v3 = .slice A0 n0 c0 /\ n0 <= 1 + 8 * j /\ Hid (RqAt w.heap.size w (msgC m) wr /\ Ow (w.heap.size + 1) wr A0 n0 c0 ([byteOf m.origin] ++ depsB (m.deps.take j)))) (fun _ v4 _ => 11 - (intOf v4).toNat)
 case atStart => exact ⟨0, by omega, rfl, _, _, _, rfl, by omega, D1⟩
 case round =>
  clear D1
  obtain ⟨j, hj, rfl, A0, n0, c0, rfl, hn0, D⟩ := hrel
  by_cases hjj : j < 11
  ·obtain ⟨x, hx⟩ : ∃ x, m.deps[j]? = some x := ⟨_, List.getElem?_eq_getElem (by rw [HL11.out]; exact hjj)⟩
   have HT := iq (depsB_take hx)
   have cx : wr.cell? ⟨w.heap.size, 2 + j, none⟩ = some (.int .u64 (x : Int)) := (msg_lies D.out.1.src HMW.out).deps j _ (by simp [u64s, hx])
   clear hx
   go_wp2_with (go_at_call 84; refine (rword_ow x D.out.2 (by omega)).mono ?_; rintro E w7 ⟨A7, n7, c7, rfl, H7, hb7⟩; have O7 := iq H7; clear H7)
   go_roundw
   case measure => simp [intOf] <;> omega
   case rel => exact ⟨j + 1, by omega, by go_num, _, _, _, rfl, by
       have h1 := O7.out.len
       have h2 := D.out.2.len
       rw [List.length_append, h2, be_length] at h1
       omega, iq ⟨D.out.1.next (Nat.le_refl _) hb7.out, by rw [HT.out, <- List.append_assoc]; exact O7.out.low (by have := D.out.1.lt; omega)⟩⟩
  ·obtain rfl : j = 11 := by omega
   have O3 : Hid (Ow (w.heap.size + 1) wr A0 n0 c0 ([byteOf m.origin] ++ depsB m.deps) /\ ∀ k, (Value.slice A0 n0 c0).ownBlock = some k -> k < wr.heap.size) := iq ⟨by have := D.out.2; rwa [List.take_of_length_le (by rw [HL11.out]; exact Nat.le_refl _)] at this, fun k hk => (D.out.2.1.lt k hk).2⟩
   have HN : Hid ((wr.alloc (.cells (bodyC zeroBody).toArray 35)).heap[wr.heap.size]? = some (.cells (bodyC zeroBody).toArray 35 (0, 0))) := iq (heap_alloc_new wr _)
   go_wp2_with (first | ((with_reducible refine wpList_load_midG ?_ 35 (.tmp 24) ?_ w.heap.size 13 ?_ (bodyC m.body) _ ?_ Tryz.underlying35 ?_ ?_ ?_); rotate_left; rfl; rfl; exact (msg_lies D.out.1.src HMW.out).body.all; rfl; exact HJ.out; rotate_left; rfl) | (refine wpList_store_part rfl 35 (.tmp 5) (.tmp 25) rfl wr.heap.size 0 (bodyC zeroBody) (bodyC m.body) (bodyC m.body) 35 HN.out HLE.out.1 HLE.out.2 rfl rfl HJ.out (one_bodyC _) ?_; intro wb Gb; have BB : Hid (Below wr.heap.size wr wb) := iq ((bl.alloc (Nat.le_refl _) _).grown Gb.out.2 (by simp) (fun k hk => by injection hk with hk; omega)); have DB : Hid (BdAt w m wr.heap.size wb /\ Ow (w.heap.size + 1) wb A0 n0 c0 ([byteOf m.origin] ++ depsB m.deps)) := iq ⟨⟨D.out.1.next (Nat.le_refl _) BB.out, range_of Gb.out.1, (Array.getElem?_eq_some_iff.1 Gb.out.1).1, D.out.1.lt⟩, O3.out.1.below BB.out⟩; have b0 : wb.cell? ⟨wr.heap.size, 0, none⟩ = some (.int .u8 1) := (body_lies DB.out.1.src HMW.out.2.1).kind.trans (by rw [HKI.out]; rfl)) | (at_builtin; go_must (refine wpList_append_made rfl (.tmp 26) (.tmp 29) rfl (w.heap.size + 1) n0 1 wb.heap.size (.slice A0 n0 c0) ([byteOf m.origin] ++ depsB m.deps) [1] _ rfl rfl rfl DB.out.2.1 (by have := DB.out.1.lt; have := DB.out.1.low; omega) rfl rfl (by omega) ?_); intro A4 c4 w4 K4 G4; have D4 : Hid (BdAt w m wr.heap.size w4) := iq ⟨DB.out.1.rq.fresh (Nat.le_refl _) DB.out.2.1 G4.out, fun j v hv => G4.out.cell (DB.out.1.src j v hv) (fun e => by have := O3.out.2 _ e.symm; simp at this), Nat.lt_of_lt_of_le DB.out.1.lt G4.out.size, DB.out.1.low⟩; have O4 : Hid (Ow (w.heap.size + 1) w4 A4 (n0 + 1) c4 ([byteOf m.origin] ++ depsB m.deps ++ [1])) := iq ⟨K4.out.1, K4.out.2⟩; have ew40 : w4.cell? ⟨wr.heap.size, 0, none⟩ = some (.int .u8 1) := (body_lies D4.out.src HMW.out.2.1).kind.trans (by rw [HKI.out]; rfl); have ew41 : w4.cell? ⟨wr.heap.size, 1, none⟩ = some (.int .u64 (m.body.view : Int)) := (body_lies D4.out.src HMW.out.2.1).view; have ew42 : w4.cell? ⟨wr.heap.size, 2, none⟩ = some (.int .u64 (m.body.k : Int)) := (body_lies D4.out.src HMW.out.2.1).k) | (go_at_call 84; (with_reducible refine (rword_ow m.body.view O4.out (by omega)).mono ?_); rintro E w5 ⟨Aw5, nw5, cw5, rfl, Hw5, hbw5⟩; have Ow5 := iq Hw5; have lw5 := Hw5.len; clear Hw5; have Dw5 : Hid (BdAt w m wr.heap.size w5) := iq (D4.out.next hbw5.out D4.out.lt); have ew50 : w5.cell? ⟨wr.heap.size, 0, none⟩ = some (.int .u8 1) := (body_lies Dw5.out.src HMW.out.2.1).kind.trans (by rw [HKI.out]; rfl); have ew51 : w5.cell? ⟨wr.heap.size, 1, none⟩ = some (.int .u64 (m.body.view : Int)) := (body_lies Dw5.out.src HMW.out.2.1).view; have ew52 : w5.cell? ⟨wr.heap.size, 2, none⟩ = some (.int .u64 (m.body.k : Int)) := (body_lies Dw5.out.src HMW.out.2.1).k; simp only [List.length_append, be_length, List.length_cons, List.length_nil, depsB_len, HL11.out] at lw5))
   refine wp_region_any (by kernel_rfl) ?_
   have D6 := iq (Dw5.out.drewN 1)
   have O6 := iq ((Ow5.out.low (B' := wr.heap.size + 1) (by have := D4.out.lt; omega)).below (below_drewN bl 1))
   change wpAny _ _ _ _ _ _ _ (w5.drewN 1)
   generalize w5.drewN 1 = w6 at D6 O6 ⊢
   refine wpAny_of_held (S := fun W => W.rangeAt wr.heap.size 0 (bodyC m.body)) _ _ _ _ ?_
   refine tk 0 ⟨some 42, .move (.tmp 3), _, _, _, none⟩ (.slice Aw5 nw5 cw5) rfl (by kernel_rfl) (fun _ _ _ => id) (D6.out.src) (fun W hSW => by go_simp) ?_
   try simp only [Act.put, l0, l1, l2]
   refine tk 1 ⟨some 43, .fieldAddr 35 (.tmp 5) 3, _, _, _, none⟩ (.pointer (some ⟨wr.heap.size, 3, none⟩)) rfl (by kernel_rfl) (fun _ _ _ => id) (D6.out.src) (fun W hSW => by go_simp) ?_
   try simp only [pu, l0, l1, l2]
   refine tk 2 ⟨some 44, .load 32 (.tmp 43), _, _, _, none⟩ (.agg (reqC m.body.req).toArray) rfl (by kernel_rfl) (fun _ _ _ => id) (D6.out.src) (fun W hSW => exec_load_mid 32 (.tmp 43) rfl wr.heap.size 3 rfl (reqC m.body.req) _ ((body_lies hSW HMW.out.2.1).req.all) Tryz.underlying32 rfl (HIR.out)) ?_
   try simp only [pu, l0, l1, l2]
   refine tk 4 ⟨some 46, .fieldAddr 35 (.tmp 5) 3, _, _, _, none⟩ (.pointer (some ⟨wr.heap.size, 3, none⟩)) rfl (by kernel_rfl) (fun _ _ _ => id) (D6.out.src) (fun W hSW => by go_simp) ?_
   try simp only [pu, l0, l1, l2]
   refine tk 5 ⟨some 47, .fieldAddr 32 (.tmp 46) 3, _, _, _, none⟩ (.pointer (some ⟨wr.heap.size, 11, none⟩)) rfl (by kernel_rfl) (fun _ _ _ => id) (D6.out.src) (fun W hSW => by go_simp) ?_
   try simp only [pu, l0, l1, l2]
   refine tk 6 ⟨some 48, .slice 30 (.tmp 47) none none none, _, _, _, none⟩ (.slice (some ⟨wr.heap.size, 11, none⟩) 32 32) rfl (by kernel_rfl) (fun _ _ _ => id) (D6.out.src) (fun W hSW => by go_simp) ?_
   try simp only [pu, l0, l1, l2]
   refine rd1 3 ⟨some 45, .call { callee := .value (.func 85), args := #[.tmp 42, .tmp 44], argTypes := #[23, 32] }, _, _, _, none⟩ (by kernel_rfl) rfl fun K' hK' => ?_
   go_simp
   go_at_call 85
   refine (request_rf m.body.req (wr.heap.size + 1) nw5 cw5 w6 Aw5 _ O6.out (by have := D6.out.lt; omega) (by omega) HRM.out).mono ?_
   rintro E w7 ⟨A7, n7, c7, rfl, H7, b7⟩
   have O7 := iq H7
   have l7 := H7.len
   clear H7
   simp only [List.length_append, be_length, List.length_cons, List.length_nil, depsB_len, HL11.out] at l7
   have D7 := iq (D6.out.next b7.out (Nat.lt_succ_self _))
   refine hK'.out _ _ (D7.out.src) (fun _ => ?_)
   clear hK' K'
   try simp only [Act.put, l0, l1, l2]
   refine rd1 7 ⟨some 49, .call { callee := .builtin .append, args := #[.tmp 45, .tmp 48], argTypes := #[23, 23] }, _, _, _, none⟩ (by kernel_rfl) rfl fun K' hK' => ?_
   refine step_append_gb rfl (.tmp 45) (.tmp 48) rfl (wr.heap.size + 1) n7 32 32 (.slice A7 n7 c7) (some ⟨wr.heap.size, 11, none⟩) _ m.body.req.tag rfl rfl (O7.out.low (by have := D6.out.lt; omega)).1 (rd_of_range (body_lies D7.out.src HMW.out.2.1).req.tag HMW.out.2.1.1 D7.out.lt) sl_32 (by have := D7.out.lt; omega) (by omega) ?_
   intro A8 c8 w8 H8 G8
   have D8 := iq (D7.out.fresh (O7.out.low (by have := D6.out.lt; omega)).1 G8.out)
   refine hK'.out _ _ D8.out.src (fun _ => ?_)
   clear hK' K'
   try simp only [Act.put, l0, l1, l2]
   refine tk 8 ⟨some 3, .assign (.tmp 49), _, _, _, none⟩ (.slice A8 (n7 + 32) c8) rfl (by kernel_rfl) (fun _ _ _ => id) (D8.out.src) (fun W hSW => by go_simp) ?_
   try simp only [pu, l0, l1, l2]
   refine wpAnyH_done (by kernel_rfl) ?_ _
   go_wp2_with fail
   go_ret
   exact ⟨_, _, _, rfl, ⟨by rw [HKI.out]; have := own_low H8.out.1 (B' := w.heap.size) (by have := D4.out.low; omega); simpa [List.append_assoc] using this, H8.out.2⟩, iq D8.out.rq.bel⟩
theorem bytesr_6 (m : MMsg) (w : World) (hm : m.Wf) (ho : isRepl m.origin = true) (HKI : Hid (m.body.kind = 6)) 
  (HM : Hid (∀ W, Below w.heap.size w W -> Calls Tryz.prog 41 #[.agg (msgC m).toArray] W fun E w' => E = .returned (.bool true) /\ Hid (Below W.heap.size W w'))) :
  Calls Tryz.prog 55 #[.agg (msgC m).toArray] w fun E w' => ∃ A' n' c', E = .returned (.slice A' n' c') /\ Ow w.heap.size w' A' n' c' (byteOf m.origin :: (depsB m.deps ++ (m.body.kind :: (be 8 m.body.k ++ m.body.dig)))) /\ Hid (Below w.heap.size w w') := by
 have HI : Hid ((Tryz.prog.info? 39).map (·.size) = some (msgC m).length) := iq (by rw [msgC_length hm]; exact Tryz.is39)
 have HJ : Hid ((Tryz.prog.info? 35).map (·.size) = some (bodyC m.body).length) := iq (by rw [bodyC_length hm.2.1]; exact Tryz.is35)
 have HL : Hid (RqAt w.heap.size w (msgC m) (w.alloc (.cells (msgC m).toArray 39))) := iq ⟨bl.alloc (Nat.le_refl _) _, by simp, range_box w (msgC m) 39⟩
 have HMW := iq hm
 have HL11 := iq hm.1
 have hu : IntKind.u8.wrap m.origin = ((byteOf m.origin).toNat : Int) := u8_wrap (by simp only [isRepl, decide_eq_true_eq] at ho; omega)
 have hz : ∀ w, (zeroValue 35).run Tryz.prog w = .ok (.agg (bodyC zeroBody).toArray) w := zero_body
 have HLE : Hid (0 + (bodyC m.body).length <= (bodyC zeroBody).length /\ setAll (bodyC zeroBody) 0 (bodyC m.body) = bodyC m.body) := iq ⟨by rw [bodyC_length zero_wf, bodyC_length hm.2.1]; omega, setAll_all (by rw [bodyC_length zero_wf, bodyC_length hm.2.1])⟩
 clear hm ho
 go_enter Tryz.func55, Tryz.ntmps55
 go_wp2_with (first | ((with_reducible refine wpList_load_midG ?_ 39 (.tmp 1) ?_ w.heap.size 0 ?_ (msgC m) _ ?_ Tryz.underlying39 ?_ ?_ ?_); rotate_left; rfl; rfl; exact HL.out.src; rfl; exact HI.out; rotate_left; rfl) | (go_at_call 41; refine (HM.out _ HL.out.bel).mono ?_; rintro E w1 ⟨rfl, hb1⟩; have HL1 := iq (HL.out.next (Nat.le_refl _) hb1.out); have o0 : w1.cell? ⟨w.heap.size, 0, none⟩ = some (.int .i64 m.origin) := (msg_lies HL1.out.src HMW.out).origin))
 have D1 : Hid (RqAt w.heap.size w (msgC m) (w1.alloc (.cells #[.int .u8 ((byteOf m.origin).toNat : Int)] 5)) /\ Ow (w.heap.size + 1) (w1.alloc (.cells #[.int .u8 ((byteOf m.origin).toNat : Int)] 5)) (some ⟨w1.heap.size, 0, none⟩) 1 1 ([byteOf m.origin] ++ depsB (m.deps.take 0))) := iq ⟨HL1.out.next (Nat.le_refl _) (bl.alloc (Nat.le_refl _) _), ⟨by
  simpa [depsB, u8s] using World.ownsRow_lit w1 #[.int .u8 ((byteOf m.origin).toNat : Int)] 1 (base := w.heap.size + 1) (e := 5) (size := 1) (by have := HL1.out.lt; omega) (by unfold maxLen; omega) rfl, sl_1⟩⟩
 clear HL hb1 o0 hu
 generalize w1.alloc (.cells #[.int .u8 ((byteOf m.origin).toNat : Int)] 5) = w2 at D1 ⊢
 generalize w1.heap.size = g2 at D1 ⊢
 go_loopw [3, 4] (fun v3 v4 wr => ∃ j : Nat, j <= 11 /\ v4 = .int .i64 (j : Int) /\ ∃ A0 n0 c0, v3 = .slice A0 n0 c0 /\ n0 <= 1 + 8 * j /\ Hid (RqAt w.heap.size w (msgC m) wr /\ Ow (w.heap.size + 1) wr A0 n0 c0 ([byteOf m.origin] ++ depsB (m.deps.take j)))) (fun _ v4 _ => 11 - (intOf v4).toNat)
 case atStart => exact ⟨0, by omega, rfl, _, _, _, rfl, by omega, D1⟩
 case round =>
  clear D1
  obtain ⟨j, hj, rfl, A0, n0, c0, rfl, hn0, D⟩ := hrel
  by_cases hjj : j < 11
  ·obtain ⟨x, hx⟩ : ∃ x, m.deps[j]? = some x := ⟨_, List.getElem?_eq_getElem (by rw [HL11.out]; exact hjj)⟩
   have HT := iq (depsB_take hx)
   have cx : wr.cell? ⟨w.heap.size, 2 + j, none⟩ = some (.int .u64 (x : Int)) := (msg_lies D.out.1.src HMW.out).deps j _ (by simp [u64s, hx])
   clear hx
   go_wp2_with (go_at_call 84; refine (rword_ow x D.out.2 (by omega)).mono ?_; rintro E w7 ⟨A7, n7, c7, rfl, H7, hb7⟩; have O7 := iq H7; clear H7)
   go_roundw
   case measure => simp [intOf] <;> omega
   case rel => exact ⟨j + 1, by omega, by go_num, _, _, _, rfl, by
       have h1 := O7.out.len
       have h2 := D.out.2.len
       rw [List.length_append, h2, be_length] at h1
       omega, iq ⟨D.out.1.next (Nat.le_refl _) hb7.out, by rw [HT.out, <- List.append_assoc]; exact O7.out.low (by have := D.out.1.lt; omega)⟩⟩
  ·obtain rfl : j = 11 := by omega
   have O3 : Hid (Ow (w.heap.size + 1) wr A0 n0 c0 ([byteOf m.origin] ++ depsB m.deps) /\ ∀ k, (Value.slice A0 n0 c0).ownBlock = some k -> k < wr.heap.size) := iq ⟨by have := D.out.2; rwa [List.take_of_length_le (by rw [HL11.out]; exact Nat.le_refl _)] at this, fun k hk => (D.out.2.1.lt k hk).2⟩
   have HN : Hid ((wr.alloc (.cells (bodyC zeroBody).toArray 35)).heap[wr.heap.size]? = some (.cells (bodyC zeroBody).toArray 35 (0, 0))) := iq (heap_alloc_new wr _)
   go_wp2_with (first | ((with_reducible refine wpList_load_midG ?_ 35 (.tmp 24) ?_ w.heap.size 13 ?_ (bodyC m.body) _ ?_ Tryz.underlying35 ?_ ?_ ?_); rotate_left; rfl; rfl; exact (msg_lies D.out.1.src HMW.out).body.all; rfl; exact HJ.out; rotate_left; rfl) | (refine wpList_store_part rfl 35 (.tmp 5) (.tmp 25) rfl wr.heap.size 0 (bodyC zeroBody) (bodyC m.body) (bodyC m.body) 35 HN.out HLE.out.1 HLE.out.2 rfl rfl HJ.out (one_bodyC _) ?_; intro wb Gb; have BB : Hid (Below wr.heap.size wr wb) := iq ((bl.alloc (Nat.le_refl _) _).grown Gb.out.2 (by simp) (fun k hk => by injection hk with hk; omega)); have DB : Hid (BdAt w m wr.heap.size wb /\ Ow (w.heap.size + 1) wb A0 n0 c0 ([byteOf m.origin] ++ depsB m.deps)) := iq ⟨⟨D.out.1.next (Nat.le_refl _) BB.out, range_of Gb.out.1, (Array.getElem?_eq_some_iff.1 Gb.out.1).1, D.out.1.lt⟩, O3.out.1.below BB.out⟩; have b0 : wb.cell? ⟨wr.heap.size, 0, none⟩ = some (.int .u8 6) := (body_lies DB.out.1.src HMW.out.2.1).kind.trans (by rw [HKI.out]; rfl)) | (at_builtin; go_must (refine wpList_append_made rfl (.tmp 26) (.tmp 29) rfl (w.heap.size + 1) n0 1 wb.heap.size (.slice A0 n0 c0) ([byteOf m.origin] ++ depsB m.deps) [6] _ rfl rfl rfl DB.out.2.1 (by have := DB.out.1.lt; have := DB.out.1.low; omega) rfl rfl (by omega) ?_); intro A4 c4 w4 K4 G4; have D4 : Hid (BdAt w m wr.heap.size w4) := iq ⟨DB.out.1.rq.fresh (Nat.le_refl _) DB.out.2.1 G4.out, fun j v hv => G4.out.cell (DB.out.1.src j v hv) (fun e => by have := O3.out.2 _ e.symm; simp at this), Nat.lt_of_lt_of_le DB.out.1.lt G4.out.size, DB.out.1.low⟩; have O4 : Hid (Ow (w.heap.size + 1) w4 A4 (n0 + 1) c4 ([byteOf m.origin] ++ depsB m.deps ++ [6])) := iq ⟨K4.out.1, K4.out.2⟩; have ew40 : w4.cell? ⟨wr.heap.size, 0, none⟩ = some (.int .u8 6) := (body_lies D4.out.src HMW.out.2.1).kind.trans (by rw [HKI.out]; rfl); have ew41 : w4.cell? ⟨wr.heap.size, 1, none⟩ = some (.int .u64 (m.body.view : Int)) := (body_lies D4.out.src HMW.out.2.1).view; have ew42 : w4.cell? ⟨wr.heap.size, 2, none⟩ = some (.int .u64 (m.body.k : Int)) := (body_lies D4.out.src HMW.out.2.1).k))
   refine wp_region_any (by kernel_rfl) ?_
   have D6 := iq (D4.out.drewN 1)
   have O6 : Hid (Ow (w.heap.size + 1) (w4.drewN 1) A4 (n0 + 1) c4 ([byteOf m.origin] ++ depsB m.deps ++ [6])) := iq (O4.out.below (below_drewN bl 1))
   change wpAny _ _ _ _ _ _ _ (w4.drewN 1)
   generalize w4.drewN 1 = w6 at D6 O6 ⊢
   refine wpAny_of_held (S := fun W => W.rangeAt wr.heap.size 0 (bodyC m.body)) _ _ _ _ ?_
   refine tk 0 ⟨some 91, .move (.tmp 3), _, _, _, none⟩ (.slice A4 (n0 + 1) c4) rfl (by kernel_rfl) (fun _ _ _ => id) (D6.out.src) (fun W hSW => by go_simp) ?_
   try simp only [Act.put, l0, l1, l2]
   refine tk 1 ⟨some 92, .fieldAddr 35 (.tmp 5) 2, _, _, _, none⟩ (.pointer (some ⟨wr.heap.size, 2, none⟩)) rfl (by kernel_rfl) (fun _ _ _ => id) (D6.out.src) (fun W hSW => by go_simp) ?_
   try simp only [pu, l0, l1, l2]
   refine tk 2 ⟨some 93, .load 25 (.tmp 92), _, _, _, none⟩ (.int .u64 (m.body.k : Int)) rfl (by kernel_rfl) (fun _ _ _ => id) (D6.out.src) (fun W hSW => by have hv : W.cell? ⟨wr.heap.size, 2, none⟩ = some (.int .u64 (m.body.k : Int)) := (body_lies hSW HMW.out.2.1).k; go_simp) ?_
   try simp only [pu, l0, l1, l2]
   refine tk 4 ⟨some 95, .fieldAddr 35 (.tmp 5) 5, _, _, _, none⟩ (.pointer (some ⟨wr.heap.size, 44, none⟩)) rfl (by kernel_rfl) (fun _ _ _ => id) (D6.out.src) (fun W hSW => by go_simp) ?_
   try simp only [pu, l0, l1, l2]
   refine tk 5 ⟨some 96, .slice 30 (.tmp 95) none none none, _, _, _, none⟩ (.slice (some ⟨wr.heap.size, 44, none⟩) 32 32) rfl (by kernel_rfl) (fun _ _ _ => id) (D6.out.src) (fun W hSW => by go_simp) ?_
   try simp only [pu, l0, l1, l2]
   refine rd1 3 ⟨some 94, .call { callee := .value (.func 84), args := #[.tmp 91, .tmp 93], argTypes := #[23, 25] }, _, _, _, none⟩ (by kernel_rfl) rfl fun K' hK' => ?_
   go_simp
   go_at_call 84
   refine (rword_ow m.body.k O6.out (by omega)).mono ?_
   rintro E w7 ⟨A7, n7, c7, rfl, H7, b7⟩
   have O7 := iq H7
   have l7 := H7.len
   clear H7
   simp only [List.length_append, be_length, List.length_cons, List.length_nil, depsB_len, HL11.out] at l7
   have D7 := iq (D6.out.next b7.out D6.out.lt)
   refine hK'.out _ _ (D7.out.src) (fun _ => ?_)
   clear hK' K'
   try simp only [Act.put, l0, l1, l2]
   refine rd1 6 ⟨some 97, .call { callee := .builtin .append, args := #[.tmp 94, .tmp 96], argTypes := #[23, 23] }, _, _, _, none⟩ (by kernel_rfl) rfl fun K' hK' => ?_
   refine step_append_gb rfl (.tmp 94) (.tmp 96) rfl (wr.heap.size + 1) n7 32 32 (.slice A7 n7 c7) (some ⟨wr.heap.size, 44, none⟩) _ m.body.dig rfl rfl (O7.out.low (by have := D6.out.lt; omega)).1 (rd_of_range (body_lies D7.out.src HMW.out.2.1).dig HMW.out.2.1.2 D7.out.lt) sl_32 (by have := D7.out.lt; omega) (by omega) ?_
   intro A8 c8 w8 H8 G8
   have D8 := iq (D7.out.fresh (O7.out.low (by have := D6.out.lt; omega)).1 G8.out)
   refine hK'.out _ _ D8.out.src (fun _ => ?_)
   clear hK' K'
   try simp only [Act.put, l0, l1, l2]
   refine tk 7 ⟨some 3, .assign (.tmp 97), _, _, _, none⟩ (.slice A8 (n7 + 32) c8) rfl (by kernel_rfl) (fun _ _ _ => id) (D8.out.src) (fun W hSW => by go_simp) ?_
   try simp only [pu, l0, l1, l2]
   refine wpAnyH_done (by kernel_rfl) ?_ _
   go_wp2_with fail
   go_ret
   exact ⟨_, _, _, rfl, ⟨by rw [HKI.out]; have := own_low H8.out.1 (B' := w.heap.size) (by have := D4.out.low; omega); simpa [List.append_assoc] using this, H8.out.2⟩, iq D8.out.rq.bel⟩
end Go.Proofs.YtknpcmadghkaaaaGreatDoor.Sh
