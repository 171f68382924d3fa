/-
  What is proved: the bytes of a Commit, by the document's own answers (Bytes), and its tag (Tagged). Conditions as stated.
-/
import Derived.Test.YtghjogneogkpoaaGreatDoorRe
namespace Go.Proofs.YtghjogneogkpoaaGreatDoor.Sh
open Go.RowKit
set_option maxRecDepth 100000

set_option maxHeartbeats 8000000 in
theorem bytesr_2 (m : MMsg) (w : World) (hm : m.Wf) (ho : isRepl m.origin = true) (HKI : Hid (m.body.kind = 2)) 
    (HM : Hid (∀ W, Below w.heap.size w W → Calls Tryz.prog 14 #[.agg (msgC m).toArray] W fun E w' => E = .returned (.bool true) ∧ Hid (Below W.heap.size W w'))) :
    Calls Tryz.prog 16 #[.agg (msgC m).toArray] w fun E w' => ∃ A' n' c', E = .returned (.slice A' n' c') ∧ Ow w.heap.size w' A' n' c' (byteOf m.origin :: (depsB m.deps ++ (m.body.kind :: (be 8 m.body.view ++ be 8 m.body.k)))) ∧ Hid (Below w.heap.size w w') := by
  have HI : Hid ((Tryz.prog.info? 34).map (·.size) = some (msgC m).length) := Lib.hid (by rw [msgC_length hm]; exact Tryz.is34)
  have HJ : Hid ((Tryz.prog.info? 32).map (·.size) = some (bodyC m.body).length) := Lib.hid (by rw [bodyC_length hm.2.1]; exact Tryz.is32)
  have HL : Hid (RqAt w.heap.size w (msgC m) (w.alloc (.cells (msgC m).toArray 34))) := Lib.hid ⟨(Below.refl _ _).alloc (Nat.le_refl _) _, by simp, range_box w (msgC m) 34⟩
  have HMW := Lib.hid hm
  have HL11 := Lib.hid hm.1
  have hu : IntKind.u8.wrap m.origin = ((byteOf m.origin).toNat : Int) := u8_wrap (by simp only [isRepl, decide_eq_true_eq] at ho; omega)
  have hz : ∀ w, (zeroValue 32).run Tryz.prog w = .ok (.agg (bodyC zeroBody).toArray) w := zero_body
  have HLE : Hid (0 + (bodyC m.body).length ≤ (bodyC zeroBody).length ∧ setAll (bodyC zeroBody) 0 (bodyC m.body) = bodyC m.body) := Lib.hid ⟨by rw [bodyC_length zero_wf, bodyC_length hm.2.1]; omega, setAll_all (by rw [bodyC_length zero_wf, bodyC_length hm.2.1])⟩
  clear hm ho
  go_enter Tryz.func16, Tryz.ntmps16
  go_wp2_with (first | ((with_reducible refine wpList_load_midG ?_ 34 (.tmp 1) ?_ w.heap.size 0 ?_ (msgC m) _ ?_ Tryz.underlying34 ?_ ?_ ?_); (· rfl); (· rfl); (· rfl); (· exact HL.out.src); (· rfl); (· exact HI.out)) | (go_at_call 14; refine (HM.out _ HL.out.bel).mono ?_; rintro E w1 ⟨rfl, hb1⟩; have HL1 := Lib.hid (HL.out.next (Nat.le_refl _) hb1.out); have o0 : w1.cell? ⟨w.heap.size, 0, none⟩ = some (.int .i64 m.origin) := (msg_lies HL1.out.src HMW.out).origin))
  have D1 : Hid (RqAt w.heap.size w (msgC m) (w1.alloc (.cells #[.int .u8 ((byteOf m.origin).toNat : Int)] 5)) ∧ Ow (w.heap.size + 1) (w1.alloc (.cells #[.int .u8 ((byteOf m.origin).toNat : Int)] 5)) (some ⟨w1.heap.size, 0, none⟩) 1 1 ([byteOf m.origin] ++ depsB (m.deps.take 0))) := Lib.hid ⟨HL1.out.next (Nat.le_refl _) ((Below.refl _ _).alloc (Nat.le_refl _) _), ⟨by
    simpa [depsB, u8s] using World.ownsRow_lit w1 #[.int .u8 ((byteOf m.origin).toNat : Int)] 1 (base := w.heap.size + 1) (e := 5) (size := 1) (by have := HL1.out.lt; omega) (by unfold maxLen; omega) rfl, sl_1⟩⟩
  clear HL hb1 o0 hu
  generalize w1.alloc (.cells #[.int .u8 ((byteOf m.origin).toNat : Int)] 5) = w2 at D1 ⊢
  generalize w1.heap.size = g2 at D1 ⊢
  go_loopw [3, 4] (fun v3 v4 wr => ∃ j : Nat, j ≤ 11 ∧ v4 = .int .i64 (j : Int) ∧ ∃ A0 n0 c0, v3 = .slice A0 n0 c0 ∧ n0 ≤ 1 + 8 * j ∧ Hid (RqAt w.heap.size w (msgC m) wr ∧ Ow (w.heap.size + 1) wr A0 n0 c0 ([byteOf m.origin] ++ depsB (m.deps.take j)))) (fun _ v4 _ => 11 - (intOf v4).toNat)
  case atStart => exact ⟨0, by omega, rfl, _, _, _, rfl, by omega, D1⟩
  case round =>
    clear D1
    obtain ⟨j, hj, rfl, A0, n0, c0, rfl, hn0, D⟩ := hrel
    by_cases hjj : j < 11
    · obtain ⟨x, hx⟩ : ∃ x, m.deps[j]? = some x := ⟨_, List.getElem?_eq_getElem (by rw [HL11.out]; exact hjj)⟩
      have HT := Lib.hid (depsB_take hx)
      have cx : wr.cell? ⟨w.heap.size, 2 + j, none⟩ = some (.int .u64 (x : Int)) := (msg_lies D.out.1.src HMW.out).deps j _ (by simp [u64s, hx])
      clear hx
      go_wp2_with (go_at_call 38; refine (rword_ow x D.out.2 (by omega)).mono ?_; rintro E w7 ⟨A7, n7, c7, rfl, H7, hb7⟩; have O7 := Lib.hid H7; clear H7)
      go_roundw
      case measure => simp [intOf] <;> omega
      case rel => exact ⟨j + 1, by omega, by go_num, _, _, _, rfl, by
              have h1 := O7.out.len
              have h2 := D.out.2.len
              rw [List.length_append, h2, be_length] at h1
              omega, Lib.hid ⟨D.out.1.next (Nat.le_refl _) hb7.out, by rw [HT.out, ← List.append_assoc]; exact O7.out.low (by have := D.out.1.lt; omega)⟩⟩
    · obtain rfl : j = 11 := by omega
      have O3 : Hid (Ow (w.heap.size + 1) wr A0 n0 c0 ([byteOf m.origin] ++ depsB m.deps) ∧ ∀ k, (Value.slice A0 n0 c0).ownBlock = some k → k < wr.heap.size) := Lib.hid ⟨by have := D.out.2; rwa [List.take_of_length_le (by rw [HL11.out]; exact Nat.le_refl _)] at this, fun k hk => (D.out.2.1.lt k hk).2⟩
      have HN : Hid ((wr.alloc (.cells (bodyC zeroBody).toArray 32)).heap[wr.heap.size]? = some (.cells (bodyC zeroBody).toArray 32 (0, 0))) := Lib.hid (heap_alloc_new wr _)
      go_wp2_with (first | ((with_reducible refine wpList_load_midG ?_ 32 (.tmp 24) ?_ w.heap.size 13 ?_ (bodyC m.body) _ ?_ Tryz.underlying32 ?_ ?_ ?_); (· rfl); (· rfl); (· rfl); (· exact (msg_lies D.out.1.src HMW.out).body.all); (· rfl); (· exact HJ.out)) | (refine wpList_store_part rfl 32 (.tmp 5) (.tmp 25) rfl wr.heap.size 0 (bodyC zeroBody) (bodyC m.body) (bodyC m.body) 32 HN.out HLE.out.1 HLE.out.2 rfl rfl HJ.out (one_bodyC _) ?_; intro wb Gb; have BB : Hid (Below wr.heap.size wr wb) := Lib.hid (((Below.refl _ _).alloc (Nat.le_refl _) _).grown Gb.out.2 (by simp) (fun k hk => by injection hk with hk; omega)); have DB : Hid (RqAt w.heap.size w (msgC m) wb ∧ wb.rangeAt wr.heap.size 0 (bodyC m.body) ∧ wr.heap.size < wb.heap.size ∧ Ow (w.heap.size + 1) wb A0 n0 c0 ([byteOf m.origin] ++ depsB m.deps)) := Lib.hid ⟨D.out.1.next (Nat.le_refl _) BB.out, range_of Gb.out.1, (Array.getElem?_eq_some_iff.1 Gb.out.1).1, O3.out.1.below BB.out⟩; have b0 : wb.cell? ⟨wr.heap.size, 0, none⟩ = some (.int .u8 2) := (body_lies DB.out.2.1 HMW.out.2.1).kind.trans (by rw [HKI.out]; rfl)) | (at_builtin; go_must (refine wpList_append_made rfl (.tmp 26) (.tmp 29) rfl (w.heap.size + 1) n0 1 wb.heap.size (.slice A0 n0 c0) ([byteOf m.origin] ++ depsB m.deps) [2] _ rfl rfl rfl DB.out.2.2.2.1 (by have := DB.out.1.lt; omega) rfl rfl (by omega) ?_); intro A4 c4 w4 K4 G4; have D4 : Hid (RqAt w.heap.size w (msgC m) w4 ∧ w4.rangeAt wr.heap.size 0 (bodyC m.body) ∧ wr.heap.size < w4.heap.size) := Lib.hid ⟨DB.out.1.fresh (Nat.le_refl _) DB.out.2.2.2.1 G4.out, fun j v hv => G4.out.cell (DB.out.2.1 j v hv) (fun e => by have := O3.out.2 _ e.symm; simp at this), Nat.lt_of_lt_of_le DB.out.2.2.1 G4.out.size⟩; have d0 : w4.cell? ⟨wr.heap.size, 0, none⟩ = some (.int .u8 2) := (body_lies D4.out.2.1 HMW.out.2.1).kind.trans (by rw [HKI.out]; rfl); have d1 : w4.cell? ⟨wr.heap.size, 1, none⟩ = some (.int .u64 (m.body.view : Int)) := (body_lies D4.out.2.1 HMW.out.2.1).view; have d2 : w4.cell? ⟨wr.heap.size, 2, none⟩ = some (.int .u64 (m.body.k : Int)) := (body_lies D4.out.2.1 HMW.out.2.1).k) | (go_at_call 38; refine (rword_ow m.body.view (⟨K4.out.1, K4.out.2⟩ : Ow (w.heap.size + 1) w4 A4 (n0 + 1) c4 _) (by omega)).mono ?_; rintro E w5 ⟨Aw5, nw5, cw5, rfl, Hw5, hbw5⟩; have Ow5 := Lib.hid Hw5; have lw5 := Hw5.len; clear Hw5; have D5 : Hid (RqAt w.heap.size w (msgC m) w5 ∧ w5.rangeAt wr.heap.size 0 (bodyC m.body) ∧ wr.heap.size < w5.heap.size) := Lib.hid ⟨D4.out.1.next (Nat.le_refl _) hbw5.out, rangeAt_below D4.out.2.1 hbw5.out D4.out.2.2, Nat.lt_of_lt_of_le D4.out.2.2 hbw5.out.size⟩; have ew50 : w5.cell? ⟨wr.heap.size, 0, none⟩ = some (.int .u8 2) := (body_lies D5.out.2.1 HMW.out.2.1).kind.trans (by rw [HKI.out]; rfl); have ew51 : w5.cell? ⟨wr.heap.size, 1, none⟩ = some (.int .u64 (m.body.view : Int)) := (body_lies D5.out.2.1 HMW.out.2.1).view; have ew52 : w5.cell? ⟨wr.heap.size, 2, none⟩ = some (.int .u64 (m.body.k : Int)) := (body_lies D5.out.2.1 HMW.out.2.1).k; simp only [List.length_append, be_length, List.length_cons, List.length_nil, depsB_len, HL11.out] at lw5) | (go_at_call 38; refine (rword_ow m.body.k Ow5.out (by omega)).mono ?_; rintro E w6 ⟨Aw6, nw6, cw6, rfl, Hw6, hbw6⟩; have Ow6 := Lib.hid Hw6; have lw6 := Hw6.len; clear Hw6; have D6 : Hid (RqAt w.heap.size w (msgC m) w6 ∧ w6.rangeAt wr.heap.size 0 (bodyC m.body) ∧ wr.heap.size < w6.heap.size) := Lib.hid ⟨D5.out.1.next (Nat.le_refl _) hbw6.out, rangeAt_below D5.out.2.1 hbw6.out D5.out.2.2, Nat.lt_of_lt_of_le D5.out.2.2 hbw6.out.size⟩; have ew60 : w6.cell? ⟨wr.heap.size, 0, none⟩ = some (.int .u8 2) := (body_lies D6.out.2.1 HMW.out.2.1).kind.trans (by rw [HKI.out]; rfl); have ew61 : w6.cell? ⟨wr.heap.size, 1, none⟩ = some (.int .u64 (m.body.view : Int)) := (body_lies D6.out.2.1 HMW.out.2.1).view; have ew62 : w6.cell? ⟨wr.heap.size, 2, none⟩ = some (.int .u64 (m.body.k : Int)) := (body_lies D6.out.2.1 HMW.out.2.1).k; simp only [List.length_append, be_length, List.length_cons, List.length_nil, depsB_len, HL11.out] at lw6))
      go_ret
      exact ⟨_, _, _, rfl, by rw [HKI.out]; have := Ow6.out.low (B' := w.heap.size) (by have := D5.out.1.lt; omega); simpa [List.append_assoc] using this, Lib.hid D6.out.1.bel⟩
end Go.Proofs.YtghjogneogkpoaaGreatDoor.Sh
