/-
  What is proved: Bytes, Put, Right and Tagged of any message, by the document. Conditions as stated.
-/
import Derived.Test.YtghjogneogkpoaaGreatDoorUcc
import Derived.Test.YtghjogneogkpoaaGreatDoorVAc
namespace Go.Proofs.YtghjogneogkpoaaGreatDoor.Sh
open Go.RowKit
set_option maxRecDepth 100000

theorem bytesr_no (m : MMsg) (w : World) (hm : m.Wf) (HM : Hid (∀ W, Below w.heap.size w W → Calls Tryz.prog 14 #[.agg (msgC m).toArray] W fun E w' => E = .returned (.bool false) ∧ Hid (Below W.heap.size W w'))) :
    Calls Tryz.prog 16 #[.agg (msgC m).toArray] w fun E w' => E = .returned (.slice none 0 0) ∧ Hid (Below w.heap.size w w') := by
  have HI : Hid ((Tryz.prog.info? 34).map (·.size) = some (msgC m).length) := Lib.hid (by rw [msgC_length hm]; exact Tryz.is34)
  have HL : Hid (RqAt w.heap.size w (msgC m) (w.alloc (.cells (msgC m).toArray 34))) := Lib.hid ⟨(Below.refl _ _).alloc (Nat.le_refl _) _, by simp, range_box w (msgC m) 34⟩
  clear hm
  go_enter Tryz.func16, Tryz.ntmps16
  go_wp2_with (first | ((with_reducible refine wpList_load_midG ?_ 34 (.tmp 1) ?_ w.heap.size 0 ?_ (msgC m) _ ?_ Tryz.underlying34 ?_ ?_ ?_); (· rfl); (· rfl); (· rfl); (· exact HL.out.src); (· rfl); (· exact HI.out)) | (go_at_call 14; (with_reducible refine (HM.out _ HL.out.bel).mono ?_); rintro E w1 ⟨rfl, hb1⟩; have HL1 := Lib.hid (HL.out.next (Nat.le_refl _) hb1.out)))
  go_ret
  exact ⟨rfl, Lib.hid HL1.out.bel⟩
theorem putr_no (m : MMsg) (w : World) (hm : m.Wf) (HM : Hid (∀ W, Below w.heap.size w W → Calls Tryz.prog 14 #[.agg (msgC m).toArray] W fun E w' => E = .returned (.bool false) ∧ Hid (Below W.heap.size W w'))) :
    Calls Tryz.prog 18 #[.agg (msgC m).toArray] w fun E w' => E = .returned (.slice none 0 0) ∧ Hid (Below w.heap.size w w') := by
  have HI : Hid ((Tryz.prog.info? 34).map (·.size) = some (msgC m).length) := Lib.hid (by rw [msgC_length hm]; exact Tryz.is34)
  have HL : Hid (RqAt w.heap.size w (msgC m) (w.alloc (.cells (msgC m).toArray 34))) := Lib.hid ⟨(Below.refl _ _).alloc (Nat.le_refl _) _, by simp, range_box w (msgC m) 34⟩
  clear hm
  go_enter Tryz.func18, Tryz.ntmps18
  go_wp2_with (first | ((with_reducible refine wpList_load_midG ?_ 34 (.tmp 1) ?_ w.heap.size 0 ?_ (msgC m) _ ?_ Tryz.underlying34 ?_ ?_ ?_); (· rfl); (· rfl); (· rfl); (· exact HL.out.src); (· rfl); (· exact HI.out)) | (go_at_call 14; (with_reducible refine (HM.out _ HL.out.bel).mono ?_); rintro E w1 ⟨rfl, hb1⟩; have HL1 := Lib.hid (HL.out.next (Nat.le_refl _) hb1.out)))
  go_ret
  exact ⟨rfl, Lib.hid HL1.out.bel⟩
set_option maxHeartbeats 8000000 in
theorem putr_yes (m : MMsg) (w : World) (hm : m.Wf) (HTL : Hid ((msgB m).length ≤ 2000)) (HM : Hid (∀ W, Below w.heap.size w W → Calls Tryz.prog 14 #[.agg (msgC m).toArray] W fun E w' => E = .returned (.bool true) ∧ Hid (Below W.heap.size W w')))
    (HB : Hid (∀ W, Below w.heap.size w W → Calls Tryz.prog 16 #[.agg (msgC m).toArray] W fun E w' => ∃ A' n' c', E = .returned (.slice A' n' c') ∧ Ow W.heap.size w' A' n' c' (msgB m) ∧ Hid (Below W.heap.size W w'))) :
    Calls Tryz.prog 18 #[.agg (msgC m).toArray] w fun E w' => ∃ A' n' c', E = .returned (.slice A' n' c') ∧ Ow w.heap.size w' A' n' c' (be 8 m.number ++ (msgB m ++ m.tag)) ∧ Hid (Below w.heap.size w w') := by
  have HI : Hid ((Tryz.prog.info? 34).map (·.size) = some (msgC m).length) := Lib.hid (by rw [msgC_length hm]; exact Tryz.is34)
  have HL : Hid (RqAt w.heap.size w (msgC m) (w.alloc (.cells (msgC m).toArray 34))) := Lib.hid ⟨(Below.refl _ _).alloc (Nat.le_refl _) _, by simp, range_box w (msgC m) 34⟩
  have HMW := Lib.hid hm
  clear hm
  go_enter Tryz.func18, Tryz.ntmps18
  go_wp2_with (first | ((with_reducible refine wpList_load_midG ?_ 34 (.tmp 1) ?_ w.heap.size 0 ?_ (msgC m) _ ?_ Tryz.underlying34 ?_ ?_ ?_); (· rfl); (· rfl); (· rfl); (· exact HL.out.src); (· rfl); (· exact HI.out)) | (go_at_call 14; (with_reducible refine (HM.out _ HL.out.bel).mono ?_); rintro E w1 ⟨rfl, hb1⟩; have HL1 := Lib.hid (HL.out.next (Nat.le_refl _) hb1.out)))
  refine wp_region_any (by kernel_rfl) ?_
  have H3 := Lib.hid (HL1.out.drewN 1)
  change wpAny _ _ _ _ _ _ _ (w1.drewN 1)
  generalize w1.drewN 1 = w3 at H3 ⊢
  refine wpAny_of_held (S := fun W => W.rangeAt w.heap.size 0 (msgC m)) _ _ _ _ ?_
  refine tk 0 ⟨some 6, .fieldAddr 34 (.tmp 1) 1, _, _, _, none⟩ (.pointer (some ⟨w.heap.size, 1, none⟩)) rfl (by kernel_rfl) (fun _ _ _ h => h) (H3.out.src) (fun W hSW => by go_simp) ?_
  try simp only [Act.put, l0, l1, l2]
  refine tk 1 ⟨some 7, .load 22 (.tmp 6), _, _, _, none⟩ (.int .u64 (m.number : Int)) rfl (by kernel_rfl) (fun _ _ _ h => h) (H3.out.src) (fun W hSW => by have hv := (msg_lies hSW HMW.out).number; go_simp) ?_
  try simp only [Act.put, l0, l1, l2]
  refine tk 3 ⟨some 9, .load 34 (.tmp 1), _, _, _, none⟩ (.agg (msgC m).toArray) rfl (by kernel_rfl) (fun _ _ _ h => h) (H3.out.src) (fun W hSW => exec_load_mid 34 (.tmp 1) rfl w.heap.size 0 rfl (msgC m) _ (hSW) Tryz.underlying34 rfl (HI.out)) ?_
  try simp only [Act.put, l0, l1, l2]
  refine tk 6 ⟨some 12, .fieldAddr 34 (.tmp 1) 4, _, _, _, none⟩ (.pointer (some ⟨w.heap.size, 89, none⟩)) rfl (by kernel_rfl) (fun _ _ _ h => h) (H3.out.src) (fun W hSW => by go_simp) ?_
  try simp only [Act.put, l0, l1, l2]
  refine tk 7 ⟨some 13, .slice 27 (.tmp 12) none none none, _, _, _, none⟩ (.slice (some ⟨w.heap.size, 89, none⟩) 32 32) rfl (by kernel_rfl) (fun _ _ _ h => h) (H3.out.src) (fun W hSW => by go_simp) ?_
  try simp only [Act.put, l0, l1, l2]
  refine rdy [2] (by kernel_rfl) ?_
  refine AllReadyH.cons (o := ⟨some 8, .call { callee := .value (.func 38), args := #[.const (.slice none 0 0), .tmp 7], argTypes := #[38, 22] }, _, _, _, none⟩) rfl (fun K' hK' => ?_) AllReadyH.nil
  go_simp
  go_at_call 38
  refine (rword_ow m.number (Ow.nil (w.heap.size + 1) w3) (by omega)).mono ?_
  rintro E w4 ⟨A4, n4, c4, rfl, K4, b4⟩
  have O4 := Lib.hid (K4.low (B' := w.heap.size + 1) (by have := H3.out.lt; omega))
  have l4 := K4.len
  clear K4
  simp only [List.length_append, be_length, List.length_nil] at l4
  have H4 := Lib.hid (H3.out.next (Nat.le_refl _) b4.out)
  refine hK'.out _ _ (H4.out.src) (fun _ => ?_)
  clear hK' K'
  try simp only [Act.put, l0, l1, l2]
  refine rdy [4] (by kernel_rfl) ?_
  refine AllReadyH.cons (o := ⟨some 10, .call { callee := .value (.func 16), args := #[.tmp 9], argTypes := #[34] }, _, _, _, none⟩) rfl (fun K' hK' => ?_) AllReadyH.nil
  go_simp
  go_at_call 16
  refine (HB.out _ H4.out.bel).mono ?_
  rintro E w5 ⟨A5, n5, c5, rfl, K5, b5⟩
  have O5 := Lib.hid K5
  have l5 := K5.len
  clear K5
  have H5 := Lib.hid (H4.out.next (Nat.le_refl _) b5.out)
  refine hK'.out _ _ (H5.out.src) (fun _ => ?_)
  clear hK' K'
  try simp only [Act.put, l0, l1, l2]
  refine rdy [5] (by kernel_rfl) ?_
  refine AllReadyH.cons (o := ⟨some 11, .call { callee := .builtin .append, args := #[.tmp 8, .tmp 10], argTypes := #[38, 38] }, _, _, _, none⟩) rfl (fun K' hK' => ?_) AllReadyH.nil
  have OA := Lib.hid (O4.out.below b5.out)
  refine step_append_gb rfl (.tmp 8) (.tmp 10) rfl (w.heap.size + 1) n4 n5 c5 (.slice A4 n4 c4) A5 ([] ++ be 8 m.number) (msgB m) rfl rfl OA.out.1 O5.out.rd O5.out.2 (by have := H5.out.lt; omega) (by have := HTL.out; omega) ?_
  intro A6 c6 w6 H6 G6
  have D6 := Lib.hid (H5.out.fresh (Nat.le_refl _) OA.out.1 G6.out)
  refine hK'.out _ _ D6.out.src (fun _ => ?_)
  clear hK' K'
  try simp only [Act.put, l0, l1, l2]
  refine rdy [8] (by kernel_rfl) ?_
  refine AllReadyH.cons (o := ⟨some 14, .call { callee := .builtin .append, args := #[.tmp 11, .tmp 13], argTypes := #[38, 38] }, _, _, _, none⟩) rfl (fun K' hK' => ?_) AllReadyH.nil
  refine step_append_gb rfl (.tmp 11) (.tmp 13) rfl (w.heap.size + 1) (n4 + n5) 32 32 (.slice A6 (n4 + n5) c6) (some ⟨w.heap.size, 89, none⟩) ([] ++ be 8 m.number ++ msgB m) m.tag rfl rfl H6.out.1 (rd_of_range (msg_lies D6.out.src HMW.out).tag HMW.out.2.2 D6.out.lt) sl_32 (by have := D6.out.lt; omega) (by have := HTL.out; omega) ?_
  intro A8 c8 w8 H8 G8
  have D8 := Lib.hid (D6.out.fresh (Nat.le_refl _) H6.out.1 G8.out)
  refine hK'.out _ _ D8.out.src (fun _ => ?_)
  clear hK' K'
  try simp only [Act.put, l0, l1, l2]
  refine tk 9 ⟨some 2, .assign (.tmp 14), _, _, _, none⟩ (.slice A8 (n4 + n5 + 32) c8) rfl (by kernel_rfl) (fun _ _ _ h => h) (D8.out.src) (fun W hSW => by go_simp) ?_
  try simp only [Act.put, l0, l1, l2]
  refine wpAnyH_done (by kernel_rfl) ?_ _
  go_wp2_with fail
  go_ret
  exact ⟨_, _, _, rfl, ⟨by have := own_low H8.out.1 (B' := w.heap.size) (by omega); simpa [List.append_assoc] using this, H8.out.2⟩, Lib.hid D8.out.bel⟩
set_option maxHeartbeats 8000000 in
theorem rightr_no (m : MMsg) (w : World) (hm : m.Wf) (HM : Hid (∀ W, Below w.heap.size w W → Calls Tryz.prog 14 #[.agg (msgC m).toArray] W fun E w' => E = .returned (.bool false) ∧ Hid (Below W.heap.size W w'))) :
    Calls Tryz.prog 20 #[.agg (msgC m).toArray] w fun E w' => E = .returned (.bool false) ∧ Hid (Below w.heap.size w w') := by
  have HI : Hid ((Tryz.prog.info? 34).map (·.size) = some (msgC m).length) := Lib.hid (by rw [msgC_length hm]; exact Tryz.is34)
  have HL : Hid (RqAt w.heap.size w (msgC m) (w.alloc (.cells (msgC m).toArray 34))) := Lib.hid ⟨(Below.refl _ _).alloc (Nat.le_refl _) _, by simp, range_box w (msgC m) 34⟩
  clear hm
  go_enter Tryz.func20, Tryz.ntmps20
  go_wp2_with fail
  refine wp_region_any (by kernel_rfl) ?_
  have H3 := Lib.hid (HL.out.drewN 1)
  change wpAny _ _ _ _ _ _ _ ((w.alloc (.cells (msgC m).toArray 34)).drewN 1)
  generalize (w.alloc (.cells (msgC m).toArray 34)).drewN 1 = w3 at H3 ⊢
  refine wpAny_of_held (S := fun W => W.rangeAt w.heap.size 0 (msgC m)) _ _ _ _ ?_
  refine tk 0 ⟨some 3, .load 34 (.tmp 1), _, _, _, none⟩ (.agg (msgC m).toArray) rfl (by kernel_rfl) (fun _ _ _ h => h) (H3.out.src) (fun W hSW => exec_load_mid 34 (.tmp 1) rfl w.heap.size 0 rfl (msgC m) _ (hSW) Tryz.underlying34 rfl (HI.out)) ?_
  try simp only [Act.put, l0, l1, l2]
  refine rdy [1] (by kernel_rfl) ?_
  refine AllReadyH.cons (o := ⟨some 4, .call { callee := .value (.func 14), args := #[.tmp 3], argTypes := #[34] }, _, _, _, none⟩) rfl (fun K' hK' => ?_) AllReadyH.nil
  go_simp
  go_at_call 14
  refine (HM.out _ H3.out.bel).mono ?_
  rintro E w4 ⟨rfl, b4⟩
  have H4 := Lib.hid (H3.out.next (Nat.le_refl _) b4.out)
  refine hK'.out _ _ (H4.out.src) (fun _ => ?_)
  clear hK' K'
  try simp only [Act.put, l0, l1, l2]
  refine tk 2 ⟨some 5, .move (.tmp 4), _, _, _, none⟩ (.bool false) rfl (by kernel_rfl) (fun _ _ _ h => h) (H4.out.src) (fun W hSW => by go_simp) ?_
  try simp only [Act.put, l0, l1, l2]
  refine sk 3 ⟨some 6, .fieldAddr 34 (.tmp 1) 0, _, _, _, some (2, true)⟩ rfl (by kernel_rfl) (fun _ _ _ h => h) (H4.out.src) ?_
  try simp only [Act.put, l0, l1, l2]
  refine sk 4 ⟨some 7, .load 3 (.tmp 6), _, _, _, some (2, true)⟩ rfl (by kernel_rfl) (fun _ _ _ h => h) (H4.out.src) ?_
  try simp only [Act.put, l0, l1, l2]
  refine sk 5 ⟨some 8, .fieldAddr 34 (.tmp 1) 1, _, _, _, some (2, true)⟩ rfl (by kernel_rfl) (fun _ _ _ h => h) (H4.out.src) ?_
  try simp only [Act.put, l0, l1, l2]
  refine sk 6 ⟨some 9, .load 22 (.tmp 8), _, _, _, some (2, true)⟩ rfl (by kernel_rfl) (fun _ _ _ h => h) (H4.out.src) ?_
  try simp only [Act.put, l0, l1, l2]
  refine sk 7 ⟨some 10, .load 34 (.tmp 1), _, _, _, some (2, true)⟩ rfl (by kernel_rfl) (fun _ _ _ h => h) (H4.out.src) ?_
  try simp only [Act.put, l0, l1, l2]
  refine sk 8 ⟨some 11, .call { callee := .value (.func 16), args := #[.tmp 10], argTypes := #[34] }, _, _, _, some (2, true)⟩ rfl (by kernel_rfl) (fun _ _ _ h => h) (H4.out.src) ?_
  try simp only [Act.put, l0, l1, l2]
  refine sk 9 ⟨some 12, .fieldAddr 34 (.tmp 1) 4, _, _, _, some (2, true)⟩ rfl (by kernel_rfl) (fun _ _ _ h => h) (H4.out.src) ?_
  try simp only [Act.put, l0, l1, l2]
  refine sk 10 ⟨some 13, .load 27 (.tmp 12), _, _, _, some (2, true)⟩ rfl (by kernel_rfl) (fun _ _ _ h => h) (H4.out.src) ?_
  try simp only [Act.put, l0, l1, l2]
  refine sk 11 ⟨some 14, .call { callee := .value (.func 42), args := #[.tmp 7, .tmp 9, .tmp 11, .tmp 13], argTypes := #[3, 22, 38, 27] }, _, _, _, some (2, true)⟩ rfl (by kernel_rfl) (fun _ _ _ h => h) (H4.out.src) ?_
  try simp only [Act.put, l0, l1, l2]
  refine tk 12 ⟨some 15, .pick (.tmp 5) (.tmp 14) (.const (.bool false)), _, _, _, none⟩ (.bool false) rfl (by kernel_rfl) (fun _ _ _ h => h) (H4.out.src) (fun W hSW => by go_simp) ?_
  try simp only [Act.put, l0, l1, l2]
  refine tk 13 ⟨some 2, .assign (.tmp 15), _, _, _, none⟩ (.bool false) rfl (by kernel_rfl) (fun _ _ _ h => h) (H4.out.src) (fun W hSW => by go_simp) ?_
  try simp only [Act.put, l0, l1, l2]
  refine wpAnyH_done (by kernel_rfl) ?_ _
  go_wp2_with fail
  go_ret
  exact ⟨rfl, Lib.hid H4.out.bel⟩
set_option maxHeartbeats 8000000 in
theorem rightr_yes (m : MMsg) (q : Bool) (w : World) (hm : m.Wf) (HM : Hid (∀ W, Below w.heap.size w W → Calls Tryz.prog 14 #[.agg (msgC m).toArray] W fun E w' => E = .returned (.bool true) ∧ Hid (Below W.heap.size W w')))
    (HB : Hid (∀ W, Below w.heap.size w W → Calls Tryz.prog 16 #[.agg (msgC m).toArray] W fun E w' => ∃ A' n' c', E = .returned (.slice A' n' c') ∧ Ow W.heap.size w' A' n' c' (msgB m) ∧ Hid (Below W.heap.size W w')))
    (HC : Hid (∀ (W : World) (A : Option Addr) (n c : Nat), Below w.heap.size w W → Ow 0 W A n c (msgB m) → Calls Tryz.prog 42 #[.int .i64 m.origin, .int .u64 (m.number : Int), .slice A n c, .agg (u8s m.tag).toArray] W fun E w' => E = .returned (.bool q) ∧ Hid (Below W.heap.size W w'))) :
    Calls Tryz.prog 20 #[.agg (msgC m).toArray] w fun E w' => E = .returned (.bool q) ∧ Hid (Below w.heap.size w w') := by
  have HJ : Hid ((Tryz.prog.info? 27).map (·.size) = some (u8s m.tag).length) := Lib.hid (by rw [u8s_length, hm.2.2]; exact Tryz.size27)
  have HI : Hid ((Tryz.prog.info? 34).map (·.size) = some (msgC m).length) := Lib.hid (by rw [msgC_length hm]; exact Tryz.is34)
  have HL : Hid (RqAt w.heap.size w (msgC m) (w.alloc (.cells (msgC m).toArray 34))) := Lib.hid ⟨(Below.refl _ _).alloc (Nat.le_refl _) _, by simp, range_box w (msgC m) 34⟩
  have HMW := Lib.hid hm
  clear hm
  go_enter Tryz.func20, Tryz.ntmps20
  go_wp2_with fail
  refine wp_region_any (by kernel_rfl) ?_
  have H3 := Lib.hid (HL.out.drewN 1)
  change wpAny _ _ _ _ _ _ _ ((w.alloc (.cells (msgC m).toArray 34)).drewN 1)
  generalize (w.alloc (.cells (msgC m).toArray 34)).drewN 1 = w3 at H3 ⊢
  refine wpAny_of_held (S := fun W => W.rangeAt w.heap.size 0 (msgC m)) _ _ _ _ ?_
  refine tk 0 ⟨some 3, .load 34 (.tmp 1), _, _, _, none⟩ (.agg (msgC m).toArray) rfl (by kernel_rfl) (fun _ _ _ h => h) (H3.out.src) (fun W hSW => exec_load_mid 34 (.tmp 1) rfl w.heap.size 0 rfl (msgC m) _ (hSW) Tryz.underlying34 rfl (HI.out)) ?_
  try simp only [Act.put, l0, l1, l2]
  refine rdy [1] (by kernel_rfl) ?_
  refine AllReadyH.cons (o := ⟨some 4, .call { callee := .value (.func 14), args := #[.tmp 3], argTypes := #[34] }, _, _, _, none⟩) rfl (fun K' hK' => ?_) AllReadyH.nil
  go_simp
  go_at_call 14
  refine (HM.out _ H3.out.bel).mono ?_
  rintro E w4 ⟨rfl, b4⟩
  have H4 := Lib.hid (H3.out.next (Nat.le_refl _) b4.out)
  refine hK'.out _ _ (H4.out.src) (fun _ => ?_)
  clear hK' K'
  try simp only [Act.put, l0, l1, l2]
  refine tk 2 ⟨some 5, .move (.tmp 4), _, _, _, none⟩ (.bool true) rfl (by kernel_rfl) (fun _ _ _ h => h) (H4.out.src) (fun W hSW => by go_simp) ?_
  try simp only [Act.put, l0, l1, l2]
  refine tk 3 ⟨some 6, .fieldAddr 34 (.tmp 1) 0, _, _, _, some (2, true)⟩ (.pointer (some ⟨w.heap.size, 0, none⟩)) rfl (by kernel_rfl) (fun _ _ _ h => h) (H4.out.src) (fun W hSW => by go_simp) ?_
  try simp only [Act.put, l0, l1, l2]
  refine tk 4 ⟨some 7, .load 3 (.tmp 6), _, _, _, some (2, true)⟩ (.int .i64 m.origin) rfl (by kernel_rfl) (fun _ _ _ h => h) (H4.out.src) (fun W hSW => by have hv := (msg_lies hSW HMW.out).origin; go_simp) ?_
  try simp only [Act.put, l0, l1, l2]
  refine tk 5 ⟨some 8, .fieldAddr 34 (.tmp 1) 1, _, _, _, some (2, true)⟩ (.pointer (some ⟨w.heap.size, 1, none⟩)) rfl (by kernel_rfl) (fun _ _ _ h => h) (H4.out.src) (fun W hSW => by go_simp) ?_
  try simp only [Act.put, l0, l1, l2]
  refine tk 6 ⟨some 9, .load 22 (.tmp 8), _, _, _, some (2, true)⟩ (.int .u64 (m.number : Int)) rfl (by kernel_rfl) (fun _ _ _ h => h) (H4.out.src) (fun W hSW => by have hv := (msg_lies hSW HMW.out).number; go_simp) ?_
  try simp only [Act.put, l0, l1, l2]
  refine tk 7 ⟨some 10, .load 34 (.tmp 1), _, _, _, some (2, true)⟩ (.agg (msgC m).toArray) rfl (by kernel_rfl) (fun _ _ _ h => h) (H4.out.src) (fun W hSW => exec_load_mid 34 (.tmp 1) rfl w.heap.size 0 rfl (msgC m) _ (hSW) Tryz.underlying34 rfl (HI.out)) ?_
  try simp only [Act.put, l0, l1, l2]
  refine tk 9 ⟨some 12, .fieldAddr 34 (.tmp 1) 4, _, _, _, some (2, true)⟩ (.pointer (some ⟨w.heap.size, 89, none⟩)) rfl (by kernel_rfl) (fun _ _ _ h => h) (H4.out.src) (fun W hSW => by go_simp) ?_
  try simp only [Act.put, l0, l1, l2]
  refine tk 10 ⟨some 13, .load 27 (.tmp 12), _, _, _, some (2, true)⟩ (.agg (u8s m.tag).toArray) rfl (by kernel_rfl) (fun _ _ _ h => h) (H4.out.src) (fun W hSW => exec_load_mid 27 (.tmp 12) rfl w.heap.size 89 rfl (u8s m.tag) _ ((msg_lies hSW HMW.out).tag) Tryz.underlying27 rfl (HJ.out)) ?_
  try simp only [Act.put, l0, l1, l2]
  refine rdy [8] (by kernel_rfl) ?_
  refine AllReadyH.cons (o := ⟨some 11, .call { callee := .value (.func 16), args := #[.tmp 10], argTypes := #[34] }, _, _, _, some (2, true)⟩) rfl (fun K' hK' => ?_) AllReadyH.nil
  go_simp
  go_at_call 16
  refine (HB.out _ H4.out.bel).mono ?_
  rintro E w5 ⟨A5, n5, c5, rfl, K5, b5⟩
  have O5 := Lib.hid K5
  clear K5
  have H5 := Lib.hid (H4.out.next (Nat.le_refl _) b5.out)
  refine hK'.out _ _ (H5.out.src) (fun _ => ?_)
  clear hK' K'
  try simp only [Act.put, l0, l1, l2]
  refine rdy [11] (by kernel_rfl) ?_
  refine AllReadyH.cons (o := ⟨some 14, .call { callee := .value (.func 42), args := #[.tmp 7, .tmp 9, .tmp 11, .tmp 13], argTypes := #[3, 22, 38, 27] }, _, _, _, some (2, true)⟩) rfl (fun K' hK' => ?_) AllReadyH.nil
  go_simp
  go_at_call 42
  refine (HC.out w5 A5 n5 c5 H5.out.bel (O5.out.low (Nat.zero_le _))).mono ?_
  rintro E w6 ⟨rfl, b6⟩
  have H6 := Lib.hid (H5.out.next (Nat.le_refl _) b6.out)
  refine hK'.out _ _ (H6.out.src) (fun _ => ?_)
  clear hK' K'
  try simp only [Act.put, l0, l1, l2]
  refine tk 12 ⟨some 15, .pick (.tmp 5) (.tmp 14) (.const (.bool false)), _, _, _, none⟩ (.bool q) rfl (by kernel_rfl) (fun _ _ _ h => h) (H6.out.src) (fun W hSW => by go_simp) ?_
  try simp only [Act.put, l0, l1, l2]
  refine tk 13 ⟨some 2, .assign (.tmp 15), _, _, _, none⟩ (.bool q) rfl (by kernel_rfl) (fun _ _ _ h => h) (H6.out.src) (fun W hSW => by go_simp) ?_
  try simp only [Act.put, l0, l1, l2]
  refine wpAnyH_done (by kernel_rfl) ?_ _
  go_wp2_with fail
  go_ret
  exact ⟨rfl, Lib.hid H6.out.bel⟩
set_option maxHeartbeats 8000000 in
theorem checkr_yes (i : Int) (n l c : Nat) (A : Option Addr) (t tg : List UInt8) (q : Bool) (w : World) (h1 : (1 : Int) ≤ i) (h2 : i ≤ 11) (h3 : (1 : Int) ≤ (n : Int)) (h4 : (n : Int) ≤ 65536) (h5 : (l : Int) ≤ 1024) (ht : t.length = 32) (htg : tg.length = 32) (hq : q = true ↔ t = tg)
    (HN : Hid (∀ W, Below w.heap.size w W → Calls Tryz.prog 32 #[.int .i64 i, .int .u64 (n : Int), .slice A l c] W fun E w' => E = .returned (.agg (u8s tg).toArray) ∧ Hid (Below W.heap.size W w'))) :
    Calls Tryz.prog 42 #[.int .i64 i, .int .u64 (n : Int), .slice A l c, .agg (u8s t).toArray] w fun E w' => E = .returned (.bool q) ∧ Hid (Below w.heap.size w w') := by
  have HJ : Hid ((Tryz.prog.info? 27).map (·.size) = some (u8s t).length) := Lib.hid (by rw [u8s_length, ht]; exact Tryz.size27)
  have HL : Hid (RqAt w.heap.size w (u8s t) (w.alloc (.cells (u8s t).toArray 27))) := Lib.hid ⟨(Below.refl _ _).alloc (Nat.le_refl _) _, by simp, range_box w (u8s t) 27⟩
  have HTT := Lib.hid (And.intro ht htg)
  clear ht htg
  go_enter Tryz.func42, Tryz.ntmps42
  go_wp2_with fail
  refine wp_region_any (by kernel_rfl) ?_
  have H3 := Lib.hid (HL.out.drewN 1)
  change wpAny _ _ _ _ _ _ _ ((w.alloc (.cells (u8s t).toArray 27)).drewN 1)
  generalize (w.alloc (.cells (u8s t).toArray 27)).drewN 1 = w3 at H3 ⊢
  refine wpAny_of_held (S := fun W => W.rangeAt w.heap.size 0 (u8s t)) _ _ _ _ ?_
  refine tk 0 ⟨some 9, .move (.tmp 0), _, _, _, none⟩ (.int .i64 i) rfl (by kernel_rfl) (fun _ _ _ h => h) (H3.out.src) (fun W hSW => by go_simp) ?_
  try simp only [Act.put, l0, l1, l2]
  refine tk 1 ⟨some 10, .binOp .geq 3 (.tmp 9) (.const (.int .i64 1)) 3, _, _, _, none⟩ (.bool true) rfl (by kernel_rfl) (fun _ _ _ h => h) (H3.out.src) (fun W hSW => by have hv := h1; go_simp) ?_
  try simp only [Act.put, l0, l1, l2]
  refine tk 2 ⟨some 11, .move (.tmp 10), _, _, _, none⟩ (.bool true) rfl (by kernel_rfl) (fun _ _ _ h => h) (H3.out.src) (fun W hSW => by go_simp) ?_
  try simp only [Act.put, l0, l1, l2]
  refine tk 3 ⟨some 12, .move (.tmp 0), _, _, _, some (2, true)⟩ (.int .i64 i) rfl (by kernel_rfl) (fun _ _ _ h => h) (H3.out.src) (fun W hSW => by go_simp) ?_
  try simp only [Act.put, l0, l1, l2]
  refine tk 4 ⟨some 13, .binOp .leq 3 (.tmp 12) (.const (.int .i64 11)) 3, _, _, _, some (2, true)⟩ (.bool true) rfl (by kernel_rfl) (fun _ _ _ h => h) (H3.out.src) (fun W hSW => by have hv := h2; go_simp) ?_
  try simp only [Act.put, l0, l1, l2]
  refine tk 5 ⟨some 14, .pick (.tmp 11) (.tmp 13) (.const (.bool false)), _, _, _, none⟩ (.bool true) rfl (by kernel_rfl) (fun _ _ _ h => h) (H3.out.src) (fun W hSW => by go_simp) ?_
  try simp only [Act.put, l0, l1, l2]
  refine tk 6 ⟨some 15, .move (.tmp 14), _, _, _, none⟩ (.bool true) rfl (by kernel_rfl) (fun _ _ _ h => h) (H3.out.src) (fun W hSW => by go_simp) ?_
  try simp only [Act.put, l0, l1, l2]
  refine tk 7 ⟨some 16, .move (.tmp 1), _, _, _, some (6, true)⟩ (.int .u64 (n : Int)) rfl (by kernel_rfl) (fun _ _ _ h => h) (H3.out.src) (fun W hSW => by go_simp) ?_
  try simp only [Act.put, l0, l1, l2]
  refine tk 8 ⟨some 17, .binOp .geq 22 (.tmp 16) (.const (.int .u64 1)) 22, _, _, _, some (6, true)⟩ (.bool true) rfl (by kernel_rfl) (fun _ _ _ h => h) (H3.out.src) (fun W hSW => by have hv := h3; go_simp) ?_
  try simp only [Act.put, l0, l1, l2]
  refine tk 9 ⟨some 18, .pick (.tmp 15) (.tmp 17) (.const (.bool false)), _, _, _, none⟩ (.bool true) rfl (by kernel_rfl) (fun _ _ _ h => h) (H3.out.src) (fun W hSW => by go_simp) ?_
  try simp only [Act.put, l0, l1, l2]
  refine tk 10 ⟨some 19, .move (.tmp 18), _, _, _, none⟩ (.bool true) rfl (by kernel_rfl) (fun _ _ _ h => h) (H3.out.src) (fun W hSW => by go_simp) ?_
  try simp only [Act.put, l0, l1, l2]
  refine tk 11 ⟨some 20, .move (.tmp 1), _, _, _, some (10, true)⟩ (.int .u64 (n : Int)) rfl (by kernel_rfl) (fun _ _ _ h => h) (H3.out.src) (fun W hSW => by go_simp) ?_
  try simp only [Act.put, l0, l1, l2]
  refine tk 12 ⟨some 21, .binOp .leq 22 (.tmp 20) (.const (.int .u64 65536)) 22, _, _, _, some (10, true)⟩ (.bool true) rfl (by kernel_rfl) (fun _ _ _ h => h) (H3.out.src) (fun W hSW => by have hv := h4; go_simp) ?_
  try simp only [Act.put, l0, l1, l2]
  refine tk 13 ⟨some 22, .pick (.tmp 19) (.tmp 21) (.const (.bool false)), _, _, _, none⟩ (.bool true) rfl (by kernel_rfl) (fun _ _ _ h => h) (H3.out.src) (fun W hSW => by go_simp) ?_
  try simp only [Act.put, l0, l1, l2]
  refine tk 14 ⟨some 23, .move (.tmp 22), _, _, _, none⟩ (.bool true) rfl (by kernel_rfl) (fun _ _ _ h => h) (H3.out.src) (fun W hSW => by go_simp) ?_
  try simp only [Act.put, l0, l1, l2]
  refine tk 15 ⟨some 24, .move (.tmp 2), _, _, _, some (14, true)⟩ (.slice A l c) rfl (by kernel_rfl) (fun _ _ _ h => h) (H3.out.src) (fun W hSW => by go_simp) ?_
  try simp only [Act.put, l0, l1, l2]
  refine tk 16 ⟨some 25, .call { callee := .builtin .len, args := #[.tmp 24], argTypes := #[38] }, _, _, _, some (14, true)⟩ (.int .i64 (l : Int)) rfl (by kernel_rfl) (fun _ _ _ h => h) (H3.out.src) (fun W hSW => by go_simp) ?_
  try simp only [Act.put, l0, l1, l2]
  refine tk 17 ⟨some 26, .binOp .leq 3 (.tmp 25) (.const (.int .i64 1024)) 3, _, _, _, some (14, true)⟩ (.bool true) rfl (by kernel_rfl) (fun _ _ _ h => h) (H3.out.src) (fun W hSW => by have hv := h5; go_simp) ?_
  try simp only [Act.put, l0, l1, l2]
  refine tk 18 ⟨some 27, .pick (.tmp 23) (.tmp 26) (.const (.bool false)), _, _, _, none⟩ (.bool true) rfl (by kernel_rfl) (fun _ _ _ h => h) (H3.out.src) (fun W hSW => by go_simp) ?_
  try simp only [Act.put, l0, l1, l2]
  refine tk 19 ⟨some 28, .move (.tmp 27), _, _, _, none⟩ (.bool true) rfl (by kernel_rfl) (fun _ _ _ h => h) (H3.out.src) (fun W hSW => by go_simp) ?_
  try simp only [Act.put, l0, l1, l2]
  refine tk 20 ⟨some 29, .load 27 (.tmp 7), _, _, _, some (19, true)⟩ (.agg (u8s t).toArray) rfl (by kernel_rfl) (fun _ _ _ h => h) (H3.out.src) (fun W hSW => exec_load_mid 27 (.tmp 7) rfl w.heap.size 0 rfl (u8s t) _ (hSW) Tryz.underlying27 rfl (HJ.out)) ?_
  try simp only [Act.put, l0, l1, l2]
  refine tk 21 ⟨some 30, .move (.tmp 0), _, _, _, some (19, true)⟩ (.int .i64 i) rfl (by kernel_rfl) (fun _ _ _ h => h) (H3.out.src) (fun W hSW => by go_simp) ?_
  try simp only [Act.put, l0, l1, l2]
  refine tk 22 ⟨some 31, .move (.tmp 1), _, _, _, some (19, true)⟩ (.int .u64 (n : Int)) rfl (by kernel_rfl) (fun _ _ _ h => h) (H3.out.src) (fun W hSW => by go_simp) ?_
  try simp only [Act.put, l0, l1, l2]
  refine tk 23 ⟨some 32, .move (.tmp 2), _, _, _, some (19, true)⟩ (.slice A l c) rfl (by kernel_rfl) (fun _ _ _ h => h) (H3.out.src) (fun W hSW => by go_simp) ?_
  try simp only [Act.put, l0, l1, l2]
  refine rdy [24] (by kernel_rfl) ?_
  refine AllReadyH.cons (o := ⟨some 33, .call { callee := .value (.func 32), args := #[.tmp 30, .tmp 31, .tmp 32], argTypes := #[3, 22, 38] }, _, _, _, some (19, true)⟩) rfl (fun K' hK' => ?_) AllReadyH.nil
  go_simp
  go_at_call 32
  refine (HN.out _ H3.out.bel).mono ?_
  rintro E w4 ⟨rfl, b4⟩
  have H4 := Lib.hid (H3.out.next (Nat.le_refl _) b4.out)
  refine hK'.out _ _ (H4.out.src) (fun _ => ?_)
  clear hK' K'
  try simp only [Act.put, l0, l1, l2]
  refine tk 25 ⟨some 34, .binOp .eql 27 (.tmp 29) (.tmp 33) 27, _, _, _, some (19, true)⟩ (.bool q) rfl (by kernel_rfl) (fun _ _ _ h => h) (H4.out.src) (fun W hSW => by have hf := eq_tag_of (d := 9998) t tg HTT.out.1 HTT.out.2 hq W; go_simp) ?_
  try simp only [Act.put, l0, l1, l2]
  refine tk 26 ⟨some 35, .pick (.tmp 28) (.tmp 34) (.const (.bool false)), _, _, _, none⟩ (.bool q) rfl (by kernel_rfl) (fun _ _ _ h => h) (H4.out.src) (fun W hSW => by go_simp) ?_
  try simp only [Act.put, l0, l1, l2]
  refine tk 27 ⟨some 8, .assign (.tmp 35), _, _, _, none⟩ (.bool q) rfl (by kernel_rfl) (fun _ _ _ h => h) (H4.out.src) (fun W hSW => by go_simp) ?_
  try simp only [Act.put, l0, l1, l2]
  refine wpAnyH_done (by kernel_rfl) ?_ _
  go_wp2_with fail
  go_ret
  exact ⟨rfl, Lib.hid H4.out.bel⟩
set_option maxHeartbeats 4000000 in
theorem tagged_no (m : MMsg) (w : World) (hm : m.Wf) (HM : Hid (∀ W, Below w.heap.size w W → Calls Tryz.prog 14 #[.agg (msgC m).toArray] W fun E w' => E = .returned (.bool false) ∧ Hid (Below W.heap.size W w'))) :
    Calls Tryz.prog 12 #[.agg (msgC m).toArray] w fun E w' => E = .returned (.agg (msgC m).toArray) ∧ Hid (Below w.heap.size w w') := by
  have HI : Hid ((Tryz.prog.info? 34).map (·.size) = some (msgC m).length) := Lib.hid (by rw [msgC_length hm]; exact Tryz.is34)
  have HLE : Hid (0 + (msgC m).length ≤ (msgC zeroMsg).length ∧ setAll (msgC zeroMsg) 0 (msgC m) = msgC m) := Lib.hid ⟨by rw [msgC_length zeroM_wf, msgC_length hm]; omega, setAll_all (by rw [msgC_length zeroM_wf, msgC_length hm])⟩
  have hz : ∀ w, (zeroValue 34).run Tryz.prog w = .ok (.agg (msgC zeroMsg).toArray) w := zero_msg
  have H0 := Lib.hid (BxR.start w (msgC m) (msgC zeroMsg) 34 34)
  clear hm
  go_enter Tryz.func12, Tryz.ntmps12
  go_wp2_with (first | ((with_reducible refine wpList_load_midG ?_ 34 (.tmp 1) ?_ w.heap.size 0 ?_ (msgC m) _ ?_ Tryz.underlying34 ?_ ?_ ?_); (· rfl); (· rfl); (· rfl); (· exact range_of H0.out.box); (· rfl); (· exact HI.out)) | (go_at_call 14; (with_reducible refine (HM.out _ H0.out.bel).mono ?_); rintro E w1 ⟨rfl, hb1⟩; have H1 := Lib.hid (H0.out.next hb1.out)) | ((with_reducible refine wpList_load_midG ?_ 34 (.tmp 1) ?_ w.heap.size 0 ?_ (msgC m) _ ?_ Tryz.underlying34 ?_ ?_ ?_); (· rfl); (· rfl); (· rfl); (· exact range_of H1.out.box); (· rfl); (· exact HI.out)) | (refine wpList_store_part rfl 34 (.tmp 2) (.tmp 13) rfl (w.heap.size + 1) 0 (msgC zeroMsg) (msgC m) (msgC m) 34 H1.out.res HLE.out.1 HLE.out.2 rfl rfl HI.out (one_msgC _) ?_; intro w9 G9))
  exact bodyPost_ret (ret_range (cs := msgC m) rfl rfl (range_of G9.out.1) Tryz.underlying34 rfl HI.out) rfl ⟨rfl, Lib.hid (H1.out.bel.grown G9.out.2 H1.out.bel.size (fun k hk => by injection hk with hk; omega))⟩

theorem msgB_of {m : MMsg} {z : List UInt8} (h : bodyB m.body = z) : msgB m = byteOf m.origin :: (depsB m.deps ++ (m.body.kind :: z)) := by rw [msgB, h]
open Classical in
theorem bytesr_yes (m : MMsg) (w : World) (hm : m.Wf) (hq : Prs w m.body.qa m.body.qs) (hn : m.body.qs.length ≤ 140737488355328) (hmay : m.may) :
    Calls Tryz.prog 16 #[.agg (msgC m).toArray] w fun E w' => ∃ A' n' c', E = .returned (.slice A' n' c') ∧ Ow w.heap.size w' A' n' c' (msgB m) ∧ Hid (Below w.heap.size w w') := by
  have HM : Hid (∀ W, Below w.heap.size w W → Calls Tryz.prog 14 #[.agg (msgC m).toArray] W fun E w' => E = .returned (.bool true) ∧ Hid (Below W.heap.size W w')) :=
    Lib.hid fun W h => (may_rf m W hm (hq.below h) hn).mono fun _ _ hE => ⟨hE.1.trans (ret_bool (decide_eq_true hmay)), hE.2⟩
  have ho := hmay.1
  rcases kinds_of hmay.2.2.1 with ⟨e, hr⟩ | e | e | e | ⟨e, hp⟩ | e
  · rw [msgB_of (z := be 8 m.body.view ++ (reqB m.body.req ++ m.body.req.tag)) (by simp [bodyB, e])]
    exact bytesr_1 m w hm ho (Lib.hid e) hr HM
  · rw [msgB_of (z := be 8 m.body.view ++ be 8 m.body.k) (by simp [bodyB, e])]
    exact bytesr_2 m w hm ho (Lib.hid e) HM
  · rw [msgB_of (z := be 8 m.body.view) (by simp [bodyB, e])]
    exact bytesr_3 m w hm ho (Lib.hid e) HM
  · rw [msgB_of (z := be 8 m.body.view) (by simp [bodyB, e])]
    exact bytesr_5 m w hm ho (Lib.hid e) HM
  · rw [msgB_of (z := be 8 m.body.view ++ (byteOf (m.body.qs.length : Int) :: pairsB m.body.qs)) (by simp [bodyB, e])]
    exact bytesr_4 m w hm ho (Lib.hid e) (prs_all hp).2 (fun p hp' => ⟨((prs_all hp).1 p hp').1, ((prs_all hp).1 p hp').2.1⟩) hq HM
  · rw [msgB_of (z := be 8 m.body.k ++ m.body.dig) (by simp [bodyB, e])]
    exact bytesr_6 m w hm ho (Lib.hid e) HM
open Classical in
theorem bytes_rf (m : MMsg) (w : World) (hm : m.Wf) (hq : Prs w m.body.qa m.body.qs) (hn : m.body.qs.length ≤ 140737488355328) :
    Calls Tryz.prog 16 #[.agg (msgC m).toArray] w fun E w' => ∃ A' n' c', E = .returned (.slice A' n' c') ∧ Ow w.heap.size w' A' n' c' (bytesM m) ∧ Hid (Below w.heap.size w w') := by
  by_cases h : m.may
  · rw [bytesM, if_pos h]
    exact bytesr_yes m w hm hq hn h
  · rw [bytesM, if_neg h]
    exact (bytesr_no m w hm (Lib.hid fun W hb => (may_rf m W hm (hq.below hb) hn).mono fun _ _ hE => ⟨hE.1.trans (ret_bool (decide_eq_false h)), hE.2⟩)).mono fun _ _ hE => ⟨none, 0, 0, hE.1, Ow.nil _ _, hE.2⟩
open Classical in
theorem put_rf (m : MMsg) (w : World) (hm : m.Wf) (hq : Prs w m.body.qa m.body.qs) (hn : m.body.qs.length ≤ 140737488355328) :
    Calls Tryz.prog 18 #[.agg (msgC m).toArray] w fun E w' => ∃ A' n' c', E = .returned (.slice A' n' c') ∧ Ow w.heap.size w' A' n' c' (putM m) ∧ Hid (Below w.heap.size w w') := by
  by_cases h : m.may
  · rw [putM, if_pos h]
    exact putr_yes m w hm (Lib.hid (Nat.le_trans (msgB_len hm h) (by omega))) (Lib.hid fun W hb => (may_rf m W hm (hq.below hb) hn).mono fun _ _ hE => ⟨hE.1.trans (ret_bool (decide_eq_true h)), hE.2⟩) (Lib.hid fun W hb => bytesr_yes m W hm (hq.below hb) hn h)
  · rw [putM, if_neg h]
    exact (putr_no m w hm (Lib.hid fun W hb => (may_rf m W hm (hq.below hb) hn).mono fun _ _ hE => ⟨hE.1.trans (ret_bool (decide_eq_false h)), hE.2⟩)).mono fun _ _ hE => ⟨none, 0, 0, hE.1, Ow.nil _ _, hE.2⟩
open Classical in
theorem right_rf (m : MMsg) (w : World) (hm : m.Wf) (hq : Prs w m.body.qa m.body.qs) (hn : m.body.qs.length ≤ 140737488355328) (hk : KIs w) (h0 : 0 < w.heap.size) :
    Calls Tryz.prog 20 #[.agg (msgC m).toArray] w fun E w' => E = .returned (.bool (decide m.right)) ∧ Hid (Below w.heap.size w w') := by
  by_cases h : m.may
  · have hr : m.right ↔ m.tag = numTag m.origin m.number (msgB m) := and_iff_right h
    refine (rightr_yes m (decide m.right) w hm (Lib.hid fun W hb => (may_rf m W hm (hq.below hb) hn).mono fun _ _ hE => ⟨hE.1.trans (ret_bool (decide_eq_true h)), hE.2⟩) (Lib.hid fun W hb => bytesr_yes m W hm (hq.below hb) hn h) (Lib.hid fun W A n c hb ho => ?_))
    have hl := ho.len
    have hml := msgB_len hm h
    have h1 := h.1
    have h2 := h.2.1.1
    simp only [isRepl, isNum, decide_eq_true_eq] at h1 h2
    exact checkr_yes m.origin m.number n c A m.tag (numTag m.origin m.number (msgB m)) (decide m.right) W (by omega) (by omega) (by omega) (by omega) (by omega) hm.2.2 (numTag_length _ _ _) (by rw [decide_eq_true_iff]; exact hr)
      (Lib.hid fun W' hb' => (refNumbered_any m.origin m.number (msgB m) A n c W' (ho.rd.below hb' (fun _ h _ => h)) ho.2 (by omega) (hk.below (hb.trans (hb'.mono hb.size)) h0) (Nat.lt_of_lt_of_le (Nat.lt_of_lt_of_le h0 hb.size) hb'.size)).mono fun _ _ hE => ⟨hE.1, hE.2⟩)
  · exact (rightr_no m w hm (Lib.hid fun W hb => (may_rf m W hm (hq.below hb) hn).mono fun _ _ hE => ⟨hE.1.trans (ret_bool (decide_eq_false h)), hE.2⟩)).mono fun _ _ hE => ⟨hE.1.trans (ret_bool (decide_eq_false fun hr => h hr.1).symm), hE.2⟩
open Classical in
/-- A message with its own tag, if it may be. -/
noncomputable def tagM (m : MMsg) : MMsg := if m.may then { m with tag := numTag m.origin m.number (msgB m) } else m
open Classical in
theorem tagged_any (m : MMsg) (w : World) (hm : m.Wf) (hq : Prs w m.body.qa m.body.qs) (hn : m.body.qs.length ≤ 140737488355328) (hk : KIs w) (h0 : 0 < w.heap.size) :
    Calls Tryz.prog 12 #[.agg (msgC m).toArray] w fun E w' => E = .returned (.agg (msgC (tagM m)).toArray) ∧ Hid (Below w.heap.size w w') := by
  by_cases h : m.may
  · rw [tagM, if_pos h]
    refine tagged_rf m (numTag m.origin m.number (msgB m)) w hm (numTag_length _ _ _) (Lib.hid fun W hb => (may_rf m W hm (hq.below hb) hn).mono fun _ _ hE => ⟨hE.1.trans (ret_bool (decide_eq_true h)), hE.2⟩) (Lib.hid fun W hb => bytesr_yes m W hm (hq.below hb) hn h) (Lib.hid fun W A n c hb ho => ?_)
    have hl := ho.len
    have hml := msgB_len hm h
    exact (refNumbered_any m.origin m.number (msgB m) A n c W ho.rd ho.2 (by omega) (hk.below hb h0) (Nat.lt_of_lt_of_le h0 hb.size)).mono fun _ _ hE => ⟨hE.1, hE.2⟩
  · rw [tagM, if_neg h]
    exact tagged_no m w hm (Lib.hid fun W hb => (may_rf m W hm (hq.below hb) hn).mono fun _ _ hE => ⟨hE.1.trans (ret_bool (decide_eq_false h)), hE.2⟩)
end Go.Proofs.YtghjogneogkpoaaGreatDoor.Sh
