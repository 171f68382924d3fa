/- Laws and walks. -/
import Derived.Test.YtllbbcifcbkgeaaGreatDoorUcp
import Derived.Test.YtllbbcifcbkgeaaGreatDoorV6p
set_option maxHeartbeats 16000000
set_option maxRecDepth 100000
namespace Go.Proofs.YtllbbcifcbkgeaaGreatDoor.Sh
open Go.RowKit
theorem rightr_no (m : MMsg) (w : World) (hm : m.Wf) (HM : Hid (∀ W, Below w.heap.size w W -> Calls Tryz.prog 40 #[.agg (msgC m).toArray] W fun E w' => E = .returned (.bool false) /\ Hid (Below W.heap.size W w'))) :
  Calls Tryz.prog 29 #[.agg (msgC m).toArray] w fun E w' => E = .returned (.bool false) /\ Hid (Below w.heap.size w w') := by
 have HI : Hid ((Tryz.prog.info? 52).map (·.size) = some (msgC m).length) := iq (by rw [msgC_length hm]; exact Tryz.is52)
 have HL : Hid (RqAt w.heap.size w (msgC m) (w.alloc (.cells (msgC m).toArray 52))) := iq ⟨bl.alloc (Nat.le_refl _) _, by simp, range_box w (msgC m) 52⟩
 clear hm
 go_enter Tryz.func29, Tryz.ntmps29
 go_wp2_with fail
 refine wp_region_any (by kernel_rfl) ?_
 have H3 := iq (HL.out.drewN 1)
 change wpAny _ _ _ _ _ _ _ ((w.alloc (.cells (msgC m).toArray 52)).drewN 1)
 generalize (w.alloc (.cells (msgC m).toArray 52)).drewN 1 = w3 at H3 ⊢
 refine wpAny_of_held (S := fun W => W.rangeAt w.heap.size 0 (msgC m)) _ _ _ _ ?_
 refine tk 0 ⟨some 3, .load 52 (.tmp 1), _, _, _, none⟩ (.agg (msgC m).toArray) rfl (by kernel_rfl) (fun _ _ _ => id) (H3.out.src) (fun W hSW => exec_load_mid 52 (.tmp 1) rfl w.heap.size 0 rfl (msgC m) _ (hSW) Tryz.underlying52 rfl (HI.out)) ?_
 try simp only [pu, l0, l1, l2]
 refine rd1 1 ⟨some 4, .call { callee := .value (.func 40), args := #[.tmp 3], argTypes := #[52] }, _, _, _, none⟩ (by kernel_rfl) rfl fun K' hK' => ?_
 go_simp
 go_at_call 40
 refine (HM.out _ H3.out.bel).mono ?_
 rintro E w4 ⟨rfl, b4⟩
 have H4 := iq (H3.out.next (Nat.le_refl _) b4.out)
 refine hK'.out _ _ (H4.out.src) (fun _ => ?_)
 clear hK' K'
 try simp only [Act.put, l0, l1, l2]
 refine tk 2 ⟨some 5, .move (.tmp 4), _, _, _, none⟩ (.bool false) rfl (by kernel_rfl) (fun _ _ _ => id) (H4.out.src) (fun W hSW => by go_simp) ?_
 try simp only [pu, l0, l1, l2]
 refine sk 3 ⟨some 6, .fieldAddr 52 (.tmp 1) 0, _, _, _, some (2, true)⟩ rfl (by kernel_rfl) (fun _ _ _ => id) (H4.out.src) ?_
 try simp only [pu, l0, l1, l2]
 refine sk 4 ⟨some 7, .load 3 (.tmp 6), _, _, _, some (2, true)⟩ rfl (by kernel_rfl) (fun _ _ _ => id) (H4.out.src) ?_
 try simp only [pu, l0, l1, l2]
 refine sk 5 ⟨some 8, .fieldAddr 52 (.tmp 1) 1, _, _, _, some (2, true)⟩ rfl (by kernel_rfl) (fun _ _ _ => id) (H4.out.src) ?_
 try simp only [pu, l0, l1, l2]
 refine sk 6 ⟨some 9, .load 25 (.tmp 8), _, _, _, some (2, true)⟩ rfl (by kernel_rfl) (fun _ _ _ => id) (H4.out.src) ?_
 try simp only [pu, l0, l1, l2]
 refine sk 7 ⟨some 10, .load 52 (.tmp 1), _, _, _, some (2, true)⟩ rfl (by kernel_rfl) (fun _ _ _ => id) (H4.out.src) ?_
 try simp only [pu, l0, l1, l2]
 refine sk 8 ⟨some 11, .call { callee := .value (.func 52), args := #[.tmp 10], argTypes := #[52] }, _, _, _, some (2, true)⟩ rfl (by kernel_rfl) (fun _ _ _ => id) (H4.out.src) ?_
 try simp only [pu, l0, l1, l2]
 refine sk 9 ⟨some 12, .fieldAddr 52 (.tmp 1) 4, _, _, _, some (2, true)⟩ rfl (by kernel_rfl) (fun _ _ _ => id) (H4.out.src) ?_
 try simp only [pu, l0, l1, l2]
 refine sk 10 ⟨some 13, .load 45 (.tmp 12), _, _, _, some (2, true)⟩ rfl (by kernel_rfl) (fun _ _ _ => id) (H4.out.src) ?_
 try simp only [pu, l0, l1, l2]
 refine sk 11 ⟨some 14, .call { callee := .value (.func 53), args := #[.tmp 7, .tmp 9, .tmp 11, .tmp 13], argTypes := #[3, 25, 23, 45] }, _, _, _, some (2, true)⟩ rfl (by kernel_rfl) (fun _ _ _ => id) (H4.out.src) ?_
 try simp only [pu, l0, l1, l2]
 refine tk 12 ⟨some 15, .pick (.tmp 5) (.tmp 14) (.const (.bool false)), _, _, _, none⟩ (.bool false) rfl (by kernel_rfl) (fun _ _ _ => id) (H4.out.src) (fun W hSW => by go_simp) ?_
 try simp only [pu, l0, l1, l2]
 refine tk 13 ⟨some 2, .assign (.tmp 15), _, _, _, none⟩ (.bool false) rfl (by kernel_rfl) (fun _ _ _ => id) (H4.out.src) (fun W hSW => by go_simp) ?_
 try simp only [pu, l0, l1, l2]
 refine wpAnyH_done (by kernel_rfl) ?_ _
 go_wp2_with fail
 go_ret
 exact ⟨rfl, iq H4.out.bel⟩
theorem rightr_yes (m : MMsg) (q : Bool) (w : World) (hm : m.Wf) (HM : Hid (∀ W, Below w.heap.size w W -> Calls Tryz.prog 40 #[.agg (msgC m).toArray] W fun E w' => E = .returned (.bool true) /\ Hid (Below W.heap.size W w')))
  (HB : Hid (∀ W, Below w.heap.size w W -> Calls Tryz.prog 52 #[.agg (msgC m).toArray] W fun E w' => ∃ A' n' c', E = .returned (.slice A' n' c') /\ Ow W.heap.size w' A' n' c' (msgB m) /\ Hid (Below W.heap.size W w')))
  (HC : Hid (∀ (W : World) (A : Option Addr) (n c : Nat), Below w.heap.size w W -> Ow 0 W A n c (msgB m) -> Calls Tryz.prog 53 #[.int .i64 m.origin, .int .u64 (m.number : Int), .slice A n c, .agg (u8s m.tag).toArray] W fun E w' => E = .returned (.bool q) /\ Hid (Below W.heap.size W w'))) :
  Calls Tryz.prog 29 #[.agg (msgC m).toArray] w fun E w' => E = .returned (.bool q) /\ Hid (Below w.heap.size w w') := by
 have HJ : Hid ((Tryz.prog.info? 45).map (·.size) = some (u8s m.tag).length) := iq (by rw [u8s_length, hm.2.2]; exact Tryz.size45)
 have HI : Hid ((Tryz.prog.info? 52).map (·.size) = some (msgC m).length) := iq (by rw [msgC_length hm]; exact Tryz.is52)
 have HL : Hid (RqAt w.heap.size w (msgC m) (w.alloc (.cells (msgC m).toArray 52))) := iq ⟨bl.alloc (Nat.le_refl _) _, by simp, range_box w (msgC m) 52⟩
 have HMW := iq hm
 clear hm
 go_enter Tryz.func29, Tryz.ntmps29
 go_wp2_with fail
 refine wp_region_any (by kernel_rfl) ?_
 have H3 := iq (HL.out.drewN 1)
 change wpAny _ _ _ _ _ _ _ ((w.alloc (.cells (msgC m).toArray 52)).drewN 1)
 generalize (w.alloc (.cells (msgC m).toArray 52)).drewN 1 = w3 at H3 ⊢
 refine wpAny_of_held (S := fun W => W.rangeAt w.heap.size 0 (msgC m)) _ _ _ _ ?_
 refine tk 0 ⟨some 3, .load 52 (.tmp 1), _, _, _, none⟩ (.agg (msgC m).toArray) rfl (by kernel_rfl) (fun _ _ _ => id) (H3.out.src) (fun W hSW => exec_load_mid 52 (.tmp 1) rfl w.heap.size 0 rfl (msgC m) _ (hSW) Tryz.underlying52 rfl (HI.out)) ?_
 try simp only [pu, l0, l1, l2]
 refine rd1 1 ⟨some 4, .call { callee := .value (.func 40), args := #[.tmp 3], argTypes := #[52] }, _, _, _, none⟩ (by kernel_rfl) rfl fun K' hK' => ?_
 go_simp
 go_at_call 40
 refine (HM.out _ H3.out.bel).mono ?_
 rintro E w4 ⟨rfl, b4⟩
 have H4 := iq (H3.out.next (Nat.le_refl _) b4.out)
 refine hK'.out _ _ (H4.out.src) (fun _ => ?_)
 clear hK' K'
 try simp only [Act.put, l0, l1, l2]
 refine tk 2 ⟨some 5, .move (.tmp 4), _, _, _, none⟩ (.bool true) rfl (by kernel_rfl) (fun _ _ _ => id) (H4.out.src) (fun W hSW => by go_simp) ?_
 try simp only [pu, l0, l1, l2]
 refine tk 3 ⟨some 6, .fieldAddr 52 (.tmp 1) 0, _, _, _, some (2, true)⟩ (.pointer (some ⟨w.heap.size, 0, none⟩)) rfl (by kernel_rfl) (fun _ _ _ => id) (H4.out.src) (fun W hSW => by go_simp) ?_
 try simp only [pu, l0, l1, l2]
 refine tk 4 ⟨some 7, .load 3 (.tmp 6), _, _, _, some (2, true)⟩ (.int .i64 m.origin) rfl (by kernel_rfl) (fun _ _ _ => id) (H4.out.src) (fun W hSW => by have hv := (msg_lies hSW HMW.out).origin; go_simp) ?_
 try simp only [pu, l0, l1, l2]
 refine tk 5 ⟨some 8, .fieldAddr 52 (.tmp 1) 1, _, _, _, some (2, true)⟩ (.pointer (some ⟨w.heap.size, 1, none⟩)) rfl (by kernel_rfl) (fun _ _ _ => id) (H4.out.src) (fun W hSW => by go_simp) ?_
 try simp only [pu, l0, l1, l2]
 refine tk 6 ⟨some 9, .load 25 (.tmp 8), _, _, _, some (2, true)⟩ (.int .u64 (m.number : Int)) rfl (by kernel_rfl) (fun _ _ _ => id) (H4.out.src) (fun W hSW => by have hv := (msg_lies hSW HMW.out).number; go_simp) ?_
 try simp only [pu, l0, l1, l2]
 refine tk 7 ⟨some 10, .load 52 (.tmp 1), _, _, _, some (2, true)⟩ (.agg (msgC m).toArray) rfl (by kernel_rfl) (fun _ _ _ => id) (H4.out.src) (fun W hSW => exec_load_mid 52 (.tmp 1) rfl w.heap.size 0 rfl (msgC m) _ (hSW) Tryz.underlying52 rfl (HI.out)) ?_
 try simp only [pu, l0, l1, l2]
 refine tk 9 ⟨some 12, .fieldAddr 52 (.tmp 1) 4, _, _, _, some (2, true)⟩ (.pointer (some ⟨w.heap.size, 89, none⟩)) rfl (by kernel_rfl) (fun _ _ _ => id) (H4.out.src) (fun W hSW => by go_simp) ?_
 try simp only [pu, l0, l1, l2]
 refine tk 10 ⟨some 13, .load 45 (.tmp 12), _, _, _, some (2, true)⟩ (.agg (u8s m.tag).toArray) rfl (by kernel_rfl) (fun _ _ _ => id) (H4.out.src) (fun W hSW => exec_load_mid 45 (.tmp 12) rfl w.heap.size 89 rfl (u8s m.tag) _ ((msg_lies hSW HMW.out).tag) Tryz.underlying45 rfl (HJ.out)) ?_
 try simp only [pu, l0, l1, l2]
 refine rd1 8 ⟨some 11, .call { callee := .value (.func 52), args := #[.tmp 10], argTypes := #[52] }, _, _, _, some (2, true)⟩ (by kernel_rfl) rfl fun K' hK' => ?_
 go_simp
 go_at_call 52
 refine (HB.out _ H4.out.bel).mono ?_
 rintro E w5 ⟨A5, n5, c5, rfl, K5, b5⟩
 have O5 := iq K5
 clear K5
 have H5 := iq (H4.out.next (Nat.le_refl _) b5.out)
 refine hK'.out _ _ (H5.out.src) (fun _ => ?_)
 clear hK' K'
 try simp only [Act.put, l0, l1, l2]
 refine rd1 11 ⟨some 14, .call { callee := .value (.func 53), args := #[.tmp 7, .tmp 9, .tmp 11, .tmp 13], argTypes := #[3, 25, 23, 45] }, _, _, _, some (2, true)⟩ (by kernel_rfl) rfl fun K' hK' => ?_
 go_simp
 go_at_call 53
 refine (HC.out w5 A5 n5 c5 H5.out.bel (O5.out.low (Nat.zero_le _))).mono ?_
 rintro E w6 ⟨rfl, b6⟩
 have H6 := iq (H5.out.next (Nat.le_refl _) b6.out)
 refine hK'.out _ _ (H6.out.src) (fun _ => ?_)
 clear hK' K'
 try simp only [Act.put, l0, l1, l2]
 refine tk 12 ⟨some 15, .pick (.tmp 5) (.tmp 14) (.const (.bool false)), _, _, _, none⟩ (.bool q) rfl (by kernel_rfl) (fun _ _ _ => id) (H6.out.src) (fun W hSW => by go_simp) ?_
 try simp only [pu, l0, l1, l2]
 refine tk 13 ⟨some 2, .assign (.tmp 15), _, _, _, none⟩ (.bool q) rfl (by kernel_rfl) (fun _ _ _ => id) (H6.out.src) (fun W hSW => by go_simp) ?_
 try simp only [pu, l0, l1, l2]
 refine wpAnyH_done (by kernel_rfl) ?_ _
 go_wp2_with fail
 go_ret
 exact ⟨rfl, iq H6.out.bel⟩
theorem checkr_yes (i : Int) (n l c : Nat) (A : Option Addr) (t tg : List UInt8) (q : Bool) (w : World) (h1 : (1 : Int) <= i) (h2 : i <= 11) (h3 : (1 : Int) <= (n : Int)) (h4 : (n : Int) <= 65536) (h5 : (l : Int) <= 1024) (ht : t.length = 32) (htg : tg.length = 32) (hq : q = true ↔ t = tg)
  (HN : Hid (∀ W, Below w.heap.size w W -> Calls Tryz.prog 51 #[.int .i64 i, .int .u64 (n : Int), .slice A l c] W fun E w' => E = .returned (.agg (u8s tg).toArray) /\ Hid (Below W.heap.size W w'))) :
  Calls Tryz.prog 53 #[.int .i64 i, .int .u64 (n : Int), .slice A l c, .agg (u8s t).toArray] w fun E w' => E = .returned (.bool q) /\ Hid (Below w.heap.size w w') := by
 have HJ : Hid ((Tryz.prog.info? 45).map (·.size) = some (u8s t).length) := iq (by rw [u8s_length, ht]; exact Tryz.size45)
 have HL : Hid (RqAt w.heap.size w (u8s t) (w.alloc (.cells (u8s t).toArray 45))) := iq ⟨bl.alloc (Nat.le_refl _) _, by simp, range_box w (u8s t) 45⟩
 have HTT := iq (And.intro ht htg)
 clear ht htg
 go_enter Tryz.func53, Tryz.ntmps53
 go_wp2_with fail
 refine wp_region_any (by kernel_rfl) ?_
 have H3 := iq (HL.out.drewN 1)
 change wpAny _ _ _ _ _ _ _ ((w.alloc (.cells (u8s t).toArray 45)).drewN 1)
 generalize (w.alloc (.cells (u8s t).toArray 45)).drewN 1 = w3 at H3 ⊢
 refine wpAny_of_held (S := fun W => W.rangeAt w.heap.size 0 (u8s t)) _ _ _ _ ?_
 refine tk 0 ⟨some 9, .move (.tmp 0), _, _, _, none⟩ (.int .i64 i) rfl (by kernel_rfl) (fun _ _ _ => id) (H3.out.src) (fun W hSW => by go_simp) ?_
 try simp only [pu, l0, l1, l2]
 refine tk 1 ⟨some 10, .binOp .geq 3 (.tmp 9) (.const (.int .i64 1)) 3, _, _, _, none⟩ (.bool true) rfl (by kernel_rfl) (fun _ _ _ => id) (H3.out.src) (fun W hSW => by have hv := h1; go_simp) ?_
 try simp only [pu, l0, l1, l2]
 refine tk 2 ⟨some 11, .move (.tmp 10), _, _, _, none⟩ (.bool true) rfl (by kernel_rfl) (fun _ _ _ => id) (H3.out.src) (fun W hSW => by go_simp) ?_
 try simp only [pu, l0, l1, l2]
 refine tk 3 ⟨some 12, .move (.tmp 0), _, _, _, some (2, true)⟩ (.int .i64 i) rfl (by kernel_rfl) (fun _ _ _ => id) (H3.out.src) (fun W hSW => by go_simp) ?_
 try simp only [pu, l0, l1, l2]
 refine tk 4 ⟨some 13, .binOp .leq 3 (.tmp 12) (.const (.int .i64 11)) 3, _, _, _, some (2, true)⟩ (.bool true) rfl (by kernel_rfl) (fun _ _ _ => id) (H3.out.src) (fun W hSW => by have hv := h2; go_simp) ?_
 try simp only [pu, l0, l1, l2]
 refine tk 5 ⟨some 14, .pick (.tmp 11) (.tmp 13) (.const (.bool false)), _, _, _, none⟩ (.bool true) rfl (by kernel_rfl) (fun _ _ _ => id) (H3.out.src) (fun W hSW => by go_simp) ?_
 try simp only [pu, l0, l1, l2]
 refine tk 6 ⟨some 15, .move (.tmp 14), _, _, _, none⟩ (.bool true) rfl (by kernel_rfl) (fun _ _ _ => id) (H3.out.src) (fun W hSW => by go_simp) ?_
 try simp only [pu, l0, l1, l2]
 refine tk 7 ⟨some 16, .move (.tmp 1), _, _, _, some (6, true)⟩ (.int .u64 (n : Int)) rfl (by kernel_rfl) (fun _ _ _ => id) (H3.out.src) (fun W hSW => by go_simp) ?_
 try simp only [pu, l0, l1, l2]
 refine tk 8 ⟨some 17, .binOp .geq 25 (.tmp 16) (.const (.int .u64 1)) 25, _, _, _, some (6, true)⟩ (.bool true) rfl (by kernel_rfl) (fun _ _ _ => id) (H3.out.src) (fun W hSW => by have hv := h3; go_simp) ?_
 try simp only [pu, l0, l1, l2]
 refine tk 9 ⟨some 18, .pick (.tmp 15) (.tmp 17) (.const (.bool false)), _, _, _, none⟩ (.bool true) rfl (by kernel_rfl) (fun _ _ _ => id) (H3.out.src) (fun W hSW => by go_simp) ?_
 try simp only [pu, l0, l1, l2]
 refine tk 10 ⟨some 19, .move (.tmp 18), _, _, _, none⟩ (.bool true) rfl (by kernel_rfl) (fun _ _ _ => id) (H3.out.src) (fun W hSW => by go_simp) ?_
 try simp only [pu, l0, l1, l2]
 refine tk 11 ⟨some 20, .move (.tmp 1), _, _, _, some (10, true)⟩ (.int .u64 (n : Int)) rfl (by kernel_rfl) (fun _ _ _ => id) (H3.out.src) (fun W hSW => by go_simp) ?_
 try simp only [pu, l0, l1, l2]
 refine tk 12 ⟨some 21, .binOp .leq 25 (.tmp 20) (.const (.int .u64 65536)) 25, _, _, _, some (10, true)⟩ (.bool true) rfl (by kernel_rfl) (fun _ _ _ => id) (H3.out.src) (fun W hSW => by have hv := h4; go_simp) ?_
 try simp only [pu, l0, l1, l2]
 refine tk 13 ⟨some 22, .pick (.tmp 19) (.tmp 21) (.const (.bool false)), _, _, _, none⟩ (.bool true) rfl (by kernel_rfl) (fun _ _ _ => id) (H3.out.src) (fun W hSW => by go_simp) ?_
 try simp only [pu, l0, l1, l2]
 refine tk 14 ⟨some 23, .move (.tmp 22), _, _, _, none⟩ (.bool true) rfl (by kernel_rfl) (fun _ _ _ => id) (H3.out.src) (fun W hSW => by go_simp) ?_
 try simp only [pu, l0, l1, l2]
 refine tk 15 ⟨some 24, .move (.tmp 2), _, _, _, some (14, true)⟩ (.slice A l c) rfl (by kernel_rfl) (fun _ _ _ => id) (H3.out.src) (fun W hSW => by go_simp) ?_
 try simp only [pu, l0, l1, l2]
 refine tk 16 ⟨some 25, .call { callee := .builtin .len, args := #[.tmp 24], argTypes := #[23] }, _, _, _, some (14, true)⟩ (.int .i64 (l : Int)) rfl (by kernel_rfl) (fun _ _ _ => id) (H3.out.src) (fun W hSW => by go_simp) ?_
 try simp only [pu, l0, l1, l2]
 refine tk 17 ⟨some 26, .binOp .leq 3 (.tmp 25) (.const (.int .i64 1024)) 3, _, _, _, some (14, true)⟩ (.bool true) rfl (by kernel_rfl) (fun _ _ _ => id) (H3.out.src) (fun W hSW => by have hv := h5; go_simp) ?_
 try simp only [pu, l0, l1, l2]
 refine tk 18 ⟨some 27, .pick (.tmp 23) (.tmp 26) (.const (.bool false)), _, _, _, none⟩ (.bool true) rfl (by kernel_rfl) (fun _ _ _ => id) (H3.out.src) (fun W hSW => by go_simp) ?_
 try simp only [pu, l0, l1, l2]
 refine tk 19 ⟨some 28, .move (.tmp 27), _, _, _, none⟩ (.bool true) rfl (by kernel_rfl) (fun _ _ _ => id) (H3.out.src) (fun W hSW => by go_simp) ?_
 try simp only [pu, l0, l1, l2]
 refine tk 20 ⟨some 29, .load 45 (.tmp 7), _, _, _, some (19, true)⟩ (.agg (u8s t).toArray) rfl (by kernel_rfl) (fun _ _ _ => id) (H3.out.src) (fun W hSW => exec_load_mid 45 (.tmp 7) rfl w.heap.size 0 rfl (u8s t) _ (hSW) Tryz.underlying45 rfl (HJ.out)) ?_
 try simp only [pu, l0, l1, l2]
 refine tk 21 ⟨some 30, .move (.tmp 0), _, _, _, some (19, true)⟩ (.int .i64 i) rfl (by kernel_rfl) (fun _ _ _ => id) (H3.out.src) (fun W hSW => by go_simp) ?_
 try simp only [pu, l0, l1, l2]
 refine tk 22 ⟨some 31, .move (.tmp 1), _, _, _, some (19, true)⟩ (.int .u64 (n : Int)) rfl (by kernel_rfl) (fun _ _ _ => id) (H3.out.src) (fun W hSW => by go_simp) ?_
 try simp only [pu, l0, l1, l2]
 refine tk 23 ⟨some 32, .move (.tmp 2), _, _, _, some (19, true)⟩ (.slice A l c) rfl (by kernel_rfl) (fun _ _ _ => id) (H3.out.src) (fun W hSW => by go_simp) ?_
 try simp only [pu, l0, l1, l2]
 refine rd1 24 ⟨some 33, .call { callee := .value (.func 51), args := #[.tmp 30, .tmp 31, .tmp 32], argTypes := #[3, 25, 23] }, _, _, _, some (19, true)⟩ (by kernel_rfl) rfl fun K' hK' => ?_
 go_simp
 go_at_call 51
 refine (HN.out _ H3.out.bel).mono ?_
 rintro E w4 ⟨rfl, b4⟩
 have H4 := iq (H3.out.next (Nat.le_refl _) b4.out)
 refine hK'.out _ _ (H4.out.src) (fun _ => ?_)
 clear hK' K'
 try simp only [Act.put, l0, l1, l2]
 refine tk 25 ⟨some 34, .binOp .eql 45 (.tmp 29) (.tmp 33) 45, _, _, _, some (19, true)⟩ (.bool q) rfl (by kernel_rfl) (fun _ _ _ => id) (H4.out.src) (fun W hSW => by have hf := eq_tag_of (d := 9998) t tg HTT.out.1 HTT.out.2 hq W; go_simp) ?_
 try simp only [pu, l0, l1, l2]
 refine tk 26 ⟨some 35, .pick (.tmp 28) (.tmp 34) (.const (.bool false)), _, _, _, none⟩ (.bool q) rfl (by kernel_rfl) (fun _ _ _ => id) (H4.out.src) (fun W hSW => by go_simp) ?_
 try simp only [pu, l0, l1, l2]
 refine tk 27 ⟨some 8, .assign (.tmp 35), _, _, _, none⟩ (.bool q) rfl (by kernel_rfl) (fun _ _ _ => id) (H4.out.src) (fun W hSW => by go_simp) ?_
 try simp only [pu, l0, l1, l2]
 refine wpAnyH_done (by kernel_rfl) ?_ _
 go_wp2_with fail
 go_ret
 exact ⟨rfl, iq H4.out.bel⟩
theorem tagged_no (m : MMsg) (w : World) (hm : m.Wf) (HM : Hid (∀ W, Below w.heap.size w W -> Calls Tryz.prog 40 #[.agg (msgC m).toArray] W fun E w' => E = .returned (.bool false) /\ Hid (Below W.heap.size W w'))) :
  Calls Tryz.prog 28 #[.agg (msgC m).toArray] w fun E w' => E = .returned (.agg (msgC m).toArray) /\ Hid (Below w.heap.size w w') := by
 have HI : Hid ((Tryz.prog.info? 52).map (·.size) = some (msgC m).length) := iq (by rw [msgC_length hm]; exact Tryz.is52)
 have HLE : Hid (0 + (msgC m).length <= (msgC zeroMsg).length /\ setAll (msgC zeroMsg) 0 (msgC m) = msgC m) := iq ⟨by rw [msgC_length (⟨rfl, zero_wf, rfl⟩ : zeroMsg.Wf), msgC_length hm]; omega, setAll_all (by rw [msgC_length (⟨rfl, zero_wf, rfl⟩ : zeroMsg.Wf), msgC_length hm])⟩
 have hz : ∀ w, (zeroValue 52).run Tryz.prog w = .ok (.agg (msgC zeroMsg).toArray) w := zero_msg
 have H0 := iq (BxR.start w (msgC m) (msgC zeroMsg) 52 52)
 clear hm
 go_enter Tryz.func28, Tryz.ntmps28
 go_wp2_with (first | ((with_reducible refine wpList_load_midG ?_ 52 (.tmp 1) ?_ w.heap.size 0 ?_ (msgC m) _ ?_ Tryz.underlying52 ?_ ?_ ?_); rfl; rfl; rfl; exact range_of H0.out.box; rfl; exact HI.out) | (go_at_call 40; (with_reducible refine (HM.out _ H0.out.bel).mono ?_); rintro E w1 ⟨rfl, hb1⟩; have H1 := iq (H0.out.next hb1.out)) | ((with_reducible refine wpList_load_midG ?_ 52 (.tmp 1) ?_ w.heap.size 0 ?_ (msgC m) _ ?_ Tryz.underlying52 ?_ ?_ ?_); rfl; rfl; rfl; exact range_of H1.out.box; rfl; exact HI.out) | (refine wpList_store_part rfl 52 (.tmp 2) (.tmp 13) rfl (w.heap.size + 1) 0 (msgC zeroMsg) (msgC m) (msgC m) 52 H1.out.res HLE.out.1 HLE.out.2 rfl rfl HI.out (one_msgC _) ?_; intro w9 G9))
 exact bodyPost_ret (ret_range (cs := msgC m) rfl rfl (range_of G9.out.1) Tryz.underlying52 rfl HI.out) rfl ⟨rfl, iq (H1.out.bel.grown G9.out.2 H1.out.bel.size (fun k hk => by injection hk with hk; omega))⟩
theorem msgB_of {m : MMsg} {z : List UInt8} (h : bodyB m.body = z) : msgB m = byteOf m.origin :: (depsB m.deps ++ (m.body.kind :: z)) := by rw [msgB, h]
open Classical in
theorem bytesr_yes (m : MMsg) (w : World) (hm : m.Wf) (hq : Prs w m.body.qa m.body.qs) (hn : m.body.qs.length <= 140737488355328) (hmay : m.may) :
  Calls Tryz.prog 52 #[.agg (msgC m).toArray] w fun E w' => ∃ A' n' c', E = .returned (.slice A' n' c') /\ Ow w.heap.size w' A' n' c' (msgB m) /\ Hid (Below w.heap.size w w') := by
 have HM : Hid (∀ W, Below w.heap.size w W -> Calls Tryz.prog 40 #[.agg (msgC m).toArray] W fun E w' => E = .returned (.bool true) /\ Hid (Below W.heap.size W w')) :=
  iq fun W h => (may_rf m W hm (hq.below h) hn).mono fun _ _ hE => ⟨hE.1.trans (ret_bool (decide_eq_true hmay)), hE.2⟩
 have ho := hmay.1
 rcases kinds_of hmay.2.2.1 with ⟨e, hr⟩ | e | e | e | ⟨e, hp⟩ | e
 ·rw [msgB_of (z := be 8 m.body.view ++ (reqB m.body.req ++ m.body.req.tag)) (by simp [bodyB, e])]
  exact bytesr_1 m w hm ho (iq e) hr HM
 ·rw [msgB_of (z := be 8 m.body.view ++ be 8 m.body.k) (by simp [bodyB, e])]
  exact bytesr_2 m w hm ho (iq e) HM
 ·rw [msgB_of (z := be 8 m.body.view) (by simp [bodyB, e])]
  exact bytesr_3 m w hm ho (iq e) HM
 ·rw [msgB_of (z := be 8 m.body.view) (by simp [bodyB, e])]
  exact bytesr_5 m w hm ho (iq e) HM
 ·rw [msgB_of (z := be 8 m.body.view ++ (byteOf (m.body.qs.length : Int) :: pairsB m.body.qs)) (by simp [bodyB, e])]
  exact bytesr_4 m w hm ho (iq e) (prs_all hp).2 (fun p hp' => ⟨((prs_all hp).1 p hp').1, ((prs_all hp).1 p hp').2.1⟩) hq HM
 ·rw [msgB_of (z := be 8 m.body.k ++ m.body.dig) (by simp [bodyB, e])]
  exact bytesr_6 m w hm ho (iq e) HM
open Classical in
theorem right_rf (m : MMsg) (w : World) (hm : m.Wf) (hq : Prs w m.body.qa m.body.qs) (hn : m.body.qs.length <= 140737488355328) (hk : KIs w) (h0 : 0 < w.heap.size) :
  Calls Tryz.prog 29 #[.agg (msgC m).toArray] w fun E w' => E = .returned (.bool (decide m.right)) /\ Hid (Below w.heap.size w w') := by
 by_cases h : m.may
 ·have hr : m.right ↔ m.tag = numTag m.origin m.number (msgB m) := and_iff_right h
  refine (rightr_yes m (decide m.right) w hm (iq fun W hb => (may_rf m W hm (hq.below hb) hn).mono fun _ _ hE => ⟨hE.1.trans (ret_bool (decide_eq_true h)), hE.2⟩) (iq fun W hb => bytesr_yes m W hm (hq.below hb) hn h) (iq fun W A n c hb ho => ?_))
  have hl := ho.len
  have hml := msgB_len hm h
  have h1 := h.1
  have h2 := h.2.1.1
  simp only [isRepl, isNum, decide_eq_true_eq] at h1 h2
  exact checkr_yes m.origin m.number n c A m.tag (numTag m.origin m.number (msgB m)) (decide m.right) W (by omega) (by omega) (by omega) (by omega) (by omega) hm.2.2 (numTag_length _ _ _) (by rw [decide_eq_true_iff]; exact hr)
   (iq fun W' hb' => (refNumbered_any m.origin m.number (msgB m) A n c W' (ho.rd.below hb' (fun _ h _ => h)) ho.2 (by omega) (hk.below (hb.trans (hb'.mono hb.size)) h0) (Nat.lt_of_lt_of_le (Nat.lt_of_lt_of_le h0 hb.size) hb'.size)).mono fun _ _ hE => ⟨hE.1, hE.2⟩)
 ·exact (rightr_no m w hm (iq fun W hb => (may_rf m W hm (hq.below hb) hn).mono fun _ _ hE => ⟨hE.1.trans (ret_bool (decide_eq_false h)), hE.2⟩)).mono fun _ _ hE => ⟨hE.1.trans (ret_bool (decide_eq_false fun hr => h hr.1).symm), hE.2⟩
open Classical in
noncomputable def tagM (m : MMsg) : MMsg := if m.may then { m with tag := numTag m.origin m.number (msgB m) } else m
open Classical in
theorem tagged_any (m : MMsg) (w : World) (hm : m.Wf) (hq : Prs w m.body.qa m.body.qs) (hn : m.body.qs.length <= 140737488355328) (hk : KIs w) (h0 : 0 < w.heap.size) :
  Calls Tryz.prog 28 #[.agg (msgC m).toArray] w fun E w' => E = .returned (.agg (msgC (tagM m)).toArray) /\ Hid (Below w.heap.size w w') := by
 by_cases h : m.may
 ·rw [tagM, if_pos h]
  refine tagged_rf m (numTag m.origin m.number (msgB m)) w hm (numTag_length _ _ _) (iq fun W hb => (may_rf m W hm (hq.below hb) hn).mono fun _ _ hE => ⟨hE.1.trans (ret_bool (decide_eq_true h)), hE.2⟩) (iq fun W hb => bytesr_yes m W hm (hq.below hb) hn h) (iq fun W A n c hb ho => ?_)
  have hl := ho.len
  have hml := msgB_len hm h
  exact (refNumbered_any m.origin m.number (msgB m) A n c W ho.rd ho.2 (by omega) (hk.below hb h0) (Nat.lt_of_lt_of_le h0 hb.size)).mono fun _ _ hE => ⟨hE.1, hE.2⟩
 ·rw [tagM, if_neg h]
  exact tagged_no m w hm (iq fun W hb => (may_rf m W hm (hq.below hb) hn).mono fun _ _ hE => ⟨hE.1.trans (ret_bool (decide_eq_false h)), hE.2⟩)
end Go.Proofs.YtllbbcifcbkgeaaGreatDoor.Sh
