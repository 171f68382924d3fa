/- Laws and walks. -/
import Derived.Test.YtknpcmadghkaaaaGreatDoorV5w
import Derived.Test.YtknpcmadghkaaaaGreatDoorV8w
set_option maxHeartbeats 16000000
set_option maxRecDepth 100000
namespace Go.Proofs.YtknpcmadghkaaaaGreatDoor.Sh
open Go.RowKit
theorem mayr_0 (m : MMsg) (w : World) (hm : m.Wf) (H0 : (m.origin < 1))  :
  Calls Tryz.prog 41 #[.agg (msgC m).toArray] w fun E w' => E = .returned (.bool (false)) /\ Hid (Below w.heap.size w w') := by
 have HM := iq hm
 clear hm
 go_enter Tryz.func41, Tryz.ntmps41
 go_wp2_with fail
 refine wp_region_any (by kernel_rfl) ?_
 change wpAny _ _ _ _ _ _ _ ((w.alloc (.cells (msgC m).toArray 39)).drewN 1)
 have HQ : Hid (MsgLies ((w.alloc (.cells (msgC m).toArray 39)).drewN 1) w.heap.size m /\ Below w.heap.size w ((w.alloc (.cells (msgC m).toArray 39)).drewN 1) /\ w.heap.size < ((w.alloc (.cells (msgC m).toArray 39)).drewN 1).heap.size) := iq ⟨msg_lies (range_box w (msgC m) 39) HM.out, below_drewN (bl.alloc (Nat.le_refl _) _) 1, by simp⟩
 generalize (w.alloc (.cells (msgC m).toArray 39)).drewN 1 = w3 at HQ ⊢
 refine wpAny_of_held (S := fun W => Below w3.heap.size w3 W) _ _ _ _ ?_
 refine tk 0 ⟨some 4, .fieldAddr 39 (.tmp 1) 0, _, _, _, none⟩ (.pointer (some ⟨w.heap.size, 0, none⟩)) rfl (by kernel_rfl) (fun _ _ _ => id) bl (fun W hSW => by go_simp) ?_
 try simp only [Act.put, l0, l1, l2]
 refine tk 1 ⟨some 5, .load 3 (.tmp 4), _, _, _, none⟩ (.int .i64 m.origin) rfl (by kernel_rfl) (fun _ _ _ => id) bl (fun W hSW => by have hv := (hSW.cell (p := ⟨w.heap.size, 0, none⟩) HQ.out.2.2).trans HQ.out.1.origin; go_simp) ?_
 try simp only [pu, l0, l1, l2]
 refine tk 2 ⟨some 6, .binOp .lss 3 (.tmp 5) (.const (.int .i64 1)) 3, _, _, _, none⟩ (.bool true) rfl (by kernel_rfl) (fun _ _ _ => id) bl (fun W hSW => by have hv := H0; go_simp) ?_
 try simp only [pu, l0, l1, l2]
 refine tk 3 ⟨some 7, .move (.tmp 6), _, _, _, none⟩ (.bool true) rfl (by kernel_rfl) (fun _ _ _ => id) bl (fun W hSW => by go_simp) ?_
 try simp only [pu, l0, l1, l2]
 refine sk 4 ⟨some 8, .fieldAddr 39 (.tmp 1) 0, _, _, _, some (3, false)⟩ rfl (by kernel_rfl) (fun _ _ _ => id) bl ?_
 try simp only [pu, l0, l1, l2]
 refine sk 5 ⟨some 9, .load 3 (.tmp 8), _, _, _, some (3, false)⟩ rfl (by kernel_rfl) (fun _ _ _ => id) bl ?_
 try simp only [pu, l0, l1, l2]
 refine sk 6 ⟨some 10, .binOp .gtr 3 (.tmp 9) (.const (.int .i64 11)) 3, _, _, _, some (3, false)⟩ rfl (by kernel_rfl) (fun _ _ _ => id) bl ?_
 try simp only [pu, l0, l1, l2]
 refine tk 7 ⟨some 11, .pick (.tmp 7) (.const (.bool true)) (.tmp 10), _, _, _, none⟩ (.bool true) rfl (by kernel_rfl) (fun _ _ _ => id) bl (fun W hSW => by go_simp) ?_
 try simp only [pu, l0, l1, l2]
 refine tk 8 ⟨some 12, .move (.tmp 11), _, _, _, none⟩ (.bool true) rfl (by kernel_rfl) (fun _ _ _ => id) bl (fun W hSW => by go_simp) ?_
 try simp only [pu, l0, l1, l2]
 refine sk 9 ⟨some 13, .fieldAddr 39 (.tmp 1) 1, _, _, _, some (8, false)⟩ rfl (by kernel_rfl) (fun _ _ _ => id) bl ?_
 try simp only [pu, l0, l1, l2]
 refine sk 10 ⟨some 14, .load 25 (.tmp 13), _, _, _, some (8, false)⟩ rfl (by kernel_rfl) (fun _ _ _ => id) bl ?_
 try simp only [pu, l0, l1, l2]
 refine sk 11 ⟨some 15, .binOp .lss 25 (.tmp 14) (.const (.int .u64 1)) 25, _, _, _, some (8, false)⟩ rfl (by kernel_rfl) (fun _ _ _ => id) bl ?_
 try simp only [pu, l0, l1, l2]
 refine tk 12 ⟨some 16, .pick (.tmp 12) (.const (.bool true)) (.tmp 15), _, _, _, none⟩ (.bool true) rfl (by kernel_rfl) (fun _ _ _ => id) bl (fun W hSW => by go_simp) ?_
 try simp only [pu, l0, l1, l2]
 refine tk 13 ⟨some 17, .move (.tmp 16), _, _, _, none⟩ (.bool true) rfl (by kernel_rfl) (fun _ _ _ => id) bl (fun W hSW => by go_simp) ?_
 try simp only [pu, l0, l1, l2]
 refine sk 14 ⟨some 18, .fieldAddr 39 (.tmp 1) 1, _, _, _, some (13, false)⟩ rfl (by kernel_rfl) (fun _ _ _ => id) bl ?_
 try simp only [pu, l0, l1, l2]
 refine sk 15 ⟨some 19, .load 25 (.tmp 18), _, _, _, some (13, false)⟩ rfl (by kernel_rfl) (fun _ _ _ => id) bl ?_
 try simp only [pu, l0, l1, l2]
 refine sk 16 ⟨some 20, .binOp .gtr 25 (.tmp 19) (.const (.int .u64 65536)) 25, _, _, _, some (13, false)⟩ rfl (by kernel_rfl) (fun _ _ _ => id) bl ?_
 try simp only [pu, l0, l1, l2]
 refine tk 17 ⟨some 21, .pick (.tmp 17) (.const (.bool true)) (.tmp 20), _, _, _, none⟩ (.bool true) rfl (by kernel_rfl) (fun _ _ _ => id) bl (fun W hSW => by go_simp) ?_
 try simp only [pu, l0, l1, l2]
 refine tk 18 ⟨some 22, .move (.tmp 21), _, _, _, none⟩ (.bool true) rfl (by kernel_rfl) (fun _ _ _ => id) bl (fun W hSW => by go_simp) ?_
 try simp only [pu, l0, l1, l2]
 refine sk 19 ⟨some 23, .fieldAddr 39 (.tmp 1) 0, _, _, _, some (18, false)⟩ rfl (by kernel_rfl) (fun _ _ _ => id) bl ?_
 try simp only [pu, l0, l1, l2]
 refine sk 20 ⟨some 24, .load 3 (.tmp 23), _, _, _, some (18, false)⟩ rfl (by kernel_rfl) (fun _ _ _ => id) bl ?_
 try simp only [pu, l0, l1, l2]
 refine sk 21 ⟨some 25, .binOp .sub 3 (.tmp 24) (.const (.int .i64 1)) 3, _, _, _, some (18, false)⟩ rfl (by kernel_rfl) (fun _ _ _ => id) bl ?_
 try simp only [pu, l0, l1, l2]
 refine sk 22 ⟨some 26, .fieldAddr 39 (.tmp 1) 2, _, _, _, some (18, false)⟩ rfl (by kernel_rfl) (fun _ _ _ => id) bl ?_
 try simp only [pu, l0, l1, l2]
 refine sk 23 ⟨some 27, .indexAddr 37 (.tmp 26) (.tmp 25), _, _, _, some (18, false)⟩ rfl (by kernel_rfl) (fun _ _ _ => id) bl ?_
 try simp only [pu, l0, l1, l2]
 refine sk 24 ⟨some 28, .load 25 (.tmp 27), _, _, _, some (18, false)⟩ rfl (by kernel_rfl) (fun _ _ _ => id) bl ?_
 try simp only [pu, l0, l1, l2]
 refine sk 25 ⟨some 29, .fieldAddr 39 (.tmp 1) 1, _, _, _, some (18, false)⟩ rfl (by kernel_rfl) (fun _ _ _ => id) bl ?_
 try simp only [pu, l0, l1, l2]
 refine sk 26 ⟨some 30, .load 25 (.tmp 29), _, _, _, some (18, false)⟩ rfl (by kernel_rfl) (fun _ _ _ => id) bl ?_
 try simp only [pu, l0, l1, l2]
 refine sk 27 ⟨some 31, .binOp .sub 25 (.tmp 30) (.const (.int .u64 1)) 25, _, _, _, some (18, false)⟩ rfl (by kernel_rfl) (fun _ _ _ => id) bl ?_
 try simp only [pu, l0, l1, l2]
 refine sk 28 ⟨some 32, .binOp .neq 25 (.tmp 28) (.tmp 31) 25, _, _, _, some (18, false)⟩ rfl (by kernel_rfl) (fun _ _ _ => id) bl ?_
 try simp only [pu, l0, l1, l2]
 refine tk 29 ⟨some 33, .pick (.tmp 22) (.const (.bool true)) (.tmp 32), _, _, _, none⟩ (.bool true) rfl (by kernel_rfl) (fun _ _ _ => id) bl (fun W hSW => by go_simp) ?_
 try simp only [pu, l0, l1, l2]
 refine wpAnyH_done (by kernel_rfl) ?_ _
 go_wp2_with fail
 go_ret
 exact ⟨rfl, iq HQ.out.2.1⟩
theorem mayr_1 (m : MMsg) (w : World) (hm : m.Wf) (H0 : ¬ (m.origin < 1)) (H1 : (m.origin > 11))  :
  Calls Tryz.prog 41 #[.agg (msgC m).toArray] w fun E w' => E = .returned (.bool (false)) /\ Hid (Below w.heap.size w w') := by
 have HM := iq hm
 clear hm
 go_enter Tryz.func41, Tryz.ntmps41
 go_wp2_with fail
 refine wp_region_any (by kernel_rfl) ?_
 change wpAny _ _ _ _ _ _ _ ((w.alloc (.cells (msgC m).toArray 39)).drewN 1)
 have HQ : Hid (MsgLies ((w.alloc (.cells (msgC m).toArray 39)).drewN 1) w.heap.size m /\ Below w.heap.size w ((w.alloc (.cells (msgC m).toArray 39)).drewN 1) /\ w.heap.size < ((w.alloc (.cells (msgC m).toArray 39)).drewN 1).heap.size) := iq ⟨msg_lies (range_box w (msgC m) 39) HM.out, below_drewN (bl.alloc (Nat.le_refl _) _) 1, by simp⟩
 generalize (w.alloc (.cells (msgC m).toArray 39)).drewN 1 = w3 at HQ ⊢
 refine wpAny_of_held (S := fun W => Below w3.heap.size w3 W) _ _ _ _ ?_
 refine tk 0 ⟨some 4, .fieldAddr 39 (.tmp 1) 0, _, _, _, none⟩ (.pointer (some ⟨w.heap.size, 0, none⟩)) rfl (by kernel_rfl) (fun _ _ _ => id) bl (fun W hSW => by go_simp) ?_
 try simp only [Act.put, l0, l1, l2]
 refine tk 1 ⟨some 5, .load 3 (.tmp 4), _, _, _, none⟩ (.int .i64 m.origin) rfl (by kernel_rfl) (fun _ _ _ => id) bl (fun W hSW => by have hv := (hSW.cell (p := ⟨w.heap.size, 0, none⟩) HQ.out.2.2).trans HQ.out.1.origin; go_simp) ?_
 try simp only [pu, l0, l1, l2]
 refine tk 2 ⟨some 6, .binOp .lss 3 (.tmp 5) (.const (.int .i64 1)) 3, _, _, _, none⟩ (.bool false) rfl (by kernel_rfl) (fun _ _ _ => id) bl (fun W hSW => by have hv := H0; go_simp) ?_
 try simp only [pu, l0, l1, l2]
 refine tk 3 ⟨some 7, .move (.tmp 6), _, _, _, none⟩ (.bool false) rfl (by kernel_rfl) (fun _ _ _ => id) bl (fun W hSW => by go_simp) ?_
 try simp only [pu, l0, l1, l2]
 refine tk 4 ⟨some 8, .fieldAddr 39 (.tmp 1) 0, _, _, _, some (3, false)⟩ (.pointer (some ⟨w.heap.size, 0, none⟩)) rfl (by kernel_rfl) (fun _ _ _ => id) bl (fun W hSW => by go_simp) ?_
 try simp only [pu, l0, l1, l2]
 refine tk 5 ⟨some 9, .load 3 (.tmp 8), _, _, _, some (3, false)⟩ (.int .i64 m.origin) rfl (by kernel_rfl) (fun _ _ _ => id) bl (fun W hSW => by have hv := (hSW.cell (p := ⟨w.heap.size, 0, none⟩) HQ.out.2.2).trans HQ.out.1.origin; go_simp) ?_
 try simp only [pu, l0, l1, l2]
 refine tk 6 ⟨some 10, .binOp .gtr 3 (.tmp 9) (.const (.int .i64 11)) 3, _, _, _, some (3, false)⟩ (.bool true) rfl (by kernel_rfl) (fun _ _ _ => id) bl (fun W hSW => by have hv := H1; go_simp) ?_
 try simp only [pu, l0, l1, l2]
 refine tk 7 ⟨some 11, .pick (.tmp 7) (.const (.bool true)) (.tmp 10), _, _, _, none⟩ (.bool true) rfl (by kernel_rfl) (fun _ _ _ => id) bl (fun W hSW => by go_simp) ?_
 try simp only [pu, l0, l1, l2]
 refine tk 8 ⟨some 12, .move (.tmp 11), _, _, _, none⟩ (.bool true) rfl (by kernel_rfl) (fun _ _ _ => id) bl (fun W hSW => by go_simp) ?_
 try simp only [pu, l0, l1, l2]
 refine sk 9 ⟨some 13, .fieldAddr 39 (.tmp 1) 1, _, _, _, some (8, false)⟩ rfl (by kernel_rfl) (fun _ _ _ => id) bl ?_
 try simp only [pu, l0, l1, l2]
 refine sk 10 ⟨some 14, .load 25 (.tmp 13), _, _, _, some (8, false)⟩ rfl (by kernel_rfl) (fun _ _ _ => id) bl ?_
 try simp only [pu, l0, l1, l2]
 refine sk 11 ⟨some 15, .binOp .lss 25 (.tmp 14) (.const (.int .u64 1)) 25, _, _, _, some (8, false)⟩ rfl (by kernel_rfl) (fun _ _ _ => id) bl ?_
 try simp only [pu, l0, l1, l2]
 refine tk 12 ⟨some 16, .pick (.tmp 12) (.const (.bool true)) (.tmp 15), _, _, _, none⟩ (.bool true) rfl (by kernel_rfl) (fun _ _ _ => id) bl (fun W hSW => by go_simp) ?_
 try simp only [pu, l0, l1, l2]
 refine tk 13 ⟨some 17, .move (.tmp 16), _, _, _, none⟩ (.bool true) rfl (by kernel_rfl) (fun _ _ _ => id) bl (fun W hSW => by go_simp) ?_
 try simp only [pu, l0, l1, l2]
 refine sk 14 ⟨some 18, .fieldAddr 39 (.tmp 1) 1, _, _, _, some (13, false)⟩ rfl (by kernel_rfl) (fun _ _ _ => id) bl ?_
 try simp only [pu, l0, l1, l2]
 refine sk 15 ⟨some 19, .load 25 (.tmp 18), _, _, _, some (13, false)⟩ rfl (by kernel_rfl) (fun _ _ _ => id) bl ?_
 try simp only [pu, l0, l1, l2]
 refine sk 16 ⟨some 20, .binOp .gtr 25 (.tmp 19) (.const (.int .u64 65536)) 25, _, _, _, some (13, false)⟩ rfl (by kernel_rfl) (fun _ _ _ => id) bl ?_
 try simp only [pu, l0, l1, l2]
 refine tk 17 ⟨some 21, .pick (.tmp 17) (.const (.bool true)) (.tmp 20), _, _, _, none⟩ (.bool true) rfl (by kernel_rfl) (fun _ _ _ => id) bl (fun W hSW => by go_simp) ?_
 try simp only [pu, l0, l1, l2]
 refine tk 18 ⟨some 22, .move (.tmp 21), _, _, _, none⟩ (.bool true) rfl (by kernel_rfl) (fun _ _ _ => id) bl (fun W hSW => by go_simp) ?_
 try simp only [pu, l0, l1, l2]
 refine sk 19 ⟨some 23, .fieldAddr 39 (.tmp 1) 0, _, _, _, some (18, false)⟩ rfl (by kernel_rfl) (fun _ _ _ => id) bl ?_
 try simp only [pu, l0, l1, l2]
 refine sk 20 ⟨some 24, .load 3 (.tmp 23), _, _, _, some (18, false)⟩ rfl (by kernel_rfl) (fun _ _ _ => id) bl ?_
 try simp only [pu, l0, l1, l2]
 refine sk 21 ⟨some 25, .binOp .sub 3 (.tmp 24) (.const (.int .i64 1)) 3, _, _, _, some (18, false)⟩ rfl (by kernel_rfl) (fun _ _ _ => id) bl ?_
 try simp only [pu, l0, l1, l2]
 refine sk 22 ⟨some 26, .fieldAddr 39 (.tmp 1) 2, _, _, _, some (18, false)⟩ rfl (by kernel_rfl) (fun _ _ _ => id) bl ?_
 try simp only [pu, l0, l1, l2]
 refine sk 23 ⟨some 27, .indexAddr 37 (.tmp 26) (.tmp 25), _, _, _, some (18, false)⟩ rfl (by kernel_rfl) (fun _ _ _ => id) bl ?_
 try simp only [pu, l0, l1, l2]
 refine sk 24 ⟨some 28, .load 25 (.tmp 27), _, _, _, some (18, false)⟩ rfl (by kernel_rfl) (fun _ _ _ => id) bl ?_
 try simp only [pu, l0, l1, l2]
 refine sk 25 ⟨some 29, .fieldAddr 39 (.tmp 1) 1, _, _, _, some (18, false)⟩ rfl (by kernel_rfl) (fun _ _ _ => id) bl ?_
 try simp only [pu, l0, l1, l2]
 refine sk 26 ⟨some 30, .load 25 (.tmp 29), _, _, _, some (18, false)⟩ rfl (by kernel_rfl) (fun _ _ _ => id) bl ?_
 try simp only [pu, l0, l1, l2]
 refine sk 27 ⟨some 31, .binOp .sub 25 (.tmp 30) (.const (.int .u64 1)) 25, _, _, _, some (18, false)⟩ rfl (by kernel_rfl) (fun _ _ _ => id) bl ?_
 try simp only [pu, l0, l1, l2]
 refine sk 28 ⟨some 32, .binOp .neq 25 (.tmp 28) (.tmp 31) 25, _, _, _, some (18, false)⟩ rfl (by kernel_rfl) (fun _ _ _ => id) bl ?_
 try simp only [pu, l0, l1, l2]
 refine tk 29 ⟨some 33, .pick (.tmp 22) (.const (.bool true)) (.tmp 32), _, _, _, none⟩ (.bool true) rfl (by kernel_rfl) (fun _ _ _ => id) bl (fun W hSW => by go_simp) ?_
 try simp only [pu, l0, l1, l2]
 refine wpAnyH_done (by kernel_rfl) ?_ _
 go_wp2_with fail
 go_ret
 exact ⟨rfl, iq HQ.out.2.1⟩
theorem mayr_2 (m : MMsg) (w : World) (hm : m.Wf) (H0 : ¬ (m.origin < 1)) (H1 : ¬ (m.origin > 11)) (H2 : ((m.number : Int) < 1)) (H2n : (m.number < 1))  :
  Calls Tryz.prog 41 #[.agg (msgC m).toArray] w fun E w' => E = .returned (.bool (false)) /\ Hid (Below w.heap.size w w') := by
 have HM := iq hm
 clear hm
 go_enter Tryz.func41, Tryz.ntmps41
 go_wp2_with fail
 refine wp_region_any (by kernel_rfl) ?_
 change wpAny _ _ _ _ _ _ _ ((w.alloc (.cells (msgC m).toArray 39)).drewN 1)
 have HQ : Hid (MsgLies ((w.alloc (.cells (msgC m).toArray 39)).drewN 1) w.heap.size m /\ Below w.heap.size w ((w.alloc (.cells (msgC m).toArray 39)).drewN 1) /\ w.heap.size < ((w.alloc (.cells (msgC m).toArray 39)).drewN 1).heap.size) := iq ⟨msg_lies (range_box w (msgC m) 39) HM.out, below_drewN (bl.alloc (Nat.le_refl _) _) 1, by simp⟩
 generalize (w.alloc (.cells (msgC m).toArray 39)).drewN 1 = w3 at HQ ⊢
 refine wpAny_of_held (S := fun W => Below w3.heap.size w3 W) _ _ _ _ ?_
 refine tk 0 ⟨some 4, .fieldAddr 39 (.tmp 1) 0, _, _, _, none⟩ (.pointer (some ⟨w.heap.size, 0, none⟩)) rfl (by kernel_rfl) (fun _ _ _ => id) bl (fun W hSW => by go_simp) ?_
 try simp only [Act.put, l0, l1, l2]
 refine tk 1 ⟨some 5, .load 3 (.tmp 4), _, _, _, none⟩ (.int .i64 m.origin) rfl (by kernel_rfl) (fun _ _ _ => id) bl (fun W hSW => by have hv := (hSW.cell (p := ⟨w.heap.size, 0, none⟩) HQ.out.2.2).trans HQ.out.1.origin; go_simp) ?_
 try simp only [pu, l0, l1, l2]
 refine tk 2 ⟨some 6, .binOp .lss 3 (.tmp 5) (.const (.int .i64 1)) 3, _, _, _, none⟩ (.bool false) rfl (by kernel_rfl) (fun _ _ _ => id) bl (fun W hSW => by have hv := H0; go_simp) ?_
 try simp only [pu, l0, l1, l2]
 refine tk 3 ⟨some 7, .move (.tmp 6), _, _, _, none⟩ (.bool false) rfl (by kernel_rfl) (fun _ _ _ => id) bl (fun W hSW => by go_simp) ?_
 try simp only [pu, l0, l1, l2]
 refine tk 4 ⟨some 8, .fieldAddr 39 (.tmp 1) 0, _, _, _, some (3, false)⟩ (.pointer (some ⟨w.heap.size, 0, none⟩)) rfl (by kernel_rfl) (fun _ _ _ => id) bl (fun W hSW => by go_simp) ?_
 try simp only [pu, l0, l1, l2]
 refine tk 5 ⟨some 9, .load 3 (.tmp 8), _, _, _, some (3, false)⟩ (.int .i64 m.origin) rfl (by kernel_rfl) (fun _ _ _ => id) bl (fun W hSW => by have hv := (hSW.cell (p := ⟨w.heap.size, 0, none⟩) HQ.out.2.2).trans HQ.out.1.origin; go_simp) ?_
 try simp only [pu, l0, l1, l2]
 refine tk 6 ⟨some 10, .binOp .gtr 3 (.tmp 9) (.const (.int .i64 11)) 3, _, _, _, some (3, false)⟩ (.bool false) rfl (by kernel_rfl) (fun _ _ _ => id) bl (fun W hSW => by have hv := H1; go_simp) ?_
 try simp only [pu, l0, l1, l2]
 refine tk 7 ⟨some 11, .pick (.tmp 7) (.const (.bool true)) (.tmp 10), _, _, _, none⟩ (.bool false) rfl (by kernel_rfl) (fun _ _ _ => id) bl (fun W hSW => by go_simp) ?_
 try simp only [pu, l0, l1, l2]
 refine tk 8 ⟨some 12, .move (.tmp 11), _, _, _, none⟩ (.bool false) rfl (by kernel_rfl) (fun _ _ _ => id) bl (fun W hSW => by go_simp) ?_
 try simp only [pu, l0, l1, l2]
 refine tk 9 ⟨some 13, .fieldAddr 39 (.tmp 1) 1, _, _, _, some (8, false)⟩ (.pointer (some ⟨w.heap.size, 1, none⟩)) rfl (by kernel_rfl) (fun _ _ _ => id) bl (fun W hSW => by go_simp) ?_
 try simp only [pu, l0, l1, l2]
 refine tk 10 ⟨some 14, .load 25 (.tmp 13), _, _, _, some (8, false)⟩ (.int .u64 (m.number : Int)) rfl (by kernel_rfl) (fun _ _ _ => id) bl (fun W hSW => by have hv := (hSW.cell (p := ⟨w.heap.size, 1, none⟩) HQ.out.2.2).trans HQ.out.1.number; go_simp) ?_
 try simp only [pu, l0, l1, l2]
 refine tk 11 ⟨some 15, .binOp .lss 25 (.tmp 14) (.const (.int .u64 1)) 25, _, _, _, some (8, false)⟩ (.bool true) rfl (by kernel_rfl) (fun _ _ _ => id) bl (fun W hSW => by have hv := H2; have hv2 := H2n; go_simp) ?_
 try simp only [pu, l0, l1, l2]
 refine tk 12 ⟨some 16, .pick (.tmp 12) (.const (.bool true)) (.tmp 15), _, _, _, none⟩ (.bool true) rfl (by kernel_rfl) (fun _ _ _ => id) bl (fun W hSW => by go_simp) ?_
 try simp only [pu, l0, l1, l2]
 refine tk 13 ⟨some 17, .move (.tmp 16), _, _, _, none⟩ (.bool true) rfl (by kernel_rfl) (fun _ _ _ => id) bl (fun W hSW => by go_simp) ?_
 try simp only [pu, l0, l1, l2]
 refine sk 14 ⟨some 18, .fieldAddr 39 (.tmp 1) 1, _, _, _, some (13, false)⟩ rfl (by kernel_rfl) (fun _ _ _ => id) bl ?_
 try simp only [pu, l0, l1, l2]
 refine sk 15 ⟨some 19, .load 25 (.tmp 18), _, _, _, some (13, false)⟩ rfl (by kernel_rfl) (fun _ _ _ => id) bl ?_
 try simp only [pu, l0, l1, l2]
 refine sk 16 ⟨some 20, .binOp .gtr 25 (.tmp 19) (.const (.int .u64 65536)) 25, _, _, _, some (13, false)⟩ rfl (by kernel_rfl) (fun _ _ _ => id) bl ?_
 try simp only [pu, l0, l1, l2]
 refine tk 17 ⟨some 21, .pick (.tmp 17) (.const (.bool true)) (.tmp 20), _, _, _, none⟩ (.bool true) rfl (by kernel_rfl) (fun _ _ _ => id) bl (fun W hSW => by go_simp) ?_
 try simp only [pu, l0, l1, l2]
 refine tk 18 ⟨some 22, .move (.tmp 21), _, _, _, none⟩ (.bool true) rfl (by kernel_rfl) (fun _ _ _ => id) bl (fun W hSW => by go_simp) ?_
 try simp only [pu, l0, l1, l2]
 refine sk 19 ⟨some 23, .fieldAddr 39 (.tmp 1) 0, _, _, _, some (18, false)⟩ rfl (by kernel_rfl) (fun _ _ _ => id) bl ?_
 try simp only [pu, l0, l1, l2]
 refine sk 20 ⟨some 24, .load 3 (.tmp 23), _, _, _, some (18, false)⟩ rfl (by kernel_rfl) (fun _ _ _ => id) bl ?_
 try simp only [pu, l0, l1, l2]
 refine sk 21 ⟨some 25, .binOp .sub 3 (.tmp 24) (.const (.int .i64 1)) 3, _, _, _, some (18, false)⟩ rfl (by kernel_rfl) (fun _ _ _ => id) bl ?_
 try simp only [pu, l0, l1, l2]
 refine sk 22 ⟨some 26, .fieldAddr 39 (.tmp 1) 2, _, _, _, some (18, false)⟩ rfl (by kernel_rfl) (fun _ _ _ => id) bl ?_
 try simp only [pu, l0, l1, l2]
 refine sk 23 ⟨some 27, .indexAddr 37 (.tmp 26) (.tmp 25), _, _, _, some (18, false)⟩ rfl (by kernel_rfl) (fun _ _ _ => id) bl ?_
 try simp only [pu, l0, l1, l2]
 refine sk 24 ⟨some 28, .load 25 (.tmp 27), _, _, _, some (18, false)⟩ rfl (by kernel_rfl) (fun _ _ _ => id) bl ?_
 try simp only [pu, l0, l1, l2]
 refine sk 25 ⟨some 29, .fieldAddr 39 (.tmp 1) 1, _, _, _, some (18, false)⟩ rfl (by kernel_rfl) (fun _ _ _ => id) bl ?_
 try simp only [pu, l0, l1, l2]
 refine sk 26 ⟨some 30, .load 25 (.tmp 29), _, _, _, some (18, false)⟩ rfl (by kernel_rfl) (fun _ _ _ => id) bl ?_
 try simp only [pu, l0, l1, l2]
 refine sk 27 ⟨some 31, .binOp .sub 25 (.tmp 30) (.const (.int .u64 1)) 25, _, _, _, some (18, false)⟩ rfl (by kernel_rfl) (fun _ _ _ => id) bl ?_
 try simp only [pu, l0, l1, l2]
 refine sk 28 ⟨some 32, .binOp .neq 25 (.tmp 28) (.tmp 31) 25, _, _, _, some (18, false)⟩ rfl (by kernel_rfl) (fun _ _ _ => id) bl ?_
 try simp only [pu, l0, l1, l2]
 refine tk 29 ⟨some 33, .pick (.tmp 22) (.const (.bool true)) (.tmp 32), _, _, _, none⟩ (.bool true) rfl (by kernel_rfl) (fun _ _ _ => id) bl (fun W hSW => by go_simp) ?_
 try simp only [pu, l0, l1, l2]
 refine wpAnyH_done (by kernel_rfl) ?_ _
 go_wp2_with fail
 go_ret
 exact ⟨rfl, iq HQ.out.2.1⟩
theorem mayr_3 (m : MMsg) (w : World) (hm : m.Wf) (H0 : ¬ (m.origin < 1)) (H1 : ¬ (m.origin > 11)) (H2 : ¬ ((m.number : Int) < 1)) (H2n : ¬ (m.number < 1)) (H3 : ((m.number : Int) > 65536)) (H3n : (65536 < m.number))  :
  Calls Tryz.prog 41 #[.agg (msgC m).toArray] w fun E w' => E = .returned (.bool (false)) /\ Hid (Below w.heap.size w w') := by
 have HM := iq hm
 clear hm
 go_enter Tryz.func41, Tryz.ntmps41
 go_wp2_with fail
 refine wp_region_any (by kernel_rfl) ?_
 change wpAny _ _ _ _ _ _ _ ((w.alloc (.cells (msgC m).toArray 39)).drewN 1)
 have HQ : Hid (MsgLies ((w.alloc (.cells (msgC m).toArray 39)).drewN 1) w.heap.size m /\ Below w.heap.size w ((w.alloc (.cells (msgC m).toArray 39)).drewN 1) /\ w.heap.size < ((w.alloc (.cells (msgC m).toArray 39)).drewN 1).heap.size) := iq ⟨msg_lies (range_box w (msgC m) 39) HM.out, below_drewN (bl.alloc (Nat.le_refl _) _) 1, by simp⟩
 generalize (w.alloc (.cells (msgC m).toArray 39)).drewN 1 = w3 at HQ ⊢
 refine wpAny_of_held (S := fun W => Below w3.heap.size w3 W) _ _ _ _ ?_
 refine tk 0 ⟨some 4, .fieldAddr 39 (.tmp 1) 0, _, _, _, none⟩ (.pointer (some ⟨w.heap.size, 0, none⟩)) rfl (by kernel_rfl) (fun _ _ _ => id) bl (fun W hSW => by go_simp) ?_
 try simp only [Act.put, l0, l1, l2]
 refine tk 1 ⟨some 5, .load 3 (.tmp 4), _, _, _, none⟩ (.int .i64 m.origin) rfl (by kernel_rfl) (fun _ _ _ => id) bl (fun W hSW => by have hv := (hSW.cell (p := ⟨w.heap.size, 0, none⟩) HQ.out.2.2).trans HQ.out.1.origin; go_simp) ?_
 try simp only [pu, l0, l1, l2]
 refine tk 2 ⟨some 6, .binOp .lss 3 (.tmp 5) (.const (.int .i64 1)) 3, _, _, _, none⟩ (.bool false) rfl (by kernel_rfl) (fun _ _ _ => id) bl (fun W hSW => by have hv := H0; go_simp) ?_
 try simp only [pu, l0, l1, l2]
 refine tk 3 ⟨some 7, .move (.tmp 6), _, _, _, none⟩ (.bool false) rfl (by kernel_rfl) (fun _ _ _ => id) bl (fun W hSW => by go_simp) ?_
 try simp only [pu, l0, l1, l2]
 refine tk 4 ⟨some 8, .fieldAddr 39 (.tmp 1) 0, _, _, _, some (3, false)⟩ (.pointer (some ⟨w.heap.size, 0, none⟩)) rfl (by kernel_rfl) (fun _ _ _ => id) bl (fun W hSW => by go_simp) ?_
 try simp only [pu, l0, l1, l2]
 refine tk 5 ⟨some 9, .load 3 (.tmp 8), _, _, _, some (3, false)⟩ (.int .i64 m.origin) rfl (by kernel_rfl) (fun _ _ _ => id) bl (fun W hSW => by have hv := (hSW.cell (p := ⟨w.heap.size, 0, none⟩) HQ.out.2.2).trans HQ.out.1.origin; go_simp) ?_
 try simp only [pu, l0, l1, l2]
 refine tk 6 ⟨some 10, .binOp .gtr 3 (.tmp 9) (.const (.int .i64 11)) 3, _, _, _, some (3, false)⟩ (.bool false) rfl (by kernel_rfl) (fun _ _ _ => id) bl (fun W hSW => by have hv := H1; go_simp) ?_
 try simp only [pu, l0, l1, l2]
 refine tk 7 ⟨some 11, .pick (.tmp 7) (.const (.bool true)) (.tmp 10), _, _, _, none⟩ (.bool false) rfl (by kernel_rfl) (fun _ _ _ => id) bl (fun W hSW => by go_simp) ?_
 try simp only [pu, l0, l1, l2]
 refine tk 8 ⟨some 12, .move (.tmp 11), _, _, _, none⟩ (.bool false) rfl (by kernel_rfl) (fun _ _ _ => id) bl (fun W hSW => by go_simp) ?_
 try simp only [pu, l0, l1, l2]
 refine tk 9 ⟨some 13, .fieldAddr 39 (.tmp 1) 1, _, _, _, some (8, false)⟩ (.pointer (some ⟨w.heap.size, 1, none⟩)) rfl (by kernel_rfl) (fun _ _ _ => id) bl (fun W hSW => by go_simp) ?_
 try simp only [pu, l0, l1, l2]
 refine tk 10 ⟨some 14, .load 25 (.tmp 13), _, _, _, some (8, false)⟩ (.int .u64 (m.number : Int)) rfl (by kernel_rfl) (fun _ _ _ => id) bl (fun W hSW => by have hv := (hSW.cell (p := ⟨w.heap.size, 1, none⟩) HQ.out.2.2).trans HQ.out.1.number; go_simp) ?_
 try simp only [pu, l0, l1, l2]
 refine tk 11 ⟨some 15, .binOp .lss 25 (.tmp 14) (.const (.int .u64 1)) 25, _, _, _, some (8, false)⟩ (.bool false) rfl (by kernel_rfl) (fun _ _ _ => id) bl (fun W hSW => by have hv := H2; have hv2 := H2n; go_simp) ?_
 try simp only [pu, l0, l1, l2]
 refine tk 12 ⟨some 16, .pick (.tmp 12) (.const (.bool true)) (.tmp 15), _, _, _, none⟩ (.bool false) rfl (by kernel_rfl) (fun _ _ _ => id) bl (fun W hSW => by go_simp) ?_
 try simp only [pu, l0, l1, l2]
 refine tk 13 ⟨some 17, .move (.tmp 16), _, _, _, none⟩ (.bool false) rfl (by kernel_rfl) (fun _ _ _ => id) bl (fun W hSW => by go_simp) ?_
 try simp only [pu, l0, l1, l2]
 refine tk 14 ⟨some 18, .fieldAddr 39 (.tmp 1) 1, _, _, _, some (13, false)⟩ (.pointer (some ⟨w.heap.size, 1, none⟩)) rfl (by kernel_rfl) (fun _ _ _ => id) bl (fun W hSW => by go_simp) ?_
 try simp only [pu, l0, l1, l2]
 refine tk 15 ⟨some 19, .load 25 (.tmp 18), _, _, _, some (13, false)⟩ (.int .u64 (m.number : Int)) rfl (by kernel_rfl) (fun _ _ _ => id) bl (fun W hSW => by have hv := (hSW.cell (p := ⟨w.heap.size, 1, none⟩) HQ.out.2.2).trans HQ.out.1.number; go_simp) ?_
 try simp only [pu, l0, l1, l2]
 refine tk 16 ⟨some 20, .binOp .gtr 25 (.tmp 19) (.const (.int .u64 65536)) 25, _, _, _, some (13, false)⟩ (.bool true) rfl (by kernel_rfl) (fun _ _ _ => id) bl (fun W hSW => by have hv := H3; have hv2 := H3n; go_simp) ?_
 try simp only [pu, l0, l1, l2]
 refine tk 17 ⟨some 21, .pick (.tmp 17) (.const (.bool true)) (.tmp 20), _, _, _, none⟩ (.bool true) rfl (by kernel_rfl) (fun _ _ _ => id) bl (fun W hSW => by go_simp) ?_
 try simp only [pu, l0, l1, l2]
 refine tk 18 ⟨some 22, .move (.tmp 21), _, _, _, none⟩ (.bool true) rfl (by kernel_rfl) (fun _ _ _ => id) bl (fun W hSW => by go_simp) ?_
 try simp only [pu, l0, l1, l2]
 refine sk 19 ⟨some 23, .fieldAddr 39 (.tmp 1) 0, _, _, _, some (18, false)⟩ rfl (by kernel_rfl) (fun _ _ _ => id) bl ?_
 try simp only [pu, l0, l1, l2]
 refine sk 20 ⟨some 24, .load 3 (.tmp 23), _, _, _, some (18, false)⟩ rfl (by kernel_rfl) (fun _ _ _ => id) bl ?_
 try simp only [pu, l0, l1, l2]
 refine sk 21 ⟨some 25, .binOp .sub 3 (.tmp 24) (.const (.int .i64 1)) 3, _, _, _, some (18, false)⟩ rfl (by kernel_rfl) (fun _ _ _ => id) bl ?_
 try simp only [pu, l0, l1, l2]
 refine sk 22 ⟨some 26, .fieldAddr 39 (.tmp 1) 2, _, _, _, some (18, false)⟩ rfl (by kernel_rfl) (fun _ _ _ => id) bl ?_
 try simp only [pu, l0, l1, l2]
 refine sk 23 ⟨some 27, .indexAddr 37 (.tmp 26) (.tmp 25), _, _, _, some (18, false)⟩ rfl (by kernel_rfl) (fun _ _ _ => id) bl ?_
 try simp only [pu, l0, l1, l2]
 refine sk 24 ⟨some 28, .load 25 (.tmp 27), _, _, _, some (18, false)⟩ rfl (by kernel_rfl) (fun _ _ _ => id) bl ?_
 try simp only [pu, l0, l1, l2]
 refine sk 25 ⟨some 29, .fieldAddr 39 (.tmp 1) 1, _, _, _, some (18, false)⟩ rfl (by kernel_rfl) (fun _ _ _ => id) bl ?_
 try simp only [pu, l0, l1, l2]
 refine sk 26 ⟨some 30, .load 25 (.tmp 29), _, _, _, some (18, false)⟩ rfl (by kernel_rfl) (fun _ _ _ => id) bl ?_
 try simp only [pu, l0, l1, l2]
 refine sk 27 ⟨some 31, .binOp .sub 25 (.tmp 30) (.const (.int .u64 1)) 25, _, _, _, some (18, false)⟩ rfl (by kernel_rfl) (fun _ _ _ => id) bl ?_
 try simp only [pu, l0, l1, l2]
 refine sk 28 ⟨some 32, .binOp .neq 25 (.tmp 28) (.tmp 31) 25, _, _, _, some (18, false)⟩ rfl (by kernel_rfl) (fun _ _ _ => id) bl ?_
 try simp only [pu, l0, l1, l2]
 refine tk 29 ⟨some 33, .pick (.tmp 22) (.const (.bool true)) (.tmp 32), _, _, _, none⟩ (.bool true) rfl (by kernel_rfl) (fun _ _ _ => id) bl (fun W hSW => by go_simp) ?_
 try simp only [pu, l0, l1, l2]
 refine wpAnyH_done (by kernel_rfl) ?_ _
 go_wp2_with fail
 go_ret
 exact ⟨rfl, iq HQ.out.2.1⟩
theorem mayr_4 (m : MMsg) (i d : Nat) (w : World) (hm : m.Wf) (H0 : ¬ (m.origin < 1)) (H1 : ¬ (m.origin > 11)) (H2 : ¬ ((m.number : Int) < 1)) (H2n : ¬ (m.number < 1)) (H3 : ¬ ((m.number : Int) > 65536)) (H3n : ¬ (65536 < m.number)) (ho : m.origin = (i : Int) + 1) (hi : i < 11) (hd : m.deps[i]? = some d) (HE : ¬ ((d : Int) = ((m.number - 1 : Nat) : Int))) :
  Calls Tryz.prog 41 #[.agg (msgC m).toArray] w fun E w' => E = .returned (.bool (false)) /\ Hid (Below w.heap.size w w') := by
 have HM := iq hm
 have HD : Hid ((u64s m.deps)[i]? = some (.int .u64 (d : Int))) := iq (by simp [u64s, hd])
 have HI : Hid (IntKind.i64.wrap (m.origin - 1) = (i : Int) /\ i < 11) := iq ⟨by rw [IntKind.wrap_i64]; omega, hi⟩
 have HU : Hid (IntKind.u64.wrap ((m.number : Int) - 1) = ((m.number - 1 : Nat) : Int)) := iq (by unfold IntKind.wrap; simp [IntKind.bits, IntKind.signed]; omega)
 clear hm ho hi hd
 go_enter Tryz.func41, Tryz.ntmps41
 go_wp2_with fail
 refine wp_region_any (by kernel_rfl) ?_
 change wpAny _ _ _ _ _ _ _ ((w.alloc (.cells (msgC m).toArray 39)).drewN 1)
 have HQ : Hid (MsgLies ((w.alloc (.cells (msgC m).toArray 39)).drewN 1) w.heap.size m /\ Below w.heap.size w ((w.alloc (.cells (msgC m).toArray 39)).drewN 1) /\ w.heap.size < ((w.alloc (.cells (msgC m).toArray 39)).drewN 1).heap.size) := iq ⟨msg_lies (range_box w (msgC m) 39) HM.out, below_drewN (bl.alloc (Nat.le_refl _) _) 1, by simp⟩
 generalize (w.alloc (.cells (msgC m).toArray 39)).drewN 1 = w3 at HQ ⊢
 refine wpAny_of_held (S := fun W => Below w3.heap.size w3 W) _ _ _ _ ?_
 refine tk 0 ⟨some 4, .fieldAddr 39 (.tmp 1) 0, _, _, _, none⟩ (.pointer (some ⟨w.heap.size, 0, none⟩)) rfl (by kernel_rfl) (fun _ _ _ => id) bl (fun W hSW => by go_simp) ?_
 try simp only [Act.put, l0, l1, l2]
 refine tk 1 ⟨some 5, .load 3 (.tmp 4), _, _, _, none⟩ (.int .i64 m.origin) rfl (by kernel_rfl) (fun _ _ _ => id) bl (fun W hSW => by have hv := (hSW.cell (p := ⟨w.heap.size, 0, none⟩) HQ.out.2.2).trans HQ.out.1.origin; go_simp) ?_
 try simp only [pu, l0, l1, l2]
 refine tk 2 ⟨some 6, .binOp .lss 3 (.tmp 5) (.const (.int .i64 1)) 3, _, _, _, none⟩ (.bool false) rfl (by kernel_rfl) (fun _ _ _ => id) bl (fun W hSW => by have hv := H0; go_simp) ?_
 try simp only [pu, l0, l1, l2]
 refine tk 3 ⟨some 7, .move (.tmp 6), _, _, _, none⟩ (.bool false) rfl (by kernel_rfl) (fun _ _ _ => id) bl (fun W hSW => by go_simp) ?_
 try simp only [pu, l0, l1, l2]
 refine tk 4 ⟨some 8, .fieldAddr 39 (.tmp 1) 0, _, _, _, some (3, false)⟩ (.pointer (some ⟨w.heap.size, 0, none⟩)) rfl (by kernel_rfl) (fun _ _ _ => id) bl (fun W hSW => by go_simp) ?_
 try simp only [pu, l0, l1, l2]
 refine tk 5 ⟨some 9, .load 3 (.tmp 8), _, _, _, some (3, false)⟩ (.int .i64 m.origin) rfl (by kernel_rfl) (fun _ _ _ => id) bl (fun W hSW => by have hv := (hSW.cell (p := ⟨w.heap.size, 0, none⟩) HQ.out.2.2).trans HQ.out.1.origin; go_simp) ?_
 try simp only [pu, l0, l1, l2]
 refine tk 6 ⟨some 10, .binOp .gtr 3 (.tmp 9) (.const (.int .i64 11)) 3, _, _, _, some (3, false)⟩ (.bool false) rfl (by kernel_rfl) (fun _ _ _ => id) bl (fun W hSW => by have hv := H1; go_simp) ?_
 try simp only [pu, l0, l1, l2]
 refine tk 7 ⟨some 11, .pick (.tmp 7) (.const (.bool true)) (.tmp 10), _, _, _, none⟩ (.bool false) rfl (by kernel_rfl) (fun _ _ _ => id) bl (fun W hSW => by go_simp) ?_
 try simp only [pu, l0, l1, l2]
 refine tk 8 ⟨some 12, .move (.tmp 11), _, _, _, none⟩ (.bool false) rfl (by kernel_rfl) (fun _ _ _ => id) bl (fun W hSW => by go_simp) ?_
 try simp only [pu, l0, l1, l2]
 refine tk 9 ⟨some 13, .fieldAddr 39 (.tmp 1) 1, _, _, _, some (8, false)⟩ (.pointer (some ⟨w.heap.size, 1, none⟩)) rfl (by kernel_rfl) (fun _ _ _ => id) bl (fun W hSW => by go_simp) ?_
 try simp only [pu, l0, l1, l2]
 refine tk 10 ⟨some 14, .load 25 (.tmp 13), _, _, _, some (8, false)⟩ (.int .u64 (m.number : Int)) rfl (by kernel_rfl) (fun _ _ _ => id) bl (fun W hSW => by have hv := (hSW.cell (p := ⟨w.heap.size, 1, none⟩) HQ.out.2.2).trans HQ.out.1.number; go_simp) ?_
 try simp only [pu, l0, l1, l2]
 refine tk 11 ⟨some 15, .binOp .lss 25 (.tmp 14) (.const (.int .u64 1)) 25, _, _, _, some (8, false)⟩ (.bool false) rfl (by kernel_rfl) (fun _ _ _ => id) bl (fun W hSW => by have hv := H2; have hv2 := H2n; go_simp) ?_
 try simp only [pu, l0, l1, l2]
 refine tk 12 ⟨some 16, .pick (.tmp 12) (.const (.bool true)) (.tmp 15), _, _, _, none⟩ (.bool false) rfl (by kernel_rfl) (fun _ _ _ => id) bl (fun W hSW => by go_simp) ?_
 try simp only [pu, l0, l1, l2]
 refine tk 13 ⟨some 17, .move (.tmp 16), _, _, _, none⟩ (.bool false) rfl (by kernel_rfl) (fun _ _ _ => id) bl (fun W hSW => by go_simp) ?_
 try simp only [pu, l0, l1, l2]
 refine tk 14 ⟨some 18, .fieldAddr 39 (.tmp 1) 1, _, _, _, some (13, false)⟩ (.pointer (some ⟨w.heap.size, 1, none⟩)) rfl (by kernel_rfl) (fun _ _ _ => id) bl (fun W hSW => by go_simp) ?_
 try simp only [pu, l0, l1, l2]
 refine tk 15 ⟨some 19, .load 25 (.tmp 18), _, _, _, some (13, false)⟩ (.int .u64 (m.number : Int)) rfl (by kernel_rfl) (fun _ _ _ => id) bl (fun W hSW => by have hv := (hSW.cell (p := ⟨w.heap.size, 1, none⟩) HQ.out.2.2).trans HQ.out.1.number; go_simp) ?_
 try simp only [pu, l0, l1, l2]
 refine tk 16 ⟨some 20, .binOp .gtr 25 (.tmp 19) (.const (.int .u64 65536)) 25, _, _, _, some (13, false)⟩ (.bool false) rfl (by kernel_rfl) (fun _ _ _ => id) bl (fun W hSW => by have hv := H3; have hv2 := H3n; go_simp) ?_
 try simp only [pu, l0, l1, l2]
 refine tk 17 ⟨some 21, .pick (.tmp 17) (.const (.bool true)) (.tmp 20), _, _, _, none⟩ (.bool false) rfl (by kernel_rfl) (fun _ _ _ => id) bl (fun W hSW => by go_simp) ?_
 try simp only [pu, l0, l1, l2]
 refine tk 18 ⟨some 22, .move (.tmp 21), _, _, _, none⟩ (.bool false) rfl (by kernel_rfl) (fun _ _ _ => id) bl (fun W hSW => by go_simp) ?_
 try simp only [pu, l0, l1, l2]
 refine tk 19 ⟨some 23, .fieldAddr 39 (.tmp 1) 0, _, _, _, some (18, false)⟩ (.pointer (some ⟨w.heap.size, 0, none⟩)) rfl (by kernel_rfl) (fun _ _ _ => id) bl (fun W hSW => by go_simp) ?_
 try simp only [pu, l0, l1, l2]
 refine tk 20 ⟨some 24, .load 3 (.tmp 23), _, _, _, some (18, false)⟩ (.int .i64 m.origin) rfl (by kernel_rfl) (fun _ _ _ => id) bl (fun W hSW => by have hv := (hSW.cell (p := ⟨w.heap.size, 0, none⟩) HQ.out.2.2).trans HQ.out.1.origin; go_simp) ?_
 try simp only [pu, l0, l1, l2]
 refine tk 21 ⟨some 25, .binOp .sub 3 (.tmp 24) (.const (.int .i64 1)) 3, _, _, _, some (18, false)⟩ (.int .i64 (i : Int)) rfl (by kernel_rfl) (fun _ _ _ => id) bl (fun W hSW => by have hv := HI.out.1; go_simp) ?_
 try simp only [pu, l0, l1, l2]
 refine tk 22 ⟨some 26, .fieldAddr 39 (.tmp 1) 2, _, _, _, some (18, false)⟩ (.pointer (some ⟨w.heap.size, 2, none⟩)) rfl (by kernel_rfl) (fun _ _ _ => id) bl (fun W hSW => by go_simp) ?_
 try simp only [pu, l0, l1, l2]
 refine tk 23 ⟨some 27, .indexAddr 37 (.tmp 26) (.tmp 25), _, _, _, some (18, false)⟩ (.pointer (some ⟨w.heap.size, 2 + i, none⟩)) rfl (by kernel_rfl) (fun _ _ _ => id) bl (fun W hSW => by have hv : ¬ (11 <= (i : Int)) := (by have := HI.out.2; omega); go_simp) ?_
 try simp only [pu, l0, l1, l2]
 refine tk 24 ⟨some 28, .load 25 (.tmp 27), _, _, _, some (18, false)⟩ (.int .u64 (d : Int)) rfl (by kernel_rfl) (fun _ _ _ => id) bl (fun W hSW => by have hv := (hSW.cell (p := ⟨w.heap.size, 2 + i, none⟩) HQ.out.2.2).trans (HQ.out.1.deps i _ HD.out); go_simp) ?_
 try simp only [pu, l0, l1, l2]
 refine tk 25 ⟨some 29, .fieldAddr 39 (.tmp 1) 1, _, _, _, some (18, false)⟩ (.pointer (some ⟨w.heap.size, 1, none⟩)) rfl (by kernel_rfl) (fun _ _ _ => id) bl (fun W hSW => by go_simp) ?_
 try simp only [pu, l0, l1, l2]
 refine tk 26 ⟨some 30, .load 25 (.tmp 29), _, _, _, some (18, false)⟩ (.int .u64 (m.number : Int)) rfl (by kernel_rfl) (fun _ _ _ => id) bl (fun W hSW => by have hv := (hSW.cell (p := ⟨w.heap.size, 1, none⟩) HQ.out.2.2).trans HQ.out.1.number; go_simp) ?_
 try simp only [pu, l0, l1, l2]
 refine tk 27 ⟨some 31, .binOp .sub 25 (.tmp 30) (.const (.int .u64 1)) 25, _, _, _, some (18, false)⟩ (.int .u64 ((m.number - 1 : Nat) : Int)) rfl (by kernel_rfl) (fun _ _ _ => id) bl (fun W hSW => by have hv := HU.out; go_simp) ?_
 try simp only [pu, l0, l1, l2]
 refine tk 28 ⟨some 32, .binOp .neq 25 (.tmp 28) (.tmp 31) 25, _, _, _, some (18, false)⟩ (.bool true) rfl (by kernel_rfl) (fun _ _ _ => id) bl (fun W hSW => by have hv := HE; go_simp) ?_
 try simp only [pu, l0, l1, l2]
 refine tk 29 ⟨some 33, .pick (.tmp 22) (.const (.bool true)) (.tmp 32), _, _, _, none⟩ (.bool true) rfl (by kernel_rfl) (fun _ _ _ => id) bl (fun W hSW => by go_simp) ?_
 try simp only [pu, l0, l1, l2]
 refine wpAnyH_done (by kernel_rfl) ?_ _
 go_wp2_with fail
 go_ret
 exact ⟨rfl, iq HQ.out.2.1⟩
theorem mayr_5 (m : MMsg) (i d : Nat) (z : Bool) (w : World) (hm : m.Wf) (H0 : ¬ (m.origin < 1)) (H1 : ¬ (m.origin > 11)) (H2 : ¬ ((m.number : Int) < 1)) (H2n : ¬ (m.number < 1)) (H3 : ¬ ((m.number : Int) > 65536)) (H3n : ¬ (65536 < m.number)) (ho : m.origin = (i : Int) + 1) (hi : i < 11) (hd : m.deps[i]? = some d) (HE : (d : Int) = ((m.number - 1 : Nat) : Int)) (HB : Hid (∀ W, Below w.heap.size w W -> Calls Tryz.prog 70 #[.agg (bodyC m.body).toArray] W fun E w' => E = .returned (.bool z) /\ Hid (Below W.heap.size W w'))) :
  Calls Tryz.prog 41 #[.agg (msgC m).toArray] w fun E w' => E = .returned (.bool (decide (∀ x ∈ m.deps, x <= 65536) && z)) /\ Hid (Below w.heap.size w w') := by
 have HM := iq hm
 have HD : Hid ((u64s m.deps)[i]? = some (.int .u64 (d : Int))) := iq (by simp [u64s, hd])
 have HI : Hid (IntKind.i64.wrap (m.origin - 1) = (i : Int) /\ i < 11) := iq ⟨by rw [IntKind.wrap_i64]; omega, hi⟩
 have HU : Hid (IntKind.u64.wrap ((m.number : Int) - 1) = ((m.number - 1 : Nat) : Int)) := iq (by unfold IntKind.wrap; simp [IntKind.bits, IntKind.signed]; omega)
 have HL11 := iq hm.1
 have HJ : Hid ((Tryz.prog.info? 35).map (·.size) = some (bodyC m.body).length) := iq (by rw [bodyC_length hm.2.1]; exact Tryz.is35)
 clear hm ho hi hd
 go_enter Tryz.func41, Tryz.ntmps41
 go_wp2_with fail
 refine wp_region_any (by kernel_rfl) ?_
 change wpAny _ _ _ _ _ _ _ ((w.alloc (.cells (msgC m).toArray 39)).drewN 1)
 have HQ : Hid (MsgLies ((w.alloc (.cells (msgC m).toArray 39)).drewN 1) w.heap.size m /\ Below w.heap.size w ((w.alloc (.cells (msgC m).toArray 39)).drewN 1) /\ w.heap.size < ((w.alloc (.cells (msgC m).toArray 39)).drewN 1).heap.size) := iq ⟨msg_lies (range_box w (msgC m) 39) HM.out, below_drewN (bl.alloc (Nat.le_refl _) _) 1, by simp⟩
 generalize (w.alloc (.cells (msgC m).toArray 39)).drewN 1 = w3 at HQ ⊢
 refine wpAny_of_held (S := fun W => Below w3.heap.size w3 W) _ _ _ _ ?_
 refine tk 0 ⟨some 4, .fieldAddr 39 (.tmp 1) 0, _, _, _, none⟩ (.pointer (some ⟨w.heap.size, 0, none⟩)) rfl (by kernel_rfl) (fun _ _ _ => id) bl (fun W hSW => by go_simp) ?_
 try simp only [Act.put, l0, l1, l2]
 refine tk 1 ⟨some 5, .load 3 (.tmp 4), _, _, _, none⟩ (.int .i64 m.origin) rfl (by kernel_rfl) (fun _ _ _ => id) bl (fun W hSW => by have hv := (hSW.cell (p := ⟨w.heap.size, 0, none⟩) HQ.out.2.2).trans HQ.out.1.origin; go_simp) ?_
 try simp only [pu, l0, l1, l2]
 refine tk 2 ⟨some 6, .binOp .lss 3 (.tmp 5) (.const (.int .i64 1)) 3, _, _, _, none⟩ (.bool false) rfl (by kernel_rfl) (fun _ _ _ => id) bl (fun W hSW => by have hv := H0; go_simp) ?_
 try simp only [pu, l0, l1, l2]
 refine tk 3 ⟨some 7, .move (.tmp 6), _, _, _, none⟩ (.bool false) rfl (by kernel_rfl) (fun _ _ _ => id) bl (fun W hSW => by go_simp) ?_
 try simp only [pu, l0, l1, l2]
 refine tk 4 ⟨some 8, .fieldAddr 39 (.tmp 1) 0, _, _, _, some (3, false)⟩ (.pointer (some ⟨w.heap.size, 0, none⟩)) rfl (by kernel_rfl) (fun _ _ _ => id) bl (fun W hSW => by go_simp) ?_
 try simp only [pu, l0, l1, l2]
 refine tk 5 ⟨some 9, .load 3 (.tmp 8), _, _, _, some (3, false)⟩ (.int .i64 m.origin) rfl (by kernel_rfl) (fun _ _ _ => id) bl (fun W hSW => by have hv := (hSW.cell (p := ⟨w.heap.size, 0, none⟩) HQ.out.2.2).trans HQ.out.1.origin; go_simp) ?_
 try simp only [pu, l0, l1, l2]
 refine tk 6 ⟨some 10, .binOp .gtr 3 (.tmp 9) (.const (.int .i64 11)) 3, _, _, _, some (3, false)⟩ (.bool false) rfl (by kernel_rfl) (fun _ _ _ => id) bl (fun W hSW => by have hv := H1; go_simp) ?_
 try simp only [pu, l0, l1, l2]
 refine tk 7 ⟨some 11, .pick (.tmp 7) (.const (.bool true)) (.tmp 10), _, _, _, none⟩ (.bool false) rfl (by kernel_rfl) (fun _ _ _ => id) bl (fun W hSW => by go_simp) ?_
 try simp only [pu, l0, l1, l2]
 refine tk 8 ⟨some 12, .move (.tmp 11), _, _, _, none⟩ (.bool false) rfl (by kernel_rfl) (fun _ _ _ => id) bl (fun W hSW => by go_simp) ?_
 try simp only [pu, l0, l1, l2]
 refine tk 9 ⟨some 13, .fieldAddr 39 (.tmp 1) 1, _, _, _, some (8, false)⟩ (.pointer (some ⟨w.heap.size, 1, none⟩)) rfl (by kernel_rfl) (fun _ _ _ => id) bl (fun W hSW => by go_simp) ?_
 try simp only [pu, l0, l1, l2]
 refine tk 10 ⟨some 14, .load 25 (.tmp 13), _, _, _, some (8, false)⟩ (.int .u64 (m.number : Int)) rfl (by kernel_rfl) (fun _ _ _ => id) bl (fun W hSW => by have hv := (hSW.cell (p := ⟨w.heap.size, 1, none⟩) HQ.out.2.2).trans HQ.out.1.number; go_simp) ?_
 try simp only [pu, l0, l1, l2]
 refine tk 11 ⟨some 15, .binOp .lss 25 (.tmp 14) (.const (.int .u64 1)) 25, _, _, _, some (8, false)⟩ (.bool false) rfl (by kernel_rfl) (fun _ _ _ => id) bl (fun W hSW => by have hv := H2; have hv2 := H2n; go_simp) ?_
 try simp only [pu, l0, l1, l2]
 refine tk 12 ⟨some 16, .pick (.tmp 12) (.const (.bool true)) (.tmp 15), _, _, _, none⟩ (.bool false) rfl (by kernel_rfl) (fun _ _ _ => id) bl (fun W hSW => by go_simp) ?_
 try simp only [pu, l0, l1, l2]
 refine tk 13 ⟨some 17, .move (.tmp 16), _, _, _, none⟩ (.bool false) rfl (by kernel_rfl) (fun _ _ _ => id) bl (fun W hSW => by go_simp) ?_
 try simp only [pu, l0, l1, l2]
 refine tk 14 ⟨some 18, .fieldAddr 39 (.tmp 1) 1, _, _, _, some (13, false)⟩ (.pointer (some ⟨w.heap.size, 1, none⟩)) rfl (by kernel_rfl) (fun _ _ _ => id) bl (fun W hSW => by go_simp) ?_
 try simp only [pu, l0, l1, l2]
 refine tk 15 ⟨some 19, .load 25 (.tmp 18), _, _, _, some (13, false)⟩ (.int .u64 (m.number : Int)) rfl (by kernel_rfl) (fun _ _ _ => id) bl (fun W hSW => by have hv := (hSW.cell (p := ⟨w.heap.size, 1, none⟩) HQ.out.2.2).trans HQ.out.1.number; go_simp) ?_
 try simp only [pu, l0, l1, l2]
 refine tk 16 ⟨some 20, .binOp .gtr 25 (.tmp 19) (.const (.int .u64 65536)) 25, _, _, _, some (13, false)⟩ (.bool false) rfl (by kernel_rfl) (fun _ _ _ => id) bl (fun W hSW => by have hv := H3; have hv2 := H3n; go_simp) ?_
 try simp only [pu, l0, l1, l2]
 refine tk 17 ⟨some 21, .pick (.tmp 17) (.const (.bool true)) (.tmp 20), _, _, _, none⟩ (.bool false) rfl (by kernel_rfl) (fun _ _ _ => id) bl (fun W hSW => by go_simp) ?_
 try simp only [pu, l0, l1, l2]
 refine tk 18 ⟨some 22, .move (.tmp 21), _, _, _, none⟩ (.bool false) rfl (by kernel_rfl) (fun _ _ _ => id) bl (fun W hSW => by go_simp) ?_
 try simp only [pu, l0, l1, l2]
 refine tk 19 ⟨some 23, .fieldAddr 39 (.tmp 1) 0, _, _, _, some (18, false)⟩ (.pointer (some ⟨w.heap.size, 0, none⟩)) rfl (by kernel_rfl) (fun _ _ _ => id) bl (fun W hSW => by go_simp) ?_
 try simp only [pu, l0, l1, l2]
 refine tk 20 ⟨some 24, .load 3 (.tmp 23), _, _, _, some (18, false)⟩ (.int .i64 m.origin) rfl (by kernel_rfl) (fun _ _ _ => id) bl (fun W hSW => by have hv := (hSW.cell (p := ⟨w.heap.size, 0, none⟩) HQ.out.2.2).trans HQ.out.1.origin; go_simp) ?_
 try simp only [pu, l0, l1, l2]
 refine tk 21 ⟨some 25, .binOp .sub 3 (.tmp 24) (.const (.int .i64 1)) 3, _, _, _, some (18, false)⟩ (.int .i64 (i : Int)) rfl (by kernel_rfl) (fun _ _ _ => id) bl (fun W hSW => by have hv := HI.out.1; go_simp) ?_
 try simp only [pu, l0, l1, l2]
 refine tk 22 ⟨some 26, .fieldAddr 39 (.tmp 1) 2, _, _, _, some (18, false)⟩ (.pointer (some ⟨w.heap.size, 2, none⟩)) rfl (by kernel_rfl) (fun _ _ _ => id) bl (fun W hSW => by go_simp) ?_
 try simp only [pu, l0, l1, l2]
 refine tk 23 ⟨some 27, .indexAddr 37 (.tmp 26) (.tmp 25), _, _, _, some (18, false)⟩ (.pointer (some ⟨w.heap.size, 2 + i, none⟩)) rfl (by kernel_rfl) (fun _ _ _ => id) bl (fun W hSW => by have hv : ¬ (11 <= (i : Int)) := (by have := HI.out.2; omega); go_simp) ?_
 try simp only [pu, l0, l1, l2]
 refine tk 24 ⟨some 28, .load 25 (.tmp 27), _, _, _, some (18, false)⟩ (.int .u64 (d : Int)) rfl (by kernel_rfl) (fun _ _ _ => id) bl (fun W hSW => by have hv := (hSW.cell (p := ⟨w.heap.size, 2 + i, none⟩) HQ.out.2.2).trans (HQ.out.1.deps i _ HD.out); go_simp) ?_
 try simp only [pu, l0, l1, l2]
 refine tk 25 ⟨some 29, .fieldAddr 39 (.tmp 1) 1, _, _, _, some (18, false)⟩ (.pointer (some ⟨w.heap.size, 1, none⟩)) rfl (by kernel_rfl) (fun _ _ _ => id) bl (fun W hSW => by go_simp) ?_
 try simp only [pu, l0, l1, l2]
 refine tk 26 ⟨some 30, .load 25 (.tmp 29), _, _, _, some (18, false)⟩ (.int .u64 (m.number : Int)) rfl (by kernel_rfl) (fun _ _ _ => id) bl (fun W hSW => by have hv := (hSW.cell (p := ⟨w.heap.size, 1, none⟩) HQ.out.2.2).trans HQ.out.1.number; go_simp) ?_
 try simp only [pu, l0, l1, l2]
 refine tk 27 ⟨some 31, .binOp .sub 25 (.tmp 30) (.const (.int .u64 1)) 25, _, _, _, some (18, false)⟩ (.int .u64 ((m.number - 1 : Nat) : Int)) rfl (by kernel_rfl) (fun _ _ _ => id) bl (fun W hSW => by have hv := HU.out; go_simp) ?_
 try simp only [pu, l0, l1, l2]
 refine tk 28 ⟨some 32, .binOp .neq 25 (.tmp 28) (.tmp 31) 25, _, _, _, some (18, false)⟩ (.bool false) rfl (by kernel_rfl) (fun _ _ _ => id) bl (fun W hSW => by have hv := HE; go_simp) ?_
 try simp only [pu, l0, l1, l2]
 refine tk 29 ⟨some 33, .pick (.tmp 22) (.const (.bool true)) (.tmp 32), _, _, _, none⟩ (.bool false) rfl (by kernel_rfl) (fun _ _ _ => id) bl (fun W hSW => by go_simp) ?_
 try simp only [pu, l0, l1, l2]
 refine wpAnyH_done (by kernel_rfl) ?_ _
 clear H0 H1 H2 H2n H3 H3n HE HD HI HU
 go_wp2_with fail
 go_loop [3] (fun v3 => ∃ j : Nat, j <= 11 /\ v3 = .int .i64 (j : Int) /\ Hid (∀ x ∈ m.deps.take j, x <= 65536)) (fun v3 => 11 - (intOf v3).toNat)
 case atStart => exact ⟨0, by omega, rfl, iq (by simp)⟩
 case round =>
  obtain ⟨j, hj, rfl, HA⟩ := hrel
  by_cases hjj : j < 11
  ·obtain ⟨x, hx⟩ : ∃ x, m.deps[j]? = some x := ⟨_, List.getElem?_eq_getElem (by rw [HL11.out]; exact hjj)⟩
   have cx : w3.cell? ⟨w.heap.size, 2 + j, none⟩ = some (.int .u64 (x : Int)) := HQ.out.1.deps j _ (by simp [u64s, hx])
   have HX := iq hx
   clear hx
   by_cases hle : (x : Int) > 65536
   ·have hln : 65536 < x := by omega
    have HZ : Hid (¬ ∀ y ∈ m.deps, y <= 65536) := iq fun h => by
      have := h x (List.mem_of_getElem? HX.out)
      omega
    go_wp2_with fail
    go_ret
    exact ⟨ret_bool (by rw [decide_eq_false HZ.out, Bool.false_and]), iq HQ.out.2.1⟩
   ·have hln : ¬ (65536 < x) := by omega
    have HZ : Hid (x <= 65536) := iq (by omega)
    go_wp2_with fail
    go_round
    case measure => simp [intOf] <;> omega
    case rel => exact ⟨j + 1, by omega, by go_num, iq fun y hy => by
       rw [List.take_add_one, HX.out] at hy
       rcases List.mem_append.1 hy with h | h
       ·exact HA.out y h
       ·have : y = x := by simpa using h
        rw [this]
        exact HZ.out⟩
  ·obtain rfl : j = 11 := by omega
   have HZ : Hid (∀ y ∈ m.deps, y <= 65536) := iq fun y hy => HA.out y (by rw [List.take_of_length_le (by rw [HL11.out]; exact Nat.le_refl _)]; exact hy)
   go_wp2_with (first | ((with_reducible refine wpList_load_midG ?_ 35 (.tmp 43) ?_ w.heap.size 13 ?_ (bodyC m.body) _ ?_ Tryz.underlying35 ?_ ?_ ?_); rfl; rfl; rfl; exact HQ.out.1.body.all; rfl; exact HJ.out) | (go_at_call 70; refine (HB.out _ HQ.out.2.1).mono ?_; rintro E w5 ⟨rfl, hb5⟩))
   go_ret
   exact ⟨ret_bool (by rw [decide_eq_true HZ.out, Bool.true_and]), iq (HQ.out.2.1.trans (hb5.out.mono HQ.out.2.1.size))⟩
open Go.RowKit
theorem own_same {x : MBody} (h : kindMay x = true) : bodyOwn x = ownR x := by
 rcases kinds_of h with ⟨e, _⟩ | e | e | e | ⟨e, _⟩ | e <;> simp [bodyOwn, ownR, e]
theorem same_symm {a b : MBody} : a.same b ↔ b.same a := ⟨fun h => ⟨h.1.symm, h.2.1.symm, h.2.2.1.symm, h.2.2.2.1.symm, h.2.2.2.2.symm⟩, fun h => ⟨h.1.symm, h.2.1.symm, h.2.2.1.symm, h.2.2.2.1.symm, h.2.2.2.2.symm⟩⟩
theorem ownR_kind (x : MBody) : (ownR x).kind = x.kind := by
 unfold ownR
 split
 ·rfl
 split
 ·rfl
 split
 ·rfl
 split
 ·rfl
 split
 ·rfl
 split
 ·rfl
 ·rfl
theorem ownR_prs {w : World} {x : MBody} (h : Prs w x.qa x.qs) : Prs w (ownR x).qa (ownR x).qs := by
 have hz : Prs w none [] := fun h => absurd h (by simp)
 unfold ownR
 split
 ·exact hz
 split
 ·exact hz
 split
 ·exact hz
 split
 ·exact hz
 split
 ·exact h
 split
 ·exact hz
 ·exact hz
theorem ownR_len (x : MBody) : (ownR x).qs.length <= x.qs.length := by
 unfold ownR
 split
 ·exact Nat.zero_le _
 split
 ·exact Nat.zero_le _
 split
 ·exact Nat.zero_le _
 split
 ·exact Nat.zero_le _
 split
 ·exact Nat.le_refl _
 split
 ·exact Nat.zero_le _
 ·exact Nat.zero_le _
theorem may_iff (x : MBody) : x.may ↔ (ownR x).kind = x.kind /\ (ownR x).same x /\ x.view < 1073741824 /\ kindMay x = true := by
 unfold MBody.may
 constructor
 ·rintro ⟨h1, h2, h3⟩
  rw [own_same h1] at h3
  exact ⟨ownR_kind x, same_symm.1 h3, h2, h1⟩
 ·rintro ⟨_, h3, h2, h1⟩
  rw [own_same h1]
  exact ⟨h1, h2, same_symm.1 h3⟩
open Classical in
theorem body_rf (x : MBody) (w : World) (hx : x.Wf) (hq : Prs w x.qa x.qs) (hn : x.qs.length <= 140737488355328)
  (h4 : x.kind = 4 -> ¬ (x.view >= 1073741824) -> (ownR x).kind = x.kind /\ (ownR x).same x -> Calls Tryz.prog 70 #[.agg (bodyC x).toArray] w fun E w' => E = .returned (.bool (kindMay x)) /\ Hid (Below w.heap.size w w')) :
  Calls Tryz.prog 70 #[.agg (bodyC x).toArray] w fun E w' => E = .returned (.bool (decide x.may)) /\ Hid (Below w.heap.size w w') := by
 have hO : Hid (∀ W, Below w.heap.size w W -> Calls Tryz.prog 109 #[.agg (bodyC x).toArray] W fun E w' => E = .returned (.agg (bodyC (ownR x)).toArray) /\ Hid (Below W.heap.size W w')) := iq fun W _ => own_rf x W hx
 have hS : ∀ W, Below w.heap.size w W -> Calls Tryz.prog 108 #[.agg (bodyC (ownR x)).toArray, .agg (bodyC x).toArray] W fun E w' => (∃ z, E = .returned (.bool z) /\ (z = true ↔ (ownR x).kind = x.kind /\ (ownR x).same x)) /\ Below W.heap.size W w' := fun W h =>
  sameBody_rf (ownR x) x W (ownR_wf hx) hx (ownR_prs (hq.below h)) (hq.below h) (Nat.le_trans (ownR_len x) hn) hn
 have fin : ∀ {b : Bool} {E : Ending} {w' : World}, (b = true ↔ x.may) -> E = .returned (.bool b) /\ Hid (Below w.heap.size w w') -> E = .returned (.bool (decide x.may)) /\ Hid (Below w.heap.size w w') := fun hb hE => ⟨hE.1.trans (ret_bool (by rw [Bool.eq_iff_iff, hb, decide_eq_true_iff])), hE.2⟩
 by_cases hs : (ownR x).kind = x.kind /\ (ownR x).same x
 ·have hS' : Hid (∀ W, Below w.heap.size w W -> Calls Tryz.prog 108 #[.agg (bodyC (ownR x)).toArray, .agg (bodyC x).toArray] W fun E w' => E = .returned (.bool true) /\ Hid (Below W.heap.size W w')) := iq fun W h => (hS W h).mono fun E w' hE => ⟨bool_of hE.1 hs, hE.2⟩
  by_cases hv : x.view >= 1073741824
  ·exact (bodyr_v x w hx (by omega) hv hO hS').mono fun E w' hE => fin (by rw [may_iff]; simp; omega) hE
  ·have hv1 : ¬ ((x.view : Int) >= 1073741824) := by omega
   have key : ∀ {b : Bool} {E : Ending} {w' : World}, b = kindMay x -> E = .returned (.bool b) /\ Hid (Below w.heap.size w w') -> E = .returned (.bool (decide x.may)) /\ Hid (Below w.heap.size w w') := fun hb hE => fin (by
    rw [hb, may_iff]
    constructor
    ·intro h
     exact ⟨hs.1, hs.2, by omega, h⟩
    ·exact fun h => h.2.2.2) hE
   by_cases e1 : x.kind = 1
   ·exact (bodyr_1 x w hx (iq e1) (iq fun W => asked_rf x.req W) hv1 hv hO hS').mono fun E w' hE => key (by simp [kindMay, e1]) hE
   by_cases e2 : x.kind = 2
   ·by_cases hk : (1 : Int) <= (x.k : Int)
    ·exact (bodyr_2 x w hx (iq e2) hk hv1 hv hO hS').mono fun E w' hE => key (by
      rw [Bool.eq_iff_iff]
      simp only [kindMay, e2, isCnt, decide_eq_true_eq]
      simp
      omega) hE
    ·exact (bodyr_2n x w hx (iq e2) hk hv1 hv hO hS').mono fun E w' hE => key (by
      have : isCnt x.k = false := by simp [isCnt]; omega
      simp [kindMay, e2, this]) hE
   by_cases e3 : x.kind = 3
   ·exact (bodyr_3 x w hx (iq e3) hv1 hv hO hS').mono fun E w' hE => key (by simp [kindMay, e3]) hE
   by_cases e4 : x.kind = 4
   ·exact (h4 e4 hv hs).mono fun E w' hE => key rfl hE
   by_cases e5 : x.kind = 5
   ·exact (bodyr_5 x w hx (iq e5) hv1 hv hO hS').mono fun E w' hE => key (by simp [kindMay, e5]) hE
   by_cases e6 : x.kind = 6
   ·by_cases hk : (1 : Int) <= (x.k : Int)
    ·exact (bodyr_6 x w hx (iq e6) hk hv1 hv hO hS').mono fun E w' hE => key (by
      rw [Bool.eq_iff_iff]
      simp only [kindMay, e6, isCnt, decide_eq_true_eq]
      simp
      omega) hE
    ·exact (bodyr_6n x w hx (iq e6) hk hv1 hv hO hS').mono fun E w' hE => key (by
      have : isCnt x.k = false := by simp [isCnt]; omega
      simp [kindMay, e6, this]) hE
   ·have hne : ∀ (n : UInt8) (z : Int), z = (n.toNat : Int) -> ¬ x.kind = n -> ¬ ((x.kind.toNat : Int) = z) := fun n z hz h e => h (UInt8.toNat_inj.1 (by omega))
    exact (bodyr_x x w hx (hne 1 _ rfl e1) (hne 2 _ rfl e2) (hne 3 _ rfl e3) (hne 4 _ rfl e4) (hne 5 _ rfl e5) (hne 6 _ rfl e6) hv1 hv hO hS').mono fun E w' hE => key (by simp [kindMay, e1, e2, e3, e4, e5, e6]) hE
 ·have hS' : Hid (∀ W, Below w.heap.size w W -> Calls Tryz.prog 108 #[.agg (bodyC (ownR x)).toArray, .agg (bodyC x).toArray] W fun E w' => E = .returned (.bool false) /\ Hid (Below W.heap.size W w')) := iq fun W h => (hS W h).mono fun E w' hE => ⟨bool_not hE.1 hs, hE.2⟩
  exact (bodyr_n x w hx hO hS').mono fun E w' hE => fin (by
   rw [may_iff]
   constructor
   ·intro h; cases h
   ·exact fun h => absurd ⟨h.1, h.2.1⟩ hs) hE
open Classical in
theorem may_rf_by (m : MMsg) (w : World) (hm : m.Wf) (HB : Hid (∀ W, Below w.heap.size w W -> Calls Tryz.prog 70 #[.agg (bodyC m.body).toArray] W fun E w' => E = .returned (.bool (decide m.body.may)) /\ Hid (Below W.heap.size W w'))) :
  Calls Tryz.prog 41 #[.agg (msgC m).toArray] w fun E w' => E = .returned (.bool (decide m.may)) /\ Hid (Below w.heap.size w w') := by
 have no : ∀ {E : Ending} {w' : World}, ¬ m.may -> E = .returned (.bool false) /\ Hid (Below w.heap.size w w') -> E = .returned (.bool (decide m.may)) /\ Hid (Below w.heap.size w w') := fun h hE => ⟨hE.1.trans (ret_bool (decide_eq_false h).symm), hE.2⟩
 have hrep : isRepl m.origin = true ↔ 1 <= m.origin /\ m.origin <= 11 := by simp [isRepl]
 have hnum : isNum m.number = true ↔ 1 <= m.number /\ m.number <= 65536 := by simp [isNum]
 by_cases h0 : m.origin < 1
 ·exact (mayr_0 m w hm h0).mono fun E w' hE => no (fun h => by have := hrep.1 h.1; omega) hE
 by_cases h1 : m.origin > 11
 ·exact (mayr_1 m w hm h0 h1).mono fun E w' hE => no (fun h => by have := hrep.1 h.1; omega) hE
 by_cases h2 : (m.number : Int) < 1
 ·exact (mayr_2 m w hm h0 h1 h2 (by omega)).mono fun E w' hE => no (fun h => by have := hnum.1 h.2.1.1; omega) hE
 by_cases h3 : (m.number : Int) > 65536
 ·exact (mayr_3 m w hm h0 h1 h2 (by omega) h3 (by omega)).mono fun E w' hE => no (fun h => by have := hnum.1 h.2.1.1; omega) hE
 obtain ⟨i, hi⟩ : ∃ i : Nat, m.origin = (i : Int) + 1 := ⟨m.origin.toNat - 1, by omega⟩
 have hi11 : i < 11 := by omega
 obtain ⟨d, hd⟩ : ∃ d, m.deps[i]? = some d := ⟨_, List.getElem?_eq_getElem (by rw [hm.1]; exact hi11)⟩
 have hii : m.origin.toNat - 1 = i := by omega
 by_cases h4 : (d : Int) = ((m.number - 1 : Nat) : Int)
 ·refine (mayr_5 m i d (decide m.body.may) w hm h0 h1 h2 (by omega) h3 (by omega) hi hi11 hd h4 HB).mono fun E w' hE => ⟨hE.1.trans (ret_bool ?_), hE.2⟩
  have hd' : m.deps[m.origin.toNat - 1]? = some (m.number - 1) := by rw [hii, hd]; congr 1; omega
  rw [Bool.eq_iff_iff, decide_eq_true_iff (p := m.may)]
  simp only [Bool.and_eq_true, decide_eq_true_eq, MMsg.may, MMsg.numMay, hrep, hnum, hd', true_and]
  constructor
  ·rintro ⟨a, b⟩
   exact ⟨⟨by omega, by omega⟩, ⟨⟨by omega, by omega⟩, a⟩, b⟩
  ·exact fun h => ⟨h.2.1.2, h.2.2⟩
 ·exact (mayr_4 m i d w hm h0 h1 h2 (by omega) h3 (by omega) hi hi11 hd h4).mono fun E w' hE => no (fun h => by
   have := h.2.1.2.1
   rw [hii, hd] at this
   injection this with this
   exact h4 (by omega)) hE
theorem rword_ow {B n c : Nat} {w : World} {A : Option Addr} {bs : List UInt8} (num : Nat) (h : Ow B w A n c bs) (hn : n <= 100000000) :
  Calls Tryz.prog 84 #[.slice A n c, .int .u64 (num : Int)] w fun E w' => ∃ A' n' c', E = .returned (.slice A' n' c') /\ Ow w.heap.size w' A' n' c' (bs ++ be 8 num) /\ Hid (Below w.heap.size w w') :=
 (refWord_any A n c bs num w h.rd h.2 (by omega)).mono fun E w' ⟨A', c', he, ho, hb⟩ => ⟨A', _, c', he, ho.out, hb⟩
open Go.RowKit
theorem bytesr_2 (m : MMsg) (w : World) (hm : m.Wf) (ho : isRepl m.origin = true) (HKI : Hid (m.body.kind = 2)) 
  (HM : Hid (∀ W, Below w.heap.size w W -> Calls Tryz.prog 41 #[.agg (msgC m).toArray] W fun E w' => E = .returned (.bool true) /\ Hid (Below W.heap.size W w'))) :
  Calls Tryz.prog 55 #[.agg (msgC m).toArray] w fun E w' => ∃ A' n' c', E = .returned (.slice A' n' c') /\ Ow w.heap.size w' A' n' c' (byteOf m.origin :: (depsB m.deps ++ (m.body.kind :: (be 8 m.body.view ++ be 8 m.body.k)))) /\ Hid (Below w.heap.size w w') := by
 have HI : Hid ((Tryz.prog.info? 39).map (·.size) = some (msgC m).length) := iq (by rw [msgC_length hm]; exact Tryz.is39)
 have HJ : Hid ((Tryz.prog.info? 35).map (·.size) = some (bodyC m.body).length) := iq (by rw [bodyC_length hm.2.1]; exact Tryz.is35)
 have HL : Hid (RqAt w.heap.size w (msgC m) (w.alloc (.cells (msgC m).toArray 39))) := iq ⟨bl.alloc (Nat.le_refl _) _, by simp, range_box w (msgC m) 39⟩
 have HMW := iq hm
 have HL11 := iq hm.1
 have hu : IntKind.u8.wrap m.origin = ((byteOf m.origin).toNat : Int) := u8_wrap (by simp only [isRepl, decide_eq_true_eq] at ho; omega)
 have hz : ∀ w, (zeroValue 35).run Tryz.prog w = .ok (.agg (bodyC zeroBody).toArray) w := zero_body
 have HLE : Hid (0 + (bodyC m.body).length <= (bodyC zeroBody).length /\ setAll (bodyC zeroBody) 0 (bodyC m.body) = bodyC m.body) := iq ⟨by rw [bodyC_length zero_wf, bodyC_length hm.2.1]; omega, setAll_all (by rw [bodyC_length zero_wf, bodyC_length hm.2.1])⟩
 clear hm ho
 go_enter Tryz.func55, Tryz.ntmps55
 go_wp2_with (first | ((with_reducible refine wpList_load_midG ?_ 39 (.tmp 1) ?_ w.heap.size 0 ?_ (msgC m) _ ?_ Tryz.underlying39 ?_ ?_ ?_); rfl; rfl; rfl; exact HL.out.src; rfl; exact HI.out) | (go_at_call 41; refine (HM.out _ HL.out.bel).mono ?_; rintro E w1 ⟨rfl, hb1⟩; have HL1 := iq (HL.out.next (Nat.le_refl _) hb1.out); have o0 : w1.cell? ⟨w.heap.size, 0, none⟩ = some (.int .i64 m.origin) := (msg_lies HL1.out.src HMW.out).origin))
 have D1 : Hid (RqAt w.heap.size w (msgC m) (w1.alloc (.cells #[.int .u8 ((byteOf m.origin).toNat : Int)] 5)) /\ Ow (w.heap.size + 1) (w1.alloc (.cells #[.int .u8 ((byteOf m.origin).toNat : Int)] 5)) (some ⟨w1.heap.size, 0, none⟩) 1 1 ([byteOf m.origin] ++ depsB (m.deps.take 0))) := iq ⟨HL1.out.next (Nat.le_refl _) (bl.alloc (Nat.le_refl _) _), ⟨by
  simpa [depsB, u8s] using World.ownsRow_lit w1 #[.int .u8 ((byteOf m.origin).toNat : Int)] 1 (base := w.heap.size + 1) (e := 5) (size := 1) (by have := HL1.out.lt; omega) (by unfold maxLen; omega) rfl, sl_1⟩⟩
 clear HL hb1 o0 hu
 generalize w1.alloc (.cells #[.int .u8 ((byteOf m.origin).toNat : Int)] 5) = w2 at D1 ⊢
 generalize w1.heap.size = g2 at D1 ⊢
 go_loopw [3, 4] (fun v3 v4 wr => ∃ j : Nat, j <= 11 /\ v4 = .int .i64 (j : Int) /\ ∃ A0 n0 c0, v3 = .slice A0 n0 c0 /\ n0 <= 1 + 8 * j /\ Hid (RqAt w.heap.size w (msgC m) wr /\ Ow (w.heap.size + 1) wr A0 n0 c0 ([byteOf m.origin] ++ depsB (m.deps.take j)))) (fun _ v4 _ => 11 - (intOf v4).toNat)
 case atStart => exact ⟨0, by omega, rfl, _, _, _, rfl, by omega, D1⟩
 case round =>
  clear D1
  obtain ⟨j, hj, rfl, A0, n0, c0, rfl, hn0, D⟩ := hrel
  by_cases hjj : j < 11
  ·obtain ⟨x, hx⟩ : ∃ x, m.deps[j]? = some x := ⟨_, List.getElem?_eq_getElem (by rw [HL11.out]; exact hjj)⟩
   have HT := iq (depsB_take hx)
   have cx : wr.cell? ⟨w.heap.size, 2 + j, none⟩ = some (.int .u64 (x : Int)) := (msg_lies D.out.1.src HMW.out).deps j _ (by simp [u64s, hx])
   clear hx
   go_wp2_with (go_at_call 84; refine (rword_ow x D.out.2 (by omega)).mono ?_; rintro E w7 ⟨A7, n7, c7, rfl, H7, hb7⟩; have O7 := iq H7; clear H7)
   go_roundw
   case measure => simp [intOf] <;> omega
   case rel => exact ⟨j + 1, by omega, by go_num, _, _, _, rfl, by
       have h1 := O7.out.len
       have h2 := D.out.2.len
       rw [List.length_append, h2, be_length] at h1
       omega, iq ⟨D.out.1.next (Nat.le_refl _) hb7.out, by rw [HT.out, <- List.append_assoc]; exact O7.out.low (by have := D.out.1.lt; omega)⟩⟩
  ·obtain rfl : j = 11 := by omega
   have O3 : Hid (Ow (w.heap.size + 1) wr A0 n0 c0 ([byteOf m.origin] ++ depsB m.deps) /\ ∀ k, (Value.slice A0 n0 c0).ownBlock = some k -> k < wr.heap.size) := iq ⟨by have := D.out.2; rwa [List.take_of_length_le (by rw [HL11.out]; exact Nat.le_refl _)] at this, fun k hk => (D.out.2.1.lt k hk).2⟩
   have HN : Hid ((wr.alloc (.cells (bodyC zeroBody).toArray 35)).heap[wr.heap.size]? = some (.cells (bodyC zeroBody).toArray 35 (0, 0))) := iq (heap_alloc_new wr _)
   go_wp2_with (first | ((with_reducible refine wpList_load_midG ?_ 35 (.tmp 24) ?_ w.heap.size 13 ?_ (bodyC m.body) _ ?_ Tryz.underlying35 ?_ ?_ ?_); rfl; rfl; rfl; exact (msg_lies D.out.1.src HMW.out).body.all; rfl; exact HJ.out) | (refine wpList_store_part rfl 35 (.tmp 5) (.tmp 25) rfl wr.heap.size 0 (bodyC zeroBody) (bodyC m.body) (bodyC m.body) 35 HN.out HLE.out.1 HLE.out.2 rfl rfl HJ.out (one_bodyC _) ?_; intro wb Gb; have BB : Hid (Below wr.heap.size wr wb) := iq ((bl.alloc (Nat.le_refl _) _).grown Gb.out.2 (by simp) (fun k hk => by injection hk with hk; omega)); have DB : Hid (RqAt w.heap.size w (msgC m) wb /\ wb.rangeAt wr.heap.size 0 (bodyC m.body) /\ wr.heap.size < wb.heap.size /\ Ow (w.heap.size + 1) wb A0 n0 c0 ([byteOf m.origin] ++ depsB m.deps)) := iq ⟨D.out.1.next (Nat.le_refl _) BB.out, range_of Gb.out.1, (Array.getElem?_eq_some_iff.1 Gb.out.1).1, O3.out.1.below BB.out⟩; have b0 : wb.cell? ⟨wr.heap.size, 0, none⟩ = some (.int .u8 2) := (body_lies DB.out.2.1 HMW.out.2.1).kind.trans (by rw [HKI.out]; rfl)) | (at_builtin; go_must (refine wpList_append_made rfl (.tmp 26) (.tmp 29) rfl (w.heap.size + 1) n0 1 wb.heap.size (.slice A0 n0 c0) ([byteOf m.origin] ++ depsB m.deps) [2] _ rfl rfl rfl DB.out.2.2.2.1 (by have := DB.out.1.lt; omega) rfl rfl (by omega) ?_); intro A4 c4 w4 K4 G4; have D4 : Hid (RqAt w.heap.size w (msgC m) w4 /\ w4.rangeAt wr.heap.size 0 (bodyC m.body) /\ wr.heap.size < w4.heap.size) := iq ⟨DB.out.1.fresh (Nat.le_refl _) DB.out.2.2.2.1 G4.out, fun j v hv => G4.out.cell (DB.out.2.1 j v hv) (fun e => by have := O3.out.2 _ e.symm; simp at this), Nat.lt_of_lt_of_le DB.out.2.2.1 G4.out.size⟩; have d0 : w4.cell? ⟨wr.heap.size, 0, none⟩ = some (.int .u8 2) := (body_lies D4.out.2.1 HMW.out.2.1).kind.trans (by rw [HKI.out]; rfl); have d1 : w4.cell? ⟨wr.heap.size, 1, none⟩ = some (.int .u64 (m.body.view : Int)) := (body_lies D4.out.2.1 HMW.out.2.1).view; have d2 : w4.cell? ⟨wr.heap.size, 2, none⟩ = some (.int .u64 (m.body.k : Int)) := (body_lies D4.out.2.1 HMW.out.2.1).k) | (go_at_call 84; refine (rword_ow m.body.view (⟨K4.out.1, K4.out.2⟩ : Ow (w.heap.size + 1) w4 A4 (n0 + 1) c4 _) (by omega)).mono ?_; rintro E w5 ⟨Aw5, nw5, cw5, rfl, Hw5, hbw5⟩; have Ow5 := iq Hw5; have lw5 := Hw5.len; clear Hw5; have D5 : Hid (RqAt w.heap.size w (msgC m) w5 /\ w5.rangeAt wr.heap.size 0 (bodyC m.body) /\ wr.heap.size < w5.heap.size) := iq ⟨D4.out.1.next (Nat.le_refl _) hbw5.out, rangeAt_below D4.out.2.1 hbw5.out D4.out.2.2, Nat.lt_of_lt_of_le D4.out.2.2 hbw5.out.size⟩; have ew50 : w5.cell? ⟨wr.heap.size, 0, none⟩ = some (.int .u8 2) := (body_lies D5.out.2.1 HMW.out.2.1).kind.trans (by rw [HKI.out]; rfl); have ew51 : w5.cell? ⟨wr.heap.size, 1, none⟩ = some (.int .u64 (m.body.view : Int)) := (body_lies D5.out.2.1 HMW.out.2.1).view; have ew52 : w5.cell? ⟨wr.heap.size, 2, none⟩ = some (.int .u64 (m.body.k : Int)) := (body_lies D5.out.2.1 HMW.out.2.1).k; simp only [List.length_append, be_length, List.length_cons, List.length_nil, depsB_len, HL11.out] at lw5) | (go_at_call 84; refine (rword_ow m.body.k Ow5.out (by omega)).mono ?_; rintro E w6 ⟨Aw6, nw6, cw6, rfl, Hw6, hbw6⟩; have Ow6 := iq Hw6; have lw6 := Hw6.len; clear Hw6; have D6 : Hid (RqAt w.heap.size w (msgC m) w6 /\ w6.rangeAt wr.heap.size 0 (bodyC m.body) /\ wr.heap.size < w6.heap.size) := iq ⟨D5.out.1.next (Nat.le_refl _) hbw6.out, rangeAt_below D5.out.2.1 hbw6.out D5.out.2.2, Nat.lt_of_lt_of_le D5.out.2.2 hbw6.out.size⟩; have ew60 : w6.cell? ⟨wr.heap.size, 0, none⟩ = some (.int .u8 2) := (body_lies D6.out.2.1 HMW.out.2.1).kind.trans (by rw [HKI.out]; rfl); have ew61 : w6.cell? ⟨wr.heap.size, 1, none⟩ = some (.int .u64 (m.body.view : Int)) := (body_lies D6.out.2.1 HMW.out.2.1).view; have ew62 : w6.cell? ⟨wr.heap.size, 2, none⟩ = some (.int .u64 (m.body.k : Int)) := (body_lies D6.out.2.1 HMW.out.2.1).k; simp only [List.length_append, be_length, List.length_cons, List.length_nil, depsB_len, HL11.out] at lw6))
   go_ret
   exact ⟨_, _, _, rfl, by rw [HKI.out]; have := Ow6.out.low (B' := w.heap.size) (by have := D5.out.1.lt; omega); simpa [List.append_assoc] using this, iq D6.out.1.bel⟩
open Go.RowKit
theorem step_load_mid {P : Program} {ops : Array Oper} {o : Oper} {a : Act} {w : World} {K : Act -> World -> Prop} {Q : Exit -> Act -> World -> Prop} {E : Prop} (hgd : o.guard = none) (ty : TypeId) (x : Operand) (ho : o.op = .load ty x)
  (b off : Nat) (hx : a.eval x = .pointer (some ⟨b, off, none⟩)) (cs : List Value) (d : TypeDesc) (hc : w.rangeAt b off cs) (hu : P.underlying ty = some d) (hd : d.isRow = true) (hi : (P.info? ty).map (·.size) = some cs.length)
  (h : K (a.put o.dst (.agg cs.toArray)) w) : if Region.wanted o (yielded ops a.tmps) = true then Oper.wp P o a w K Q else E := by
 have hw : Region.wanted o (yielded ops a.tmps) = true := by simp [Region.wanted, hgd]
 rw [if_pos hw]
 exact wp_load_mid ty x ho b off hx cs d hc hu hd hi h
theorem set_tag (m : MMsg) (t : List UInt8) (hm : m.Wf) (ht : t.length = 32) : setAll (msgC m) 89 (u8s t) = msgC { m with tag := t } := by
 have e : msgC m = (.int .i64 m.origin :: .int .u64 (m.number : Int) :: (u64s m.deps ++ bodyC m.body)) ++ (u8s m.tag ++ []) := by simp [msgC]
 have := setAll_mid (u8s t) (.int .i64 m.origin :: .int .u64 (m.number : Int) :: (u64s m.deps ++ bodyC m.body)) (u8s m.tag) [] (by rw [u8s_length, u8s_length, hm.2.2, ht])
 rw [<- e] at this
 rw [show (.int .i64 m.origin :: .int .u64 (m.number : Int) :: (u64s m.deps ++ bodyC m.body) : List Value).length = 89 by simp [u64s_length, hm.1, bodyC_length hm.2.1]] at this
 rw [this]
 simp [msgC]
structure TgM (w : World) (m : MMsg) (wr : World) : Prop where
 bel : Below w.heap.size w wr
 lt : w.heap.size + 1 < wr.heap.size
 box : wr.heap[w.heap.size]? = some (.cells (msgC m).toArray 39 (0, 0))
 res : wr.heap[w.heap.size + 1]? = some (.cells (msgC zeroMsg).toArray 39 (0, 0))
theorem TgM.next {w : World} {m : MMsg} {wr w' : World} (H : TgM w m wr) (hb : Below wr.heap.size wr w') : TgM w m w' :=
 ⟨H.bel.trans (hb.mono H.bel.size), Nat.lt_of_lt_of_le H.lt hb.size, (hb.block _ (by have := H.lt; omega)).trans H.box, (hb.block _ H.lt).trans H.res⟩
theorem TgM.drewN {w : World} {m : MMsg} {wr : World} (H : TgM w m wr) (q : Nat) : TgM w m (wr.drewN q) := ⟨below_drewN H.bel q, H.lt, H.box, H.res⟩
theorem TgM.tagged {w : World} {m : MMsg} {wr : World} (H : TgM w m wr) (t : List UInt8) (hm : m.Wf) (ht : t.length = 32) : TgM w { m with tag := t } (wr.setCells w.heap.size 89 (u8s t)) := by
 have hg := gb_setCells w.heap.size (u8s t) 89 wr
 exact ⟨H.bel.grown hg H.bel.size (fun k hk => by injection hk with hk; omega), Nat.lt_of_lt_of_le H.lt hg.size, by rw [heap_setCells _ _ _ _ H.box, set_tag m t hm ht], (hg.block _ H.lt (by simp)).trans H.res⟩
theorem tagged_rf (m : MMsg) (tg : List UInt8) (w : World) (hm : m.Wf) (ht : tg.length = 32)
  (HM : Hid (∀ W, Below w.heap.size w W -> Calls Tryz.prog 41 #[.agg (msgC m).toArray] W fun E w' => E = .returned (.bool true) /\ Hid (Below W.heap.size W w')))
  (HB : Hid (∀ W, Below w.heap.size w W -> Calls Tryz.prog 55 #[.agg (msgC m).toArray] W fun E w' => ∃ A' n' c', E = .returned (.slice A' n' c') /\ Ow W.heap.size w' A' n' c' (msgB m) /\ Hid (Below W.heap.size W w')))
  (HN : Hid (∀ (W : World) (A : Option Addr) (n c : Nat), Below w.heap.size w W -> Ow 0 W A n c (msgB m) -> Calls Tryz.prog 54 #[.int .i64 m.origin, .int .u64 (m.number : Int), .slice A n c] W fun E w' => E = .returned (.agg (u8s tg).toArray) /\ Hid (Below W.heap.size W w'))) :
  Calls Tryz.prog 28 #[.agg (msgC m).toArray] w fun E w' => E = .returned (.agg (msgC { m with tag := tg }).toArray) /\ Hid (Below w.heap.size w w') := by
 have HMW := iq hm
 have hm2 : ({ m with tag := tg } : MMsg).Wf := ⟨hm.1, hm.2.1, ht⟩
 have hzw : zeroMsg.Wf := ⟨rfl, zero_wf, rfl⟩
 have HI : Hid ((Tryz.prog.info? 39).map (·.size) = some (msgC m).length) := iq (by rw [msgC_length hm]; exact Tryz.is39)
 have HI2 : Hid ((Tryz.prog.info? 39).map (·.size) = some (msgC { m with tag := tg }).length) := iq (by rw [msgC_length hm2]; exact Tryz.is39)
 have HJ : Hid ((Tryz.prog.info? 30).map (·.size) = some (u8s tg).length) := iq (by rw [u8s_length, ht]; exact Tryz.size30)
 have HTL : Hid (tg.length = 32 /\ 89 + (u8s tg).length <= (msgC m).length) := iq ⟨ht, by rw [u8s_length, ht, msgC_length hm]; omega⟩
 have HLE : Hid (0 + (msgC { m with tag := tg }).length <= (msgC zeroMsg).length /\ setAll (msgC zeroMsg) 0 (msgC { m with tag := tg }) = msgC { m with tag := tg }) := iq ⟨by rw [msgC_length hzw, msgC_length hm2]; omega, setAll_all (by rw [msgC_length hzw, msgC_length hm2])⟩
 have hz : ∀ w, (zeroValue 39).run Tryz.prog w = .ok (.agg (msgC zeroMsg).toArray) w := zero_msg
 have H0 : Hid (TgM w m ((w.alloc (.cells (msgC m).toArray 39)).alloc (.cells (msgC zeroMsg).toArray 39))) := iq ⟨(bl.alloc (Nat.le_refl _) _).alloc (by simp) _, by simp, by
  have h1 := heap_alloc_new w (.cells (msgC m).toArray 39)
  exact ((bl.alloc (Nat.le_refl _) (.cells (msgC zeroMsg).toArray 39) : Below (w.alloc (.cells (msgC m).toArray 39)).heap.size _ _).block w.heap.size (by simp)).trans h1, by simpa using heap_alloc_new (w.alloc (.cells (msgC m).toArray 39)) (.cells (msgC zeroMsg).toArray 39)⟩
 clear hm hm2 hzw ht
 go_enter Tryz.func28, Tryz.ntmps28
 go_wp2_with (first | ((with_reducible refine wpList_load_midG ?_ 39 (.tmp 1) ?_ w.heap.size 0 ?_ (msgC m) _ ?_ Tryz.underlying39 ?_ ?_ ?_); rfl; rfl; rfl; exact range_of H0.out.box; rfl; exact HI.out) | (go_at_call 41; refine (HM.out _ H0.out.bel).mono ?_; rintro E w1 ⟨rfl, hb1⟩; have H1 := iq (H0.out.next hb1.out)))
 refine wp_region_any (by kernel_rfl) ?_
 have H3 := iq (H1.out.drewN 1)
 change wpAny _ _ _ _ _ _ _ (w1.drewN 1)
 generalize w1.drewN 1 = w3 at H3 ⊢
 refine wpAny_of_held (S := fun W => ∃ t : List UInt8, t.length = 32 /\ W.rangeAt w.heap.size 0 (msgC { m with tag := t })) _ _ _ _ ?_
 refine tk 0 ⟨some 5, .fieldAddr 39 (.tmp 1) 0, _, _, _, none⟩ (.pointer (some ⟨w.heap.size, 0, none⟩)) rfl (by kernel_rfl) (fun _ _ _ => id) (⟨m.tag, HMW.out.2.2, range_of H3.out.box⟩) (fun W hSW => by go_simp) ?_
 try simp only [Act.put, l0, l1, l2]
 refine tk 1 ⟨some 6, .load 3 (.tmp 5), _, _, _, none⟩ (.int .i64 m.origin) rfl (by kernel_rfl) (fun _ _ _ => id) (⟨m.tag, HMW.out.2.2, range_of H3.out.box⟩) (fun W hSW => by obtain ⟨t, ht, hr⟩ := hSW; have hv := (msg_lies (m := { m with tag := t }) hr ⟨HMW.out.1, HMW.out.2.1, ht⟩).origin; go_simp) ?_
 try simp only [pu, l0, l1, l2]
 refine tk 2 ⟨some 7, .fieldAddr 39 (.tmp 1) 1, _, _, _, none⟩ (.pointer (some ⟨w.heap.size, 1, none⟩)) rfl (by kernel_rfl) (fun _ _ _ => id) (⟨m.tag, HMW.out.2.2, range_of H3.out.box⟩) (fun W hSW => by go_simp) ?_
 try simp only [pu, l0, l1, l2]
 refine tk 3 ⟨some 8, .load 25 (.tmp 7), _, _, _, none⟩ (.int .u64 (m.number : Int)) rfl (by kernel_rfl) (fun _ _ _ => id) (⟨m.tag, HMW.out.2.2, range_of H3.out.box⟩) (fun W hSW => by obtain ⟨t, ht, hr⟩ := hSW; have hv := (msg_lies (m := { m with tag := t }) hr ⟨HMW.out.1, HMW.out.2.1, ht⟩).number; go_simp) ?_
 try simp only [pu, l0, l1, l2]
 refine rd1 4 ⟨some 9, .load 39 (.tmp 1), _, _, _, none⟩ (by kernel_rfl) rfl fun K' hK' => ?_
 refine step_load_mid rfl 39 (.tmp 1) rfl w.heap.size 0 rfl (msgC m) _ (range_of H3.out.box) Tryz.underlying39 rfl HI.out ?_
 refine hK'.out _ _ ⟨m.tag, HMW.out.2.2, range_of H3.out.box⟩ (fun _ => ?_)
 clear hK' K'
 try simp only [Act.put, l0, l1, l2]
 refine rd1 5 ⟨some 10, .call { callee := .value (.func 55), args := #[.tmp 9], argTypes := #[39] }, _, _, _, none⟩ (by kernel_rfl) rfl fun K' hK' => ?_
 go_simp
 go_at_call 55
 refine (HB.out _ H3.out.bel).mono ?_
 rintro E w4 ⟨A4, n4, c4, rfl, Hx4, hb4⟩
 have O4 := iq Hx4
 clear Hx4
 have H4 := iq (H3.out.next hb4.out)
 refine hK'.out _ _ ⟨m.tag, HMW.out.2.2, range_of H4.out.box⟩ (fun _ => ?_)
 clear hK' K'
 try simp only [Act.put, l0, l1, l2]
 refine rd1 6 ⟨some 11, .call { callee := .value (.func 54), args := #[.tmp 6, .tmp 8, .tmp 10], argTypes := #[3, 25, 23] }, _, _, _, none⟩ (by kernel_rfl) rfl fun K' hK' => ?_
 go_simp
 go_at_call 54
 refine (HN.out w4 A4 n4 c4 H4.out.bel (O4.out.low (B' := 0) (Nat.zero_le _))).mono ?_
 rintro E w5 ⟨rfl, hb5⟩
 have H5 := iq (H4.out.next hb5.out)
 refine hK'.out _ _ ⟨m.tag, HMW.out.2.2, range_of H5.out.box⟩ (fun _ => ?_)
 clear hK' K'
 try simp only [Act.put, l0, l1, l2]
 refine tk 7 ⟨some 12, .fieldAddr 39 (.tmp 1) 4, _, _, _, none⟩ (.pointer (some ⟨w.heap.size, 89, none⟩)) rfl (by kernel_rfl) (fun _ _ _ => id) (⟨m.tag, HMW.out.2.2, range_of H5.out.box⟩) (fun W hSW => by go_simp) ?_
 try simp only [pu, l0, l1, l2]
 refine rd1 8 ⟨none, .store 30 (.tmp 12) (.tmp 11), _, _, _, none⟩ (by kernel_rfl) rfl fun K' hK' => ?_
 refine step_store_cells rfl 30 (.tmp 12) (.tmp 11) rfl w.heap.size 89 (u8s tg) rfl rfl (there_block H5.out.box 89 _ HTL.out.2) HJ.out (u8s_one _) ?_
 have H6 := iq (H5.out.tagged tg HMW.out HTL.out.1)
 refine hK'.out _ _ ⟨tg, HTL.out.1, range_of H6.out.box⟩ (fun _ => ?_)
 clear hK' K'
 refine wpAnyH_done (by kernel_rfl) ?_ _
 generalize w5.setCells w.heap.size 89 (u8s tg) = w6 at H6 ⊢
 go_wp2_with (first | ((with_reducible refine wpList_load_midG ?_ 39 (.tmp 1) ?_ w.heap.size 0 ?_ (msgC { m with tag := tg }) _ ?_ Tryz.underlying39 ?_ ?_ ?_); rfl; rfl; rfl; exact range_of H6.out.box; rfl; exact HI2.out) | (refine wpList_store_part rfl 39 (.tmp 2) (.tmp 13) rfl (w.heap.size + 1) 0 (msgC zeroMsg) (msgC { m with tag := tg }) (msgC { m with tag := tg }) 39 H6.out.res HLE.out.1 HLE.out.2 rfl rfl HI2.out (one_msgC _) ?_; intro w9 G9))
 exact bodyPost_ret (ret_range (cs := msgC { m with tag := tg }) rfl rfl (range_of G9.out.1) Tryz.underlying39 rfl HI2.out) rfl ⟨rfl, iq (H6.out.bel.grown G9.out.2 H6.out.bel.size (fun k hk => by injection hk with hk; omega))⟩
end Go.Proofs.YtknpcmadghkaaaaGreatDoor.Sh
