/- Laws and walks. -/
import Derived.Test.YtknpcmadghkaaaaGreatDoorLww
import Derived.Test.YtknpcmadghkaaaaGreatDoorMcw
import Derived.Test.YtknpcmadghkaaaaGreatDoorFbw
set_option maxHeartbeats 16000000
set_option maxRecDepth 100000
namespace Go.Proofs.YtknpcmadghkaaaaGreatDoor.Sh
open Go.RowKit
theorem Log_nil (W : World) (v : Int) : Calls Tryz.prog 17 #[.pointer none, .int .u64 v] W fun E w' => E = .returned (.tuple #[.slice none 0 0, .bool false]) /\ Below W.heap.size W w' := by
 go_enter Tryz.func17, Tryz.ntmps17
 go_wp2_with (go_at_call 43; refine (view_nil _ _).mono ?_; rintro E w2 ⟨rfl, rfl⟩)
 exact bodyPost_ret (results_tmp2 rfl _ _ _) rfl ⟨rfl, Below.refl _ _⟩
theorem str_fresh (W : World) : Below W.heap.size W (W.alloc (.cells strZ.toArray 96)) /\ (W.alloc (.cells strZ.toArray 96)).cell? ⟨W.heap.size, 1, none⟩ = some (.pointer none) /\ (W.alloc (.cells strZ.toArray 96)).cell? ⟨W.heap.size, 2, none⟩ = some (.map none) /\ (W.alloc (.cells strZ.toArray 96)).cell? ⟨W.heap.size, 3, none⟩ = some (.int .u64 0) :=
 ⟨bl.alloc (Nat.le_refl _) _, block_cell (heap_alloc_new W _) 1 _ rfl, block_cell (heap_alloc_new W _) 2 _ rfl, block_cell (heap_alloc_new W _) 3 _ rfl⟩
theorem Voted_nil (W : World) (r v : Int) : Calls Tryz.prog 23 #[.pointer none, .int .i64 r, .int .u64 v] W fun E w' => E = .returned (.tuple #[.int .i64 0, .bool false]) /\ Below W.heap.size W w' := by
 obtain ⟨hb, c1, c2, c3⟩ := str_fresh W
 have HB := iq hb
 clear hb c2 c3
 go_enter Tryz.func23, Tryz.ntmps23
 go_wp2_with (first | (go_at_call 39; refine (stream_nil _ _).mono ?_; rintro E w2 ⟨rfl, rfl⟩) | (go_at_call 52; refine (voted_nil _ _).mono ?_; rintro E w3 ⟨rfl, rfl⟩))
 exact bodyPost_ret (results_tmp2 rfl _ _ _) rfl ⟨rfl, HB.out⟩
theorem Greatest_nil (W : World) (r : Int) : Calls Tryz.prog 25 #[.pointer none, .int .i64 r] W fun E w' => E = .returned (.int .u64 0) /\ Below W.heap.size W w' := by
 obtain ⟨hb, c1, c2, c3⟩ := str_fresh W
 have HB := iq hb
 clear hb c2 c3
 go_enter Tryz.func25, Tryz.ntmps25
 go_wp2_with (first | (go_at_call 39; refine (stream_nil _ _).mono ?_; rintro E w2 ⟨rfl, rfl⟩) | (go_at_call 53; refine (great_nil _).mono ?_; rintro E w3 ⟨rfl, rfl⟩))
 go_ret
 exact ⟨rfl, HB.out⟩
theorem Views_nil (W : World) : Calls Tryz.prog 22 #[.pointer none] W fun E w' => E = .returned (.slice none 0 0) /\ Below W.heap.size W w' := by
 go_enter Tryz.func22, Tryz.ntmps22
 go_wp2
 go_ret
 exact ⟨rfl, Below.refl _ _⟩
theorem Holds_nil (W : World) (v c t : Int) : Calls Tryz.prog 20 #[.pointer none, .int .u64 v, .int .i64 c, .int .u64 t] W fun E w' => E = .returned (.bool false) /\ Below W.heap.size W w' := by
 go_enter Tryz.func20, Tryz.ntmps20
 go_wp2_with (go_at_call 43; refine (view_nil _ _).mono ?_; rintro E w2 ⟨rfl, rfl⟩)
 go_ret
 exact ⟨rfl, Below.refl _ _⟩
open Go.RowKit
theorem look94n (W : World) : (Instr.lookup 94 (.map none) (.int .u64 0) false).run Tryz.prog W = .ok (.int .u64 0) W := by kernel_rfl
def RdZ (n : Nat) (W : World) : Prop := W.cell? ⟨n, 2, none⟩ = some (.map none) /\ W.cell? ⟨n, 3, none⟩ = some (.int .u64 0)
theorem Change_nil (W : World) (r : Int) : Calls Tryz.prog 24 #[.pointer none, .int .i64 r] W fun E w' => E = .returned (.tuple #[.int .u64 0, .int .u64 0]) /\ Below W.heap.size W w' := by
 obtain ⟨hb, c1, c2, c3⟩ := str_fresh W
 have HB := iq (below_drewN hb 1)
 have HZ : Hid (RdZ W.heap.size ((W.alloc (.cells strZ.toArray 96)).drewN 1)) := iq ⟨c2, c3⟩
 have HLk := iq look94n
 clear hb c1 c2 c3
 go_enter Tryz.func24, Tryz.ntmps24
 go_wp2_with (go_at_call 39; refine (stream_nil _ _).mono ?_; rintro E w2 ⟨rfl, rfl⟩)
 refine wp_region_any (by kernel_rfl) ?_
 change wpAny _ _ _ _ _ _ _ ((W.alloc (.cells strZ.toArray 96)).drewN 1)
 generalize (W.alloc (.cells strZ.toArray 96)).drewN 1 = y at HB HZ ⊢
 obtain ⟨n, hn⟩ : ∃ x, x = W.heap.size := ⟨_, rfl⟩
 rw [<- hn] at HZ ⊢
 clear hn
 refine wpAny_of_held (S := RdZ n) _ _ _ _ ?_
 refine tk 0 ⟨some 10, .move (.tmp 6), _, _, _, none⟩ (.pointer (some ⟨n, 0, none⟩)) rfl (by kernel_rfl) (fun _ _ _ => id) (HZ.out) (fun W hSW => by go_simp) ?_
 try simp only [Act.put, l0, l1, l2]
 refine tk 1 ⟨some 11, .nilCheck (.tmp 10), _, _, _, none⟩ (.pointer (some ⟨n, 0, none⟩)) rfl (by kernel_rfl) (fun _ _ _ => id) (HZ.out) (fun W hSW => by go_simp) ?_
 try simp only [pu, l0, l1, l2]
 refine tk 2 ⟨some 12, .fieldAddr 96 (.tmp 11) 2, _, _, _, none⟩ (.pointer (some ⟨n, 2, none⟩)) rfl (by kernel_rfl) (fun _ _ _ => id) (HZ.out) (fun W hSW => by go_simp) ?_
 try simp only [pu, l0, l1, l2]
 refine tk 3 ⟨some 13, .load 94 (.tmp 12), _, _, _, none⟩ (.map none) rfl (by kernel_rfl) (fun _ _ _ => id) (HZ.out) (fun W hSW => by have hv := hSW.1; go_simp) ?_
 try simp only [pu, l0, l1, l2]
 refine tk 4 ⟨some 14, .move (.tmp 6), _, _, _, none⟩ (.pointer (some ⟨n, 0, none⟩)) rfl (by kernel_rfl) (fun _ _ _ => id) (HZ.out) (fun W hSW => by go_simp) ?_
 try simp only [pu, l0, l1, l2]
 refine tk 5 ⟨some 15, .nilCheck (.tmp 14), _, _, _, none⟩ (.pointer (some ⟨n, 0, none⟩)) rfl (by kernel_rfl) (fun _ _ _ => id) (HZ.out) (fun W hSW => by go_simp) ?_
 try simp only [pu, l0, l1, l2]
 refine tk 6 ⟨some 16, .fieldAddr 96 (.tmp 15) 3, _, _, _, none⟩ (.pointer (some ⟨n, 3, none⟩)) rfl (by kernel_rfl) (fun _ _ _ => id) (HZ.out) (fun W hSW => by go_simp) ?_
 try simp only [pu, l0, l1, l2]
 refine tk 7 ⟨some 17, .load 25 (.tmp 16), _, _, _, none⟩ (.int .u64 0) rfl (by kernel_rfl) (fun _ _ _ => id) (HZ.out) (fun W hSW => by have hv := hSW.2; go_simp) ?_
 try simp only [pu, l0, l1, l2]
 refine tk 8 ⟨some 18, .lookup 94 (.tmp 13) (.tmp 17) false, _, _, _, none⟩ (.int .u64 0) rfl (by kernel_rfl) (fun _ _ _ => id) (HZ.out) (fun W hSW => by have hv := HLk.out W; go_simp) ?_
 try simp only [pu, l0, l1, l2]
 refine tk 9 ⟨some 19, .move (.tmp 6), _, _, _, none⟩ (.pointer (some ⟨n, 0, none⟩)) rfl (by kernel_rfl) (fun _ _ _ => id) (HZ.out) (fun W hSW => by go_simp) ?_
 try simp only [pu, l0, l1, l2]
 refine tk 10 ⟨some 20, .nilCheck (.tmp 19), _, _, _, none⟩ (.pointer (some ⟨n, 0, none⟩)) rfl (by kernel_rfl) (fun _ _ _ => id) (HZ.out) (fun W hSW => by go_simp) ?_
 try simp only [pu, l0, l1, l2]
 refine tk 11 ⟨some 21, .fieldAddr 96 (.tmp 20) 3, _, _, _, none⟩ (.pointer (some ⟨n, 3, none⟩)) rfl (by kernel_rfl) (fun _ _ _ => id) (HZ.out) (fun W hSW => by go_simp) ?_
 try simp only [pu, l0, l1, l2]
 refine tk 12 ⟨some 22, .load 25 (.tmp 21), _, _, _, none⟩ (.int .u64 0) rfl (by kernel_rfl) (fun _ _ _ => id) (HZ.out) (fun W hSW => by have hv := hSW.2; go_simp) ?_
 try simp only [pu, l0, l1, l2]
 refine tk 13 ⟨some 4, .assign (.tmp 18), _, _, _, none⟩ (.int .u64 0) rfl (by kernel_rfl) (fun _ _ _ => id) (HZ.out) (fun W hSW => by go_simp) ?_
 try simp only [pu, l0, l1, l2]
 refine tk 14 ⟨some 5, .assign (.tmp 22), _, _, _, none⟩ (.int .u64 0) rfl (by kernel_rfl) (fun _ _ _ => id) (HZ.out) (fun W hSW => by go_simp) ?_
 try simp only [pu, l0, l1, l2]
 refine wpAnyH_done (by kernel_rfl) ?_ _
 go_wp2_with fail
 exact bodyPost_ret (results_tmp2 rfl _ _ _) rfl ⟨rfl, HB.out⟩
open Go.RowKit
theorem nil_walk {w : World} (hk : KIs w) (h0 : 0 < w.heap.size) (m : MMsg) (hm : m.Wf) : Calls Tryz.prog 6 #[.agg (msgC m).toArray] w fun E w' => E = .returned (.bool true) /\ Below w.heap.size w w' := by
 have H0 := iq ((Fr.start hk h0).box (msgC m).toArray 39)
 have HI := iq (info_msg hm)
 have cq := (msg_lies (range_of H0.out.hd) hm).body.q
 unfold MBody.qv at cq
 generalize m.body.qs.length = n at cq
 clear hk h0 hm
 by_cases h20 : n > 20
 ·have d20 : decide ((n : Int) > 20) = true := decide_eq_true (by omega)
  have d21 : (20 : Int) < (n : Int) := by omega
  clear h20
  go_enter Tryz.func6, Tryz.ntmps6
  go_wp2_with (go_at_call 11; refine (works_any _ H0.out.ksW H0.out.posW).mono ?_; rintro E w2 ⟨rfl, b2⟩; have H2 := iq (H0.out.below b2); clear b2 H0)
  go_ret
  exact ⟨rfl, H2.out.bel⟩
 ·have d20 : decide ((n : Int) > 20) = false := decide_eq_false (by omega)
  have d21 : ¬ (20 : Int) < (n : Int) := by omega
  clear h20
  go_enter Tryz.func6, Tryz.ntmps6
  go_wp2_with (first | ((with_reducible refine wpList_load_midG ?_ 39 (.tmp 1) ?_ w.heap.size 0 ?_ (msgC m) _ ?_ Tryz.underlying39 ?_ ?_ ?_); rotate_left; rfl; rfl; exact range_of H0.out.hd; rfl; exact HI.out; rotate_left; rfl) | (go_at_call 15; refine (take_nil _ m).mono ?_; rintro E w2 ⟨rfl, b2⟩; have H2 := iq (H0.out.below b2); clear b2 H0) | (go_at_call 17; refine (Log_nil _ _).mono ?_; rintro E w3 ⟨rfl, b3⟩; have H3 := iq (H2.out.below b3); clear b3 H2) | (go_at_call 23; refine (Voted_nil _ _ _).mono ?_; rintro E w4 ⟨rfl, b4⟩; have H4 := iq (H3.out.below b4); clear b4 H3) | (go_at_call 24; refine (Change_nil _ _).mono ?_; rintro E w5 ⟨rfl, b5⟩; have H5 := iq (H4.out.below b5); clear b5 H4) | (go_at_call 25; refine (Greatest_nil _ _).mono ?_; rintro E w6 ⟨rfl, b6⟩; have H6 := iq (H5.out.below b6); clear b6 H5) | (go_at_call 22; refine (Views_nil _).mono ?_; rintro E w7 ⟨rfl, b7⟩; have H7 := iq (H6.out.below b7); clear b7 H6) | (go_at_call 20; refine (Holds_nil _ _ _ _).mono ?_; rintro E w8 ⟨rfl, b8⟩; have H8 := iq (H7.out.below b8); clear b8 H7) | (go_at_call 11; refine (works_any _ H8.out.ksW H8.out.posW).mono ?_; rintro E w9 ⟨rfl, b9⟩; have H9 := iq (H8.out.below b9); clear b9 H8))
  go_ret
  exact ⟨rfl, H9.out.bel⟩
theorem nil_in (W : World) (hk : KIs W) (h0 : 0 < W.heap.size) (v : Value) (h : ∃ m : MMsg, v = .agg (msgC m).toArray /\ m.Wf /\ Prs W m.body.qa m.body.qs /\ m.body.req.op.amount < 18446744073709551616) :
  Calls Tryz.prog 6 #[v] W fun E w' => E = .returned (.bool true) /\ Below W.heap.size W w' := by
 obtain ⟨m, rfl, hm, _, _⟩ := h
 exact nil_walk hk h0 m hm
end Go.Proofs.YtknpcmadghkaaaaGreatDoor.Sh
