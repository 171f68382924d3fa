/-
  What is proved: a request's tag, Signed and Authentic, by the program and by the document. Conditions as stated.
-/
import Derived.Test.YtgdcnakcjomllaaDoorQap
namespace Go.Proofs.YtgdcnakcjomllaaDoor.Sh
open Go.RowKit
set_option maxRecDepth 100000

set_option maxHeartbeats 4000000 in
theorem request_rf (r : MReq) (B n c : Nat) (w : World) (A : Option Addr) (bs : List UInt8) (h : Ow B w A n c bs) (hB : B ≤ w.heap.size) (hn : n ≤ 1001000) (hr : reqMay r = true) :
    Calls Tryd.prog 39 #[.slice A n c, .agg (reqC r).toArray] w fun E w' => ∃ A' n' c', E = .returned (.slice A' n' c') ∧ Ow w.heap.size w' A' n' c' (bs ++ reqB r) ∧ Hid (Below B w w') := by
  have hl := h.len
  have HBB := Lib.hid hB
  have HO := Lib.hid h
  have HM : Hid ((1 ≤ r.client ∧ r.client ≤ 8) ∧ r.op.key.size ≤ 32 ∧ r.op.to.size ≤ 32 ∧ r.op.value.size ≤ 128 ∧ r.op.old.size ≤ 128) := Lib.hid (by
    simp only [reqMay, opMay, Bool.and_eq_true, decide_eq_true_eq] at hr
    exact ⟨hr.1, hr.2.2.1.1, hr.2.2.1.2, hr.2.2.2.1, hr.2.2.2.2⟩)
  have hcw : IntKind.u8.wrap r.client = ((byteOf r.client).toNat : Int) := by
    rw [byteOf_val (by have := HM.out.1; omega)]
    have := HM.out.1
    unfold IntKind.wrap
    simp [IntKind.bits, IntKind.signed]
    omega
  have L := req_lies (range_box w (reqC r) 29)
  have c0 : (w.alloc (.cells (reqC r).toArray 29)).cell? ⟨w.heap.size, 0, none⟩ = some (.int .i64 r.client) := L.client
  have c2 : (w.alloc (.cells (reqC r).toArray 29)).cell? ⟨w.heap.size, 2, none⟩ = some (.int .u8 (r.op.kind.toNat : Int)) := L.op.kind
  have H0 : Hid (RqAt B w (reqC r) (w.alloc (.cells (reqC r).toArray 29))) := Lib.hid ⟨((Below.refl _ _).alloc (Nat.le_refl _) _).mono hB, by simp, range_box w (reqC r) 29⟩
  clear L hr h
  go_enter Tryd.func39, Tryd.ntmps39
  go_wp2_with (at_builtin; go_must (refine wpList_append_made rfl (.tmp 5) (.tmp 12) rfl B n 2 (w.heap.size + 1) (.slice A n c) bs [byteOf r.client, r.op.kind] _ (by simp) rfl rfl (HO.out.1.alloc _) (Nat.le_trans HBB.out (by simp)) rfl rfl (by omega) ?_); intro A1 c1 w1 K1 G1)
  have HQ0 := Lib.hid ((H0.out.grown HBB.out HO.out.1 G1.out))
  have O1 : Hid (Ow B w1 A1 (n + 2) c1 (bs ++ [byteOf r.client, r.op.kind])) := Lib.hid K1.out
  clear K1 G1 c0 c2 H0 hcw
  refine wp_region_any (by kernel_rfl) ?_
  have HQ := Lib.hid (HQ0.out.drewN 1)
  have O3 : Hid (Ow B (w1.drewN 1) A1 (n + 2) c1 (bs ++ [byteOf r.client, r.op.kind])) := Lib.hid (O1.out.below (below_drewN (Below.refl _ _) 1))
  clear HQ0 O1
  change wpAny _ _ _ _ _ _ _ (w1.drewN 1)
  generalize w1.drewN 1 = w3 at HQ O3 ⊢
  refine wpAny_of_held (S := fun W => Below w3.heap.size w3 W) _ _ _ _ ?_
  refine tk 0 ⟨some 14, .move (.tmp 0), _, _, _, none⟩ (.slice A1 (n + 2) c1) rfl (by kernel_rfl) (fun _ _ _ h => h) (Below.refl _ _) (fun W hSW => by go_simp) ?_
  try simp only [Act.put, l0, l1, l2]
  refine tk 1 ⟨some 15, .fieldAddr 29 (.tmp 3) 1, _, _, _, none⟩ (.pointer (some ⟨w.heap.size, 1, none⟩)) rfl (by kernel_rfl) (fun _ _ _ h => h) (Below.refl _ _) (fun W hSW => by go_simp) ?_
  try simp only [Act.put, l0, l1, l2]
  refine tk 2 ⟨some 16, .load 22 (.tmp 15), _, _, _, none⟩ (.int .u64 (r.time : Int)) rfl (by kernel_rfl) (fun _ _ _ h => h) (Below.refl _ _) (fun W hSW => by have hv := (hSW.cell (p := ⟨w.heap.size, 1, none⟩) HQ.out.lt).trans (req_lies HQ.out.src).time; go_simp) ?_
  try simp only [Act.put, l0, l1, l2]
  refine tk 4 ⟨some 18, .fieldAddr 29 (.tmp 3) 2, _, _, _, none⟩ (.pointer (some ⟨w.heap.size, 2, none⟩)) rfl (by kernel_rfl) (fun _ _ _ h => h) (Below.refl _ _) (fun W hSW => by go_simp) ?_
  try simp only [Act.put, l0, l1, l2]
  refine tk 5 ⟨some 19, .fieldAddr 26 (.tmp 18) 5, _, _, _, none⟩ (.pointer (some ⟨w.heap.size, 7, none⟩)) rfl (by kernel_rfl) (fun _ _ _ h => h) (Below.refl _ _) (fun W hSW => by go_simp) ?_
  try simp only [Act.put, l0, l1, l2]
  refine tk 6 ⟨some 20, .load 22 (.tmp 19), _, _, _, none⟩ (.int .u64 (r.op.amount : Int)) rfl (by kernel_rfl) (fun _ _ _ h => h) (Below.refl _ _) (fun W hSW => by have hv := (hSW.cell (p := ⟨w.heap.size, 7, none⟩) HQ.out.lt).trans (req_lies HQ.out.src).op.amount; go_simp) ?_
  try simp only [Act.put, l0, l1, l2]
  refine rdy [3] (by kernel_rfl) ?_
  refine AllReadyH.cons (o := ⟨some 17, .call { callee := .value (.func 38), args := #[.tmp 14, .tmp 16], argTypes := #[63, 22] }, _, _, _, none⟩) rfl (fun K' hK' => ?_) AllReadyH.nil
  go_simp
  go_at_call 38
  refine (rword_ow r.time O3.out (by omega)).mono ?_
  rintro E w4 ⟨Aw4, nw4, cw4, rfl, Hw4, bw4⟩
  have lw4 := Hw4.len
  have Ow4 := Lib.hid Hw4
  clear Hw4
  simp only [List.length_append, be_length, List.length_cons, List.length_nil] at lw4
  refine hK'.out _ _ (bw4.out) (fun _ => wpAnyH_next (bw4.out) ?_)
  clear hK' K'
  try simp only [Act.put, l0, l1, l2]
  refine rdy [7] (by kernel_rfl) ?_
  refine AllReadyH.cons (o := ⟨some 21, .call { callee := .value (.func 38), args := #[.tmp 17, .tmp 20], argTypes := #[63, 22] }, _, _, _, none⟩) rfl (fun K' hK' => ?_) AllReadyH.nil
  go_simp
  go_at_call 38
  refine (rword_ow r.op.amount Ow4.out (by omega)).mono ?_
  rintro E w5 ⟨Aw5, nw5, cw5, rfl, Hw5, bw5⟩
  have lw5 := Hw5.len
  have Ow5 := Lib.hid Hw5
  clear Hw5
  simp only [List.length_append, be_length, List.length_cons, List.length_nil] at lw5
  refine hK'.out _ _ (bw5.out) (fun _ => wpAnyH_next (bw5.out) ?_)
  clear hK' K'
  try simp only [Act.put, l0, l1, l2]
  refine tk 8 ⟨some 0, .assign (.tmp 21), _, _, _, none⟩ (.slice Aw5 nw5 cw5) rfl (by kernel_rfl) (fun _ _ _ h => h) (Below.refl _ _) (fun W hSW => by go_simp) ?_
  try simp only [Act.put, l0, l1]
  refine wpAnyH_done (by kernel_rfl) ?_ _
  have HQ5 := Lib.hid ((HQ.out.next HBB.out bw4.out).next HBB.out bw5.out)
  have HOW : Hid (Ow (w.heap.size + 1) w5 Aw5 nw5 cw5 (bs ++ [byteOf r.client, r.op.kind] ++ be 8 r.time ++ be 8 r.op.amount)) := Lib.hid (Ow5.out.low (by have := HQ.out.lt; have := bw4.out.size; omega))
  clear HQ O3 Ow4 Ow5 bw4 bw5
  have k3 : w5.cell? ⟨w.heap.size, 3, none⟩ = some (.string r.op.key) := (req_lies HQ5.out.src).op.key
  go_wp2_with (first | (go_at_call 59; (with_reducible refine (rtext_ow r.op.key HOW.out (by have := HM.out; omega) (by have := HM.out; omega)).mono ?_); rintro E w6 ⟨Aw6, nw6, cw6, rfl, Hw6, bw6⟩; have lw6 := Hw6.len; have Ow6 := Lib.hid Hw6; clear Hw6; simp only [List.length_append, be_length, List.length_cons, List.length_nil, txtB_len] at lw6; have HQw6 := Lib.hid (HQ5.out.next HBB.out bw6.out); have kw6 : w6.cell? ⟨w.heap.size, 4, none⟩ = some (.string r.op.value) := (req_lies HQw6.out.src).op.value) | (go_at_call 59; (with_reducible refine (rtext_ow r.op.value Ow6.out (by have := HM.out; omega) (by have := HM.out; omega)).mono ?_); rintro E w7 ⟨Aw7, nw7, cw7, rfl, Hw7, bw7⟩; have lw7 := Hw7.len; have Ow7 := Lib.hid Hw7; clear Hw7; simp only [List.length_append, be_length, List.length_cons, List.length_nil, txtB_len] at lw7; have HQw7 := Lib.hid (HQw6.out.next HBB.out bw7.out); have kw7 : w7.cell? ⟨w.heap.size, 5, none⟩ = some (.string r.op.old) := (req_lies HQw7.out.src).op.old) | (go_at_call 59; (with_reducible refine (rtext_ow r.op.old Ow7.out (by have := HM.out; omega) (by have := HM.out; omega)).mono ?_); rintro E w8 ⟨Aw8, nw8, cw8, rfl, Hw8, bw8⟩; have lw8 := Hw8.len; have Ow8 := Lib.hid Hw8; clear Hw8; simp only [List.length_append, be_length, List.length_cons, List.length_nil, txtB_len] at lw8; have HQw8 := Lib.hid (HQw7.out.next HBB.out bw8.out); have kw8 : w8.cell? ⟨w.heap.size, 6, none⟩ = some (.string r.op.to) := (req_lies HQw8.out.src).op.to) | (go_at_call 59; (with_reducible refine (rtext_ow r.op.to Ow8.out (by have := HM.out; omega) (by have := HM.out; omega)).mono ?_); rintro E w9 ⟨Aw9, nw9, cw9, rfl, Hw9, bw9⟩; have lw9 := Hw9.len; have Ow9 := Lib.hid Hw9; clear Hw9; simp only [List.length_append, be_length, List.length_cons, List.length_nil, txtB_len] at lw9; have HQw9 := Lib.hid (HQw8.out.next HBB.out bw9.out)))
  go_ret
  have HE : bs ++ [byteOf r.client, r.op.kind] ++ be 8 r.time ++ be 8 r.op.amount ++ txtB r.op.key ++ txtB r.op.value ++ txtB r.op.old ++ txtB r.op.to = bs ++ reqB r := by simp [reqB]
  exact ⟨_, _, _, rfl, by rw [← HE]; exact Ow9.out.low (by have := HQw8.out.lt; omega), Lib.hid HQw9.out.bel⟩
end Go.Proofs.YtgdcnakcjomllaaDoor.Sh
