/-
  What is proved: Authentic, by the program and by the document; all of a request's. Conditions as stated.
-/
import Derived.Test.YtghjogneogkpoaaGreatDoorQcc
namespace Go.Proofs.YtghjogneogkpoaaGreatDoor.Sh
open Go.RowKit
set_option maxRecDepth 100000

set_option maxHeartbeats 8000000 in
theorem authentic_by (r : MReq) (z q : Bool) (out : List UInt8) (w : World) (hr : r.tag.length = 32) (ho : out.length = 32)
    (HA : Hid (∀ W, Below w.heap.size w W → Calls Tryz.prog 27 #[.agg (reqC r).toArray] W fun E w' => E = .returned (.bool z) ∧ Hid (Below W.heap.size W w')))
    (HT : Hid (z = true → ∀ W, Below w.heap.size w W → Calls Tryz.prog 57 #[.agg (reqC r).toArray] W fun E w' => E = .returned (.agg (u8s out).toArray) ∧ Hid (Below W.heap.size W w')))
    (HS : Hid (∀ W, Below w.heap.size w W → Calls Tryz.prog 58 #[.agg (u8s r.tag).toArray, .agg (u8s out).toArray] W fun E w' => E = .returned (.bool q) ∧ Hid (Below W.heap.size W w'))) :
    Calls Tryz.prog 30 #[.agg (reqC r).toArray] w fun E w' => E = .returned (.bool (z && q)) ∧ Hid (Below w.heap.size w w') := by
  have HIR : Hid ((Tryz.prog.info? 29).map (·.size) = some (reqC r).length) := Lib.hid (by rw [reqC_length hr]; exact Tryz.is29)
  have HTI : Hid ((Tryz.prog.info? 27).map (·.size) = some (u8s r.tag).length) := Lib.hid (by rw [u8s_length, hr]; exact Tryz.size27)
  have HRQ := Lib.hid hr
  have HLO := Lib.hid ho
  have H0 : Hid (RqAt w.heap.size w (reqC r) (w.alloc (.cells (reqC r).toArray 29))) := Lib.hid ⟨(Below.refl _ _).alloc (Nat.le_refl _) _, by simp, range_box w (reqC r) 29⟩
  clear hr ho
  cases z
  · go_enter Tryz.func30, Tryz.ntmps30
    go_wp2_with fail
    refine wp_region_any (by kernel_rfl) ?_
    have H3 := Lib.hid (H0.out.drewN 1)
    change wpAny _ _ _ _ _ _ _ ((w.alloc (.cells (reqC r).toArray 29)).drewN 1)
    generalize (w.alloc (.cells (reqC r).toArray 29)).drewN 1 = w3 at H3 ⊢
    refine wpAny_of_held (S := fun W => W.rangeAt w.heap.size 0 (reqC r)) _ _ _ _ ?_
    refine tk 0 ⟨some 3, .load 29 (.tmp 1), _, _, _, none⟩ (.agg (reqC r).toArray) rfl (by kernel_rfl) (fun _ _ _ h => h) (H3.out.src) (fun W hSW => exec_load_mid 29 (.tmp 1) rfl w.heap.size 0 rfl (reqC r) _ (hSW) Tryz.underlying29 rfl (HIR.out)) ?_
    try simp only [Act.put, l0, l1, l2]
    refine rdy [1] (by kernel_rfl) ?_
    refine AllReadyH.cons (o := ⟨some 4, .call { callee := .value (.func 27), args := #[.tmp 3], argTypes := #[29] }, _, _, _, none⟩) rfl (fun K' hK' => ?_) AllReadyH.nil
    go_simp
    go_at_call 27
    refine (HA.out w3 H3.out.bel).mono ?_
    rintro E w4 ⟨rfl, b4⟩
    have H4 := Lib.hid (H3.out.next (Nat.le_refl _) b4.out)
    refine hK'.out _ _ (H4.out.src) (fun _ => ?_)
    clear hK' K'
    try simp only [Act.put, l0, l1, l2]
    refine tk 2 ⟨some 5, .move (.tmp 4), _, _, _, none⟩ (.bool false) rfl (by kernel_rfl) (fun _ _ _ h => h) (H4.out.src) (fun W hSW => by go_simp) ?_
    try simp only [Act.put, l0, l1, l2]
    refine sk 3 ⟨some 6, .fieldAddr 29 (.tmp 1) 3, _, _, _, some (2, true)⟩ rfl (by kernel_rfl) (fun _ _ _ h => h) (H4.out.src) ?_
    try simp only [Act.put, l0, l1, l2]
    refine sk 4 ⟨some 7, .load 27 (.tmp 6), _, _, _, some (2, true)⟩ rfl (by kernel_rfl) (fun _ _ _ h => h) (H4.out.src) ?_
    try simp only [Act.put, l0, l1, l2]
    refine sk 5 ⟨some 8, .load 29 (.tmp 1), _, _, _, some (2, true)⟩ rfl (by kernel_rfl) (fun _ _ _ h => h) (H4.out.src) ?_
    try simp only [Act.put, l0, l1, l2]
    refine sk 6 ⟨some 9, .call { callee := .value (.func 57), args := #[.tmp 8], argTypes := #[29] }, _, _, _, some (2, true)⟩ rfl (by kernel_rfl) (fun _ _ _ h => h) (H4.out.src) ?_
    try simp only [Act.put, l0, l1, l2]
    refine sk 7 ⟨some 10, .call { callee := .value (.func 58), args := #[.tmp 7, .tmp 9], argTypes := #[27, 27] }, _, _, _, some (2, true)⟩ rfl (by kernel_rfl) (fun _ _ _ h => h) (H4.out.src) ?_
    try simp only [Act.put, l0, l1, l2]
    refine tk 8 ⟨some 11, .pick (.tmp 5) (.tmp 10) (.const (.bool false)), _, _, _, none⟩ (.bool false) rfl (by kernel_rfl) (fun _ _ _ h => h) (H4.out.src) (fun W hSW => by go_simp) ?_
    try simp only [Act.put, l0, l1, l2]
    refine tk 9 ⟨some 2, .assign (.tmp 11), _, _, _, none⟩ (.bool false) rfl (by kernel_rfl) (fun _ _ _ h => h) (H4.out.src) (fun W hSW => by go_simp) ?_
    try simp only [Act.put, l0, l1, l2]
    refine wpAnyH_done (by kernel_rfl) ?_ _
    go_wp2_with fail
    go_ret
    exact ⟨rfl, Lib.hid H4.out.bel⟩
  · go_enter Tryz.func30, Tryz.ntmps30
    go_wp2_with fail
    refine wp_region_any (by kernel_rfl) ?_
    have H3 := Lib.hid (H0.out.drewN 1)
    change wpAny _ _ _ _ _ _ _ ((w.alloc (.cells (reqC r).toArray 29)).drewN 1)
    generalize (w.alloc (.cells (reqC r).toArray 29)).drewN 1 = w3 at H3 ⊢
    refine wpAny_of_held (S := fun W => W.rangeAt w.heap.size 0 (reqC r)) _ _ _ _ ?_
    refine tk 0 ⟨some 3, .load 29 (.tmp 1), _, _, _, none⟩ (.agg (reqC r).toArray) rfl (by kernel_rfl) (fun _ _ _ h => h) (H3.out.src) (fun W hSW => exec_load_mid 29 (.tmp 1) rfl w.heap.size 0 rfl (reqC r) _ (hSW) Tryz.underlying29 rfl (HIR.out)) ?_
    try simp only [Act.put, l0, l1, l2]
    refine rdy [1] (by kernel_rfl) ?_
    refine AllReadyH.cons (o := ⟨some 4, .call { callee := .value (.func 27), args := #[.tmp 3], argTypes := #[29] }, _, _, _, none⟩) rfl (fun K' hK' => ?_) AllReadyH.nil
    go_simp
    go_at_call 27
    refine (HA.out w3 H3.out.bel).mono ?_
    rintro E w4 ⟨rfl, b4⟩
    have H4 := Lib.hid (H3.out.next (Nat.le_refl _) b4.out)
    refine hK'.out _ _ (H4.out.src) (fun _ => ?_)
    clear hK' K'
    try simp only [Act.put, l0, l1, l2]
    refine tk 2 ⟨some 5, .move (.tmp 4), _, _, _, none⟩ (.bool true) rfl (by kernel_rfl) (fun _ _ _ h => h) (H4.out.src) (fun W hSW => by go_simp) ?_
    try simp only [Act.put, l0, l1, l2]
    refine tk 3 ⟨some 6, .fieldAddr 29 (.tmp 1) 3, _, _, _, some (2, true)⟩ (.pointer (some ⟨w.heap.size, 8, none⟩)) rfl (by kernel_rfl) (fun _ _ _ h => h) (H4.out.src) (fun W hSW => by go_simp) ?_
    try simp only [Act.put, l0, l1, l2]
    refine tk 4 ⟨some 7, .load 27 (.tmp 6), _, _, _, some (2, true)⟩ (.agg (u8s r.tag).toArray) rfl (by kernel_rfl) (fun _ _ _ h => h) (H4.out.src) (fun W hSW => exec_load_mid 27 (.tmp 6) rfl w.heap.size 8 rfl (u8s r.tag) _ ((req_lies hSW).tag) Tryz.underlying27 rfl (HTI.out)) ?_
    try simp only [Act.put, l0, l1, l2]
    refine tk 5 ⟨some 8, .load 29 (.tmp 1), _, _, _, some (2, true)⟩ (.agg (reqC r).toArray) rfl (by kernel_rfl) (fun _ _ _ h => h) (H4.out.src) (fun W hSW => exec_load_mid 29 (.tmp 1) rfl w.heap.size 0 rfl (reqC r) _ (hSW) Tryz.underlying29 rfl (HIR.out)) ?_
    try simp only [Act.put, l0, l1, l2]
    refine rdy [6] (by kernel_rfl) ?_
    refine AllReadyH.cons (o := ⟨some 9, .call { callee := .value (.func 57), args := #[.tmp 8], argTypes := #[29] }, _, _, _, some (2, true)⟩) rfl (fun K' hK' => ?_) AllReadyH.nil
    go_simp
    go_at_call 57
    refine (HT.out (by simp) w4 H4.out.bel).mono ?_
    rintro E w5 ⟨rfl, b5⟩
    have H5 := Lib.hid (H4.out.next (Nat.le_refl _) b5.out)
    refine hK'.out _ _ (H5.out.src) (fun _ => ?_)
    clear hK' K'
    try simp only [Act.put, l0, l1, l2]
    refine rdy [7] (by kernel_rfl) ?_
    refine AllReadyH.cons (o := ⟨some 10, .call { callee := .value (.func 58), args := #[.tmp 7, .tmp 9], argTypes := #[27, 27] }, _, _, _, some (2, true)⟩) rfl (fun K' hK' => ?_) AllReadyH.nil
    go_simp
    go_at_call 58
    refine (HS.out w5 H5.out.bel).mono ?_
    rintro E w6 ⟨rfl, b6⟩
    have H6 := Lib.hid (H5.out.next (Nat.le_refl _) b6.out)
    refine hK'.out _ _ (H6.out.src) (fun _ => ?_)
    clear hK' K'
    try simp only [Act.put, l0, l1, l2]
    refine tk 8 ⟨some 11, .pick (.tmp 5) (.tmp 10) (.const (.bool false)), _, _, _, none⟩ (.bool q) rfl (by kernel_rfl) (fun _ _ _ h => h) (H6.out.src) (fun W hSW => by go_simp) ?_
    try simp only [Act.put, l0, l1, l2]
    refine tk 9 ⟨some 2, .assign (.tmp 11), _, _, _, none⟩ (.bool q) rfl (by kernel_rfl) (fun _ _ _ h => h) (H6.out.src) (fun W hSW => by go_simp) ?_
    try simp only [Act.put, l0, l1, l2]
    refine wpAnyH_done (by kernel_rfl) ?_ _
    go_wp2_with fail
    go_ret
    exact ⟨rfl, Lib.hid H6.out.bel⟩
set_option maxHeartbeats 8000000 in
theorem authentic_rfby (r : MReq) (z q : Bool) (out : List UInt8) (w : World) (hr : r.tag.length = 32) (ho : out.length = 32) (hq : q = true ↔ out = r.tag)
    (HA : Hid (∀ W, Below w.heap.size w W → Calls Tryz.prog 28 #[.agg (reqC r).toArray] W fun E w' => E = .returned (.bool z) ∧ Hid (Below W.heap.size W w')))
    (HT : Hid (z = true → ∀ W, Below w.heap.size w W → Calls Tryz.prog 26 #[.agg (reqC r).toArray] W fun E w' => E = .returned (.agg (reqC { r with tag := out }).toArray) ∧ Hid (Below W.heap.size W w'))) :
    Calls Tryz.prog 31 #[.agg (reqC r).toArray] w fun E w' => E = .returned (.bool (z && q)) ∧ Hid (Below w.heap.size w w') := by
  have HIR : Hid ((Tryz.prog.info? 29).map (·.size) = some (reqC r).length) := Lib.hid (by rw [reqC_length hr]; exact Tryz.is29)
  have HTI : Hid ((Tryz.prog.info? 27).map (·.size) = some (u8s r.tag).length) := Lib.hid (by rw [u8s_length, hr]; exact Tryz.size27)
  have HRQ := Lib.hid hr
  have HLO := Lib.hid ho
  have H0 : Hid (RqAt w.heap.size w (reqC r) (w.alloc (.cells (reqC r).toArray 29))) := Lib.hid ⟨(Below.refl _ _).alloc (Nat.le_refl _) _, by simp, range_box w (reqC r) 29⟩
  clear hr ho
  cases z
  · go_enter Tryz.func31, Tryz.ntmps31
    go_wp2_with fail
    refine wp_region_any (by kernel_rfl) ?_
    have H3 := Lib.hid (H0.out.drewN 1)
    change wpAny _ _ _ _ _ _ _ ((w.alloc (.cells (reqC r).toArray 29)).drewN 1)
    generalize (w.alloc (.cells (reqC r).toArray 29)).drewN 1 = w3 at H3 ⊢
    refine wpAny_of_held (S := fun W => W.rangeAt w.heap.size 0 (reqC r)) _ _ _ _ ?_
    refine tk 0 ⟨some 3, .load 29 (.tmp 1), _, _, _, none⟩ (.agg (reqC r).toArray) rfl (by kernel_rfl) (fun _ _ _ h => h) (H3.out.src) (fun W hSW => exec_load_mid 29 (.tmp 1) rfl w.heap.size 0 rfl (reqC r) _ (hSW) Tryz.underlying29 rfl (HIR.out)) ?_
    try simp only [Act.put, l0, l1, l2]
    refine rdy [1] (by kernel_rfl) ?_
    refine AllReadyH.cons (o := ⟨some 4, .call { callee := .value (.func 28), args := #[.tmp 3], argTypes := #[29] }, _, _, _, none⟩) rfl (fun K' hK' => ?_) AllReadyH.nil
    go_simp
    go_at_call 28
    refine (HA.out w3 H3.out.bel).mono ?_
    rintro E w4 ⟨rfl, b4⟩
    have H4 := Lib.hid (H3.out.next (Nat.le_refl _) b4.out)
    refine hK'.out _ _ (H4.out.src) (fun _ => ?_)
    clear hK' K'
    try simp only [Act.put, l0, l1, l2]
    refine tk 2 ⟨some 5, .move (.tmp 4), _, _, _, none⟩ (.bool false) rfl (by kernel_rfl) (fun _ _ _ h => h) (H4.out.src) (fun W hSW => by go_simp) ?_
    try simp only [Act.put, l0, l1, l2]
    refine sk 3 ⟨some 6, .load 29 (.tmp 1), _, _, _, some (2, true)⟩ rfl (by kernel_rfl) (fun _ _ _ h => h) (H4.out.src) ?_
    try simp only [Act.put, l0, l1, l2]
    refine sk 4 ⟨some 7, .call { callee := .value (.func 26), args := #[.tmp 6], argTypes := #[29] }, _, _, _, some (2, true)⟩ rfl (by kernel_rfl) (fun _ _ _ h => h) (H4.out.src) ?_
    try simp only [Act.put, l0, l1, l2]
    refine sk 5 ⟨some 8, .field 29 (.tmp 7) 3, _, _, _, some (2, true)⟩ rfl (by kernel_rfl) (fun _ _ _ h => h) (H4.out.src) ?_
    try simp only [Act.put, l0, l1, l2]
    refine sk 6 ⟨some 9, .fieldAddr 29 (.tmp 1) 3, _, _, _, some (2, true)⟩ rfl (by kernel_rfl) (fun _ _ _ h => h) (H4.out.src) ?_
    try simp only [Act.put, l0, l1, l2]
    refine sk 7 ⟨some 10, .load 27 (.tmp 9), _, _, _, some (2, true)⟩ rfl (by kernel_rfl) (fun _ _ _ h => h) (H4.out.src) ?_
    try simp only [Act.put, l0, l1, l2]
    refine sk 8 ⟨some 11, .binOp .eql 27 (.tmp 8) (.tmp 10) 27, _, _, _, some (2, true)⟩ rfl (by kernel_rfl) (fun _ _ _ h => h) (H4.out.src) ?_
    try simp only [Act.put, l0, l1, l2]
    refine tk 9 ⟨some 12, .pick (.tmp 5) (.tmp 11) (.const (.bool false)), _, _, _, none⟩ (.bool false) rfl (by kernel_rfl) (fun _ _ _ h => h) (H4.out.src) (fun W hSW => by go_simp) ?_
    try simp only [Act.put, l0, l1, l2]
    refine tk 10 ⟨some 2, .assign (.tmp 12), _, _, _, none⟩ (.bool false) rfl (by kernel_rfl) (fun _ _ _ h => h) (H4.out.src) (fun W hSW => by go_simp) ?_
    try simp only [Act.put, l0, l1, l2]
    refine wpAnyH_done (by kernel_rfl) ?_ _
    go_wp2_with fail
    go_ret
    exact ⟨rfl, Lib.hid H4.out.bel⟩
  · go_enter Tryz.func31, Tryz.ntmps31
    go_wp2_with fail
    refine wp_region_any (by kernel_rfl) ?_
    have H3 := Lib.hid (H0.out.drewN 1)
    change wpAny _ _ _ _ _ _ _ ((w.alloc (.cells (reqC r).toArray 29)).drewN 1)
    generalize (w.alloc (.cells (reqC r).toArray 29)).drewN 1 = w3 at H3 ⊢
    refine wpAny_of_held (S := fun W => W.rangeAt w.heap.size 0 (reqC r)) _ _ _ _ ?_
    refine tk 0 ⟨some 3, .load 29 (.tmp 1), _, _, _, none⟩ (.agg (reqC r).toArray) rfl (by kernel_rfl) (fun _ _ _ h => h) (H3.out.src) (fun W hSW => exec_load_mid 29 (.tmp 1) rfl w.heap.size 0 rfl (reqC r) _ (hSW) Tryz.underlying29 rfl (HIR.out)) ?_
    try simp only [Act.put, l0, l1, l2]
    refine rdy [1] (by kernel_rfl) ?_
    refine AllReadyH.cons (o := ⟨some 4, .call { callee := .value (.func 28), args := #[.tmp 3], argTypes := #[29] }, _, _, _, none⟩) rfl (fun K' hK' => ?_) AllReadyH.nil
    go_simp
    go_at_call 28
    refine (HA.out w3 H3.out.bel).mono ?_
    rintro E w4 ⟨rfl, b4⟩
    have H4 := Lib.hid (H3.out.next (Nat.le_refl _) b4.out)
    refine hK'.out _ _ (H4.out.src) (fun _ => ?_)
    clear hK' K'
    try simp only [Act.put, l0, l1, l2]
    refine tk 2 ⟨some 5, .move (.tmp 4), _, _, _, none⟩ (.bool true) rfl (by kernel_rfl) (fun _ _ _ h => h) (H4.out.src) (fun W hSW => by go_simp) ?_
    try simp only [Act.put, l0, l1, l2]
    refine tk 3 ⟨some 6, .load 29 (.tmp 1), _, _, _, some (2, true)⟩ (.agg (reqC r).toArray) rfl (by kernel_rfl) (fun _ _ _ h => h) (H4.out.src) (fun W hSW => exec_load_mid 29 (.tmp 1) rfl w.heap.size 0 rfl (reqC r) _ (hSW) Tryz.underlying29 rfl (HIR.out)) ?_
    try simp only [Act.put, l0, l1, l2]
    refine tk 6 ⟨some 9, .fieldAddr 29 (.tmp 1) 3, _, _, _, some (2, true)⟩ (.pointer (some ⟨w.heap.size, 8, none⟩)) rfl (by kernel_rfl) (fun _ _ _ h => h) (H4.out.src) (fun W hSW => by go_simp) ?_
    try simp only [Act.put, l0, l1, l2]
    refine tk 7 ⟨some 10, .load 27 (.tmp 9), _, _, _, some (2, true)⟩ (.agg (u8s r.tag).toArray) rfl (by kernel_rfl) (fun _ _ _ h => h) (H4.out.src) (fun W hSW => exec_load_mid 27 (.tmp 9) rfl w.heap.size 8 rfl (u8s r.tag) _ ((req_lies hSW).tag) Tryz.underlying27 rfl (HTI.out)) ?_
    try simp only [Act.put, l0, l1, l2]
    refine rdy [4] (by kernel_rfl) ?_
    refine AllReadyH.cons (o := ⟨some 7, .call { callee := .value (.func 26), args := #[.tmp 6], argTypes := #[29] }, _, _, _, some (2, true)⟩) rfl (fun K' hK' => ?_) AllReadyH.nil
    go_simp
    go_at_call 26
    refine (HT.out (by simp) w4 H4.out.bel).mono ?_
    rintro E w5 ⟨rfl, b5⟩
    have H5 := Lib.hid (H4.out.next (Nat.le_refl _) b5.out)
    refine hK'.out _ _ (H5.out.src) (fun _ => ?_)
    clear hK' K'
    try simp only [Act.put, l0, l1, l2]
    refine tk 5 ⟨some 8, .field 29 (.tmp 7) 3, _, _, _, some (2, true)⟩ (.agg (u8s out).toArray) rfl (by kernel_rfl) (fun _ _ _ h => h) (H5.out.src) (fun W hSW => by have hf := field_tag { r with tag := out } HLO.out W; go_simp) ?_
    try simp only [Act.put, l0, l1, l2]
    refine tk 8 ⟨some 11, .binOp .eql 27 (.tmp 8) (.tmp 10) 27, _, _, _, some (2, true)⟩ (.bool q) rfl (by kernel_rfl) (fun _ _ _ h => h) (H5.out.src) (fun W hSW => by have hf := eq_tag_of (d := 9998) out r.tag HLO.out HRQ.out hq W; go_simp) ?_
    try simp only [Act.put, l0, l1, l2]
    refine tk 9 ⟨some 12, .pick (.tmp 5) (.tmp 11) (.const (.bool false)), _, _, _, none⟩ (.bool q) rfl (by kernel_rfl) (fun _ _ _ h => h) (H5.out.src) (fun W hSW => by go_simp) ?_
    try simp only [Act.put, l0, l1, l2]
    refine tk 10 ⟨some 2, .assign (.tmp 12), _, _, _, none⟩ (.bool q) rfl (by kernel_rfl) (fun _ _ _ h => h) (H5.out.src) (fun W hSW => by go_simp) ?_
    try simp only [Act.put, l0, l1, l2]
    refine wpAnyH_done (by kernel_rfl) ?_ _
    go_wp2_with fail
    go_ret
    exact ⟨rfl, Lib.hid H5.out.bel⟩

theorem tagOf_ms (r : MReq) (w : World) (hr : r.tag.length = 32) (hm : reqMay r = true) (hk : KIs w) (h0 : 0 < w.heap.size) :
    Calls Tryz.prog 57 #[.agg (reqC r).toArray] w fun E w' => E = .returned (.agg (u8s (tagReq r)).toArray) ∧ Hid (Below w.heap.size w w') := by
  have hkl : (cliKey r.client).length ≤ 32 := keyI_length _ _ _
  have hrl := reqB_len hm
  refine tagOf_msby r (cliKey r.client) (tagReq r) w hr (tagReq_len r)
    (Lib.hid fun W h => (client_any r.client W (hk.below h h0) (Nat.lt_of_lt_of_le h0 h.size)).mono fun _ _ ⟨A, c, he, hx, hb⟩ => ⟨A, _, c, he, Lib.hid ⟨hx.out.1.mono fun _ _ _ => trivial, hx.out.2⟩, Lib.hid hb⟩)
    (Lib.hid fun W h => (putRequest_ms r W.heap.size 0 0 W none [] (Ow.nil _ _) (Nat.le_refl _) (by omega) hm).mono fun _ _ ⟨A, n, c, he, hx, hb⟩ => ⟨A, n, c, he, Lib.hid (by simpa using hx), hb⟩)
    (Lib.hid fun W A n c A' n' c' h h1 h2 => ?_)
  have e1 := h1.1.1
  have e2 := h2.len
  exact (of_any (cliKey r.client) (reqB r) A n c A' n' c' W h1.1 h1.2 h2.rd h2.2 (by omega) (by omega) (hk.below h h0) (Nat.lt_of_lt_of_le h0 h.size)).mono fun _ _ hE => ⟨hE.1, Lib.hid hE.2⟩
theorem signed_ms (r : MReq) (w : World) (hr : r.tag.length = 32) (hk : KIs w) (h0 : 0 < w.heap.size) :
    Calls Tryz.prog 29 #[.agg (reqC r).toArray] w fun E w' => E = .returned (.agg (reqC (signR r)).toArray) ∧ Hid (Below w.heap.size w w') :=
  signed_by r (reqMay r) (tagReq r) w hr (tagReq_len r) (Lib.hid fun W _ => (asked_ms r W).mono fun _ _ hE => ⟨hE.1, Lib.hid hE.2⟩) (Lib.hid fun hm W h => tagOf_ms r W hr hm (hk.below h h0) (Nat.lt_of_lt_of_le h0 h.size))
theorem signed_rf (r : MReq) (w : World) (hr : r.tag.length = 32) (hk : KIs w) (h0 : 0 < w.heap.size) :
    Calls Tryz.prog 26 #[.agg (reqC r).toArray] w fun E w' => E = .returned (.agg (reqC (signR r)).toArray) ∧ Hid (Below w.heap.size w w') := by
  have hkl : (cliKey r.client).length ≤ 32 := keyI_length _ _ _
  refine signed_rfby r (reqMay r) (cliKey r.client) (tagReq r) w hr (tagReq_len r) (Lib.hid fun W _ => (asked_rf r W).mono fun _ _ hE => ⟨hE.1, Lib.hid hE.2⟩)
    (Lib.hid fun W h => (refClient_any r.client W (hk.below h h0) (Nat.lt_of_lt_of_le h0 h.size)).mono fun _ _ ⟨A, c, he, hx, hb⟩ => ⟨A, _, c, he, Lib.hid ⟨hx.out.1.mono fun _ _ _ => trivial, hx.out.2⟩, Lib.hid hb⟩)
    (Lib.hid fun hm W h => (request_rf r W.heap.size 0 0 W none [] (Ow.nil _ _) (Nat.le_refl _) (by omega) hm).mono fun _ _ ⟨A, n, c, he, hx, hb⟩ => ⟨A, n, c, he, Lib.hid (by simpa using hx), hb⟩)
    (Lib.hid fun hm W A n c A' n' c' h h1 h2 => ?_)
  have e1 := h1.1.1
  have e2 := h2.len
  have hrl := reqB_len hm
  exact (refOf_any (cliKey r.client) (reqB r) A n c A' n' c' W (by omega) (by omega) h1.1 h1.2 h2.rd h2.2 (hk.below h h0) (Nat.lt_of_lt_of_le h0 h.size)).mono fun _ _ hE => ⟨hE.1, Lib.hid hE.2⟩
theorem authentic_ms (r : MReq) (w : World) (hr : r.tag.length = 32) (hk : KIs w) (h0 : 0 < w.heap.size) :
    Calls Tryz.prog 30 #[.agg (reqC r).toArray] w fun E w' => E = .returned (.bool (authR r)) ∧ Hid (Below w.heap.size w w') :=
  authentic_by r (reqMay r) (decide (r.tag = tagReq r)) (tagReq r) w hr (tagReq_len r) (Lib.hid fun W _ => (asked_ms r W).mono fun _ _ hE => ⟨hE.1, Lib.hid hE.2⟩) (Lib.hid fun hm W h => tagOf_ms r W hr hm (hk.below h h0) (Nat.lt_of_lt_of_le h0 h.size))
    (Lib.hid fun W _ => (same_tags r.tag (tagReq r) W hr (tagReq_len r)).mono fun _ _ hE => ⟨hE.1, Lib.hid hE.2⟩)
theorem authentic_rf (r : MReq) (w : World) (hr : r.tag.length = 32) (hk : KIs w) (h0 : 0 < w.heap.size) :
    Calls Tryz.prog 31 #[.agg (reqC r).toArray] w fun E w' => E = .returned (.bool (authR r)) ∧ Hid (Below w.heap.size w w') :=
  authentic_rfby r (reqMay r) (decide (r.tag = tagReq r)) (tagReq r) w hr (tagReq_len r) (by rw [decide_eq_true_iff]; exact eq_comm) (Lib.hid fun W _ => (asked_rf r W).mono fun _ _ hE => ⟨hE.1, Lib.hid hE.2⟩)
    (Lib.hid fun hm W h => (signed_rf r W hr (hk.below h h0) (Nat.lt_of_lt_of_le h0 h.size)).mono fun _ _ hE => ⟨by rw [hE.1, signR, if_pos hm], hE.2⟩)
end Go.Proofs.YtghjogneogkpoaaGreatDoor.Sh
