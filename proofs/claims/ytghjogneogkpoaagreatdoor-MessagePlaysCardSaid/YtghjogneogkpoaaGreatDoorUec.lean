/-
  What is proved: any message: whether it may be, its bytes, and whether its tag is right, are the document's (MessagePlays). Conditions as stated.
-/
import Derived.Test.YtghjogneogkpoaaGreatDoorUdc
import Derived.Test.YtghjogneogkpoaaGreatDoorFwc
import Derived.Test.YtghjogneogkpoaaGreatDoorVBc
namespace Go.Proofs.YtghjogneogkpoaaGreatDoor.Sh
open Go.RowKit
set_option maxRecDepth 100000

set_option maxHeartbeats 8000000 in
theorem plays_f (m : MMsg) (bs ps : List UInt8) (az rz : Bool) (w : World) (hm : m.Wf) (hx : m.Wf)
    (HA : Hid (m.body.qs.length ≤ 40 → ∀ W, Below w.heap.size w W → Calls Tryz.prog 13 #[.agg (msgC m).toArray] W fun E w' => E = .returned (.bool az) ∧ Hid (Below W.heap.size W w')))
    (HB : Hid (m.body.qs.length ≤ 40 → ∀ W, Below w.heap.size w W → Calls Tryz.prog 14 #[.agg (msgC m).toArray] W fun E w' => E = .returned (.bool az) ∧ Hid (Below W.heap.size W w')))
    (HC : Hid (m.body.qs.length ≤ 40 → ∀ W, Below w.heap.size w W → Calls Tryz.prog 15 #[.agg (msgC m).toArray] W fun E w' => (∃ A n c, E = .returned (.slice A n c) ∧ Hid (Ow W.heap.size w' A n c bs)) ∧ Hid (Below W.heap.size W w')))
    (HD : Hid (m.body.qs.length ≤ 40 → ∀ W, Below w.heap.size w W → Calls Tryz.prog 16 #[.agg (msgC m).toArray] W fun E w' => (∃ A n c, E = .returned (.slice A n c) ∧ Hid (Ow W.heap.size w' A n c bs)) ∧ Hid (Below W.heap.size W w')))
    (HE : Hid (m.body.qs.length ≤ 40 → ∀ W, Below w.heap.size w W → Calls Tryz.prog 17 #[.agg (msgC m).toArray] W fun E w' => (∃ A n c, E = .returned (.slice A n c) ∧ Hid (Ow W.heap.size w' A n c ps)) ∧ Hid (Below W.heap.size W w')))
    (HF : Hid (m.body.qs.length ≤ 40 → ∀ W, Below w.heap.size w W → Calls Tryz.prog 18 #[.agg (msgC m).toArray] W fun E w' => (∃ A n c, E = .returned (.slice A n c) ∧ Hid (Ow W.heap.size w' A n c ps)) ∧ Hid (Below W.heap.size W w')))
    (HG : Hid (m.body.qs.length ≤ 40 → ∀ W, Below w.heap.size w W → Calls Tryz.prog 19 #[.agg (msgC m).toArray] W fun E w' => E = .returned (.bool rz) ∧ Hid (Below W.heap.size W w')))
    (HH : Hid (m.body.qs.length ≤ 40 → ∀ W, Below w.heap.size w W → Calls Tryz.prog 20 #[.agg (msgC m).toArray] W fun E w' => E = .returned (.bool rz) ∧ Hid (Below W.heap.size W w')))
    (HF0 : Hid (∀ W, Below w.heap.size w W → Calls Tryz.prog 10 #[.agg (msgC m).toArray] W fun E w' => (∃ z, E = .returned (.bool z) ∧ (z = true → m.body.qs.length ≤ 40)) ∧ Hid (Below W.heap.size W w')))
    (HW : Hid (∀ W, Below w.heap.size w W → Calls Tryz.prog 11 #[] W fun E w' => E = .returned (.bool true) ∧ Hid (Below W.heap.size W w'))) :
    Calls Tryz.prog 3 #[.agg (msgC m).toArray, .bool false] w fun E w' => E = .returned (.bool true) ∧ Below w.heap.size w w' := by
  have HI : Hid ((Tryz.prog.info? 34).map (·.size) = some (msgC m).length) := Lib.hid (by rw [msgC_length hm]; exact Tryz.is34)
  have HIX : Hid ((Tryz.prog.info? 34).map (·.size) = some (msgC m).length) := Lib.hid (by rw [msgC_length hx]; exact Tryz.is34)
  have H0 : Hid (RqAt w.heap.size w (msgC m) (w.alloc (.cells (msgC m).toArray 34))) := Lib.hid ⟨(Below.refl _ _).alloc (Nat.le_refl _) _, by simp, range_box w (msgC m) 34⟩
  have HLT : Hid (0 + (msgC m).length ≤ (msgC m).length ∧ setAll (msgC m) 0 (msgC m) = msgC m) := Lib.hid ⟨by have e1 := msgC_length hm; have e2 := msgC_length hx; omega, setAll_all ((msgC_length hm).trans (msgC_length hx).symm)⟩
  obtain ⟨bS, hbS⟩ : ∃ S, str bs = S := ⟨_, rfl⟩
  obtain ⟨pS, hpS⟩ : ∃ S, str ps = S := ⟨_, rfl⟩
  have HBS := Lib.hid hbS
  have HPS := Lib.hid hpS
  clear hm hx hbS hpS
  go_enter Tryz.func3, Tryz.ntmps3
  go_wp2_with (((with_reducible refine wpList_load_midG ?_ 34 (.tmp 2) ?_ w.heap.size 0 ?_ (msgC m) _ ?_ Tryz.underlying34 ?_ ?_ ?_); (· rfl); (· rfl); (· rfl); (· exact H0.out.src); (· rfl); (· exact HI.out)))
  go_at_call 10
  with_reducible refine (HF0.out _ H0.out.bel).mono ?_
  rintro E w1 ⟨⟨z, rfl, hz⟩, b1⟩
  have H1 := Lib.hid (H0.out.next (Nat.le_refl _) b1.out)
  cases z
  · go_wp2_with ((go_at_call 11; (with_reducible refine (HW.out _ H1.out.bel).mono ?_); rintro E w7 ⟨rfl, b7⟩; have H7 := Lib.hid (H1.out.next (Nat.le_refl _) b7.out)))
    go_ret
    exact ⟨rfl, H7.out.bel⟩
  · have HZ := Lib.hid (hz rfl)
    clear hz
    go_wp2_with fail
    refine wp_region_any (by kernel_rfl) ?_
    have H3 := Lib.hid (H1.out.drewN 1)
    change wpAny _ _ _ _ _ _ _ (w1.drewN 1)
    generalize w1.drewN 1 = w3 at H3 ⊢
    refine wpAny_of_held (S := fun W => Below w3.heap.size w3 W) _ _ _ _ ?_
    refine tk 0 ⟨some 12, .load 34 (.tmp 2), _, _, _, none⟩ (.agg (msgC m).toArray) rfl (by kernel_rfl) (fun _ _ _ h => h) (Below.refl _ _) (fun W hSW => exec_load_mid 34 (.tmp 2) rfl w.heap.size 0 rfl (msgC m) _ (rangeAt_below H3.out.src hSW H3.out.lt) Tryz.underlying34 rfl (HIX.out)) ?_
    try simp only [Act.put, l0, l1, l2]
    refine tk 2 ⟨some 14, .load 34 (.tmp 2), _, _, _, none⟩ (.agg (msgC m).toArray) rfl (by kernel_rfl) (fun _ _ _ h => h) (Below.refl _ _) (fun W hSW => exec_load_mid 34 (.tmp 2) rfl w.heap.size 0 rfl (msgC m) _ (rangeAt_below H3.out.src hSW H3.out.lt) Tryz.underlying34 rfl (HIX.out)) ?_
    try simp only [Act.put, l0, l1, l2]
    refine rdy [1] (by kernel_rfl) ?_
    refine AllReadyH.cons (o := ⟨some 13, .call { callee := .value (.func 13), args := #[.tmp 12], argTypes := #[34] }, _, _, _, none⟩) rfl (fun K' hK' => ?_) AllReadyH.nil
    go_simp
    go_at_call 13
    refine (HA.out HZ.out _ H3.out.bel).mono ?_
    rintro E w4 ⟨rfl, b4⟩
    have H4 := Lib.hid (H3.out.next (Nat.le_refl _) b4.out)
    refine hK'.out _ _ (b4.out) (fun _ => wpAnyH_next (b4.out) ?_)
    clear hK' K'
    try simp only [Act.put, l0, l1, l2]
    refine rdy [3] (by kernel_rfl) ?_
    refine AllReadyH.cons (o := ⟨some 15, .call { callee := .value (.func 14), args := #[.tmp 14], argTypes := #[34] }, _, _, _, none⟩) rfl (fun K' hK' => ?_) AllReadyH.nil
    go_simp
    go_at_call 14
    refine (HB.out HZ.out _ H4.out.bel).mono ?_
    rintro E w5 ⟨rfl, b5⟩
    have H5 := Lib.hid (H4.out.next (Nat.le_refl _) b5.out)
    refine hK'.out _ _ (b5.out) (fun _ => wpAnyH_next (b5.out) ?_)
    clear hK' K'
    try simp only [Act.put, l0, l1, l2]
    refine tk 4 ⟨some 16, .binOp .eql 4 (.tmp 13) (.tmp 15) 4, _, _, _, none⟩ (.bool true) rfl (by kernel_rfl) (fun _ _ _ h => h) (Below.refl _ _) (fun W hSW => by go_simp) ?_
    try simp only [Act.put, l0, l1, l2]
    refine tk 5 ⟨some 17, .move (.tmp 16), _, _, _, none⟩ (.bool true) rfl (by kernel_rfl) (fun _ _ _ h => h) (Below.refl _ _) (fun W hSW => by go_simp) ?_
    try simp only [Act.put, l0, l1, l2]
    refine tk 6 ⟨some 18, .load 34 (.tmp 2), _, _, _, some (5, true)⟩ (.agg (msgC m).toArray) rfl (by kernel_rfl) (fun _ _ _ h => h) (Below.refl _ _) (fun W hSW => exec_load_mid 34 (.tmp 2) rfl w.heap.size 0 rfl (msgC m) _ (rangeAt_below H5.out.src hSW H5.out.lt) Tryz.underlying34 rfl (HIX.out)) ?_
    try simp only [Act.put, l0, l1, l2]
    refine tk 9 ⟨some 21, .load 34 (.tmp 2), _, _, _, some (5, true)⟩ (.agg (msgC m).toArray) rfl (by kernel_rfl) (fun _ _ _ h => h) (Below.refl _ _) (fun W hSW => exec_load_mid 34 (.tmp 2) rfl w.heap.size 0 rfl (msgC m) _ (rangeAt_below H5.out.src hSW H5.out.lt) Tryz.underlying34 rfl (HIX.out)) ?_
    try simp only [Act.put, l0, l1, l2]
    refine rdy [7] (by kernel_rfl) ?_
    refine AllReadyH.cons (o := ⟨some 19, .call { callee := .value (.func 15), args := #[.tmp 18], argTypes := #[34] }, _, _, _, some (5, true)⟩) rfl (fun K' hK' => ?_) AllReadyH.nil
    go_simp
    go_at_call 15
    refine (HC.out HZ.out _ H5.out.bel).mono ?_
    rintro E w6 ⟨⟨A6, n6, c6, rfl, O6⟩, b6⟩
    have H6 := Lib.hid (H5.out.next (Nat.le_refl _) b6.out)
    refine hK'.out _ _ (b6.out) (fun _ => wpAnyH_next (b6.out) ?_)
    clear hK' K'
    try simp only [Act.put, l0, l1, l2]
    refine tk 8 ⟨some 20, .convert 38 9 (.tmp 19), _, _, _, some (5, true)⟩ (.string bS) rfl (by kernel_rfl) (fun _ _ _ h => h) (Below.refl _ _) (fun W hSW => by have hc := run_string (c := c6) ((O6.out.rd).below hSW (fun _ h _ => h)); rw [HBS.out] at hc; go_simp) ?_
    try simp only [Act.put, l0, l1, l2]
    refine rdy [10] (by kernel_rfl) ?_
    refine AllReadyH.cons (o := ⟨some 22, .call { callee := .value (.func 16), args := #[.tmp 21], argTypes := #[34] }, _, _, _, some (5, true)⟩) rfl (fun K' hK' => ?_) AllReadyH.nil
    go_simp
    go_at_call 16
    refine (HD.out HZ.out _ H6.out.bel).mono ?_
    rintro E w7 ⟨⟨A7, n7, c7, rfl, O7⟩, b7⟩
    have H7 := Lib.hid (H6.out.next (Nat.le_refl _) b7.out)
    refine hK'.out _ _ (b7.out) (fun _ => wpAnyH_next (b7.out) ?_)
    clear hK' K'
    try simp only [Act.put, l0, l1, l2]
    refine tk 11 ⟨some 23, .convert 38 9 (.tmp 22), _, _, _, some (5, true)⟩ (.string bS) rfl (by kernel_rfl) (fun _ _ _ h => h) (Below.refl _ _) (fun W hSW => by have hc := run_string (c := c7) ((O7.out.rd).below hSW (fun _ h _ => h)); rw [HBS.out] at hc; go_simp) ?_
    try simp only [Act.put, l0, l1, l2]
    refine tk 12 ⟨some 24, .binOp .eql 9 (.tmp 20) (.tmp 23) 9, _, _, _, some (5, true)⟩ (.bool true) rfl (by kernel_rfl) (fun _ _ _ h => h) (Below.refl _ _) (fun W hSW => by go_simp) ?_
    try simp only [Act.put, l0, l1, l2]
    refine tk 13 ⟨some 25, .pick (.tmp 17) (.tmp 24) (.const (.bool false)), _, _, _, none⟩ (.bool true) rfl (by kernel_rfl) (fun _ _ _ h => h) (Below.refl _ _) (fun W hSW => by go_simp) ?_
    try simp only [Act.put, l0, l1, l2]
    refine tk 14 ⟨some 26, .move (.tmp 25), _, _, _, none⟩ (.bool true) rfl (by kernel_rfl) (fun _ _ _ h => h) (Below.refl _ _) (fun W hSW => by go_simp) ?_
    try simp only [Act.put, l0, l1, l2]
    refine tk 15 ⟨some 27, .load 34 (.tmp 2), _, _, _, some (14, true)⟩ (.agg (msgC m).toArray) rfl (by kernel_rfl) (fun _ _ _ h => h) (Below.refl _ _) (fun W hSW => exec_load_mid 34 (.tmp 2) rfl w.heap.size 0 rfl (msgC m) _ (rangeAt_below H7.out.src hSW H7.out.lt) Tryz.underlying34 rfl (HIX.out)) ?_
    try simp only [Act.put, l0, l1, l2]
    refine tk 18 ⟨some 30, .load 34 (.tmp 2), _, _, _, some (14, true)⟩ (.agg (msgC m).toArray) rfl (by kernel_rfl) (fun _ _ _ h => h) (Below.refl _ _) (fun W hSW => exec_load_mid 34 (.tmp 2) rfl w.heap.size 0 rfl (msgC m) _ (rangeAt_below H7.out.src hSW H7.out.lt) Tryz.underlying34 rfl (HIX.out)) ?_
    try simp only [Act.put, l0, l1, l2]
    refine rdy [16] (by kernel_rfl) ?_
    refine AllReadyH.cons (o := ⟨some 28, .call { callee := .value (.func 17), args := #[.tmp 27], argTypes := #[34] }, _, _, _, some (14, true)⟩) rfl (fun K' hK' => ?_) AllReadyH.nil
    go_simp
    go_at_call 17
    refine (HE.out HZ.out _ H7.out.bel).mono ?_
    rintro E w8 ⟨⟨A8, n8, c8, rfl, O8⟩, b8⟩
    have H8 := Lib.hid (H7.out.next (Nat.le_refl _) b8.out)
    refine hK'.out _ _ (b8.out) (fun _ => wpAnyH_next (b8.out) ?_)
    clear hK' K'
    try simp only [Act.put, l0, l1, l2]
    refine tk 17 ⟨some 29, .convert 38 9 (.tmp 28), _, _, _, some (14, true)⟩ (.string pS) rfl (by kernel_rfl) (fun _ _ _ h => h) (Below.refl _ _) (fun W hSW => by have hc := run_string (c := c8) ((O8.out.rd).below hSW (fun _ h _ => h)); rw [HPS.out] at hc; go_simp) ?_
    try simp only [Act.put, l0, l1, l2]
    refine rdy [19] (by kernel_rfl) ?_
    refine AllReadyH.cons (o := ⟨some 31, .call { callee := .value (.func 18), args := #[.tmp 30], argTypes := #[34] }, _, _, _, some (14, true)⟩) rfl (fun K' hK' => ?_) AllReadyH.nil
    go_simp
    go_at_call 18
    refine (HF.out HZ.out _ H8.out.bel).mono ?_
    rintro E w9 ⟨⟨A9, n9, c9, rfl, O9⟩, b9⟩
    have H9 := Lib.hid (H8.out.next (Nat.le_refl _) b9.out)
    refine hK'.out _ _ (b9.out) (fun _ => wpAnyH_next (b9.out) ?_)
    clear hK' K'
    try simp only [Act.put, l0, l1, l2]
    refine tk 20 ⟨some 32, .convert 38 9 (.tmp 31), _, _, _, some (14, true)⟩ (.string pS) rfl (by kernel_rfl) (fun _ _ _ h => h) (Below.refl _ _) (fun W hSW => by have hc := run_string (c := c9) ((O9.out.rd).below hSW (fun _ h _ => h)); rw [HPS.out] at hc; go_simp) ?_
    try simp only [Act.put, l0, l1, l2]
    refine tk 21 ⟨some 33, .binOp .eql 9 (.tmp 29) (.tmp 32) 9, _, _, _, some (14, true)⟩ (.bool true) rfl (by kernel_rfl) (fun _ _ _ h => h) (Below.refl _ _) (fun W hSW => by go_simp) ?_
    try simp only [Act.put, l0, l1, l2]
    refine tk 22 ⟨some 34, .pick (.tmp 26) (.tmp 33) (.const (.bool false)), _, _, _, none⟩ (.bool true) rfl (by kernel_rfl) (fun _ _ _ h => h) (Below.refl _ _) (fun W hSW => by go_simp) ?_
    try simp only [Act.put, l0, l1, l2]
    refine tk 23 ⟨some 35, .move (.tmp 34), _, _, _, none⟩ (.bool true) rfl (by kernel_rfl) (fun _ _ _ h => h) (Below.refl _ _) (fun W hSW => by go_simp) ?_
    try simp only [Act.put, l0, l1, l2]
    refine tk 24 ⟨some 36, .load 34 (.tmp 2), _, _, _, some (23, true)⟩ (.agg (msgC m).toArray) rfl (by kernel_rfl) (fun _ _ _ h => h) (Below.refl _ _) (fun W hSW => exec_load_mid 34 (.tmp 2) rfl w.heap.size 0 rfl (msgC m) _ (rangeAt_below H9.out.src hSW H9.out.lt) Tryz.underlying34 rfl (HIX.out)) ?_
    try simp only [Act.put, l0, l1, l2]
    refine tk 26 ⟨some 38, .load 34 (.tmp 2), _, _, _, some (23, true)⟩ (.agg (msgC m).toArray) rfl (by kernel_rfl) (fun _ _ _ h => h) (Below.refl _ _) (fun W hSW => exec_load_mid 34 (.tmp 2) rfl w.heap.size 0 rfl (msgC m) _ (rangeAt_below H9.out.src hSW H9.out.lt) Tryz.underlying34 rfl (HIX.out)) ?_
    try simp only [Act.put, l0, l1, l2]
    refine rdy [25] (by kernel_rfl) ?_
    refine AllReadyH.cons (o := ⟨some 37, .call { callee := .value (.func 19), args := #[.tmp 36], argTypes := #[34] }, _, _, _, some (23, true)⟩) rfl (fun K' hK' => ?_) AllReadyH.nil
    go_simp
    go_at_call 19
    refine (HG.out HZ.out _ H9.out.bel).mono ?_
    rintro E w10 ⟨rfl, b10⟩
    have H10 := Lib.hid (H9.out.next (Nat.le_refl _) b10.out)
    refine hK'.out _ _ (b10.out) (fun _ => wpAnyH_next (b10.out) ?_)
    clear hK' K'
    try simp only [Act.put, l0, l1, l2]
    refine rdy [27] (by kernel_rfl) ?_
    refine AllReadyH.cons (o := ⟨some 39, .call { callee := .value (.func 20), args := #[.tmp 38], argTypes := #[34] }, _, _, _, some (23, true)⟩) rfl (fun K' hK' => ?_) AllReadyH.nil
    go_simp
    go_at_call 20
    refine (HH.out HZ.out _ H10.out.bel).mono ?_
    rintro E w11 ⟨rfl, b11⟩
    have H11 := Lib.hid (H10.out.next (Nat.le_refl _) b11.out)
    refine hK'.out _ _ (b11.out) (fun _ => wpAnyH_next (b11.out) ?_)
    clear hK' K'
    try simp only [Act.put, l0, l1, l2]
    refine tk 28 ⟨some 40, .binOp .eql 4 (.tmp 37) (.tmp 39) 4, _, _, _, some (23, true)⟩ (.bool true) rfl (by kernel_rfl) (fun _ _ _ h => h) (Below.refl _ _) (fun W hSW => by go_simp) ?_
    try simp only [Act.put, l0, l1, l2]
    refine tk 29 ⟨some 41, .pick (.tmp 35) (.tmp 40) (.const (.bool false)), _, _, _, none⟩ (.bool true) rfl (by kernel_rfl) (fun _ _ _ h => h) (Below.refl _ _) (fun W hSW => by go_simp) ?_
    try simp only [Act.put, l0, l1, l2]
    refine tk 30 ⟨some 42, .move (.tmp 41), _, _, _, none⟩ (.bool true) rfl (by kernel_rfl) (fun _ _ _ h => h) (Below.refl _ _) (fun W hSW => by go_simp) ?_
    try simp only [Act.put, l0, l1, l2]
    refine rdy [31] (by kernel_rfl) ?_
    refine AllReadyH.cons (o := ⟨some 43, .call { callee := .value (.func 11), args := #[], argTypes := #[] }, _, _, _, some (30, true)⟩) rfl (fun K' hK' => ?_) AllReadyH.nil
    go_simp
    go_at_call 11
    refine (HW.out _ H11.out.bel).mono ?_
    rintro E w12 ⟨rfl, b12⟩
    have H12 := Lib.hid (H11.out.next (Nat.le_refl _) b12.out)
    refine hK'.out _ _ (b12.out) (fun _ => wpAnyH_next (b12.out) ?_)
    clear hK' K'
    try simp only [Act.put, l0, l1, l2]
    refine tk 32 ⟨some 44, .pick (.tmp 42) (.tmp 43) (.const (.bool false)), _, _, _, none⟩ (.bool true) rfl (by kernel_rfl) (fun _ _ _ h => h) (Below.refl _ _) (fun W hSW => by go_simp) ?_
    try simp only [Act.put, l0, l1, l2]
    refine tk 33 ⟨some 4, .assign (.tmp 44), _, _, _, none⟩ (.bool true) rfl (by kernel_rfl) (fun _ _ _ h => h) (Below.refl _ _) (fun W hSW => by go_simp) ?_
    try simp only [Act.put, l0, l1, l2]
    refine wpAnyH_done (by kernel_rfl) ?_ _
    go_wp2_with fail
    go_ret
    exact ⟨rfl, H12.out.bel⟩
set_option maxHeartbeats 8000000 in
theorem plays_t (m x : MMsg) (bs ps : List UInt8) (az rz : Bool) (w : World) (hm : m.Wf) (hx : x.Wf)
    (HA : Hid (m.body.qs.length ≤ 40 → ∀ W, Below w.heap.size w W → Calls Tryz.prog 13 #[.agg (msgC x).toArray] W fun E w' => E = .returned (.bool az) ∧ Hid (Below W.heap.size W w')))
    (HB : Hid (m.body.qs.length ≤ 40 → ∀ W, Below w.heap.size w W → Calls Tryz.prog 14 #[.agg (msgC x).toArray] W fun E w' => E = .returned (.bool az) ∧ Hid (Below W.heap.size W w')))
    (HC : Hid (m.body.qs.length ≤ 40 → ∀ W, Below w.heap.size w W → Calls Tryz.prog 15 #[.agg (msgC x).toArray] W fun E w' => (∃ A n c, E = .returned (.slice A n c) ∧ Hid (Ow W.heap.size w' A n c bs)) ∧ Hid (Below W.heap.size W w')))
    (HD : Hid (m.body.qs.length ≤ 40 → ∀ W, Below w.heap.size w W → Calls Tryz.prog 16 #[.agg (msgC x).toArray] W fun E w' => (∃ A n c, E = .returned (.slice A n c) ∧ Hid (Ow W.heap.size w' A n c bs)) ∧ Hid (Below W.heap.size W w')))
    (HE : Hid (m.body.qs.length ≤ 40 → ∀ W, Below w.heap.size w W → Calls Tryz.prog 17 #[.agg (msgC x).toArray] W fun E w' => (∃ A n c, E = .returned (.slice A n c) ∧ Hid (Ow W.heap.size w' A n c ps)) ∧ Hid (Below W.heap.size W w')))
    (HF : Hid (m.body.qs.length ≤ 40 → ∀ W, Below w.heap.size w W → Calls Tryz.prog 18 #[.agg (msgC x).toArray] W fun E w' => (∃ A n c, E = .returned (.slice A n c) ∧ Hid (Ow W.heap.size w' A n c ps)) ∧ Hid (Below W.heap.size W w')))
    (HG : Hid (m.body.qs.length ≤ 40 → ∀ W, Below w.heap.size w W → Calls Tryz.prog 19 #[.agg (msgC x).toArray] W fun E w' => E = .returned (.bool rz) ∧ Hid (Below W.heap.size W w')))
    (HH : Hid (m.body.qs.length ≤ 40 → ∀ W, Below w.heap.size w W → Calls Tryz.prog 20 #[.agg (msgC x).toArray] W fun E w' => E = .returned (.bool rz) ∧ Hid (Below W.heap.size W w')))
    (HO : Hid (m.body.qs.length ≤ 40 → ∀ W, Below w.heap.size w W → Calls Tryz.prog 12 #[.agg (msgC m).toArray] W fun E w' => E = .returned (.agg (msgC x).toArray) ∧ Hid (Below W.heap.size W w')))
    (HF0 : Hid (∀ W, Below w.heap.size w W → Calls Tryz.prog 10 #[.agg (msgC m).toArray] W fun E w' => (∃ z, E = .returned (.bool z) ∧ (z = true → m.body.qs.length ≤ 40)) ∧ Hid (Below W.heap.size W w')))
    (HW : Hid (∀ W, Below w.heap.size w W → Calls Tryz.prog 11 #[] W fun E w' => E = .returned (.bool true) ∧ Hid (Below W.heap.size W w'))) :
    Calls Tryz.prog 3 #[.agg (msgC m).toArray, .bool true] w fun E w' => E = .returned (.bool true) ∧ Below w.heap.size w w' := by
  have HI : Hid ((Tryz.prog.info? 34).map (·.size) = some (msgC m).length) := Lib.hid (by rw [msgC_length hm]; exact Tryz.is34)
  have HIX : Hid ((Tryz.prog.info? 34).map (·.size) = some (msgC x).length) := Lib.hid (by rw [msgC_length hx]; exact Tryz.is34)
  have H0 : Hid (RqAt w.heap.size w (msgC m) (w.alloc (.cells (msgC m).toArray 34))) := Lib.hid ⟨(Below.refl _ _).alloc (Nat.le_refl _) _, by simp, range_box w (msgC m) 34⟩
  have HLT : Hid (0 + (msgC x).length ≤ (msgC m).length ∧ setAll (msgC m) 0 (msgC x) = msgC x) := Lib.hid ⟨by have e1 := msgC_length hm; have e2 := msgC_length hx; omega, setAll_all ((msgC_length hm).trans (msgC_length hx).symm)⟩
  obtain ⟨bS, hbS⟩ : ∃ S, str bs = S := ⟨_, rfl⟩
  obtain ⟨pS, hpS⟩ : ∃ S, str ps = S := ⟨_, rfl⟩
  have HBS := Lib.hid hbS
  have HPS := Lib.hid hpS
  clear hm hx hbS hpS
  go_enter Tryz.func3, Tryz.ntmps3
  go_wp2_with (((with_reducible refine wpList_load_midG ?_ 34 (.tmp 2) ?_ w.heap.size 0 ?_ (msgC m) _ ?_ Tryz.underlying34 ?_ ?_ ?_); (· rfl); (· rfl); (· rfl); (· exact H0.out.src); (· rfl); (· exact HI.out)))
  go_at_call 10
  with_reducible refine (HF0.out _ H0.out.bel).mono ?_
  rintro E w1 ⟨⟨z, rfl, hz⟩, b1⟩
  have H1 := Lib.hid (H0.out.next (Nat.le_refl _) b1.out)
  cases z
  · go_wp2_with ((go_at_call 11; (with_reducible refine (HW.out _ H1.out.bel).mono ?_); rintro E w7 ⟨rfl, b7⟩; have H7 := Lib.hid (H1.out.next (Nat.le_refl _) b7.out)))
    go_ret
    exact ⟨rfl, H7.out.bel⟩
  · have HZ := Lib.hid (hz rfl)
    clear hz
    go_wp2_with (first | ((with_reducible refine wpList_load_midG ?_ 34 (.tmp 2) ?_ w.heap.size 0 ?_ (msgC m) _ ?_ Tryz.underlying34 ?_ ?_ ?_); (· rfl); (· rfl); (· rfl); (· exact H1.out.src); (· rfl); (· exact HI.out)) | (go_at_call 12; (with_reducible refine (HO.out HZ.out _ H1.out.bel).mono ?_); rintro E w2 ⟨rfl, b2⟩; have H2 := Lib.hid (H1.out.next (Nat.le_refl _) b2.out); have HB2 := Lib.hid ((b2.out.block w.heap.size H1.out.lt).trans ((b1.out.block w.heap.size (by simp)).trans (heap_alloc_new w (.cells (msgC m).toArray 34))))) | (refine wpList_store_part rfl 34 (.tmp 2) (.tmp 11) rfl w.heap.size 0 (msgC m) (msgC x) (msgC x) 34 HB2.out HLT.out.1 HLT.out.2 rfl rfl HIX.out (one_msgC _) ?_; intro wq Gq))
    have Hq : Hid (RqAt w.heap.size w (msgC x) wq) := Lib.hid ⟨H2.out.bel.grown Gq.out.2 H2.out.bel.size (fun k hk => by injection hk with hk; omega), Nat.lt_of_lt_of_le H2.out.lt Gq.out.2.size, range_of Gq.out.1⟩
    refine wp_region_any (by kernel_rfl) ?_
    have H3 := Lib.hid (Hq.out.drewN 1)
    change wpAny _ _ _ _ _ _ _ (wq.drewN 1)
    generalize wq.drewN 1 = w3 at H3 ⊢
    refine wpAny_of_held (S := fun W => Below w3.heap.size w3 W) _ _ _ _ ?_
    refine tk 0 ⟨some 12, .load 34 (.tmp 2), _, _, _, none⟩ (.agg (msgC x).toArray) rfl (by kernel_rfl) (fun _ _ _ h => h) (Below.refl _ _) (fun W hSW => exec_load_mid 34 (.tmp 2) rfl w.heap.size 0 rfl (msgC x) _ (rangeAt_below H3.out.src hSW H3.out.lt) Tryz.underlying34 rfl (HIX.out)) ?_
    try simp only [Act.put, l0, l1, l2]
    refine tk 2 ⟨some 14, .load 34 (.tmp 2), _, _, _, none⟩ (.agg (msgC x).toArray) rfl (by kernel_rfl) (fun _ _ _ h => h) (Below.refl _ _) (fun W hSW => exec_load_mid 34 (.tmp 2) rfl w.heap.size 0 rfl (msgC x) _ (rangeAt_below H3.out.src hSW H3.out.lt) Tryz.underlying34 rfl (HIX.out)) ?_
    try simp only [Act.put, l0, l1, l2]
    refine rdy [1] (by kernel_rfl) ?_
    refine AllReadyH.cons (o := ⟨some 13, .call { callee := .value (.func 13), args := #[.tmp 12], argTypes := #[34] }, _, _, _, none⟩) rfl (fun K' hK' => ?_) AllReadyH.nil
    go_simp
    go_at_call 13
    refine (HA.out HZ.out _ H3.out.bel).mono ?_
    rintro E w4 ⟨rfl, b4⟩
    have H4 := Lib.hid (H3.out.next (Nat.le_refl _) b4.out)
    refine hK'.out _ _ (b4.out) (fun _ => wpAnyH_next (b4.out) ?_)
    clear hK' K'
    try simp only [Act.put, l0, l1, l2]
    refine rdy [3] (by kernel_rfl) ?_
    refine AllReadyH.cons (o := ⟨some 15, .call { callee := .value (.func 14), args := #[.tmp 14], argTypes := #[34] }, _, _, _, none⟩) rfl (fun K' hK' => ?_) AllReadyH.nil
    go_simp
    go_at_call 14
    refine (HB.out HZ.out _ H4.out.bel).mono ?_
    rintro E w5 ⟨rfl, b5⟩
    have H5 := Lib.hid (H4.out.next (Nat.le_refl _) b5.out)
    refine hK'.out _ _ (b5.out) (fun _ => wpAnyH_next (b5.out) ?_)
    clear hK' K'
    try simp only [Act.put, l0, l1, l2]
    refine tk 4 ⟨some 16, .binOp .eql 4 (.tmp 13) (.tmp 15) 4, _, _, _, none⟩ (.bool true) rfl (by kernel_rfl) (fun _ _ _ h => h) (Below.refl _ _) (fun W hSW => by go_simp) ?_
    try simp only [Act.put, l0, l1, l2]
    refine tk 5 ⟨some 17, .move (.tmp 16), _, _, _, none⟩ (.bool true) rfl (by kernel_rfl) (fun _ _ _ h => h) (Below.refl _ _) (fun W hSW => by go_simp) ?_
    try simp only [Act.put, l0, l1, l2]
    refine tk 6 ⟨some 18, .load 34 (.tmp 2), _, _, _, some (5, true)⟩ (.agg (msgC x).toArray) rfl (by kernel_rfl) (fun _ _ _ h => h) (Below.refl _ _) (fun W hSW => exec_load_mid 34 (.tmp 2) rfl w.heap.size 0 rfl (msgC x) _ (rangeAt_below H5.out.src hSW H5.out.lt) Tryz.underlying34 rfl (HIX.out)) ?_
    try simp only [Act.put, l0, l1, l2]
    refine tk 9 ⟨some 21, .load 34 (.tmp 2), _, _, _, some (5, true)⟩ (.agg (msgC x).toArray) rfl (by kernel_rfl) (fun _ _ _ h => h) (Below.refl _ _) (fun W hSW => exec_load_mid 34 (.tmp 2) rfl w.heap.size 0 rfl (msgC x) _ (rangeAt_below H5.out.src hSW H5.out.lt) Tryz.underlying34 rfl (HIX.out)) ?_
    try simp only [Act.put, l0, l1, l2]
    refine rdy [7] (by kernel_rfl) ?_
    refine AllReadyH.cons (o := ⟨some 19, .call { callee := .value (.func 15), args := #[.tmp 18], argTypes := #[34] }, _, _, _, some (5, true)⟩) rfl (fun K' hK' => ?_) AllReadyH.nil
    go_simp
    go_at_call 15
    refine (HC.out HZ.out _ H5.out.bel).mono ?_
    rintro E w6 ⟨⟨A6, n6, c6, rfl, O6⟩, b6⟩
    have H6 := Lib.hid (H5.out.next (Nat.le_refl _) b6.out)
    refine hK'.out _ _ (b6.out) (fun _ => wpAnyH_next (b6.out) ?_)
    clear hK' K'
    try simp only [Act.put, l0, l1, l2]
    refine tk 8 ⟨some 20, .convert 38 9 (.tmp 19), _, _, _, some (5, true)⟩ (.string bS) rfl (by kernel_rfl) (fun _ _ _ h => h) (Below.refl _ _) (fun W hSW => by have hc := run_string (c := c6) ((O6.out.rd).below hSW (fun _ h _ => h)); rw [HBS.out] at hc; go_simp) ?_
    try simp only [Act.put, l0, l1, l2]
    refine rdy [10] (by kernel_rfl) ?_
    refine AllReadyH.cons (o := ⟨some 22, .call { callee := .value (.func 16), args := #[.tmp 21], argTypes := #[34] }, _, _, _, some (5, true)⟩) rfl (fun K' hK' => ?_) AllReadyH.nil
    go_simp
    go_at_call 16
    refine (HD.out HZ.out _ H6.out.bel).mono ?_
    rintro E w7 ⟨⟨A7, n7, c7, rfl, O7⟩, b7⟩
    have H7 := Lib.hid (H6.out.next (Nat.le_refl _) b7.out)
    refine hK'.out _ _ (b7.out) (fun _ => wpAnyH_next (b7.out) ?_)
    clear hK' K'
    try simp only [Act.put, l0, l1, l2]
    refine tk 11 ⟨some 23, .convert 38 9 (.tmp 22), _, _, _, some (5, true)⟩ (.string bS) rfl (by kernel_rfl) (fun _ _ _ h => h) (Below.refl _ _) (fun W hSW => by have hc := run_string (c := c7) ((O7.out.rd).below hSW (fun _ h _ => h)); rw [HBS.out] at hc; go_simp) ?_
    try simp only [Act.put, l0, l1, l2]
    refine tk 12 ⟨some 24, .binOp .eql 9 (.tmp 20) (.tmp 23) 9, _, _, _, some (5, true)⟩ (.bool true) rfl (by kernel_rfl) (fun _ _ _ h => h) (Below.refl _ _) (fun W hSW => by go_simp) ?_
    try simp only [Act.put, l0, l1, l2]
    refine tk 13 ⟨some 25, .pick (.tmp 17) (.tmp 24) (.const (.bool false)), _, _, _, none⟩ (.bool true) rfl (by kernel_rfl) (fun _ _ _ h => h) (Below.refl _ _) (fun W hSW => by go_simp) ?_
    try simp only [Act.put, l0, l1, l2]
    refine tk 14 ⟨some 26, .move (.tmp 25), _, _, _, none⟩ (.bool true) rfl (by kernel_rfl) (fun _ _ _ h => h) (Below.refl _ _) (fun W hSW => by go_simp) ?_
    try simp only [Act.put, l0, l1, l2]
    refine tk 15 ⟨some 27, .load 34 (.tmp 2), _, _, _, some (14, true)⟩ (.agg (msgC x).toArray) rfl (by kernel_rfl) (fun _ _ _ h => h) (Below.refl _ _) (fun W hSW => exec_load_mid 34 (.tmp 2) rfl w.heap.size 0 rfl (msgC x) _ (rangeAt_below H7.out.src hSW H7.out.lt) Tryz.underlying34 rfl (HIX.out)) ?_
    try simp only [Act.put, l0, l1, l2]
    refine tk 18 ⟨some 30, .load 34 (.tmp 2), _, _, _, some (14, true)⟩ (.agg (msgC x).toArray) rfl (by kernel_rfl) (fun _ _ _ h => h) (Below.refl _ _) (fun W hSW => exec_load_mid 34 (.tmp 2) rfl w.heap.size 0 rfl (msgC x) _ (rangeAt_below H7.out.src hSW H7.out.lt) Tryz.underlying34 rfl (HIX.out)) ?_
    try simp only [Act.put, l0, l1, l2]
    refine rdy [16] (by kernel_rfl) ?_
    refine AllReadyH.cons (o := ⟨some 28, .call { callee := .value (.func 17), args := #[.tmp 27], argTypes := #[34] }, _, _, _, some (14, true)⟩) rfl (fun K' hK' => ?_) AllReadyH.nil
    go_simp
    go_at_call 17
    refine (HE.out HZ.out _ H7.out.bel).mono ?_
    rintro E w8 ⟨⟨A8, n8, c8, rfl, O8⟩, b8⟩
    have H8 := Lib.hid (H7.out.next (Nat.le_refl _) b8.out)
    refine hK'.out _ _ (b8.out) (fun _ => wpAnyH_next (b8.out) ?_)
    clear hK' K'
    try simp only [Act.put, l0, l1, l2]
    refine tk 17 ⟨some 29, .convert 38 9 (.tmp 28), _, _, _, some (14, true)⟩ (.string pS) rfl (by kernel_rfl) (fun _ _ _ h => h) (Below.refl _ _) (fun W hSW => by have hc := run_string (c := c8) ((O8.out.rd).below hSW (fun _ h _ => h)); rw [HPS.out] at hc; go_simp) ?_
    try simp only [Act.put, l0, l1, l2]
    refine rdy [19] (by kernel_rfl) ?_
    refine AllReadyH.cons (o := ⟨some 31, .call { callee := .value (.func 18), args := #[.tmp 30], argTypes := #[34] }, _, _, _, some (14, true)⟩) rfl (fun K' hK' => ?_) AllReadyH.nil
    go_simp
    go_at_call 18
    refine (HF.out HZ.out _ H8.out.bel).mono ?_
    rintro E w9 ⟨⟨A9, n9, c9, rfl, O9⟩, b9⟩
    have H9 := Lib.hid (H8.out.next (Nat.le_refl _) b9.out)
    refine hK'.out _ _ (b9.out) (fun _ => wpAnyH_next (b9.out) ?_)
    clear hK' K'
    try simp only [Act.put, l0, l1, l2]
    refine tk 20 ⟨some 32, .convert 38 9 (.tmp 31), _, _, _, some (14, true)⟩ (.string pS) rfl (by kernel_rfl) (fun _ _ _ h => h) (Below.refl _ _) (fun W hSW => by have hc := run_string (c := c9) ((O9.out.rd).below hSW (fun _ h _ => h)); rw [HPS.out] at hc; go_simp) ?_
    try simp only [Act.put, l0, l1, l2]
    refine tk 21 ⟨some 33, .binOp .eql 9 (.tmp 29) (.tmp 32) 9, _, _, _, some (14, true)⟩ (.bool true) rfl (by kernel_rfl) (fun _ _ _ h => h) (Below.refl _ _) (fun W hSW => by go_simp) ?_
    try simp only [Act.put, l0, l1, l2]
    refine tk 22 ⟨some 34, .pick (.tmp 26) (.tmp 33) (.const (.bool false)), _, _, _, none⟩ (.bool true) rfl (by kernel_rfl) (fun _ _ _ h => h) (Below.refl _ _) (fun W hSW => by go_simp) ?_
    try simp only [Act.put, l0, l1, l2]
    refine tk 23 ⟨some 35, .move (.tmp 34), _, _, _, none⟩ (.bool true) rfl (by kernel_rfl) (fun _ _ _ h => h) (Below.refl _ _) (fun W hSW => by go_simp) ?_
    try simp only [Act.put, l0, l1, l2]
    refine tk 24 ⟨some 36, .load 34 (.tmp 2), _, _, _, some (23, true)⟩ (.agg (msgC x).toArray) rfl (by kernel_rfl) (fun _ _ _ h => h) (Below.refl _ _) (fun W hSW => exec_load_mid 34 (.tmp 2) rfl w.heap.size 0 rfl (msgC x) _ (rangeAt_below H9.out.src hSW H9.out.lt) Tryz.underlying34 rfl (HIX.out)) ?_
    try simp only [Act.put, l0, l1, l2]
    refine tk 26 ⟨some 38, .load 34 (.tmp 2), _, _, _, some (23, true)⟩ (.agg (msgC x).toArray) rfl (by kernel_rfl) (fun _ _ _ h => h) (Below.refl _ _) (fun W hSW => exec_load_mid 34 (.tmp 2) rfl w.heap.size 0 rfl (msgC x) _ (rangeAt_below H9.out.src hSW H9.out.lt) Tryz.underlying34 rfl (HIX.out)) ?_
    try simp only [Act.put, l0, l1, l2]
    refine rdy [25] (by kernel_rfl) ?_
    refine AllReadyH.cons (o := ⟨some 37, .call { callee := .value (.func 19), args := #[.tmp 36], argTypes := #[34] }, _, _, _, some (23, true)⟩) rfl (fun K' hK' => ?_) AllReadyH.nil
    go_simp
    go_at_call 19
    refine (HG.out HZ.out _ H9.out.bel).mono ?_
    rintro E w10 ⟨rfl, b10⟩
    have H10 := Lib.hid (H9.out.next (Nat.le_refl _) b10.out)
    refine hK'.out _ _ (b10.out) (fun _ => wpAnyH_next (b10.out) ?_)
    clear hK' K'
    try simp only [Act.put, l0, l1, l2]
    refine rdy [27] (by kernel_rfl) ?_
    refine AllReadyH.cons (o := ⟨some 39, .call { callee := .value (.func 20), args := #[.tmp 38], argTypes := #[34] }, _, _, _, some (23, true)⟩) rfl (fun K' hK' => ?_) AllReadyH.nil
    go_simp
    go_at_call 20
    refine (HH.out HZ.out _ H10.out.bel).mono ?_
    rintro E w11 ⟨rfl, b11⟩
    have H11 := Lib.hid (H10.out.next (Nat.le_refl _) b11.out)
    refine hK'.out _ _ (b11.out) (fun _ => wpAnyH_next (b11.out) ?_)
    clear hK' K'
    try simp only [Act.put, l0, l1, l2]
    refine tk 28 ⟨some 40, .binOp .eql 4 (.tmp 37) (.tmp 39) 4, _, _, _, some (23, true)⟩ (.bool true) rfl (by kernel_rfl) (fun _ _ _ h => h) (Below.refl _ _) (fun W hSW => by go_simp) ?_
    try simp only [Act.put, l0, l1, l2]
    refine tk 29 ⟨some 41, .pick (.tmp 35) (.tmp 40) (.const (.bool false)), _, _, _, none⟩ (.bool true) rfl (by kernel_rfl) (fun _ _ _ h => h) (Below.refl _ _) (fun W hSW => by go_simp) ?_
    try simp only [Act.put, l0, l1, l2]
    refine tk 30 ⟨some 42, .move (.tmp 41), _, _, _, none⟩ (.bool true) rfl (by kernel_rfl) (fun _ _ _ h => h) (Below.refl _ _) (fun W hSW => by go_simp) ?_
    try simp only [Act.put, l0, l1, l2]
    refine rdy [31] (by kernel_rfl) ?_
    refine AllReadyH.cons (o := ⟨some 43, .call { callee := .value (.func 11), args := #[], argTypes := #[] }, _, _, _, some (30, true)⟩) rfl (fun K' hK' => ?_) AllReadyH.nil
    go_simp
    go_at_call 11
    refine (HW.out _ H11.out.bel).mono ?_
    rintro E w12 ⟨rfl, b12⟩
    have H12 := Lib.hid (H11.out.next (Nat.le_refl _) b12.out)
    refine hK'.out _ _ (b12.out) (fun _ => wpAnyH_next (b12.out) ?_)
    clear hK' K'
    try simp only [Act.put, l0, l1, l2]
    refine tk 32 ⟨some 44, .pick (.tmp 42) (.tmp 43) (.const (.bool false)), _, _, _, none⟩ (.bool true) rfl (by kernel_rfl) (fun _ _ _ h => h) (Below.refl _ _) (fun W hSW => by go_simp) ?_
    try simp only [Act.put, l0, l1, l2]
    refine tk 33 ⟨some 4, .assign (.tmp 44), _, _, _, none⟩ (.bool true) rfl (by kernel_rfl) (fun _ _ _ h => h) (Below.refl _ _) (fun W hSW => by go_simp) ?_
    try simp only [Act.put, l0, l1, l2]
    refine wpAnyH_done (by kernel_rfl) ?_ _
    go_wp2_with fail
    go_ret
    exact ⟨rfl, H12.out.bel⟩

theorem tagM_wf {m : MMsg} (h : m.Wf) : (tagM m).Wf := by
  unfold tagM
  split
  · exact ⟨h.1, h.2.1, numTag_length _ _ _⟩
  · exact h
theorem tagM_body (m : MMsg) : (tagM m).body = m.body := by
  unfold tagM
  split <;> rfl
open Classical in
theorem plays_any (m : MMsg) (own : Bool) (w : World) (hm : m.Wf) (hq : Prs w m.body.qa m.body.qs) (hk : KIs w) (h0 : 0 < w.heap.size) :
    Calls Tryz.prog 3 #[.agg (msgC m).toArray, .bool own] w fun E w' => E = .returned (.bool true) ∧ Below w.heap.size w w' := by
  have K : ∀ {W}, Below w.heap.size w W → KIs W ∧ 0 < W.heap.size := fun h => ⟨hk.below h h0, Nat.lt_of_lt_of_le h0 h.size⟩
  have HW : Hid (∀ W, Below w.heap.size w W → Calls Tryz.prog 11 #[] W fun E w' => E = .returned (.bool true) ∧ Hid (Below W.heap.size W w')) := Lib.hid fun W h => works_any W (K h).1 (K h).2
  have HF0 : Hid (∀ W, Below w.heap.size w W → Calls Tryz.prog 10 #[.agg (msgC m).toArray] W fun E w' => (∃ z, E = .returned (.bool z) ∧ (z = true → m.body.qs.length ≤ 40)) ∧ Hid (Below W.heap.size W w')) := Lib.hid fun W _ => few_any m W hm
  have key : ∀ x : MMsg, x.Wf → x.body = m.body → ∀ W, Below w.heap.size w W → m.body.qs.length ≤ 40 → x.body.qs.length ≤ 140737488355328 ∧ Prs W x.body.qa x.body.qs := fun x _ he W h hl => by rw [he]; exact ⟨by omega, hq.below h⟩
  cases own
  · exact plays_f m (bytesM m) (putM m) (decide m.may) (decide m.right) w hm hm
      (Lib.hid fun hl W h => may_ms m W hm (hq.below h) (by omega)) (Lib.hid fun hl W h => may_rf m W hm (hq.below h) (by omega))
      (Lib.hid fun hl W h => (bytes_ms m W hm (hq.below h) (by omega)).mono fun _ _ ⟨A, n, c, he, ho, hb⟩ => ⟨⟨A, n, c, he, Lib.hid ho⟩, hb⟩) (Lib.hid fun hl W h => (bytes_rf m W hm (hq.below h) (by omega)).mono fun _ _ ⟨A, n, c, he, ho, hb⟩ => ⟨⟨A, n, c, he, Lib.hid ho⟩, hb⟩)
      (Lib.hid fun hl W h => (put_ms m W hm (hq.below h) (by omega)).mono fun _ _ ⟨A, n, c, he, ho, hb⟩ => ⟨⟨A, n, c, he, Lib.hid ho⟩, hb⟩) (Lib.hid fun hl W h => (put_rf m W hm (hq.below h) (by omega)).mono fun _ _ ⟨A, n, c, he, ho, hb⟩ => ⟨⟨A, n, c, he, Lib.hid ho⟩, hb⟩)
      (Lib.hid fun hl W h => right_ms m W hm (hq.below h) (by omega) (K h).1 (K h).2) (Lib.hid fun hl W h => right_rf m W hm (hq.below h) (by omega) (K h).1 (K h).2) HF0 HW
  · have hx := tagM_wf hm
    have k2 := key (tagM m) hx (tagM_body m)
    exact plays_t m (tagM m) (bytesM (tagM m)) (putM (tagM m)) (decide (tagM m).may) (decide (tagM m).right) w hm hx
      (Lib.hid fun hl W h => may_ms _ W hx (k2 W h hl).2 (k2 W h hl).1) (Lib.hid fun hl W h => may_rf _ W hx (k2 W h hl).2 (k2 W h hl).1)
      (Lib.hid fun hl W h => (bytes_ms _ W hx (k2 W h hl).2 (k2 W h hl).1).mono fun _ _ ⟨A, n, c, he, ho, hb⟩ => ⟨⟨A, n, c, he, Lib.hid ho⟩, hb⟩) (Lib.hid fun hl W h => (bytes_rf _ W hx (k2 W h hl).2 (k2 W h hl).1).mono fun _ _ ⟨A, n, c, he, ho, hb⟩ => ⟨⟨A, n, c, he, Lib.hid ho⟩, hb⟩)
      (Lib.hid fun hl W h => (put_ms _ W hx (k2 W h hl).2 (k2 W h hl).1).mono fun _ _ ⟨A, n, c, he, ho, hb⟩ => ⟨⟨A, n, c, he, Lib.hid ho⟩, hb⟩) (Lib.hid fun hl W h => (put_rf _ W hx (k2 W h hl).2 (k2 W h hl).1).mono fun _ _ ⟨A, n, c, he, ho, hb⟩ => ⟨⟨A, n, c, he, Lib.hid ho⟩, hb⟩)
      (Lib.hid fun hl W h => right_ms _ W hx (k2 W h hl).2 (k2 W h hl).1 (K h).1 (K h).2) (Lib.hid fun hl W h => right_rf _ W hx (k2 W h hl).2 (k2 W h hl).1 (K h).1 (K h).2)
      (Lib.hid fun hl W h => tagged_any m W hm (hq.below h) (by omega) (K h).1 (K h).2) HF0 HW
theorem plays_in (W : World) (hk : KIs W) (h0 : 0 < W.heap.size) (v : Value) (h : ∃ m : MMsg, v = .agg (msgC m).toArray ∧ m.Wf ∧ Prs W m.body.qa m.body.qs) (own : Bool) :
    Calls Tryz.prog 3 #[v, .bool own] W fun E w' => E = .returned (.bool true) ∧ Below W.heap.size W w' := by
  obtain ⟨m, rfl, hm, hq⟩ := h
  exact plays_any m own W hm hq hk h0
end Go.Proofs.YtghjogneogkpoaaGreatDoor.Sh
