/-
  What is proved: what is put is got, what is got is put as it stood (MessageBack). Conditions as stated.
-/
import Derived.Test.YtghjogneogkpoaaGreatDoorGsc
namespace Go.Proofs.YtghjogneogkpoaaGreatDoor.Sh
open Go.RowKit
set_option maxRecDepth 100000


theorem exec_eql_str {P : Program} {o : Oper} {f : Operand → Value} {w : World} (ty rt : TypeId) (x y : Operand) (ho : o.op = .binOp .eql ty x y rt) {a b : ByteArray} (hx : f x = .string a) (hy : f y = .string b) {z : Bool}
    (h : z = true ↔ a = b) : (execOp f o).run P w = .ok (.value (.bool z)) w := by
  have hz : z = decide (a = b) := by rw [Bool.eq_iff_iff, h, decide_eq_true_iff]
  have e : (a.toList == b.toList) = decide (a = b) := by
    rw [Bool.eq_iff_iff]
    simp only [beq_iff_eq, decide_eq_true_eq, ByteArray.toList_eq]
    constructor
    · intro h
      obtain ⟨⟨x⟩⟩ := a
      obtain ⟨⟨y⟩⟩ := b
      simpa using h
    · rintro rfl
      rfl
  unfold execOp
  simp only [ho, hx, hy]
  simp [eqGuard, binOp, Op.stringOp, hz, e]
set_option maxHeartbeats 8000000 in
theorem back_no_bad (m o : MMsg) (raw : List UInt8) (RA : Option Addr) (rl rc cu : Nat) (w : World) (hm : m.Wf) (hmo : o.Wf) (hrd : Oct.Rd w RA rl raw) (HP : Hid (m.body.qs.length ≤ 40 → ∀ W, Below w.heap.size w W → Calls Tryz.prog 17 #[.agg (msgC m).toArray] W fun E w' => (∃ A c, E = .returned (.slice A 0 c) ∧ Hid (Oct.Sl A 0 c)) ∧ Hid (Below W.heap.size W w')))
    (HMY : Hid (m.body.qs.length ≤ 40 → ∀ W, Below w.heap.size w W → Calls Tryz.prog 13 #[.agg (msgC m).toArray] W fun E w' => E = .returned (.bool false) ∧ Hid (Below W.heap.size W w')))
    (HF1 : Hid (∀ W, Below w.heap.size w W → Calls Tryz.prog 10 #[.agg (msgC m).toArray] W fun E w' => (∃ z, E = .returned (.bool z) ∧ (z = true → m.body.qs.length ≤ 40)) ∧ Hid (Below W.heap.size W w')))
    (HF2 : Hid (∀ W, Below w.heap.size w W → Calls Tryz.prog 10 #[.agg (msgC o).toArray] W fun E w' => (∃ z, E = .returned (.bool z) ∧ (z = true → o.body.qs.length ≤ 40)) ∧ Hid (Below W.heap.size W w')))
    (HW : Hid (∀ W, Below w.heap.size w W → Calls Tryz.prog 11 #[] W fun E w' => E = .returned (.bool true) ∧ Hid (Below W.heap.size W w')))
    (HR : Hid (∀ W, Below w.heap.size w W → Calls Tryz.prog 21 #[.slice RA rl rc] W fun E w' => E = .returned (.tuple #[.agg (msgC zeroMsg).toArray, .int .i64 5]) ∧ Hid (Below W.heap.size W w'))) :
    Calls Tryz.prog 6 #[.agg (msgC m).toArray, .agg (msgC o).toArray, .slice RA rl rc, .int .u16 (cu : Int)] w fun E w' => E = .returned (.bool true) ∧ Below w.heap.size w w' := by
  have HGN : Hid (∀ A c W, Oct.Sl A 0 c → Calls Tryz.prog 21 #[.slice A 0 c] W fun E w' => E = .returned (.tuple #[.agg (msgC zeroMsg).toArray, .int .i64 5]) ∧ Hid (Below W.heap.size W w')) := Lib.hid fun A c W hs => get_none A c W hs
  have HI : Hid ((Tryz.prog.info? 34).map (·.size) = some (msgC m).length) := Lib.hid (by rw [msgC_length hm]; exact Tryz.is34)
  have HIO : Hid ((Tryz.prog.info? 34).map (·.size) = some (msgC o).length) := Lib.hid (by rw [msgC_length hmo]; exact Tryz.is34)
  have HX : Hid (∀ x : MMsg, x.Wf → 0 + (msgC x).length ≤ (msgC zeroMsg).length ∧ setAll (msgC zeroMsg) 0 (msgC x) = msgC x ∧ (Tryz.prog.info? 34).map (·.size) = some (msgC x).length) := Lib.hid fun x hx => ⟨by rw [msgC_length zeroM_wf, msgC_length hx]; omega, setAll_all (by rw [msgC_length zeroM_wf, msgC_length hx]), by rw [msgC_length hx]; exact Tryz.is34⟩
  have hz : ∀ w, (zeroValue 34).run Tryz.prog w = .ok (.agg (msgC zeroMsg).toArray) w := zero_msg
  have H0 := Lib.hid (BxR.start w (msgC m) (msgC o) 34 34)
  have HMW := Lib.hid hm
  have HRD := Lib.hid hrd
  have hraw := hrd.1
  clear hm hmo hrd
  go_enter Tryz.func6, Tryz.ntmps6
  go_wp2_with (((with_reducible refine wpList_load_midG ?_ 34 (.tmp 4) ?_ w.heap.size 0 ?_ (msgC m) _ ?_ Tryz.underlying34 ?_ ?_ ?_); (· rfl); (· rfl); (· rfl); (· exact range_of H0.out.box); (· rfl); (· exact HI.out)))
  go_at_call 10
  with_reducible refine (HF1.out _ H0.out.bel).mono ?_
  rintro E w1 ⟨⟨z, rfl, hz1⟩, b1⟩
  have H1 := Lib.hid (H0.out.next b1.out)
  cases z
  · go_wp2_with ((go_at_call 11; (with_reducible refine (HW.out _ H1.out.bel).mono ?_); rintro E w2 ⟨rfl, b2⟩; have H2 := Lib.hid (H1.out.next b2.out)))
    go_ret
    exact ⟨rfl, H2.out.bel⟩
  · have HZ1 := Lib.hid (hz1 rfl)
    clear hz1
    go_wp2_with (((with_reducible refine wpList_load_midG ?_ 34 (.tmp 5) ?_ (w.heap.size + 1) 0 ?_ (msgC o) _ ?_ Tryz.underlying34 ?_ ?_ ?_); (· rfl); (· rfl); (· rfl); (· exact range_of H1.out.res); (· rfl); (· exact HIO.out)))
    go_at_call 10
    with_reducible refine (HF2.out _ H1.out.bel).mono ?_
    rintro E w2 ⟨⟨z, rfl, hz2⟩, b2⟩
    have H2 := Lib.hid (H1.out.next b2.out)
    cases z
    · go_wp2_with ((go_at_call 11; (with_reducible refine (HW.out _ H2.out.bel).mono ?_); rintro E w3 ⟨rfl, b3⟩; have H3 := Lib.hid (H2.out.next b3.out)))
      go_ret
      exact ⟨rfl, H3.out.bel⟩
    · have HZ2 := Lib.hid (hz2 rfl)
      clear hz2
      by_cases hrl : (rl : Int) > 4096
      · go_wp2_with ((go_at_call 11; (with_reducible refine (HW.out _ H2.out.bel).mono ?_); rintro E w3 ⟨rfl, b3⟩; have H3 := Lib.hid (H2.out.next b3.out)))
        go_ret
        exact ⟨rfl, H3.out.bel⟩
      · have hrl2 : ¬ (4096 < rl) := by omega
        go_wp2_with (first | ((with_reducible refine wpList_load_midG ?_ 34 (.tmp 4) ?_ w.heap.size 0 ?_ (msgC m) _ ?_ Tryz.underlying34 ?_ ?_ ?_); (· rfl); (· rfl); (· rfl); (· exact range_of H2.out.box); (· rfl); (· exact HI.out)) | (go_at_call 17; (with_reducible refine (HP.out HZ1.out _ H2.out.bel).mono ?_); rintro E w3 ⟨⟨A3, c3, rfl, S3⟩, b3⟩; have H3 := Lib.hid (H2.out.next b3.out)) | (go_at_call 21; (with_reducible refine (HGN.out _ _ _ S3.out).mono ?_); rintro E w4 ⟨rfl, b4⟩; have H4 := Lib.hid (H3.out.next b4.out)) | ((with_reducible refine wpList_store_part ?_ 34 (.tmp 10) (.tmp 40) ?_ w4.heap.size 0 (msgC zeroMsg) (msgC zeroMsg) (msgC zeroMsg) 34 ?_ ?_ ?_ ?_ ?_ ?_ ?_ ?_); (· rfl); (· rfl); (· exact heap_alloc_new w4 _); (· exact (HX.out zeroMsg zeroM_wf).1); (· exact (HX.out zeroMsg zeroM_wf).2.1); (· rfl); (· rfl); (· exact (HX.out zeroMsg zeroM_wf).2.2); (· exact one_msgC _); intro w5 G5; have b5 := Lib.hid (below_made G5.out.2); have H5 := Lib.hid (H4.out.next b5.out)) | ((with_reducible refine wpList_load_midG ?_ 34 (.tmp 4) ?_ w.heap.size 0 ?_ (msgC m) _ ?_ Tryz.underlying34 ?_ ?_ ?_); (· rfl); (· rfl); (· rfl); (· exact range_of H5.out.box); (· rfl); (· exact HI.out)) | (go_at_call 13; (with_reducible refine (HMY.out HZ1.out _ H5.out.bel).mono ?_); rintro E w6 ⟨rfl, b6⟩; have H6 := Lib.hid (H5.out.next b6.out)) | (go_at_call 21; (with_reducible refine (HR.out _ H6.out.bel).mono ?_); rintro E w7 ⟨rfl, b7⟩; have H7 := Lib.hid (H6.out.next b7.out)) | ((with_reducible refine wpList_store_part ?_ 34 (.tmp 19) (.tmp 140) ?_ w7.heap.size 0 (msgC zeroMsg) (msgC zeroMsg) (msgC zeroMsg) 34 ?_ ?_ ?_ ?_ ?_ ?_ ?_ ?_); (· rfl); (· rfl); (· exact heap_alloc_new w7 _); (· exact (HX.out zeroMsg zeroM_wf).1); (· exact (HX.out zeroMsg zeroM_wf).2.1); (· rfl); (· rfl); (· exact (HX.out zeroMsg zeroM_wf).2.2); (· exact one_msgC _); intro w8 G8; have b8 := Lib.hid (below_made G8.out.2); have H8 := Lib.hid (H7.out.next b8.out)) | (go_at_call 11; (with_reducible refine (HW.out _ H8.out.bel).mono ?_); rintro E w9 ⟨rfl, b9⟩; have H9 := Lib.hid (H8.out.next b9.out)))
        go_ret
        exact ⟨rfl, H9.out.bel⟩
set_option maxHeartbeats 8000000 in
theorem back_no_good (m o : MMsg) (raw : List UInt8) (RA : Option Addr) (rl rc cu : Nat) (w : World) (hm : m.Wf) (hmo : o.Wf) (hrd : Oct.Rd w RA rl raw) (HP : Hid (m.body.qs.length ≤ 40 → ∀ W, Below w.heap.size w W → Calls Tryz.prog 17 #[.agg (msgC m).toArray] W fun E w' => (∃ A c, E = .returned (.slice A 0 c) ∧ Hid (Oct.Sl A 0 c)) ∧ Hid (Below W.heap.size W w')))
    (HMY : Hid (m.body.qs.length ≤ 40 → ∀ W, Below w.heap.size w W → Calls Tryz.prog 13 #[.agg (msgC m).toArray] W fun E w' => E = .returned (.bool false) ∧ Hid (Below W.heap.size W w')))
    (HF1 : Hid (∀ W, Below w.heap.size w W → Calls Tryz.prog 10 #[.agg (msgC m).toArray] W fun E w' => (∃ z, E = .returned (.bool z) ∧ (z = true → m.body.qs.length ≤ 40)) ∧ Hid (Below W.heap.size W w')))
    (HF2 : Hid (∀ W, Below w.heap.size w W → Calls Tryz.prog 10 #[.agg (msgC o).toArray] W fun E w' => (∃ z, E = .returned (.bool z) ∧ (z = true → o.body.qs.length ≤ 40)) ∧ Hid (Below W.heap.size W w')))
    (HW : Hid (∀ W, Below w.heap.size w W → Calls Tryz.prog 11 #[] W fun E w' => E = .returned (.bool true) ∧ Hid (Below W.heap.size W w')))
    (Z : MMsg) (HZW : Hid Z.Wf) (HR : Hid (∀ W, Below w.heap.size w W → Calls Tryz.prog 21 #[.slice RA rl rc] W fun E w' => ∃ A9 c9, E = .returned (.tuple #[.agg (msgC (wq Z A9 c9)).toArray, .int .i64 0]) ∧ Hid (QOw W.heap.size w' A9 c9 Z.body.qs) ∧ Hid (Below W.heap.size W w')))
    (HPZ : Hid (∀ (A9 : Option Addr) (c9 B : Nat) (W : World), QOw B W A9 c9 Z.body.qs → Below w.heap.size w W → Calls Tryz.prog 17 #[.agg (msgC (wq Z A9 c9)).toArray] W fun E w' => ∃ A n c, E = .returned (.slice A n c) ∧ Hid (Ow W.heap.size w' A n c raw) ∧ Hid (Below W.heap.size W w'))) :
    Calls Tryz.prog 6 #[.agg (msgC m).toArray, .agg (msgC o).toArray, .slice RA rl rc, .int .u16 (cu : Int)] w fun E w' => E = .returned (.bool true) ∧ Below w.heap.size w w' := by
  obtain ⟨rS, hrS⟩ : ∃ S, str raw = S := ⟨_, rfl⟩
  have HRS := Lib.hid hrS
  clear hrS
  have HGN : Hid (∀ A c W, Oct.Sl A 0 c → Calls Tryz.prog 21 #[.slice A 0 c] W fun E w' => E = .returned (.tuple #[.agg (msgC zeroMsg).toArray, .int .i64 5]) ∧ Hid (Below W.heap.size W w')) := Lib.hid fun A c W hs => get_none A c W hs
  have HI : Hid ((Tryz.prog.info? 34).map (·.size) = some (msgC m).length) := Lib.hid (by rw [msgC_length hm]; exact Tryz.is34)
  have HIO : Hid ((Tryz.prog.info? 34).map (·.size) = some (msgC o).length) := Lib.hid (by rw [msgC_length hmo]; exact Tryz.is34)
  have HX : Hid (∀ x : MMsg, x.Wf → 0 + (msgC x).length ≤ (msgC zeroMsg).length ∧ setAll (msgC zeroMsg) 0 (msgC x) = msgC x ∧ (Tryz.prog.info? 34).map (·.size) = some (msgC x).length) := Lib.hid fun x hx => ⟨by rw [msgC_length zeroM_wf, msgC_length hx]; omega, setAll_all (by rw [msgC_length zeroM_wf, msgC_length hx]), by rw [msgC_length hx]; exact Tryz.is34⟩
  have hz : ∀ w, (zeroValue 34).run Tryz.prog w = .ok (.agg (msgC zeroMsg).toArray) w := zero_msg
  have H0 := Lib.hid (BxR.start w (msgC m) (msgC o) 34 34)
  have HMW := Lib.hid hm
  have HRD := Lib.hid hrd
  have hraw := hrd.1
  clear hm hmo hrd
  go_enter Tryz.func6, Tryz.ntmps6
  go_wp2_with (((with_reducible refine wpList_load_midG ?_ 34 (.tmp 4) ?_ w.heap.size 0 ?_ (msgC m) _ ?_ Tryz.underlying34 ?_ ?_ ?_); (· rfl); (· rfl); (· rfl); (· exact range_of H0.out.box); (· rfl); (· exact HI.out)))
  go_at_call 10
  with_reducible refine (HF1.out _ H0.out.bel).mono ?_
  rintro E w1 ⟨⟨z, rfl, hz1⟩, b1⟩
  have H1 := Lib.hid (H0.out.next b1.out)
  cases z
  · go_wp2_with ((go_at_call 11; (with_reducible refine (HW.out _ H1.out.bel).mono ?_); rintro E w2 ⟨rfl, b2⟩; have H2 := Lib.hid (H1.out.next b2.out)))
    go_ret
    exact ⟨rfl, H2.out.bel⟩
  · have HZ1 := Lib.hid (hz1 rfl)
    clear hz1
    go_wp2_with (((with_reducible refine wpList_load_midG ?_ 34 (.tmp 5) ?_ (w.heap.size + 1) 0 ?_ (msgC o) _ ?_ Tryz.underlying34 ?_ ?_ ?_); (· rfl); (· rfl); (· rfl); (· exact range_of H1.out.res); (· rfl); (· exact HIO.out)))
    go_at_call 10
    with_reducible refine (HF2.out _ H1.out.bel).mono ?_
    rintro E w2 ⟨⟨z, rfl, hz2⟩, b2⟩
    have H2 := Lib.hid (H1.out.next b2.out)
    cases z
    · go_wp2_with ((go_at_call 11; (with_reducible refine (HW.out _ H2.out.bel).mono ?_); rintro E w3 ⟨rfl, b3⟩; have H3 := Lib.hid (H2.out.next b3.out)))
      go_ret
      exact ⟨rfl, H3.out.bel⟩
    · have HZ2 := Lib.hid (hz2 rfl)
      clear hz2
      by_cases hrl : (rl : Int) > 4096
      · go_wp2_with ((go_at_call 11; (with_reducible refine (HW.out _ H2.out.bel).mono ?_); rintro E w3 ⟨rfl, b3⟩; have H3 := Lib.hid (H2.out.next b3.out)))
        go_ret
        exact ⟨rfl, H3.out.bel⟩
      · have hrl2 : ¬ (4096 < rl) := by omega
        go_wp2_with (first | ((with_reducible refine wpList_load_midG ?_ 34 (.tmp 4) ?_ w.heap.size 0 ?_ (msgC m) _ ?_ Tryz.underlying34 ?_ ?_ ?_); (· rfl); (· rfl); (· rfl); (· exact range_of H2.out.box); (· rfl); (· exact HI.out)) | (go_at_call 17; (with_reducible refine (HP.out HZ1.out _ H2.out.bel).mono ?_); rintro E w3 ⟨⟨A3, c3, rfl, S3⟩, b3⟩; have H3 := Lib.hid (H2.out.next b3.out)) | (go_at_call 21; (with_reducible refine (HGN.out _ _ _ S3.out).mono ?_); rintro E w4 ⟨rfl, b4⟩; have H4 := Lib.hid (H3.out.next b4.out)) | ((with_reducible refine wpList_store_part ?_ 34 (.tmp 10) (.tmp 40) ?_ w4.heap.size 0 (msgC zeroMsg) (msgC zeroMsg) (msgC zeroMsg) 34 ?_ ?_ ?_ ?_ ?_ ?_ ?_ ?_); (· rfl); (· rfl); (· exact heap_alloc_new w4 _); (· exact (HX.out zeroMsg zeroM_wf).1); (· exact (HX.out zeroMsg zeroM_wf).2.1); (· rfl); (· rfl); (· exact (HX.out zeroMsg zeroM_wf).2.2); (· exact one_msgC _); intro w5 G5; have b5 := Lib.hid (below_made G5.out.2); have H5 := Lib.hid (H4.out.next b5.out)) | ((with_reducible refine wpList_load_midG ?_ 34 (.tmp 4) ?_ w.heap.size 0 ?_ (msgC m) _ ?_ Tryz.underlying34 ?_ ?_ ?_); (· rfl); (· rfl); (· rfl); (· exact range_of H5.out.box); (· rfl); (· exact HI.out)) | (go_at_call 13; (with_reducible refine (HMY.out HZ1.out _ H5.out.bel).mono ?_); rintro E w6 ⟨rfl, b6⟩; have H6 := Lib.hid (H5.out.next b6.out)) | (go_at_call 21; (with_reducible refine (HR.out _ H6.out.bel).mono ?_); rintro E w7 ⟨A9, c9, rfl, Q7, b7⟩; have H7 := Lib.hid (H6.out.next b7.out)) | ((with_reducible refine wpList_store_part ?_ 34 (.tmp 19) (.tmp 140) ?_ w7.heap.size 0 (msgC zeroMsg) (msgC (wq Z A9 c9)) (msgC (wq Z A9 c9)) 34 ?_ ?_ ?_ ?_ ?_ ?_ ?_ ?_); (· rfl); (· rfl); (· exact heap_alloc_new w7 _); (· exact (HX.out (wq Z A9 c9) HZW.out).1); (· exact (HX.out (wq Z A9 c9) HZW.out).2.1); (· rfl); (· rfl); (· exact (HX.out (wq Z A9 c9) HZW.out).2.2); (· exact one_msgC _); intro w8 G8; have b8 := Lib.hid (below_made G8.out.2); have H8 := Lib.hid (H7.out.next b8.out); have Z8 : Hid (Bk w8 w7.heap.size (msgC (wq Z A9 c9)) 34) := Lib.hid G8.out.1; have Q8 := Lib.hid (Q7.out.below b8.out)))
        refine wp_region_any (by kernel_rfl) ?_
        have H9 := Lib.hid (H8.out.drewN 1)
        have Z9 := Lib.hid (Z8.out.drewN 1)
        have Q9 := Lib.hid (Q8.out.below (below_drewN (Below.refl _ _) 1))
        change wpAny _ _ _ _ _ _ _ (w8.drewN 1)
        generalize w8.drewN 1 = w9 at H9 Z9 Q9 ⊢
        refine wpAny_of_held (S := fun W => Below w9.heap.size w9 W) _ _ _ _ ?_
        refine tk 0 ⟨some 149, .load 34 (.tmp 19), _, _, _, none⟩ (.agg (msgC (wq Z A9 c9)).toArray) rfl (by kernel_rfl) (fun _ _ _ h => h) (Below.refl _ _) (fun W hSW => exec_load_mid 34 (.tmp 19) rfl w7.heap.size 0 rfl (msgC (wq Z A9 c9)) _ (rangeAt_below Z9.out.src hSW Z9.out.lt) Tryz.underlying34 rfl ((HX.out (wq Z A9 c9) HZW.out).2.2)) ?_
        try simp only [Act.put, l0, l1, l2]
        refine tk 3 ⟨some 152, .move (.tmp 2), _, _, _, none⟩ (.slice RA rl rc) rfl (by kernel_rfl) (fun _ _ _ h => h) (Below.refl _ _) (fun W hSW => by go_simp) ?_
        try simp only [Act.put, l0, l1, l2]
        refine tk 4 ⟨some 153, .convert 38 9 (.tmp 152), _, _, _, none⟩ (.string rS) rfl (by kernel_rfl) (fun _ _ _ h => h) (Below.refl _ _) (fun W hSW => by have hc := run_string (c := rc) ((rd_sh (HRD.out.below H9.out.bel)).below hSW (fun _ h _ => h)); rw [HRS.out] at hc; go_simp) ?_
        try simp only [Act.put, l0, l1, l2]
        refine rdy [1] (by kernel_rfl) ?_
        refine AllReadyH.cons (o := ⟨some 150, .call { callee := .value (.func 17), args := #[.tmp 149], argTypes := #[34] }, _, _, _, none⟩) rfl (fun K' hK' => ?_) AllReadyH.nil
        go_simp
        go_at_call 17
        refine (HPZ.out _ _ _ _ Q9.out H9.out.bel).mono ?_
        rintro E w10 ⟨A10, n10, c10, rfl, K10, b10⟩
        have H10 := Lib.hid (H9.out.next b10.out)
        refine hK'.out _ _ (b10.out) (fun _ => wpAnyH_next (b10.out) ?_)
        clear hK' K'
        try simp only [Act.put, l0, l1, l2]
        refine tk 2 ⟨some 151, .convert 38 9 (.tmp 150), _, _, _, none⟩ (.string rS) rfl (by kernel_rfl) (fun _ _ _ h => h) (Below.refl _ _) (fun W hSW => by have hc := run_string (c := c10) ((K10.out.rd).below hSW (fun _ h _ => h)); rw [HRS.out] at hc; go_simp) ?_
        try simp only [Act.put, l0, l1, l2]
        refine tk 5 ⟨some 154, .binOp .eql 9 (.tmp 151) (.tmp 153) 9, _, _, _, none⟩ (.bool true) rfl (by kernel_rfl) (fun _ _ _ h => h) (Below.refl _ _) (fun W hSW => by go_simp) ?_
        try simp only [Act.put, l0, l1, l2]
        refine tk 6 ⟨some 155, .move (.tmp 154), _, _, _, none⟩ (.bool true) rfl (by kernel_rfl) (fun _ _ _ h => h) (Below.refl _ _) (fun W hSW => by go_simp) ?_
        try simp only [Act.put, l0, l1, l2]
        refine rdy [7] (by kernel_rfl) ?_
        refine AllReadyH.cons (o := ⟨some 156, .call { callee := .value (.func 11), args := #[], argTypes := #[] }, _, _, _, some (6, true)⟩) rfl (fun K' hK' => ?_) AllReadyH.nil
        go_simp
        go_at_call 11
        refine (HW.out _ H10.out.bel).mono ?_
        rintro E w11 ⟨rfl, b11⟩
        have H11 := Lib.hid (H10.out.next b11.out)
        refine hK'.out _ _ (b11.out) (fun _ => wpAnyH_next (b11.out) ?_)
        clear hK' K'
        try simp only [Act.put, l0, l1, l2]
        refine tk 8 ⟨some 157, .pick (.tmp 155) (.tmp 156) (.const (.bool false)), _, _, _, none⟩ (.bool true) rfl (by kernel_rfl) (fun _ _ _ h => h) (Below.refl _ _) (fun W hSW => by go_simp) ?_
        try simp only [Act.put, l0, l1, l2]
        refine tk 9 ⟨some 8, .assign (.tmp 157), _, _, _, none⟩ (.bool true) rfl (by kernel_rfl) (fun _ _ _ h => h) (Below.refl _ _) (fun W hSW => by go_simp) ?_
        try simp only [Act.put, l0, l1, l2]
        refine wpAnyH_done (by kernel_rfl) ?_ _
        go_wp2_with fail
        go_ret
        exact ⟨rfl, H11.out.bel⟩
end Go.Proofs.YtghjogneogkpoaaGreatDoor.Sh
