/-
  What is proved: what is put is got, what is got is put as it stood (MessageBack): a message that may be. Conditions as stated.
-/
import Derived.Test.YtghjogneogkpoaaGreatDoorGtc
import Derived.Test.YtghjogneogkpoaaGreatDoorGuc
namespace Go.Proofs.YtghjogneogkpoaaGreatDoor.Sh
open Go.RowKit
set_option maxRecDepth 100000

set_option maxHeartbeats 8000000 in
theorem back_yes_bad (m o : MMsg) (raw : List UInt8) (RA : Option Addr) (rl rc cu : Nat) (w : World) (hm : m.Wf) (hmo : o.Wf) (hrd : Oct.Rd w RA rl raw) (P MB : List UInt8) (n nb : Nat) (hcb : Hid (cu < 65536)) (HN : Hid (n ≤ 2000 ∧ 0 < n ∧ nb ≤ 1024))
    (HP : Hid (m.body.qs.length ≤ 40 → ∀ W, Below w.heap.size w W → Calls Tryz.prog 17 #[.agg (msgC m).toArray] W fun E w' => (∃ A c, E = .returned (.slice A n c) ∧ Hid (Ow W.heap.size w' A n c P)) ∧ Hid (Below W.heap.size W w')))
    (HMY : Hid (m.body.qs.length ≤ 40 → ∀ W, Below w.heap.size w W → Calls Tryz.prog 13 #[.agg (msgC m).toArray] W fun E w' => E = .returned (.bool true) ∧ Hid (Below W.heap.size W w')))
    (HG : Hid (∀ A c B W, Ow B W A n c P → Calls Tryz.prog 21 #[.slice A n c] W fun E w' => ∃ A7 c7, E = .returned (.tuple #[.agg (msgC (wq m A7 c7)).toArray, .int .i64 0]) ∧ Hid (QOw W.heap.size w' A7 c7 m.body.qs) ∧ Hid (Below W.heap.size W w')))
    (HS : Hid (∀ (A : Option Addr) (c B : Nat) (W : World), QOw B W A c m.body.qs → Below w.heap.size w W → Calls Tryz.prog 25 #[.agg (msgC (wq m A c)).toArray, .agg (msgC m).toArray] W fun E w' => E = .returned (.bool true) ∧ Hid (Below W.heap.size W w')))
    (HGC : Hid (∀ g r c B W, r < n → Ow B W (some ⟨g, 0, none⟩) n c P → Calls Tryz.prog 21 #[.slice (some ⟨g, 0, none⟩) r c] W fun E w' => E = .returned (.tuple #[.agg (msgC zeroMsg).toArray, .int .i64 5]) ∧ Hid (Below W.heap.size W w')))
    (HGE : Hid (∀ A c B W, Ow B W A (n + 1) c (P ++ [0]) → Calls Tryz.prog 21 #[.slice A (n + 1) c] W fun E w' => E = .returned (.tuple #[.agg (msgC zeroMsg).toArray, .int .i64 5]) ∧ Hid (Below W.heap.size W w')))
    (HBY : Hid (m.body.qs.length ≤ 40 → ∀ W, Below w.heap.size w W → Calls Tryz.prog 15 #[.agg (msgC m).toArray] W fun E w' => (∃ A c, E = .returned (.slice A nb c) ∧ Hid (Ow W.heap.size w' A nb c MB)) ∧ Hid (Below W.heap.size W w')))
    (HOF : Hid (∀ A c B W, Ow B W A nb c MB → Calls Tryz.prog 23 #[.int .i64 m.origin, .int .u64 (m.number : Int), .slice A nb c, .agg (u8s m.tag).toArray] W fun E w' => ∃ A7 c7, E = .returned (.tuple #[.agg (msgC (wq m A7 c7)).toArray, .int .i64 0]) ∧ Hid (QOw W.heap.size w' A7 c7 m.body.qs) ∧ Hid (Below W.heap.size W w')))
    (HOY : Hid (o.body.qs.length ≤ 40 → ∀ W, Below w.heap.size w W → Calls Tryz.prog 13 #[.agg (msgC o).toArray] W fun E w' => E = .returned (.bool false) ∧ Hid (Below W.heap.size W w')))
    (HF1 : Hid (∀ W, Below w.heap.size w W → Calls Tryz.prog 10 #[.agg (msgC m).toArray] W fun E w' => (∃ z, E = .returned (.bool z) ∧ (z = true → m.body.qs.length ≤ 40)) ∧ Hid (Below W.heap.size W w')))
    (HF2 : Hid (∀ W, Below w.heap.size w W → Calls Tryz.prog 10 #[.agg (msgC o).toArray] W fun E w' => (∃ z, E = .returned (.bool z) ∧ (z = true → o.body.qs.length ≤ 40)) ∧ Hid (Below W.heap.size W w')))
    (HW : Hid (∀ W, Below w.heap.size w W → Calls Tryz.prog 11 #[] W fun E w' => E = .returned (.bool true) ∧ Hid (Below W.heap.size W w')))
    (HR : Hid (∀ W, Below w.heap.size w W → Calls Tryz.prog 21 #[.slice RA rl rc] W fun E w' => E = .returned (.tuple #[.agg (msgC zeroMsg).toArray, .int .i64 5]) ∧ Hid (Below W.heap.size W w'))) :
    Calls Tryz.prog 6 #[.agg (msgC m).toArray, .agg (msgC o).toArray, .slice RA rl rc, .int .u16 (cu : Int)] w fun E w' => E = .returned (.bool true) ∧ Below w.heap.size w w' := by
  have hn0 : (0 : Int) < (n : Int) := by have := HN.out; omega
  have hnb : (nb : Int) ≤ 1024 := by have := HN.out; omega
  have hcu : wrap64 (cu : Int) = (cu : Int) := by have := hcb.out; first | go_num | (unfold wrap64; omega) | (simp only [wrap64]; omega)
  obtain ⟨r, hr, hrn⟩ : ∃ r : Nat, ((cu : Int).tmod (n : Int)) = (r : Int) ∧ r < n := ⟨cu % n, by rw [Int.ofNat_tmod], Nat.mod_lt _ (by have := HN.out; omega)⟩
  have HRN := Lib.hid hrn
  clear hrn
  have hr0 : (0 : Int) ≤ (r : Int) := by omega
  have hne : ¬ ((n : Int) = 0) := by omega
  have HTG : Hid ((Tryz.prog.info? 27).map (·.size) = some (u8s m.tag).length) := Lib.hid (by rw [u8s_length, hm.2.2]; kernel_rfl)
  have HI : Hid ((Tryz.prog.info? 34).map (·.size) = some (msgC m).length) := Lib.hid (by rw [msgC_length hm]; exact Tryz.is34)
  have HIO : Hid ((Tryz.prog.info? 34).map (·.size) = some (msgC o).length) := Lib.hid (by rw [msgC_length hmo]; exact Tryz.is34)
  have HX : Hid (∀ x : MMsg, x.Wf → 0 + (msgC x).length ≤ (msgC zeroMsg).length ∧ setAll (msgC zeroMsg) 0 (msgC x) = msgC x ∧ (Tryz.prog.info? 34).map (·.size) = some (msgC x).length) := Lib.hid fun x hx => ⟨by rw [msgC_length zeroM_wf, msgC_length hx]; omega, setAll_all (by rw [msgC_length zeroM_wf, msgC_length hx]), by rw [msgC_length hx]; exact Tryz.is34⟩
  have hz : ∀ w, (zeroValue 34).run Tryz.prog w = .ok (.agg (msgC zeroMsg).toArray) w := zero_msg
  have H0 := Lib.hid (BxR.start w (msgC m) (msgC o) 34 34)
  have HMW := Lib.hid hm
  have HRD := Lib.hid hrd
  have hraw := hrd.1
  clear hm hmo hrd
  go_enter Tryz.func6, Tryz.ntmps6
  go_wp2_with (((with_reducible refine wpList_load_midG ?_ 34 (.tmp 4) ?_ w.heap.size 0 ?_ (msgC m) _ ?_ Tryz.underlying34 ?_ ?_ ?_); (· rfl); (· rfl); (· rfl); (· exact range_of H0.out.box); (· rfl); (· exact HI.out)))
  go_at_call 10
  with_reducible refine (HF1.out _ H0.out.bel).mono ?_
  rintro E w1 ⟨⟨z, rfl, hz1⟩, b1⟩
  have H1 := Lib.hid (H0.out.next b1.out)
  cases z
  · go_wp2_with ((go_at_call 11; (with_reducible refine (HW.out _ H1.out.bel).mono ?_); rintro E w2 ⟨rfl, b2⟩; have H2 := Lib.hid (H1.out.next b2.out)))
    go_ret
    exact ⟨rfl, H2.out.bel⟩
  · have HZ1 := Lib.hid (hz1 rfl)
    clear hz1
    go_wp2_with (((with_reducible refine wpList_load_midG ?_ 34 (.tmp 5) ?_ (w.heap.size + 1) 0 ?_ (msgC o) _ ?_ Tryz.underlying34 ?_ ?_ ?_); (· rfl); (· rfl); (· rfl); (· exact range_of H1.out.res); (· rfl); (· exact HIO.out)))
    go_at_call 10
    with_reducible refine (HF2.out _ H1.out.bel).mono ?_
    rintro E w2 ⟨⟨z, rfl, hz2⟩, b2⟩
    have H2 := Lib.hid (H1.out.next b2.out)
    cases z
    · go_wp2_with ((go_at_call 11; (with_reducible refine (HW.out _ H2.out.bel).mono ?_); rintro E w3 ⟨rfl, b3⟩; have H3 := Lib.hid (H2.out.next b3.out)))
      go_ret
      exact ⟨rfl, H3.out.bel⟩
    · have HZ2 := Lib.hid (hz2 rfl)
      clear hz2
      by_cases hrl : (rl : Int) > 4096
      · go_wp2_with ((go_at_call 11; (with_reducible refine (HW.out _ H2.out.bel).mono ?_); rintro E w3 ⟨rfl, b3⟩; have H3 := Lib.hid (H2.out.next b3.out)))
        go_ret
        exact ⟨rfl, H3.out.bel⟩
      · have hrl2 : ¬ (4096 < rl) := by omega
        go_wp2_with (first | (rw [show decide ((1024 : Int) < (nb : Int)) = false from decide_eq_false (by have := HN.out; omega)]) | ((with_reducible refine wpList_load_midG ?_ 34 (.tmp 4) ?_ w.heap.size 0 ?_ (msgC m) _ ?_ Tryz.underlying34 ?_ ?_ ?_); (· rfl); (· rfl); (· rfl); (· exact range_of H2.out.box); (· rfl); (· exact HI.out)) | (go_at_call 17; (with_reducible refine (HP.out HZ1.out _ H2.out.bel).mono ?_); rintro E w3 ⟨⟨A3, c3, rfl, O3⟩, b3⟩; have H3 := Lib.hid (H2.out.next b3.out); obtain ⟨gb, Cb, rfl, _, _, _⟩ := O3.out.row (by have := HN.out; omega); have hnc : (n : Int) ≤ (c3 : Int) := (by have := O3.out.2.2.1; omega); have hrc : (r : Int) ≤ (c3 : Int) := (by have := HRN.out; omega)) | (go_at_call 21; (with_reducible refine (HG.out _ _ _ _ O3.out).mono ?_); rintro E w4 ⟨A7, c7, rfl, Q4, b4⟩; have H4 := Lib.hid (H3.out.next b4.out); have O4 := Lib.hid (O3.out.below b4.out)) | ((with_reducible refine wpList_store_part ?_ 34 (.tmp 10) (.tmp 40) ?_ w4.heap.size 0 (msgC zeroMsg) (msgC (wq m A7 c7)) (msgC (wq m A7 c7)) 34 ?_ ?_ ?_ ?_ ?_ ?_ ?_ ?_); (· rfl); (· rfl); (· exact heap_alloc_new w4 _); (· exact (HX.out (wq m A7 c7) HMW.out).1); (· exact (HX.out (wq m A7 c7) HMW.out).2.1); (· rfl); (· rfl); (· exact (HX.out (wq m A7 c7) HMW.out).2.2); (· exact one_msgC _); intro w5 G5; have b5 := Lib.hid (below_made G5.out.2); have H5 := Lib.hid (H4.out.next b5.out); have X5 : Hid (Bk w5 w4.heap.size (msgC (wq m A7 c7)) 34) := Lib.hid G5.out.1; have O5 := Lib.hid (O4.out.below b5.out); have Q5 := Lib.hid (Q4.out.below b5.out)) | ((with_reducible refine wpList_load_midG ?_ 34 (.tmp 4) ?_ w.heap.size 0 ?_ (msgC m) _ ?_ Tryz.underlying34 ?_ ?_ ?_); (· rfl); (· rfl); (· rfl); (· exact range_of H5.out.box); (· rfl); (· exact HI.out)) | (go_at_call 13; (with_reducible refine (HMY.out HZ1.out _ H5.out.bel).mono ?_); rintro E w6 ⟨rfl, b6⟩; have H6 := Lib.hid (H5.out.next b6.out); have O6 := Lib.hid (O5.out.below b6.out); have Q6 := Lib.hid (Q5.out.below b6.out); have X6 : Hid (Bk w6 w4.heap.size (msgC (wq m A7 c7)) 34) := Lib.hid (X5.out.below b6.out X5.out.lt)) | ((with_reducible refine wpList_load_midG ?_ 34 (.tmp 10) ?_ w4.heap.size 0 ?_ (msgC (wq m A7 c7)) _ ?_ Tryz.underlying34 ?_ ?_ ?_); (· rfl); (· rfl); (· rfl); (· exact X6.out.src); (· rfl); (· exact (HX.out (wq m A7 c7) HMW.out).2.2)) | ((with_reducible refine wpList_load_midG ?_ 34 (.tmp 4) ?_ w.heap.size 0 ?_ (msgC m) _ ?_ Tryz.underlying34 ?_ ?_ ?_); (· rfl); (· rfl); (· rfl); (· exact range_of H6.out.box); (· rfl); (· exact HI.out)) | (go_at_call 25; (with_reducible refine (HS.out _ _ _ _ Q6.out H6.out.bel).mono ?_); rintro E w7 ⟨rfl, b7⟩; have H7 := Lib.hid (H6.out.next b7.out); have O7 := Lib.hid (O6.out.below b7.out)) | (go_at_call 21; (with_reducible refine (HGC.out _ _ _ _ _ HRN.out O7.out).mono ?_); rintro E w8 ⟨rfl, b8⟩; have H8 := Lib.hid (H7.out.next b8.out); have O8 := Lib.hid (O7.out.below b8.out)) | ((with_reducible refine wpList_store_part ?_ 34 (.tmp 12) (.tmp 78) ?_ w8.heap.size 0 (msgC zeroMsg) (msgC zeroMsg) (msgC zeroMsg) 34 ?_ ?_ ?_ ?_ ?_ ?_ ?_ ?_); (· rfl); (· rfl); (· exact heap_alloc_new w8 _); (· exact (HX.out zeroMsg zeroM_wf).1); (· exact (HX.out zeroMsg zeroM_wf).2.1); (· rfl); (· rfl); (· exact (HX.out zeroMsg zeroM_wf).2.2); (· exact one_msgC _); intro w9 G9; have b9 := Lib.hid (below_made G9.out.2); have H9 := Lib.hid (H8.out.next b9.out); have O9 := Lib.hid (O8.out.below b9.out)) | (at_builtin; (with_reducible refine append_fresh ?_ (.tmp 81) (.tmp 82) ?_ w2.heap.size n c3 (some ⟨gb, 0, none⟩) P ?_ ?_ O9.out (by have := HN.out; omega) ?_); (· rfl); (· rfl); (· rfl); (· rfl); intro A10 c10 w10 O10 b10; have H10 := Lib.hid (H9.out.next b10.out)) | (at_builtin; (with_reducible refine append_zero ?_ (.tmp 83) (.tmp 84) ?_ n c10 A10 P ?_ ?_ O10.out b10.out (by have := HN.out; omega) ?_); (· rfl); (· rfl); (· rfl); (· rfl); intro A11 c11 w11 O11 b11; have H11 := Lib.hid (H9.out.next b11.out)) | (go_at_call 21; (with_reducible refine (HGE.out _ _ _ _ O11.out).mono ?_); rintro E w12 ⟨rfl, b12⟩; have H12 := Lib.hid (H11.out.next b12.out)) | ((with_reducible refine wpList_store_part ?_ 34 (.tmp 14) (.tmp 87) ?_ w12.heap.size 0 (msgC zeroMsg) (msgC zeroMsg) (msgC zeroMsg) 34 ?_ ?_ ?_ ?_ ?_ ?_ ?_ ?_); (· rfl); (· rfl); (· exact heap_alloc_new w12 _); (· exact (HX.out zeroMsg zeroM_wf).1); (· exact (HX.out zeroMsg zeroM_wf).2.1); (· rfl); (· rfl); (· exact (HX.out zeroMsg zeroM_wf).2.2); (· exact one_msgC _); intro w13 G13; have b13 := Lib.hid (below_made G13.out.2); have H13 := Lib.hid (H12.out.next b13.out)) | ((with_reducible refine wpList_load_midG ?_ 34 (.tmp 4) ?_ w.heap.size 0 ?_ (msgC m) _ ?_ Tryz.underlying34 ?_ ?_ ?_); (· rfl); (· rfl); (· rfl); (· exact range_of H13.out.box); (· rfl); (· exact HI.out)) | (go_at_call 15; (with_reducible refine (HBY.out HZ1.out _ H13.out.bel).mono ?_); rintro E w14 ⟨⟨A14, c14, rfl, O14⟩, b14⟩; have H14 := Lib.hid (H13.out.next b14.out); have e14 := (msg_lies (range_of H14.out.box) HMW.out).origin; have f14 := (msg_lies (range_of H14.out.box) HMW.out).number) | ((with_reducible refine wpList_load_midG ?_ 27 (.tmp 97) ?_ w.heap.size 89 ?_ (u8s m.tag) _ ?_ Tryz.underlying27 ?_ ?_ ?_); (· rfl); (· rfl); (· rfl); (· exact (msg_lies (range_of H14.out.box) HMW.out).tag); (· rfl); (· exact HTG.out)) | (go_at_call 23; (with_reducible refine (HOF.out _ _ _ _ O14.out).mono ?_); rintro E w15 ⟨A15, c15, rfl, Q15, b15⟩; have H15 := Lib.hid (H14.out.next b15.out)) | ((with_reducible refine wpList_store_part ?_ 34 (.tmp 17) (.tmp 100) ?_ w15.heap.size 0 (msgC zeroMsg) (msgC (wq m A15 c15)) (msgC (wq m A15 c15)) 34 ?_ ?_ ?_ ?_ ?_ ?_ ?_ ?_); (· rfl); (· rfl); (· exact heap_alloc_new w15 _); (· exact (HX.out (wq m A15 c15) HMW.out).1); (· exact (HX.out (wq m A15 c15) HMW.out).2.1); (· rfl); (· rfl); (· exact (HX.out (wq m A15 c15) HMW.out).2.2); (· exact one_msgC _); intro w16 G16; have b16 := Lib.hid (below_made G16.out.2); have H16 := Lib.hid (H15.out.next b16.out); have Y16 : Hid (Bk w16 w15.heap.size (msgC (wq m A15 c15)) 34) := Lib.hid G16.out.1; have Q16 := Lib.hid (Q15.out.below b16.out)) | ((with_reducible refine wpList_load_midG ?_ 34 (.tmp 17) ?_ w15.heap.size 0 ?_ (msgC (wq m A15 c15)) _ ?_ Tryz.underlying34 ?_ ?_ ?_); (· rfl); (· rfl); (· rfl); (· exact Y16.out.src); (· rfl); (· exact (HX.out (wq m A15 c15) HMW.out).2.2)) | ((with_reducible refine wpList_load_midG ?_ 34 (.tmp 4) ?_ w.heap.size 0 ?_ (msgC m) _ ?_ Tryz.underlying34 ?_ ?_ ?_); (· rfl); (· rfl); (· rfl); (· exact range_of H16.out.box); (· rfl); (· exact HI.out)) | (go_at_call 25; (with_reducible refine (HS.out _ _ _ _ Q16.out H16.out.bel).mono ?_); rintro E w17 ⟨rfl, b17⟩; have H17 := Lib.hid (H16.out.next b17.out)))
        have O11' := Lib.hid (O9.out.below b11.out)
        have O17 := Lib.hid ((((((O11'.out.below b12.out).below b13.out).below b14.out).below b15.out).below b16.out).below b17.out)
        refine wp_region_any (by kernel_rfl) ?_
        have H18 := Lib.hid (H17.out.drewN 1)
        have O18 := Lib.hid (O17.out.below (below_drewN (Below.refl _ _) 1))
        change wpAny _ _ _ _ _ _ _ (w17.drewN 1)
        generalize w17.drewN 1 = w18 at H18 O18 ⊢
        refine wpAny_of_held (S := fun W => Below w18.heap.size w18 W) _ _ _ _ ?_
        refine tk 0 ⟨some 123, .load 34 (.tmp 5), _, _, _, none⟩ (.agg (msgC o).toArray) rfl (by kernel_rfl) (fun _ _ _ h => h) (Below.refl _ _) (fun W hSW => exec_load_mid 34 (.tmp 5) rfl (w.heap.size + 1) 0 rfl (msgC o) _ (rangeAt_below (range_of H18.out.res) hSW H18.out.lt) Tryz.underlying34 rfl (HIO.out)) ?_
        try simp only [Act.put, l0, l1, l2]
        refine rdy [1] (by kernel_rfl) ?_
        refine AllReadyH.cons (o := ⟨some 124, .call { callee := .value (.func 13), args := #[.tmp 123], argTypes := #[34] }, _, _, _, none⟩) rfl (fun K' hK' => ?_) AllReadyH.nil
        go_simp
        go_at_call 13
        refine (HOY.out HZ2.out _ H18.out.bel).mono ?_
        rintro E w19 ⟨rfl, b19⟩
        have H19 := Lib.hid (H18.out.next b19.out)
        have O19 := Lib.hid (O18.out.below b19.out)
        refine hK'.out _ _ (b19.out) (fun _ => wpAnyH_next (b19.out) ?_)
        clear hK' K'
        try simp only [Act.put, l0, l1, l2]
        refine tk 2 ⟨some 125, .move (.tmp 124), _, _, _, none⟩ (.bool false) rfl (by kernel_rfl) (fun _ _ _ h => h) (Below.refl _ _) (fun W hSW => by go_simp) ?_
        try simp only [Act.put, l0, l1, l2]
        refine sk 3 ⟨some 126, .load 34 (.tmp 5), _, _, _, some (2, true)⟩ rfl (by kernel_rfl) (fun _ _ _ h => h) (Below.refl _ _) ?_
        try simp only [Act.put, l0, l1, l2]
        refine sk 4 ⟨some 127, .call { callee := .value (.func 17), args := #[.tmp 126], argTypes := #[34] }, _, _, _, some (2, true)⟩ rfl (by kernel_rfl) (fun _ _ _ h => h) (Below.refl _ _) ?_
        try simp only [Act.put, l0, l1, l2]
        refine sk 5 ⟨some 128, .convert 38 9 (.tmp 127), _, _, _, some (2, true)⟩ rfl (by kernel_rfl) (fun _ _ _ h => h) (Below.refl _ _) ?_
        try simp only [Act.put, l0, l1, l2]
        refine sk 6 ⟨some 129, .move (.tmp 9), _, _, _, some (2, true)⟩ rfl (by kernel_rfl) (fun _ _ _ h => h) (Below.refl _ _) ?_
        try simp only [Act.put, l0, l1, l2]
        refine sk 7 ⟨some 130, .convert 38 9 (.tmp 129), _, _, _, some (2, true)⟩ rfl (by kernel_rfl) (fun _ _ _ h => h) (Below.refl _ _) ?_
        try simp only [Act.put, l0, l1, l2]
        refine sk 8 ⟨some 131, .binOp .eql 9 (.tmp 128) (.tmp 130) 9, _, _, _, some (2, true)⟩ rfl (by kernel_rfl) (fun _ _ _ h => h) (Below.refl _ _) ?_
        try simp only [Act.put, l0, l1, l2]
        refine sk 9 ⟨some 132, .load 34 (.tmp 5), _, _, _, some (2, true)⟩ rfl (by kernel_rfl) (fun _ _ _ h => h) (Below.refl _ _) ?_
        try simp only [Act.put, l0, l1, l2]
        refine sk 10 ⟨some 133, .load 34 (.tmp 4), _, _, _, some (2, true)⟩ rfl (by kernel_rfl) (fun _ _ _ h => h) (Below.refl _ _) ?_
        try simp only [Act.put, l0, l1, l2]
        refine sk 11 ⟨some 134, .call { callee := .value (.func 25), args := #[.tmp 132, .tmp 133], argTypes := #[34, 34] }, _, _, _, some (2, true)⟩ rfl (by kernel_rfl) (fun _ _ _ h => h) (Below.refl _ _) ?_
        try simp only [Act.put, l0, l1, l2]
        refine sk 12 ⟨some 135, .binOp .neq 4 (.tmp 131) (.tmp 134) 4, _, _, _, some (2, true)⟩ rfl (by kernel_rfl) (fun _ _ _ h => h) (Below.refl _ _) ?_
        try simp only [Act.put, l0, l1, l2]
        refine tk 13 ⟨some 136, .pick (.tmp 125) (.tmp 135) (.const (.bool false)), _, _, _, none⟩ (.bool false) rfl (by kernel_rfl) (fun _ _ _ h => h) (Below.refl _ _) (fun W hSW => by go_simp) ?_
        try simp only [Act.put, l0, l1, l2]
        refine wpAnyH_done (by kernel_rfl) ?_ _
        go_wp2_with (first | (go_at_call 21; (with_reducible refine (HR.out _ H19.out.bel).mono ?_); rintro E w20 ⟨rfl, b20⟩; have H20 := Lib.hid (H19.out.next b20.out)) | ((with_reducible refine wpList_store_part ?_ 34 (.tmp 19) (.tmp 140) ?_ w20.heap.size 0 (msgC zeroMsg) (msgC zeroMsg) (msgC zeroMsg) 34 ?_ ?_ ?_ ?_ ?_ ?_ ?_ ?_); (· rfl); (· rfl); (· exact heap_alloc_new w20 _); (· exact (HX.out zeroMsg zeroM_wf).1); (· exact (HX.out zeroMsg zeroM_wf).2.1); (· rfl); (· rfl); (· exact (HX.out zeroMsg zeroM_wf).2.2); (· exact one_msgC _); intro w21 G21; have b21 := Lib.hid (below_made G21.out.2); have H21 := Lib.hid (H20.out.next b21.out)) | (go_at_call 11; (with_reducible refine (HW.out _ H21.out.bel).mono ?_); rintro E w22 ⟨rfl, b22⟩; have H22 := Lib.hid (H21.out.next b22.out)))
        go_ret
        exact ⟨rfl, H22.out.bel⟩
set_option maxHeartbeats 8000000 in
theorem back_yes_good (m o : MMsg) (raw : List UInt8) (RA : Option Addr) (rl rc cu : Nat) (w : World) (hm : m.Wf) (hmo : o.Wf) (hrd : Oct.Rd w RA rl raw) (P MB : List UInt8) (n nb : Nat) (hcb : Hid (cu < 65536)) (HN : Hid (n ≤ 2000 ∧ 0 < n ∧ nb ≤ 1024))
    (HP : Hid (m.body.qs.length ≤ 40 → ∀ W, Below w.heap.size w W → Calls Tryz.prog 17 #[.agg (msgC m).toArray] W fun E w' => (∃ A c, E = .returned (.slice A n c) ∧ Hid (Ow W.heap.size w' A n c P)) ∧ Hid (Below W.heap.size W w')))
    (HMY : Hid (m.body.qs.length ≤ 40 → ∀ W, Below w.heap.size w W → Calls Tryz.prog 13 #[.agg (msgC m).toArray] W fun E w' => E = .returned (.bool true) ∧ Hid (Below W.heap.size W w')))
    (HG : Hid (∀ A c B W, Ow B W A n c P → Calls Tryz.prog 21 #[.slice A n c] W fun E w' => ∃ A7 c7, E = .returned (.tuple #[.agg (msgC (wq m A7 c7)).toArray, .int .i64 0]) ∧ Hid (QOw W.heap.size w' A7 c7 m.body.qs) ∧ Hid (Below W.heap.size W w')))
    (HS : Hid (∀ (A : Option Addr) (c B : Nat) (W : World), QOw B W A c m.body.qs → Below w.heap.size w W → Calls Tryz.prog 25 #[.agg (msgC (wq m A c)).toArray, .agg (msgC m).toArray] W fun E w' => E = .returned (.bool true) ∧ Hid (Below W.heap.size W w')))
    (HGC : Hid (∀ g r c B W, r < n → Ow B W (some ⟨g, 0, none⟩) n c P → Calls Tryz.prog 21 #[.slice (some ⟨g, 0, none⟩) r c] W fun E w' => E = .returned (.tuple #[.agg (msgC zeroMsg).toArray, .int .i64 5]) ∧ Hid (Below W.heap.size W w')))
    (HGE : Hid (∀ A c B W, Ow B W A (n + 1) c (P ++ [0]) → Calls Tryz.prog 21 #[.slice A (n + 1) c] W fun E w' => E = .returned (.tuple #[.agg (msgC zeroMsg).toArray, .int .i64 5]) ∧ Hid (Below W.heap.size W w')))
    (HBY : Hid (m.body.qs.length ≤ 40 → ∀ W, Below w.heap.size w W → Calls Tryz.prog 15 #[.agg (msgC m).toArray] W fun E w' => (∃ A c, E = .returned (.slice A nb c) ∧ Hid (Ow W.heap.size w' A nb c MB)) ∧ Hid (Below W.heap.size W w')))
    (HOF : Hid (∀ A c B W, Ow B W A nb c MB → Calls Tryz.prog 23 #[.int .i64 m.origin, .int .u64 (m.number : Int), .slice A nb c, .agg (u8s m.tag).toArray] W fun E w' => ∃ A7 c7, E = .returned (.tuple #[.agg (msgC (wq m A7 c7)).toArray, .int .i64 0]) ∧ Hid (QOw W.heap.size w' A7 c7 m.body.qs) ∧ Hid (Below W.heap.size W w')))
    (HOY : Hid (o.body.qs.length ≤ 40 → ∀ W, Below w.heap.size w W → Calls Tryz.prog 13 #[.agg (msgC o).toArray] W fun E w' => E = .returned (.bool false) ∧ Hid (Below W.heap.size W w')))
    (HF1 : Hid (∀ W, Below w.heap.size w W → Calls Tryz.prog 10 #[.agg (msgC m).toArray] W fun E w' => (∃ z, E = .returned (.bool z) ∧ (z = true → m.body.qs.length ≤ 40)) ∧ Hid (Below W.heap.size W w')))
    (HF2 : Hid (∀ W, Below w.heap.size w W → Calls Tryz.prog 10 #[.agg (msgC o).toArray] W fun E w' => (∃ z, E = .returned (.bool z) ∧ (z = true → o.body.qs.length ≤ 40)) ∧ Hid (Below W.heap.size W w')))
    (HW : Hid (∀ W, Below w.heap.size w W → Calls Tryz.prog 11 #[] W fun E w' => E = .returned (.bool true) ∧ Hid (Below W.heap.size W w')))
    (Z : MMsg) (HZW : Hid Z.Wf) (HR : Hid (∀ W, Below w.heap.size w W → Calls Tryz.prog 21 #[.slice RA rl rc] W fun E w' => ∃ A9 c9, E = .returned (.tuple #[.agg (msgC (wq Z A9 c9)).toArray, .int .i64 0]) ∧ Hid (QOw W.heap.size w' A9 c9 Z.body.qs) ∧ Hid (Below W.heap.size W w')))
    (HPZ : Hid (∀ (A9 : Option Addr) (c9 B : Nat) (W : World), QOw B W A9 c9 Z.body.qs → Below w.heap.size w W → Calls Tryz.prog 17 #[.agg (msgC (wq Z A9 c9)).toArray] W fun E w' => ∃ A n c, E = .returned (.slice A n c) ∧ Hid (Ow W.heap.size w' A n c raw) ∧ Hid (Below W.heap.size W w'))) :
    Calls Tryz.prog 6 #[.agg (msgC m).toArray, .agg (msgC o).toArray, .slice RA rl rc, .int .u16 (cu : Int)] w fun E w' => E = .returned (.bool true) ∧ Below w.heap.size w w' := by
  obtain ⟨rS, hrS⟩ : ∃ S, str raw = S := ⟨_, rfl⟩
  have HRS := Lib.hid hrS
  clear hrS
  have hn0 : (0 : Int) < (n : Int) := by have := HN.out; omega
  have hnb : (nb : Int) ≤ 1024 := by have := HN.out; omega
  have hcu : wrap64 (cu : Int) = (cu : Int) := by have := hcb.out; first | go_num | (unfold wrap64; omega) | (simp only [wrap64]; omega)
  obtain ⟨r, hr, hrn⟩ : ∃ r : Nat, ((cu : Int).tmod (n : Int)) = (r : Int) ∧ r < n := ⟨cu % n, by rw [Int.ofNat_tmod], Nat.mod_lt _ (by have := HN.out; omega)⟩
  have HRN := Lib.hid hrn
  clear hrn
  have hr0 : (0 : Int) ≤ (r : Int) := by omega
  have hne : ¬ ((n : Int) = 0) := by omega
  have HTG : Hid ((Tryz.prog.info? 27).map (·.size) = some (u8s m.tag).length) := Lib.hid (by rw [u8s_length, hm.2.2]; kernel_rfl)
  have HI : Hid ((Tryz.prog.info? 34).map (·.size) = some (msgC m).length) := Lib.hid (by rw [msgC_length hm]; exact Tryz.is34)
  have HIO : Hid ((Tryz.prog.info? 34).map (·.size) = some (msgC o).length) := Lib.hid (by rw [msgC_length hmo]; exact Tryz.is34)
  have HX : Hid (∀ x : MMsg, x.Wf → 0 + (msgC x).length ≤ (msgC zeroMsg).length ∧ setAll (msgC zeroMsg) 0 (msgC x) = msgC x ∧ (Tryz.prog.info? 34).map (·.size) = some (msgC x).length) := Lib.hid fun x hx => ⟨by rw [msgC_length zeroM_wf, msgC_length hx]; omega, setAll_all (by rw [msgC_length zeroM_wf, msgC_length hx]), by rw [msgC_length hx]; exact Tryz.is34⟩
  have hz : ∀ w, (zeroValue 34).run Tryz.prog w = .ok (.agg (msgC zeroMsg).toArray) w := zero_msg
  have H0 := Lib.hid (BxR.start w (msgC m) (msgC o) 34 34)
  have HMW := Lib.hid hm
  have HRD := Lib.hid hrd
  have hraw := hrd.1
  clear hm hmo hrd
  go_enter Tryz.func6, Tryz.ntmps6
  go_wp2_with (((with_reducible refine wpList_load_midG ?_ 34 (.tmp 4) ?_ w.heap.size 0 ?_ (msgC m) _ ?_ Tryz.underlying34 ?_ ?_ ?_); (· rfl); (· rfl); (· rfl); (· exact range_of H0.out.box); (· rfl); (· exact HI.out)))
  go_at_call 10
  with_reducible refine (HF1.out _ H0.out.bel).mono ?_
  rintro E w1 ⟨⟨z, rfl, hz1⟩, b1⟩
  have H1 := Lib.hid (H0.out.next b1.out)
  cases z
  · go_wp2_with ((go_at_call 11; (with_reducible refine (HW.out _ H1.out.bel).mono ?_); rintro E w2 ⟨rfl, b2⟩; have H2 := Lib.hid (H1.out.next b2.out)))
    go_ret
    exact ⟨rfl, H2.out.bel⟩
  · have HZ1 := Lib.hid (hz1 rfl)
    clear hz1
    go_wp2_with (((with_reducible refine wpList_load_midG ?_ 34 (.tmp 5) ?_ (w.heap.size + 1) 0 ?_ (msgC o) _ ?_ Tryz.underlying34 ?_ ?_ ?_); (· rfl); (· rfl); (· rfl); (· exact range_of H1.out.res); (· rfl); (· exact HIO.out)))
    go_at_call 10
    with_reducible refine (HF2.out _ H1.out.bel).mono ?_
    rintro E w2 ⟨⟨z, rfl, hz2⟩, b2⟩
    have H2 := Lib.hid (H1.out.next b2.out)
    cases z
    · go_wp2_with ((go_at_call 11; (with_reducible refine (HW.out _ H2.out.bel).mono ?_); rintro E w3 ⟨rfl, b3⟩; have H3 := Lib.hid (H2.out.next b3.out)))
      go_ret
      exact ⟨rfl, H3.out.bel⟩
    · have HZ2 := Lib.hid (hz2 rfl)
      clear hz2
      by_cases hrl : (rl : Int) > 4096
      · go_wp2_with ((go_at_call 11; (with_reducible refine (HW.out _ H2.out.bel).mono ?_); rintro E w3 ⟨rfl, b3⟩; have H3 := Lib.hid (H2.out.next b3.out)))
        go_ret
        exact ⟨rfl, H3.out.bel⟩
      · have hrl2 : ¬ (4096 < rl) := by omega
        go_wp2_with (first | (rw [show decide ((1024 : Int) < (nb : Int)) = false from decide_eq_false (by have := HN.out; omega)]) | ((with_reducible refine wpList_load_midG ?_ 34 (.tmp 4) ?_ w.heap.size 0 ?_ (msgC m) _ ?_ Tryz.underlying34 ?_ ?_ ?_); (· rfl); (· rfl); (· rfl); (· exact range_of H2.out.box); (· rfl); (· exact HI.out)) | (go_at_call 17; (with_reducible refine (HP.out HZ1.out _ H2.out.bel).mono ?_); rintro E w3 ⟨⟨A3, c3, rfl, O3⟩, b3⟩; have H3 := Lib.hid (H2.out.next b3.out); obtain ⟨gb, Cb, rfl, _, _, _⟩ := O3.out.row (by have := HN.out; omega); have hnc : (n : Int) ≤ (c3 : Int) := (by have := O3.out.2.2.1; omega); have hrc : (r : Int) ≤ (c3 : Int) := (by have := HRN.out; omega)) | (go_at_call 21; (with_reducible refine (HG.out _ _ _ _ O3.out).mono ?_); rintro E w4 ⟨A7, c7, rfl, Q4, b4⟩; have H4 := Lib.hid (H3.out.next b4.out); have O4 := Lib.hid (O3.out.below b4.out)) | ((with_reducible refine wpList_store_part ?_ 34 (.tmp 10) (.tmp 40) ?_ w4.heap.size 0 (msgC zeroMsg) (msgC (wq m A7 c7)) (msgC (wq m A7 c7)) 34 ?_ ?_ ?_ ?_ ?_ ?_ ?_ ?_); (· rfl); (· rfl); (· exact heap_alloc_new w4 _); (· exact (HX.out (wq m A7 c7) HMW.out).1); (· exact (HX.out (wq m A7 c7) HMW.out).2.1); (· rfl); (· rfl); (· exact (HX.out (wq m A7 c7) HMW.out).2.2); (· exact one_msgC _); intro w5 G5; have b5 := Lib.hid (below_made G5.out.2); have H5 := Lib.hid (H4.out.next b5.out); have X5 : Hid (Bk w5 w4.heap.size (msgC (wq m A7 c7)) 34) := Lib.hid G5.out.1; have O5 := Lib.hid (O4.out.below b5.out); have Q5 := Lib.hid (Q4.out.below b5.out)) | ((with_reducible refine wpList_load_midG ?_ 34 (.tmp 4) ?_ w.heap.size 0 ?_ (msgC m) _ ?_ Tryz.underlying34 ?_ ?_ ?_); (· rfl); (· rfl); (· rfl); (· exact range_of H5.out.box); (· rfl); (· exact HI.out)) | (go_at_call 13; (with_reducible refine (HMY.out HZ1.out _ H5.out.bel).mono ?_); rintro E w6 ⟨rfl, b6⟩; have H6 := Lib.hid (H5.out.next b6.out); have O6 := Lib.hid (O5.out.below b6.out); have Q6 := Lib.hid (Q5.out.below b6.out); have X6 : Hid (Bk w6 w4.heap.size (msgC (wq m A7 c7)) 34) := Lib.hid (X5.out.below b6.out X5.out.lt)) | ((with_reducible refine wpList_load_midG ?_ 34 (.tmp 10) ?_ w4.heap.size 0 ?_ (msgC (wq m A7 c7)) _ ?_ Tryz.underlying34 ?_ ?_ ?_); (· rfl); (· rfl); (· rfl); (· exact X6.out.src); (· rfl); (· exact (HX.out (wq m A7 c7) HMW.out).2.2)) | ((with_reducible refine wpList_load_midG ?_ 34 (.tmp 4) ?_ w.heap.size 0 ?_ (msgC m) _ ?_ Tryz.underlying34 ?_ ?_ ?_); (· rfl); (· rfl); (· rfl); (· exact range_of H6.out.box); (· rfl); (· exact HI.out)) | (go_at_call 25; (with_reducible refine (HS.out _ _ _ _ Q6.out H6.out.bel).mono ?_); rintro E w7 ⟨rfl, b7⟩; have H7 := Lib.hid (H6.out.next b7.out); have O7 := Lib.hid (O6.out.below b7.out)) | (go_at_call 21; (with_reducible refine (HGC.out _ _ _ _ _ HRN.out O7.out).mono ?_); rintro E w8 ⟨rfl, b8⟩; have H8 := Lib.hid (H7.out.next b8.out); have O8 := Lib.hid (O7.out.below b8.out)) | ((with_reducible refine wpList_store_part ?_ 34 (.tmp 12) (.tmp 78) ?_ w8.heap.size 0 (msgC zeroMsg) (msgC zeroMsg) (msgC zeroMsg) 34 ?_ ?_ ?_ ?_ ?_ ?_ ?_ ?_); (· rfl); (· rfl); (· exact heap_alloc_new w8 _); (· exact (HX.out zeroMsg zeroM_wf).1); (· exact (HX.out zeroMsg zeroM_wf).2.1); (· rfl); (· rfl); (· exact (HX.out zeroMsg zeroM_wf).2.2); (· exact one_msgC _); intro w9 G9; have b9 := Lib.hid (below_made G9.out.2); have H9 := Lib.hid (H8.out.next b9.out); have O9 := Lib.hid (O8.out.below b9.out)) | (at_builtin; (with_reducible refine append_fresh ?_ (.tmp 81) (.tmp 82) ?_ w2.heap.size n c3 (some ⟨gb, 0, none⟩) P ?_ ?_ O9.out (by have := HN.out; omega) ?_); (· rfl); (· rfl); (· rfl); (· rfl); intro A10 c10 w10 O10 b10; have H10 := Lib.hid (H9.out.next b10.out)) | (at_builtin; (with_reducible refine append_zero ?_ (.tmp 83) (.tmp 84) ?_ n c10 A10 P ?_ ?_ O10.out b10.out (by have := HN.out; omega) ?_); (· rfl); (· rfl); (· rfl); (· rfl); intro A11 c11 w11 O11 b11; have H11 := Lib.hid (H9.out.next b11.out)) | (go_at_call 21; (with_reducible refine (HGE.out _ _ _ _ O11.out).mono ?_); rintro E w12 ⟨rfl, b12⟩; have H12 := Lib.hid (H11.out.next b12.out)) | ((with_reducible refine wpList_store_part ?_ 34 (.tmp 14) (.tmp 87) ?_ w12.heap.size 0 (msgC zeroMsg) (msgC zeroMsg) (msgC zeroMsg) 34 ?_ ?_ ?_ ?_ ?_ ?_ ?_ ?_); (· rfl); (· rfl); (· exact heap_alloc_new w12 _); (· exact (HX.out zeroMsg zeroM_wf).1); (· exact (HX.out zeroMsg zeroM_wf).2.1); (· rfl); (· rfl); (· exact (HX.out zeroMsg zeroM_wf).2.2); (· exact one_msgC _); intro w13 G13; have b13 := Lib.hid (below_made G13.out.2); have H13 := Lib.hid (H12.out.next b13.out)) | ((with_reducible refine wpList_load_midG ?_ 34 (.tmp 4) ?_ w.heap.size 0 ?_ (msgC m) _ ?_ Tryz.underlying34 ?_ ?_ ?_); (· rfl); (· rfl); (· rfl); (· exact range_of H13.out.box); (· rfl); (· exact HI.out)) | (go_at_call 15; (with_reducible refine (HBY.out HZ1.out _ H13.out.bel).mono ?_); rintro E w14 ⟨⟨A14, c14, rfl, O14⟩, b14⟩; have H14 := Lib.hid (H13.out.next b14.out); have e14 := (msg_lies (range_of H14.out.box) HMW.out).origin; have f14 := (msg_lies (range_of H14.out.box) HMW.out).number) | ((with_reducible refine wpList_load_midG ?_ 27 (.tmp 97) ?_ w.heap.size 89 ?_ (u8s m.tag) _ ?_ Tryz.underlying27 ?_ ?_ ?_); (· rfl); (· rfl); (· rfl); (· exact (msg_lies (range_of H14.out.box) HMW.out).tag); (· rfl); (· exact HTG.out)) | (go_at_call 23; (with_reducible refine (HOF.out _ _ _ _ O14.out).mono ?_); rintro E w15 ⟨A15, c15, rfl, Q15, b15⟩; have H15 := Lib.hid (H14.out.next b15.out)) | ((with_reducible refine wpList_store_part ?_ 34 (.tmp 17) (.tmp 100) ?_ w15.heap.size 0 (msgC zeroMsg) (msgC (wq m A15 c15)) (msgC (wq m A15 c15)) 34 ?_ ?_ ?_ ?_ ?_ ?_ ?_ ?_); (· rfl); (· rfl); (· exact heap_alloc_new w15 _); (· exact (HX.out (wq m A15 c15) HMW.out).1); (· exact (HX.out (wq m A15 c15) HMW.out).2.1); (· rfl); (· rfl); (· exact (HX.out (wq m A15 c15) HMW.out).2.2); (· exact one_msgC _); intro w16 G16; have b16 := Lib.hid (below_made G16.out.2); have H16 := Lib.hid (H15.out.next b16.out); have Y16 : Hid (Bk w16 w15.heap.size (msgC (wq m A15 c15)) 34) := Lib.hid G16.out.1; have Q16 := Lib.hid (Q15.out.below b16.out)) | ((with_reducible refine wpList_load_midG ?_ 34 (.tmp 17) ?_ w15.heap.size 0 ?_ (msgC (wq m A15 c15)) _ ?_ Tryz.underlying34 ?_ ?_ ?_); (· rfl); (· rfl); (· rfl); (· exact Y16.out.src); (· rfl); (· exact (HX.out (wq m A15 c15) HMW.out).2.2)) | ((with_reducible refine wpList_load_midG ?_ 34 (.tmp 4) ?_ w.heap.size 0 ?_ (msgC m) _ ?_ Tryz.underlying34 ?_ ?_ ?_); (· rfl); (· rfl); (· rfl); (· exact range_of H16.out.box); (· rfl); (· exact HI.out)) | (go_at_call 25; (with_reducible refine (HS.out _ _ _ _ Q16.out H16.out.bel).mono ?_); rintro E w17 ⟨rfl, b17⟩; have H17 := Lib.hid (H16.out.next b17.out)))
        have O11' := Lib.hid (O9.out.below b11.out)
        have O17 := Lib.hid ((((((O11'.out.below b12.out).below b13.out).below b14.out).below b15.out).below b16.out).below b17.out)
        refine wp_region_any (by kernel_rfl) ?_
        have H18 := Lib.hid (H17.out.drewN 1)
        have O18 := Lib.hid (O17.out.below (below_drewN (Below.refl _ _) 1))
        change wpAny _ _ _ _ _ _ _ (w17.drewN 1)
        generalize w17.drewN 1 = w18 at H18 O18 ⊢
        refine wpAny_of_held (S := fun W => Below w18.heap.size w18 W) _ _ _ _ ?_
        refine tk 0 ⟨some 123, .load 34 (.tmp 5), _, _, _, none⟩ (.agg (msgC o).toArray) rfl (by kernel_rfl) (fun _ _ _ h => h) (Below.refl _ _) (fun W hSW => exec_load_mid 34 (.tmp 5) rfl (w.heap.size + 1) 0 rfl (msgC o) _ (rangeAt_below (range_of H18.out.res) hSW H18.out.lt) Tryz.underlying34 rfl (HIO.out)) ?_
        try simp only [Act.put, l0, l1, l2]
        refine rdy [1] (by kernel_rfl) ?_
        refine AllReadyH.cons (o := ⟨some 124, .call { callee := .value (.func 13), args := #[.tmp 123], argTypes := #[34] }, _, _, _, none⟩) rfl (fun K' hK' => ?_) AllReadyH.nil
        go_simp
        go_at_call 13
        refine (HOY.out HZ2.out _ H18.out.bel).mono ?_
        rintro E w19 ⟨rfl, b19⟩
        have H19 := Lib.hid (H18.out.next b19.out)
        have O19 := Lib.hid (O18.out.below b19.out)
        refine hK'.out _ _ (b19.out) (fun _ => wpAnyH_next (b19.out) ?_)
        clear hK' K'
        try simp only [Act.put, l0, l1, l2]
        refine tk 2 ⟨some 125, .move (.tmp 124), _, _, _, none⟩ (.bool false) rfl (by kernel_rfl) (fun _ _ _ h => h) (Below.refl _ _) (fun W hSW => by go_simp) ?_
        try simp only [Act.put, l0, l1, l2]
        refine sk 3 ⟨some 126, .load 34 (.tmp 5), _, _, _, some (2, true)⟩ rfl (by kernel_rfl) (fun _ _ _ h => h) (Below.refl _ _) ?_
        try simp only [Act.put, l0, l1, l2]
        refine sk 4 ⟨some 127, .call { callee := .value (.func 17), args := #[.tmp 126], argTypes := #[34] }, _, _, _, some (2, true)⟩ rfl (by kernel_rfl) (fun _ _ _ h => h) (Below.refl _ _) ?_
        try simp only [Act.put, l0, l1, l2]
        refine sk 5 ⟨some 128, .convert 38 9 (.tmp 127), _, _, _, some (2, true)⟩ rfl (by kernel_rfl) (fun _ _ _ h => h) (Below.refl _ _) ?_
        try simp only [Act.put, l0, l1, l2]
        refine sk 6 ⟨some 129, .move (.tmp 9), _, _, _, some (2, true)⟩ rfl (by kernel_rfl) (fun _ _ _ h => h) (Below.refl _ _) ?_
        try simp only [Act.put, l0, l1, l2]
        refine sk 7 ⟨some 130, .convert 38 9 (.tmp 129), _, _, _, some (2, true)⟩ rfl (by kernel_rfl) (fun _ _ _ h => h) (Below.refl _ _) ?_
        try simp only [Act.put, l0, l1, l2]
        refine sk 8 ⟨some 131, .binOp .eql 9 (.tmp 128) (.tmp 130) 9, _, _, _, some (2, true)⟩ rfl (by kernel_rfl) (fun _ _ _ h => h) (Below.refl _ _) ?_
        try simp only [Act.put, l0, l1, l2]
        refine sk 9 ⟨some 132, .load 34 (.tmp 5), _, _, _, some (2, true)⟩ rfl (by kernel_rfl) (fun _ _ _ h => h) (Below.refl _ _) ?_
        try simp only [Act.put, l0, l1, l2]
        refine sk 10 ⟨some 133, .load 34 (.tmp 4), _, _, _, some (2, true)⟩ rfl (by kernel_rfl) (fun _ _ _ h => h) (Below.refl _ _) ?_
        try simp only [Act.put, l0, l1, l2]
        refine sk 11 ⟨some 134, .call { callee := .value (.func 25), args := #[.tmp 132, .tmp 133], argTypes := #[34, 34] }, _, _, _, some (2, true)⟩ rfl (by kernel_rfl) (fun _ _ _ h => h) (Below.refl _ _) ?_
        try simp only [Act.put, l0, l1, l2]
        refine sk 12 ⟨some 135, .binOp .neq 4 (.tmp 131) (.tmp 134) 4, _, _, _, some (2, true)⟩ rfl (by kernel_rfl) (fun _ _ _ h => h) (Below.refl _ _) ?_
        try simp only [Act.put, l0, l1, l2]
        refine tk 13 ⟨some 136, .pick (.tmp 125) (.tmp 135) (.const (.bool false)), _, _, _, none⟩ (.bool false) rfl (by kernel_rfl) (fun _ _ _ h => h) (Below.refl _ _) (fun W hSW => by go_simp) ?_
        try simp only [Act.put, l0, l1, l2]
        refine wpAnyH_done (by kernel_rfl) ?_ _
        go_wp2_with (first | (go_at_call 21; (with_reducible refine (HR.out _ H19.out.bel).mono ?_); rintro E w20 ⟨A9, c9, rfl, Q20, b20⟩; have H20 := Lib.hid (H19.out.next b20.out)) | ((with_reducible refine wpList_store_part ?_ 34 (.tmp 19) (.tmp 140) ?_ w20.heap.size 0 (msgC zeroMsg) (msgC (wq Z A9 c9)) (msgC (wq Z A9 c9)) 34 ?_ ?_ ?_ ?_ ?_ ?_ ?_ ?_); (· rfl); (· rfl); (· exact heap_alloc_new w20 _); (· exact (HX.out (wq Z A9 c9) HZW.out).1); (· exact (HX.out (wq Z A9 c9) HZW.out).2.1); (· rfl); (· rfl); (· exact (HX.out (wq Z A9 c9) HZW.out).2.2); (· exact one_msgC _); intro w21 G21; have b21 := Lib.hid (below_made G21.out.2); have H21 := Lib.hid (H20.out.next b21.out); have Z21 : Hid (Bk w21 w20.heap.size (msgC (wq Z A9 c9)) 34) := Lib.hid G21.out.1; have Q21 := Lib.hid (Q20.out.below b21.out)))
        refine wp_region_any (by kernel_rfl) ?_
        have H22 := Lib.hid (H21.out.drewN 1)
        have Z22 := Lib.hid (Z21.out.drewN 1)
        have Q22 := Lib.hid (Q21.out.below (below_drewN (Below.refl _ _) 1))
        change wpAny _ _ _ _ _ _ _ (w21.drewN 1)
        generalize w21.drewN 1 = w22 at H22 Z22 Q22 ⊢
        refine wpAny_of_held (S := fun W => Below w22.heap.size w22 W) _ _ _ _ ?_
        refine tk 0 ⟨some 149, .load 34 (.tmp 19), _, _, _, none⟩ (.agg (msgC (wq Z A9 c9)).toArray) rfl (by kernel_rfl) (fun _ _ _ h => h) (Below.refl _ _) (fun W hSW => exec_load_mid 34 (.tmp 19) rfl w20.heap.size 0 rfl (msgC (wq Z A9 c9)) _ (rangeAt_below Z22.out.src hSW Z22.out.lt) Tryz.underlying34 rfl ((HX.out (wq Z A9 c9) HZW.out).2.2)) ?_
        try simp only [Act.put, l0, l1, l2]
        refine tk 3 ⟨some 152, .move (.tmp 2), _, _, _, none⟩ (.slice RA rl rc) rfl (by kernel_rfl) (fun _ _ _ h => h) (Below.refl _ _) (fun W hSW => by go_simp) ?_
        try simp only [Act.put, l0, l1, l2]
        refine tk 4 ⟨some 153, .convert 38 9 (.tmp 152), _, _, _, none⟩ (.string rS) rfl (by kernel_rfl) (fun _ _ _ h => h) (Below.refl _ _) (fun W hSW => by have hc := run_string (c := rc) ((rd_sh (HRD.out.below H22.out.bel)).below hSW (fun _ h _ => h)); rw [HRS.out] at hc; go_simp) ?_
        try simp only [Act.put, l0, l1, l2]
        refine rdy [1] (by kernel_rfl) ?_
        refine AllReadyH.cons (o := ⟨some 150, .call { callee := .value (.func 17), args := #[.tmp 149], argTypes := #[34] }, _, _, _, none⟩) rfl (fun K' hK' => ?_) AllReadyH.nil
        go_simp
        go_at_call 17
        refine (HPZ.out _ _ _ _ Q22.out H22.out.bel).mono ?_
        rintro E w23 ⟨A23, n23, c23, rfl, K23, b23⟩
        have H23 := Lib.hid (H22.out.next b23.out)
        refine hK'.out _ _ (b23.out) (fun _ => wpAnyH_next (b23.out) ?_)
        clear hK' K'
        try simp only [Act.put, l0, l1, l2]
        refine tk 2 ⟨some 151, .convert 38 9 (.tmp 150), _, _, _, none⟩ (.string rS) rfl (by kernel_rfl) (fun _ _ _ h => h) (Below.refl _ _) (fun W hSW => by have hc := run_string (c := c23) ((K23.out.rd).below hSW (fun _ h _ => h)); rw [HRS.out] at hc; go_simp) ?_
        try simp only [Act.put, l0, l1, l2]
        refine tk 5 ⟨some 154, .binOp .eql 9 (.tmp 151) (.tmp 153) 9, _, _, _, none⟩ (.bool true) rfl (by kernel_rfl) (fun _ _ _ h => h) (Below.refl _ _) (fun W hSW => by go_simp) ?_
        try simp only [Act.put, l0, l1, l2]
        refine tk 6 ⟨some 155, .move (.tmp 154), _, _, _, none⟩ (.bool true) rfl (by kernel_rfl) (fun _ _ _ h => h) (Below.refl _ _) (fun W hSW => by go_simp) ?_
        try simp only [Act.put, l0, l1, l2]
        refine rdy [7] (by kernel_rfl) ?_
        refine AllReadyH.cons (o := ⟨some 156, .call { callee := .value (.func 11), args := #[], argTypes := #[] }, _, _, _, some (6, true)⟩) rfl (fun K' hK' => ?_) AllReadyH.nil
        go_simp
        go_at_call 11
        refine (HW.out _ H23.out.bel).mono ?_
        rintro E w24 ⟨rfl, b24⟩
        have H24 := Lib.hid (H23.out.next b24.out)
        refine hK'.out _ _ (b24.out) (fun _ => wpAnyH_next (b24.out) ?_)
        clear hK' K'
        try simp only [Act.put, l0, l1, l2]
        refine tk 8 ⟨some 157, .pick (.tmp 155) (.tmp 156) (.const (.bool false)), _, _, _, none⟩ (.bool true) rfl (by kernel_rfl) (fun _ _ _ h => h) (Below.refl _ _) (fun W hSW => by go_simp) ?_
        try simp only [Act.put, l0, l1, l2]
        refine tk 9 ⟨some 8, .assign (.tmp 157), _, _, _, none⟩ (.bool true) rfl (by kernel_rfl) (fun _ _ _ h => h) (Below.refl _ _) (fun W hSW => by go_simp) ?_
        try simp only [Act.put, l0, l1, l2]
        refine wpAnyH_done (by kernel_rfl) ?_ _
        go_wp2_with fail
        go_ret
        exact ⟨rfl, H24.out.bel⟩
end Go.Proofs.YtghjogneogkpoaaGreatDoor.Sh
