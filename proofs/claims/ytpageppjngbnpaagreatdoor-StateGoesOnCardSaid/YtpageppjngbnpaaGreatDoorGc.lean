/-
  What is proved: StateGoesOn: its walk. Conditions as stated.
-/
import Derived.Test.YtpageppjngbnpaaGreatDoorGa
namespace Go.Proofs.YtpageppjngbnpaaGreatDoor
open Go.RowKit
set_option maxRecDepth 100000

set_option maxHeartbeats 16000000 in
theorem goes_walk {w : World} (hv : Vars w) (hk : Sh.KIs w) {A : Option Addr} {c0 : Nat} {qs : List MRq} (hQ : Rqs w A qs) (hn : qs.length ≤ 1099511627776) (cut : Int) (hc : 0 ≤ cut ∧ cut < 256) :
    Calls Tryz.prog 4 #[.slice A qs.length c0, .int .u8 cut] w fun E w' => E = .returned (.bool true) ∧ Below w.heap.size w w' := by
  have HW : Hid (∀ W os, Fr w W os → Calls Tryz.prog 8 #[] W fun E w' => E = .returned (.bool true) ∧ Below W.heap.size W w') := Lib.hid fun W os H => works_any H.varsW H.ksW
  have HF := Lib.hid (sfew_any A c0 qs w hQ hn)
  have HS0 := Lib.hid (Fr.start hv hk)
  have HReq := Lib.hid (rqs_at hQ)
  have HInfo : Hid (∀ q ∈ qs, (Tryz.prog.info? 41).map (·.size) = some (rqC q).length) := Lib.hid fun q hq => rq_info hQ hq
  have HTag := Lib.hid hQ.tag
  have HRch : Hid (∀ j, Rch (runQ (qs.take j))) := Lib.hid fun j => take_time (rqs_time hQ) j
  obtain ⟨n, hnn⟩ : ∃ n, n = qs.length := ⟨_, rfl⟩
  have HL := Lib.hid hnn
  rw [← hnn] at HF hn ⊢
  clear hv hk hQ hnn
  go_enter Tryz.func4, Tryz.ntmps4
  go_wp2_with (go_at_call 7; refine HF.out.mono ?_)
  rintro E w1 ⟨⟨z, rfl, hz150⟩, b1⟩
  have H1 := Lib.hid (HS0.out.below b1)
  clear HS0 b1 HF
  cases z with
  | false =>
    go_wp2_with (go_at_call 8; refine (HW.out _ _ H1.out).mono ?_; rintro E w2 ⟨rfl, b2⟩)
    go_ret
    exact ⟨rfl, (H1.out.below b2).bel⟩
  | true =>
    have h150 := hz150 rfl
    clear hz150
    by_cases hlim : n ≤ 100
    · have hl1 : ¬ ((n : Int) > 100) := by omega
      have hl2 : ¬ (100 < (n : Int)) := by omega
      have HN := Lib.hid (new_fr H1.out)
      go_wp2_with (go_at_call 9; refine HN.out.mono ?_)
      rintro E w2 ⟨s, t, g, rfl, h2⟩
      have H2 := Lib.hid h2
      clear h2 HN H1
      obtain ⟨k, hkn, hkz⟩ : ∃ k : Nat, k ≤ n ∧ (if 0 < n then cut.tmod ((n : Int) + 1) else 0) = (k : Int) := by
        by_cases h0 : 0 < n
        · rw [if_pos h0, Int.tmod_eq_emod_of_nonneg (by omega)]
          exact ⟨(cut % ((n : Int) + 1)).toNat, by have := Int.emod_lt_of_pos cut (show (0 : Int) < (n : Int) + 1 by omega); omega, by have := Int.emod_nonneg cut (show (n : Int) + 1 ≠ 0 by omega); omega⟩
        · exact ⟨0, by omega, by rw [if_neg h0]; rfl⟩
      have H3 : Hid (Fr w w2 [stT s t g none 0 (runQ (qs.take 0))]) := Lib.hid H2.out
      clear H2
      by_cases h0 : 0 < n
      · rw [if_pos h0] at hkz
        have h0' : (n : Int) > 0 := by omega
        have h0'' : (0 : Int) < (n : Int) := by omega
        have hw3 : IntKind.i64.wrap ((n : Int) + 1) = (n : Int) + 1 := by rw [IntKind.wrap_i64]; omega
        have hwc : IntKind.i64.wrap cut = cut := by rw [IntKind.wrap_i64]; omega
        have hnz : ¬ ((n : Int) + 1 = 0) := by omega
        go_wp2_with fail
        clear h0' h0'' hw3 hwc hnz h0
        go_loopw [7] (fun v7 wr => ∃ (j : Nat) (r : Option Nat) (c : Nat), j ≤ k ∧ v7 = .int .i64 (j : Int) ∧ Hid (Fr w wr [stT s t g r c (runQ (qs.take j))])) (fun v7 _ => k - (intOf v7).toNat)
        case atStart => exact ⟨0, none, 0, by omega, rfl, H3⟩
        case round =>
          clear H3 hkz
          obtain ⟨j, r, c, hj, rfl, D⟩ := hrel
          by_cases hjj : j < k
          · obtain ⟨q, hq⟩ : ∃ q, qs[j]? = some q := ⟨_, List.getElem?_eq_getElem (by rw [← HL.out]; omega)⟩
            obtain ⟨b', off, rfl, hr⟩ := HReq.out j q hq
            have HRg := Lib.hid hr
            have HI := Lib.hid (HInfo.out q (List.mem_of_getElem? hq))
            have HTg := Lib.hid (HTag.out q (List.mem_of_getElem? hq))
            have HTk := Lib.hid (runQ_take hq)
            clear hr hq
            have hdec : decide ((j : Int) < (k : Int)) = true := decide_eq_true (by omega)
            have hj0 : (0 : Int) ≤ (j : Int) := by omega
            have hjn : (j : Int) < (k : Int) := by omega
            have htn : ((j : Int)).toNat = j := by omega
            have hw1 : IntKind.i64.wrap ((j : Int) + 1) = (j : Int) + 1 := by rw [IntKind.wrap_i64]; omega
            have hdec : decide ((j : Int) < (n : Int)) = true := decide_eq_true (by omega)
            have hj0 : (0 : Int) ≤ (j : Int) := by omega
            have hjn : (j : Int) < (n : Int) := by omega
            have htn : ((j : Int)).toNat = j := by omega
            have hw1 : IntKind.i64.wrap ((j : Int) + 1) = (j : Int) + 1 := by rw [IntKind.wrap_i64]; omega
            go_wp2_with (first | ((with_reducible refine wpList_load_midG ?_ 41 (.tmp 42) ?_ b' (off + j * 40) ?_ (rqC q) _ ?_ Tryz.underlying41 ?_ ?_ ?_); rotate_left; (· rfl); (· rfl); (· exact HRg.out _ D.out.bel); (· rfl); (· exact HI.out); rotate_left; (· rfl)) | (go_at_call 11; refine (do_one HTg.out D.out).mono ?_))
            rintro E w4 ⟨r4, c4, rfl, h4⟩
            have D4 : Hid (Fr w w4 [stT s t g r4 c4 (runQ (qs.take (j + 1)))]) := Lib.hid (by rw [HTk.out]; exact h4)
            clear h4 D
            go_wp2_with fail
            go_roundw
            case measure => simp [intOf] <;> omega
            case rel => exact ⟨j + 1, r4, c4, by omega, by go_num, D4⟩
          · obtain rfl : j = k := by omega
            have HOf : Hid (∀ W A' c', Fr w W [stT s t g r c (runQ (qs.take j))] → Bs W A' (stB (runQ (qs.take j))) c' → Calls Tryz.prog 20 #[.slice A' (stB (runQ (qs.take j))).length c'] W fun E W' => ∃ s' t' g' rb cb, E = .returned (.tuple #[.pointer (some ⟨s', 0, none⟩), .int .i64 0]) ∧ Fr w W' [stT s' t' g' rb cb (runQ (qs.take j)), stT s t g r c (runQ (qs.take j))]) := Lib.hid fun W A' c' h hB => (of_fr h hB).mono fun E W' hx => hx.2 _ (of_stB (HRch.out j).good')
            have HBy := Lib.hid (bytes_fr D.out (by have := (HRch.out j).size; omega))
            clear D
            go_wp2_with (go_at_call 13; refine HBy.out.mono ?_)
            rintro E w5 ⟨A5, c5, rfl, hB5, h5⟩
            have H5 := Lib.hid h5
            have HB5 := Lib.hid hB5
            clear h5 hB5 HBy
            go_wp2_with (go_at_call 20; refine (HOf.out _ _ _ H5.out HB5.out).mono ?_)
            rintro E w6 ⟨s', t', g', rb, cb, rfl, h6⟩
            have H6 := Lib.hid h6
            clear h6 HOf H5 HB5
            obtain ⟨l, hl⟩ : ∃ l, l = stB (runQ (qs.take j)) := ⟨_, rfl⟩
            obtain ⟨L, hLL⟩ : ∃ L, L = l.length := ⟨_, rfl⟩
            have HLL := Lib.hid hLL
            have HSz : Hid ((stB (runQ (qs.take j))).length < 60000000000000) := Lib.hid (by have := (HRch.out j).size; omega)
            have HBa : Hid (∀ W, Fr w W [stT s' t' g' rb cb (runQ (qs.take j)), stT s t g r c (runQ (qs.take j))] → Calls Tryz.prog 13 #[.pointer (some ⟨s, 0, none⟩)] W fun E W' => ∃ A' c', E = .returned (.slice A' L c') ∧ Bs W' A' l c' ∧ Below W.heap.size W W') := Lib.hid fun W h => by rw [hLL, hl]; exact (bytes_any h.hd2 h.ksW HSz.out).mono fun E W' hx => let ⟨A', c', he, ho, hb⟩ := hx; ⟨A', c', he, bs_of_own ho, hb⟩
            have HBb : Hid (∀ W, Fr w W [stT s' t' g' rb cb (runQ (qs.take j)), stT s t g r c (runQ (qs.take j))] → Calls Tryz.prog 13 #[.pointer (some ⟨s', 0, none⟩)] W fun E W' => ∃ A' c', E = .returned (.slice A' L c') ∧ Bs W' A' l c' ∧ Below W.heap.size W W') := Lib.hid fun W h => by rw [hLL, hl]; exact (bytes_any h.hd h.ksW HSz.out).mono fun E W' hx => let ⟨A', c', he, ho, hb⟩ := hx; ⟨A', c', he, bs_of_own ho, hb⟩
            obtain ⟨X, hX⟩ : ∃ X, X = Sh.str l := ⟨_, rfl⟩
            obtain ⟨D, hD⟩ : ∃ D, D = Sh.u8s (Sh.sumOf l) := ⟨_, rfl⟩
            have g39 := Sh.Tryz.guard39
            have e39 := Sh.eq_bytes (Sh.sumOf l) (Sh.sumOf_length l)
            rw [← hD] at e39
            have HDa : Hid (∀ W, Fr w W [stT s' t' g' rb cb (runQ (qs.take j)), stT s t g r c (runQ (qs.take j))] → Calls Tryz.prog 15 #[.pointer (some ⟨s, 0, none⟩)] W fun E W' => E = .returned (.agg D.toArray) ∧ Below W.heap.size W W') := Lib.hid fun W h => by rw [hD, hl]; exact digest_any h.hd2 h.ksW HSz.out
            have HDb : Hid (∀ W, Fr w W [stT s' t' g' rb cb (runQ (qs.take j)), stT s t g r c (runQ (qs.take j))] → Calls Tryz.prog 15 #[.pointer (some ⟨s', 0, none⟩)] W fun E W' => E = .returned (.agg D.toArray) ∧ Below W.heap.size W W') := Lib.hid fun W h => by rw [hD, hl]; exact digest_any h.hd h.ksW HSz.out
            have hXX := hX
            clear hD hl hLL hXX
            go_wp2_with fail
            refine wp_region_any (by kernel_rfl) ?_
            change wpAny _ _ _ _ _ _ _ (World.drewN _ 1)
            refine held_gen (G := fun W' => wpAny _ _ _ _ _ _ _ W') (fun W' => Fr w W' [stT s' t' g' rb cb (runQ (qs.take j)), stT s t g r c (runQ (qs.take j))]) (by first | exact H6.out.drewN 1 | exact (H6.out.drewN _).drewN 1) (fun x0 hw => ?_)
            have HX0 := Lib.hid hw
            clear hw H6
            refine wpAny_of_held (S := fun W => Below x0.heap.size x0 W) _ _ _ _ ?_
            refine wpAnyH_take (i := 0) (oi := { dst := some 51, op := Op.move (Operand.tmp 9), type := _, pos := _, after := _, guard := none }) (v := .int .i64 0) rfl (by kernel_rfl) (by kernel_rfl) (by kernel_rfl) (fun _ _ _ h => h) (Or.inl ⟨by kernel_rfl, fun W hSW => by go_simp⟩) (Below.refl _ _) ?_
            try simp only [Act.put, List.setIfInBounds_toArray, List.set_cons_zero, List.set_cons_succ]
            refine wpAnyH_take (i := 1) (oi := { dst := some 52, op := Op.binOp BinOp.neq 31 (Operand.tmp 51) (Operand.const (Value.int IntKind.i64 0)) 31, type := _, pos := _, after := _, guard := none }) (v := .bool false) rfl (by kernel_rfl) (by kernel_rfl) (by kernel_rfl) (fun _ _ _ h => h) (Or.inl ⟨by kernel_rfl, fun W hSW => by go_simp⟩) (Below.refl _ _) ?_
            try simp only [Act.put, List.setIfInBounds_toArray, List.set_cons_zero, List.set_cons_succ]
            refine wpAnyH_take (i := 2) (oi := { dst := some 53, op := Op.move (Operand.tmp 52), type := _, pos := _, after := _, guard := none }) (v := .bool false) rfl (by kernel_rfl) (by kernel_rfl) (by kernel_rfl) (fun _ _ _ h => h) (Or.inl ⟨by kernel_rfl, fun W hSW => by go_simp⟩) (Below.refl _ _) ?_
            try simp only [Act.put, List.setIfInBounds_toArray, List.set_cons_zero, List.set_cons_succ]
            refine wpAnyH_take (i := 3) (oi := { dst := some 54, op := Op.move (Operand.tmp 5), type := _, pos := _, after := _, guard := some (2, false) }) (v := .pointer (some ⟨s, 0, none⟩)) rfl (by kernel_rfl) (by kernel_rfl) (by kernel_rfl) (fun _ _ _ h => h) (Or.inl ⟨by kernel_rfl, fun W hSW => by go_simp⟩) (Below.refl _ _) ?_
            try simp only [Act.put, List.setIfInBounds_toArray, List.set_cons_zero, List.set_cons_succ]
            refine wpAnyH_take (i := 6) (oi := { dst := some 57, op := Op.move (Operand.tmp 8), type := _, pos := _, after := _, guard := some (2, false) }) (v := .pointer (some ⟨s', 0, none⟩)) rfl (by kernel_rfl) (by kernel_rfl) (by kernel_rfl) (fun _ _ _ h => h) (Or.inl ⟨by kernel_rfl, fun W hSW => by go_simp⟩) (Below.refl _ _) ?_
            try simp only [Act.put, List.setIfInBounds_toArray, List.set_cons_zero, List.set_cons_succ]
            refine wpAnyH_ready (rs := [4]) (by kernel_rfl) (by simp) ?_
            refine AllReadyH.cons (o := { dst := some 55, op := Op.call { callee := Callee.value (Operand.func 13), args := #[Operand.tmp 54], argTypes := #[27] }, type := _, pos := _, after := _, guard := some (2, false) }) rfl (fun K' hK' => ?_) AllReadyH.nil
            go_simp
            go_at_call 13
            refine (HBa.out _ HX0.out).mono ?_
            rintro E x71 ⟨A71, c71, rfl, hB71, b71⟩
            have HB71 := Lib.hid hB71
            have H71 := Lib.hid (HX0.out.below b71)
            have NB := Lib.hid b71
            clear hB71 b71 HX0
            refine hK'.out _ _ (NB.out) (fun _ => Sh.wpAnyH_next NB.out ?_)
            clear hK' K' NB
            try simp only [Act.put, List.setIfInBounds_toArray, List.set_cons_zero, List.set_cons_succ]
            refine wpAnyH_take (i := 5) (oi := { dst := some 56, op := Op.convert 23 9 (Operand.tmp 55), type := _, pos := _, after := _, guard := some (2, false) }) (v := .string X) rfl (by kernel_rfl) (by kernel_rfl) (by kernel_rfl) (fun _ _ _ h => h) (Or.inl ⟨by kernel_rfl, fun W hSW => by have hcv := run_bs HB71.out hSW HLL.out; rw [← hX] at hcv; go_simp⟩) (Below.refl _ _) ?_
            try simp only [Act.put, List.setIfInBounds_toArray, List.set_cons_zero, List.set_cons_succ]
            refine wpAnyH_ready (rs := [7]) (by kernel_rfl) (by simp) ?_
            refine AllReadyH.cons (o := { dst := some 58, op := Op.call { callee := Callee.value (Operand.func 13), args := #[Operand.tmp 57], argTypes := #[27] }, type := _, pos := _, after := _, guard := some (2, false) }) rfl (fun K' hK' => ?_) AllReadyH.nil
            go_simp
            go_at_call 13
            refine (HBb.out _ H71.out).mono ?_
            rintro E x72 ⟨A72, c72, rfl, hB72, b72⟩
            have HB72 := Lib.hid hB72
            have H72 := Lib.hid (H71.out.below b72)
            have NB := Lib.hid b72
            clear hB72 b72 H71
            refine hK'.out _ _ (NB.out) (fun _ => Sh.wpAnyH_next NB.out ?_)
            clear hK' K' NB
            try simp only [Act.put, List.setIfInBounds_toArray, List.set_cons_zero, List.set_cons_succ]
            refine wpAnyH_take (i := 8) (oi := { dst := some 59, op := Op.convert 23 9 (Operand.tmp 58), type := _, pos := _, after := _, guard := some (2, false) }) (v := .string X) rfl (by kernel_rfl) (by kernel_rfl) (by kernel_rfl) (fun _ _ _ h => h) (Or.inl ⟨by kernel_rfl, fun W hSW => by have hcv := run_bs HB72.out hSW HLL.out; rw [← hX] at hcv; go_simp⟩) (Below.refl _ _) ?_
            try simp only [Act.put, List.setIfInBounds_toArray, List.set_cons_zero, List.set_cons_succ]
            refine wpAnyH_take (i := 9) (oi := { dst := some 60, op := Op.binOp BinOp.neq 9 (Operand.tmp 56) (Operand.tmp 59) 9, type := _, pos := _, after := _, guard := some (2, false) }) (v := .bool false) rfl (by kernel_rfl) (by kernel_rfl) (by kernel_rfl) (fun _ _ _ h => h) (Or.inl ⟨by kernel_rfl, fun W hSW => by go_simp⟩) (Below.refl _ _) ?_
            try simp only [Act.put, List.setIfInBounds_toArray, List.set_cons_zero, List.set_cons_succ]
            refine wpAnyH_take (i := 10) (oi := { dst := some 61, op := Op.pick (Operand.tmp 53) (Operand.const (Value.bool true)) (Operand.tmp 60), type := _, pos := _, after := _, guard := none }) (v := .bool false) rfl (by kernel_rfl) (by kernel_rfl) (by kernel_rfl) (fun _ _ _ h => h) (Or.inl ⟨by kernel_rfl, fun W hSW => by go_simp⟩) (Below.refl _ _) ?_
            try simp only [Act.put, List.setIfInBounds_toArray, List.set_cons_zero, List.set_cons_succ]
            refine wpAnyH_take (i := 11) (oi := { dst := some 62, op := Op.move (Operand.tmp 61), type := _, pos := _, after := _, guard := none }) (v := .bool false) rfl (by kernel_rfl) (by kernel_rfl) (by kernel_rfl) (fun _ _ _ h => h) (Or.inl ⟨by kernel_rfl, fun W hSW => by go_simp⟩) (Below.refl _ _) ?_
            try simp only [Act.put, List.setIfInBounds_toArray, List.set_cons_zero, List.set_cons_succ]
            refine wpAnyH_take (i := 12) (oi := { dst := some 63, op := Op.move (Operand.tmp 5), type := _, pos := _, after := _, guard := some (11, false) }) (v := .pointer (some ⟨s, 0, none⟩)) rfl (by kernel_rfl) (by kernel_rfl) (by kernel_rfl) (fun _ _ _ h => h) (Or.inl ⟨by kernel_rfl, fun W hSW => by go_simp⟩) (Below.refl _ _) ?_
            try simp only [Act.put, List.setIfInBounds_toArray, List.set_cons_zero, List.set_cons_succ]
            refine wpAnyH_take (i := 14) (oi := { dst := some 65, op := Op.move (Operand.tmp 8), type := _, pos := _, after := _, guard := some (11, false) }) (v := .pointer (some ⟨s', 0, none⟩)) rfl (by kernel_rfl) (by kernel_rfl) (by kernel_rfl) (fun _ _ _ h => h) (Or.inl ⟨by kernel_rfl, fun W hSW => by go_simp⟩) (Below.refl _ _) ?_
            try simp only [Act.put, List.setIfInBounds_toArray, List.set_cons_zero, List.set_cons_succ]
            refine wpAnyH_ready (rs := [13]) (by kernel_rfl) (by simp) ?_
            refine AllReadyH.cons (o := { dst := some 64, op := Op.call { callee := Callee.value (Operand.func 15), args := #[Operand.tmp 63], argTypes := #[27] }, type := _, pos := _, after := _, guard := some (11, false) }) rfl (fun K' hK' => ?_) AllReadyH.nil
            go_simp
            go_at_call 15
            refine (HDa.out _ H72.out).mono ?_
            rintro E x73 ⟨rfl, b73⟩
            have H73 := Lib.hid (H72.out.below b73)
            have NB := Lib.hid b73
            clear b73 H72
            refine hK'.out _ _ (NB.out) (fun _ => Sh.wpAnyH_next NB.out ?_)
            clear hK' K' NB
            try simp only [Act.put, List.setIfInBounds_toArray, List.set_cons_zero, List.set_cons_succ]
            refine wpAnyH_ready (rs := [15]) (by kernel_rfl) (by simp) ?_
            refine AllReadyH.cons (o := { dst := some 66, op := Op.call { callee := Callee.value (Operand.func 15), args := #[Operand.tmp 65], argTypes := #[27] }, type := _, pos := _, after := _, guard := some (11, false) }) rfl (fun K' hK' => ?_) AllReadyH.nil
            go_simp
            go_at_call 15
            refine (HDb.out _ H73.out).mono ?_
            rintro E x74 ⟨rfl, b74⟩
            have H74 := Lib.hid (H73.out.below b74)
            have NB := Lib.hid b74
            clear b74 H73
            refine hK'.out _ _ (NB.out) (fun _ => Sh.wpAnyH_next NB.out ?_)
            clear hK' K' NB
            try simp only [Act.put, List.setIfInBounds_toArray, List.set_cons_zero, List.set_cons_succ]
            refine wpAnyH_take (i := 16) (oi := { dst := some 67, op := Op.binOp BinOp.neq 39 (Operand.tmp 64) (Operand.tmp 66) 39, type := _, pos := _, after := _, guard := some (11, false) }) (v := .bool false) rfl (by kernel_rfl) (by kernel_rfl) (by kernel_rfl) (fun _ _ _ h => h) (Or.inl ⟨by kernel_rfl, fun W hSW => by go_simp⟩) (Below.refl _ _) ?_
            try simp only [Act.put, List.setIfInBounds_toArray, List.set_cons_zero, List.set_cons_succ]
            refine wpAnyH_take (i := 17) (oi := { dst := some 68, op := Op.pick (Operand.tmp 62) (Operand.const (Value.bool true)) (Operand.tmp 67), type := _, pos := _, after := _, guard := none }) (v := .bool false) rfl (by kernel_rfl) (by kernel_rfl) (by kernel_rfl) (fun _ _ _ h => h) (Or.inl ⟨by kernel_rfl, fun W hSW => by go_simp⟩) (Below.refl _ _) ?_
            try simp only [Act.put, List.setIfInBounds_toArray, List.set_cons_zero, List.set_cons_succ]
            refine wpAnyH_done (by kernel_rfl) ?_ _
            clear HB71 HB72 HBa HBb HDa HDb HLL HSz e39 g39 hX
            go_wp2_with fail
            have HP0 : Hid (∃ (i : Nat) (ra : Option Nat) (ca : Nat) (rb' : Option Nat) (cb' : Nat), i ≤ n ∧ j = i ∧ Fr w x74 [stT s' t' g' rb' cb' (runQ (qs.take i)), stT s t g ra ca (runQ (qs.take i))]) := Lib.hid ⟨j, r, c, rb, cb, hkn, rfl, H74.out⟩
            clear H74
            go_loopw [10] (fun v10 wr => ∃ (i : Nat) (ra : Option Nat) (ca : Nat) (rb : Option Nat) (cb : Nat), i ≤ n ∧ v10 = .int .i64 (i : Int) ∧ Hid (Fr w wr [stT s' t' g' rb cb (runQ (qs.take i)), stT s t g ra ca (runQ (qs.take i))])) (fun v10 _ => n - (intOf v10).toNat)
            case atStart =>
              obtain ⟨i, ra, ca, rb', cb', hi, rfl, h⟩ := HP0.out
              exact ⟨j, ra, ca, rb', cb', hi, rfl, Lib.hid h⟩
            case round =>
              clear HP0
              obtain ⟨i, ra, ca, rb, cb, hi, rfl, D⟩ := hrel
              by_cases hii : i < n
              · obtain ⟨q, hq⟩ : ∃ q, qs[i]? = some q := ⟨_, List.getElem?_eq_getElem (by rw [← HL.out]; omega)⟩
                obtain ⟨b', off, rfl, hr⟩ := HReq.out i q hq
                have HRg := Lib.hid hr
                have HI := Lib.hid (HInfo.out q (List.mem_of_getElem? hq))
                have HTg := Lib.hid (HTag.out q (List.mem_of_getElem? hq))
                have HTk := Lib.hid (runQ_take hq)
                clear hr hq
                have hdec : decide ((i : Int) < (n : Int)) = true := decide_eq_true (by omega)
                have hj0 : (0 : Int) ≤ (i : Int) := by omega
                have hjn : (i : Int) < (n : Int) := by omega
                have htn : ((i : Int)).toNat = i := by omega
                have hw1 : IntKind.i64.wrap ((i : Int) + 1) = (i : Int) + 1 := by rw [IntKind.wrap_i64]; omega
                obtain ⟨S, hS⟩ : ∃ S, S = runQ (qs.take i) := ⟨_, rfl⟩
                rw [← hS] at D HTk
                clear hS
                obtain ⟨er, vl, z, hres⟩ := tR_rep S.T S.xs q
                have HD1 : Hid (∀ W os s t g r c, Fr w W (stT s t g r c S :: os) → Calls Tryz.prog 11 #[.pointer (some ⟨s, 0, none⟩), .agg (rqC q).toArray] W fun E W' => ∃ r' c', E = .returned (.tuple #[.agg #[.int .i64 er, .string vl], .bool z]) ∧ Fr w W' (stT s t g r' c' (S.next q) :: os)) := Lib.hid fun W os s t g r c h => by have := do_one HTg.out h; rw [hres] at this; exact this
                clear hres
                have g33 := Tryz.guard33
                have e33 : ∀ w, (Op.equalIn 10000 33 (.agg #[.int .i64 er, .string vl]) (.agg #[.int .i64 er, .string vl])).run Tryz.prog w = .ok true w := fun w => eq_lrp_of (d := 9998) (er, vl) (er, vl) (by simp) w
                go_wp2_with (first | ((with_reducible refine wpList_load_midG ?_ 41 (.tmp 80) ?_ b' (off + i * 40) ?_ (rqC q) _ ?_ Tryz.underlying41 ?_ ?_ ?_); rotate_left; (· rfl); (· rfl); (· exact HRg.out _ D.out.bel); (· rfl); (· exact HI.out); rotate_left; (· rfl)) | (go_at_call 11; refine (HD1.out _ _ _ _ _ _ _ D.out.swap).mono ?_))
                rintro E w8 ⟨r8, c8, rfl, h8⟩
                have D8 := Lib.hid (h8.swap.box #[.int .i64 er, .string vl] 33)
                clear h8 D
                go_wp2_with (first | ((with_reducible refine wpList_load_midG ?_ 41 (.tmp 89) ?_ b' (off + i * 40) ?_ (rqC q) _ ?_ Tryz.underlying41 ?_ ?_ ?_); rotate_left; (· rfl); (· rfl); (· exact HRg.out _ D8.out.bel); (· rfl); (· exact HI.out); rotate_left; (· rfl)) | (go_at_call 11; refine (HD1.out _ _ _ _ _ _ _ D8.out.swap).mono ?_))
                rintro E w9 ⟨r9, c9, rfl, h9⟩
                have D9 := Lib.hid (h9.box #[.int .i64 er, .string vl] 33)
                clear h9 D8 HD1
                go_wp2_with (first | ((with_reducible refine wpList_load_midG ?_ 33 (.tmp 11) ?_ w8.heap.size 0 ?_ [.int .i64 er, .string vl] _ ?_ Tryz.underlying33 ?_ ?_ ?_); rotate_left; (· rfl); (· rfl); (· exact range_all (C := [.int .i64 er, .string vl]) D9.out.hd3); (· rfl); (· exact Tryz.is33); rotate_left; (· rfl)) | ((with_reducible refine wpList_load_midG ?_ 33 (.tmp 13) ?_ w9.heap.size 0 ?_ [.int .i64 er, .string vl] _ ?_ Tryz.underlying33 ?_ ?_ ?_); rotate_left; (· rfl); (· rfl); (· exact range_all (C := [.int .i64 er, .string vl]) D9.out.hd); (· rfl); (· exact Tryz.is33); rotate_left; (· rfl)))
                have D' : Hid (Fr w (w9.alloc (.cells #[.int .i64 er, .string vl] 33)) [stT s' t' g' r9 c9 (runQ (qs.take (i + 1))), stT s t g r8 c8 (runQ (qs.take (i + 1)))]) := Lib.hid (by rw [HTk.out]; exact D9.out.pop.swap.pop)
                clear D9
                go_roundw
                case measure => simp [intOf] <;> omega
                case rel => exact ⟨i + 1, r8, c8, r9, c9, by omega, by go_num, D'⟩
              · obtain rfl : i = n := by omega
                obtain ⟨l, hl⟩ : ∃ l, l = stB (runQ (qs.take i)) := ⟨_, rfl⟩
                obtain ⟨L, hLL⟩ : ∃ L, L = l.length := ⟨_, rfl⟩
                have HLL := Lib.hid hLL
                have HSz : Hid ((stB (runQ (qs.take i))).length < 60000000000000) := Lib.hid (by have := (HRch.out i).size; omega)
                have HBa : Hid (∀ W, Fr w W [stT s' t' g' rb cb (runQ (qs.take i)), stT s t g ra ca (runQ (qs.take i))] → Calls Tryz.prog 13 #[.pointer (some ⟨s, 0, none⟩)] W fun E W' => ∃ A' c', E = .returned (.slice A' L c') ∧ Bs W' A' l c' ∧ Below W.heap.size W W') := Lib.hid fun W h => by rw [hLL, hl]; exact (bytes_any h.hd2 h.ksW HSz.out).mono fun E W' hx => let ⟨A', c', he, ho, hb⟩ := hx; ⟨A', c', he, bs_of_own ho, hb⟩
                have HBb : Hid (∀ W, Fr w W [stT s' t' g' rb cb (runQ (qs.take i)), stT s t g ra ca (runQ (qs.take i))] → Calls Tryz.prog 13 #[.pointer (some ⟨s', 0, none⟩)] W fun E W' => ∃ A' c', E = .returned (.slice A' L c') ∧ Bs W' A' l c' ∧ Below W.heap.size W W') := Lib.hid fun W h => by rw [hLL, hl]; exact (bytes_any h.hd h.ksW HSz.out).mono fun E W' hx => let ⟨A', c', he, ho, hb⟩ := hx; ⟨A', c', he, bs_of_own ho, hb⟩
                obtain ⟨X, hX⟩ : ∃ X, X = Sh.str l := ⟨_, rfl⟩
                have hXX := hX
                have HCn : Hid ((runQ (qs.take i)).n = i) := Lib.hid (by rw [HL.out, List.take_length]; have hq := HL.out; have := runQ_n qs (S := S0) (by show 0 + qs.length < _; omega); rw [runQ, this]; show 0 + qs.length = qs.length; omega)
                have HCo : Hid (∀ W, Fr w W [stT s' t' g' rb cb (runQ (qs.take i)), stT s t g ra ca (runQ (qs.take i))] → Calls Tryz.prog 17 #[.pointer (some ⟨s, 0, none⟩)] W fun E W' => E = .returned (.int .u64 (i : Int)) ∧ Below W.heap.size W W') := Lib.hid fun W h => (count_any h.hd2).mono fun E W' hx => ⟨by rw [hx.1, HCn.out], hx.2 ▸ Below.refl _ _⟩
                have hwn : IntKind.u64.wrap (i : Int) = (i : Int) := by rw [IntKind.wrap_u64]; omega
                clear hl hLL hXX HCn
                go_wp2_with fail
                refine wp_region_any (by kernel_rfl) ?_
                change wpAny _ _ _ _ _ _ _ (World.drewN _ 1)
                refine held_gen (G := fun W' => wpAny _ _ _ _ _ _ _ W') (fun W' => Fr w W' [stT s' t' g' rb cb (runQ (qs.take i)), stT s t g ra ca (runQ (qs.take i))]) (by first | exact D.out.drewN 1 | exact (D.out.drewN _).drewN 1) (fun x80 hw => ?_)
                have HX0 := Lib.hid hw
                clear hw D
                refine wpAny_of_held (S := fun W => Below x80.heap.size x80 W) _ _ _ _ ?_
                refine wpAnyH_take (i := 0) (oi := { dst := some 102, op := Op.move (Operand.tmp 5), type := _, pos := _, after := _, guard := none }) (v := .pointer (some ⟨s, 0, none⟩)) rfl (by kernel_rfl) (by kernel_rfl) (by kernel_rfl) (fun _ _ _ h => h) (Or.inl ⟨by kernel_rfl, fun W hSW => by go_simp⟩) (Below.refl _ _) ?_
                try simp only [Act.put, List.setIfInBounds_toArray, List.set_cons_zero, List.set_cons_succ]
                refine wpAnyH_take (i := 3) (oi := { dst := some 105, op := Op.move (Operand.tmp 8), type := _, pos := _, after := _, guard := none }) (v := .pointer (some ⟨s', 0, none⟩)) rfl (by kernel_rfl) (by kernel_rfl) (by kernel_rfl) (fun _ _ _ h => h) (Or.inl ⟨by kernel_rfl, fun W hSW => by go_simp⟩) (Below.refl _ _) ?_
                try simp only [Act.put, List.setIfInBounds_toArray, List.set_cons_zero, List.set_cons_succ]
                refine wpAnyH_ready (rs := [1]) (by kernel_rfl) (by simp) ?_
                refine AllReadyH.cons (o := { dst := some 103, op := Op.call { callee := Callee.value (Operand.func 13), args := #[Operand.tmp 102], argTypes := #[27] }, type := _, pos := _, after := _, guard := none }) rfl (fun K' hK' => ?_) AllReadyH.nil
                go_simp
                go_at_call 13
                refine (HBa.out _ HX0.out).mono ?_
                rintro E x81 ⟨A81, c81, rfl, hB81, b81⟩
                have HB81 := Lib.hid hB81
                have H81 := Lib.hid (HX0.out.below b81)
                have NB := Lib.hid b81
                clear hB81 b81 HX0
                refine hK'.out _ _ (NB.out) (fun _ => Sh.wpAnyH_next NB.out ?_)
                clear hK' K' NB
                try simp only [Act.put, List.setIfInBounds_toArray, List.set_cons_zero, List.set_cons_succ]
                refine wpAnyH_take (i := 2) (oi := { dst := some 104, op := Op.convert 23 9 (Operand.tmp 103), type := _, pos := _, after := _, guard := none }) (v := .string X) rfl (by kernel_rfl) (by kernel_rfl) (by kernel_rfl) (fun _ _ _ h => h) (Or.inl ⟨by kernel_rfl, fun W hSW => by have hcv := run_bs HB81.out hSW HLL.out; rw [← hX] at hcv; go_simp⟩) (Below.refl _ _) ?_
                try simp only [Act.put, List.setIfInBounds_toArray, List.set_cons_zero, List.set_cons_succ]
                refine wpAnyH_ready (rs := [4]) (by kernel_rfl) (by simp) ?_
                refine AllReadyH.cons (o := { dst := some 106, op := Op.call { callee := Callee.value (Operand.func 13), args := #[Operand.tmp 105], argTypes := #[27] }, type := _, pos := _, after := _, guard := none }) rfl (fun K' hK' => ?_) AllReadyH.nil
                go_simp
                go_at_call 13
                refine (HBb.out _ H81.out).mono ?_
                rintro E x82 ⟨A82, c82, rfl, hB82, b82⟩
                have HB82 := Lib.hid hB82
                have H82 := Lib.hid (H81.out.below b82)
                have NB := Lib.hid b82
                clear hB82 b82 H81
                refine hK'.out _ _ (NB.out) (fun _ => Sh.wpAnyH_next NB.out ?_)
                clear hK' K' NB
                try simp only [Act.put, List.setIfInBounds_toArray, List.set_cons_zero, List.set_cons_succ]
                refine wpAnyH_take (i := 5) (oi := { dst := some 107, op := Op.convert 23 9 (Operand.tmp 106), type := _, pos := _, after := _, guard := none }) (v := .string X) rfl (by kernel_rfl) (by kernel_rfl) (by kernel_rfl) (fun _ _ _ h => h) (Or.inl ⟨by kernel_rfl, fun W hSW => by have hcv := run_bs HB82.out hSW HLL.out; rw [← hX] at hcv; go_simp⟩) (Below.refl _ _) ?_
                try simp only [Act.put, List.setIfInBounds_toArray, List.set_cons_zero, List.set_cons_succ]
                refine wpAnyH_take (i := 6) (oi := { dst := some 108, op := Op.binOp BinOp.eql 9 (Operand.tmp 104) (Operand.tmp 107) 9, type := _, pos := _, after := _, guard := none }) (v := .bool true) rfl (by kernel_rfl) (by kernel_rfl) (by kernel_rfl) (fun _ _ _ h => h) (Or.inl ⟨by kernel_rfl, fun W hSW => by go_simp⟩) (Below.refl _ _) ?_
                try simp only [Act.put, List.setIfInBounds_toArray, List.set_cons_zero, List.set_cons_succ]
                refine wpAnyH_take (i := 7) (oi := { dst := some 109, op := Op.move (Operand.tmp 108), type := _, pos := _, after := _, guard := none }) (v := .bool true) rfl (by kernel_rfl) (by kernel_rfl) (by kernel_rfl) (fun _ _ _ h => h) (Or.inl ⟨by kernel_rfl, fun W hSW => by go_simp⟩) (Below.refl _ _) ?_
                try simp only [Act.put, List.setIfInBounds_toArray, List.set_cons_zero, List.set_cons_succ]
                refine wpAnyH_take (i := 8) (oi := { dst := some 110, op := Op.move (Operand.tmp 5), type := _, pos := _, after := _, guard := some (7, true) }) (v := .pointer (some ⟨s, 0, none⟩)) rfl (by kernel_rfl) (by kernel_rfl) (by kernel_rfl) (fun _ _ _ h => h) (Or.inl ⟨by kernel_rfl, fun W hSW => by go_simp⟩) (Below.refl _ _) ?_
                try simp only [Act.put, List.setIfInBounds_toArray, List.set_cons_zero, List.set_cons_succ]
                refine wpAnyH_take (i := 10) (oi := { dst := some 112, op := Op.move (Operand.tmp 0), type := _, pos := _, after := _, guard := some (7, true) }) (v := .slice A i c0) rfl (by kernel_rfl) (by kernel_rfl) (by kernel_rfl) (fun _ _ _ h => h) (Or.inl ⟨by kernel_rfl, fun W hSW => by go_simp⟩) (Below.refl _ _) ?_
                try simp only [Act.put, List.setIfInBounds_toArray, List.set_cons_zero, List.set_cons_succ]
                refine wpAnyH_take (i := 11) (oi := { dst := some 113, op := Op.call { callee := Callee.builtin Builtin.len, args := #[Operand.tmp 112], argTypes := #[22] }, type := _, pos := _, after := _, guard := some (7, true) }) (v := .int .i64 (i : Int)) rfl (by kernel_rfl) (by kernel_rfl) (by kernel_rfl) (fun _ _ _ h => h) (Or.inl ⟨by kernel_rfl, fun W hSW => by go_simp⟩) (Below.refl _ _) ?_
                try simp only [Act.put, List.setIfInBounds_toArray, List.set_cons_zero, List.set_cons_succ]
                refine wpAnyH_take (i := 12) (oi := { dst := some 114, op := Op.convert 3 36 (Operand.tmp 113), type := _, pos := _, after := _, guard := some (7, true) }) (v := .int .u64 (i : Int)) rfl (by kernel_rfl) (by kernel_rfl) (by kernel_rfl) (fun _ _ _ h => h) (Or.inl ⟨by kernel_rfl, fun W hSW => by have hwn2 := hwn; go_simp⟩) (Below.refl _ _) ?_
                try simp only [Act.put, List.setIfInBounds_toArray, List.set_cons_zero, List.set_cons_succ]
                refine wpAnyH_ready (rs := [9]) (by kernel_rfl) (by simp) ?_
                refine AllReadyH.cons (o := { dst := some 111, op := Op.call { callee := Callee.value (Operand.func 17), args := #[Operand.tmp 110], argTypes := #[27] }, type := _, pos := _, after := _, guard := some (7, true) }) rfl (fun K' hK' => ?_) AllReadyH.nil
                go_simp
                go_at_call 17
                refine (HCo.out _ H82.out).mono ?_
                rintro E x83 ⟨rfl, b83⟩
                have H83 := Lib.hid (H82.out.below b83)
                have NB := Lib.hid b83
                clear b83 H82
                refine hK'.out _ _ (NB.out) (fun _ => Sh.wpAnyH_next NB.out ?_)
                clear hK' K' NB
                try simp only [Act.put, List.setIfInBounds_toArray, List.set_cons_zero, List.set_cons_succ]
                refine wpAnyH_take (i := 13) (oi := { dst := some 115, op := Op.binOp BinOp.eql 36 (Operand.tmp 111) (Operand.tmp 114) 36, type := _, pos := _, after := _, guard := some (7, true) }) (v := .bool true) rfl (by kernel_rfl) (by kernel_rfl) (by kernel_rfl) (fun _ _ _ h => h) (Or.inl ⟨by kernel_rfl, fun W hSW => by go_simp⟩) (Below.refl _ _) ?_
                try simp only [Act.put, List.setIfInBounds_toArray, List.set_cons_zero, List.set_cons_succ]
                refine wpAnyH_take (i := 14) (oi := { dst := some 116, op := Op.pick (Operand.tmp 109) (Operand.tmp 115) (Operand.const (Value.bool false)), type := _, pos := _, after := _, guard := none }) (v := .bool true) rfl (by kernel_rfl) (by kernel_rfl) (by kernel_rfl) (fun _ _ _ h => h) (Or.inl ⟨by kernel_rfl, fun W hSW => by go_simp⟩) (Below.refl _ _) ?_
                try simp only [Act.put, List.setIfInBounds_toArray, List.set_cons_zero, List.set_cons_succ]
                refine wpAnyH_take (i := 15) (oi := { dst := some 117, op := Op.move (Operand.tmp 116), type := _, pos := _, after := _, guard := none }) (v := .bool true) rfl (by kernel_rfl) (by kernel_rfl) (by kernel_rfl) (fun _ _ _ h => h) (Or.inl ⟨by kernel_rfl, fun W hSW => by go_simp⟩) (Below.refl _ _) ?_
                try simp only [Act.put, List.setIfInBounds_toArray, List.set_cons_zero, List.set_cons_succ]
                refine wpAnyH_ready (rs := [16]) (by kernel_rfl) (by simp) ?_
                refine AllReadyH.cons (o := { dst := some 118, op := Op.call { callee := Callee.value (Operand.func 8), args := #[], argTypes := #[] }, type := _, pos := _, after := _, guard := some (15, true) }) rfl (fun K' hK' => ?_) AllReadyH.nil
                go_simp
                go_at_call 8
                refine (HW.out _ _ H83.out).mono ?_
                rintro E x84 ⟨rfl, b84⟩
                have H84 := Lib.hid (H83.out.below b84)
                have NB := Lib.hid b84
                clear b84 H83
                refine hK'.out _ _ (NB.out) (fun _ => Sh.wpAnyH_next NB.out ?_)
                clear hK' K' NB
                try simp only [Act.put, List.setIfInBounds_toArray, List.set_cons_zero, List.set_cons_succ]
                refine wpAnyH_take (i := 17) (oi := { dst := some 119, op := Op.pick (Operand.tmp 117) (Operand.tmp 118) (Operand.const (Value.bool false)), type := _, pos := _, after := _, guard := none }) (v := .bool true) rfl (by kernel_rfl) (by kernel_rfl) (by kernel_rfl) (fun _ _ _ h => h) (Or.inl ⟨by kernel_rfl, fun W hSW => by go_simp⟩) (Below.refl _ _) ?_
                try simp only [Act.put, List.setIfInBounds_toArray, List.set_cons_zero, List.set_cons_succ]
                refine wpAnyH_take (i := 18) (oi := { dst := some 4, op := Op.assign (Operand.tmp 119), type := _, pos := _, after := _, guard := none }) (v := .bool true) rfl (by kernel_rfl) (by kernel_rfl) (by kernel_rfl) (fun _ _ _ h => h) (Or.inl ⟨by kernel_rfl, fun W hSW => by go_simp⟩) (Below.refl _ _) ?_
                try simp only [Act.put, List.setIfInBounds_toArray, List.set_cons_zero, List.set_cons_succ]
                refine wpAnyH_done (by kernel_rfl) ?_ _
                clear HB81 HB82 HBa HBb HCo HLL HSz hX
                go_wp2_with fail
                go_ret
                exact ⟨rfl, H84.out.bel⟩
      · have hn0 : ¬ ((n : Int) > 0) := by omega
        have hn1 : ¬ ((0 : Int) < (n : Int)) := by omega
        have HN0 : Hid (n = 0) := Lib.hid (by omega)
        have hqs : Hid (qs.take 0 = qs.take n) := Lib.hid (by rw [HN0.out])
        clear hkz h0
        go_wp2_with fail
        refine wp_loop_rounds 1 ?_
        rw [rounds_succ]
        obtain ⟨r, c, D⟩ : ∃ r c, Hid (Fr w w2 [stT s t g r c (runQ (qs.take 0))]) := ⟨none, 0, H3⟩
        clear H3
        have HOf : Hid (∀ W A' c', Fr w W [stT s t g r c (runQ (qs.take 0))] → Bs W A' (stB (runQ (qs.take 0))) c' → Calls Tryz.prog 20 #[.slice A' (stB (runQ (qs.take 0))).length c'] W fun E W' => ∃ s' t' g' rb cb, E = .returned (.tuple #[.pointer (some ⟨s', 0, none⟩), .int .i64 0]) ∧ Fr w W' [stT s' t' g' rb cb (runQ (qs.take 0)), stT s t g r c (runQ (qs.take 0))]) := Lib.hid fun W A' c' h hB => (of_fr h hB).mono fun E W' hx => hx.2 _ (of_stB (HRch.out 0).good')
        have HBy := Lib.hid (bytes_fr D.out (by have := (HRch.out 0).size; omega))
        clear D
        go_wp2_with (go_at_call 13; refine HBy.out.mono ?_)
        rintro E w5 ⟨A5, c5, rfl, hB5, h5⟩
        have H5 := Lib.hid h5
        have HB5 := Lib.hid hB5
        clear h5 hB5 HBy
        go_wp2_with (go_at_call 20; refine (HOf.out _ _ _ H5.out HB5.out).mono ?_)
        rintro E w6 ⟨s', t', g', rb, cb, rfl, h6⟩
        have H6 := Lib.hid h6
        clear h6 HOf H5 HB5
        obtain ⟨l, hl⟩ : ∃ l, l = stB (runQ (qs.take 0)) := ⟨_, rfl⟩
        obtain ⟨L, hLL⟩ : ∃ L, L = l.length := ⟨_, rfl⟩
        have HLL := Lib.hid hLL
        have HSz : Hid ((stB (runQ (qs.take 0))).length < 60000000000000) := Lib.hid (by have := (HRch.out 0).size; omega)
        have HBa : Hid (∀ W, Fr w W [stT s' t' g' rb cb (runQ (qs.take 0)), stT s t g r c (runQ (qs.take 0))] → Calls Tryz.prog 13 #[.pointer (some ⟨s, 0, none⟩)] W fun E W' => ∃ A' c', E = .returned (.slice A' L c') ∧ Bs W' A' l c' ∧ Below W.heap.size W W') := Lib.hid fun W h => by rw [hLL, hl]; exact (bytes_any h.hd2 h.ksW HSz.out).mono fun E W' hx => let ⟨A', c', he, ho, hb⟩ := hx; ⟨A', c', he, bs_of_own ho, hb⟩
        have HBb : Hid (∀ W, Fr w W [stT s' t' g' rb cb (runQ (qs.take 0)), stT s t g r c (runQ (qs.take 0))] → Calls Tryz.prog 13 #[.pointer (some ⟨s', 0, none⟩)] W fun E W' => ∃ A' c', E = .returned (.slice A' L c') ∧ Bs W' A' l c' ∧ Below W.heap.size W W') := Lib.hid fun W h => by rw [hLL, hl]; exact (bytes_any h.hd h.ksW HSz.out).mono fun E W' hx => let ⟨A', c', he, ho, hb⟩ := hx; ⟨A', c', he, bs_of_own ho, hb⟩
        obtain ⟨X, hX⟩ : ∃ X, X = Sh.str l := ⟨_, rfl⟩
        obtain ⟨D, hD⟩ : ∃ D, D = Sh.u8s (Sh.sumOf l) := ⟨_, rfl⟩
        have g39 := Sh.Tryz.guard39
        have e39 := Sh.eq_bytes (Sh.sumOf l) (Sh.sumOf_length l)
        rw [← hD] at e39
        have HDa : Hid (∀ W, Fr w W [stT s' t' g' rb cb (runQ (qs.take 0)), stT s t g r c (runQ (qs.take 0))] → Calls Tryz.prog 15 #[.pointer (some ⟨s, 0, none⟩)] W fun E W' => E = .returned (.agg D.toArray) ∧ Below W.heap.size W W') := Lib.hid fun W h => by rw [hD, hl]; exact digest_any h.hd2 h.ksW HSz.out
        have HDb : Hid (∀ W, Fr w W [stT s' t' g' rb cb (runQ (qs.take 0)), stT s t g r c (runQ (qs.take 0))] → Calls Tryz.prog 15 #[.pointer (some ⟨s', 0, none⟩)] W fun E W' => E = .returned (.agg D.toArray) ∧ Below W.heap.size W W') := Lib.hid fun W h => by rw [hD, hl]; exact digest_any h.hd h.ksW HSz.out
        have hXX := hX
        clear hD hl hLL hXX
        go_wp2_with fail
        refine wp_region_any (by kernel_rfl) ?_
        change wpAny _ _ _ _ _ _ _ (World.drewN _ 1)
        refine held_gen (G := fun W' => wpAny _ _ _ _ _ _ _ W') (fun W' => Fr w W' [stT s' t' g' rb cb (runQ (qs.take 0)), stT s t g r c (runQ (qs.take 0))]) (by first | exact H6.out.drewN 1 | exact (H6.out.drewN _).drewN 1) (fun x0 hw => ?_)
        have HX0 := Lib.hid hw
        clear hw H6
        refine wpAny_of_held (S := fun W => Below x0.heap.size x0 W) _ _ _ _ ?_
        refine wpAnyH_take (i := 0) (oi := { dst := some 51, op := Op.move (Operand.tmp 9), type := _, pos := _, after := _, guard := none }) (v := .int .i64 0) rfl (by kernel_rfl) (by kernel_rfl) (by kernel_rfl) (fun _ _ _ h => h) (Or.inl ⟨by kernel_rfl, fun W hSW => by go_simp⟩) (Below.refl _ _) ?_
        try simp only [Act.put, List.setIfInBounds_toArray, List.set_cons_zero, List.set_cons_succ]
        refine wpAnyH_take (i := 1) (oi := { dst := some 52, op := Op.binOp BinOp.neq 31 (Operand.tmp 51) (Operand.const (Value.int IntKind.i64 0)) 31, type := _, pos := _, after := _, guard := none }) (v := .bool false) rfl (by kernel_rfl) (by kernel_rfl) (by kernel_rfl) (fun _ _ _ h => h) (Or.inl ⟨by kernel_rfl, fun W hSW => by go_simp⟩) (Below.refl _ _) ?_
        try simp only [Act.put, List.setIfInBounds_toArray, List.set_cons_zero, List.set_cons_succ]
        refine wpAnyH_take (i := 2) (oi := { dst := some 53, op := Op.move (Operand.tmp 52), type := _, pos := _, after := _, guard := none }) (v := .bool false) rfl (by kernel_rfl) (by kernel_rfl) (by kernel_rfl) (fun _ _ _ h => h) (Or.inl ⟨by kernel_rfl, fun W hSW => by go_simp⟩) (Below.refl _ _) ?_
        try simp only [Act.put, List.setIfInBounds_toArray, List.set_cons_zero, List.set_cons_succ]
        refine wpAnyH_take (i := 3) (oi := { dst := some 54, op := Op.move (Operand.tmp 5), type := _, pos := _, after := _, guard := some (2, false) }) (v := .pointer (some ⟨s, 0, none⟩)) rfl (by kernel_rfl) (by kernel_rfl) (by kernel_rfl) (fun _ _ _ h => h) (Or.inl ⟨by kernel_rfl, fun W hSW => by go_simp⟩) (Below.refl _ _) ?_
        try simp only [Act.put, List.setIfInBounds_toArray, List.set_cons_zero, List.set_cons_succ]
        refine wpAnyH_take (i := 6) (oi := { dst := some 57, op := Op.move (Operand.tmp 8), type := _, pos := _, after := _, guard := some (2, false) }) (v := .pointer (some ⟨s', 0, none⟩)) rfl (by kernel_rfl) (by kernel_rfl) (by kernel_rfl) (fun _ _ _ h => h) (Or.inl ⟨by kernel_rfl, fun W hSW => by go_simp⟩) (Below.refl _ _) ?_
        try simp only [Act.put, List.setIfInBounds_toArray, List.set_cons_zero, List.set_cons_succ]
        refine wpAnyH_ready (rs := [4]) (by kernel_rfl) (by simp) ?_
        refine AllReadyH.cons (o := { dst := some 55, op := Op.call { callee := Callee.value (Operand.func 13), args := #[Operand.tmp 54], argTypes := #[27] }, type := _, pos := _, after := _, guard := some (2, false) }) rfl (fun K' hK' => ?_) AllReadyH.nil
        go_simp
        go_at_call 13
        refine (HBa.out _ HX0.out).mono ?_
        rintro E x71 ⟨A71, c71, rfl, hB71, b71⟩
        have HB71 := Lib.hid hB71
        have H71 := Lib.hid (HX0.out.below b71)
        have NB := Lib.hid b71
        clear hB71 b71 HX0
        refine hK'.out _ _ (NB.out) (fun _ => Sh.wpAnyH_next NB.out ?_)
        clear hK' K' NB
        try simp only [Act.put, List.setIfInBounds_toArray, List.set_cons_zero, List.set_cons_succ]
        refine wpAnyH_take (i := 5) (oi := { dst := some 56, op := Op.convert 23 9 (Operand.tmp 55), type := _, pos := _, after := _, guard := some (2, false) }) (v := .string X) rfl (by kernel_rfl) (by kernel_rfl) (by kernel_rfl) (fun _ _ _ h => h) (Or.inl ⟨by kernel_rfl, fun W hSW => by have hcv := run_bs HB71.out hSW HLL.out; rw [← hX] at hcv; go_simp⟩) (Below.refl _ _) ?_
        try simp only [Act.put, List.setIfInBounds_toArray, List.set_cons_zero, List.set_cons_succ]
        refine wpAnyH_ready (rs := [7]) (by kernel_rfl) (by simp) ?_
        refine AllReadyH.cons (o := { dst := some 58, op := Op.call { callee := Callee.value (Operand.func 13), args := #[Operand.tmp 57], argTypes := #[27] }, type := _, pos := _, after := _, guard := some (2, false) }) rfl (fun K' hK' => ?_) AllReadyH.nil
        go_simp
        go_at_call 13
        refine (HBb.out _ H71.out).mono ?_
        rintro E x72 ⟨A72, c72, rfl, hB72, b72⟩
        have HB72 := Lib.hid hB72
        have H72 := Lib.hid (H71.out.below b72)
        have NB := Lib.hid b72
        clear hB72 b72 H71
        refine hK'.out _ _ (NB.out) (fun _ => Sh.wpAnyH_next NB.out ?_)
        clear hK' K' NB
        try simp only [Act.put, List.setIfInBounds_toArray, List.set_cons_zero, List.set_cons_succ]
        refine wpAnyH_take (i := 8) (oi := { dst := some 59, op := Op.convert 23 9 (Operand.tmp 58), type := _, pos := _, after := _, guard := some (2, false) }) (v := .string X) rfl (by kernel_rfl) (by kernel_rfl) (by kernel_rfl) (fun _ _ _ h => h) (Or.inl ⟨by kernel_rfl, fun W hSW => by have hcv := run_bs HB72.out hSW HLL.out; rw [← hX] at hcv; go_simp⟩) (Below.refl _ _) ?_
        try simp only [Act.put, List.setIfInBounds_toArray, List.set_cons_zero, List.set_cons_succ]
        refine wpAnyH_take (i := 9) (oi := { dst := some 60, op := Op.binOp BinOp.neq 9 (Operand.tmp 56) (Operand.tmp 59) 9, type := _, pos := _, after := _, guard := some (2, false) }) (v := .bool false) rfl (by kernel_rfl) (by kernel_rfl) (by kernel_rfl) (fun _ _ _ h => h) (Or.inl ⟨by kernel_rfl, fun W hSW => by go_simp⟩) (Below.refl _ _) ?_
        try simp only [Act.put, List.setIfInBounds_toArray, List.set_cons_zero, List.set_cons_succ]
        refine wpAnyH_take (i := 10) (oi := { dst := some 61, op := Op.pick (Operand.tmp 53) (Operand.const (Value.bool true)) (Operand.tmp 60), type := _, pos := _, after := _, guard := none }) (v := .bool false) rfl (by kernel_rfl) (by kernel_rfl) (by kernel_rfl) (fun _ _ _ h => h) (Or.inl ⟨by kernel_rfl, fun W hSW => by go_simp⟩) (Below.refl _ _) ?_
        try simp only [Act.put, List.setIfInBounds_toArray, List.set_cons_zero, List.set_cons_succ]
        refine wpAnyH_take (i := 11) (oi := { dst := some 62, op := Op.move (Operand.tmp 61), type := _, pos := _, after := _, guard := none }) (v := .bool false) rfl (by kernel_rfl) (by kernel_rfl) (by kernel_rfl) (fun _ _ _ h => h) (Or.inl ⟨by kernel_rfl, fun W hSW => by go_simp⟩) (Below.refl _ _) ?_
        try simp only [Act.put, List.setIfInBounds_toArray, List.set_cons_zero, List.set_cons_succ]
        refine wpAnyH_take (i := 12) (oi := { dst := some 63, op := Op.move (Operand.tmp 5), type := _, pos := _, after := _, guard := some (11, false) }) (v := .pointer (some ⟨s, 0, none⟩)) rfl (by kernel_rfl) (by kernel_rfl) (by kernel_rfl) (fun _ _ _ h => h) (Or.inl ⟨by kernel_rfl, fun W hSW => by go_simp⟩) (Below.refl _ _) ?_
        try simp only [Act.put, List.setIfInBounds_toArray, List.set_cons_zero, List.set_cons_succ]
        refine wpAnyH_take (i := 14) (oi := { dst := some 65, op := Op.move (Operand.tmp 8), type := _, pos := _, after := _, guard := some (11, false) }) (v := .pointer (some ⟨s', 0, none⟩)) rfl (by kernel_rfl) (by kernel_rfl) (by kernel_rfl) (fun _ _ _ h => h) (Or.inl ⟨by kernel_rfl, fun W hSW => by go_simp⟩) (Below.refl _ _) ?_
        try simp only [Act.put, List.setIfInBounds_toArray, List.set_cons_zero, List.set_cons_succ]
        refine wpAnyH_ready (rs := [13]) (by kernel_rfl) (by simp) ?_
        refine AllReadyH.cons (o := { dst := some 64, op := Op.call { callee := Callee.value (Operand.func 15), args := #[Operand.tmp 63], argTypes := #[27] }, type := _, pos := _, after := _, guard := some (11, false) }) rfl (fun K' hK' => ?_) AllReadyH.nil
        go_simp
        go_at_call 15
        refine (HDa.out _ H72.out).mono ?_
        rintro E x73 ⟨rfl, b73⟩
        have H73 := Lib.hid (H72.out.below b73)
        have NB := Lib.hid b73
        clear b73 H72
        refine hK'.out _ _ (NB.out) (fun _ => Sh.wpAnyH_next NB.out ?_)
        clear hK' K' NB
        try simp only [Act.put, List.setIfInBounds_toArray, List.set_cons_zero, List.set_cons_succ]
        refine wpAnyH_ready (rs := [15]) (by kernel_rfl) (by simp) ?_
        refine AllReadyH.cons (o := { dst := some 66, op := Op.call { callee := Callee.value (Operand.func 15), args := #[Operand.tmp 65], argTypes := #[27] }, type := _, pos := _, after := _, guard := some (11, false) }) rfl (fun K' hK' => ?_) AllReadyH.nil
        go_simp
        go_at_call 15
        refine (HDb.out _ H73.out).mono ?_
        rintro E x74 ⟨rfl, b74⟩
        have H74 := Lib.hid (H73.out.below b74)
        have NB := Lib.hid b74
        clear b74 H73
        refine hK'.out _ _ (NB.out) (fun _ => Sh.wpAnyH_next NB.out ?_)
        clear hK' K' NB
        try simp only [Act.put, List.setIfInBounds_toArray, List.set_cons_zero, List.set_cons_succ]
        refine wpAnyH_take (i := 16) (oi := { dst := some 67, op := Op.binOp BinOp.neq 39 (Operand.tmp 64) (Operand.tmp 66) 39, type := _, pos := _, after := _, guard := some (11, false) }) (v := .bool false) rfl (by kernel_rfl) (by kernel_rfl) (by kernel_rfl) (fun _ _ _ h => h) (Or.inl ⟨by kernel_rfl, fun W hSW => by go_simp⟩) (Below.refl _ _) ?_
        try simp only [Act.put, List.setIfInBounds_toArray, List.set_cons_zero, List.set_cons_succ]
        refine wpAnyH_take (i := 17) (oi := { dst := some 68, op := Op.pick (Operand.tmp 62) (Operand.const (Value.bool true)) (Operand.tmp 67), type := _, pos := _, after := _, guard := none }) (v := .bool false) rfl (by kernel_rfl) (by kernel_rfl) (by kernel_rfl) (fun _ _ _ h => h) (Or.inl ⟨by kernel_rfl, fun W hSW => by go_simp⟩) (Below.refl _ _) ?_
        try simp only [Act.put, List.setIfInBounds_toArray, List.set_cons_zero, List.set_cons_succ]
        refine wpAnyH_done (by kernel_rfl) ?_ _
        clear HB71 HB72 HBa HBb HDa HDb HLL HSz e39 g39 hX
        go_wp2_with fail
        refine wp_loop_rounds 1 ?_
        rw [rounds_succ]
        have H75 : Hid (Fr w x74 [stT s' t' g' rb cb (runQ (qs.take n)), stT s t g r c (runQ (qs.take n))]) := Lib.hid (by rw [← hqs.out]; exact H74.out)
        clear H74
        obtain ⟨ra, hra⟩ : ∃ x, x = r := ⟨_, rfl⟩
        obtain ⟨ca, hca⟩ : ∃ x, x = c := ⟨_, rfl⟩
        rw [← hra, ← hca] at H75
        clear hra hca
        obtain ⟨l, hl⟩ : ∃ l, l = stB (runQ (qs.take n)) := ⟨_, rfl⟩
        obtain ⟨L, hLL⟩ : ∃ L, L = l.length := ⟨_, rfl⟩
        have HLL := Lib.hid hLL
        have HSz : Hid ((stB (runQ (qs.take n))).length < 60000000000000) := Lib.hid (by have := (HRch.out n).size; omega)
        have HBa : Hid (∀ W, Fr w W [stT s' t' g' rb cb (runQ (qs.take n)), stT s t g ra ca (runQ (qs.take n))] → Calls Tryz.prog 13 #[.pointer (some ⟨s, 0, none⟩)] W fun E W' => ∃ A' c', E = .returned (.slice A' L c') ∧ Bs W' A' l c' ∧ Below W.heap.size W W') := Lib.hid fun W h => by rw [hLL, hl]; exact (bytes_any h.hd2 h.ksW HSz.out).mono fun E W' hx => let ⟨A', c', he, ho, hb⟩ := hx; ⟨A', c', he, bs_of_own ho, hb⟩
        have HBb : Hid (∀ W, Fr w W [stT s' t' g' rb cb (runQ (qs.take n)), stT s t g ra ca (runQ (qs.take n))] → Calls Tryz.prog 13 #[.pointer (some ⟨s', 0, none⟩)] W fun E W' => ∃ A' c', E = .returned (.slice A' L c') ∧ Bs W' A' l c' ∧ Below W.heap.size W W') := Lib.hid fun W h => by rw [hLL, hl]; exact (bytes_any h.hd h.ksW HSz.out).mono fun E W' hx => let ⟨A', c', he, ho, hb⟩ := hx; ⟨A', c', he, bs_of_own ho, hb⟩
        obtain ⟨X, hX⟩ : ∃ X, X = Sh.str l := ⟨_, rfl⟩
        have hXX := hX
        have HCn : Hid ((runQ (qs.take n)).n = n) := Lib.hid (by rw [HL.out, List.take_length]; have hq := HL.out; have := runQ_n qs (S := S0) (by show 0 + qs.length < _; omega); rw [runQ, this]; show 0 + qs.length = qs.length; omega)
        have HCo : Hid (∀ W, Fr w W [stT s' t' g' rb cb (runQ (qs.take n)), stT s t g ra ca (runQ (qs.take n))] → Calls Tryz.prog 17 #[.pointer (some ⟨s, 0, none⟩)] W fun E W' => E = .returned (.int .u64 (n : Int)) ∧ Below W.heap.size W W') := Lib.hid fun W h => (count_any h.hd2).mono fun E W' hx => ⟨by rw [hx.1, HCn.out], hx.2 ▸ Below.refl _ _⟩
        have hwn : IntKind.u64.wrap (n : Int) = (n : Int) := by rw [IntKind.wrap_u64]; omega
        clear hl hLL hXX HCn
        go_wp2_with fail
        refine wp_region_any (by kernel_rfl) ?_
        change wpAny _ _ _ _ _ _ _ (World.drewN _ 1)
        refine held_gen (G := fun W' => wpAny _ _ _ _ _ _ _ W') (fun W' => Fr w W' [stT s' t' g' rb cb (runQ (qs.take n)), stT s t g ra ca (runQ (qs.take n))]) (by first | exact H75.out.drewN 1 | exact (H75.out.drewN _).drewN 1) (fun x80 hw => ?_)
        have HX0 := Lib.hid hw
        clear hw H75
        refine wpAny_of_held (S := fun W => Below x80.heap.size x80 W) _ _ _ _ ?_
        refine wpAnyH_take (i := 0) (oi := { dst := some 102, op := Op.move (Operand.tmp 5), type := _, pos := _, after := _, guard := none }) (v := .pointer (some ⟨s, 0, none⟩)) rfl (by kernel_rfl) (by kernel_rfl) (by kernel_rfl) (fun _ _ _ h => h) (Or.inl ⟨by kernel_rfl, fun W hSW => by go_simp⟩) (Below.refl _ _) ?_
        try simp only [Act.put, List.setIfInBounds_toArray, List.set_cons_zero, List.set_cons_succ]
        refine wpAnyH_take (i := 3) (oi := { dst := some 105, op := Op.move (Operand.tmp 8), type := _, pos := _, after := _, guard := none }) (v := .pointer (some ⟨s', 0, none⟩)) rfl (by kernel_rfl) (by kernel_rfl) (by kernel_rfl) (fun _ _ _ h => h) (Or.inl ⟨by kernel_rfl, fun W hSW => by go_simp⟩) (Below.refl _ _) ?_
        try simp only [Act.put, List.setIfInBounds_toArray, List.set_cons_zero, List.set_cons_succ]
        refine wpAnyH_ready (rs := [1]) (by kernel_rfl) (by simp) ?_
        refine AllReadyH.cons (o := { dst := some 103, op := Op.call { callee := Callee.value (Operand.func 13), args := #[Operand.tmp 102], argTypes := #[27] }, type := _, pos := _, after := _, guard := none }) rfl (fun K' hK' => ?_) AllReadyH.nil
        go_simp
        go_at_call 13
        refine (HBa.out _ HX0.out).mono ?_
        rintro E x81 ⟨A81, c81, rfl, hB81, b81⟩
        have HB81 := Lib.hid hB81
        have H81 := Lib.hid (HX0.out.below b81)
        have NB := Lib.hid b81
        clear hB81 b81 HX0
        refine hK'.out _ _ (NB.out) (fun _ => Sh.wpAnyH_next NB.out ?_)
        clear hK' K' NB
        try simp only [Act.put, List.setIfInBounds_toArray, List.set_cons_zero, List.set_cons_succ]
        refine wpAnyH_take (i := 2) (oi := { dst := some 104, op := Op.convert 23 9 (Operand.tmp 103), type := _, pos := _, after := _, guard := none }) (v := .string X) rfl (by kernel_rfl) (by kernel_rfl) (by kernel_rfl) (fun _ _ _ h => h) (Or.inl ⟨by kernel_rfl, fun W hSW => by have hcv := run_bs HB81.out hSW HLL.out; rw [← hX] at hcv; go_simp⟩) (Below.refl _ _) ?_
        try simp only [Act.put, List.setIfInBounds_toArray, List.set_cons_zero, List.set_cons_succ]
        refine wpAnyH_ready (rs := [4]) (by kernel_rfl) (by simp) ?_
        refine AllReadyH.cons (o := { dst := some 106, op := Op.call { callee := Callee.value (Operand.func 13), args := #[Operand.tmp 105], argTypes := #[27] }, type := _, pos := _, after := _, guard := none }) rfl (fun K' hK' => ?_) AllReadyH.nil
        go_simp
        go_at_call 13
        refine (HBb.out _ H81.out).mono ?_
        rintro E x82 ⟨A82, c82, rfl, hB82, b82⟩
        have HB82 := Lib.hid hB82
        have H82 := Lib.hid (H81.out.below b82)
        have NB := Lib.hid b82
        clear hB82 b82 H81
        refine hK'.out _ _ (NB.out) (fun _ => Sh.wpAnyH_next NB.out ?_)
        clear hK' K' NB
        try simp only [Act.put, List.setIfInBounds_toArray, List.set_cons_zero, List.set_cons_succ]
        refine wpAnyH_take (i := 5) (oi := { dst := some 107, op := Op.convert 23 9 (Operand.tmp 106), type := _, pos := _, after := _, guard := none }) (v := .string X) rfl (by kernel_rfl) (by kernel_rfl) (by kernel_rfl) (fun _ _ _ h => h) (Or.inl ⟨by kernel_rfl, fun W hSW => by have hcv := run_bs HB82.out hSW HLL.out; rw [← hX] at hcv; go_simp⟩) (Below.refl _ _) ?_
        try simp only [Act.put, List.setIfInBounds_toArray, List.set_cons_zero, List.set_cons_succ]
        refine wpAnyH_take (i := 6) (oi := { dst := some 108, op := Op.binOp BinOp.eql 9 (Operand.tmp 104) (Operand.tmp 107) 9, type := _, pos := _, after := _, guard := none }) (v := .bool true) rfl (by kernel_rfl) (by kernel_rfl) (by kernel_rfl) (fun _ _ _ h => h) (Or.inl ⟨by kernel_rfl, fun W hSW => by go_simp⟩) (Below.refl _ _) ?_
        try simp only [Act.put, List.setIfInBounds_toArray, List.set_cons_zero, List.set_cons_succ]
        refine wpAnyH_take (i := 7) (oi := { dst := some 109, op := Op.move (Operand.tmp 108), type := _, pos := _, after := _, guard := none }) (v := .bool true) rfl (by kernel_rfl) (by kernel_rfl) (by kernel_rfl) (fun _ _ _ h => h) (Or.inl ⟨by kernel_rfl, fun W hSW => by go_simp⟩) (Below.refl _ _) ?_
        try simp only [Act.put, List.setIfInBounds_toArray, List.set_cons_zero, List.set_cons_succ]
        refine wpAnyH_take (i := 8) (oi := { dst := some 110, op := Op.move (Operand.tmp 5), type := _, pos := _, after := _, guard := some (7, true) }) (v := .pointer (some ⟨s, 0, none⟩)) rfl (by kernel_rfl) (by kernel_rfl) (by kernel_rfl) (fun _ _ _ h => h) (Or.inl ⟨by kernel_rfl, fun W hSW => by go_simp⟩) (Below.refl _ _) ?_
        try simp only [Act.put, List.setIfInBounds_toArray, List.set_cons_zero, List.set_cons_succ]
        refine wpAnyH_take (i := 10) (oi := { dst := some 112, op := Op.move (Operand.tmp 0), type := _, pos := _, after := _, guard := some (7, true) }) (v := .slice A n c0) rfl (by kernel_rfl) (by kernel_rfl) (by kernel_rfl) (fun _ _ _ h => h) (Or.inl ⟨by kernel_rfl, fun W hSW => by go_simp⟩) (Below.refl _ _) ?_
        try simp only [Act.put, List.setIfInBounds_toArray, List.set_cons_zero, List.set_cons_succ]
        refine wpAnyH_take (i := 11) (oi := { dst := some 113, op := Op.call { callee := Callee.builtin Builtin.len, args := #[Operand.tmp 112], argTypes := #[22] }, type := _, pos := _, after := _, guard := some (7, true) }) (v := .int .i64 (n : Int)) rfl (by kernel_rfl) (by kernel_rfl) (by kernel_rfl) (fun _ _ _ h => h) (Or.inl ⟨by kernel_rfl, fun W hSW => by go_simp⟩) (Below.refl _ _) ?_
        try simp only [Act.put, List.setIfInBounds_toArray, List.set_cons_zero, List.set_cons_succ]
        refine wpAnyH_take (i := 12) (oi := { dst := some 114, op := Op.convert 3 36 (Operand.tmp 113), type := _, pos := _, after := _, guard := some (7, true) }) (v := .int .u64 (n : Int)) rfl (by kernel_rfl) (by kernel_rfl) (by kernel_rfl) (fun _ _ _ h => h) (Or.inl ⟨by kernel_rfl, fun W hSW => by have hwn2 := hwn; go_simp⟩) (Below.refl _ _) ?_
        try simp only [Act.put, List.setIfInBounds_toArray, List.set_cons_zero, List.set_cons_succ]
        refine wpAnyH_ready (rs := [9]) (by kernel_rfl) (by simp) ?_
        refine AllReadyH.cons (o := { dst := some 111, op := Op.call { callee := Callee.value (Operand.func 17), args := #[Operand.tmp 110], argTypes := #[27] }, type := _, pos := _, after := _, guard := some (7, true) }) rfl (fun K' hK' => ?_) AllReadyH.nil
        go_simp
        go_at_call 17
        refine (HCo.out _ H82.out).mono ?_
        rintro E x83 ⟨rfl, b83⟩
        have H83 := Lib.hid (H82.out.below b83)
        have NB := Lib.hid b83
        clear b83 H82
        refine hK'.out _ _ (NB.out) (fun _ => Sh.wpAnyH_next NB.out ?_)
        clear hK' K' NB
        try simp only [Act.put, List.setIfInBounds_toArray, List.set_cons_zero, List.set_cons_succ]
        refine wpAnyH_take (i := 13) (oi := { dst := some 115, op := Op.binOp BinOp.eql 36 (Operand.tmp 111) (Operand.tmp 114) 36, type := _, pos := _, after := _, guard := some (7, true) }) (v := .bool true) rfl (by kernel_rfl) (by kernel_rfl) (by kernel_rfl) (fun _ _ _ h => h) (Or.inl ⟨by kernel_rfl, fun W hSW => by go_simp⟩) (Below.refl _ _) ?_
        try simp only [Act.put, List.setIfInBounds_toArray, List.set_cons_zero, List.set_cons_succ]
        refine wpAnyH_take (i := 14) (oi := { dst := some 116, op := Op.pick (Operand.tmp 109) (Operand.tmp 115) (Operand.const (Value.bool false)), type := _, pos := _, after := _, guard := none }) (v := .bool true) rfl (by kernel_rfl) (by kernel_rfl) (by kernel_rfl) (fun _ _ _ h => h) (Or.inl ⟨by kernel_rfl, fun W hSW => by go_simp⟩) (Below.refl _ _) ?_
        try simp only [Act.put, List.setIfInBounds_toArray, List.set_cons_zero, List.set_cons_succ]
        refine wpAnyH_take (i := 15) (oi := { dst := some 117, op := Op.move (Operand.tmp 116), type := _, pos := _, after := _, guard := none }) (v := .bool true) rfl (by kernel_rfl) (by kernel_rfl) (by kernel_rfl) (fun _ _ _ h => h) (Or.inl ⟨by kernel_rfl, fun W hSW => by go_simp⟩) (Below.refl _ _) ?_
        try simp only [Act.put, List.setIfInBounds_toArray, List.set_cons_zero, List.set_cons_succ]
        refine wpAnyH_ready (rs := [16]) (by kernel_rfl) (by simp) ?_
        refine AllReadyH.cons (o := { dst := some 118, op := Op.call { callee := Callee.value (Operand.func 8), args := #[], argTypes := #[] }, type := _, pos := _, after := _, guard := some (15, true) }) rfl (fun K' hK' => ?_) AllReadyH.nil
        go_simp
        go_at_call 8
        refine (HW.out _ _ H83.out).mono ?_
        rintro E x84 ⟨rfl, b84⟩
        have H84 := Lib.hid (H83.out.below b84)
        have NB := Lib.hid b84
        clear b84 H83
        refine hK'.out _ _ (NB.out) (fun _ => Sh.wpAnyH_next NB.out ?_)
        clear hK' K' NB
        try simp only [Act.put, List.setIfInBounds_toArray, List.set_cons_zero, List.set_cons_succ]
        refine wpAnyH_take (i := 17) (oi := { dst := some 119, op := Op.pick (Operand.tmp 117) (Operand.tmp 118) (Operand.const (Value.bool false)), type := _, pos := _, after := _, guard := none }) (v := .bool true) rfl (by kernel_rfl) (by kernel_rfl) (by kernel_rfl) (fun _ _ _ h => h) (Or.inl ⟨by kernel_rfl, fun W hSW => by go_simp⟩) (Below.refl _ _) ?_
        try simp only [Act.put, List.setIfInBounds_toArray, List.set_cons_zero, List.set_cons_succ]
        refine wpAnyH_take (i := 18) (oi := { dst := some 4, op := Op.assign (Operand.tmp 119), type := _, pos := _, after := _, guard := none }) (v := .bool true) rfl (by kernel_rfl) (by kernel_rfl) (by kernel_rfl) (fun _ _ _ h => h) (Or.inl ⟨by kernel_rfl, fun W hSW => by go_simp⟩) (Below.refl _ _) ?_
        try simp only [Act.put, List.setIfInBounds_toArray, List.set_cons_zero, List.set_cons_succ]
        refine wpAnyH_done (by kernel_rfl) ?_ _
        clear HB81 HB82 HBa HBb HCo HLL HSz hX
        go_wp2_with fail
        go_ret
        exact ⟨rfl, H84.out.bel⟩
    · have hl1 : ((n : Int) > 100) := by omega
      have hl2 : (100 < (n : Int)) := by omega
      go_wp2_with (go_at_call 8; refine (HW.out _ _ H1.out).mono ?_; rintro E w2 ⟨rfl, b2⟩)
      go_ret
      exact ⟨rfl, (H1.out.below b2).bel⟩
end Go.Proofs.YtpageppjngbnpaaGreatDoor
