/-
  What is proved: StateWhole: its walk. Conditions as stated.
-/
import Derived.Test.YtpageppjngbnpaaGreatDoorGe
namespace Go.Proofs.YtpageppjngbnpaaGreatDoor
open Go.RowKit
set_option maxRecDepth 100000

set_option maxHeartbeats 16000000 in
theorem whole_walk {w : World} (hv : Vars w) (hk : Sh.KIs w) {A : Option Addr} {c0 : Nat} {qs : List MRq} (hQ : Rqs w A qs) (hn : qs.length ≤ 1099511627776) (cut : Int) (hc : 0 ≤ cut ∧ cut < 65536) :
    Calls Tryz.prog 6 #[.slice A qs.length c0, .int .u16 cut] w fun E w' => E = .returned (.bool true) ∧ Below w.heap.size w w' := by
  have HW : Hid (∀ W os, Fr w W os → Calls Tryz.prog 8 #[] W fun E w' => E = .returned (.bool true) ∧ Below W.heap.size W w') := Lib.hid fun W os H => works_any H.varsW H.ksW
  have HF := Lib.hid (sfew_any A c0 qs w hQ hn)
  have HS0 := Lib.hid (Fr.start hv hk)
  have HReq := Lib.hid (rqs_at hQ)
  have HInfo : Hid (∀ q ∈ qs, (Tryz.prog.info? 41).map (·.size) = some (rqC q).length) := Lib.hid fun q hq => rq_info hQ hq
  have HTag := Lib.hid hQ.tag
  have HRch : Hid (∀ j, Rch (runQ (qs.take j))) := Lib.hid fun j => take_time (rqs_time hQ) j
  obtain ⟨n, hnn⟩ : ∃ n, n = qs.length := ⟨_, rfl⟩
  have HL := Lib.hid hnn
  rw [← hnn] at HF hn ⊢
  clear hv hk hQ hnn
  go_enter Tryz.func6, Tryz.ntmps6
  go_wp2_with (go_at_call 7; refine HF.out.mono ?_)
  rintro E w1 ⟨⟨z, rfl, hz150⟩, b1⟩
  have H1 := Lib.hid (HS0.out.below b1)
  clear HS0 b1 HF
  cases z with
  | false =>
    go_wp2_with (go_at_call 8; refine (HW.out _ _ H1.out).mono ?_; rintro E w2 ⟨rfl, b2⟩)
    go_ret
    exact ⟨rfl, (H1.out.below b2).bel⟩
  | true =>
    have h150 := hz150 rfl
    clear hz150
    by_cases hlim : n ≤ 60
    · have hl1 : ¬ ((n : Int) > 60) := by omega
      have hl2 : ¬ (60 < (n : Int)) := by omega
      have HN := Lib.hid (new_fr H1.out)
      go_wp2_with (go_at_call 9; refine HN.out.mono ?_)
      rintro E w2 ⟨s, t, g, rfl, h2⟩
      have H3 : Hid (Fr w w2 [stT s t g none 0 (runQ (qs.take 0))]) := Lib.hid h2
      clear h2 HN H1
      go_wp2_with fail
      go_loopw [6] (fun v wr => ∃ (j : Nat) (r : Option Nat) (c : Nat), j ≤ n ∧ v = .int .i64 (j : Int) ∧ Hid (Fr w wr [stT s t g r c (runQ (qs.take j))])) (fun v _ => n - (intOf v).toNat)
      case atStart => exact ⟨0, none, 0, by omega, rfl, H3⟩
      case round =>
        clear H3
        obtain ⟨j, r, c, hj, rfl, D⟩ := hrel
        by_cases hjj : j < n
        · obtain ⟨q, hq⟩ : ∃ q, qs[j]? = some q := ⟨_, List.getElem?_eq_getElem (by rw [← HL.out]; omega)⟩
          obtain ⟨b', off, rfl, hr⟩ := HReq.out j q hq
          have HRg := Lib.hid hr
          have HI := Lib.hid (HInfo.out q (List.mem_of_getElem? hq))
          have HTg := Lib.hid (HTag.out q (List.mem_of_getElem? hq))
          have HTk := Lib.hid (runQ_take hq)
          clear hr hq
          have hdec : decide ((j : Int) < (n : Int)) = true := decide_eq_true (by omega)
          have hj0 : (0 : Int) ≤ (j : Int) := by omega
          have hjn : (j : Int) < (n : Int) := by omega
          have htn : ((j : Int)).toNat = j := by omega
          have hw1 : IntKind.i64.wrap ((j : Int) + 1) = (j : Int) + 1 := by rw [IntKind.wrap_i64]; omega
          go_wp2_with (first | ((with_reducible refine wpList_load_midG ?_ 41 (.tmp 34) ?_ b' (off + j * 40) ?_ (rqC q) _ ?_ Tryz.underlying41 ?_ ?_ ?_); rotate_left; (· rfl); (· rfl); (· exact HRg.out _ D.out.bel); (· rfl); (· exact HI.out); rotate_left; (· rfl)) | (go_at_call 11; refine (do_one HTg.out D.out).mono ?_))
          rintro E w4 ⟨r4, c4, rfl, h4⟩
          have D4 : Hid (Fr w w4 [stT s t g r4 c4 (runQ (qs.take (j + 1)))]) := Lib.hid (by rw [HTk.out]; exact h4)
          clear h4 D
          go_wp2_with fail
          go_roundw
          case measure => simp [intOf] <;> omega
          case rel => exact ⟨j + 1, r4, c4, by omega, by go_num, D4⟩
        · obtain rfl : j = n := by omega
          have hSZ := (HRch.out j).size
          have HSz : Hid ((stB (runQ (qs.take j))).length < 60000000000000) := Lib.hid (by omega)
          have HG := Lib.hid (HRch.out j).good'
          have HBy := Lib.hid (bytes_row D.out HSz.out (fun e => by rw [e] at hSZ; exact absurd hSZ.2 (by decide)))
          clear D
          obtain ⟨l, hl⟩ : ∃ l, l = stB (runQ (qs.take j)) := ⟨_, rfl⟩
          have HL' := Lib.hid hl
          rw [← hl] at HBy hSZ
          have HO1 : Hid (∀ W os A' c', Fr w W os → Bs W A' (l ++ [0]) c' → Calls Tryz.prog 20 #[.slice A' (l.length + 1) c'] W fun E W' => E = .returned (.tuple #[.pointer none, .int .i64 5]) ∧ Fr w W' os) := Lib.hid fun W os A' c' h hB => by have h1 := of_fr h hB; rw [List.length_append] at h1; exact h1.mono fun E W' hx => hx.1 (by rw [hl]; exact of_more HG.out (by simp))
          have HO2 : Hid (∀ W os A' c' k, Fr w W os → Bs W A' l c' → k < l.length → Calls Tryz.prog 20 #[.slice A' k c'] W fun E W' => E = .returned (.tuple #[.pointer none, .int .i64 5]) ∧ Fr w W' os) := Lib.hid fun W os A' c' k h hB hk => by have h1 := of_fr h (hB.take (Nat.le_of_lt hk)); rw [List.length_take, Nat.min_eq_left (Nat.le_of_lt hk)] at h1; exact h1.mono fun E W' hx => hx.1 (by rw [hl]; exact of_less HG.out (by rw [← hl]; exact hk))
          have HO3 : Hid (∀ W os A' c', Fr w W os → Bs W A' l c' → Calls Tryz.prog 20 #[.slice A' l.length c'] W fun E W' => ∃ s' t' g' rb cb, E = .returned (.tuple #[.pointer (some ⟨s', 0, none⟩), .int .i64 0]) ∧ Fr w W' (stT s' t' g' rb cb (runQ (qs.take j)) :: os)) := Lib.hid fun W os A' c' h hB => (of_fr h hB).mono fun E W' hx => hx.2 _ (by rw [hl]; exact of_stB HG.out)
          have hl0 : ¬ ((l.length : Int) = 0) := by omega
          have hl0' : ((l.length : Int) == 0) = false := beq_eq_false_iff_ne.2 hl0
          go_wp2_with (go_at_call 13; refine HBy.out.mono ?_)
          rintro E w5 ⟨g5, c5, rfl, h5⟩
          have H5 := Lib.hid h5
          have H6 := Lib.hid (row_new h5)
          have HB5 := Lib.hid (rowT_bs h5.hd)
          have HB6 : Hid (Bs (w5.alloc (.cells #[] 5)) (some ⟨g5, 0, none⟩) l c5) := Lib.hid (HB5.out.below ((Below.refl _ _).alloc (Nat.le_refl _) _))
          obtain ⟨k, hk⟩ : ∃ k : Nat, cut.tmod (l.length : Int) = (k : Int) := ⟨(cut % (l.length : Int)).toNat, by rw [Int.tmod_eq_emod_of_nonneg hc.1]; have := Int.emod_nonneg cut hl0; omega⟩
          have hkl : k < l.length := by have h2 := Int.emod_lt_of_pos cut (show (0 : Int) < (l.length : Int) by omega); rw [Int.tmod_eq_emod_of_nonneg hc.1] at hk; omega
          have hkc : k ≤ c5 := by have := HB5.out.sl.2.1; omega
          have hc63 : c5 ≤ 9223372036854775807 := HB5.out.sl.2.2
          have hwc : IntKind.i64.wrap cut = cut := by rw [IntKind.wrap_i64]; omega
          have HM : Hid (l.length ≤ 13000) := Lib.hid (by omega)
          have HKL : Hid (k < l.length) := Lib.hid hkl
          clear h5 HBy hl hSZ
          obtain ⟨m, hm⟩ : ∃ m, m = l.length := ⟨_, rfl⟩
          have HMM := Lib.hid hm
          rw [← hm] at HO1 HO3 hl0 hl0' hk hkl
          rw [← hm]
          clear hm
          have HB6r : Hid (Sh.Rd (fun _ => True) (w5.alloc (.cells #[] 5)) (some ⟨g5, 0, none⟩) m l ∧ Sh.Sl (some ⟨g5, 0, none⟩) m c5) := Lib.hid (by rw [HMM.out]; exact ⟨HB6.out.rd, HB6.out.sl⟩)
          go_wp2_with (first
            | (at_builtin
               refine wpList_app_bytes rfl (.tmp 43) (.tmp 44) rfl rfl rfl HMM.out H6.out.hd HB6r.out.1 HB6r.out.2 (by have := HM.out; simp; omega) ?_
               intro A7 c7 w7 h7
               obtain ⟨g7, rfl, hf7⟩ := row_app (l := []) H6.out h7.out.1 h7.out.2.1 h7.out.2.2 (by rw [List.nil_append]; intro e; have := HMM.out; rw [e] at this; simp at this; omega)
               rw [List.nil_append] at hf7 ⊢
               rw [← HMM.out]
               have H7 := Lib.hid (hf7.below ((Below.refl _ _).alloc (Nat.le_refl _) (.cells #[.int .u8 0] 5)))
               have HO7 : Hid ((w7.alloc (.cells #[.int .u8 0] 5)).ownsRow 0 5 1 (.slice (some ⟨g7, 0, none⟩) m c7) l.length (Sh.u8s l)) := Lib.hid (by rw [HMM.out]; exact H7.out.hd)
               have HB7 : Hid (Sh.Rd (fun _ => True) (w7.alloc (.cells #[.int .u8 0] 5)) (some ⟨w7.heap.size, 0, none⟩) 1 [0] ∧ Sh.Sl (some ⟨w7.heap.size, 0, none⟩) 1 1) := Lib.hid ⟨⟨rfl, fun _ => ⟨w7.heap.size, 0, rfl, by simp, trivial, fun i u hi => by
                 match i, hi with
                 | 0, hi => cases hi; exact block_cell (C := [.int .u8 0]) (t := 5) (heap_alloc_new w7 _) 0 _ rfl⟩⟩, by simp, Nat.le_refl _, by omega⟩
               clear h7 hf7 H6 HB6r)
            | (at_builtin
               refine wpList_app_bytes (xs := l) (bs := [0]) rfl (.tmp 45) (.tmp 46) rfl rfl rfl rfl HO7.out HB7.out.1 HB7.out.2 (by have := HM.out; simp; omega) ?_
               intro A8 c8 w8 h8
               obtain ⟨g8, rfl, hf8⟩ := row_app (l := l) (d := [0]) H7.out h8.out.1 h8.out.2.1 h8.out.2.2 (by simp)
               rw [List.length_append, ← HMM.out]
               have HB8 := Lib.hid (rowT_bs hf8.hd)
               have H8 := Lib.hid hf8.pop
               clear h8 hf8 H7 HO7 HB7)
            | (go_at_call 20
               refine (HO1.out _ _ _ _ H8.out HB8.out).mono ?_
               rintro E w9 ⟨rfl, h9⟩
               have H9 := Lib.hid h9
               clear h9 H8 HB8 HO1)
            | (go_at_call 20
               refine (HO2.out _ _ _ _ k H9.out (rowT_bs H9.out.hd) HKL.out).mono ?_
               rintro E w10 ⟨rfl, h10⟩
               have H10 := Lib.hid h10
               clear h10 H9 HO2)
            | (go_at_call 20
               refine (HO3.out _ _ _ _ H10.out (rowT_bs H10.out.hd)).mono ?_))
          rintro E w11 ⟨s', t', g', rb, cb, rfl, h11⟩
          have H11 := Lib.hid h11
          clear h11 H10 HO3 hl0 hl0' hk hkl hkc hwc
          have HBb : Hid (∀ W, Fr w W [stT s' t' g' rb cb (runQ (qs.take j)), rowT g5 c5 l, stT s t g r c (runQ (qs.take j))] → Calls Tryz.prog 13 #[.pointer (some ⟨s', 0, none⟩)] W fun E W' => ∃ A' c', E = .returned (.slice A' m c') ∧ Bs W' A' l c' ∧ Below W.heap.size W W') := Lib.hid fun W h => by rw [HMM.out, HL'.out]; exact (bytes_any h.hd h.ksW HSz.out).mono fun E W' hx => let ⟨A', c', he, ho, hb⟩ := hx; ⟨A', c', he, bs_of_own ho, hb⟩
          obtain ⟨X, hX⟩ : ∃ X, X = Sh.str l := ⟨_, rfl⟩
          obtain ⟨D, hD⟩ : ∃ D, D = Sh.u8s (Sh.sumOf l) := ⟨_, rfl⟩
          have g39 := Sh.Tryz.guard39
          have e39 := Sh.eq_bytes (Sh.sumOf l) (Sh.sumOf_length l)
          rw [← hD] at e39
          have HDa : Hid (∀ W, Fr w W [stT s' t' g' rb cb (runQ (qs.take j)), rowT g5 c5 l, stT s t g r c (runQ (qs.take j))] → Calls Tryz.prog 15 #[.pointer (some ⟨s, 0, none⟩)] W fun E W' => E = .returned (.agg D.toArray) ∧ Below W.heap.size W W') := Lib.hid fun W h => by rw [hD, HL'.out]; exact digest_any h.hd3 h.ksW HSz.out
          have HDr : Hid (∀ W, Fr w W [stT s' t' g' rb cb (runQ (qs.take j)), rowT g5 c5 l, stT s t g r c (runQ (qs.take j))] → Calls Tryz.prog 23 #[.slice (some ⟨g5, 0, none⟩) m c5] W fun E W' => E = .returned (.agg D.toArray) ∧ Below W.heap.size W W') := Lib.hid fun W h => by have hb := rowT_bs h.hd2; rw [hD, HMM.out]; exact Sh.refSum_any l _ _ W hb.rd hb.sl (by have := HM.out; omega) h.ksW h.pos
          clear hD
          go_wp2_with fail
          refine wp_region_any (by kernel_rfl) ?_
          change wpAny _ _ _ _ _ _ _ (World.drewN _ 1)
          refine held_gen (G := fun W' => wpAny _ _ _ _ _ _ _ W') (fun W' => Fr w W' [stT s' t' g' rb cb (runQ (qs.take j)), rowT g5 c5 l, stT s t g r c (runQ (qs.take j))]) (by first | exact H11.out.drewN 1 | exact (H11.out.drewN _).drewN 1) (fun x20 hw => ?_)
          have HX0 := Lib.hid hw
          clear hw H11
          have HB20 := Lib.hid (rowT_bs HX0.out.hd2)
          refine wpAny_of_held (S := fun W => Below x20.heap.size x20 W) _ _ _ _ ?_
          refine wpAnyH_take (i := 0) (oi := { dst := some 67, op := Op.move (Operand.tmp 9), type := _, pos := _, after := _, guard := none }) (v := .int .i64 5) rfl (by kernel_rfl) (by kernel_rfl) (by kernel_rfl) (fun _ _ _ h => h) (Or.inl ⟨by kernel_rfl, fun W hSW => by go_simp⟩) (Below.refl _ _) ?_
          try simp only [Act.put, List.setIfInBounds_toArray, List.set_cons_zero, List.set_cons_succ]
          refine wpAnyH_take (i := 1) (oi := { dst := some 68, op := Op.binOp BinOp.neq 31 (Operand.tmp 67) (Operand.const (Value.int IntKind.i64 5)) 31, type := _, pos := _, after := _, guard := none }) (v := .bool false) rfl (by kernel_rfl) (by kernel_rfl) (by kernel_rfl) (fun _ _ _ h => h) (Or.inl ⟨by kernel_rfl, fun W hSW => by go_simp⟩) (Below.refl _ _) ?_
          try simp only [Act.put, List.setIfInBounds_toArray, List.set_cons_zero, List.set_cons_succ]
          refine wpAnyH_take (i := 2) (oi := { dst := some 69, op := Op.move (Operand.tmp 68), type := _, pos := _, after := _, guard := none }) (v := .bool false) rfl (by kernel_rfl) (by kernel_rfl) (by kernel_rfl) (fun _ _ _ h => h) (Or.inl ⟨by kernel_rfl, fun W hSW => by go_simp⟩) (Below.refl _ _) ?_
          try simp only [Act.put, List.setIfInBounds_toArray, List.set_cons_zero, List.set_cons_succ]
          refine wpAnyH_take (i := 3) (oi := { dst := some 70, op := Op.move (Operand.tmp 11), type := _, pos := _, after := _, guard := some (2, false) }) (v := .int .i64 5) rfl (by kernel_rfl) (by kernel_rfl) (by kernel_rfl) (fun _ _ _ h => h) (Or.inl ⟨by kernel_rfl, fun W hSW => by go_simp⟩) (Below.refl _ _) ?_
          try simp only [Act.put, List.setIfInBounds_toArray, List.set_cons_zero, List.set_cons_succ]
          refine wpAnyH_take (i := 4) (oi := { dst := some 71, op := Op.binOp BinOp.neq 31 (Operand.tmp 70) (Operand.const (Value.int IntKind.i64 5)) 31, type := _, pos := _, after := _, guard := some (2, false) }) (v := .bool false) rfl (by kernel_rfl) (by kernel_rfl) (by kernel_rfl) (fun _ _ _ h => h) (Or.inl ⟨by kernel_rfl, fun W hSW => by go_simp⟩) (Below.refl _ _) ?_
          try simp only [Act.put, List.setIfInBounds_toArray, List.set_cons_zero, List.set_cons_succ]
          refine wpAnyH_take (i := 5) (oi := { dst := some 72, op := Op.pick (Operand.tmp 69) (Operand.const (Value.bool true)) (Operand.tmp 71), type := _, pos := _, after := _, guard := none }) (v := .bool false) rfl (by kernel_rfl) (by kernel_rfl) (by kernel_rfl) (fun _ _ _ h => h) (Or.inl ⟨by kernel_rfl, fun W hSW => by go_simp⟩) (Below.refl _ _) ?_
          try simp only [Act.put, List.setIfInBounds_toArray, List.set_cons_zero, List.set_cons_succ]
          refine wpAnyH_take (i := 6) (oi := { dst := some 73, op := Op.move (Operand.tmp 72), type := _, pos := _, after := _, guard := none }) (v := .bool false) rfl (by kernel_rfl) (by kernel_rfl) (by kernel_rfl) (fun _ _ _ h => h) (Or.inl ⟨by kernel_rfl, fun W hSW => by go_simp⟩) (Below.refl _ _) ?_
          try simp only [Act.put, List.setIfInBounds_toArray, List.set_cons_zero, List.set_cons_succ]
          refine wpAnyH_take (i := 7) (oi := { dst := some 74, op := Op.move (Operand.tmp 13), type := _, pos := _, after := _, guard := some (6, false) }) (v := .int .i64 0) rfl (by kernel_rfl) (by kernel_rfl) (by kernel_rfl) (fun _ _ _ h => h) (Or.inl ⟨by kernel_rfl, fun W hSW => by go_simp⟩) (Below.refl _ _) ?_
          try simp only [Act.put, List.setIfInBounds_toArray, List.set_cons_zero, List.set_cons_succ]
          refine wpAnyH_take (i := 8) (oi := { dst := some 75, op := Op.binOp BinOp.neq 31 (Operand.tmp 74) (Operand.const (Value.int IntKind.i64 0)) 31, type := _, pos := _, after := _, guard := some (6, false) }) (v := .bool false) rfl (by kernel_rfl) (by kernel_rfl) (by kernel_rfl) (fun _ _ _ h => h) (Or.inl ⟨by kernel_rfl, fun W hSW => by go_simp⟩) (Below.refl _ _) ?_
          try simp only [Act.put, List.setIfInBounds_toArray, List.set_cons_zero, List.set_cons_succ]
          refine wpAnyH_take (i := 9) (oi := { dst := some 76, op := Op.pick (Operand.tmp 73) (Operand.const (Value.bool true)) (Operand.tmp 75), type := _, pos := _, after := _, guard := none }) (v := .bool false) rfl (by kernel_rfl) (by kernel_rfl) (by kernel_rfl) (fun _ _ _ h => h) (Or.inl ⟨by kernel_rfl, fun W hSW => by go_simp⟩) (Below.refl _ _) ?_
          try simp only [Act.put, List.setIfInBounds_toArray, List.set_cons_zero, List.set_cons_succ]
          refine wpAnyH_take (i := 10) (oi := { dst := some 77, op := Op.move (Operand.tmp 76), type := _, pos := _, after := _, guard := none }) (v := .bool false) rfl (by kernel_rfl) (by kernel_rfl) (by kernel_rfl) (fun _ _ _ h => h) (Or.inl ⟨by kernel_rfl, fun W hSW => by go_simp⟩) (Below.refl _ _) ?_
          try simp only [Act.put, List.setIfInBounds_toArray, List.set_cons_zero, List.set_cons_succ]
          refine wpAnyH_take (i := 11) (oi := { dst := some 78, op := Op.move (Operand.tmp 12), type := _, pos := _, after := _, guard := some (10, false) }) (v := .pointer (some ⟨s', 0, none⟩)) rfl (by kernel_rfl) (by kernel_rfl) (by kernel_rfl) (fun _ _ _ h => h) (Or.inl ⟨by kernel_rfl, fun W hSW => by go_simp⟩) (Below.refl _ _) ?_
          try simp only [Act.put, List.setIfInBounds_toArray, List.set_cons_zero, List.set_cons_succ]
          refine wpAnyH_take (i := 14) (oi := { dst := some 81, op := Op.move (Operand.tmp 7), type := _, pos := _, after := _, guard := some (10, false) }) (v := .slice (some ⟨g5, 0, none⟩) m c5) rfl (by kernel_rfl) (by kernel_rfl) (by kernel_rfl) (fun _ _ _ h => h) (Or.inl ⟨by kernel_rfl, fun W hSW => by go_simp⟩) (Below.refl _ _) ?_
          try simp only [Act.put, List.setIfInBounds_toArray, List.set_cons_zero, List.set_cons_succ]
          refine wpAnyH_take (i := 15) (oi := { dst := some 82, op := Op.convert 23 9 (Operand.tmp 81), type := _, pos := _, after := _, guard := some (10, false) }) (v := .string X) rfl (by kernel_rfl) (by kernel_rfl) (by kernel_rfl) (fun _ _ _ h => h) (Or.inl ⟨by kernel_rfl, fun W hSW => by have hcv := run_bs HB20.out hSW HMM.out; rw [← hX] at hcv; go_simp⟩) (Below.refl _ _) ?_
          try simp only [Act.put, List.setIfInBounds_toArray, List.set_cons_zero, List.set_cons_succ]
          refine wpAnyH_ready (rs := [12]) (by kernel_rfl) (by simp) ?_
          refine AllReadyH.cons (o := { dst := some 79, op := Op.call { callee := Callee.value (Operand.func 13), args := #[Operand.tmp 78], argTypes := #[27] }, type := _, pos := _, after := _, guard := some (10, false) }) rfl (fun K' hK' => ?_) AllReadyH.nil
          go_simp
          go_at_call 13
          refine (HBb.out _ HX0.out).mono ?_
          rintro E x21 ⟨A21, c21, rfl, hB21, b21⟩
          have HB21 := Lib.hid hB21
          have H21 := Lib.hid (HX0.out.below b21)
          have NB := Lib.hid b21
          clear hB21 b21 HX0
          refine hK'.out _ _ (NB.out) (fun _ => Sh.wpAnyH_next NB.out ?_)
          clear hK' K' NB
          try simp only [Act.put, List.setIfInBounds_toArray, List.set_cons_zero, List.set_cons_succ]
          refine wpAnyH_take (i := 13) (oi := { dst := some 80, op := Op.convert 23 9 (Operand.tmp 79), type := _, pos := _, after := _, guard := some (10, false) }) (v := .string X) rfl (by kernel_rfl) (by kernel_rfl) (by kernel_rfl) (fun _ _ _ h => h) (Or.inl ⟨by kernel_rfl, fun W hSW => by have hcv := run_bs HB21.out hSW HMM.out; rw [← hX] at hcv; go_simp⟩) (Below.refl _ _) ?_
          try simp only [Act.put, List.setIfInBounds_toArray, List.set_cons_zero, List.set_cons_succ]
          refine wpAnyH_take (i := 16) (oi := { dst := some 83, op := Op.binOp BinOp.neq 9 (Operand.tmp 80) (Operand.tmp 82) 9, type := _, pos := _, after := _, guard := some (10, false) }) (v := .bool false) rfl (by kernel_rfl) (by kernel_rfl) (by kernel_rfl) (fun _ _ _ h => h) (Or.inl ⟨by kernel_rfl, fun W hSW => by go_simp⟩) (Below.refl _ _) ?_
          try simp only [Act.put, List.setIfInBounds_toArray, List.set_cons_zero, List.set_cons_succ]
          refine wpAnyH_take (i := 17) (oi := { dst := some 84, op := Op.pick (Operand.tmp 77) (Operand.const (Value.bool true)) (Operand.tmp 83), type := _, pos := _, after := _, guard := none }) (v := .bool false) rfl (by kernel_rfl) (by kernel_rfl) (by kernel_rfl) (fun _ _ _ h => h) (Or.inl ⟨by kernel_rfl, fun W hSW => by go_simp⟩) (Below.refl _ _) ?_
          try simp only [Act.put, List.setIfInBounds_toArray, List.set_cons_zero, List.set_cons_succ]
          refine wpAnyH_take (i := 18) (oi := { dst := some 85, op := Op.move (Operand.tmp 84), type := _, pos := _, after := _, guard := none }) (v := .bool false) rfl (by kernel_rfl) (by kernel_rfl) (by kernel_rfl) (fun _ _ _ h => h) (Or.inl ⟨by kernel_rfl, fun W hSW => by go_simp⟩) (Below.refl _ _) ?_
          try simp only [Act.put, List.setIfInBounds_toArray, List.set_cons_zero, List.set_cons_succ]
          refine wpAnyH_take (i := 19) (oi := { dst := some 86, op := Op.move (Operand.tmp 5), type := _, pos := _, after := _, guard := some (18, false) }) (v := .pointer (some ⟨s, 0, none⟩)) rfl (by kernel_rfl) (by kernel_rfl) (by kernel_rfl) (fun _ _ _ h => h) (Or.inl ⟨by kernel_rfl, fun W hSW => by go_simp⟩) (Below.refl _ _) ?_
          try simp only [Act.put, List.setIfInBounds_toArray, List.set_cons_zero, List.set_cons_succ]
          refine wpAnyH_take (i := 21) (oi := { dst := some 88, op := Op.move (Operand.tmp 7), type := _, pos := _, after := _, guard := some (18, false) }) (v := .slice (some ⟨g5, 0, none⟩) m c5) rfl (by kernel_rfl) (by kernel_rfl) (by kernel_rfl) (fun _ _ _ h => h) (Or.inl ⟨by kernel_rfl, fun W hSW => by go_simp⟩) (Below.refl _ _) ?_
          try simp only [Act.put, List.setIfInBounds_toArray, List.set_cons_zero, List.set_cons_succ]
          refine wpAnyH_ready (rs := [20]) (by kernel_rfl) (by simp) ?_
          refine AllReadyH.cons (o := { dst := some 87, op := Op.call { callee := Callee.value (Operand.func 15), args := #[Operand.tmp 86], argTypes := #[27] }, type := _, pos := _, after := _, guard := some (18, false) }) rfl (fun K' hK' => ?_) AllReadyH.nil
          go_simp
          go_at_call 15
          refine (HDa.out _ H21.out).mono ?_
          rintro E x22 ⟨rfl, b22⟩
          have H22 := Lib.hid (H21.out.below b22)
          have NB := Lib.hid b22
          clear b22 H21
          refine hK'.out _ _ (NB.out) (fun _ => Sh.wpAnyH_next NB.out ?_)
          clear hK' K' NB
          try simp only [Act.put, List.setIfInBounds_toArray, List.set_cons_zero, List.set_cons_succ]
          refine wpAnyH_ready (rs := [22]) (by kernel_rfl) (by simp) ?_
          refine AllReadyH.cons (o := { dst := some 89, op := Op.call { callee := Callee.value (Operand.func 23), args := #[Operand.tmp 88], argTypes := #[23] }, type := _, pos := _, after := _, guard := some (18, false) }) rfl (fun K' hK' => ?_) AllReadyH.nil
          go_simp
          go_at_call 23
          refine (HDr.out _ H22.out).mono ?_
          rintro E x23 ⟨rfl, b23⟩
          have H23 := Lib.hid (H22.out.below b23)
          have NB := Lib.hid b23
          clear b23 H22
          refine hK'.out _ _ (NB.out) (fun _ => Sh.wpAnyH_next NB.out ?_)
          clear hK' K' NB
          try simp only [Act.put, List.setIfInBounds_toArray, List.set_cons_zero, List.set_cons_succ]
          refine wpAnyH_take (i := 23) (oi := { dst := some 90, op := Op.binOp BinOp.neq 39 (Operand.tmp 87) (Operand.tmp 89) 39, type := _, pos := _, after := _, guard := some (18, false) }) (v := .bool false) rfl (by kernel_rfl) (by kernel_rfl) (by kernel_rfl) (fun _ _ _ h => h) (Or.inl ⟨by kernel_rfl, fun W hSW => by go_simp⟩) (Below.refl _ _) ?_
          try simp only [Act.put, List.setIfInBounds_toArray, List.set_cons_zero, List.set_cons_succ]
          refine wpAnyH_take (i := 24) (oi := { dst := some 91, op := Op.pick (Operand.tmp 85) (Operand.const (Value.bool true)) (Operand.tmp 90), type := _, pos := _, after := _, guard := none }) (v := .bool false) rfl (by kernel_rfl) (by kernel_rfl) (by kernel_rfl) (fun _ _ _ h => h) (Or.inl ⟨by kernel_rfl, fun W hSW => by go_simp⟩) (Below.refl _ _) ?_
          try simp only [Act.put, List.setIfInBounds_toArray, List.set_cons_zero, List.set_cons_succ]
          refine wpAnyH_done (by kernel_rfl) ?_ _
          clear HB20 HB21 HBb HDa HDr e39 g39
          go_wp2_with fail
          have HP0 : Hid (∃ l' : List UInt8, l'.length = m ∧ Fr w x23 [rowT g5 c5 l', stT s' t' g' rb cb (runQ (qs.take j)), stT s t g r c (runQ (qs.take j))]) := Lib.hid ⟨l, HMM.out.symm, H23.out.swap⟩
          clear H23
          go_loopw [14] (fun v wr => ∃ i : Nat, i ≤ m ∧ v = .int .i64 (i : Int) ∧ Hid (∃ l' : List UInt8, l'.length = m ∧ Fr w wr [rowT g5 c5 l', stT s' t' g' rb cb (runQ (qs.take j)), stT s t g r c (runQ (qs.take j))])) (fun v _ => m - (intOf v).toNat)
          case atStart => exact ⟨0, by omega, rfl, HP0⟩
          case round =>
            clear HP0
            obtain ⟨i, hi, rfl, D⟩ := hrel
            by_cases hii : i < m
            · obtain ⟨l', hl', hd'⟩ := D.out
              obtain ⟨h1, ⟨v0, c1⟩, f1⟩ := row_set hd' (j := i) (by omega) 0
              have D' : Hid (∃ l'' : List UInt8, l''.length = m ∧ Fr w (wr.setCell ⟨g5, i, none⟩ (.int .u8 0)) [rowT g5 c5 l'', stT s' t' g' rb cb (runQ (qs.take j)), stT s t g r c (runQ (qs.take j))]) := Lib.hid ⟨l'.set i 0, by rw [List.length_set, hl'], h1⟩
              clear D hd' h1 hl'
              have hm13 : m ≤ 13000 := by rw [HMM.out]; exact HM.out
              have hdec : decide ((i : Int) < (m : Int)) = true := decide_eq_true (by omega)
              have hj0 : (0 : Int) ≤ (i : Int) := by omega
              have hjn : (i : Int) < (m : Int) := by omega
              have htn : ((i : Int)).toNat = i := by omega
              have hw1 : IntKind.i64.wrap ((i : Int) + 1) = (i : Int) + 1 := by rw [IntKind.wrap_i64]; omega
              go_wp2_with fail
              go_roundw
              case measure => simp [intOf] <;> omega
              case rel => exact ⟨i + 1, by omega, by go_num, D'⟩
            · obtain rfl : i = m := by omega
              have H30 : Hid (Fr w wr [stT s' t' g' rb cb (runQ (qs.take j)), stT s t g r c (runQ (qs.take j))]) := Lib.hid (let ⟨_, _, h⟩ := D.out; h.pop)
              clear D
              have HBa : Hid (∀ W, Fr w W [stT s' t' g' rb cb (runQ (qs.take j)), stT s t g r c (runQ (qs.take j))] → Calls Tryz.prog 13 #[.pointer (some ⟨s, 0, none⟩)] W fun E W' => ∃ A' c', E = .returned (.slice A' i c') ∧ Bs W' A' l c' ∧ Below W.heap.size W W') := Lib.hid fun W h => by rw [HMM.out, HL'.out]; exact (bytes_any h.hd2 h.ksW HSz.out).mono fun E W' hx => let ⟨A', c', he, ho, hb⟩ := hx; ⟨A', c', he, bs_of_own ho, hb⟩
              have HBb : Hid (∀ W, Fr w W [stT s' t' g' rb cb (runQ (qs.take j)), stT s t g r c (runQ (qs.take j))] → Calls Tryz.prog 13 #[.pointer (some ⟨s', 0, none⟩)] W fun E W' => ∃ A' c', E = .returned (.slice A' i c') ∧ Bs W' A' l c' ∧ Below W.heap.size W W') := Lib.hid fun W h => by rw [HMM.out, HL'.out]; exact (bytes_any h.hd h.ksW HSz.out).mono fun E W' hx => let ⟨A', c', he, ho, hb⟩ := hx; ⟨A', c', he, bs_of_own ho, hb⟩
              go_wp2_with fail
              refine wp_region_any (by kernel_rfl) ?_
              change wpAny _ _ _ _ _ _ _ (World.drewN _ 1)
              refine held_gen (G := fun W' => wpAny _ _ _ _ _ _ _ W') (fun W' => Fr w W' [stT s' t' g' rb cb (runQ (qs.take j)), stT s t g r c (runQ (qs.take j))]) (by first | exact H30.out.drewN 1 | exact (H30.out.drewN _).drewN 1) (fun x30 hw => ?_)
              have HX0 := Lib.hid hw
              clear hw H30
              refine wpAny_of_held (S := fun W => Below x30.heap.size x30 W) _ _ _ _ ?_
              refine wpAnyH_take (i := 0) (oi := { dst := some 101, op := Op.move (Operand.tmp 5), type := _, pos := _, after := _, guard := none }) (v := .pointer (some ⟨s, 0, none⟩)) rfl (by kernel_rfl) (by kernel_rfl) (by kernel_rfl) (fun _ _ _ h => h) (Or.inl ⟨by kernel_rfl, fun W hSW => by go_simp⟩) (Below.refl _ _) ?_
              try simp only [Act.put, List.setIfInBounds_toArray, List.set_cons_zero, List.set_cons_succ]
              refine wpAnyH_take (i := 3) (oi := { dst := some 104, op := Op.move (Operand.tmp 12), type := _, pos := _, after := _, guard := none }) (v := .pointer (some ⟨s', 0, none⟩)) rfl (by kernel_rfl) (by kernel_rfl) (by kernel_rfl) (fun _ _ _ h => h) (Or.inl ⟨by kernel_rfl, fun W hSW => by go_simp⟩) (Below.refl _ _) ?_
              try simp only [Act.put, List.setIfInBounds_toArray, List.set_cons_zero, List.set_cons_succ]
              refine wpAnyH_ready (rs := [1]) (by kernel_rfl) (by simp) ?_
              refine AllReadyH.cons (o := { dst := some 102, op := Op.call { callee := Callee.value (Operand.func 13), args := #[Operand.tmp 101], argTypes := #[27] }, type := _, pos := _, after := _, guard := none }) rfl (fun K' hK' => ?_) AllReadyH.nil
              go_simp
              go_at_call 13
              refine (HBa.out _ HX0.out).mono ?_
              rintro E x31 ⟨A31, c31, rfl, hB31, b31⟩
              have HB31 := Lib.hid hB31
              have H31 := Lib.hid (HX0.out.below b31)
              have NB := Lib.hid b31
              clear hB31 b31 HX0
              refine hK'.out _ _ (NB.out) (fun _ => Sh.wpAnyH_next NB.out ?_)
              clear hK' K' NB
              try simp only [Act.put, List.setIfInBounds_toArray, List.set_cons_zero, List.set_cons_succ]
              refine wpAnyH_take (i := 2) (oi := { dst := some 103, op := Op.convert 23 9 (Operand.tmp 102), type := _, pos := _, after := _, guard := none }) (v := .string X) rfl (by kernel_rfl) (by kernel_rfl) (by kernel_rfl) (fun _ _ _ h => h) (Or.inl ⟨by kernel_rfl, fun W hSW => by have hcv := run_bs HB31.out hSW HMM.out; rw [← hX] at hcv; go_simp⟩) (Below.refl _ _) ?_
              try simp only [Act.put, List.setIfInBounds_toArray, List.set_cons_zero, List.set_cons_succ]
              refine wpAnyH_ready (rs := [4]) (by kernel_rfl) (by simp) ?_
              refine AllReadyH.cons (o := { dst := some 105, op := Op.call { callee := Callee.value (Operand.func 13), args := #[Operand.tmp 104], argTypes := #[27] }, type := _, pos := _, after := _, guard := none }) rfl (fun K' hK' => ?_) AllReadyH.nil
              go_simp
              go_at_call 13
              refine (HBb.out _ H31.out).mono ?_
              rintro E x32 ⟨A32, c32, rfl, hB32, b32⟩
              have HB32 := Lib.hid hB32
              have H32 := Lib.hid (H31.out.below b32)
              have NB := Lib.hid b32
              clear hB32 b32 H31
              refine hK'.out _ _ (NB.out) (fun _ => Sh.wpAnyH_next NB.out ?_)
              clear hK' K' NB
              try simp only [Act.put, List.setIfInBounds_toArray, List.set_cons_zero, List.set_cons_succ]
              refine wpAnyH_take (i := 5) (oi := { dst := some 106, op := Op.convert 23 9 (Operand.tmp 105), type := _, pos := _, after := _, guard := none }) (v := .string X) rfl (by kernel_rfl) (by kernel_rfl) (by kernel_rfl) (fun _ _ _ h => h) (Or.inl ⟨by kernel_rfl, fun W hSW => by have hcv := run_bs HB32.out hSW HMM.out; rw [← hX] at hcv; go_simp⟩) (Below.refl _ _) ?_
              try simp only [Act.put, List.setIfInBounds_toArray, List.set_cons_zero, List.set_cons_succ]
              refine wpAnyH_take (i := 6) (oi := { dst := some 107, op := Op.binOp BinOp.eql 9 (Operand.tmp 103) (Operand.tmp 106) 9, type := _, pos := _, after := _, guard := none }) (v := .bool true) rfl (by kernel_rfl) (by kernel_rfl) (by kernel_rfl) (fun _ _ _ h => h) (Or.inl ⟨by kernel_rfl, fun W hSW => by go_simp⟩) (Below.refl _ _) ?_
              try simp only [Act.put, List.setIfInBounds_toArray, List.set_cons_zero, List.set_cons_succ]
              refine wpAnyH_take (i := 7) (oi := { dst := some 108, op := Op.move (Operand.tmp 107), type := _, pos := _, after := _, guard := none }) (v := .bool true) rfl (by kernel_rfl) (by kernel_rfl) (by kernel_rfl) (fun _ _ _ h => h) (Or.inl ⟨by kernel_rfl, fun W hSW => by go_simp⟩) (Below.refl _ _) ?_
              try simp only [Act.put, List.setIfInBounds_toArray, List.set_cons_zero, List.set_cons_succ]
              refine wpAnyH_ready (rs := [8]) (by kernel_rfl) (by simp) ?_
              refine AllReadyH.cons (o := { dst := some 109, op := Op.call { callee := Callee.value (Operand.func 8), args := #[], argTypes := #[] }, type := _, pos := _, after := _, guard := some (7, true) }) rfl (fun K' hK' => ?_) AllReadyH.nil
              go_simp
              go_at_call 8
              refine (HW.out _ _ H32.out).mono ?_
              rintro E x33 ⟨rfl, b33⟩
              have H33 := Lib.hid (H32.out.below b33)
              have NB := Lib.hid b33
              clear b33 H32
              refine hK'.out _ _ (NB.out) (fun _ => Sh.wpAnyH_next NB.out ?_)
              clear hK' K' NB
              try simp only [Act.put, List.setIfInBounds_toArray, List.set_cons_zero, List.set_cons_succ]
              refine wpAnyH_take (i := 9) (oi := { dst := some 110, op := Op.pick (Operand.tmp 108) (Operand.tmp 109) (Operand.const (Value.bool false)), type := _, pos := _, after := _, guard := none }) (v := .bool true) rfl (by kernel_rfl) (by kernel_rfl) (by kernel_rfl) (fun _ _ _ h => h) (Or.inl ⟨by kernel_rfl, fun W hSW => by go_simp⟩) (Below.refl _ _) ?_
              try simp only [Act.put, List.setIfInBounds_toArray, List.set_cons_zero, List.set_cons_succ]
              refine wpAnyH_take (i := 10) (oi := { dst := some 4, op := Op.assign (Operand.tmp 110), type := _, pos := _, after := _, guard := none }) (v := .bool true) rfl (by kernel_rfl) (by kernel_rfl) (by kernel_rfl) (fun _ _ _ h => h) (Or.inl ⟨by kernel_rfl, fun W hSW => by go_simp⟩) (Below.refl _ _) ?_
              try simp only [Act.put, List.setIfInBounds_toArray, List.set_cons_zero, List.set_cons_succ]
              refine wpAnyH_done (by kernel_rfl) ?_ _
              clear HB31 HB32 HBa HBb hX
              go_wp2_with fail
              go_ret
              exact ⟨rfl, H33.out.bel⟩
    · have hl1 : ((n : Int) > 60) := by omega
      have hl2 : (60 < (n : Int)) := by omega
      go_wp2_with (go_at_call 8; refine (HW.out _ _ H1.out).mono ?_; rintro E w2 ⟨rfl, b2⟩)
      go_ret
      exact ⟨rfl, (H1.out.below b2).bel⟩
end Go.Proofs.YtpageppjngbnpaaGreatDoor
