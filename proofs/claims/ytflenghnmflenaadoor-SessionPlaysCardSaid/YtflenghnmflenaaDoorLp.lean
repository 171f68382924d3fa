/-
  What is proved: an amount is moved. Conditions as stated.
-/
import Derived.Test.YtflenghnmflenaaDoorLo
namespace Go.Proofs.YtflenghnmflenaaDoor
open Go.RowKit
set_option maxRecDepth 100000

theorem At.vars {w : World} {g : Nat} {r : Option Nat} {o : MOp} {W : World} {r' : Option Nat} {c' : Nat} {ys : List It} (H : At w g r o W r' c' ys) (hv : Vars w) (hl : ∀ k, On g r k → 4 ≤ k) : Vars W :=
  hv.kept fun k hk => H.own.1.block k (by have := hv.low; omega) fun e => by have := hl k e; omega
theorem At.drew {w : World} {g : Nat} {r : Option Nat} {o : MOp} {W : World} {r' : Option Nat} {c' : Nat} {ys : List It} (H : At w g r o W r' c' ys) : At w g r o W.drew r' c' ys :=
  ⟨⟨H.led.top, H.led.row.kept fun _ _ => rfl⟩, ⟨H.own.1.drewN 1, H.own.2⟩, H.op, H.res⟩
theorem mv_no {xs : List It} {o : MOp} (h : hasK xs o.key = false) : moveR xs o = (no 4, xs) := by rw [moveR, h]; rfl
theorem mv_bad {xs : List It} {o : MOp} (h : hasK xs o.key = true) (hb : (numOf (valK xs o.key)).isSome = false ∨ (numAt xs o.to).isSome = false) : moveR xs o = (no 5, xs) := by
  rw [moveR, h, if_pos rfl]
  cases h1 : numOf (valK xs o.key) with
  | none => rfl
  | some a =>
    cases h2 : numAt xs o.to with
    | none => rfl
    | some b => rw [h1, h2] at hb; simp at hb
theorem mv_good {xs : List It} {o : MOp} (h : hasK xs o.key = true) (h1 : (numOf (valK xs o.key)).isSome = true) (h2 : (numAt xs o.to).isSome = true) :
    moveR xs o = (if numV (valK xs o.key) < o.amount then ((14, valK xs o.key), xs) else if 1125899906842624 < (numAt xs o.to).getD 0 + o.amount then (no 6, xs) else if fullK xs o.to then (no 7, xs)
      else ((0, dec (numV (valK xs o.key) - o.amount)), setK (setK xs o.key (dec (numV (valK xs o.key) - o.amount))) o.to (dec ((numAt xs o.to).getD 0 + o.amount)))) := by
  obtain ⟨a, ha⟩ := Option.isSome_iff_exists.1 h1
  obtain ⟨b, hb⟩ := Option.isSome_iff_exists.1 h2
  simp only [moveR, h, if_true, numV, ha, hb, Option.getD_some, topN]
  rfl
theorem num_le {s : ByteArray} : numV s ≤ topN := by
  unfold numV
  cases h : numOf s with
  | none => exact Nat.zero_le _
  | some n => exact (dec_of_num h).2
theorem at_le (xs : List It) (k : ByteArray) : (numAt xs k).getD 0 ≤ topN := by
  unfold numAt
  split
  · exact num_le
  · exact Nat.zero_le _
set_option maxHeartbeats 4000000 in
theorem move_any {w : World} {g : Nat} {r : Option Nat} {c : Nat} {xs : List It} (h : Led w g r c xs) (hs : Rise xs) (hn : xs.length ≤ 900) (o : MOp) (ha : o.amount ≤ topN) (hsm : ∀ k, (valK xs k).size ≤ 1000000) (hv : Vars w) (hlo : ∀ k, On g r k → 4 ≤ k) :
    Calls Tryd.prog 47 #[.pointer (some ⟨g, 0, none⟩), .agg (opC o).toArray] w fun E w' => OpP w g r (moveR xs o) E w' := by
  have H0 := Lib.hid (At.start h o)
  have HS := Lib.hid hs
  have HN := Lib.hid hn
  have HVr : Hid (∀ W r' c' ys, At w g r o W r' c' ys → Vars W) := Lib.hid fun W r' c' ys H => H.vars hv hlo
  have HV : Hid (∀ W, At w g r o W r c xs → Calls Tryd.prog 52 #[.pointer (some ⟨g, 0, none⟩), .string o.key] W fun E w' => E = .returned (.tuple #[.string (valK xs o.key), .bool (hasK xs o.key)]) ∧ Below W.heap.size W w') := Lib.hid fun W H => value_any H.led HS.out (by have := HN.out; omega) o.key
  have HA : Hid (∀ W, At w g r o W r c xs → Calls Tryd.prog 57 #[.string (valK xs o.key)] W fun E w' => E = .returned (.tuple #[.int .u64 (numV (valK xs o.key) : Int), .bool (numOf (valK xs o.key)).isSome]) ∧ Below W.heap.size W w') := Lib.hid fun W H => number_any _ (hsm _) (HVr.out _ _ _ _ H)
  have HB : Hid (∀ W, At w g r o W r c xs → Calls Tryd.prog 58 #[.pointer (some ⟨g, 0, none⟩), .string o.to] W fun E w' => E = .returned (.tuple #[.int .u64 ((numAt xs o.to).getD 0 : Nat), .bool (numAt xs o.to).isSome]) ∧ Below W.heap.size W w') := Lib.hid fun W H => numberAt_any H.led HS.out (by have := HN.out; omega) o.to (hsm _) (HVr.out _ _ _ _ H)
  have HFu : Hid (∀ W, At w g r o W r c xs → Calls Tryd.prog 53 #[.pointer (some ⟨g, 0, none⟩), .string o.to] W fun E w' => E = .returned (.bool (fullK xs o.to)) ∧ Below W.heap.size W w') := Lib.hid fun W H => full_any H.led HS.out (by have := HN.out; omega) o.to
  have HDg : Hid (∀ W r' c' ys u, At w g r o W r' c' ys → u < 18446744073709551616 → Calls Tryd.prog 59 #[.int .u64 ((u : Nat) : Int)] W fun E w' => E = .returned (.string (dec u)) ∧ Below W.heap.size W w') := Lib.hid fun W r' c' ys u H hu => digits_any u hu (HVr.out _ _ _ _ H)
  have HT1 : Hid (∀ W s, At w g r o W r c xs → Calls Tryd.prog 54 #[.pointer (some ⟨g, 0, none⟩), .string o.key, .string s] W fun E w' => E = .returned (.tuple #[]) ∧ SetP W g r (setK xs o.key s) w') := Lib.hid fun W s H => set_any H.led HS.out (by have := HN.out; omega) o.key s
  have HT2 : Hid (∀ W r' c' s t, At w g r o W r' c' (setK xs o.key s) → Calls Tryd.prog 54 #[.pointer (some ⟨g, 0, none⟩), .string o.to, .string t] W fun E w' => E = .returned (.tuple #[]) ∧ SetP W g r' (setK (setK xs o.key s) o.to t) w') := Lib.hid fun W r' c' s t H => set_any H.led (rise_set HS.out _ _) (by rw [length_setK]; have := HN.out; split <;> omega) o.to t
  have E0 := Lib.hid (mv_no (xs := xs) (o := o))
  have E1 := Lib.hid (mv_bad (xs := xs) (o := o))
  have E2 := Lib.hid (mv_good (xs := xs) (o := o))
  have hA1 := num_le (s := valK xs o.key)
  have hB1 := at_le xs o.to
  obtain ⟨z, hz⟩ : ∃ z, z = hasK xs o.key := ⟨_, rfl⟩
  obtain ⟨v, hvv⟩ : ∃ v, v = valK xs o.key := ⟨_, rfl⟩
  obtain ⟨ab, hab⟩ : ∃ ab, ab = (numOf v).isSome := ⟨_, rfl⟩
  obtain ⟨A, hA⟩ : ∃ A, A = numV v := ⟨_, rfl⟩
  obtain ⟨bb, hbb⟩ : ∃ bb, bb = (numAt xs o.to).isSome := ⟨_, rfl⟩
  obtain ⟨B, hB⟩ : ∃ B, B = (numAt xs o.to).getD 0 := ⟨_, rfl⟩
  obtain ⟨fu, hfu⟩ : ∃ fu, fu = fullK xs o.to := ⟨_, rfl⟩
  rw [← hz, ← hvv] at HV
  rw [← hvv, ← hA, ← hab] at HA
  rw [← hB, ← hbb] at HB
  rw [← hfu] at HFu
  rw [← hz] at E0
  rw [← hz, ← hvv, ← hab, ← hbb] at E1
  rw [← hz, ← hvv, ← hab, ← hbb, ← hA, ← hB, ← hfu] at E2
  rw [← hvv, ← hA] at hA1
  rw [← hB] at hB1
  unfold topN at ha hA1 hB1
  have p1 : (opC o)[1]? = some (.string o.key) := rfl
  have p4 : (opC o)[4]? = some (.string o.to) := rfl
  have p5 : (opC o)[5]? = some (.int .u64 (o.amount : Int)) := rfl
  clear hz hvv hab hA hbb hB hfu h hs hn hsm hv hlo
  go_enter Tryd.func47, Tryd.ntmps47
  go_wp2_with (go_at_call 52; refine (HV.out _ H0.out).mono ?_)
  rintro E w1 ⟨rfl, b1⟩
  have H1 := Lib.hid (H0.out.below b1)
  clear H0 HV b1
  go_wp2_with (go_at_call 57; refine (HA.out _ H1.out).mono ?_)
  rintro E w2 ⟨rfl, b2⟩
  have H2 := Lib.hid (H1.out.below b2)
  clear H1 HA b2
  have k2_4 : w2.cell? ⟨w.heap.size, 4, none⟩ = some (.string o.to) := H2.out.cell 4 _ rfl
  go_wp2_with (go_at_call 58; refine (HB.out _ H2.out).mono ?_)
  rintro E w3 ⟨rfl, b3⟩
  have H3 := Lib.hid (H2.out.below b3)
  clear H2 HB b3 k2_4
  cases z with
  | false =>
    have HE2 := Lib.hid (E0.out rfl)
    clear HVr HFu HDg HT1 HT2 E0 E1 E2
    go_wp2_with (go_at_call 32; refine (refused_any 4 _).mono ?_)
    rintro E w4 ⟨rfl, b4⟩
    have H4 := Lib.hid (H3.out.below b4)
    clear H3 b4
    have HZ := Lib.hid (fun x y => H4.out.fin x y)
    obtain ⟨d0, d1, f0, f1⟩ := H4.out.out
    go_wp2_with fail
    (try simp only [Exit.inBlock, Exit.then]); refine bodyPost_ret (ret_range (g := w.heap.size + 1) rfl rfl (range_all (HZ.out _ _).1) Tryd.underlying32 rfl Tryd.is32) rfl ?_
    show OpP w g r _ _ _
    rw [HE2.out]
    exact ⟨rfl, (HZ.out _ _).2⟩
  | true =>
    cases ab with
    | false =>
      have HE2 := Lib.hid (E1.out rfl (.inl rfl))
      clear HVr HFu HDg HT1 HT2 E0 E1 E2
      go_wp2_with (go_at_call 32; refine (refused_any 5 _).mono ?_)
      rintro E w4 ⟨rfl, b4⟩
      have H4 := Lib.hid (H3.out.below b4)
      clear H3 b4
      have HZ := Lib.hid (fun x y => H4.out.fin x y)
      obtain ⟨d0, d1, f0, f1⟩ := H4.out.out
      go_wp2_with fail
      (try simp only [Exit.inBlock, Exit.then]); refine bodyPost_ret (ret_range (g := w.heap.size + 1) rfl rfl (range_all (HZ.out _ _).1) Tryd.underlying32 rfl Tryd.is32) rfl ?_
      show OpP w g r _ _ _
      rw [HE2.out]
      exact ⟨rfl, (HZ.out _ _).2⟩
    | true =>
      cases bb with
      | false =>
        have HE2 := Lib.hid (E1.out rfl (.inr rfl))
        clear HVr HFu HDg HT1 HT2 E0 E1 E2
        go_wp2_with (go_at_call 32; refine (refused_any 5 _).mono ?_)
        rintro E w4 ⟨rfl, b4⟩
        have H4 := Lib.hid (H3.out.below b4)
        clear H3 b4
        have HZ := Lib.hid (fun x y => H4.out.fin x y)
        obtain ⟨d0, d1, f0, f1⟩ := H4.out.out
        go_wp2_with fail
        (try simp only [Exit.inBlock, Exit.then]); refine bodyPost_ret (ret_range (g := w.heap.size + 1) rfl rfl (range_all (HZ.out _ _).1) Tryd.underlying32 rfl Tryd.is32) rfl ?_
        show OpP w g r _ _ _
        rw [HE2.out]
        exact ⟨rfl, (HZ.out _ _).2⟩
      | true =>
        have HG := Lib.hid (E2.out rfl rfl rfl)
        clear E0 E1 E2
        have k3_1 : w3.cell? ⟨w.heap.size, 1, none⟩ = some (.string o.key) := H3.out.cell 1 _ rfl
        have k3_4 : w3.cell? ⟨w.heap.size, 4, none⟩ = some (.string o.to) := H3.out.cell 4 _ rfl
        have k3_5 : w3.cell? ⟨w.heap.size, 5, none⟩ = some (.int .u64 (o.amount : Int)) := H3.out.cell 5 _ rfl
        by_cases h1 : A < o.amount
        · have h1' : (A : Int) < (o.amount : Int) := by omega
          have HE2 : Hid (moveR xs o = ((14, v), xs)) := Lib.hid (by rw [HG.out, if_pos h1])
          clear HVr HFu HDg HT1 HT2 HG h1
          have HZ := Lib.hid (fun x y => H3.out.fin x y)
          obtain ⟨d0, d1, f0, f1⟩ := H3.out.out
          go_wp2_with fail
          (try simp only [Exit.inBlock, Exit.then]); refine bodyPost_ret (ret_range (g := w.heap.size + 1) rfl rfl (range_all (HZ.out _ _).1) Tryd.underlying32 rfl Tryd.is32) rfl ?_
          show OpP w g r _ _ _
          rw [HE2.out]
          exact ⟨rfl, (HZ.out _ _).2⟩
        · have h1' : ¬ ((A : Int) < (o.amount : Int)) := by omega
          have hwa : IntKind.u64.wrap ((B : Int) + (o.amount : Int)) = (B : Int) + (o.amount : Int) := by rw [IntKind.wrap_u64]; omega
          by_cases h2 : 1125899906842624 < B + o.amount
          · have h2' : (1125899906842624 : Int) < (B : Int) + (o.amount : Int) := by omega
            have HE2 : Hid (moveR xs o = (no 6, xs)) := Lib.hid (by rw [HG.out, if_neg h1, if_pos h2])
            clear HVr HFu HDg HT1 HT2 HG h1 h2
            go_wp2_with (go_at_call 32; refine (refused_any 6 _).mono ?_)
            rintro E w4 ⟨rfl, b4⟩
            have H4 := Lib.hid (H3.out.below b4)
            clear H3 b4
            have HZ := Lib.hid (fun x y => H4.out.fin x y)
            obtain ⟨d0, d1, f0, f1⟩ := H4.out.out
            go_wp2_with fail
            (try simp only [Exit.inBlock, Exit.then]); refine bodyPost_ret (ret_range (g := w.heap.size + 1) rfl rfl (range_all (HZ.out _ _).1) Tryd.underlying32 rfl Tryd.is32) rfl ?_
            show OpP w g r _ _ _
            rw [HE2.out]
            exact ⟨rfl, (HZ.out _ _).2⟩
          · have h2' : ¬ ((1125899906842624 : Int) < (B : Int) + (o.amount : Int)) := by omega
            go_wp2_with (go_at_call 53; refine (HFu.out _ H3.out).mono ?_)
            rintro E w4 ⟨rfl, b4⟩
            have H4 := Lib.hid (H3.out.below b4)
            clear H3 b4 k3_1 k3_4 k3_5 HFu
            cases fu with
            | true =>
              have HE2 : Hid (moveR xs o = (no 7, xs)) := Lib.hid (by rw [HG.out, if_neg h1, if_neg h2]; rfl)
              clear HVr HDg HT1 HT2 HG h1 h2
              go_wp2_with (go_at_call 32; refine (refused_any 7 _).mono ?_)
              rintro E w5 ⟨rfl, b5⟩
              have H5 := Lib.hid (H4.out.below b5)
              clear H4 b5
              have HZ := Lib.hid (fun x y => H5.out.fin x y)
              obtain ⟨d0, d1, f0, f1⟩ := H5.out.out
              go_wp2_with fail
              (try simp only [Exit.inBlock, Exit.then]); refine bodyPost_ret (ret_range (g := w.heap.size + 1) rfl rfl (range_all (HZ.out _ _).1) Tryd.underlying32 rfl Tryd.is32) rfl ?_
              show OpP w g r _ _ _
              rw [HE2.out]
              exact ⟨rfl, (HZ.out _ _).2⟩
            | false =>
              have HE2 : Hid (moveR xs o = ((0, dec (A - o.amount)), setK (setK xs o.key (dec (A - o.amount))) o.to (dec (B + o.amount)))) := Lib.hid (by rw [HG.out, if_neg h1, if_neg h2]; rfl)
              obtain ⟨L, hL⟩ : ∃ L, L = A - o.amount := ⟨_, rfl⟩
              obtain ⟨M, hM⟩ : ∃ M, M = B + o.amount := ⟨_, rfl⟩
              have hLi : (A : Int) - (o.amount : Int) = (L : Int) := by omega
              have hMi : (B : Int) + (o.amount : Int) = (M : Int) := by omega
              have hwl : IntKind.u64.wrap (L : Int) = (L : Int) := by rw [IntKind.wrap_u64]; omega
              have HDL : Hid (∀ W r' c' ys, At w g r o W r' c' ys → Calls Tryd.prog 59 #[.int .u64 (L : Int)] W fun E w' => E = .returned (.string (dec L)) ∧ Below W.heap.size W w') := Lib.hid fun W r' c' ys H => HDg.out W r' c' ys L H (by omega)
              have HDM : Hid (∀ W r' c' ys, At w g r o W r' c' ys → Calls Tryd.prog 59 #[.int .u64 (M : Int)] W fun E w' => E = .returned (.string (dec M)) ∧ Below W.heap.size W w') := Lib.hid fun W r' c' ys H => HDg.out W r' c' ys M H (by omega)
              rw [← hL, ← hM] at HE2
              rw [hMi] at hwa h2'
              have hwm : IntKind.u64.wrap (M : Int) = (M : Int) := hwa
              obtain ⟨sl, hsl⟩ : ∃ sl, sl = dec L := ⟨_, rfl⟩
              obtain ⟨sm, hsm⟩ : ∃ sm, sm = dec M := ⟨_, rfl⟩
              rw [← hsl] at HDL HE2
              rw [← hsm] at HDM HE2
              have k4_1 : w4.cell? ⟨w.heap.size, 1, none⟩ = some (.string o.key) := H4.out.cell 1 _ rfl
              have k4_4 : w4.cell? ⟨w.heap.size, 4, none⟩ = some (.string o.to) := H4.out.cell 4 _ rfl
              have k4_5 : w4.cell? ⟨w.heap.size, 5, none⟩ = some (.int .u64 (o.amount : Int)) := H4.out.cell 5 _ rfl
              clear hsl hsm HG h1 h2 hL hM HDg HVr hwa
              go_wp2_with (go_at_call 59; refine (HDL.out _ _ _ _ H4.out).mono ?_)
              rintro E w5 ⟨rfl, b5⟩
              have H5 := Lib.hid (H4.out.below b5)
              clear H4 b5 k4_1 k4_4 k4_5
              have k5_1 : w5.cell? ⟨w.heap.size, 1, none⟩ = some (.string o.key) := H5.out.cell 1 _ rfl
              go_wp2_with (go_at_call 54; refine (HT1.out _ _ H5.out).mono ?_)
              rintro E w6 ⟨rfl, r6, c6, l6, q6⟩
              have H6 := Lib.hid (H5.out.next l6 q6)
              clear H5 l6 q6 k5_1
              have k6_4 : w6.cell? ⟨w.heap.size, 4, none⟩ = some (.string o.to) := H6.out.cell 4 _ rfl
              have k6_5 : w6.cell? ⟨w.heap.size, 5, none⟩ = some (.int .u64 (o.amount : Int)) := H6.out.cell 5 _ rfl
              go_wp2_with fail
              go_region_with (first
                | (go_at_call 59; go_must (refine (HDM.out _ _ _ _ H6.out.drew).mono ?_); rintro E w7 ⟨rfl, b7⟩; have H7 := Lib.hid (H6.out.drew.below b7); clear H6 b7; have k7_4 : w7.cell? ⟨w.heap.size, 4, none⟩ = some (.string o.to) := H7.out.cell 4 _ rfl; have k7_5 : w7.cell? ⟨w.heap.size, 5, none⟩ = some (.int .u64 (o.amount : Int)) := H7.out.cell 5 _ rfl)
                | (go_at_call 54; go_must (refine (HT2.out _ _ _ _ _ H7.out).mono ?_); rintro E w8 ⟨rfl, r8, c8, l8, q8⟩; have H8 := Lib.hid (H7.out.next l8 q8); clear H7 l8 q8))
              all_goals
                have HZ := Lib.hid (fun x y => H8.out.fin x y)
                obtain ⟨d0, d1, f0, f1⟩ := H8.out.out
                go_wp2_with fail
                (try simp only [Exit.inBlock, Exit.then]); refine bodyPost_ret (ret_range (g := w.heap.size + 1) rfl rfl (range_all (HZ.out _ _).1) Tryd.underlying32 rfl Tryd.is32) rfl ?_
                show OpP w g r _ _ _
                rw [HE2.out]
                exact ⟨rfl, (HZ.out _ _).2⟩
end Go.Proofs.YtflenghnmflenaaDoor
