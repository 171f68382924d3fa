/-
  What is proved: StateAdds: its walk. Conditions as stated.
-/
import Derived.Test.YtpageppjngbnpaaDoorGb
namespace Go.Proofs.YtpageppjngbnpaaDoor
open Go.RowKit
set_option maxRecDepth 100000

set_option maxHeartbeats 16000000 in
theorem adds_walk {w : World} (hv : Vars w) (hk : Sh.KIs w) {A : Option Addr} {c0 : Nat} {qs : List MRq} (hQ : Rqs w A qs) (hn : qs.length ≤ 1099511627776) :
    Calls Tryd.prog 3 #[.slice A qs.length c0] w fun E w' => E = .returned (.bool true) ∧ Below w.heap.size w w' := by
  have HW : Hid (∀ W os, Fr w W os → Calls Tryd.prog 5 #[] W fun E w' => E = .returned (.bool true) ∧ Below W.heap.size W w') := Lib.hid fun W os H => works_any H.varsW H.ksW
  have HF := Lib.hid (sfew_any A c0 qs w hQ hn)
  have HS0 := Lib.hid (Fr.start hv hk)
  have HReq := Lib.hid (rqs_at hQ)
  have HInfo : Hid (∀ q ∈ qs, (Tryd.prog.info? 37).map (·.size) = some (rqC q).length) := Lib.hid fun q hq => rq_info hQ hq
  have HTag := Lib.hid hQ.tag
  have HRch : Hid (∀ j, Rch (runQ (qs.take j))) := Lib.hid fun j => take_time (rqs_time hQ) j
  obtain ⟨n, hnn⟩ : ∃ n, n = qs.length := ⟨_, rfl⟩
  have HL := Lib.hid hnn
  rw [← hnn] at HF hn ⊢
  clear hv hk hQ hnn
  go_enter Tryd.func3, Tryd.ntmps3
  go_wp2_with (go_at_call 4; refine HF.out.mono ?_)
  rintro E w1 ⟨⟨z, rfl, hz150⟩, b1⟩
  have H1 := Lib.hid (HS0.out.below b1)
  clear HS0 b1 HF
  cases z with
  | false =>
    go_wp2_with (go_at_call 5; refine (HW.out _ _ H1.out).mono ?_; rintro E w2 ⟨rfl, b2⟩)
    go_ret
    exact ⟨rfl, (H1.out.below b2).bel⟩
  | true =>
    have h150 := hz150 rfl
    clear hz150
    by_cases hlim : n ≤ 60
    · have hl1 : ¬ ((n : Int) > 60) := by omega
      have hl2 : ¬ (60 < (n : Int)) := by omega
      have HN := Lib.hid (fun W os (h : Fr w W os) => new_fr h)
      go_wp2_with (go_at_call 6; refine (HN.out _ _ H1.out).mono ?_)
      rintro E w2 ⟨sa, ta, ga, rfl, h2⟩
      have H2 := Lib.hid h2
      clear h2 H1
      go_wp2_with (go_at_call 6; refine (HN.out _ _ H2.out).mono ?_)
      rintro E w3 ⟨sb, tb, gb, rfl, h3⟩
      have H3 : Hid (Fr w w3 [stT sb tb gb none 0 ((runQ (qs.take 0)).num (2 * 0)), stT sa ta ga none 0 (runQ (qs.take 0))]) := Lib.hid h3
      clear h3 H2 HN
      go_wp2_with fail
      go_loopw [5] (fun v5 wr => ∃ (j : Nat) (ra : Option Nat) (ca : Nat) (rb : Option Nat) (cb : Nat), j ≤ n ∧ v5 = .int .i64 (j : Int) ∧ Hid (Fr w wr [stT sb tb gb rb cb ((runQ (qs.take j)).num (2 * j)), stT sa ta ga ra ca (runQ (qs.take j))])) (fun v5 _ => n - (intOf v5).toNat)
      case atStart => exact ⟨0, none, 0, none, 0, by omega, rfl, H3⟩
      case round =>
        clear H3
        obtain ⟨j, ra, ca, rb, cb, hj, rfl, D⟩ := hrel
        by_cases hjj : j < n
        · obtain ⟨q, hq⟩ : ∃ q, qs[j]? = some q := ⟨_, List.getElem?_eq_getElem (by rw [← HL.out]; omega)⟩
          obtain ⟨b', off, rfl, hr⟩ := HReq.out j q hq
          have HRg := Lib.hid hr
          have HI := Lib.hid (HInfo.out q (List.mem_of_getElem? hq))
          have HTg := Lib.hid (HTag.out q (List.mem_of_getElem? hq))
          have HTk := Lib.hid (runQ_take hq)
          clear hr hq
          have hdec : decide ((j : Int) < (n : Int)) = true := decide_eq_true (by omega)
          have hj0 : (0 : Int) ≤ (j : Int) := by omega
          have hjn : (j : Int) < (n : Int) := by omega
          have htn : ((j : Int)).toNat = j := by omega
          have hw1 : IntKind.i64.wrap ((j : Int) + 1) = (j : Int) + 1 := by rw [IntKind.wrap_i64]; omega
          have hT8 := (HRch.out j).len
          obtain ⟨S, hS⟩ : ∃ S, S = runQ (qs.take j) := ⟨_, rfl⟩
          rw [← hS] at D HTk hT8
          clear hS
          obtain ⟨er, vl, z, hres⟩ := tR_rep S.T S.xs q
          obtain ⟨er3, vl3, z3, hres3⟩ := tR_rep (tR S.T S.xs q).2.1 (tR S.T S.xs q).2.2 q
          obtain rfl : z3 = false := by have := (tR_twice hT8 S.xs q).1; rw [hres3] at this; exact this
          have hag : z = true → (er, vl) = (er3, vl3) := fun hz => by have := tR_again hT8 S.xs q (by rw [hres]; exact hz); rw [hres3, hres] at this; exact this.symm
          have HN1 := MSt.num_next S (2 * j) q (by omega)
          have HN2 := MSt.num_again S hT8 (2 * j + 1) q (by omega)
          have HDa : Hid (∀ W os s t g r c, Fr w W (stT s t g r c S :: os) → Calls Tryd.prog 7 #[.pointer (some ⟨s, 0, none⟩), .agg (rqC q).toArray] W fun E W' => ∃ r' c', E = .returned (.tuple #[.agg #[.int .i64 er, .string vl], .bool z]) ∧ Fr w W' (stT s t g r' c' (S.next q) :: os)) := Lib.hid fun W os s t g r c h => by have := do_one HTg.out h; rw [hres] at this; exact this
          have HDb : Hid (∀ W os s t g r c, Fr w W (stT s t g r c (S.num (2 * j)) :: os) → Calls Tryd.prog 7 #[.pointer (some ⟨s, 0, none⟩), .agg (rqC q).toArray] W fun E W' => ∃ r' c', E = .returned (.tuple #[.agg #[.int .i64 er, .string vl], .bool z]) ∧ Fr w W' (stT s t g r' c' ((S.next q).num (2 * j + 1)) :: os)) := Lib.hid fun W os s t g r c h => (do_one HTg.out h).mono fun E W' ⟨r', c', he, hf⟩ => ⟨r', c', by rw [he]; show Ending.returned (.tuple #[.agg #[.int .i64 (tR S.T S.xs q).1.1.1, .string (tR S.T S.xs q).1.1.2], .bool (tR S.T S.xs q).1.2]) = _; rw [hres], by rw [← HN1]; exact hf⟩
          have HDc : Hid (∀ W os s t g r c, Fr w W (stT s t g r c ((S.next q).num (2 * j + 1)) :: os) → Calls Tryd.prog 7 #[.pointer (some ⟨s, 0, none⟩), .agg (rqC q).toArray] W fun E W' => ∃ r' c', E = .returned (.tuple #[.agg #[.int .i64 er3, .string vl3], .bool false]) ∧ Fr w W' (stT s t g r' c' ((S.next q).num (2 * j + 1 + 1)) :: os)) := Lib.hid fun W os s t g r c h => (do_one HTg.out h).mono fun E W' ⟨r', c', he, hf⟩ => ⟨r', c', by rw [he]; show Ending.returned (.tuple #[.agg #[.int .i64 (tR (tR S.T S.xs q).2.1 (tR S.T S.xs q).2.2 q).1.1.1, .string (tR (tR S.T S.xs q).2.1 (tR S.T S.xs q).2.2 q).1.1.2], .bool (tR (tR S.T S.xs q).2.1 (tR S.T S.xs q).2.2 q).1.2]) = _; rw [hres3], by rw [← HN2]; exact hf⟩
          clear hres hres3 HN1 HN2 hT8
          have g29 := Tryd.guard29
          have e29 : ∀ w, (Op.equalIn 10000 29 (.agg #[.int .i64 er, .string vl]) (.agg #[.int .i64 er, .string vl])).run Tryd.prog w = .ok true w := fun w => eq_lrp_of (d := 9998) (er, vl) (er, vl) (by simp) w
          cases z with
          | false =>
            clear hag
            go_wp2_with (first | ((with_reducible refine wpList_load_midG ?_ 37 (.tmp 35) ?_ b' (off + j * 40) ?_ (rqC q) _ ?_ Tryd.underlying37 ?_ ?_ ?_); rotate_left; (· rfl); (· rfl); (· exact HRg.out _ D.out.bel); (· rfl); (· exact HI.out); rotate_left; (· rfl)) | (go_at_call 7; refine (HDa.out _ _ _ _ _ _ _ D.out.swap).mono ?_))
            rintro E w8 ⟨r8, c8, rfl, h8⟩
            have D8 := Lib.hid (h8.box #[.int .i64 er, .string vl] 29)
            clear h8 D
            go_wp2_with (first | ((with_reducible refine wpList_load_midG ?_ 37 (.tmp 44) ?_ b' (off + j * 40) ?_ (rqC q) _ ?_ Tryd.underlying37 ?_ ?_ ?_); rotate_left; (· rfl); (· rfl); (· exact HRg.out _ D8.out.bel); (· rfl); (· exact HI.out); rotate_left; (· rfl)) | (go_at_call 7; refine (HDb.out _ _ _ _ _ _ _ D8.out.third).mono ?_))
            rintro E w9 ⟨r9, c9, rfl, h9⟩
            have D9 := Lib.hid (h9.box #[.int .i64 er, .string vl] 29)
            clear h9 D8
            go_wp2_with (first | ((with_reducible refine wpList_load_midG ?_ 37 (.tmp 53) ?_ b' (off + j * 40) ?_ (rqC q) _ ?_ Tryd.underlying37 ?_ ?_ ?_); rotate_left; (· rfl); (· rfl); (· exact HRg.out _ D9.out.bel); (· rfl); (· exact HI.out); rotate_left; (· rfl)) | (go_at_call 7; refine (HDc.out _ _ _ _ _ _ _ D9.out.swap).mono ?_))
            rintro E w10 ⟨r10, c10, rfl, h10⟩
            have D10 := Lib.hid (h10.box #[.int .i64 er3, .string vl3] 29)
            clear h10 D9 HDa HDb HDc
            go_wp2_with (first | ((with_reducible refine wpList_load_midG ?_ 29 (.tmp 6) ?_ w8.heap.size 0 ?_ [.int .i64 er, .string vl] _ ?_ Tryd.underlying29 ?_ ?_ ?_); rotate_left; (· rfl); (· rfl); (· exact range_all (C := [.int .i64 er, .string vl]) D10.out.pop.hd3); (· rfl); (· exact Tryd.is29); rotate_left; (· rfl)) | ((with_reducible refine wpList_load_midG ?_ 29 (.tmp 8) ?_ w9.heap.size 0 ?_ [.int .i64 er, .string vl] _ ?_ Tryd.underlying29 ?_ ?_ ?_); rotate_left; (· rfl); (· rfl); (· exact range_all (C := [.int .i64 er, .string vl]) D10.out.hd3); (· rfl); (· exact Tryd.is29); rotate_left; (· rfl)))
            have D' : Hid (Fr w (w10.alloc (.cells #[.int .i64 er3, .string vl3] 29)) [stT sb tb gb r10 c10 ((runQ (qs.take (j + 1))).num (2 * (j + 1))), stT sa ta ga r8 c8 (runQ (qs.take (j + 1)))]) := Lib.hid (by rw [HTk.out]; exact D10.out.pop.swap.pop.swap.pop)
            clear D10
            go_roundw
            case measure => simp [intOf] <;> omega
            case rel => exact ⟨j + 1, r8, c8, r10, c10, by omega, by go_num, D'⟩
          | true =>
            obtain ⟨rfl, rfl⟩ := Prod.mk.inj (hag rfl)
            clear hag
            go_wp2_with (first | ((with_reducible refine wpList_load_midG ?_ 37 (.tmp 35) ?_ b' (off + j * 40) ?_ (rqC q) _ ?_ Tryd.underlying37 ?_ ?_ ?_); rotate_left; (· rfl); (· rfl); (· exact HRg.out _ D.out.bel); (· rfl); (· exact HI.out); rotate_left; (· rfl)) | (go_at_call 7; refine (HDa.out _ _ _ _ _ _ _ D.out.swap).mono ?_))
            rintro E w8 ⟨r8, c8, rfl, h8⟩
            have D8 := Lib.hid (h8.box #[.int .i64 er, .string vl] 29)
            clear h8 D
            go_wp2_with (first | ((with_reducible refine wpList_load_midG ?_ 37 (.tmp 44) ?_ b' (off + j * 40) ?_ (rqC q) _ ?_ Tryd.underlying37 ?_ ?_ ?_); rotate_left; (· rfl); (· rfl); (· exact HRg.out _ D8.out.bel); (· rfl); (· exact HI.out); rotate_left; (· rfl)) | (go_at_call 7; refine (HDb.out _ _ _ _ _ _ _ D8.out.third).mono ?_))
            rintro E w9 ⟨r9, c9, rfl, h9⟩
            have D9 := Lib.hid (h9.box #[.int .i64 er, .string vl] 29)
            clear h9 D8
            go_wp2_with (first | ((with_reducible refine wpList_load_midG ?_ 37 (.tmp 53) ?_ b' (off + j * 40) ?_ (rqC q) _ ?_ Tryd.underlying37 ?_ ?_ ?_); rotate_left; (· rfl); (· rfl); (· exact HRg.out _ D9.out.bel); (· rfl); (· exact HI.out); rotate_left; (· rfl)) | (go_at_call 7; refine (HDc.out _ _ _ _ _ _ _ D9.out.swap).mono ?_))
            rintro E w10 ⟨r10, c10, rfl, h10⟩
            have D10 := Lib.hid (h10.box #[.int .i64 er, .string vl] 29)
            clear h10 D9 HDa HDb HDc
            go_wp2_with (first | ((with_reducible refine wpList_load_midG ?_ 29 (.tmp 6) ?_ w8.heap.size 0 ?_ [.int .i64 er, .string vl] _ ?_ Tryd.underlying29 ?_ ?_ ?_); rotate_left; (· rfl); (· rfl); (· exact range_all (C := [.int .i64 er, .string vl]) D10.out.pop.hd3); (· rfl); (· exact Tryd.is29); rotate_left; (· rfl)) | ((with_reducible refine wpList_load_midG ?_ 29 (.tmp 8) ?_ w9.heap.size 0 ?_ [.int .i64 er, .string vl] _ ?_ Tryd.underlying29 ?_ ?_ ?_); rotate_left; (· rfl); (· rfl); (· exact range_all (C := [.int .i64 er, .string vl]) D10.out.hd3); (· rfl); (· exact Tryd.is29); rotate_left; (· rfl)) | ((with_reducible refine wpList_load_midG ?_ 29 (.tmp 10) ?_ w10.heap.size 0 ?_ [.int .i64 er, .string vl] _ ?_ Tryd.underlying29 ?_ ?_ ?_); rotate_left; (· rfl); (· rfl); (· exact range_all (C := [.int .i64 er, .string vl]) D10.out.hd); (· rfl); (· exact Tryd.is29); rotate_left; (· rfl)))
            have D' : Hid (Fr w (w10.alloc (.cells #[.int .i64 er, .string vl] 29)) [stT sb tb gb r10 c10 ((runQ (qs.take (j + 1))).num (2 * (j + 1))), stT sa ta ga r8 c8 (runQ (qs.take (j + 1)))]) := Lib.hid (by rw [HTk.out]; exact D10.out.pop.swap.pop.swap.pop)
            clear D10
            go_roundw
            case measure => simp [intOf] <;> omega
            case rel => exact ⟨j + 1, r8, c8, r10, c10, by omega, by go_num, D'⟩
        · obtain rfl : j = n := by omega
          obtain ⟨l, hl⟩ : ∃ l, l = stB (runQ (qs.take j)) := ⟨_, rfl⟩
          obtain ⟨l2, hl2⟩ : ∃ l2, l2 = stB ((runQ (qs.take j)).num (2 * j)) := ⟨_, rfl⟩
          obtain ⟨L, hLL⟩ : ∃ L, L = l.length := ⟨_, rfl⟩
          have hLL2 : L = l2.length := by rw [hLL, hl, hl2, num_len]
          have HDr : Hid (l2.drop 8 = l.drop 8) := Lib.hid (by rw [hl, hl2, num_drop])
          have hL208 : 208 ≤ L := by rw [hLL, hl]; exact (HRch.out j).size.2
          have HSz : Hid (L < 60000000000000) := Lib.hid (by have := (HRch.out j).size.1; rw [← hl, ← hLL] at this; omega)
          have HBa : Hid (∀ W, Fr w W [stT sb tb gb rb cb ((runQ (qs.take j)).num (2 * j)), stT sa ta ga ra ca (runQ (qs.take j))] → Calls Tryd.prog 8 #[.pointer (some ⟨sa, 0, none⟩)] W fun E W' => ∃ ad c', E = .returned (.slice (some ad) L c') ∧ Bs W' (some ad) l c' ∧ Fr w W' [stT sb tb gb rb cb ((runQ (qs.take j)).num (2 * j)), stT sa ta ga ra ca (runQ (qs.take j))]) := Lib.hid fun W h => (bytes_fr h.swap (by rw [← hl, ← hLL]; exact HSz.out)).mono fun E W' ⟨A', c', he, hB, hf⟩ => by
            rw [← hl] at he hB
            obtain ⟨ad, rfl⟩ := hB.some (by omega)
            exact ⟨ad, c', by rw [hLL]; exact he, hB, hf.swap⟩
          have HBb : Hid (∀ W, Fr w W [stT sb tb gb rb cb ((runQ (qs.take j)).num (2 * j)), stT sa ta ga ra ca (runQ (qs.take j))] → Calls Tryd.prog 8 #[.pointer (some ⟨sb, 0, none⟩)] W fun E W' => ∃ ad c', E = .returned (.slice (some ad) L c') ∧ Bs W' (some ad) l2 c' ∧ Fr w W' [stT sb tb gb rb cb ((runQ (qs.take j)).num (2 * j)), stT sa ta ga ra ca (runQ (qs.take j))] ∧ Below W.heap.size W W') := Lib.hid fun W h => (bytes_any h.hd h.ksW (by rw [← hl2, ← hLL2]; exact HSz.out)).mono fun E W' ⟨A', c', he, ho, hb⟩ => by
            have hB := bs_of_own ho
            rw [← hl2] at he hB
            obtain ⟨ad, rfl⟩ := hB.some (by omega)
            exact ⟨ad, c', by rw [hLL2]; exact he, hB, h.below hb, hb⟩
          have HCn : Hid ((runQ (qs.take j)).n = j) := Lib.hid (by rw [HL.out, List.take_length]; have hq := HL.out; have := runQ_n qs (S := S0) (by show 0 + qs.length < _; omega); rw [runQ, this]; show 0 + qs.length = qs.length; omega)
          have HCa : Hid (∀ W, Fr w W [stT sb tb gb rb cb ((runQ (qs.take j)).num (2 * j)), stT sa ta ga ra ca (runQ (qs.take j))] → Calls Tryd.prog 9 #[.pointer (some ⟨sa, 0, none⟩)] W fun E W' => E = .returned (.int .u64 (j : Int)) ∧ Below W.heap.size W W') := Lib.hid fun W h => (count_any h.hd2).mono fun E W' hx => ⟨by rw [hx.1, HCn.out], hx.2 ▸ Below.refl _ _⟩
          have HCb : Hid (∀ W, Fr w W [stT sb tb gb rb cb ((runQ (qs.take j)).num (2 * j)), stT sa ta ga ra ca (runQ (qs.take j))] → Calls Tryd.prog 9 #[.pointer (some ⟨sb, 0, none⟩)] W fun E W' => E = .returned (.int .u64 (2 * (j : Int))) ∧ Below W.heap.size W W') := Lib.hid fun W h => (count_any h.hd).mono fun E W' hx => ⟨by rw [hx.1]; show Ending.returned (.int .u64 ((2 * j : Nat) : Int)) = _; rw [Int.natCast_mul]; rfl, hx.2 ▸ Below.refl _ _⟩
          obtain ⟨X, hX⟩ : ∃ X, X = Sh.str (l.drop 8) := ⟨_, rfl⟩
          have HXX := Lib.hid hX
          have HLL := Lib.hid hLL
          have HLL2 := Lib.hid hLL2
          clear hl hl2 hLL hLL2 HCn hX
          have hwn : IntKind.u64.wrap (j : Int) = (j : Int) := by rw [IntKind.wrap_u64]; omega
          have hwm : IntKind.u64.wrap (2 * (j : Int)) = 2 * (j : Int) := by rw [IntKind.wrap_u64]; omega
          go_wp2_with (go_at_call 8; refine (HBa.out _ D.out).mono ?_)
          rintro E w5 ⟨ad5, c5, rfl, hB5, h5⟩
          have HB5 := Lib.hid hB5
          have H5 := Lib.hid h5
          clear hB5 h5 D HBa
          go_wp2_with (go_at_call 8; refine (HBb.out _ H5.out).mono ?_)
          rintro E w6 ⟨ad6, c6, rfl, hB6, h6, b6⟩
          have HB6 := Lib.hid hB6
          have HB5 := Lib.hid (HB5.out.below b6)
          have H6 := Lib.hid h6
          clear hB6 h6 HBb b6
          have hc5 : 8 ≤ L ∧ L ≤ c5 ∧ c5 ≤ 9223372036854775807 := ⟨by omega, by have := HB5.out.sl.2.1; rw [← HLL.out] at this; exact this, HB5.out.sl.2.2⟩
          have hc6 : 8 ≤ L ∧ L ≤ c6 ∧ c6 ≤ 9223372036854775807 := ⟨by omega, by have := HB6.out.sl.2.1; rw [← HLL2.out] at this; exact this, HB6.out.sl.2.2⟩
          go_wp2_with fail
          refine wp_region_any (by kernel_rfl) ?_
          change wpAny _ _ _ _ _ _ _ (World.drewN _ 1)
          refine held_gen (G := fun W' => wpAny _ _ _ _ _ _ _ W') (fun W' => Fr w W' [stT sb tb gb rb cb ((runQ (qs.take j)).num (2 * j)), stT sa ta ga ra ca (runQ (qs.take j))] ∧ Below w6.heap.size w6 W') (by exact ⟨H6.out.drewN 1, below_drewN (Below.refl _ _) 1⟩) (fun x80 hw => ?_)
          have HX0 := Lib.hid hw.1
          have HNb := Lib.hid hw.2
          clear hw H6
          refine wpAny_of_held (S := fun W => Below x80.heap.size x80 W) _ _ _ _ ?_
          refine wpAnyH_take (i := 0) (oi := { dst := some 79, op := Op.move (Operand.tmp 3), type := _, pos := _, after := _, guard := none }) (v := .pointer (some ⟨sa, 0, none⟩)) rfl (by kernel_rfl) (by kernel_rfl) (by kernel_rfl) (fun _ _ _ h => h) (Or.inl ⟨by kernel_rfl, fun W hSW => by go_simp⟩) (Below.refl _ _) ?_
          try simp only [Act.put, List.setIfInBounds_toArray, List.set_cons_zero, List.set_cons_succ]
          refine wpAnyH_take (i := 2) (oi := { dst := some 81, op := Op.move (Operand.tmp 0), type := _, pos := _, after := _, guard := none }) (v := .slice A j c0) rfl (by kernel_rfl) (by kernel_rfl) (by kernel_rfl) (fun _ _ _ h => h) (Or.inl ⟨by kernel_rfl, fun W hSW => by go_simp⟩) (Below.refl _ _) ?_
          try simp only [Act.put, List.setIfInBounds_toArray, List.set_cons_zero, List.set_cons_succ]
          refine wpAnyH_take (i := 3) (oi := { dst := some 82, op := Op.call { callee := Callee.builtin Builtin.len, args := #[Operand.tmp 81], argTypes := #[22] }, type := _, pos := _, after := _, guard := none }) (v := .int .i64 (j : Int)) rfl (by kernel_rfl) (by kernel_rfl) (by kernel_rfl) (fun _ _ _ h => h) (Or.inl ⟨by kernel_rfl, fun W hSW => by go_simp⟩) (Below.refl _ _) ?_
          try simp only [Act.put, List.setIfInBounds_toArray, List.set_cons_zero, List.set_cons_succ]
          refine wpAnyH_take (i := 4) (oi := { dst := some 83, op := Op.convert 3 32 (Operand.tmp 82), type := _, pos := _, after := _, guard := none }) (v := .int .u64 (j : Int)) rfl (by kernel_rfl) (by kernel_rfl) (by kernel_rfl) (fun _ _ _ h => h) (Or.inl ⟨by kernel_rfl, fun W hSW => by have hwn2 := hwn; go_simp⟩) (Below.refl _ _) ?_
          try simp only [Act.put, List.setIfInBounds_toArray, List.set_cons_zero, List.set_cons_succ]
          refine wpAnyH_ready (rs := [1]) (by kernel_rfl) (by simp) ?_
          refine AllReadyH.cons (o := { dst := some 80, op := Op.call { callee := Callee.value (Operand.func 9), args := #[Operand.tmp 79], argTypes := #[25] }, type := _, pos := _, after := _, guard := none }) rfl (fun K' hK' => ?_) AllReadyH.nil
          go_simp
          go_at_call 9
          refine (HCa.out _ HX0.out).mono ?_
          rintro E x81 ⟨rfl, b81⟩
          have H81 := Lib.hid (HX0.out.below b81)
          have NB := Lib.hid b81
          have HNb := Lib.hid (HNb.out.trans (b81.mono HNb.out.size))
          clear b81 HX0
          refine hK'.out _ _ (NB.out) (fun _ => Sh.wpAnyH_next NB.out ?_)
          clear hK' K' NB
          try simp only [Act.put, List.setIfInBounds_toArray, List.set_cons_zero, List.set_cons_succ]
          refine wpAnyH_take (i := 5) (oi := { dst := some 84, op := Op.binOp BinOp.eql 32 (Operand.tmp 80) (Operand.tmp 83) 32, type := _, pos := _, after := _, guard := none }) (v := .bool true) rfl (by kernel_rfl) (by kernel_rfl) (by kernel_rfl) (fun _ _ _ h => h) (Or.inl ⟨by kernel_rfl, fun W hSW => by go_simp⟩) (Below.refl _ _) ?_
          try simp only [Act.put, List.setIfInBounds_toArray, List.set_cons_zero, List.set_cons_succ]
          refine wpAnyH_take (i := 6) (oi := { dst := some 85, op := Op.move (Operand.tmp 84), type := _, pos := _, after := _, guard := none }) (v := .bool true) rfl (by kernel_rfl) (by kernel_rfl) (by kernel_rfl) (fun _ _ _ h => h) (Or.inl ⟨by kernel_rfl, fun W hSW => by go_simp⟩) (Below.refl _ _) ?_
          try simp only [Act.put, List.setIfInBounds_toArray, List.set_cons_zero, List.set_cons_succ]
          refine wpAnyH_take (i := 7) (oi := { dst := some 86, op := Op.move (Operand.tmp 4), type := _, pos := _, after := _, guard := some (6, true) }) (v := .pointer (some ⟨sb, 0, none⟩)) rfl (by kernel_rfl) (by kernel_rfl) (by kernel_rfl) (fun _ _ _ h => h) (Or.inl ⟨by kernel_rfl, fun W hSW => by go_simp⟩) (Below.refl _ _) ?_
          try simp only [Act.put, List.setIfInBounds_toArray, List.set_cons_zero, List.set_cons_succ]
          refine wpAnyH_take (i := 9) (oi := { dst := some 88, op := Op.move (Operand.tmp 0), type := _, pos := _, after := _, guard := some (6, true) }) (v := .slice A j c0) rfl (by kernel_rfl) (by kernel_rfl) (by kernel_rfl) (fun _ _ _ h => h) (Or.inl ⟨by kernel_rfl, fun W hSW => by go_simp⟩) (Below.refl _ _) ?_
          try simp only [Act.put, List.setIfInBounds_toArray, List.set_cons_zero, List.set_cons_succ]
          refine wpAnyH_take (i := 10) (oi := { dst := some 89, op := Op.call { callee := Callee.builtin Builtin.len, args := #[Operand.tmp 88], argTypes := #[22] }, type := _, pos := _, after := _, guard := some (6, true) }) (v := .int .i64 (j : Int)) rfl (by kernel_rfl) (by kernel_rfl) (by kernel_rfl) (fun _ _ _ h => h) (Or.inl ⟨by kernel_rfl, fun W hSW => by go_simp⟩) (Below.refl _ _) ?_
          try simp only [Act.put, List.setIfInBounds_toArray, List.set_cons_zero, List.set_cons_succ]
          refine wpAnyH_take (i := 11) (oi := { dst := some 90, op := Op.convert 3 32 (Operand.tmp 89), type := _, pos := _, after := _, guard := some (6, true) }) (v := .int .u64 (j : Int)) rfl (by kernel_rfl) (by kernel_rfl) (by kernel_rfl) (fun _ _ _ h => h) (Or.inl ⟨by kernel_rfl, fun W hSW => by have hwn2 := hwn; go_simp⟩) (Below.refl _ _) ?_
          try simp only [Act.put, List.setIfInBounds_toArray, List.set_cons_zero, List.set_cons_succ]
          refine wpAnyH_take (i := 12) (oi := { dst := some 91, op := Op.binOp BinOp.mul 32 (Operand.const (Value.int IntKind.u64 2)) (Operand.tmp 90) 32, type := _, pos := _, after := _, guard := some (6, true) }) (v := .int .u64 (2 * (j : Int))) rfl (by kernel_rfl) (by kernel_rfl) (by kernel_rfl) (fun _ _ _ h => h) (Or.inl ⟨by kernel_rfl, fun W hSW => by have hwm2 := hwm; go_simp⟩) (Below.refl _ _) ?_
          try simp only [Act.put, List.setIfInBounds_toArray, List.set_cons_zero, List.set_cons_succ]
          refine wpAnyH_ready (rs := [8]) (by kernel_rfl) (by simp) ?_
          refine AllReadyH.cons (o := { dst := some 87, op := Op.call { callee := Callee.value (Operand.func 9), args := #[Operand.tmp 86], argTypes := #[25] }, type := _, pos := _, after := _, guard := some (6, true) }) rfl (fun K' hK' => ?_) AllReadyH.nil
          go_simp
          go_at_call 9
          refine (HCb.out _ H81.out).mono ?_
          rintro E x82 ⟨rfl, b82⟩
          have H82 := Lib.hid (H81.out.below b82)
          have NB := Lib.hid b82
          have HNb := Lib.hid (HNb.out.trans (b82.mono HNb.out.size))
          clear b82 H81
          refine hK'.out _ _ (NB.out) (fun _ => Sh.wpAnyH_next NB.out ?_)
          clear hK' K' NB
          try simp only [Act.put, List.setIfInBounds_toArray, List.set_cons_zero, List.set_cons_succ]
          refine wpAnyH_take (i := 13) (oi := { dst := some 92, op := Op.binOp BinOp.eql 32 (Operand.tmp 87) (Operand.tmp 91) 32, type := _, pos := _, after := _, guard := some (6, true) }) (v := .bool true) rfl (by kernel_rfl) (by kernel_rfl) (by kernel_rfl) (fun _ _ _ h => h) (Or.inl ⟨by kernel_rfl, fun W hSW => by go_simp⟩) (Below.refl _ _) ?_
          try simp only [Act.put, List.setIfInBounds_toArray, List.set_cons_zero, List.set_cons_succ]
          refine wpAnyH_take (i := 14) (oi := { dst := some 93, op := Op.pick (Operand.tmp 85) (Operand.tmp 92) (Operand.const (Value.bool false)), type := _, pos := _, after := _, guard := none }) (v := .bool true) rfl (by kernel_rfl) (by kernel_rfl) (by kernel_rfl) (fun _ _ _ h => h) (Or.inl ⟨by kernel_rfl, fun W hSW => by go_simp⟩) (Below.refl _ _) ?_
          try simp only [Act.put, List.setIfInBounds_toArray, List.set_cons_zero, List.set_cons_succ]
          refine wpAnyH_take (i := 15) (oi := { dst := some 94, op := Op.move (Operand.tmp 93), type := _, pos := _, after := _, guard := none }) (v := .bool true) rfl (by kernel_rfl) (by kernel_rfl) (by kernel_rfl) (fun _ _ _ h => h) (Or.inl ⟨by kernel_rfl, fun W hSW => by go_simp⟩) (Below.refl _ _) ?_
          try simp only [Act.put, List.setIfInBounds_toArray, List.set_cons_zero, List.set_cons_succ]
          refine wpAnyH_take (i := 16) (oi := { dst := some 95, op := Op.move (Operand.tmp 12), type := _, pos := _, after := _, guard := some (15, true) }) (v := .slice (some ad5) L c5) rfl (by kernel_rfl) (by kernel_rfl) (by kernel_rfl) (fun _ _ _ h => h) (Or.inl ⟨by kernel_rfl, fun W hSW => by go_simp⟩) (Below.refl _ _) ?_
          try simp only [Act.put, List.setIfInBounds_toArray, List.set_cons_zero, List.set_cons_succ]
          refine wpAnyH_take (i := 17) (oi := { dst := some 96, op := Op.call { callee := Callee.builtin Builtin.len, args := #[Operand.tmp 95], argTypes := #[38] }, type := _, pos := _, after := _, guard := some (15, true) }) (v := .int .i64 (L : Int)) rfl (by kernel_rfl) (by kernel_rfl) (by kernel_rfl) (fun _ _ _ h => h) (Or.inl ⟨by kernel_rfl, fun W hSW => by go_simp⟩) (Below.refl _ _) ?_
          try simp only [Act.put, List.setIfInBounds_toArray, List.set_cons_zero, List.set_cons_succ]
          refine wpAnyH_take (i := 18) (oi := { dst := some 97, op := Op.binOp BinOp.geq 3 (Operand.tmp 96) (Operand.const (Value.int IntKind.i64 8)) 3, type := _, pos := _, after := _, guard := some (15, true) }) (v := .bool true) rfl (by kernel_rfl) (by kernel_rfl) (by kernel_rfl) (fun _ _ _ h => h) (Or.inl ⟨by kernel_rfl, fun W hSW => by have hge : ((L : Int) ≥ 8) := (by omega); have hge2 : (8 : Int) ≤ (L : Int) := (by omega); go_simp⟩) (Below.refl _ _) ?_
          try simp only [Act.put, List.setIfInBounds_toArray, List.set_cons_zero, List.set_cons_succ]
          refine wpAnyH_take (i := 19) (oi := { dst := some 98, op := Op.pick (Operand.tmp 94) (Operand.tmp 97) (Operand.const (Value.bool false)), type := _, pos := _, after := _, guard := none }) (v := .bool true) rfl (by kernel_rfl) (by kernel_rfl) (by kernel_rfl) (fun _ _ _ h => h) (Or.inl ⟨by kernel_rfl, fun W hSW => by go_simp⟩) (Below.refl _ _) ?_
          try simp only [Act.put, List.setIfInBounds_toArray, List.set_cons_zero, List.set_cons_succ]
          refine wpAnyH_take (i := 20) (oi := { dst := some 99, op := Op.move (Operand.tmp 98), type := _, pos := _, after := _, guard := none }) (v := .bool true) rfl (by kernel_rfl) (by kernel_rfl) (by kernel_rfl) (fun _ _ _ h => h) (Or.inl ⟨by kernel_rfl, fun W hSW => by go_simp⟩) (Below.refl _ _) ?_
          try simp only [Act.put, List.setIfInBounds_toArray, List.set_cons_zero, List.set_cons_succ]
          refine wpAnyH_take (i := 21) (oi := { dst := some 100, op := Op.move (Operand.tmp 12), type := _, pos := _, after := _, guard := some (20, true) }) (v := .slice (some ad5) L c5) rfl (by kernel_rfl) (by kernel_rfl) (by kernel_rfl) (fun _ _ _ h => h) (Or.inl ⟨by kernel_rfl, fun W hSW => by go_simp⟩) (Below.refl _ _) ?_
          try simp only [Act.put, List.setIfInBounds_toArray, List.set_cons_zero, List.set_cons_succ]
          refine wpAnyH_take (i := 22) (oi := { dst := some 101, op := Op.call { callee := Callee.builtin Builtin.len, args := #[Operand.tmp 100], argTypes := #[38] }, type := _, pos := _, after := _, guard := some (20, true) }) (v := .int .i64 (L : Int)) rfl (by kernel_rfl) (by kernel_rfl) (by kernel_rfl) (fun _ _ _ h => h) (Or.inl ⟨by kernel_rfl, fun W hSW => by go_simp⟩) (Below.refl _ _) ?_
          try simp only [Act.put, List.setIfInBounds_toArray, List.set_cons_zero, List.set_cons_succ]
          refine wpAnyH_take (i := 23) (oi := { dst := some 102, op := Op.move (Operand.tmp 13), type := _, pos := _, after := _, guard := some (20, true) }) (v := .slice (some ad6) L c6) rfl (by kernel_rfl) (by kernel_rfl) (by kernel_rfl) (fun _ _ _ h => h) (Or.inl ⟨by kernel_rfl, fun W hSW => by go_simp⟩) (Below.refl _ _) ?_
          try simp only [Act.put, List.setIfInBounds_toArray, List.set_cons_zero, List.set_cons_succ]
          refine wpAnyH_take (i := 24) (oi := { dst := some 103, op := Op.call { callee := Callee.builtin Builtin.len, args := #[Operand.tmp 102], argTypes := #[38] }, type := _, pos := _, after := _, guard := some (20, true) }) (v := .int .i64 (L : Int)) rfl (by kernel_rfl) (by kernel_rfl) (by kernel_rfl) (fun _ _ _ h => h) (Or.inl ⟨by kernel_rfl, fun W hSW => by go_simp⟩) (Below.refl _ _) ?_
          try simp only [Act.put, List.setIfInBounds_toArray, List.set_cons_zero, List.set_cons_succ]
          refine wpAnyH_take (i := 25) (oi := { dst := some 104, op := Op.binOp BinOp.eql 3 (Operand.tmp 101) (Operand.tmp 103) 3, type := _, pos := _, after := _, guard := some (20, true) }) (v := .bool true) rfl (by kernel_rfl) (by kernel_rfl) (by kernel_rfl) (fun _ _ _ h => h) (Or.inl ⟨by kernel_rfl, fun W hSW => by go_simp⟩) (Below.refl _ _) ?_
          try simp only [Act.put, List.setIfInBounds_toArray, List.set_cons_zero, List.set_cons_succ]
          refine wpAnyH_take (i := 26) (oi := { dst := some 105, op := Op.pick (Operand.tmp 99) (Operand.tmp 104) (Operand.const (Value.bool false)), type := _, pos := _, after := _, guard := none }) (v := .bool true) rfl (by kernel_rfl) (by kernel_rfl) (by kernel_rfl) (fun _ _ _ h => h) (Or.inl ⟨by kernel_rfl, fun W hSW => by go_simp⟩) (Below.refl _ _) ?_
          try simp only [Act.put, List.setIfInBounds_toArray, List.set_cons_zero, List.set_cons_succ]
          refine wpAnyH_take (i := 27) (oi := { dst := some 106, op := Op.move (Operand.tmp 105), type := _, pos := _, after := _, guard := none }) (v := .bool true) rfl (by kernel_rfl) (by kernel_rfl) (by kernel_rfl) (fun _ _ _ h => h) (Or.inl ⟨by kernel_rfl, fun W hSW => by go_simp⟩) (Below.refl _ _) ?_
          try simp only [Act.put, List.setIfInBounds_toArray, List.set_cons_zero, List.set_cons_succ]
          refine wpAnyH_take (i := 28) (oi := { dst := some 107, op := Op.move (Operand.tmp 12), type := _, pos := _, after := _, guard := some (27, true) }) (v := .slice (some ad5) L c5) rfl (by kernel_rfl) (by kernel_rfl) (by kernel_rfl) (fun _ _ _ h => h) (Or.inl ⟨by kernel_rfl, fun W hSW => by go_simp⟩) (Below.refl _ _) ?_
          try simp only [Act.put, List.setIfInBounds_toArray, List.set_cons_zero, List.set_cons_succ]
          refine wpAnyH_take (i := 29) (oi := { dst := some 108, op := Op.slice 38 (Operand.tmp 107) (some (Operand.const (Value.int IntKind.i64 8))) none none, type := _, pos := _, after := _, guard := some (27, true) }) (v := .slice (some (ad5.add 8)) (L - 8) (c5 - 8)) rfl (by kernel_rfl) (by kernel_rfl) (by kernel_rfl) (fun _ _ _ h => h) (Or.inl ⟨by kernel_rfl, fun W hSW => by have hg1 : (8 : Int) ≤ (L : Int) := (by omega); have hg2 : ¬ (c5 = 8) := (by omega); go_simp⟩) (Below.refl _ _) ?_
          try simp only [Act.put, List.setIfInBounds_toArray, List.set_cons_zero, List.set_cons_succ]
          refine wpAnyH_take (i := 30) (oi := { dst := some 109, op := Op.convert 38 9 (Operand.tmp 108), type := _, pos := _, after := _, guard := some (27, true) }) (v := .string X) rfl (by kernel_rfl) (by kernel_rfl) (by kernel_rfl) (fun _ _ _ h => h) (Or.inl ⟨by kernel_rfl, fun W hSW => by have hcv := run_bs (HB5.out.drop (n := 8) (by rw [← HLL.out]; omega)) (HNb.out.trans (hSW.mono HNb.out.size)) (n := L - 8) (by rw [List.length_drop, ← HLL.out]); rw [← HXX.out] at hcv; rw [show ad5.add 8 = ⟨ad5.block, ad5.off + 8, none⟩ from rfl] at hcv; go_simp⟩) (Below.refl _ _) ?_
          try simp only [Act.put, List.setIfInBounds_toArray, List.set_cons_zero, List.set_cons_succ]
          refine wpAnyH_take (i := 31) (oi := { dst := some 110, op := Op.move (Operand.tmp 13), type := _, pos := _, after := _, guard := some (27, true) }) (v := .slice (some ad6) L c6) rfl (by kernel_rfl) (by kernel_rfl) (by kernel_rfl) (fun _ _ _ h => h) (Or.inl ⟨by kernel_rfl, fun W hSW => by go_simp⟩) (Below.refl _ _) ?_
          try simp only [Act.put, List.setIfInBounds_toArray, List.set_cons_zero, List.set_cons_succ]
          refine wpAnyH_take (i := 32) (oi := { dst := some 111, op := Op.slice 38 (Operand.tmp 110) (some (Operand.const (Value.int IntKind.i64 8))) none none, type := _, pos := _, after := _, guard := some (27, true) }) (v := .slice (some (ad6.add 8)) (L - 8) (c6 - 8)) rfl (by kernel_rfl) (by kernel_rfl) (by kernel_rfl) (fun _ _ _ h => h) (Or.inl ⟨by kernel_rfl, fun W hSW => by have hg1 : (8 : Int) ≤ (L : Int) := (by omega); have hg2 : ¬ (c6 = 8) := (by omega); go_simp⟩) (Below.refl _ _) ?_
          try simp only [Act.put, List.setIfInBounds_toArray, List.set_cons_zero, List.set_cons_succ]
          refine wpAnyH_take (i := 33) (oi := { dst := some 112, op := Op.convert 38 9 (Operand.tmp 111), type := _, pos := _, after := _, guard := some (27, true) }) (v := .string X) rfl (by kernel_rfl) (by kernel_rfl) (by kernel_rfl) (fun _ _ _ h => h) (Or.inl ⟨by kernel_rfl, fun W hSW => by have hcv := run_bs (HB6.out.drop (n := 8) (by rw [← HLL2.out]; omega)) (HNb.out.trans (hSW.mono HNb.out.size)) (n := L - 8) (by rw [List.length_drop, ← HLL2.out]); rw [HDr.out, ← HXX.out] at hcv; rw [show ad6.add 8 = ⟨ad6.block, ad6.off + 8, none⟩ from rfl] at hcv; go_simp⟩) (Below.refl _ _) ?_
          try simp only [Act.put, List.setIfInBounds_toArray, List.set_cons_zero, List.set_cons_succ]
          refine wpAnyH_take (i := 34) (oi := { dst := some 113, op := Op.binOp BinOp.eql 9 (Operand.tmp 109) (Operand.tmp 112) 9, type := _, pos := _, after := _, guard := some (27, true) }) (v := .bool true) rfl (by kernel_rfl) (by kernel_rfl) (by kernel_rfl) (fun _ _ _ h => h) (Or.inl ⟨by kernel_rfl, fun W hSW => by go_simp⟩) (Below.refl _ _) ?_
          try simp only [Act.put, List.setIfInBounds_toArray, List.set_cons_zero, List.set_cons_succ]
          refine wpAnyH_take (i := 35) (oi := { dst := some 114, op := Op.pick (Operand.tmp 106) (Operand.tmp 113) (Operand.const (Value.bool false)), type := _, pos := _, after := _, guard := none }) (v := .bool true) rfl (by kernel_rfl) (by kernel_rfl) (by kernel_rfl) (fun _ _ _ h => h) (Or.inl ⟨by kernel_rfl, fun W hSW => by go_simp⟩) (Below.refl _ _) ?_
          try simp only [Act.put, List.setIfInBounds_toArray, List.set_cons_zero, List.set_cons_succ]
          refine wpAnyH_take (i := 36) (oi := { dst := some 115, op := Op.move (Operand.tmp 114), type := _, pos := _, after := _, guard := none }) (v := .bool true) rfl (by kernel_rfl) (by kernel_rfl) (by kernel_rfl) (fun _ _ _ h => h) (Or.inl ⟨by kernel_rfl, fun W hSW => by go_simp⟩) (Below.refl _ _) ?_
          try simp only [Act.put, List.setIfInBounds_toArray, List.set_cons_zero, List.set_cons_succ]
          refine wpAnyH_ready (rs := [37]) (by kernel_rfl) (by simp) ?_
          refine AllReadyH.cons (o := { dst := some 116, op := Op.call { callee := Callee.value (Operand.func 5), args := #[], argTypes := #[] }, type := _, pos := _, after := _, guard := some (36, true) }) rfl (fun K' hK' => ?_) AllReadyH.nil
          go_simp
          go_at_call 5
          refine (HW.out _ _ H82.out).mono ?_
          rintro E x84 ⟨rfl, b84⟩
          have H84 := Lib.hid (H82.out.below b84)
          have NB := Lib.hid b84
          clear b84 H82
          refine hK'.out _ _ (NB.out) (fun _ => Sh.wpAnyH_next NB.out ?_)
          clear hK' K' NB
          try simp only [Act.put, List.setIfInBounds_toArray, List.set_cons_zero, List.set_cons_succ]
          refine wpAnyH_take (i := 38) (oi := { dst := some 117, op := Op.pick (Operand.tmp 115) (Operand.tmp 116) (Operand.const (Value.bool false)), type := _, pos := _, after := _, guard := none }) (v := .bool true) rfl (by kernel_rfl) (by kernel_rfl) (by kernel_rfl) (fun _ _ _ h => h) (Or.inl ⟨by kernel_rfl, fun W hSW => by go_simp⟩) (Below.refl _ _) ?_
          try simp only [Act.put, List.setIfInBounds_toArray, List.set_cons_zero, List.set_cons_succ]
          refine wpAnyH_take (i := 39) (oi := { dst := some 2, op := Op.assign (Operand.tmp 117), type := _, pos := _, after := _, guard := none }) (v := .bool true) rfl (by kernel_rfl) (by kernel_rfl) (by kernel_rfl) (fun _ _ _ h => h) (Or.inl ⟨by kernel_rfl, fun W hSW => by go_simp⟩) (Below.refl _ _) ?_
          try simp only [Act.put, List.setIfInBounds_toArray, List.set_cons_zero, List.set_cons_succ]
          refine wpAnyH_done (by kernel_rfl) ?_ _
          go_wp2_with fail
          go_ret
          exact ⟨rfl, H84.out.bel⟩
    · have hl1 : ((n : Int) > 60) := by omega
      have hl2 : (60 < (n : Int)) := by omega
      go_wp2_with (go_at_call 5; refine (HW.out _ _ H1.out).mono ?_; rintro E w2 ⟨rfl, b2⟩)
      go_ret
      exact ⟨rfl, (H1.out.below b2).bel⟩
end Go.Proofs.YtpageppjngbnpaaDoor
