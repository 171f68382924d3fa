/-
  What is proved: whether two bodies are the same, by the program's same and by the document's own answers. Conditions as stated.
-/
import Derived.Test.YtghjogneogkpoaaGreatDoorMc
namespace Go.Proofs.YtghjogneogkpoaaGreatDoor.Sh
open Go.RowKit
set_option maxRecDepth 100000

set_option maxHeartbeats 1000000 in
theorem pairs_rf (A A' : Option Addr) (c c' : Nat) (qs ps : List (Int × Nat)) (w : World) (hq : Prs w A qs) (hp : Prs w A' ps) (hn : qs.length ≤ 140737488355328) (hm : ps.length ≤ 140737488355328) :
    Calls Tryz.prog 83 #[.slice A qs.length c, .slice A' ps.length c'] w fun E w' => E = .returned (.bool (decide (qs = ps))) ∧ Below w.heap.size w w' := by
  have HQ := Lib.hid hq
  have HP := Lib.hid hp
  obtain ⟨n, hnn⟩ : ∃ n, n = qs.length := ⟨_, rfl⟩
  obtain ⟨m, hmm⟩ : ∃ n, n = ps.length := ⟨_, rfl⟩
  have HL := Lib.hid hnn
  have HM := Lib.hid hmm
  rw [← hnn] at hn ⊢
  rw [← hmm] at hm ⊢
  clear hq hp hnn hmm
  have HB0 := Lib.hid (Below.refl w.heap.size w)
  by_cases hnm : n = m
  · subst hnm
    have hno : ¬ ((n : Int) ≠ (n : Int)) := by omega
    go_enter Tryz.func83, Tryz.ntmps83
    go_wp2_with fail
    go_loopw [5] (fun v5 wr => ∃ j : Nat, j ≤ n ∧ v5 = .int .i64 (j : Int) ∧ Hid (Below w.heap.size w wr ∧ qs.take j = ps.take j)) (fun v5 _ => n - (intOf v5).toNat)
    case atStart => exact ⟨0, by omega, rfl, Lib.hid ⟨HB0.out, rfl⟩⟩
    case round =>
      obtain ⟨j, hj, rfl, HR⟩ := hrel
      by_cases hjj : j < n
      · obtain ⟨b, o, rfl, hbl, hc⟩ := HQ.out (by rw [← HL.out]; omega)
        obtain ⟨b', o', rfl, hbl', hc'⟩ := HP.out (by rw [← HM.out]; omega)
        obtain ⟨p, hp⟩ : ∃ p, qs[j]? = some p := ⟨_, List.getElem?_eq_getElem (by rw [← HL.out]; omega)⟩
        obtain ⟨q, hq⟩ : ∃ p, ps[j]? = some p := ⟨_, List.getElem?_eq_getElem (by rw [← HM.out]; omega)⟩
        obtain ⟨c0, c1⟩ := prs_cells (hc j p hp) HR.out.1 hbl
        obtain ⟨d0, d1⟩ := prs_cells (hc' j q hq) HR.out.1 hbl'
        have HE : Hid (p = q → qs.take (j + 1) = ps.take (j + 1)) := Lib.hid (fun e => by
          rw [List.take_add_one, List.take_add_one, HR.out.2, hp, hq, e])
        have HN : Hid (p ≠ q → qs ≠ ps) := Lib.hid (fun e h => e (by rw [h, hq] at hp; injection hp with h; exact h.symm))
        obtain ⟨x, y⟩ := p
        obtain ⟨x', y'⟩ := q
        clear hc hp hc' hq
        dsimp only at c0 c1 d0 d1
        by_cases he : (x, y) = (x', y')
        · have heq : ∀ w, (Op.equalIn 10000 54 (.agg #[.int .i64 x, .int .u64 (y : Int)]) (.agg #[.int .i64 x', .int .u64 (y' : Int)])).run Tryz.prog w = .ok true w := fun w => eq_pair_of (d := 9998) x x' y y' (by simp only [true_iff]; exact he) w
          have hg := Tryz.guard54
          go_wp2_with fail
          go_quiet (fail)
          go_wp2_with fail
          go_roundw
          case measure => simp [intOf] <;> omega
          case rel => exact ⟨j + 1, by omega, by go_num, Lib.hid ⟨below_drewN HR.out.1 _, HE.out he⟩⟩
        · have heq : ∀ w, (Op.equalIn 10000 54 (.agg #[.int .i64 x, .int .u64 (y : Int)]) (.agg #[.int .i64 x', .int .u64 (y' : Int)])).run Tryz.prog w = .ok false w := fun w => eq_pair_of (d := 9998) x x' y y' (by simp only [Bool.false_eq_true, false_iff]; exact he) w
          have hg := Tryz.guard54
          go_wp2_with fail
          go_quiet (fail)
          go_wp2_with fail
          go_ret
          exact ⟨ret_bool (by rw [decide_eq_false (HN.out he)]), below_drewN HR.out.1 _⟩
      · have HE : Hid (qs = ps) := Lib.hid (by
          have := HR.out.2
          rwa [List.take_of_length_le (by rw [← HL.out]; omega), List.take_of_length_le (by rw [← HM.out]; omega)] at this)
        go_wp2_with fail
        go_ret
        exact ⟨ret_bool (by rw [decide_eq_true HE.out]), HR.out.1⟩
  · have HN : Hid (qs ≠ ps) := Lib.hid (fun h => hnm (by rw [HL.out, HM.out, h]))
    have hno : ((n : Int) ≠ (m : Int)) := by omega
    go_enter Tryz.func83, Tryz.ntmps83
    go_wp2_with fail
    go_ret
    exact ⟨ret_bool (by rw [decide_eq_false HN.out]), HB0.out⟩

/-- The same but for the kind. -/
def MBody.same (a b : MBody) : Prop := a.view = b.view ∧ a.k = b.k ∧ a.req = b.req ∧ a.qs = b.qs ∧ a.dig = b.dig
/-- Two bodies, boxed one behind the other. -/
theorem two_boxed (w : World) (C D : List Value) (t u : TypeId) : ((w.alloc (.cells C.toArray t)).alloc (.cells D.toArray u)).rangeAt w.heap.size 0 C ∧ ((w.alloc (.cells C.toArray t)).alloc (.cells D.toArray u)).rangeAt (w.heap.size + 1) 0 D := by
  refine ⟨World.rangeAt_alloc (range_box w C t) _, ?_⟩
  have := range_box (w.alloc (.cells C.toArray t)) D u
  simpa using this
theorem Tryz.guard29 : Tryz.prog.eqGuardType Tryz.prog.depth 29 = false := by kernel_rfl
set_option maxHeartbeats 2000000 in
theorem same_ms (a b : MBody) (w : World) (ha : a.Wf) (hb : b.Wf) (hqa : Prs w a.qa a.qs) (hqb : Prs w b.qa b.qs) (hna : a.qs.length ≤ 140737488355328) (hnb : b.qs.length ≤ 140737488355328) :
    Calls Tryz.prog 63 #[.agg (bodyC a).toArray, .agg (bodyC b).toArray] w fun E w' => (∃ z, E = .returned (.bool z) ∧ (z = true ↔ a.same b)) ∧ Below w.heap.size w w' := by
  have R := two_boxed w (bodyC a) (bodyC b) 32 32
  have HB : Hid (Below w.heap.size w ((w.alloc (.cells (bodyC a).toArray 32)).alloc (.cells (bodyC b).toArray 32))) := Lib.hid (((Below.refl _ _).alloc (Nat.le_refl _) _).alloc (by simp) _)
  have LA := body_lies R.1 ha
  have LB := body_lies R.2 hb
  have a1 : ((w.alloc (.cells (bodyC a).toArray 32)).alloc (.cells (bodyC b).toArray 32)).cell? ⟨w.heap.size, 1, none⟩ = some (.int .u64 (a.view : Int)) := LA.view
  have a2 : ((w.alloc (.cells (bodyC a).toArray 32)).alloc (.cells (bodyC b).toArray 32)).cell? ⟨w.heap.size, 2, none⟩ = some (.int .u64 (a.k : Int)) := LA.k
  have a43 : ((w.alloc (.cells (bodyC a).toArray 32)).alloc (.cells (bodyC b).toArray 32)).cell? ⟨w.heap.size, 43, none⟩ = some (.slice a.qa a.qs.length a.qc) := LA.q
  have b1 : ((w.alloc (.cells (bodyC a).toArray 32)).alloc (.cells (bodyC b).toArray 32)).cell? ⟨w.heap.size + 1, 1, none⟩ = some (.int .u64 (b.view : Int)) := LB.view
  have b2 : ((w.alloc (.cells (bodyC a).toArray 32)).alloc (.cells (bodyC b).toArray 32)).cell? ⟨w.heap.size + 1, 2, none⟩ = some (.int .u64 (b.k : Int)) := LB.k
  have b43 : ((w.alloc (.cells (bodyC a).toArray 32)).alloc (.cells (bodyC b).toArray 32)).cell? ⟨w.heap.size + 1, 43, none⟩ = some (.slice b.qa b.qs.length b.qc) := LB.q
  have RA : Hid (((w.alloc (.cells (bodyC a).toArray 32)).alloc (.cells (bodyC b).toArray 32)).rangeAt w.heap.size 3 (reqC a.req)) := Lib.hid LA.req.all
  have RB : Hid (((w.alloc (.cells (bodyC a).toArray 32)).alloc (.cells (bodyC b).toArray 32)).rangeAt (w.heap.size + 1) 3 (reqC b.req)) := Lib.hid LB.req.all
  have DA : Hid (∀ W, Below ((w.alloc (.cells (bodyC a).toArray 32)).alloc (.cells (bodyC b).toArray 32)).heap.size ((w.alloc (.cells (bodyC a).toArray 32)).alloc (.cells (bodyC b).toArray 32)) W → W.rangeAt w.heap.size 44 (u8s a.dig)) := Lib.hid fun W h => rangeAt_below LA.dig h (by simp; omega)
  have DB : Hid (∀ W, Below ((w.alloc (.cells (bodyC a).toArray 32)).alloc (.cells (bodyC b).toArray 32)).heap.size ((w.alloc (.cells (bodyC a).toArray 32)).alloc (.cells (bodyC b).toArray 32)) W → W.rangeAt (w.heap.size + 1) 44 (u8s b.dig)) := Lib.hid fun W h => rangeAt_below LB.dig h (by simp)
  have IA : Hid ((Tryz.prog.info? 29).map (·.size) = some (reqC a.req).length) := Lib.hid (by rw [reqC_length ha.1]; exact Tryz.is29)
  have IB : Hid ((Tryz.prog.info? 29).map (·.size) = some (reqC b.req).length) := Lib.hid (by rw [reqC_length hb.1]; exact Tryz.is29)
  have JA : Hid ((Tryz.prog.info? 27).map (·.size) = some (u8s a.dig).length) := Lib.hid (by rw [u8s_length, ha.2]; exact Tryz.size27)
  have JB : Hid ((Tryz.prog.info? 27).map (·.size) = some (u8s b.dig).length) := Lib.hid (by rw [u8s_length, hb.2]; exact Tryz.size27)
  have HE : Hid (∀ W, Below w.heap.size w W → Calls Tryz.prog 91 #[.slice a.qa a.qs.length a.qc, .slice b.qa b.qs.length b.qc] W fun E w' => E = .returned (.bool (decide (a.qs = b.qs))) ∧ Below W.heap.size W w') := Lib.hid fun W h => equal_ms _ _ _ _ _ _ W (hqa.below h) (hqb.below h) hna hnb
  have g29 := Tryz.guard29
  have g27 := Tryz.guard27
  have e29 : ∀ z : Bool, (z = true ↔ a.req = b.req) → ∀ w, (Op.equalIn 10000 29 (.agg (reqC a.req).toArray) (.agg (reqC b.req).toArray)).run Tryz.prog w = .ok z w := fun z hz w => eq_req_of (d := 9997) a.req b.req ha.1 hb.1 hz w
  have e27 : ∀ z : Bool, (z = true ↔ a.dig = b.dig) → ∀ w, (Op.equalIn 10000 27 (.agg (u8s a.dig).toArray) (.agg (u8s b.dig).toArray)).run Tryz.prog w = .ok z w := fun z hz w => eq_tag_of (d := 9998) a.dig b.dig ha.2 hb.2 hz w
  clear R LA LB hqa hqb hna hnb ha hb
  by_cases Y0 : a.view = b.view
  · have f0 : (a.view : Int) = (b.view : Int) := by rw [Y0]
    have H0 := Lib.hid Y0
    clear Y0
    by_cases Y1 : a.k = b.k
    · have f1 : (a.k : Int) = (b.k : Int) := by rw [Y1]
      have H1 := Lib.hid Y1
      clear Y1
      by_cases Y2 : a.req = b.req
      · have f2 := e29 true (by simp only [true_iff]; exact Y2)
        have H2 := Lib.hid Y2
        clear Y2
        by_cases Y3 : a.qs = b.qs
        · rw [decide_eq_true Y3] at HE
          have H3 := Lib.hid Y3
          clear Y3
          by_cases Y4 : a.dig = b.dig
          · have f4 := e27 true (by simp only [true_iff]; exact Y4)
            have H4 := Lib.hid Y4
            clear Y4
            go_enter Tryz.func63, Tryz.ntmps63
            go_wp2_with (first | ((with_reducible refine wpList_load_midG ?_ 29 (.tmp 18) ?_ w.heap.size 3 ?_ (reqC a.req) _ ?_ Tryz.underlying29 ?_ ?_ ?_); (· rfl); (· rfl); (· rfl); (· exact RA.out); (· rfl); (· exact IA.out)) | ((with_reducible refine wpList_load_midG ?_ 29 (.tmp 20) ?_ (w.heap.size + 1) 3 ?_ (reqC b.req) _ ?_ Tryz.underlying29 ?_ ?_ ?_); (· rfl); (· rfl); (· rfl); (· exact RB.out); (· rfl); (· exact IB.out)) | (go_at_call 91; refine (HE.out _ HB.out).mono ?_; rintro E w3 ⟨rfl, hb3⟩; have HB3 := Lib.hid hb3; clear hb3) | ((with_reducible refine wpList_load_midG ?_ 27 (.tmp 32) ?_ w.heap.size 44 ?_ (u8s a.dig) _ ?_ Tryz.underlying27 ?_ ?_ ?_); (· rfl); (· rfl); (· rfl); (· exact DA.out _ HB3.out); (· rfl); (· exact JA.out)) | ((with_reducible refine wpList_load_midG ?_ 27 (.tmp 34) ?_ (w.heap.size + 1) 44 ?_ (u8s b.dig) _ ?_ Tryz.underlying27 ?_ ?_ ?_); (· rfl); (· rfl); (· rfl); (· exact DB.out _ HB3.out); (· rfl); (· exact JB.out)))
            go_ret
            exact ⟨⟨true, rfl, by simp only [true_iff]; exact ⟨H0.out, H1.out, H2.out, H3.out, H4.out⟩⟩, HB.out.trans (HB3.out.mono HB.out.size)⟩
          · have N4 := Y4
            have f4 := e27 false (by simp only [Bool.false_eq_true, false_iff]; exact N4)
            have G4 := Lib.hid N4
            clear N4 Y4
            go_enter Tryz.func63, Tryz.ntmps63
            go_wp2_with (first | ((with_reducible refine wpList_load_midG ?_ 29 (.tmp 18) ?_ w.heap.size 3 ?_ (reqC a.req) _ ?_ Tryz.underlying29 ?_ ?_ ?_); (· rfl); (· rfl); (· rfl); (· exact RA.out); (· rfl); (· exact IA.out)) | ((with_reducible refine wpList_load_midG ?_ 29 (.tmp 20) ?_ (w.heap.size + 1) 3 ?_ (reqC b.req) _ ?_ Tryz.underlying29 ?_ ?_ ?_); (· rfl); (· rfl); (· rfl); (· exact RB.out); (· rfl); (· exact IB.out)) | (go_at_call 91; refine (HE.out _ HB.out).mono ?_; rintro E w3 ⟨rfl, hb3⟩; have HB3 := Lib.hid hb3; clear hb3) | ((with_reducible refine wpList_load_midG ?_ 27 (.tmp 32) ?_ w.heap.size 44 ?_ (u8s a.dig) _ ?_ Tryz.underlying27 ?_ ?_ ?_); (· rfl); (· rfl); (· rfl); (· exact DA.out _ HB3.out); (· rfl); (· exact JA.out)) | ((with_reducible refine wpList_load_midG ?_ 27 (.tmp 34) ?_ (w.heap.size + 1) 44 ?_ (u8s b.dig) _ ?_ Tryz.underlying27 ?_ ?_ ?_); (· rfl); (· rfl); (· rfl); (· exact DB.out _ HB3.out); (· rfl); (· exact JB.out)))
            go_ret
            exact ⟨⟨false, rfl, by simp only [Bool.false_eq_true, false_iff]; exact fun h => G4.out h.2.2.2.2⟩, HB.out.trans (HB3.out.mono HB.out.size)⟩
        · have N3 := Y3
          rw [decide_eq_false N3] at HE
          have G3 := Lib.hid N3
          clear N3 Y3
          go_enter Tryz.func63, Tryz.ntmps63
          go_wp2_with (first | ((with_reducible refine wpList_load_midG ?_ 29 (.tmp 18) ?_ w.heap.size 3 ?_ (reqC a.req) _ ?_ Tryz.underlying29 ?_ ?_ ?_); (· rfl); (· rfl); (· rfl); (· exact RA.out); (· rfl); (· exact IA.out)) | ((with_reducible refine wpList_load_midG ?_ 29 (.tmp 20) ?_ (w.heap.size + 1) 3 ?_ (reqC b.req) _ ?_ Tryz.underlying29 ?_ ?_ ?_); (· rfl); (· rfl); (· rfl); (· exact RB.out); (· rfl); (· exact IB.out)) | (go_at_call 91; refine (HE.out _ HB.out).mono ?_; rintro E w3 ⟨rfl, hb3⟩; have HB3 := Lib.hid hb3; clear hb3) | ((with_reducible refine wpList_load_midG ?_ 27 (.tmp 32) ?_ w.heap.size 44 ?_ (u8s a.dig) _ ?_ Tryz.underlying27 ?_ ?_ ?_); (· rfl); (· rfl); (· rfl); (· exact DA.out _ HB3.out); (· rfl); (· exact JA.out)) | ((with_reducible refine wpList_load_midG ?_ 27 (.tmp 34) ?_ (w.heap.size + 1) 44 ?_ (u8s b.dig) _ ?_ Tryz.underlying27 ?_ ?_ ?_); (· rfl); (· rfl); (· rfl); (· exact DB.out _ HB3.out); (· rfl); (· exact JB.out)))
          go_ret
          exact ⟨⟨false, rfl, by simp only [Bool.false_eq_true, false_iff]; exact fun h => G3.out h.2.2.2.1⟩, HB.out.trans (HB3.out.mono HB.out.size)⟩
      · have N2 := Y2
        have f2 := e29 false (by simp only [Bool.false_eq_true, false_iff]; exact N2)
        have G2 := Lib.hid N2
        clear N2 Y2
        go_enter Tryz.func63, Tryz.ntmps63
        go_wp2_with (first | ((with_reducible refine wpList_load_midG ?_ 29 (.tmp 18) ?_ w.heap.size 3 ?_ (reqC a.req) _ ?_ Tryz.underlying29 ?_ ?_ ?_); (· rfl); (· rfl); (· rfl); (· exact RA.out); (· rfl); (· exact IA.out)) | ((with_reducible refine wpList_load_midG ?_ 29 (.tmp 20) ?_ (w.heap.size + 1) 3 ?_ (reqC b.req) _ ?_ Tryz.underlying29 ?_ ?_ ?_); (· rfl); (· rfl); (· rfl); (· exact RB.out); (· rfl); (· exact IB.out)) | (go_at_call 91; refine (HE.out _ HB.out).mono ?_; rintro E w3 ⟨rfl, hb3⟩; have HB3 := Lib.hid hb3; clear hb3) | ((with_reducible refine wpList_load_midG ?_ 27 (.tmp 32) ?_ w.heap.size 44 ?_ (u8s a.dig) _ ?_ Tryz.underlying27 ?_ ?_ ?_); (· rfl); (· rfl); (· rfl); (· exact DA.out _ HB3.out); (· rfl); (· exact JA.out)) | ((with_reducible refine wpList_load_midG ?_ 27 (.tmp 34) ?_ (w.heap.size + 1) 44 ?_ (u8s b.dig) _ ?_ Tryz.underlying27 ?_ ?_ ?_); (· rfl); (· rfl); (· rfl); (· exact DB.out _ HB3.out); (· rfl); (· exact JB.out)))
        go_ret
        exact ⟨⟨false, rfl, by simp only [Bool.false_eq_true, false_iff]; exact fun h => G2.out h.2.2.1⟩, HB.out⟩
    · have N1 := Y1
      have f1 : ¬ ((a.k : Int) = (b.k : Int)) := by omega
      have G1 := Lib.hid N1
      clear N1 Y1
      go_enter Tryz.func63, Tryz.ntmps63
      go_wp2_with (first | ((with_reducible refine wpList_load_midG ?_ 29 (.tmp 18) ?_ w.heap.size 3 ?_ (reqC a.req) _ ?_ Tryz.underlying29 ?_ ?_ ?_); (· rfl); (· rfl); (· rfl); (· exact RA.out); (· rfl); (· exact IA.out)) | ((with_reducible refine wpList_load_midG ?_ 29 (.tmp 20) ?_ (w.heap.size + 1) 3 ?_ (reqC b.req) _ ?_ Tryz.underlying29 ?_ ?_ ?_); (· rfl); (· rfl); (· rfl); (· exact RB.out); (· rfl); (· exact IB.out)) | (go_at_call 91; refine (HE.out _ HB.out).mono ?_; rintro E w3 ⟨rfl, hb3⟩; have HB3 := Lib.hid hb3; clear hb3) | ((with_reducible refine wpList_load_midG ?_ 27 (.tmp 32) ?_ w.heap.size 44 ?_ (u8s a.dig) _ ?_ Tryz.underlying27 ?_ ?_ ?_); (· rfl); (· rfl); (· rfl); (· exact DA.out _ HB3.out); (· rfl); (· exact JA.out)) | ((with_reducible refine wpList_load_midG ?_ 27 (.tmp 34) ?_ (w.heap.size + 1) 44 ?_ (u8s b.dig) _ ?_ Tryz.underlying27 ?_ ?_ ?_); (· rfl); (· rfl); (· rfl); (· exact DB.out _ HB3.out); (· rfl); (· exact JB.out)))
      go_ret
      exact ⟨⟨false, rfl, by simp only [Bool.false_eq_true, false_iff]; exact fun h => G1.out h.2.1⟩, HB.out⟩
  · have N0 := Y0
    have f0 : ¬ ((a.view : Int) = (b.view : Int)) := by omega
    have G0 := Lib.hid N0
    clear N0 Y0
    go_enter Tryz.func63, Tryz.ntmps63
    go_wp2_with (first | ((with_reducible refine wpList_load_midG ?_ 29 (.tmp 18) ?_ w.heap.size 3 ?_ (reqC a.req) _ ?_ Tryz.underlying29 ?_ ?_ ?_); (· rfl); (· rfl); (· rfl); (· exact RA.out); (· rfl); (· exact IA.out)) | ((with_reducible refine wpList_load_midG ?_ 29 (.tmp 20) ?_ (w.heap.size + 1) 3 ?_ (reqC b.req) _ ?_ Tryz.underlying29 ?_ ?_ ?_); (· rfl); (· rfl); (· rfl); (· exact RB.out); (· rfl); (· exact IB.out)) | (go_at_call 91; refine (HE.out _ HB.out).mono ?_; rintro E w3 ⟨rfl, hb3⟩; have HB3 := Lib.hid hb3; clear hb3) | ((with_reducible refine wpList_load_midG ?_ 27 (.tmp 32) ?_ w.heap.size 44 ?_ (u8s a.dig) _ ?_ Tryz.underlying27 ?_ ?_ ?_); (· rfl); (· rfl); (· rfl); (· exact DA.out _ HB3.out); (· rfl); (· exact JA.out)) | ((with_reducible refine wpList_load_midG ?_ 27 (.tmp 34) ?_ (w.heap.size + 1) 44 ?_ (u8s b.dig) _ ?_ Tryz.underlying27 ?_ ?_ ?_); (· rfl); (· rfl); (· rfl); (· exact DB.out _ HB3.out); (· rfl); (· exact JB.out)))
    go_ret
    exact ⟨⟨false, rfl, by simp only [Bool.false_eq_true, false_iff]; exact fun h => G0.out h.1⟩, HB.out⟩
end Go.Proofs.YtghjogneogkpoaaGreatDoor.Sh
