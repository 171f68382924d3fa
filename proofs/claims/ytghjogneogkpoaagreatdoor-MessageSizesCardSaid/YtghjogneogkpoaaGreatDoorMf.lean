/-
  What is proved: whether two bodies, and two messages, are the same, by the document's own answers. Conditions as stated.
-/
import Derived.Test.YtghjogneogkpoaaGreatDoorMd
namespace Go.Proofs.YtghjogneogkpoaaGreatDoor.Sh
open Go.RowKit
set_option maxRecDepth 100000


theorem ne_u8 {x y : UInt8} (h : ¬ x = y) : ¬ ((x.toNat : Int) = (y.toNat : Int)) := fun e => h (UInt8.toNat_inj.1 (by omega))
theorem Tryz.guard24 : Tryz.prog.eqGuardType Tryz.prog.depth 24 = false := by kernel_rfl
set_option maxHeartbeats 4000000 in
theorem sameBody_rf (a b : MBody) (w : World) (ha : a.Wf) (hb : b.Wf) (hqa : Prs w a.qa a.qs) (hqb : Prs w b.qa b.qs) (hna : a.qs.length ≤ 140737488355328) (hnb : b.qs.length ≤ 140737488355328) :
    Calls Tryz.prog 52 #[.agg (bodyC a).toArray, .agg (bodyC b).toArray] w fun E w' => (∃ z, E = .returned (.bool z) ∧ (z = true ↔ a.kind = b.kind ∧ a.same b)) ∧ Below w.heap.size w w' := by
  have R := two_boxed w (bodyC a) (bodyC b) 32 32
  have HB : Hid (Below w.heap.size w ((w.alloc (.cells (bodyC a).toArray 32)).alloc (.cells (bodyC b).toArray 32))) := Lib.hid (((Below.refl _ _).alloc (Nat.le_refl _) _).alloc (by simp) _)
  have LA := body_lies R.1 ha
  have LB := body_lies R.2 hb
  have g29 := Tryz.guard29
  have g27 := Tryz.guard27
  have a0 : ((w.alloc (.cells (bodyC a).toArray 32)).alloc (.cells (bodyC b).toArray 32)).cell? ⟨w.heap.size, 0, none⟩ = some (.int .u8 (a.kind.toNat : Int)) := LA.kind
  have b0 : ((w.alloc (.cells (bodyC a).toArray 32)).alloc (.cells (bodyC b).toArray 32)).cell? ⟨w.heap.size + 1, 0, none⟩ = some (.int .u8 (b.kind.toNat : Int)) := LB.kind
  have a1 : ((w.alloc (.cells (bodyC a).toArray 32)).alloc (.cells (bodyC b).toArray 32)).cell? ⟨w.heap.size, 1, none⟩ = some (.int .u64 (a.view : Int)) := LA.view
  have b1 : ((w.alloc (.cells (bodyC a).toArray 32)).alloc (.cells (bodyC b).toArray 32)).cell? ⟨w.heap.size + 1, 1, none⟩ = some (.int .u64 (b.view : Int)) := LB.view
  have a2 : ((w.alloc (.cells (bodyC a).toArray 32)).alloc (.cells (bodyC b).toArray 32)).cell? ⟨w.heap.size, 2, none⟩ = some (.int .u64 (a.k : Int)) := LA.k
  have b2 : ((w.alloc (.cells (bodyC a).toArray 32)).alloc (.cells (bodyC b).toArray 32)).cell? ⟨w.heap.size + 1, 2, none⟩ = some (.int .u64 (b.k : Int)) := LB.k
  have Ra3 : Hid (∀ W, Below ((w.alloc (.cells (bodyC a).toArray 32)).alloc (.cells (bodyC b).toArray 32)).heap.size ((w.alloc (.cells (bodyC a).toArray 32)).alloc (.cells (bodyC b).toArray 32)) W → W.rangeAt w.heap.size 3 (reqC a.req)) := Lib.hid fun W h => rangeAt_below LA.req.all h (by simp; omega)
  have Ia3 : Hid ((Tryz.prog.info? 29).map (·.size) = some (reqC a.req).length) := Lib.hid (by rw [reqC_length ha.1]; exact Tryz.is29)
  have Rb3 : Hid (∀ W, Below ((w.alloc (.cells (bodyC a).toArray 32)).alloc (.cells (bodyC b).toArray 32)).heap.size ((w.alloc (.cells (bodyC a).toArray 32)).alloc (.cells (bodyC b).toArray 32)) W → W.rangeAt (w.heap.size + 1) 3 (reqC b.req)) := Lib.hid fun W h => rangeAt_below LB.req.all h (by simp)
  have Ib3 : Hid ((Tryz.prog.info? 29).map (·.size) = some (reqC b.req).length) := Lib.hid (by rw [reqC_length hb.1]; exact Tryz.is29)
  have e3 : ∀ z : Bool, (z = true ↔ a.req = b.req) → ∀ w, (Op.equalIn 10000 29 (.agg (reqC a.req).toArray) (.agg (reqC b.req).toArray)).run Tryz.prog w = .ok z w := fun z hz w => eq_req_of (d := 9997) a.req b.req ha.1 hb.1 hz w
  have a43 : ((w.alloc (.cells (bodyC a).toArray 32)).alloc (.cells (bodyC b).toArray 32)).cell? ⟨w.heap.size, 43, none⟩ = some (.slice a.qa a.qs.length a.qc) := LA.q
  have b43 : ((w.alloc (.cells (bodyC a).toArray 32)).alloc (.cells (bodyC b).toArray 32)).cell? ⟨w.heap.size + 1, 43, none⟩ = some (.slice b.qa b.qs.length b.qc) := LB.q
  have HE : Hid (∀ W, Below w.heap.size w W → Calls Tryz.prog 83 #[.slice a.qa a.qs.length a.qc, .slice b.qa b.qs.length b.qc] W fun E w' => E = .returned (.bool (decide (a.qs = b.qs))) ∧ Below W.heap.size W w') := Lib.hid fun W h => pairs_rf _ _ _ _ _ _ W (hqa.below h) (hqb.below h) hna hnb
  have Ra5 : Hid (∀ W, Below ((w.alloc (.cells (bodyC a).toArray 32)).alloc (.cells (bodyC b).toArray 32)).heap.size ((w.alloc (.cells (bodyC a).toArray 32)).alloc (.cells (bodyC b).toArray 32)) W → W.rangeAt w.heap.size 44 (u8s a.dig)) := Lib.hid fun W h => rangeAt_below LA.dig h (by simp; omega)
  have Ia5 : Hid ((Tryz.prog.info? 27).map (·.size) = some (u8s a.dig).length) := Lib.hid (by rw [u8s_length, ha.2]; exact Tryz.size27)
  have Rb5 : Hid (∀ W, Below ((w.alloc (.cells (bodyC a).toArray 32)).alloc (.cells (bodyC b).toArray 32)).heap.size ((w.alloc (.cells (bodyC a).toArray 32)).alloc (.cells (bodyC b).toArray 32)) W → W.rangeAt (w.heap.size + 1) 44 (u8s b.dig)) := Lib.hid fun W h => rangeAt_below LB.dig h (by simp)
  have Ib5 : Hid ((Tryz.prog.info? 27).map (·.size) = some (u8s b.dig).length) := Lib.hid (by rw [u8s_length, hb.2]; exact Tryz.size27)
  have e5 : ∀ z : Bool, (z = true ↔ a.dig = b.dig) → ∀ w, (Op.equalIn 10000 27 (.agg (u8s a.dig).toArray) (.agg (u8s b.dig).toArray)).run Tryz.prog w = .ok z w := fun z hz w => eq_tag_of (d := 9998) a.dig b.dig ha.2 hb.2 hz w
  clear R LA LB hqa hqb hna hnb ha hb
  by_cases Y0 : a.kind = b.kind
  · have f0 : (a.kind.toNat : Int) = (b.kind.toNat : Int) := by rw [Y0]
    have H0 := Lib.hid Y0
    clear Y0
    by_cases Y1 : a.view = b.view
    · have f1 : (a.view : Int) = (b.view : Int) := by rw [Y1]
      have H1 := Lib.hid Y1
      clear Y1
      by_cases Y2 : a.k = b.k
      · have f2 : (a.k : Int) = (b.k : Int) := by rw [Y2]
        have H2 := Lib.hid Y2
        clear Y2
        by_cases Y3 : a.req = b.req
        · have f3 := e3 true (by simp only [true_iff]; exact Y3)
          have H3 := Lib.hid Y3
          clear Y3
          by_cases Y4 : a.qs = b.qs
          · rw [decide_eq_true Y4] at HE
            have H4 := Lib.hid Y4
            clear Y4
            by_cases Y5 : a.dig = b.dig
            · have f5 := e5 true (by simp only [true_iff]; exact Y5)
              have H5 := Lib.hid Y5
              clear Y5
              go_enter Tryz.func52, Tryz.ntmps52
              go_wp2_with (first | ((with_reducible refine wpList_load_midG ?_ 29 (.tmp 25) ?_ w.heap.size 3 ?_ (reqC a.req) _ ?_ Tryz.underlying29 ?_ ?_ ?_); (· rfl); (· rfl); (· rfl); (· exact Ra3.out _ (Below.refl _ _)); (· rfl); (· exact Ia3.out)) | ((with_reducible refine wpList_load_midG ?_ 29 (.tmp 27) ?_ (w.heap.size + 1) 3 ?_ (reqC b.req) _ ?_ Tryz.underlying29 ?_ ?_ ?_); (· rfl); (· rfl); (· rfl); (· exact Rb3.out _ (Below.refl _ _)); (· rfl); (· exact Ib3.out)) | (go_at_call 83; refine (HE.out _ HB.out).mono ?_; rintro E w3 ⟨rfl, hb3⟩; have HB3 := Lib.hid hb3; clear hb3) | ((with_reducible refine wpList_load_midG ?_ 27 (.tmp 39) ?_ w.heap.size 44 ?_ (u8s a.dig) _ ?_ Tryz.underlying27 ?_ ?_ ?_); (· rfl); (· rfl); (· rfl); (· exact Ra5.out _ HB3.out); (· rfl); (· exact Ia5.out)) | ((with_reducible refine wpList_load_midG ?_ 27 (.tmp 41) ?_ (w.heap.size + 1) 44 ?_ (u8s b.dig) _ ?_ Tryz.underlying27 ?_ ?_ ?_); (· rfl); (· rfl); (· rfl); (· exact Rb5.out _ HB3.out); (· rfl); (· exact Ib5.out)))
              go_ret
              exact ⟨⟨true, rfl, by simp only [true_iff]; exact ⟨H0.out, H1.out, H2.out, H3.out, H4.out, H5.out⟩⟩, HB.out.trans (HB3.out.mono HB.out.size)⟩
            · have N5 := Y5
              have f5 := e5 false (by simp only [Bool.false_eq_true, false_iff]; exact N5)
              have G5 := Lib.hid N5
              clear N5 Y5
              go_enter Tryz.func52, Tryz.ntmps52
              go_wp2_with (first | ((with_reducible refine wpList_load_midG ?_ 29 (.tmp 25) ?_ w.heap.size 3 ?_ (reqC a.req) _ ?_ Tryz.underlying29 ?_ ?_ ?_); (· rfl); (· rfl); (· rfl); (· exact Ra3.out _ (Below.refl _ _)); (· rfl); (· exact Ia3.out)) | ((with_reducible refine wpList_load_midG ?_ 29 (.tmp 27) ?_ (w.heap.size + 1) 3 ?_ (reqC b.req) _ ?_ Tryz.underlying29 ?_ ?_ ?_); (· rfl); (· rfl); (· rfl); (· exact Rb3.out _ (Below.refl _ _)); (· rfl); (· exact Ib3.out)) | (go_at_call 83; refine (HE.out _ HB.out).mono ?_; rintro E w3 ⟨rfl, hb3⟩; have HB3 := Lib.hid hb3; clear hb3) | ((with_reducible refine wpList_load_midG ?_ 27 (.tmp 39) ?_ w.heap.size 44 ?_ (u8s a.dig) _ ?_ Tryz.underlying27 ?_ ?_ ?_); (· rfl); (· rfl); (· rfl); (· exact Ra5.out _ HB3.out); (· rfl); (· exact Ia5.out)) | ((with_reducible refine wpList_load_midG ?_ 27 (.tmp 41) ?_ (w.heap.size + 1) 44 ?_ (u8s b.dig) _ ?_ Tryz.underlying27 ?_ ?_ ?_); (· rfl); (· rfl); (· rfl); (· exact Rb5.out _ HB3.out); (· rfl); (· exact Ib5.out)))
              go_ret
              exact ⟨⟨false, rfl, by simp only [Bool.false_eq_true, false_iff]; exact fun h => G5.out h.2.2.2.2.2⟩, HB.out.trans (HB3.out.mono HB.out.size)⟩
          · have N4 := Y4
            rw [decide_eq_false N4] at HE
            have G4 := Lib.hid N4
            clear N4 Y4
            go_enter Tryz.func52, Tryz.ntmps52
            go_wp2_with (first | ((with_reducible refine wpList_load_midG ?_ 29 (.tmp 25) ?_ w.heap.size 3 ?_ (reqC a.req) _ ?_ Tryz.underlying29 ?_ ?_ ?_); (· rfl); (· rfl); (· rfl); (· exact Ra3.out _ (Below.refl _ _)); (· rfl); (· exact Ia3.out)) | ((with_reducible refine wpList_load_midG ?_ 29 (.tmp 27) ?_ (w.heap.size + 1) 3 ?_ (reqC b.req) _ ?_ Tryz.underlying29 ?_ ?_ ?_); (· rfl); (· rfl); (· rfl); (· exact Rb3.out _ (Below.refl _ _)); (· rfl); (· exact Ib3.out)) | (go_at_call 83; refine (HE.out _ HB.out).mono ?_; rintro E w3 ⟨rfl, hb3⟩; have HB3 := Lib.hid hb3; clear hb3) | ((with_reducible refine wpList_load_midG ?_ 27 (.tmp 39) ?_ w.heap.size 44 ?_ (u8s a.dig) _ ?_ Tryz.underlying27 ?_ ?_ ?_); (· rfl); (· rfl); (· rfl); (· exact Ra5.out _ HB3.out); (· rfl); (· exact Ia5.out)) | ((with_reducible refine wpList_load_midG ?_ 27 (.tmp 41) ?_ (w.heap.size + 1) 44 ?_ (u8s b.dig) _ ?_ Tryz.underlying27 ?_ ?_ ?_); (· rfl); (· rfl); (· rfl); (· exact Rb5.out _ HB3.out); (· rfl); (· exact Ib5.out)))
            go_ret
            exact ⟨⟨false, rfl, by simp only [Bool.false_eq_true, false_iff]; exact fun h => G4.out h.2.2.2.2.1⟩, HB.out.trans (HB3.out.mono HB.out.size)⟩
        · have N3 := Y3
          have f3 := e3 false (by simp only [Bool.false_eq_true, false_iff]; exact N3)
          have G3 := Lib.hid N3
          clear N3 Y3
          go_enter Tryz.func52, Tryz.ntmps52
          go_wp2_with (first | ((with_reducible refine wpList_load_midG ?_ 29 (.tmp 25) ?_ w.heap.size 3 ?_ (reqC a.req) _ ?_ Tryz.underlying29 ?_ ?_ ?_); (· rfl); (· rfl); (· rfl); (· exact Ra3.out _ (Below.refl _ _)); (· rfl); (· exact Ia3.out)) | ((with_reducible refine wpList_load_midG ?_ 29 (.tmp 27) ?_ (w.heap.size + 1) 3 ?_ (reqC b.req) _ ?_ Tryz.underlying29 ?_ ?_ ?_); (· rfl); (· rfl); (· rfl); (· exact Rb3.out _ (Below.refl _ _)); (· rfl); (· exact Ib3.out)) | (go_at_call 83; refine (HE.out _ HB.out).mono ?_; rintro E w3 ⟨rfl, hb3⟩; have HB3 := Lib.hid hb3; clear hb3) | ((with_reducible refine wpList_load_midG ?_ 27 (.tmp 39) ?_ w.heap.size 44 ?_ (u8s a.dig) _ ?_ Tryz.underlying27 ?_ ?_ ?_); (· rfl); (· rfl); (· rfl); (· exact Ra5.out _ HB3.out); (· rfl); (· exact Ia5.out)) | ((with_reducible refine wpList_load_midG ?_ 27 (.tmp 41) ?_ (w.heap.size + 1) 44 ?_ (u8s b.dig) _ ?_ Tryz.underlying27 ?_ ?_ ?_); (· rfl); (· rfl); (· rfl); (· exact Rb5.out _ HB3.out); (· rfl); (· exact Ib5.out)))
          go_ret
          exact ⟨⟨false, rfl, by simp only [Bool.false_eq_true, false_iff]; exact fun h => G3.out h.2.2.2.1⟩, HB.out⟩
      · have N2 := Y2
        have f2 : ¬ ((a.k : Int) = (b.k : Int)) := by omega
        have G2 := Lib.hid N2
        clear N2 Y2
        go_enter Tryz.func52, Tryz.ntmps52
        go_wp2_with (first | ((with_reducible refine wpList_load_midG ?_ 29 (.tmp 25) ?_ w.heap.size 3 ?_ (reqC a.req) _ ?_ Tryz.underlying29 ?_ ?_ ?_); (· rfl); (· rfl); (· rfl); (· exact Ra3.out _ (Below.refl _ _)); (· rfl); (· exact Ia3.out)) | ((with_reducible refine wpList_load_midG ?_ 29 (.tmp 27) ?_ (w.heap.size + 1) 3 ?_ (reqC b.req) _ ?_ Tryz.underlying29 ?_ ?_ ?_); (· rfl); (· rfl); (· rfl); (· exact Rb3.out _ (Below.refl _ _)); (· rfl); (· exact Ib3.out)) | (go_at_call 83; refine (HE.out _ HB.out).mono ?_; rintro E w3 ⟨rfl, hb3⟩; have HB3 := Lib.hid hb3; clear hb3) | ((with_reducible refine wpList_load_midG ?_ 27 (.tmp 39) ?_ w.heap.size 44 ?_ (u8s a.dig) _ ?_ Tryz.underlying27 ?_ ?_ ?_); (· rfl); (· rfl); (· rfl); (· exact Ra5.out _ HB3.out); (· rfl); (· exact Ia5.out)) | ((with_reducible refine wpList_load_midG ?_ 27 (.tmp 41) ?_ (w.heap.size + 1) 44 ?_ (u8s b.dig) _ ?_ Tryz.underlying27 ?_ ?_ ?_); (· rfl); (· rfl); (· rfl); (· exact Rb5.out _ HB3.out); (· rfl); (· exact Ib5.out)))
        go_ret
        exact ⟨⟨false, rfl, by simp only [Bool.false_eq_true, false_iff]; exact fun h => G2.out h.2.2.1⟩, HB.out⟩
    · have N1 := Y1
      have f1 : ¬ ((a.view : Int) = (b.view : Int)) := by omega
      have G1 := Lib.hid N1
      clear N1 Y1
      go_enter Tryz.func52, Tryz.ntmps52
      go_wp2_with (first | ((with_reducible refine wpList_load_midG ?_ 29 (.tmp 25) ?_ w.heap.size 3 ?_ (reqC a.req) _ ?_ Tryz.underlying29 ?_ ?_ ?_); (· rfl); (· rfl); (· rfl); (· exact Ra3.out _ (Below.refl _ _)); (· rfl); (· exact Ia3.out)) | ((with_reducible refine wpList_load_midG ?_ 29 (.tmp 27) ?_ (w.heap.size + 1) 3 ?_ (reqC b.req) _ ?_ Tryz.underlying29 ?_ ?_ ?_); (· rfl); (· rfl); (· rfl); (· exact Rb3.out _ (Below.refl _ _)); (· rfl); (· exact Ib3.out)) | (go_at_call 83; refine (HE.out _ HB.out).mono ?_; rintro E w3 ⟨rfl, hb3⟩; have HB3 := Lib.hid hb3; clear hb3) | ((with_reducible refine wpList_load_midG ?_ 27 (.tmp 39) ?_ w.heap.size 44 ?_ (u8s a.dig) _ ?_ Tryz.underlying27 ?_ ?_ ?_); (· rfl); (· rfl); (· rfl); (· exact Ra5.out _ HB3.out); (· rfl); (· exact Ia5.out)) | ((with_reducible refine wpList_load_midG ?_ 27 (.tmp 41) ?_ (w.heap.size + 1) 44 ?_ (u8s b.dig) _ ?_ Tryz.underlying27 ?_ ?_ ?_); (· rfl); (· rfl); (· rfl); (· exact Rb5.out _ HB3.out); (· rfl); (· exact Ib5.out)))
      go_ret
      exact ⟨⟨false, rfl, by simp only [Bool.false_eq_true, false_iff]; exact fun h => G1.out h.2.1⟩, HB.out⟩
  · have N0 := Y0
    have f0 : ¬ ((a.kind.toNat : Int) = (b.kind.toNat : Int)) := ne_u8 N0
    have G0 := Lib.hid N0
    clear N0 Y0
    go_enter Tryz.func52, Tryz.ntmps52
    go_wp2_with (first | ((with_reducible refine wpList_load_midG ?_ 29 (.tmp 25) ?_ w.heap.size 3 ?_ (reqC a.req) _ ?_ Tryz.underlying29 ?_ ?_ ?_); (· rfl); (· rfl); (· rfl); (· exact Ra3.out _ (Below.refl _ _)); (· rfl); (· exact Ia3.out)) | ((with_reducible refine wpList_load_midG ?_ 29 (.tmp 27) ?_ (w.heap.size + 1) 3 ?_ (reqC b.req) _ ?_ Tryz.underlying29 ?_ ?_ ?_); (· rfl); (· rfl); (· rfl); (· exact Rb3.out _ (Below.refl _ _)); (· rfl); (· exact Ib3.out)) | (go_at_call 83; refine (HE.out _ HB.out).mono ?_; rintro E w3 ⟨rfl, hb3⟩; have HB3 := Lib.hid hb3; clear hb3) | ((with_reducible refine wpList_load_midG ?_ 27 (.tmp 39) ?_ w.heap.size 44 ?_ (u8s a.dig) _ ?_ Tryz.underlying27 ?_ ?_ ?_); (· rfl); (· rfl); (· rfl); (· exact Ra5.out _ HB3.out); (· rfl); (· exact Ia5.out)) | ((with_reducible refine wpList_load_midG ?_ 27 (.tmp 41) ?_ (w.heap.size + 1) 44 ?_ (u8s b.dig) _ ?_ Tryz.underlying27 ?_ ?_ ?_); (· rfl); (· rfl); (· rfl); (· exact Rb5.out _ HB3.out); (· rfl); (· exact Ib5.out)))
    go_ret
    exact ⟨⟨false, rfl, by simp only [Bool.false_eq_true, false_iff]; exact fun h => G0.out h.1⟩, HB.out⟩

/-- The same messages. -/
def MMsg.same (a b : MMsg) : Prop := a.origin = b.origin ∧ a.number = b.number ∧ a.deps = b.deps ∧ (a.body.kind = b.body.kind ∧ a.body.same b.body) ∧ a.tag = b.tag
theorem bool_of {P : Prop} {E : Ending} (h : ∃ z, E = .returned (.bool z) ∧ (z = true ↔ P)) (p : P) : E = .returned (.bool true) := by
  obtain ⟨z, rfl, hz⟩ := h
  rw [hz.2 p]
theorem bool_not {P : Prop} {E : Ending} (h : ∃ z, E = .returned (.bool z) ∧ (z = true ↔ P)) (p : ¬ P) : E = .returned (.bool false) := by
  obtain ⟨z, rfl, hz⟩ := h
  rw [Bool.eq_false_iff.2 fun e => p (hz.1 e)]
set_option maxHeartbeats 4000000 in
theorem same_rf (a b : MMsg) (w : World) (ha : a.Wf) (hb : b.Wf) (hqa : Prs w a.body.qa a.body.qs) (hqb : Prs w b.body.qa b.body.qs) (hna : a.body.qs.length ≤ 140737488355328) (hnb : b.body.qs.length ≤ 140737488355328) :
    Calls Tryz.prog 25 #[.agg (msgC a).toArray, .agg (msgC b).toArray] w fun E w' => (∃ z, E = .returned (.bool z) ∧ (z = true ↔ a.same b)) ∧ Below w.heap.size w w' := by
  have R := two_boxed w (msgC a) (msgC b) 34 34
  have HB : Hid (Below w.heap.size w ((w.alloc (.cells (msgC a).toArray 34)).alloc (.cells (msgC b).toArray 34))) := Lib.hid (((Below.refl _ _).alloc (Nat.le_refl _) _).alloc (by simp) _)
  have LA := msg_lies R.1 ha
  have LB := msg_lies R.2 hb
  have g24 := Tryz.guard24
  have g27 := Tryz.guard27
  have a0 : ((w.alloc (.cells (msgC a).toArray 34)).alloc (.cells (msgC b).toArray 34)).cell? ⟨w.heap.size, 0, none⟩ = some (.int .i64 a.origin) := LA.origin
  have b0 : ((w.alloc (.cells (msgC a).toArray 34)).alloc (.cells (msgC b).toArray 34)).cell? ⟨w.heap.size + 1, 0, none⟩ = some (.int .i64 b.origin) := LB.origin
  have a1 : ((w.alloc (.cells (msgC a).toArray 34)).alloc (.cells (msgC b).toArray 34)).cell? ⟨w.heap.size, 1, none⟩ = some (.int .u64 (a.number : Int)) := LA.number
  have b1 : ((w.alloc (.cells (msgC a).toArray 34)).alloc (.cells (msgC b).toArray 34)).cell? ⟨w.heap.size + 1, 1, none⟩ = some (.int .u64 (b.number : Int)) := LB.number
  have Ra2 : Hid (∀ W, Below ((w.alloc (.cells (msgC a).toArray 34)).alloc (.cells (msgC b).toArray 34)).heap.size ((w.alloc (.cells (msgC a).toArray 34)).alloc (.cells (msgC b).toArray 34)) W → W.rangeAt w.heap.size 2 (u64s a.deps)) := Lib.hid fun W h => rangeAt_below LA.deps h (by simp; omega)
  have Ia2 : Hid ((Tryz.prog.info? 24).map (·.size) = some (u64s a.deps).length) := Lib.hid (by rw [u64s_length, ha.1]; exact Tryz.is24)
  have Rb2 : Hid (∀ W, Below ((w.alloc (.cells (msgC a).toArray 34)).alloc (.cells (msgC b).toArray 34)).heap.size ((w.alloc (.cells (msgC a).toArray 34)).alloc (.cells (msgC b).toArray 34)) W → W.rangeAt (w.heap.size + 1) 2 (u64s b.deps)) := Lib.hid fun W h => rangeAt_below LB.deps h (by simp)
  have Ib2 : Hid ((Tryz.prog.info? 24).map (·.size) = some (u64s b.deps).length) := Lib.hid (by rw [u64s_length, hb.1]; exact Tryz.is24)
  have e2 : ∀ z : Bool, (z = true ↔ a.deps = b.deps) → ∀ w, (Op.equalIn 10000 24 (.agg (u64s a.deps).toArray) (.agg (u64s b.deps).toArray)).run Tryz.prog w = .ok z w := fun z hz w => eq_deps_of (d := 9998) a.deps b.deps ha.1 hb.1 hz w
  have R25 : Hid (((w.alloc (.cells (msgC a).toArray 34)).alloc (.cells (msgC b).toArray 34)).rangeAt w.heap.size 13 (bodyC a.body)) := Lib.hid LA.body.all
  have I25 : Hid ((Tryz.prog.info? 32).map (·.size) = some (bodyC a.body).length) := Lib.hid (by rw [bodyC_length ha.2.1]; exact Tryz.is32)
  have R27 : Hid (((w.alloc (.cells (msgC a).toArray 34)).alloc (.cells (msgC b).toArray 34)).rangeAt (w.heap.size + 1) 13 (bodyC b.body)) := Lib.hid LB.body.all
  have I27 : Hid ((Tryz.prog.info? 32).map (·.size) = some (bodyC b.body).length) := Lib.hid (by rw [bodyC_length hb.2.1]; exact Tryz.is32)
  have HE0 : Hid (∀ W, Below w.heap.size w W → Calls Tryz.prog 52 #[.agg (bodyC a.body).toArray, .agg (bodyC b.body).toArray] W fun E w' => (∃ z, E = .returned (.bool z) ∧ (z = true ↔ a.body.kind = b.body.kind ∧ a.body.same b.body)) ∧ Below W.heap.size W w') := Lib.hid fun W h => sameBody_rf a.body b.body W ha.2.1 hb.2.1 (hqa.below h) (hqb.below h) hna hnb
  have Ra4 : Hid (∀ W, Below ((w.alloc (.cells (msgC a).toArray 34)).alloc (.cells (msgC b).toArray 34)).heap.size ((w.alloc (.cells (msgC a).toArray 34)).alloc (.cells (msgC b).toArray 34)) W → W.rangeAt w.heap.size 89 (u8s a.tag)) := Lib.hid fun W h => rangeAt_below LA.tag h (by simp; omega)
  have Ia4 : Hid ((Tryz.prog.info? 27).map (·.size) = some (u8s a.tag).length) := Lib.hid (by rw [u8s_length, ha.2.2]; exact Tryz.size27)
  have Rb4 : Hid (∀ W, Below ((w.alloc (.cells (msgC a).toArray 34)).alloc (.cells (msgC b).toArray 34)).heap.size ((w.alloc (.cells (msgC a).toArray 34)).alloc (.cells (msgC b).toArray 34)) W → W.rangeAt (w.heap.size + 1) 89 (u8s b.tag)) := Lib.hid fun W h => rangeAt_below LB.tag h (by simp)
  have Ib4 : Hid ((Tryz.prog.info? 27).map (·.size) = some (u8s b.tag).length) := Lib.hid (by rw [u8s_length, hb.2.2]; exact Tryz.size27)
  have e4 : ∀ z : Bool, (z = true ↔ a.tag = b.tag) → ∀ w, (Op.equalIn 10000 27 (.agg (u8s a.tag).toArray) (.agg (u8s b.tag).toArray)).run Tryz.prog w = .ok z w := fun z hz w => eq_tag_of (d := 9998) a.tag b.tag ha.2.2 hb.2.2 hz w
  clear R LA LB hqa hqb hna hnb ha hb
  by_cases Y0 : a.origin = b.origin
  · have f0 : a.origin = b.origin := by rw [Y0]
    have H0 := Lib.hid Y0
    clear Y0
    by_cases Y1 : a.number = b.number
    · have f1 : (a.number : Int) = (b.number : Int) := by rw [Y1]
      have H1 := Lib.hid Y1
      clear Y1
      by_cases Y2 : a.deps = b.deps
      · have f2 := e2 true (by simp only [true_iff]; exact Y2)
        have H2 := Lib.hid Y2
        clear Y2
        by_cases Y3 : (a.body.kind = b.body.kind ∧ a.body.same b.body)
        · have HE := Lib.hid fun W h => (HE0.out W h).mono fun E w' hE => (⟨bool_of hE.1 Y3, hE.2⟩ : E = .returned (.bool true) ∧ Below W.heap.size W w')
          have H3 := Lib.hid Y3
          clear Y3
          by_cases Y4 : a.tag = b.tag
          · have f4 := e4 true (by simp only [true_iff]; exact Y4)
            have H4 := Lib.hid Y4
            clear Y4
            go_enter Tryz.func25, Tryz.ntmps25
            go_wp2_with (first | ((with_reducible refine wpList_load_midG ?_ 24 (.tmp 18) ?_ w.heap.size 2 ?_ (u64s a.deps) _ ?_ Tryz.underlying24 ?_ ?_ ?_); (· rfl); (· rfl); (· rfl); (· exact Ra2.out _ (Below.refl _ _)); (· rfl); (· exact Ia2.out)) | ((with_reducible refine wpList_load_midG ?_ 24 (.tmp 20) ?_ (w.heap.size + 1) 2 ?_ (u64s b.deps) _ ?_ Tryz.underlying24 ?_ ?_ ?_); (· rfl); (· rfl); (· rfl); (· exact Rb2.out _ (Below.refl _ _)); (· rfl); (· exact Ib2.out)) | ((with_reducible refine wpList_load_midG ?_ 32 (.tmp 25) ?_ w.heap.size 13 ?_ (bodyC a.body) _ ?_ Tryz.underlying32 ?_ ?_ ?_); (· rfl); (· rfl); (· rfl); (· exact R25.out); (· rfl); (· exact I25.out)) | ((with_reducible refine wpList_load_midG ?_ 32 (.tmp 27) ?_ (w.heap.size + 1) 13 ?_ (bodyC b.body) _ ?_ Tryz.underlying32 ?_ ?_ ?_); (· rfl); (· rfl); (· rfl); (· exact R27.out); (· rfl); (· exact I27.out)) | (go_at_call 52; refine (HE.out _ HB.out).mono ?_; rintro E w3 ⟨rfl, hb3⟩; have HB3 := Lib.hid hb3; clear hb3) | ((with_reducible refine wpList_load_midG ?_ 27 (.tmp 32) ?_ w.heap.size 89 ?_ (u8s a.tag) _ ?_ Tryz.underlying27 ?_ ?_ ?_); (· rfl); (· rfl); (· rfl); (· exact Ra4.out _ HB3.out); (· rfl); (· exact Ia4.out)) | ((with_reducible refine wpList_load_midG ?_ 27 (.tmp 34) ?_ (w.heap.size + 1) 89 ?_ (u8s b.tag) _ ?_ Tryz.underlying27 ?_ ?_ ?_); (· rfl); (· rfl); (· rfl); (· exact Rb4.out _ HB3.out); (· rfl); (· exact Ib4.out)))
            go_ret
            exact ⟨⟨true, rfl, by simp only [true_iff]; exact ⟨H0.out, H1.out, H2.out, H3.out, H4.out⟩⟩, HB.out.trans (HB3.out.mono HB.out.size)⟩
          · have N4 := Y4
            have f4 := e4 false (by simp only [Bool.false_eq_true, false_iff]; exact N4)
            have G4 := Lib.hid N4
            clear N4 Y4
            go_enter Tryz.func25, Tryz.ntmps25
            go_wp2_with (first | ((with_reducible refine wpList_load_midG ?_ 24 (.tmp 18) ?_ w.heap.size 2 ?_ (u64s a.deps) _ ?_ Tryz.underlying24 ?_ ?_ ?_); (· rfl); (· rfl); (· rfl); (· exact Ra2.out _ (Below.refl _ _)); (· rfl); (· exact Ia2.out)) | ((with_reducible refine wpList_load_midG ?_ 24 (.tmp 20) ?_ (w.heap.size + 1) 2 ?_ (u64s b.deps) _ ?_ Tryz.underlying24 ?_ ?_ ?_); (· rfl); (· rfl); (· rfl); (· exact Rb2.out _ (Below.refl _ _)); (· rfl); (· exact Ib2.out)) | ((with_reducible refine wpList_load_midG ?_ 32 (.tmp 25) ?_ w.heap.size 13 ?_ (bodyC a.body) _ ?_ Tryz.underlying32 ?_ ?_ ?_); (· rfl); (· rfl); (· rfl); (· exact R25.out); (· rfl); (· exact I25.out)) | ((with_reducible refine wpList_load_midG ?_ 32 (.tmp 27) ?_ (w.heap.size + 1) 13 ?_ (bodyC b.body) _ ?_ Tryz.underlying32 ?_ ?_ ?_); (· rfl); (· rfl); (· rfl); (· exact R27.out); (· rfl); (· exact I27.out)) | (go_at_call 52; refine (HE.out _ HB.out).mono ?_; rintro E w3 ⟨rfl, hb3⟩; have HB3 := Lib.hid hb3; clear hb3) | ((with_reducible refine wpList_load_midG ?_ 27 (.tmp 32) ?_ w.heap.size 89 ?_ (u8s a.tag) _ ?_ Tryz.underlying27 ?_ ?_ ?_); (· rfl); (· rfl); (· rfl); (· exact Ra4.out _ HB3.out); (· rfl); (· exact Ia4.out)) | ((with_reducible refine wpList_load_midG ?_ 27 (.tmp 34) ?_ (w.heap.size + 1) 89 ?_ (u8s b.tag) _ ?_ Tryz.underlying27 ?_ ?_ ?_); (· rfl); (· rfl); (· rfl); (· exact Rb4.out _ HB3.out); (· rfl); (· exact Ib4.out)))
            go_ret
            exact ⟨⟨false, rfl, by simp only [Bool.false_eq_true, false_iff]; exact fun h => G4.out h.2.2.2.2⟩, HB.out.trans (HB3.out.mono HB.out.size)⟩
        · have N3 := Y3
          have HE := Lib.hid fun W h => (HE0.out W h).mono fun E w' hE => (⟨bool_not hE.1 N3, hE.2⟩ : E = .returned (.bool false) ∧ Below W.heap.size W w')
          have G3 := Lib.hid N3
          clear N3 Y3
          go_enter Tryz.func25, Tryz.ntmps25
          go_wp2_with (first | ((with_reducible refine wpList_load_midG ?_ 24 (.tmp 18) ?_ w.heap.size 2 ?_ (u64s a.deps) _ ?_ Tryz.underlying24 ?_ ?_ ?_); (· rfl); (· rfl); (· rfl); (· exact Ra2.out _ (Below.refl _ _)); (· rfl); (· exact Ia2.out)) | ((with_reducible refine wpList_load_midG ?_ 24 (.tmp 20) ?_ (w.heap.size + 1) 2 ?_ (u64s b.deps) _ ?_ Tryz.underlying24 ?_ ?_ ?_); (· rfl); (· rfl); (· rfl); (· exact Rb2.out _ (Below.refl _ _)); (· rfl); (· exact Ib2.out)) | ((with_reducible refine wpList_load_midG ?_ 32 (.tmp 25) ?_ w.heap.size 13 ?_ (bodyC a.body) _ ?_ Tryz.underlying32 ?_ ?_ ?_); (· rfl); (· rfl); (· rfl); (· exact R25.out); (· rfl); (· exact I25.out)) | ((with_reducible refine wpList_load_midG ?_ 32 (.tmp 27) ?_ (w.heap.size + 1) 13 ?_ (bodyC b.body) _ ?_ Tryz.underlying32 ?_ ?_ ?_); (· rfl); (· rfl); (· rfl); (· exact R27.out); (· rfl); (· exact I27.out)) | (go_at_call 52; refine (HE.out _ HB.out).mono ?_; rintro E w3 ⟨rfl, hb3⟩; have HB3 := Lib.hid hb3; clear hb3) | ((with_reducible refine wpList_load_midG ?_ 27 (.tmp 32) ?_ w.heap.size 89 ?_ (u8s a.tag) _ ?_ Tryz.underlying27 ?_ ?_ ?_); (· rfl); (· rfl); (· rfl); (· exact Ra4.out _ HB3.out); (· rfl); (· exact Ia4.out)) | ((with_reducible refine wpList_load_midG ?_ 27 (.tmp 34) ?_ (w.heap.size + 1) 89 ?_ (u8s b.tag) _ ?_ Tryz.underlying27 ?_ ?_ ?_); (· rfl); (· rfl); (· rfl); (· exact Rb4.out _ HB3.out); (· rfl); (· exact Ib4.out)))
          go_ret
          exact ⟨⟨false, rfl, by simp only [Bool.false_eq_true, false_iff]; exact fun h => G3.out h.2.2.2.1⟩, HB.out.trans (HB3.out.mono HB.out.size)⟩
      · have N2 := Y2
        have f2 := e2 false (by simp only [Bool.false_eq_true, false_iff]; exact N2)
        have G2 := Lib.hid N2
        clear N2 Y2
        go_enter Tryz.func25, Tryz.ntmps25
        go_wp2_with (first | ((with_reducible refine wpList_load_midG ?_ 24 (.tmp 18) ?_ w.heap.size 2 ?_ (u64s a.deps) _ ?_ Tryz.underlying24 ?_ ?_ ?_); (· rfl); (· rfl); (· rfl); (· exact Ra2.out _ (Below.refl _ _)); (· rfl); (· exact Ia2.out)) | ((with_reducible refine wpList_load_midG ?_ 24 (.tmp 20) ?_ (w.heap.size + 1) 2 ?_ (u64s b.deps) _ ?_ Tryz.underlying24 ?_ ?_ ?_); (· rfl); (· rfl); (· rfl); (· exact Rb2.out _ (Below.refl _ _)); (· rfl); (· exact Ib2.out)) | ((with_reducible refine wpList_load_midG ?_ 32 (.tmp 25) ?_ w.heap.size 13 ?_ (bodyC a.body) _ ?_ Tryz.underlying32 ?_ ?_ ?_); (· rfl); (· rfl); (· rfl); (· exact R25.out); (· rfl); (· exact I25.out)) | ((with_reducible refine wpList_load_midG ?_ 32 (.tmp 27) ?_ (w.heap.size + 1) 13 ?_ (bodyC b.body) _ ?_ Tryz.underlying32 ?_ ?_ ?_); (· rfl); (· rfl); (· rfl); (· exact R27.out); (· rfl); (· exact I27.out)) | (go_at_call 52; refine (HE.out _ HB.out).mono ?_; rintro E w3 ⟨rfl, hb3⟩; have HB3 := Lib.hid hb3; clear hb3) | ((with_reducible refine wpList_load_midG ?_ 27 (.tmp 32) ?_ w.heap.size 89 ?_ (u8s a.tag) _ ?_ Tryz.underlying27 ?_ ?_ ?_); (· rfl); (· rfl); (· rfl); (· exact Ra4.out _ HB3.out); (· rfl); (· exact Ia4.out)) | ((with_reducible refine wpList_load_midG ?_ 27 (.tmp 34) ?_ (w.heap.size + 1) 89 ?_ (u8s b.tag) _ ?_ Tryz.underlying27 ?_ ?_ ?_); (· rfl); (· rfl); (· rfl); (· exact Rb4.out _ HB3.out); (· rfl); (· exact Ib4.out)))
        go_ret
        exact ⟨⟨false, rfl, by simp only [Bool.false_eq_true, false_iff]; exact fun h => G2.out h.2.2.1⟩, HB.out⟩
    · have N1 := Y1
      have f1 : ¬ ((a.number : Int) = (b.number : Int)) := by omega
      have G1 := Lib.hid N1
      clear N1 Y1
      go_enter Tryz.func25, Tryz.ntmps25
      go_wp2_with (first | ((with_reducible refine wpList_load_midG ?_ 24 (.tmp 18) ?_ w.heap.size 2 ?_ (u64s a.deps) _ ?_ Tryz.underlying24 ?_ ?_ ?_); (· rfl); (· rfl); (· rfl); (· exact Ra2.out _ (Below.refl _ _)); (· rfl); (· exact Ia2.out)) | ((with_reducible refine wpList_load_midG ?_ 24 (.tmp 20) ?_ (w.heap.size + 1) 2 ?_ (u64s b.deps) _ ?_ Tryz.underlying24 ?_ ?_ ?_); (· rfl); (· rfl); (· rfl); (· exact Rb2.out _ (Below.refl _ _)); (· rfl); (· exact Ib2.out)) | ((with_reducible refine wpList_load_midG ?_ 32 (.tmp 25) ?_ w.heap.size 13 ?_ (bodyC a.body) _ ?_ Tryz.underlying32 ?_ ?_ ?_); (· rfl); (· rfl); (· rfl); (· exact R25.out); (· rfl); (· exact I25.out)) | ((with_reducible refine wpList_load_midG ?_ 32 (.tmp 27) ?_ (w.heap.size + 1) 13 ?_ (bodyC b.body) _ ?_ Tryz.underlying32 ?_ ?_ ?_); (· rfl); (· rfl); (· rfl); (· exact R27.out); (· rfl); (· exact I27.out)) | (go_at_call 52; refine (HE.out _ HB.out).mono ?_; rintro E w3 ⟨rfl, hb3⟩; have HB3 := Lib.hid hb3; clear hb3) | ((with_reducible refine wpList_load_midG ?_ 27 (.tmp 32) ?_ w.heap.size 89 ?_ (u8s a.tag) _ ?_ Tryz.underlying27 ?_ ?_ ?_); (· rfl); (· rfl); (· rfl); (· exact Ra4.out _ HB3.out); (· rfl); (· exact Ia4.out)) | ((with_reducible refine wpList_load_midG ?_ 27 (.tmp 34) ?_ (w.heap.size + 1) 89 ?_ (u8s b.tag) _ ?_ Tryz.underlying27 ?_ ?_ ?_); (· rfl); (· rfl); (· rfl); (· exact Rb4.out _ HB3.out); (· rfl); (· exact Ib4.out)))
      go_ret
      exact ⟨⟨false, rfl, by simp only [Bool.false_eq_true, false_iff]; exact fun h => G1.out h.2.1⟩, HB.out⟩
  · have N0 := Y0
    have f0 : ¬ (a.origin = b.origin) := N0
    have G0 := Lib.hid N0
    clear N0 Y0
    go_enter Tryz.func25, Tryz.ntmps25
    go_wp2_with (first | ((with_reducible refine wpList_load_midG ?_ 24 (.tmp 18) ?_ w.heap.size 2 ?_ (u64s a.deps) _ ?_ Tryz.underlying24 ?_ ?_ ?_); (· rfl); (· rfl); (· rfl); (· exact Ra2.out _ (Below.refl _ _)); (· rfl); (· exact Ia2.out)) | ((with_reducible refine wpList_load_midG ?_ 24 (.tmp 20) ?_ (w.heap.size + 1) 2 ?_ (u64s b.deps) _ ?_ Tryz.underlying24 ?_ ?_ ?_); (· rfl); (· rfl); (· rfl); (· exact Rb2.out _ (Below.refl _ _)); (· rfl); (· exact Ib2.out)) | ((with_reducible refine wpList_load_midG ?_ 32 (.tmp 25) ?_ w.heap.size 13 ?_ (bodyC a.body) _ ?_ Tryz.underlying32 ?_ ?_ ?_); (· rfl); (· rfl); (· rfl); (· exact R25.out); (· rfl); (· exact I25.out)) | ((with_reducible refine wpList_load_midG ?_ 32 (.tmp 27) ?_ (w.heap.size + 1) 13 ?_ (bodyC b.body) _ ?_ Tryz.underlying32 ?_ ?_ ?_); (· rfl); (· rfl); (· rfl); (· exact R27.out); (· rfl); (· exact I27.out)) | (go_at_call 52; refine (HE.out _ HB.out).mono ?_; rintro E w3 ⟨rfl, hb3⟩; have HB3 := Lib.hid hb3; clear hb3) | ((with_reducible refine wpList_load_midG ?_ 27 (.tmp 32) ?_ w.heap.size 89 ?_ (u8s a.tag) _ ?_ Tryz.underlying27 ?_ ?_ ?_); (· rfl); (· rfl); (· rfl); (· exact Ra4.out _ HB3.out); (· rfl); (· exact Ia4.out)) | ((with_reducible refine wpList_load_midG ?_ 27 (.tmp 34) ?_ (w.heap.size + 1) 89 ?_ (u8s b.tag) _ ?_ Tryz.underlying27 ?_ ?_ ?_); (· rfl); (· rfl); (· rfl); (· exact Rb4.out _ HB3.out); (· rfl); (· exact Ib4.out)))
    go_ret
    exact ⟨⟨false, rfl, by simp only [Bool.false_eq_true, false_iff]; exact fun h => G0.out h.1⟩, HB.out⟩
end Go.Proofs.YtghjogneogkpoaaGreatDoor.Sh
