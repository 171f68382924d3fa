/-
  What is proved: whether a body may be (mayBody). Conditions as stated.
-/
import Derived.Test.YtghjogneogkpoaaGreatDoorMi
namespace Go.Proofs.YtghjogneogkpoaaGreatDoor.Sh
open Go.RowKit
set_option maxRecDepth 100000


theorem ownOf_ms (x : MBody) (w : World) (hx : x.Wf) (hq : Prs w x.qa x.qs) (hn : x.qs.length ≤ 140737488355328) :
    Calls Tryz.prog 62 #[.agg (bodyC x).toArray] w fun E w' => E = .returned (.tuple #[.agg (bodyC (bodyOwn x)).toArray, .bool (kindMay x)]) ∧ Hid (Below w.heap.size w w') := by
  by_cases h1 : x.kind = 1
  · have e1 : bodyOwn x = { zeroBody with kind := 1, view := x.view, req := x.req } := by simp [bodyOwn, h1]
    have e2 : kindMay x = reqMay x.req := by simp [kindMay, h1]
    rw [e1, e2]
    exact own_1 x w hx (Lib.hid h1)
  by_cases h2 : x.kind = 2
  · have e1 : bodyOwn x = { zeroBody with kind := 2, view := x.view, k := x.k } := by simp [bodyOwn, h2]
    have e2 : kindMay x = isCnt x.k := by simp [kindMay, h2]
    rw [e1, e2]
    exact own_2 x w hx (Lib.hid h2)
  by_cases h3 : x.kind = 3
  · have e1 : bodyOwn x = { zeroBody with kind := 3, view := x.view } := by simp [bodyOwn, h3]
    have e2 : kindMay x = decide (1 ≤ x.view) := by simp [kindMay, h3]
    rw [e1, e2]
    exact own_3 x w hx (Lib.hid h3)
  by_cases h4 : x.kind = 4
  · have e1 : bodyOwn x = { zeroBody with kind := 4, view := x.view, qa := x.qa, qc := x.qc, qs := x.qs } := by simp [bodyOwn, h4]
    by_cases hv : 1 ≤ x.view
    · have e2 : kindMay x = prsMay x.qs := by simp [kindMay, h4, hv]
      rw [e1, e2]
      exact own_4 x w hx (Lib.hid h4) hq hn (by omega)
    · have e2 : kindMay x = false := by simp [kindMay, h4, hv]
      rw [e1, e2]
      exact own_4n x w hx (Lib.hid h4) hq hn (by omega)
  by_cases h5 : x.kind = 5
  · have e1 : bodyOwn x = { zeroBody with kind := 5, view := x.view } := by simp [bodyOwn, h5]
    have e2 : kindMay x = decide (1 ≤ x.view) := by simp [kindMay, h5]
    rw [e1, e2]
    exact own_5 x w hx (Lib.hid h5)
  by_cases h6 : x.kind = 6
  · have e1 : bodyOwn x = { zeroBody with kind := 6, k := x.k, dig := x.dig } := by simp [bodyOwn, h6]
    have e2 : kindMay x = isCnt x.k := by simp [kindMay, h6]
    rw [e1, e2]
    exact own_6 x w hx (Lib.hid h6)
  · have e1 : bodyOwn x = { zeroBody with kind := x.kind, view := x.view } := by simp [bodyOwn, h1, h2, h4, h6]
    have e2 : kindMay x = false := by simp [kindMay, h1, h2, h3, h4, h5, h6]
    rw [e1, e2]
    have hne : ∀ (n : UInt8) (z : Int), z = (n.toNat : Int) → ¬ x.kind = n → ¬ ((x.kind.toNat : Int) = z) := fun n z hz h e => h (UInt8.toNat_inj.1 (by omega))
    exact own_x x w hx (hne 1 _ rfl h1) (hne 2 _ rfl h2) (hne 3 _ rfl h3) (hne 4 _ rfl h4) (hne 5 _ rfl h5) (hne 6 _ rfl h6)
theorem own_prs {w : World} {x : MBody} (h : Prs w x.qa x.qs) : Prs w (bodyOwn x).qa (bodyOwn x).qs := by
  have hz : Prs w none [] := fun h => absurd h (by simp)
  unfold bodyOwn
  split
  · exact hz
  split
  · exact hz
  split
  · exact h
  split
  · exact hz
  · exact hz
theorem own_len (x : MBody) : (bodyOwn x).qs.length ≤ x.qs.length := by
  unfold bodyOwn
  split
  · exact Nat.zero_le _
  split
  · exact Nat.zero_le _
  split
  · exact Nat.le_refl _
  split
  · exact Nat.zero_le _
  · exact Nat.zero_le _

/-- May a body be? -/
def MBody.may (x : MBody) : Prop := kindMay x = true ∧ x.view < 1073741824 ∧ x.same (bodyOwn x)
set_option maxHeartbeats 4000000 in
theorem mayBody_by (x : MBody) (w : World) (m z : Bool) (o : MBody) (hx : x.Wf) (ho : o.Wf)
    (A : ∀ W, Below w.heap.size w W → Calls Tryz.prog 62 #[.agg (bodyC x).toArray] W fun E w' => E = .returned (.tuple #[.agg (bodyC o).toArray, .bool m]) ∧ Hid (Below W.heap.size W w'))
    (B : ∀ W, Below w.heap.size w W → Calls Tryz.prog 63 #[.agg (bodyC x).toArray, .agg (bodyC o).toArray] W fun E w' => E = .returned (.bool z) ∧ Below W.heap.size W w') (v : Bool) (hv : v = decide ((x.view : Int) < 1073741824)) :
    Calls Tryz.prog 35 #[.agg (bodyC x).toArray] w fun E w' => E = .returned (.bool (m && (v && z))) ∧ Hid (Below w.heap.size w w') := by
  have HA := Lib.hid A
  have HB := Lib.hid B
  have HX := Lib.hid hx
  have HIX : Hid ((Tryz.prog.info? 32).map (·.size) = some (bodyC x).length) := Lib.hid (by rw [bodyC_length hx]; exact Tryz.is32)
  have HIO : Hid ((Tryz.prog.info? 32).map (·.size) = some (bodyC o).length) := Lib.hid (by rw [bodyC_length ho]; exact Tryz.is32)
  have hz : ∀ w, (zeroValue 32).run Tryz.prog w = .ok (.agg (bodyC zeroBody).toArray) w := zero_body
  have HLE : Hid (0 + (bodyC o).length ≤ (bodyC zeroBody).length ∧ setAll (bodyC zeroBody) 0 (bodyC o) = bodyC o) := Lib.hid ⟨by rw [bodyC_length zero_wf, bodyC_length ho]; omega, setAll_all (by rw [bodyC_length zero_wf, bodyC_length ho])⟩
  have R := range_box w (bodyC x) 32
  have HR : Hid (∀ W, Below (w.alloc (.cells (bodyC x).toArray 32)).heap.size (w.alloc (.cells (bodyC x).toArray 32)) W → W.rangeAt w.heap.size 0 (bodyC x)) := Lib.hid fun W h => rangeAt_below R h (by simp)
  have HB0 : Hid (Below w.heap.size w (w.alloc (.cells (bodyC x).toArray 32))) := Lib.hid ((Below.refl _ _).alloc (Nat.le_refl _) _)
  clear A B hx ho R
  go_enter Tryz.func35, Tryz.ntmps35
  cases m
  · go_wp2_with (first | ((with_reducible refine wpList_load_midG ?_ 32 (.tmp 1) ?_ w.heap.size 0 ?_ (bodyC x) _ ?_ Tryz.underlying32 ?_ ?_ ?_); (· rfl); (· rfl); (· rfl); (· exact HR.out _ (Below.refl _ _)); (· rfl); (· exact HIX.out)) | (go_at_call 62; refine (HA.out _ HB0.out).mono ?_; rintro E w1 ⟨rfl, hb1⟩; have HR2 : Hid ((w1.alloc (.cells (bodyC zeroBody).toArray 32)).heap[w1.heap.size]? = some (.cells (bodyC zeroBody).toArray 32 (0, 0))) := Lib.hid (heap_alloc_new _ _)) | (refine wpList_store_part rfl 32 (.tmp 3) (.tmp 8) rfl w1.heap.size 0 (bodyC zeroBody) (bodyC o) (bodyC o) 32 HR2.out HLE.out.1 HLE.out.2 rfl rfl HIO.out (one_bodyC _) ?_; intro w2 G2; have HBA2 : Hid (Below (w.alloc (.cells (bodyC x).toArray 32)).heap.size (w.alloc (.cells (bodyC x).toArray 32)) w2) := Lib.hid ((hb1.out.alloc hb1.out.size _).grown G2.out.2 (Nat.le_trans hb1.out.size (by simp)) (fun k hk => by injection hk with hk; rw [← hk]; exact hb1.out.size)); have HB2 : Hid (Below w.heap.size w w2) := Lib.hid (HB0.out.trans (HBA2.out.mono (by simp))); have hv1 : w2.cell? ⟨w.heap.size, 1, none⟩ = some (.int .u64 (x.view : Int)) := (body_lies (HR.out _ HBA2.out) HX.out).view) | ((with_reducible refine wpList_load_midG ?_ 32 (.tmp 1) ?_ w.heap.size 0 ?_ (bodyC x) _ ?_ Tryz.underlying32 ?_ ?_ ?_); (· rfl); (· rfl); (· rfl); (· exact HR.out _ HBA2.out); (· rfl); (· exact HIX.out)) | ((with_reducible refine wpList_load_midG ?_ 32 (.tmp 3) ?_ w1.heap.size 0 ?_ (bodyC o) _ ?_ Tryz.underlying32 ?_ ?_ ?_); (· rfl); (· rfl); (· rfl); (· exact range_of G2.out.1); (· rfl); (· exact HIO.out)) | (go_at_call 63; refine (HB.out _ HB2.out).mono ?_; rintro E w3 ⟨rfl, hb3⟩))
    go_ret
    exact ⟨rfl, HB2⟩
  · by_cases hvv : (x.view : Int) < 1073741824
    · have hv2 := Lib.hid (hv.trans (decide_eq_true hvv))
      clear hv
      go_wp2_with (first | ((with_reducible refine wpList_load_midG ?_ 32 (.tmp 1) ?_ w.heap.size 0 ?_ (bodyC x) _ ?_ Tryz.underlying32 ?_ ?_ ?_); (· rfl); (· rfl); (· rfl); (· exact HR.out _ (Below.refl _ _)); (· rfl); (· exact HIX.out)) | (go_at_call 62; refine (HA.out _ HB0.out).mono ?_; rintro E w1 ⟨rfl, hb1⟩; have HR2 : Hid ((w1.alloc (.cells (bodyC zeroBody).toArray 32)).heap[w1.heap.size]? = some (.cells (bodyC zeroBody).toArray 32 (0, 0))) := Lib.hid (heap_alloc_new _ _)) | (refine wpList_store_part rfl 32 (.tmp 3) (.tmp 8) rfl w1.heap.size 0 (bodyC zeroBody) (bodyC o) (bodyC o) 32 HR2.out HLE.out.1 HLE.out.2 rfl rfl HIO.out (one_bodyC _) ?_; intro w2 G2; have HBA2 : Hid (Below (w.alloc (.cells (bodyC x).toArray 32)).heap.size (w.alloc (.cells (bodyC x).toArray 32)) w2) := Lib.hid ((hb1.out.alloc hb1.out.size _).grown G2.out.2 (Nat.le_trans hb1.out.size (by simp)) (fun k hk => by injection hk with hk; rw [← hk]; exact hb1.out.size)); have HB2 : Hid (Below w.heap.size w w2) := Lib.hid (HB0.out.trans (HBA2.out.mono (by simp))); have hv1 : w2.cell? ⟨w.heap.size, 1, none⟩ = some (.int .u64 (x.view : Int)) := (body_lies (HR.out _ HBA2.out) HX.out).view) | ((with_reducible refine wpList_load_midG ?_ 32 (.tmp 1) ?_ w.heap.size 0 ?_ (bodyC x) _ ?_ Tryz.underlying32 ?_ ?_ ?_); (· rfl); (· rfl); (· rfl); (· exact HR.out _ HBA2.out); (· rfl); (· exact HIX.out)) | ((with_reducible refine wpList_load_midG ?_ 32 (.tmp 3) ?_ w1.heap.size 0 ?_ (bodyC o) _ ?_ Tryz.underlying32 ?_ ?_ ?_); (· rfl); (· rfl); (· rfl); (· exact range_of G2.out.1); (· rfl); (· exact HIO.out)) | (go_at_call 63; refine (HB.out _ HB2.out).mono ?_; rintro E w3 ⟨rfl, hb3⟩))
      go_ret
      rw [hv2.out]
      exact ⟨rfl, Lib.hid (HB2.out.trans (hb3.mono HB2.out.size))⟩
    · have hv2 := Lib.hid (hv.trans (decide_eq_false hvv))
      clear hv
      have hvn : ¬ x.view < 1073741824 := by omega
      have hvo : decide ((x.view : Int) < 1073741824) = false := decide_eq_false hvv
      go_wp2_with (first | ((with_reducible refine wpList_load_midG ?_ 32 (.tmp 1) ?_ w.heap.size 0 ?_ (bodyC x) _ ?_ Tryz.underlying32 ?_ ?_ ?_); (· rfl); (· rfl); (· rfl); (· exact HR.out _ (Below.refl _ _)); (· rfl); (· exact HIX.out)) | (go_at_call 62; refine (HA.out _ HB0.out).mono ?_; rintro E w1 ⟨rfl, hb1⟩; have HR2 : Hid ((w1.alloc (.cells (bodyC zeroBody).toArray 32)).heap[w1.heap.size]? = some (.cells (bodyC zeroBody).toArray 32 (0, 0))) := Lib.hid (heap_alloc_new _ _)) | (refine wpList_store_part rfl 32 (.tmp 3) (.tmp 8) rfl w1.heap.size 0 (bodyC zeroBody) (bodyC o) (bodyC o) 32 HR2.out HLE.out.1 HLE.out.2 rfl rfl HIO.out (one_bodyC _) ?_; intro w2 G2; have HBA2 : Hid (Below (w.alloc (.cells (bodyC x).toArray 32)).heap.size (w.alloc (.cells (bodyC x).toArray 32)) w2) := Lib.hid ((hb1.out.alloc hb1.out.size _).grown G2.out.2 (Nat.le_trans hb1.out.size (by simp)) (fun k hk => by injection hk with hk; rw [← hk]; exact hb1.out.size)); have HB2 : Hid (Below w.heap.size w w2) := Lib.hid (HB0.out.trans (HBA2.out.mono (by simp))); have hv1 : w2.cell? ⟨w.heap.size, 1, none⟩ = some (.int .u64 (x.view : Int)) := (body_lies (HR.out _ HBA2.out) HX.out).view) | ((with_reducible refine wpList_load_midG ?_ 32 (.tmp 1) ?_ w.heap.size 0 ?_ (bodyC x) _ ?_ Tryz.underlying32 ?_ ?_ ?_); (· rfl); (· rfl); (· rfl); (· exact HR.out _ HBA2.out); (· rfl); (· exact HIX.out)) | ((with_reducible refine wpList_load_midG ?_ 32 (.tmp 3) ?_ w1.heap.size 0 ?_ (bodyC o) _ ?_ Tryz.underlying32 ?_ ?_ ?_); (· rfl); (· rfl); (· rfl); (· exact range_of G2.out.1); (· rfl); (· exact HIO.out)) | (go_at_call 63; refine (HB.out _ HB2.out).mono ?_; rintro E w3 ⟨rfl, hb3⟩))
      go_ret
      rw [hv2.out]
      exact ⟨rfl, HB2⟩
theorem mayBody_ms (x : MBody) (w : World) (hx : x.Wf) (hq : Prs w x.qa x.qs) (hn : x.qs.length ≤ 140737488355328) :
    Calls Tryz.prog 35 #[.agg (bodyC x).toArray] w fun E w' => (∃ z, E = .returned (.bool z) ∧ (z = true ↔ x.may)) ∧ Hid (Below w.heap.size w w') := by
  have hS : ∀ W, Below w.heap.size w W → Calls Tryz.prog 63 #[.agg (bodyC x).toArray, .agg (bodyC (bodyOwn x)).toArray] W fun E w' => (∃ z, E = .returned (.bool z) ∧ (z = true ↔ x.same (bodyOwn x))) ∧ Below W.heap.size W w' := fun W h =>
    same_ms x (bodyOwn x) W hx (bodyOwn_wf hx) (hq.below h) (own_prs (hq.below h)) hn (Nat.le_trans (own_len x) hn)
  have hO : ∀ W, Below w.heap.size w W → Calls Tryz.prog 62 #[.agg (bodyC x).toArray] W fun E w' => E = .returned (.tuple #[.agg (bodyC (bodyOwn x)).toArray, .bool (kindMay x)]) ∧ Hid (Below W.heap.size W w') := fun W h => ownOf_ms x W hx (hq.below h) hn
  by_cases hs : x.same (bodyOwn x)
  · refine (mayBody_by x w (kindMay x) true (bodyOwn x) hx (bodyOwn_wf hx) hO (fun W h => (hS W h).mono fun E w' hE => ⟨bool_of hE.1 hs, hE.2⟩) (decide ((x.view : Int) < 1073741824)) rfl).mono fun E w' hE => ⟨⟨_, hE.1, ?_⟩, hE.2⟩
    simp only [Bool.and_true, Bool.and_eq_true, decide_eq_true_eq, MBody.may, hs, and_true]
    exact and_congr_right fun _ => by omega
  · refine (mayBody_by x w (kindMay x) false (bodyOwn x) hx (bodyOwn_wf hx) hO (fun W h => (hS W h).mono fun E w' hE => ⟨bool_not hE.1 hs, hE.2⟩) (decide ((x.view : Int) < 1073741824)) rfl).mono fun E w' hE => ⟨⟨_, hE.1, ?_⟩, hE.2⟩
    simp only [Bool.and_false, MBody.may, hs, and_false, Bool.false_eq_true]
end Go.Proofs.YtghjogneogkpoaaGreatDoor.Sh
