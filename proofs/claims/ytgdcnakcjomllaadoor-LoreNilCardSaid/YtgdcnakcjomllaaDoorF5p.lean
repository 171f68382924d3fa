/-
  What is proved: whether one of pairs, or of numbers, is as a function value asks. Conditions as stated.
-/
import Derived.Test.YtgdcnakcjomllaaDoorF3p
namespace Go.Proofs.YtgdcnakcjomllaaDoor.Sh
open Go.RowKit
set_option maxRecDepth 100000

/-! ### the two questions of names -/
set_option maxHeartbeats 2000000 in
theorem names1_any (x : Int) (y : Nat) (n b g : Nat) (w : World) (hg : w.cell? ⟨g, 0, none⟩ = some (.pointer (some ⟨b, 0, none⟩))) (hg2 : g < w.heap.size) (hn : w.cell? ⟨b, 0, none⟩ = some (.int .i64 (n : Int))) (hn2 : b < w.heap.size) :
    Calls Tryd.prog 29 #[.agg #[.int .i64 x, .int .u64 (y : Int)], .pointer (some ⟨g, 0, none⟩)] w fun E w' => E = .returned (.bool (decide (x > (n : Int)))) ∧ Below w.heap.size w w' := by
  have HB : Hid ((w.alloc (.cells #[.int .i64 x, .int .u64 (y : Int)] 67)).heap[w.heap.size]? = some (.cells #[.int .i64 x, .int .u64 (y : Int)] 67 (0, 0)) ∧ Below w.heap.size w (w.alloc (.cells #[.int .i64 x, .int .u64 (y : Int)] 67)) ∧ w.heap.size < (w.alloc (.cells #[.int .i64 x, .int .u64 (y : Int)] 67)).heap.size) := Lib.hid ⟨heap_alloc_new w _, (Below.refl _ _).alloc (Nat.le_refl _) _, by simp⟩
  obtain ⟨w0, hw0⟩ : ∃ w0, w0 = w.alloc (.cells #[.int .i64 x, .int .u64 (y : Int)] 67) := ⟨_, rfl⟩
  have HE := Lib.hid hw0
  have HG : Hid (w0.cell? ⟨g, 0, none⟩ = some (.pointer (some ⟨b, 0, none⟩)) ∧ g < w0.heap.size) := Lib.hid (by rw [hw0]; exact ⟨(HB.out.2.1.cell (p := ⟨g, 0, none⟩) hg2).trans hg, Nat.lt_of_lt_of_le hg2 HB.out.2.1.size⟩)
  have HN : Hid (w0.cell? ⟨b, 0, none⟩ = some (.int .i64 (n : Int)) ∧ b < w0.heap.size) := Lib.hid (by rw [hw0]; exact ⟨(HB.out.2.1.cell (p := ⟨b, 0, none⟩) hn2).trans hn, Nat.lt_of_lt_of_le hn2 HB.out.2.1.size⟩)
  rw [← hw0] at HB
  clear hw0 hg hg2 hn hn2
  go_enter Tryd.func29, Tryd.ntmps29
  go_wp2_with fail
  rw [← HE.out]
  refine wp_region_any (by kernel_rfl) ?_
  change wpAny _ _ _ _ _ _ _ (World.drewN _ 1)
  refine wpAny_of_held (S := fun W => Below w0.heap.size w0 W) _ _ _ _ ?_
  have H0 := Lib.hid (below_drewN (Below.refl w0.heap.size w0) 1)
  refine tk 0 ⟨some 4, .fieldAddr 67 (.tmp 2) 0, _, _, _, none⟩ (.pointer (some ⟨w.heap.size, 0, none⟩)) rfl (by kernel_rfl) (fun _ _ _ h => h) (H0.out) (fun W hSW => by go_simp) ?_
  try simp only [Act.put, l0, l1, l2]
  refine tk 1 ⟨some 5, .load 3 (.tmp 4), _, _, _, none⟩ (.int .i64 x) rfl (by kernel_rfl) (fun _ _ _ h => h) (H0.out) (fun W hSW => by have hv := (hSW.cell (p := ⟨w.heap.size, 0, none⟩) HB.out.2.2).trans (block_cell (C := [.int .i64 x, .int .u64 (y : Int)]) HB.out.1 0 _ rfl); go_simp) ?_
  try simp only [Act.put, l0, l1, l2]
  refine tk 2 ⟨some 6, .load 38 (.tmp 1), _, _, _, none⟩ (.pointer (some ⟨b, 0, none⟩)) rfl (by kernel_rfl) (fun _ _ _ h => h) (H0.out) (fun W hSW => by have hv := (hSW.cell (p := ⟨g, 0, none⟩) HG.out.2).trans HG.out.1; go_simp) ?_
  try simp only [Act.put, l0, l1, l2]
  refine tk 3 ⟨some 7, .nilCheck (.tmp 6), _, _, _, none⟩ (.pointer (some ⟨b, 0, none⟩)) rfl (by kernel_rfl) (fun _ _ _ h => h) (H0.out) (fun W hSW => by go_simp) ?_
  try simp only [Act.put, l0, l1, l2]
  refine tk 4 ⟨some 8, .fieldAddr 53 (.tmp 7) 0, _, _, _, none⟩ (.pointer (some ⟨b, 0, none⟩)) rfl (by kernel_rfl) (fun _ _ _ h => h) (H0.out) (fun W hSW => by go_simp) ?_
  try simp only [Act.put, l0, l1, l2]
  refine tk 5 ⟨some 9, .load 3 (.tmp 8), _, _, _, none⟩ (.int .i64 (n : Int)) rfl (by kernel_rfl) (fun _ _ _ h => h) (H0.out) (fun W hSW => by have hv := (hSW.cell (p := ⟨b, 0, none⟩) HN.out.2).trans HN.out.1; go_simp) ?_
  try simp only [Act.put, l0, l1, l2]
  refine tk 6 ⟨some 10, .binOp .gtr 3 (.tmp 5) (.tmp 9) 3, _, _, _, none⟩ (.bool (decide (x > (n : Int)))) rfl (by kernel_rfl) (fun _ _ _ h => h) (H0.out) (fun W hSW => by go_simp) ?_
  try simp only [Act.put, l0, l1, l2]
  refine tk 7 ⟨some 3, .assign (.tmp 10), _, _, _, none⟩ (.bool (decide (x > (n : Int)))) rfl (by kernel_rfl) (fun _ _ _ h => h) (H0.out) (fun W hSW => by go_simp) ?_
  try simp only [Act.put, l0, l1, l2]
  refine wpAnyH_done (by kernel_rfl) ?_ _
  go_wp2_with fail
  go_ret
  exact ⟨rfl, HB.out.2.1.trans (H0.out.mono HB.out.2.1.size)⟩
theorem names2_any (x : Nat) (w : World) : Calls Tryd.prog 30 #[.int .u64 (x : Int)] w fun E w' => E = .returned (.bool (decide (0 < x))) ∧ w = w' := by
  go_enter Tryd.func30, Tryd.ntmps30
  go_wp2
  go_ret
  exact ⟨rfl, rfl⟩
theorem take_any {α : Type} {p : α → Bool} {l : List α} {j : Nat} {x : α} (hx : l[j]? = some x) : ((l.take (j + 1)).any p) = ((l.take j).any p || p x) := by
  simp [List.take_add_one, hx]
theorem pair_range {W : World} {g o : Nat} {a c : Value} (h1 : W.cell? ⟨g, o, none⟩ = some a) (h2 : W.cell? ⟨g, o + 1, none⟩ = some c) : W.rangeAt g o [a, c] := fun j v hv => by
  match j, hv with
  | 0, hv => injection hv with hv; rw [← hv]; exact h1
  | 1, hv => injection hv with hv; rw [← hv]; exact h2
set_option maxHeartbeats 2000000 in
theorem ifP_any (A : Option Addr) (c : Nat) (qs : List (Int × Nat)) (n b g : Nat) (w : World) (hq : Prs w A qs) (hl : qs.length ≤ 140737488355328) (hg : w.cell? ⟨g, 0, none⟩ = some (.pointer (some ⟨b, 0, none⟩))) (hg2 : g < w.heap.size) (hn : w.cell? ⟨b, 0, none⟩ = some (.int .i64 (n : Int))) (hn2 : b < w.heap.size) :
    Calls Tryd.prog 44 #[.slice A qs.length c, .func (.func 29) #[] #[.pointer (some ⟨g, 0, none⟩)]] w fun E w' => (∃ r : Int, E = .returned (.int .i64 r) ∧ (0 ≤ r ↔ qs.any (fun p => decide (p.1 > (n : Int))) = true)) ∧ Below w.heap.size w w' := by
  have HQ := Lib.hid hq
  have HP := Lib.hid (fun (W : World) (hb : Below w.heap.size w W) (x : Int) (y : Nat) => names1_any x y n b g W ((hb.cell (p := ⟨g, 0, none⟩) hg2).trans hg) (Nat.lt_of_lt_of_le hg2 hb.size) ((hb.cell (p := ⟨b, 0, none⟩) hn2).trans hn) (Nat.lt_of_lt_of_le hn2 hb.size))
  have hent : ∀ v W, (callFunc 29 #[v, .pointer (some ⟨g, 0, none⟩)]).run Tryd.prog W = .ok (.enter 29 #[v, .pointer (some ⟨g, 0, none⟩)]) W := fun _ _ => by kernel_rfl
  obtain ⟨m, hm⟩ : ∃ m, m = qs.length := ⟨_, rfl⟩
  have HM := Lib.hid hm
  rw [← hm] at hl ⊢
  clear hq hg hg2 hn hn2 hm
  go_enter Tryd.func44, Tryd.ntmps44
  go_wp2_with fail
  go_loopw [8] (fun v8 wr => ∃ j : Nat, j ≤ m ∧ v8 = .int .i64 (j : Int) ∧ Hid ((qs.take j).any (fun p => decide (p.1 > (n : Int))) = false) ∧ Hid (Below w.heap.size w wr)) (fun v8 _ => m - (intOf v8).toNat)
  case atStart => exact ⟨0, by omega, rfl, Lib.hid rfl, Lib.hid (Below.refl _ _)⟩
  case round =>
    obtain ⟨j, hj, rfl, HF, D⟩ := hrel
    by_cases hjj : j < m
    · have hdec : decide ((j : Int) < (m : Int)) = true := decide_eq_true (by omega)
      have hj0 : (0 : Int) ≤ (j : Int) := by omega
      have hjn : (j : Int) < (m : Int) := by omega
      have htn : ((j : Int)).toNat = j := by omega
      have hw1 : IntKind.i64.wrap ((j : Int) + 1) = (j : Int) + 1 := by rw [IntKind.wrap_i64]; omega
      obtain ⟨p, hp⟩ : ∃ p, qs[j]? = some p := ⟨_, List.getElem?_eq_getElem (by rw [← HM.out]; omega)⟩
      obtain ⟨ab, o, rfl, hlt, hcs⟩ := HQ.out (by rw [← HM.out]; omega)
      have hp1 := (hcs j p hp)
      have HR : Hid (wr.rangeAt ab (o + j * 2) [.int .i64 p.1, .int .u64 (p.2 : Int)]) := Lib.hid (pair_range ((D.out.cell (p := ⟨ab, o + j * 2, none⟩) hlt).trans hp1.1) ((D.out.cell (p := ⟨ab, o + j * 2 + 1, none⟩) hlt).trans hp1.2))
      have HI : Hid ((Tryd.prog.info? 67).map (·.size) = some ([.int .i64 p.1, .int .u64 (p.2 : Int)] : List Value).length) := Lib.hid (by kernel_rfl)
      have HT := Lib.hid (take_any (p := (fun p : Int × Nat => decide (p.1 > (n : Int)))) hp)
      have HC := Lib.hid (HP.out wr D.out p.1 p.2)
      have HAny : Hid ((p.1 > (n : Int)) → qs.any (fun p => decide (p.1 > (n : Int))) = true) := Lib.hid fun h => List.any_eq_true.2 ⟨p, List.mem_of_getElem? hp, decide_eq_true h⟩
      clear hp hp1 hcs hlt
      by_cases hp0 : p.1 > (n : Int)
      · have HP0 := Lib.hid hp0
        have hd0 : decide (p.1 > (n : Int)) = true := decide_eq_true hp0
        rw [hd0] at HC
        clear hp0 hd0
        go_wp2_with (first | ((with_reducible refine wpList_load_midG ?_ 67 (.tmp 14) ?_ ab (o + j * 2) ?_ [.int .i64 p.1, .int .u64 (p.2 : Int)] _ ?_ Tryd.underlying67 ?_ ?_ ?_); rotate_left; (· rfl); (· rfl); (· exact HR.out); (· rfl); (· exact HI.out); rotate_left; (· rfl)) | (go_at_call 29; refine HC.out.mono ?_; rintro E w2 ⟨rfl, hb2⟩; have D2 := Lib.hid (D.out.trans (hb2.mono D.out.size)); clear hb2))
        go_ret
        exact ⟨⟨j, rfl, by rw [HAny.out HP0.out]; simp⟩, D2.out⟩
      · have hd0 : decide (p.1 > (n : Int)) = false := decide_eq_false hp0
        have HF2 : Hid ((qs.take (j + 1)).any (fun p => decide (p.1 > (n : Int))) = false) := Lib.hid (by rw [HT.out, HF.out, Bool.false_or]; exact hd0)
        rw [hd0] at HC
        clear hp0 hd0
        go_wp2_with (first | ((with_reducible refine wpList_load_midG ?_ 67 (.tmp 14) ?_ ab (o + j * 2) ?_ [.int .i64 p.1, .int .u64 (p.2 : Int)] _ ?_ Tryd.underlying67 ?_ ?_ ?_); rotate_left; (· rfl); (· rfl); (· exact HR.out); (· rfl); (· exact HI.out); rotate_left; (· rfl)) | (go_at_call 29; refine HC.out.mono ?_; rintro E w2 ⟨rfl, hb2⟩; have D2 := Lib.hid (D.out.trans (hb2.mono D.out.size)); clear hb2))
        go_roundw
        case measure => simp [intOf] <;> omega
        case rel => exact ⟨j + 1, by omega, by go_num, HF2, D2⟩
    · obtain rfl : j = m := by omega
      have HN0 : Hid (qs.any (fun p => decide (p.1 > (n : Int))) = false) := Lib.hid (by have := HF.out; rwa [HM.out, List.take_length] at this)
      go_wp2_with fail
      go_ret
      exact ⟨⟨-1, rfl, by rw [HN0.out]; simp⟩, D.out⟩
theorem cfP_any (A : Option Addr) (c : Nat) (qs : List (Int × Nat)) (n b g : Nat) (w : World) (hq : Prs w A qs) (hl : qs.length ≤ 140737488355328) (hg : w.cell? ⟨g, 0, none⟩ = some (.pointer (some ⟨b, 0, none⟩))) (hg2 : g < w.heap.size) (hn : w.cell? ⟨b, 0, none⟩ = some (.int .i64 (n : Int))) (hn2 : b < w.heap.size) :
    Calls Tryd.prog 31 #[.slice A qs.length c, .func (.func 29) #[] #[.pointer (some ⟨g, 0, none⟩)]] w fun E w' => E = .returned (.bool (qs.any (fun p => decide (p.1 > (n : Int))))) ∧ Below w.heap.size w w' := by
  have HC := Lib.hid (ifP_any A c qs n b g w hq hl hg hg2 hn hn2)
  obtain ⟨z, hz⟩ : ∃ z, z = qs.any (fun p => decide (p.1 > (n : Int))) := ⟨_, rfl⟩
  rw [← hz] at HC ⊢
  obtain ⟨m, hm⟩ : ∃ m, m = qs.length := ⟨_, rfl⟩
  rw [← hm] at HC ⊢
  clear hq hz hm hg hg2 hn hn2 hl
  go_enter Tryd.func31, Tryd.ntmps31
  go_wp2_with (go_at_call 44; refine HC.out.mono ?_)
  rintro E w2 ⟨⟨r, rfl, hr⟩, hb⟩
  have HB := Lib.hid hb
  clear hb HC
  cases z with
  | true =>
    have h0 : r ≥ 0 := hr.2 rfl
    clear hr
    go_wp2_with fail
    go_ret
    exact ⟨rfl, HB.out⟩
  | false =>
    have h0 : ¬ r ≥ 0 := fun h => by have := hr.1 h; cases this
    have h1 : decide (0 ≤ r) = false := decide_eq_false h0
    clear hr
    go_wp2_with fail
    go_ret
    exact ⟨rfl, HB.out⟩
set_option maxHeartbeats 2000000 in
theorem ifU_any (qs : List Nat) (ab o : Nat) (w : World) (hq : w.rangeAt ab o (u64s qs)) (hlt : ab < w.heap.size) (hl : qs.length ≤ 11) :
    Calls Tryd.prog 45 #[.slice (some ⟨ab, o, none⟩) qs.length qs.length, .func (.func 30) #[] #[]] w fun E w' => (∃ r : Int, E = .returned (.int .i64 r) ∧ (0 ≤ r ↔ qs.any (fun p => decide (0 < p)) = true)) ∧ Below w.heap.size w w' := by
  have HQ := Lib.hid (fun (j x : Nat) (h : qs[j]? = some x) => hq j (.int .u64 (x : Int)) (by simp [u64s, h]))
  have HLT := Lib.hid hlt
  have hent : ∀ v W, (callFunc 30 #[v]).run Tryd.prog W = .ok (.enter 30 #[v]) W := fun _ _ => by kernel_rfl
  obtain ⟨m, hm⟩ : ∃ m, m = qs.length := ⟨_, rfl⟩
  have HM := Lib.hid hm
  rw [← hm] at hl ⊢
  clear hq hlt hm
  go_enter Tryd.func45, Tryd.ntmps45
  go_wp2_with fail
  go_loopw [8] (fun v8 wr => ∃ j : Nat, j ≤ m ∧ v8 = .int .i64 (j : Int) ∧ Hid ((qs.take j).any (fun p => decide (0 < p)) = false) ∧ Hid (Below w.heap.size w wr)) (fun v8 _ => m - (intOf v8).toNat)
  case atStart => exact ⟨0, by omega, rfl, Lib.hid rfl, Lib.hid (Below.refl _ _)⟩
  case round =>
    obtain ⟨j, hj, rfl, HF, D⟩ := hrel
    by_cases hjj : j < m
    · have hdec : decide ((j : Int) < (m : Int)) = true := decide_eq_true (by omega)
      have hj0 : (0 : Int) ≤ (j : Int) := by omega
      have hjn : (j : Int) < (m : Int) := by omega
      have htn : ((j : Int)).toNat = j := by omega
      have hw1 : IntKind.i64.wrap ((j : Int) + 1) = (j : Int) + 1 := by rw [IntKind.wrap_i64]; omega
      obtain ⟨p, hp⟩ : ∃ p, qs[j]? = some p := ⟨_, List.getElem?_eq_getElem (by rw [← HM.out]; omega)⟩
      have hp1 := HQ.out j p hp
      have hc : wr.cell? ⟨ab, o + j, none⟩ = some (.int .u64 (p : Int)) := (D.out.cell (p := ⟨ab, o + j, none⟩) HLT.out).trans hp1
      have HT := Lib.hid (take_any (p := (fun p : Nat => decide (0 < p))) hp)
      have HC := Lib.hid (names2_any p wr)
      have HAny : Hid (0 < p → qs.any (fun p => decide (0 < p)) = true) := Lib.hid fun h => List.any_eq_true.2 ⟨p, List.mem_of_getElem? hp, decide_eq_true h⟩
      clear hp hp1
      by_cases hp0 : 0 < p
      · have HP0 := Lib.hid hp0
        have hd0 : decide (0 < p) = true := decide_eq_true hp0
        rw [hd0] at HC
        clear hp0 hd0
        go_wp2_with ((go_at_call 30; refine HC.out.mono ?_; rintro E w2 ⟨rfl, rfl⟩))
        go_ret
        exact ⟨⟨j, rfl, by rw [HAny.out HP0.out]; simp⟩, D.out⟩
      · have hd0 : decide (0 < p) = false := decide_eq_false hp0
        have HF2 : Hid ((qs.take (j + 1)).any (fun p => decide (0 < p)) = false) := Lib.hid (by rw [HT.out, HF.out, Bool.false_or]; exact hd0)
        rw [hd0] at HC
        clear hp0 hd0
        go_wp2_with ((go_at_call 30; refine HC.out.mono ?_; rintro E w2 ⟨rfl, rfl⟩))
        go_roundw
        case measure => simp [intOf] <;> omega
        case rel => exact ⟨j + 1, by omega, by go_num, HF2, D⟩
    · obtain rfl : j = m := by omega
      have HN0 : Hid (qs.any (fun p => decide (0 < p)) = false) := Lib.hid (by have := HF.out; rwa [HM.out, List.take_length] at this)
      go_wp2_with fail
      go_ret
      exact ⟨⟨-1, rfl, by rw [HN0.out]; simp⟩, D.out⟩
theorem cfU_any (qs : List Nat) (ab o : Nat) (w : World) (hq : w.rangeAt ab o (u64s qs)) (hlt : ab < w.heap.size) (hl : qs.length ≤ 11) :
    Calls Tryd.prog 32 #[.slice (some ⟨ab, o, none⟩) qs.length qs.length, .func (.func 30) #[] #[]] w fun E w' => E = .returned (.bool (qs.any (fun p => decide (0 < p)))) ∧ Below w.heap.size w w' := by
  have HC := Lib.hid (ifU_any qs ab o w hq hlt hl)
  obtain ⟨z, hz⟩ : ∃ z, z = qs.any (fun p => decide (0 < p)) := ⟨_, rfl⟩
  rw [← hz] at HC ⊢
  obtain ⟨m, hm⟩ : ∃ m, m = qs.length := ⟨_, rfl⟩
  rw [← hm] at HC ⊢
  clear hq hz hm hlt hl
  go_enter Tryd.func32, Tryd.ntmps32
  go_wp2_with (go_at_call 45; refine HC.out.mono ?_)
  rintro E w2 ⟨⟨r, rfl, hr⟩, hb⟩
  have HB := Lib.hid hb
  clear hb HC
  cases z with
  | true =>
    have h0 : r ≥ 0 := hr.2 rfl
    clear hr
    go_wp2_with fail
    go_ret
    exact ⟨rfl, HB.out⟩
  | false =>
    have h0 : ¬ r ≥ 0 := fun h => by have := hr.1 h; cases this
    have h1 : decide (0 ≤ r) = false := decide_eq_false h0
    clear hr
    go_wp2_with fail
    go_ret
    exact ⟨rfl, HB.out⟩
end Go.Proofs.YtgdcnakcjomllaaDoor.Sh
