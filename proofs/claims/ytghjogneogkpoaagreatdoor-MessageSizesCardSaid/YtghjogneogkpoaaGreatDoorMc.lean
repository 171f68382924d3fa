/-
  What is proved: when two rows of pairs are the same, as slices.Equal and the document tell it. Conditions as stated.
-/
import Derived.Test.YtghjogneogkpoaaGreatDoorMe
namespace Go.Proofs.YtghjogneogkpoaaGreatDoor.Sh
open Go.RowKit
set_option maxRecDepth 100000


theorem Tryz.guard54 : Tryz.prog.eqGuardType Tryz.prog.depth 54 = false := by kernel_rfl
theorem prs_cells {w w' : World} {b o : Nat} {p : Int × Nat} {j : Nat} (h : w.cell? ⟨b, o + j * 2, none⟩ = some (.int .i64 p.1) ∧ w.cell? ⟨b, o + j * 2 + 1, none⟩ = some (.int .u64 (p.2 : Int))) (hb : Below w.heap.size w w') (hl : b < w.heap.size) :
    w'.cell? ⟨b, o + j * 2, none⟩ = some (.int .i64 p.1) ∧ w'.cell? ⟨b, o + j * 2 + 1, none⟩ = some (.int .u64 (p.2 : Int)) :=
  ⟨(hb.cell (p := ⟨b, _, none⟩) hl).trans h.1, (hb.cell (p := ⟨b, _, none⟩) hl).trans h.2⟩
set_option maxHeartbeats 1000000 in
theorem equal_ms (A A' : Option Addr) (c c' : Nat) (qs ps : List (Int × Nat)) (w : World) (hq : Prs w A qs) (hp : Prs w A' ps) (hn : qs.length ≤ 140737488355328) (hm : ps.length ≤ 140737488355328) :
    Calls Tryz.prog 91 #[.slice A qs.length c, .slice A' ps.length c'] w fun E w' => E = .returned (.bool (decide (qs = ps))) ∧ Below w.heap.size w w' := by
  have HQ := Lib.hid hq
  have HP := Lib.hid hp
  obtain ⟨n, hnn⟩ : ∃ n, n = qs.length := ⟨_, rfl⟩
  obtain ⟨m, hmm⟩ : ∃ n, n = ps.length := ⟨_, rfl⟩
  have HL := Lib.hid hnn
  have HM := Lib.hid hmm
  rw [← hnn] at hn ⊢
  rw [← hmm] at hm ⊢
  clear hq hp hnn hmm
  have HB0 := Lib.hid (Below.refl w.heap.size w)
  by_cases hnm : n = m
  · subst hnm
    have hno : ¬ ((n : Int) ≠ (n : Int)) := by omega
    go_enter Tryz.func91, Tryz.ntmps91
    go_wp2_with fail
    go_loopw [13] (fun v13 wr => ∃ j : Nat, j ≤ n ∧ v13 = .int .i64 (j : Int) ∧ Hid (Below w.heap.size w wr ∧ qs.take j = ps.take j)) (fun v13 _ => n - (intOf v13).toNat)
    case atStart => exact ⟨0, by omega, rfl, Lib.hid ⟨HB0.out, rfl⟩⟩
    case round =>
      obtain ⟨j, hj, rfl, HR⟩ := hrel
      by_cases hjj : j < n
      · obtain ⟨b, o, rfl, hbl, hc⟩ := HQ.out (by rw [← HL.out]; omega)
        obtain ⟨b', o', rfl, hbl', hc'⟩ := HP.out (by rw [← HM.out]; omega)
        obtain ⟨p, hp⟩ : ∃ p, qs[j]? = some p := ⟨_, List.getElem?_eq_getElem (by rw [← HL.out]; omega)⟩
        obtain ⟨q, hq⟩ : ∃ p, ps[j]? = some p := ⟨_, List.getElem?_eq_getElem (by rw [← HM.out]; omega)⟩
        obtain ⟨c0, c1⟩ := prs_cells (hc j p hp) HR.out.1 hbl
        obtain ⟨d0, d1⟩ := prs_cells (hc' j q hq) HR.out.1 hbl'
        have HE : Hid (p = q → qs.take (j + 1) = ps.take (j + 1)) := Lib.hid (fun e => by
          rw [List.take_add_one, List.take_add_one, HR.out.2, hp, hq, e])
        have HN : Hid (p ≠ q → qs ≠ ps) := Lib.hid (fun e h => e (by rw [h, hq] at hp; injection hp with h; exact h.symm))
        obtain ⟨x, y⟩ := p
        obtain ⟨x', y'⟩ := q
        clear hc hp hc' hq
        dsimp only at c0 c1 d0 d1
        by_cases he : (x, y) = (x', y')
        · have heq : ∀ w, (Op.equalIn 10000 54 (.agg #[.int .i64 x, .int .u64 (y : Int)]) (.agg #[.int .i64 x', .int .u64 (y' : Int)])).run Tryz.prog w = .ok true w := fun w => eq_pair_of (d := 9998) x x' y y' (by simp only [true_iff]; exact he) w
          have hg := Tryz.guard54
          go_wp2_with fail
          go_quiet (fail)
          go_wp2_with fail
          go_roundw
          case measure => simp [intOf] <;> omega
          case rel => exact ⟨j + 1, by omega, by go_num, Lib.hid ⟨below_drewN HR.out.1 _, HE.out he⟩⟩
        · have heq : ∀ w, (Op.equalIn 10000 54 (.agg #[.int .i64 x, .int .u64 (y : Int)]) (.agg #[.int .i64 x', .int .u64 (y' : Int)])).run Tryz.prog w = .ok false w := fun w => eq_pair_of (d := 9998) x x' y y' (by simp only [Bool.false_eq_true, false_iff]; exact he) w
          have hg := Tryz.guard54
          go_wp2_with fail
          go_quiet (fail)
          go_wp2_with fail
          go_ret
          exact ⟨ret_bool (by rw [decide_eq_false (HN.out he)]), below_drewN HR.out.1 _⟩
      · have HE : Hid (qs = ps) := Lib.hid (by
          have := HR.out.2
          rwa [List.take_of_length_le (by rw [← HL.out]; omega), List.take_of_length_le (by rw [← HM.out]; omega)] at this)
        go_wp2_with fail
        go_ret
        exact ⟨ret_bool (by rw [decide_eq_true HE.out]), HR.out.1⟩
  · have HN : Hid (qs ≠ ps) := Lib.hid (fun h => hnm (by rw [HL.out, HM.out, h]))
    have hno : ((n : Int) ≠ (m : Int)) := by omega
    go_enter Tryz.func91, Tryz.ntmps91
    go_wp2_with fail
    go_ret
    exact ⟨ret_bool (by rw [decide_eq_false HN.out]), HB0.out⟩
end Go.Proofs.YtghjogneogkpoaaGreatDoor.Sh
