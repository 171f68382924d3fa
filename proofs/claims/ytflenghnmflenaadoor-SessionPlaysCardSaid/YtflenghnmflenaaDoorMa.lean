/-
  What is proved: whether items are the same (Same); a key's value as it is listed (get); all items but those of two keys (others). Conditions as stated.
-/
import Derived.Test.YtflenghnmflenaaDoorLt
namespace Go.Proofs.YtflenghnmflenaaDoor
open Go.RowKit
set_option maxRecDepth 100000

theorem ret_bool {x y : Bool} (h : x = y) : Ending.returned (.bool x) = Ending.returned (.bool y) := by rw [h]
theorem it_cells {w w' : World} {b o : Nat} {p : It} {j : Nat} (h : w.cell? ⟨b, o + j * 2, none⟩ = some (.string p.1) ∧ w.cell? ⟨b, o + j * 2 + 1, none⟩ = some (.string p.2)) (hb : Below w.heap.size w w') (hl : b < w.heap.size) :
    w'.cell? ⟨b, o + j * 2, none⟩ = some (.string p.1) ∧ w'.cell? ⟨b, o + j * 2 + 1, none⟩ = some (.string p.2) :=
  ⟨(hb.cell (p := ⟨b, o + j * 2, none⟩) hl).trans h.1, (hb.cell (p := ⟨b, o + j * 2 + 1, none⟩) hl).trans h.2⟩
set_option maxHeartbeats 1000000 in
theorem same_any (A A' : Option Addr) (c c' : Nat) (xs ys : List It) (w : World) (hq : Its w A xs) (hp : Its w A' ys) (hn : xs.length ≤ 140737488355328) (hm : ys.length ≤ 140737488355328) :
    Calls Tryd.prog 19 #[.slice A xs.length c, .slice A' ys.length c'] w fun E w' => E = .returned (.bool (decide (xs = ys))) ∧ Below w.heap.size w w' := by
  have HQ := Lib.hid hq
  have HP := Lib.hid hp
  obtain ⟨n, hnn⟩ : ∃ n, n = xs.length := ⟨_, rfl⟩
  obtain ⟨m, hmm⟩ : ∃ n, n = ys.length := ⟨_, rfl⟩
  have HL := Lib.hid hnn
  have HM := Lib.hid hmm
  rw [← hnn] at hn ⊢
  rw [← hmm] at hm ⊢
  clear hq hp hnn hmm
  have HB0 := Lib.hid (Below.refl w.heap.size w)
  by_cases hnm : n = m
  · subst hnm
    have hno : ¬ ((n : Int) ≠ (n : Int)) := by omega
    go_enter Tryd.func19, Tryd.ntmps19
    go_wp2_with fail
    go_loopw [5] (fun v5 wr => ∃ j : Nat, j ≤ n ∧ v5 = .int .i64 (j : Int) ∧ Hid (Below w.heap.size w wr ∧ xs.take j = ys.take j)) (fun v5 _ => n - (intOf v5).toNat)
    case atStart => exact ⟨0, by omega, rfl, Lib.hid ⟨HB0.out, rfl⟩⟩
    case round =>
      obtain ⟨j, hj, rfl, HR⟩ := hrel
      by_cases hjj : j < n
      · obtain ⟨b, o, rfl, hbl, hc⟩ := HQ.out (by rw [← HL.out]; omega)
        obtain ⟨b', o', rfl, hbl', hc'⟩ := HP.out (by rw [← HM.out]; omega)
        obtain ⟨p, hp⟩ : ∃ p, xs[j]? = some p := ⟨_, List.getElem?_eq_getElem (by rw [← HL.out]; omega)⟩
        obtain ⟨q, hq⟩ : ∃ p, ys[j]? = some p := ⟨_, List.getElem?_eq_getElem (by rw [← HM.out]; omega)⟩
        obtain ⟨c0, c1⟩ := it_cells (hc j p hp) HR.out.1 hbl
        obtain ⟨d0, d1⟩ := it_cells (hc' j q hq) HR.out.1 hbl'
        have HE : Hid (p = q → xs.take (j + 1) = ys.take (j + 1)) := Lib.hid (fun e => by
          rw [List.take_add_one, List.take_add_one, HR.out.2, hp, hq, e])
        have HN : Hid (p ≠ q → xs ≠ ys) := Lib.hid (fun e h => e (by rw [h, hq] at hp; injection hp with h; exact h.symm))
        obtain ⟨x, y⟩ := p
        obtain ⟨x', y'⟩ := q
        clear hc hp hc' hq
        dsimp only at c0 c1 d0 d1
        by_cases he : (x, y) = (x', y')
        · have heq : ∀ w, (Op.equalIn 10000 64 (.agg #[.string x, .string y]) (.agg #[.string x', .string y'])).run Tryd.prog w = .ok true w := fun w => eq_item_of (d := 9998) (x, y) (x', y') (by simp only [true_iff]; exact he) w
          have hg := Tryd.guard64
          go_wp2_with fail
          go_quiet (fail)
          go_wp2_with fail
          go_roundw
          case measure => simp [intOf] <;> omega
          case rel => exact ⟨j + 1, by omega, by go_num, Lib.hid ⟨below_drewN HR.out.1 _, HE.out he⟩⟩
        · have heq : ∀ w, (Op.equalIn 10000 64 (.agg #[.string x, .string y]) (.agg #[.string x', .string y'])).run Tryd.prog w = .ok false w := fun w => eq_item_of (d := 9998) (x, y) (x', y') (by simp only [Bool.false_eq_true, false_iff]; exact he) w
          have hg := Tryd.guard64
          go_wp2_with fail
          go_quiet (fail)
          go_wp2_with fail
          go_ret
          exact ⟨ret_bool (by rw [decide_eq_false (HN.out he)]), below_drewN HR.out.1 _⟩
      · have HE : Hid (xs = ys) := Lib.hid (by
          have := HR.out.2
          rwa [List.take_of_length_le (by rw [← HL.out]; omega), List.take_of_length_le (by rw [← HM.out]; omega)] at this)
        go_wp2_with fail
        go_ret
        exact ⟨ret_bool (by rw [decide_eq_true HE.out]), HR.out.1⟩
  · have HN : Hid (xs ≠ ys) := Lib.hid (fun h => hnm (by rw [HL.out, HM.out, h]))
    have hno : ((n : Int) ≠ (m : Int)) := by omega
    go_enter Tryd.func19, Tryd.ntmps19
    go_wp2_with fail
    go_ret
    exact ⟨ret_bool (by rw [decide_eq_false HN.out]), HB0.out⟩

end Go.Proofs.YtflenghnmflenaaDoor
