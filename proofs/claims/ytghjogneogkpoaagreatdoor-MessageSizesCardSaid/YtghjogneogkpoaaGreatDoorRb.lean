/-
  What is proved: whether a request, and a body, may be, by the document's own answers. Conditions as stated.
-/
import Derived.Test.YtghjogneogkpoaaGreatDoorRa
namespace Go.Proofs.YtghjogneogkpoaaGreatDoor.Sh
open Go.RowKit
set_option maxRecDepth 100000

set_option maxHeartbeats 4000000 in
theorem asked_rf (r : MReq) (w : World) : Calls Tryz.prog 28 #[.agg (reqC r).toArray] w fun E w' => E = .returned (.bool (reqMay r)) ∧ Below w.heap.size w w' := by
  have L := req_lies (range_box w (reqC r) 29)
  have HB : Hid (Below w.heap.size w (w.alloc (.cells (reqC r).toArray 29))) := Lib.hid ((Below.refl _ _).alloc (Nat.le_refl _) _)
  have c0 : (w.alloc (.cells (reqC r).toArray 29)).cell? ⟨w.heap.size, 0, none⟩ = some (.int .i64 r.client) := L.client
  have c1 : (w.alloc (.cells (reqC r).toArray 29)).cell? ⟨w.heap.size, 1, none⟩ = some (.int .u64 (r.time : Int)) := L.time
  have c3 : (w.alloc (.cells (reqC r).toArray 29)).cell? ⟨w.heap.size, 3, none⟩ = some (.string r.op.key) := L.op.key
  have c4 : (w.alloc (.cells (reqC r).toArray 29)).cell? ⟨w.heap.size, 4, none⟩ = some (.string r.op.value) := L.op.value
  have c5 : (w.alloc (.cells (reqC r).toArray 29)).cell? ⟨w.heap.size, 5, none⟩ = some (.string r.op.old) := L.op.old
  have c6 : (w.alloc (.cells (reqC r).toArray 29)).cell? ⟨w.heap.size, 6, none⟩ = some (.string r.op.to) := L.op.to
  clear L
  have e : reqMay r = (decide (1 ≤ r.client) && (decide (r.client ≤ 8) && (decide (1 ≤ (r.time : Int)) && (decide ((r.time : Int) ≤ 4611686018427387904) && (decide ((r.op.key.size : Int) ≤ 32) && (decide ((r.op.to.size : Int) ≤ 32) && (decide ((r.op.value.size : Int) ≤ 128) && decide ((r.op.old.size : Int) ≤ 128)))))))) := by
    rw [Bool.eq_iff_iff]
    simp only [reqMay, opMay, isCnt, Bool.and_eq_true, decide_eq_true_eq]
    omega
  rw [e]
  clear e
  by_cases h0 : 1 ≤ r.client
  · rw [decide_eq_true h0, Bool.true_and]
    by_cases h1 : r.client ≤ 8
    · rw [decide_eq_true h1, Bool.true_and]
      by_cases h2 : 1 ≤ (r.time : Int)
      · rw [decide_eq_true h2, Bool.true_and]
        have n2 : 1 ≤ r.time := by omega
        by_cases h3 : (r.time : Int) ≤ 4611686018427387904
        · rw [decide_eq_true h3, Bool.true_and]
          have n3 : r.time ≤ 4611686018427387904 := by omega
          by_cases h4 : (r.op.key.size : Int) ≤ 32
          · rw [decide_eq_true h4, Bool.true_and]
            have n4 : r.op.key.size ≤ 32 := by omega
            by_cases h5 : (r.op.to.size : Int) ≤ 32
            · rw [decide_eq_true h5, Bool.true_and]
              have n5 : r.op.to.size ≤ 32 := by omega
              by_cases h6 : (r.op.value.size : Int) ≤ 128
              · rw [decide_eq_true h6, Bool.true_and]
                have n6 : r.op.value.size ≤ 128 := by omega
                by_cases h7 : (r.op.old.size : Int) ≤ 128
                · rw [decide_eq_true h7]
                  have n7 : r.op.old.size ≤ 128 := by omega
                  go_enter Tryz.func28, Tryz.ntmps28
                  go_wp2_with fail
                  go_ret
                  exact ⟨rfl, HB.out⟩
                · rw [decide_eq_false h7]
                  have n7 : ¬ (r.op.old.size ≤ 128) := by omega
                  go_enter Tryz.func28, Tryz.ntmps28
                  go_wp2_with fail
                  go_ret
                  exact ⟨rfl, HB.out⟩
              · rw [decide_eq_false h6, Bool.false_and]
                have n6 : ¬ (r.op.value.size ≤ 128) := by omega
                go_enter Tryz.func28, Tryz.ntmps28
                go_wp2_with fail
                go_ret
                exact ⟨rfl, HB.out⟩
            · rw [decide_eq_false h5, Bool.false_and]
              have n5 : ¬ (r.op.to.size ≤ 32) := by omega
              go_enter Tryz.func28, Tryz.ntmps28
              go_wp2_with fail
              go_ret
              exact ⟨rfl, HB.out⟩
          · rw [decide_eq_false h4, Bool.false_and]
            have n4 : ¬ (r.op.key.size ≤ 32) := by omega
            go_enter Tryz.func28, Tryz.ntmps28
            go_wp2_with fail
            go_ret
            exact ⟨rfl, HB.out⟩
        · rw [decide_eq_false h3, Bool.false_and]
          have n3 : ¬ (r.time ≤ 4611686018427387904) := by omega
          go_enter Tryz.func28, Tryz.ntmps28
          go_wp2_with fail
          go_ret
          exact ⟨rfl, HB.out⟩
      · rw [decide_eq_false h2, Bool.false_and]
        have n2 : ¬ (1 ≤ r.time) := by omega
        go_enter Tryz.func28, Tryz.ntmps28
        go_wp2_with fail
        go_ret
        exact ⟨rfl, HB.out⟩
    · rw [decide_eq_false h1, Bool.false_and]
      go_enter Tryz.func28, Tryz.ntmps28
      go_wp2_with fail
      go_ret
      exact ⟨rfl, HB.out⟩
  · rw [decide_eq_false h0, Bool.false_and]
    go_enter Tryz.func28, Tryz.ntmps28
    go_wp2_with fail
    go_ret
    exact ⟨rfl, HB.out⟩
end Go.Proofs.YtghjogneogkpoaaGreatDoor.Sh
