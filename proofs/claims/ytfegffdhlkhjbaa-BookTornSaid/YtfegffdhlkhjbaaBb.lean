/-
  What is proved: a book in memory; the calls that only look at it, or turn its own cells. Conditions as stated.
-/
import Derived.Test.YtfegffdhlkhjbaaBa
namespace Go.Proofs.Ytfegffdhlkhjbaa
open Go.RowKit
set_option maxRecDepth 100000

def bookOf (d : Nat) (life : Nat) (count next stop : Int) (failed : Bool) : Obj := .cells #[.pointer (some ⟨d, 0, none⟩), .int .u64 (life : Int), .int .i64 count, .int .i64 next, .int .i64 stop, .bool failed] 68 (0, 0)
section
variable {w : World} {g d life : Nat} {count next stop : Int} {failed : Bool}
theorem bookOf_cells (h : w.heap[g]? = some (bookOf d life count next stop failed)) :
    w.cell? ⟨g, 0, none⟩ = some (.pointer (some ⟨d, 0, none⟩)) ∧ w.cell? ⟨g, 1, none⟩ = some (.int .u64 (life : Int)) ∧ w.cell? ⟨g, 2, none⟩ = some (.int .i64 count) ∧ w.cell? ⟨g, 3, none⟩ = some (.int .i64 next) ∧ w.cell? ⟨g, 4, none⟩ = some (.int .i64 stop) ∧ w.cell? ⟨g, 5, none⟩ = some (.bool failed) := by
  have c := fun (k : Nat) (v : Value) (hv : ([.pointer (some ⟨d, 0, none⟩), .int .u64 (life : Int), .int .i64 count, .int .i64 next, .int .i64 stop, .bool failed] : List Value)[k]? = some v) => block_cell (C := [.pointer (some ⟨d, 0, none⟩), .int .u64 (life : Int), .int .i64 count, .int .i64 next, .int .i64 stop, .bool failed]) h k v hv
  exact ⟨c 0 _ rfl, c 1 _ rfl, c 2 _ rfl, c 3 _ rfl, c 4 _ rfl, c 5 _ rfl⟩
theorem bookOf_free (h : w.heap[g]? = some (bookOf d life count next stop failed)) (k : Nat) : w.frozen? ⟨g, k, none⟩ = false :=
  free_block (C := #[.pointer (some ⟨d, 0, none⟩), .int .u64 (life : Int), .int .i64 count, .int .i64 next, .int .i64 stop, .bool failed]) h k
theorem bookOf_fail (h : w.heap[g]? = some (bookOf d life count next stop failed)) (b : Bool) : (w.setCell ⟨g, 5, none⟩ (.bool b)).heap[g]? = some (bookOf d life count next stop b) :=
  heap_set (C := [.pointer (some ⟨d, 0, none⟩), .int .u64 (life : Int), .int .i64 count, .int .i64 next, .int .i64 stop, .bool failed]) h (k := 5) (.bool b)
theorem bookOf_turn (h : w.heap[g]? = some (bookOf d life count next stop failed)) (n2 c2 : Int) : ((w.setCell ⟨g, 3, none⟩ (.int .i64 n2)).setCell ⟨g, 2, none⟩ (.int .i64 c2)).heap[g]? = some (bookOf d life c2 n2 stop failed) :=
  heap_set (C := [.pointer (some ⟨d, 0, none⟩), .int .u64 (life : Int), .int .i64 count, .int .i64 n2, .int .i64 stop, .bool failed]) (heap_set (C := [.pointer (some ⟨d, 0, none⟩), .int .u64 (life : Int), .int .i64 count, .int .i64 next, .int .i64 stop, .bool failed]) h (k := 3) (.int .i64 n2)) (k := 2) (.int .i64 c2)
end

/-- Format is the cell's. -/
theorem bformat_any {v : Value} {x : Int} {w : World} {Q : Ending → World → Prop} (h : Calls Try.prog 24 #[v, .int .i64 x] w Q) (hQ : ∀ E w', Q E w' → ∃ e : Int, E = .returned (.int .i64 e)) : Calls Try.prog 10 #[v, .int .i64 x] w Q := by
  have H := Lib.hid h
  clear h
  go_enter Try.func10, Try.ntmps10
  go_wp2_with fail
  refine H.out.mono ?_
  rintro E w1 hq
  obtain ⟨e, rfl⟩ := hQ _ _ hq
  go_wp2
  exact hq

/-- May a book stand there? -/
def bookBad (x size : Int) : Bool := decide (size ≤ 20) || (decide (x < 0) || decide (32768 - size < x))
theorem brefuses_any {w : World} (d : Nat) (x size : Int) (hz : size < 9223372036854775808) : Calls Try.prog 44 #[.pointer (some ⟨d, 0, none⟩), .int .i64 x, .int .i64 size] w fun E w' => E = .returned (.int .i64 (if bookBad x size then 1 else 0)) ∧ w = w' := by
  unfold bookBad
  by_cases h1 : size ≤ 20
  · simp only [h1, decide_true, Bool.true_or, if_true]
    go_enter Try.func44, Try.ntmps44
    go_wp2
    go_ret
    exact ⟨rfl, rfl⟩
  · by_cases h2 : x < 0
    · simp only [h1, h2, decide_true, decide_false, Bool.true_or, Bool.or_true, if_true]
      go_enter Try.func44, Try.ntmps44
      go_wp2
      go_ret
      exact ⟨rfl, rfl⟩
    · by_cases h3 : 32768 - size < x
      · simp only [h1, h2, h3, decide_true, decide_false, Bool.or_true, if_true]
        go_enter Try.func44, Try.ntmps44
        go_wp2
        go_ret
        exact ⟨rfl, rfl⟩
      · simp only [h1, h2, h3, decide_false, Bool.false_or, Bool.false_eq_true, if_false]
        go_enter Try.func44, Try.ntmps44
        go_wp2
        go_ret
        exact ⟨rfl, rfl⟩
theorem nil_brefuses {w : World} (x size : Int) : Calls Try.prog 44 #[.pointer none, .int .i64 x, .int .i64 size] w fun E w' => E = .returned (.int .i64 2) ∧ w = w' := by
  go_enter Try.func44, Try.ntmps44
  go_wp2
  go_ret
  exact ⟨rfl, rfl⟩

theorem begun_any {w : World} (d : Nat) (x size : Int) (life : Nat) (hx : 0 ≤ x ∧ x ≤ 32768) (hz : 0 ≤ size ∧ size ≤ 32768) : Calls Try.prog 28 #[.pointer (some ⟨d, 0, none⟩), .int .i64 x, .int .i64 size, .int .u64 (life : Int)] w fun E w' =>
    E = .returned (.pointer (some ⟨w.heap.size, 0, none⟩)) ∧ w' = w.alloc (bookOf d life 0 (x + 20) (x + size) false) := by
  go_enter Try.func28, Try.ntmps28
  go_wp2
  go_ret
  exact ⟨rfl, rfl⟩
theorem left_b {w : World} {g d life : Nat} {count next stop : Int} {failed : Bool} (h : w.heap[g]? = some (bookOf d life count next stop failed)) (hn : 0 ≤ next ∧ next ≤ 32768) (hs : 0 ≤ stop ∧ stop ≤ 32768) :
    Calls Try.prog 31 #[.pointer (some ⟨g, 0, none⟩)] w fun E w' => E = .returned (.int .i64 (stop - next)) ∧ ∃ q, w' = w.drewN q := by
  obtain ⟨c0, c1, c2, c3, c4, c5⟩ := bookOf_cells h
  clear h
  go_enter Try.func31, Try.ntmps31
  go_wp2
  go_quiet (fail)
  go_wp2
  go_ret
  exact ⟨rfl, _, rfl⟩
theorem turn_b {w : World} {g d life : Nat} {count next stop : Int} {failed : Bool} (h : w.heap[g]? = some (bookOf d life count next stop failed)) (p : Int) (hn : 0 ≤ next ∧ next ≤ 32768) (hp : 0 ≤ p ∧ p ≤ 65536) (hc : 0 ≤ count ∧ count ≤ 1000000000) :
    Calls Try.prog 33 #[.pointer (some ⟨g, 0, none⟩), .int .i64 p] w fun E w' => E = .returned (.tuple #[]) ∧ w'.heap[g]? = some (bookOf d life (count + 1) (next + p) stop failed) ∧ w.grownBy w' (some g) := by
  obtain ⟨c0, c1, c2, c3, c4, c5⟩ := bookOf_cells h
  have f2 := bookOf_free h 2
  have f3 := bookOf_free h 3
  have H := Lib.hid h
  clear h
  go_enter Try.func33, Try.ntmps33
  go_wp2
  exact bodyPost_end (results_none rfl _ _ _) rfl ⟨rfl, bookOf_turn H.out _ _, Oct.grownBy_trans (Oct.grownBy_set _ _ _ _) (Oct.grownBy_set _ _ _ _)⟩
theorem len_b {w : World} {g d life : Nat} {count next stop : Int} {failed : Bool} (h : w.heap[g]? = some (bookOf d life count next stop failed)) :
    Calls Try.prog 17 #[.pointer (some ⟨g, 0, none⟩)] w fun E w' => E = .returned (.int .i64 count) ∧ w = w' := by
  obtain ⟨c0, c1, c2, c3, c4, c5⟩ := bookOf_cells h
  clear h
  go_enter Try.func17, Try.ntmps17
  go_wp2
  go_ret
  exact ⟨rfl, rfl⟩
theorem nil_len {w : World} : Calls Try.prog 17 #[.pointer none] w fun E w' => E = .returned (.int .i64 0) ∧ w = w' := by
  go_enter Try.func17, Try.ntmps17
  go_wp2
  go_ret
  exact ⟨rfl, rfl⟩
theorem nil_append {w : World} (A : Option Addr) (n c : Nat) : Calls Try.prog 14 #[.pointer none, .slice A n c] w fun E w' => E = .returned (.int .i64 2) ∧ w = w' := by
  go_enter Try.func14, Try.ntmps14
  go_wp2
  go_ret
  exact ⟨rfl, rfl⟩
theorem pagesOf_any {w : World} (n : Nat) (hn : n ≤ 140737488355328) : Calls Try.prog 30 #[.int .i64 (n : Int)] w fun E w' => E = .returned (.int .i64 (pagesN n : Int)) ∧ w = w' := by
  go_enter Try.func30, Try.ntmps30
  go_wp2
  go_ret
  refine ⟨?_, rfl⟩
  change Ending.returned (.int .i64 ((2 + (n : Int) + 108 - 1) / 108)) = _
  unfold pagesN
  congr 2
  omega

/-! ### heads -/
def headV (h : Nat × Nat × Nat × Nat) : List Value := [.int .u64 (h.1 : Int), .int .u64 (h.2.1 : Int), .int .u16 (h.2.2.1 : Int), .int .u16 (h.2.2.2 : Int)]
theorem Try.size94 : (Try.prog.info? 94).map (·.size) = some 4 := by kernel_rfl
theorem headV_one (h : Nat × Nat × Nat × Nat) : ∀ v ∈ headV h, v.oneCell' = true := by
  intro v hv
  simp only [headV, List.mem_cons, List.not_mem_nil, or_false] at hv
  rcases hv with rfl | rfl | rfl | rfl <;> rfl
theorem first_b {w : World} {g d life : Nat} {next stop : Int} {failed : Bool} (c : Nat) (h : w.heap[g]? = some (bookOf d life (c : Int) next stop failed)) (l p : Nat) (hc : c + 1 < 1000000000) :
    Calls Try.prog 52 #[.pointer (some ⟨g, 0, none⟩), .int .u64 (l : Int), .int .u16 (p : Int)] w fun E w' => E = .returned (.agg (headV (l, c + 1, 0, p)).toArray) ∧ Below w.heap.size w w' := by
  have h' : (w.alloc (.cells #[.int .u64 0, .int .u64 0, .int .u16 0, .int .u16 0] 94)).heap[g]? = some (bookOf d life (c : Int) next stop failed) := (heap_alloc_old w _ (Array.getElem?_eq_some_iff.1 h).1).trans h
  obtain ⟨c0, c1, c2, c3, c4, c5⟩ := bookOf_cells h'
  clear h h'
  go_enter Try.func52, Try.ntmps52
  go_wp2
  have hB := row_new w (headV (l, c + 1, 0, p)) 94
  exact bodyPost_ret (ret_range (cs := headV (l, c + 1, 0, p)) rfl rfl (range_block hB 0 _ (fun j v hv => by rw [Nat.zero_add]; exact hv)) Try.underlying94 rfl Try.size94) rfl ⟨rfl, (Below.refl _ _).alloc (Nat.le_refl _) _⟩
end Go.Proofs.Ytfegffdhlkhjbaa
