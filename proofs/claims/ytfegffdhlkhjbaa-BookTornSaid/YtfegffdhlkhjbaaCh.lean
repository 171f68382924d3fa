/-
  What is proved: what refuses, Format, Get do. Conditions as stated.
-/
import Derived.Test.YtfegffdhlkhjbaaCg
namespace Go.Proofs.Ytfegffdhlkhjbaa
open Go.RowKit
set_option maxRecDepth 100000

theorem refuses_cell {w : World} (d : Nat) (x : Int) (hx : 0 ≤ x ∧ x ≤ 32748) : Calls Try.prog 39 #[.agg #[.pointer (some ⟨d, 0, none⟩), .int .i64 x]] w fun E w' => E = .returned (.int .i64 0) ∧ Below w.heap.size w w' := by
  go_enter Try.func39, Try.ntmps39
  go_wp2
  go_ret
  exact ⟨rfl, (Below.refl _ _).alloc (Nat.le_refl _) _⟩
theorem nil_refuses_cell {w : World} (x : Int) : Calls Try.prog 39 #[.agg #[.pointer none, .int .i64 x]] w fun E w' => E = .returned (.int .i64 2) ∧ Below w.heap.size w w' := by
  go_enter Try.func39, Try.ntmps39
  go_wp2
  go_ret
  exact ⟨rfl, (Below.refl _ _).alloc (Nat.le_refl _) _⟩

/-! ### Get -/
def cellOf (d : Nat) (at' : Int) (A : Option Addr) (n c : Nat) (slot : Int) (failed : Bool) : Obj := .cells #[.pointer (some ⟨d, 0, none⟩), .int .i64 at', .slice A n c, .int .i64 slot, .bool failed] 81 (0, 0)
theorem cellOf_cells {w : World} {g d : Nat} {at' : Int} {A : Option Addr} {n c : Nat} {slot : Int} {failed : Bool} (h : w.heap[g]? = some (cellOf d at' A n c slot failed)) :
    w.cell? ⟨g, 0, none⟩ = some (.pointer (some ⟨d, 0, none⟩)) ∧ w.cell? ⟨g, 1, none⟩ = some (.int .i64 at') ∧ w.cell? ⟨g, 2, none⟩ = some (.slice A n c) ∧ w.cell? ⟨g, 3, none⟩ = some (.int .i64 slot) ∧ w.cell? ⟨g, 4, none⟩ = some (.bool failed) := by
  have h' : w.heap[g]? = some (.cells [.pointer (some ⟨d, 0, none⟩), .int .i64 at', .slice A n c, .int .i64 slot, .bool failed].toArray 81 (0, 0)) := h
  exact ⟨block_cell h' 0 _ rfl, block_cell h' 1 _ rfl, block_cell h' 2 _ rfl, block_cell h' 3 _ rfl, block_cell h' 4 _ rfl⟩
theorem get_any {w : World} {g d : Nat} {at' : Int} {A : Option Addr} {n c : Nat} {slot : Int} {failed : Bool} (h : w.heap[g]? = some (cellOf d at' A n c slot failed)) (bs : List UInt8) (hr : Oct.Rd w A n bs) (hs : Oct.Sl A n c) (hn : n ≤ 1100) :
    Calls Try.prog 23 #[.pointer (some ⟨g, 0, none⟩)] w fun E w' => ∃ A' c', E = .returned (.slice A' n c') ∧ w'.ownsRow w.heap.size 5 1 (.slice A' n c') n (u8s bs) ∧ Oct.Sl A' n c' ∧ Below w.heap.size w w' := by
  obtain ⟨-, -, c2, -⟩ := cellOf_cells h
  have HC := Lib.hid (Oct.clone_any A n c bs w hr hs (by omega))
  clear h hr hs
  go_enter Try.func23, Try.ntmps23
  go_wp2_with (first | (go_at_call 41; refine HC.out.mono ?_; rintro E w1 ⟨A', c', rfl, ho, hsl, hb⟩))
  go_ret
  exact ⟨A', c', rfl, ho, hsl, hb⟩
theorem nil_get (w : World) : Calls Try.prog 23 #[.pointer none] w fun E w' => E = .returned (.slice none 0 0) ∧ w = w' := by
  go_enter Try.func23, Try.ntmps23
  go_wp2
  go_ret
  exact ⟨rfl, rfl⟩
theorem nil_put (A : Option Addr) (n c : Nat) (w : World) : Calls Try.prog 26 #[.pointer none, .slice A n c] w fun E w' => E = .returned (.int .i64 2) ∧ w = w' := by
  go_enter Try.func26, Try.ntmps26
  go_wp2
  go_ret
  exact ⟨rfl, rfl⟩

/-! ### Format -/
theorem nil_format (x : Int) (w : World) : Calls Try.prog 24 #[.pointer none, .int .i64 x] w fun E w' => E = .returned (.int .i64 2) ∧ Below w.heap.size w w' := by
  go_enter Try.func24, Try.ntmps24
  go_wp2_with (first | (go_at_call 39; refine (nil_refuses_cell x).mono ?_; rintro E w1 ⟨rfl, hb⟩))
  go_ret
  exact ⟨rfl, ((Below.refl _ w).alloc (Nat.le_refl _) _).trans (hb.mono (by simp))⟩
theorem nil_open (x : Int) (w : World) : Calls Try.prog 22 #[.pointer none, .int .i64 x] w fun E w' => E = .returned (.tuple #[.pointer none, .int .i64 2]) ∧ Below w.heap.size w w' := by
  go_enter Try.func22, Try.ntmps22
  go_wp2_with (first | (go_at_call 39; refine (nil_refuses_cell x).mono ?_; rintro E w1 ⟨rfl, hb⟩))
  go_ret2
  exact ⟨rfl, ((Below.refl _ w).alloc (Nat.le_refl _) _).trans (hb.mono (by simp))⟩
end Go.Proofs.Ytfegffdhlkhjbaa
