/-
  What is proved: the walk of BookNil for whatever comes in. Conditions as stated.
-/
import Derived.Test.YtfegffdhlkhjbaaBp
namespace Go.Proofs.Ytfegffdhlkhjbaa
open Go.RowKit
set_option maxRecDepth 100000

theorem nil_blived (x size : Int) (w : World) : Calls Try.prog 25 #[.pointer none, .int .i64 x, .int .i64 size] w fun E w' => E = .returned (.tuple #[.pointer none, .int .u64 0, .int .i64 2]) ∧ w = w' := by
  go_enter Try.func25, Try.ntmps25
  go_wp2_with (first | (go_at_call 44; refine (nil_brefuses _ _).mono ?_; rintro E w1 ⟨rfl, rfl⟩))
  go_ret3
  exact ⟨rfl, rfl⟩
theorem nil_bopen (x size : Int) (w : World) : Calls Try.prog 12 #[.pointer none, .int .i64 x, .int .i64 size] w fun E w' => E = .returned (.tuple #[.pointer none, .slice none 0 0, .int .i64 2]) ∧ w = w' := by
  go_enter Try.func12, Try.ntmps12
  go_wp2_with (first | (go_at_call 25; refine (nil_blived _ _ _).mono ?_; rintro E w1 ⟨rfl, rfl⟩))
  go_ret3
  exact ⟨rfl, rfl⟩
theorem nil_bformat (x : Int) (w : World) : Calls Try.prog 10 #[.pointer none, .int .i64 x] w fun E w' => E = .returned (.int .i64 2) ∧ Below w.heap.size w w' :=
  bformat_any (nil_format x w) fun _ _ h => ⟨2, h.1⟩
theorem bookNil_walk (W : World) (x : Int) (_hx : (Lit.int .i64 x).wf = true) (z : Int) (_hz : (Lit.int .i64 z).wf = true) (A : Option Addr) (n c : Nat) (_h1 : ∃ bs, Rd (fun _ => True) W A n bs ∧ Sl A n c) :
    Calls Try.prog 4 #[.int .i64 x, .int .i64 z, .slice A n c] W fun E w' => E = .returned (.bool true) ∧ Below W.heap.size W w' := by
  have HW := Lib.hid works_any
  clear _h1 _hx _hz
  by_cases hn : n ≤ 8192
  · go_enter Try.func4, Try.ntmps4
    go_wp2_with (first
      | (go_at_call 12; refine (nil_bopen _ _ _).mono ?_; rintro E w1 ⟨rfl, rfl⟩)
      | (go_at_call 14; refine (nil_append _ _ _).mono ?_; rintro E w2 ⟨rfl, rfl⟩)
      | (go_at_call 17; refine nil_len.mono ?_; rintro E w3 ⟨rfl, rfl⟩)
      | (go_at_call 10; refine (nil_bformat _ _).mono ?_; rintro E w4 ⟨rfl, hb4⟩)
      | (go_at_call 8; refine (HW.out _).mono ?_; rintro E w5 ⟨rfl, hb5⟩))
    go_ret
    exact ⟨rfl, hb4.trans (hb5.mono hb4.size)⟩
  · go_enter Try.func4, Try.ntmps4
    go_wp2_with (first
      | (go_at_call 8; refine (HW.out _).mono ?_; rintro E w5 ⟨rfl, hb5⟩))
    go_ret
    exact ⟨rfl, hb5⟩
end Go.Proofs.Ytfegffdhlkhjbaa
