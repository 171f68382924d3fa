/-
  What is proved: calls that only look at a past. Conditions as stated.
-/
import Derived.Test.YtolpkoeojljfaaaPc
namespace Go.Proofs.Ytolpkoeojljfaaa
open Go.RowKit
set_option maxRecDepth 100000

theorem PastAt.look {W : World} {b : Nat} {rv : Value} {mb : Option Nat} {p : MPast} (h : PastAt W b rv mb p) {v : Nat} (hv : v < 18446744073709551616) :
    (Instr.lookup 50 (.map mb) (.int .u64 (v : Int)) true).run Try.prog W = .ok (.tuple #[.int .i64 (((vot p.L v).getD 0 : Nat) : Int), .bool (vot p.L v).isSome]) W := by
  rcases h.mp with ⟨rfl, h1⟩ | ⟨k, rfl, h2⟩
  · rw [mapN_look W (u64_of (by omega)), h1]; rfl
  · rw [mapU_look h2 (u64_of (by omega)), vP_nat]
    cases vot p.L v <;> rfl
theorem great_any {W : World} {b : Nat} {rv : Value} {mb : Option Nat} {p : MPast} (h : PastAt W b rv mb p) : Calls Try.prog 12 #[.pointer (some ⟨b, 0, none⟩)] W fun E w' => E = .returned (.int .u64 (p.great : Int)) ∧ W = w' := by
  obtain ⟨_, _, c2⟩ := h.cells
  clear h
  go_enter Try.func12, Try.ntmps12
  go_wp2
  go_ret
  exact ⟨rfl, rfl⟩
theorem great_nil (W : World) : Calls Try.prog 12 #[.pointer none] W fun E w' => E = .returned (.int .u64 0) ∧ W = w' := by
  go_enter Try.func12, Try.ntmps12
  go_wp2
  go_ret
  exact ⟨rfl, rfl⟩
theorem voted_any {W : World} {b : Nat} {rv : Value} {mb : Option Nat} {p : MPast} (h : PastAt W b rv mb p) {v : Nat} (hv : v < 18446744073709551616) :
    Calls Try.prog 13 #[.pointer (some ⟨b, 0, none⟩), .int .u64 (v : Int)] W fun E w' => E = .returned (.tuple #[.int .i64 (((vot p.L v).getD 0 : Nat) : Int), .bool (vot p.L v).isSome]) ∧ W = w' := by
  obtain ⟨_, c1, _⟩ := h.cells
  have HL := Lib.hid (h.look hv)
  clear h hv
  generalize (((vot p.L v).getD 0 : Nat) : Int) = n at HL ⊢
  generalize (vot p.L v).isSome = s at HL ⊢
  go_enter Try.func13, Try.ntmps13
  go_wp2_with ((with_reducible refine wpList_look2 ?_ (.tmp 14) (.tmp 15) 50 ?_ (.map mb) (.int .u64 (v : Int)) _ ?_ ?_ HL.out ?_); (· rfl); (· rfl); (· rfl); (· rfl))
  exact bodyPost_ret (results_tmp2 rfl _ _ _) rfl ⟨rfl, rfl⟩
theorem voted_nil (W : World) (v : Int) : Calls Try.prog 13 #[.pointer none, .int .u64 v] W fun E w' => E = .returned (.tuple #[.int .i64 0, .bool false]) ∧ W = w' := by
  go_enter Try.func13, Try.ntmps13
  go_wp2
  exact bodyPost_ret (results_tmp2 rfl _ _ _) rfl ⟨rfl, rfl⟩
/-- Is a view open? -/
def opn (p : MPast) (v : Nat) : Bool := (vot p.L v).isSome && decide (v = p.great)
theorem open_any {W : World} {b : Nat} {rv : Value} {mb : Option Nat} {p : MPast} (h : PastAt W b rv mb p) {v : Nat} (hv : v < 18446744073709551616) :
    Calls Try.prog 26 #[.pointer (some ⟨b, 0, none⟩), .int .u64 (v : Int)] W fun E w' => E = .returned (.tuple #[.int .i64 (((vot p.L v).getD 0 : Nat) : Int), .bool (opn p v)]) ∧ ∃ n, w' = W.drewN n := by
  obtain ⟨_, _, c2⟩ := h.cells
  have HV := Lib.hid (voted_any h hv)
  clear h hv
  unfold opn
  generalize (((vot p.L v).getD 0 : Nat) : Int) = n at HV ⊢
  generalize (vot p.L v).isSome = s at HV ⊢
  generalize p.great = G at c2 ⊢
  cases s
  · go_enter Try.func26, Try.ntmps26
    go_wp2_with (go_at_call 13; refine HV.out.mono ?_; rintro E w1 ⟨rfl, rfl⟩)
    go_quiet (fail)
    go_wp2_with fail
    exact bodyPost_ret (results_tmp2 rfl _ _ _) rfl ⟨rfl, _, rfl⟩
  · by_cases e : v = G
    · have e1 : decide (v = G) = true := decide_eq_true e
      have e2 : ((v : Int) == (G : Int)) = true := by simp; omega
      clear e
      rw [e1]
      go_enter Try.func26, Try.ntmps26
      go_wp2_with (go_at_call 13; refine HV.out.mono ?_; rintro E w1 ⟨rfl, rfl⟩)
      go_quiet (fail)
      go_wp2_with fail
      exact bodyPost_ret (results_tmp2 rfl _ _ _) rfl ⟨rfl, _, rfl⟩
    · have e1 : decide (v = G) = false := decide_eq_false e
      have e2 : ((v : Int) == (G : Int)) = false := by simp; omega
      clear e
      rw [e1]
      go_enter Try.func26, Try.ntmps26
      go_wp2_with (go_at_call 13; refine HV.out.mono ?_; rintro E w1 ⟨rfl, rfl⟩)
      go_quiet (fail)
      go_wp2_with fail
      exact bodyPost_ret (results_tmp2 rfl _ _ _) rfl ⟨rfl, _, rfl⟩
end Go.Proofs.Ytolpkoeojljfaaa
