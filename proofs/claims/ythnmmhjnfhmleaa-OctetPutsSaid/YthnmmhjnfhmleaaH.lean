/-
  What is proved: what is answered of no cut. No condition.
-/
import Derived.Test.YthnmmhjnfhmleaaG
namespace Go.Proofs.Ythnmmhjnfhmleaa
open Go.RowKit

theorem ok_nil (w : World) : Calls Try.prog 28 #[.pointer none] w fun e w' => e = .returned (.bool false) ∧ w = w' := by
  go_enter Try.func28, Try.ntmps28
  go_wp2
  go_ret
  exact ⟨rfl, rfl⟩

theorem take_nil (k : Int) (w : World) : Calls Try.prog 36 #[.pointer none, .int .i64 k] w fun e w' => e = .returned (.slice none 0 0) ∧ w = w' := by
  go_enter Try.func36, Try.ntmps36
  go_wp2_with (go_at_call 28; refine (ok_nil w).mono ?_; rintro e w1 ⟨rfl, rfl⟩)
  go_ret
  exact ⟨rfl, rfl⟩

theorem rest_nil (w : World) : Calls Try.prog 42 #[.pointer none] w fun e w' => e = .returned (.slice none 0 0) ∧ w = w' := by
  go_enter Try.func42, Try.ntmps42
  go_wp2
  go_ret
  exact ⟨rfl, rfl⟩

theorem left_nil (w : World) : Calls Try.prog 27 #[.pointer none] w fun e w' => e = .returned (.int .i64 0) ∧ w = w' := by
  go_enter Try.func27, Try.ntmps27
  go_wp2_with (go_at_call 42; refine (rest_nil w).mono ?_; rintro e w1 ⟨rfl, rfl⟩)
  go_ret
  exact ⟨rfl, rfl⟩

theorem cutNumber64_nil (w : World) : Calls Try.prog 35 #[.func (.func 36) #[.pointer none] #[]] w fun e w' => e = .returned (.int .u64 0) ∧ w = w' := by
  go_enter Try.func35, Try.ntmps35
  go_wp2_with (first
    | (go_at_call 45; refine (w8_any _).mono ?_; rintro e w1 ⟨rfl, rfl⟩)
    | (go_at_call 36; refine (take_nil 8 w).mono ?_; rintro e w1 ⟨rfl, rfl⟩))
  go_loop [3, 10] (fun v i => i = .int .i64 0 ∧ v = .int .u64 0) (fun _ _ => 0)
  case atStart => exact ⟨rfl, rfl⟩
  case round =>
    obtain ⟨rfl, rfl⟩ := hrel
    go_wp2
    go_ret
    exact ⟨rfl, rfl⟩

theorem cutNumber16_nil (w : World) : Calls Try.prog 38 #[.func (.func 36) #[.pointer none] #[]] w fun e w' => e = .returned (.int .u16 0) ∧ w = w' := by
  go_enter Try.func38, Try.ntmps38
  go_wp2_with (first
    | (go_at_call 44; refine (w2_any _).mono ?_; rintro e w1 ⟨rfl, rfl⟩)
    | (go_at_call 36; refine (take_nil 2 w).mono ?_; rintro e w1 ⟨rfl, rfl⟩))
  go_loop [3, 10] (fun v i => i = .int .i64 0 ∧ v = .int .u64 0) (fun _ _ => 0)
  case atStart => exact ⟨rfl, rfl⟩
  case round =>
    obtain ⟨rfl, rfl⟩ := hrel
    go_wp2
    go_ret
    exact ⟨rfl, rfl⟩

theorem cutNumber8_nil (w : World) : Calls Try.prog 39 #[.func (.func 36) #[.pointer none] #[]] w fun e w' => e = .returned (.int .u8 0) ∧ w = w' := by
  go_enter Try.func39, Try.ntmps39
  go_wp2_with (first
    | (go_at_call 46; refine (w1_any _).mono ?_; rintro e w1 ⟨rfl, rfl⟩)
    | (go_at_call 36; refine (take_nil 1 w).mono ?_; rintro e w1 ⟨rfl, rfl⟩))
  go_loop [3, 10] (fun v i => i = .int .i64 0 ∧ v = .int .u64 0) (fun _ _ => 0)
  case atStart => exact ⟨rfl, rfl⟩
  case round =>
    obtain ⟨rfl, rfl⟩ := hrel
    go_wp2
    go_ret
    exact ⟨rfl, rfl⟩

theorem word_nil (w : World) : Calls Try.prog 17 #[.pointer none] w fun e w' => e = .returned (.int .u64 0) ∧ w = w' := by
  go_enter Try.func17, Try.ntmps17
  go_wp2_with (go_at_call 35; refine (cutNumber64_nil w).mono ?_; rintro e w1 ⟨rfl, rfl⟩)
  go_ret
  exact ⟨rfl, rfl⟩

theorem half_nil (w : World) : Calls Try.prog 19 #[.pointer none] w fun e w' => e = .returned (.int .u16 0) ∧ w = w' := by
  go_enter Try.func19, Try.ntmps19
  go_wp2_with (go_at_call 38; refine (cutNumber16_nil w).mono ?_; rintro e w1 ⟨rfl, rfl⟩)
  go_ret
  exact ⟨rfl, rfl⟩

theorem byte_nil (w : World) : Calls Try.prog 21 #[.pointer none] w fun e w' => e = .returned (.int .u8 0) ∧ w = w' := by
  go_enter Try.func21, Try.ntmps21
  go_wp2_with (go_at_call 39; refine (cutNumber8_nil w).mono ?_; rintro e w1 ⟨rfl, rfl⟩)
  go_ret
  exact ⟨rfl, rfl⟩

theorem cutText_nil (k : Int) (w : World) : Calls Try.prog 40 #[.func (.func 36) #[.pointer none] #[], .int .i64 k] w fun e w' => e = .returned (.string { data := #[] }) ∧ w = w' := by
  go_enter Try.func40, Try.ntmps40
  go_wp2_with (go_at_call 36; refine (take_nil k w).mono ?_; rintro e w1 ⟨rfl, rfl⟩)
  go_ret
  exact ⟨rfl, rfl⟩

theorem text_nil (n : Int) (w : World) : Calls Try.prog 23 #[.pointer none, .int .i64 n] w fun e w' => e = .returned (.string { data := #[] }) ∧ Below w.heap.size w w' := by
  go_enter Try.func23, Try.ntmps23
  go_wp2_with (first
    | (go_at_call 42; refine (rest_nil w).mono ?_; rintro e w1 ⟨rfl, rfl⟩)
    | (go_at_call 41; refine (textSize_any none 0 0 [] n w (Rd.nil w) ⟨fun _ => ⟨rfl, rfl⟩, Nat.le_refl _, by omega⟩ (by omega) (fun _ h => (by cases h))).mono ?_; rintro e w2 ⟨rfl, hb⟩)
    | (go_at_call 40; refine (cutText_nil _ w2).mono ?_; rintro e w3 ⟨rfl, rfl⟩))
  go_ret
  exact ⟨rfl, hb⟩

theorem rawTake_nil (k : Int) (w : World) : Calls Try.prog 43 #[.func (.func 36) #[.pointer none] #[], .int .i64 k] w fun e w' => e = .returned (.slice none 0 0) ∧ w = w' := by
  go_enter Try.func43, Try.ntmps43
  go_wp2_with (first
    | (go_at_call 36; refine (take_nil k w).mono ?_; rintro e w1 ⟨rfl, rfl⟩)
    | (go_at_call 34; refine (clone_nil w).mono ?_; rintro e w1 ⟨rfl, rfl⟩))
  go_ret
  exact ⟨rfl, rfl⟩

theorem raw_nil (k : Int) (w : World) : Calls Try.prog 25 #[.pointer none, .int .i64 k] w fun e w' => e = .returned (.slice none 0 0) ∧ w = w' := by
  go_enter Try.func25, Try.ntmps25
  go_wp2_with (go_at_call 43; refine (rawTake_nil k w).mono ?_; rintro e w1 ⟨rfl, rfl⟩)
  go_ret
  exact ⟨rfl, rfl⟩

set_option maxHeartbeats 400000 in
theorem octetNil_any (n : Int) (w : World) : Calls Try.prog 6 #[.int .i64 n] w fun e w' => e = .returned (.bool true) ∧ Below w.heap.size w w' := by
  go_enter Try.func6, Try.ntmps6
  go_wp2_with (first
    | (go_at_call 17; go_must (refine (word_nil w).mono ?_); rintro e w1 ⟨rfl, rfl⟩)
    | (go_at_call 19; go_must (refine (half_nil w).mono ?_); rintro e w1 ⟨rfl, rfl⟩)
    | (go_at_call 21; go_must (refine (byte_nil w).mono ?_); rintro e w1 ⟨rfl, rfl⟩)
    | (go_at_call 23; go_must (refine (text_nil n w).mono ?_); rintro e w2 ⟨rfl, hb2⟩)
    | (go_at_call 25; go_must (refine (raw_nil n w2).mono ?_); rintro e w3 ⟨rfl, rfl⟩)
    | (go_at_call 27; go_must (refine (left_nil w2).mono ?_); rintro e w3 ⟨rfl, rfl⟩)
    | (go_at_call 28; go_must (refine (ok_nil w2).mono ?_); rintro e w3 ⟨rfl, rfl⟩)
    | (go_at_call 9; go_must (refine (works_any w2).mono ?_); rintro e w3 ⟨rfl, hb3⟩))
  go_ret
  exact ⟨rfl, hb2.trans (hb3.mono hb2.size)⟩

end Go.Proofs.Ythnmmhjnfhmleaa
