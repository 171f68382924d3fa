/-
  What is proved: what the three width functions answer. No condition.
-/
import Derived.Test.YtfegffdhlkhjbaaOm
import Derived.WalkKit
import Derived.WalkSpells
import Derived.WalkLawsBesides
namespace Go.Proofs.Ytfegffdhlkhjbaa.Oct
open Go.RowKit

set_option maxRecDepth 1000000 in
theorem len64_max (w : World) : Calls Try.prog 73 #[.int .u64 18446744073709551615] w fun e w' => e = .returned (.int .i64 64) ∧ w = w' := by
  go_enter Try.func73, Try.ntmps73
  go_wp2
  go_ret
  exact ⟨by kernel_rfl, rfl⟩

set_option maxRecDepth 1000000 in
theorem len64_u16 (w : World) : Calls Try.prog 73 #[.int .u64 65535] w fun e w' => e = .returned (.int .i64 16) ∧ w = w' := by
  go_enter Try.func73, Try.ntmps73
  go_wp2
  go_ret
  exact ⟨by kernel_rfl, rfl⟩

theorem w8_any (w : World) : Calls Try.prog 63 #[] w fun e w' => e = .returned (.int .i64 8) ∧ w = w' := by
  go_enter Try.func63, Try.ntmps63
  go_wp2_with (go_at_call 73; refine (len64_max _).mono ?_; rintro e w' ⟨rfl, rfl⟩)
  go_ret
  exact ⟨rfl, rfl⟩

theorem w2_any (w : World) : Calls Try.prog 76 #[] w fun e w' => e = .returned (.int .i64 2) ∧ w = w' := by
  go_enter Try.func76, Try.ntmps76
  go_wp2_with (go_at_call 73; refine (len64_u16 _).mono ?_; rintro e w' ⟨rfl, rfl⟩)
  go_ret
  exact ⟨rfl, rfl⟩

end Go.Proofs.Ytfegffdhlkhjbaa.Oct
