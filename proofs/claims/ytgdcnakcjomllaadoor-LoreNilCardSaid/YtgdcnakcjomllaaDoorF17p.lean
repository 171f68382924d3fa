/-
  What is proved: the message of a number: Get. Conditions as stated.
-/
import Derived.Test.YtgdcnakcjomllaaDoorF12p
namespace Go.Proofs.YtgdcnakcjomllaaDoor.Sh
open Go.RowKit
set_option maxRecDepth 100000

theorem build_zeroMsg (w : World) : (Instr.build 34 #[]).run Tryd.prog w = .ok (.agg (msgC zeroMsg).toArray) w := by kernel_rfl
end Go.Proofs.YtgdcnakcjomllaaDoor.Sh
