/-
  What is proved: LedgerNil, of what came in. Conditions as stated.
-/
import Derived.Test.YtejckimplihmiaaDoorLv
import Derived.Test.YtejckimplihmiaaDoorLw
namespace Go.Proofs.YtejckimplihmiaaDoor
open Go.RowKit
def zOp : Value := .agg #[.int .u8 0, .string ByteArray.empty, .string ByteArray.empty, .string ByteArray.empty, .string ByteArray.empty, .int .u64 0]
theorem nil_in (W : World) (hv : Vars W) (v : Value) (h : ∃ o : MOp, v = .agg (opC o).toArray ∧ o.amount < 18446744073709551616) : Calls Tryd.prog 5 #[v] W fun E w' => E = .returned (.bool true) ∧ Below W.heap.size W w' := by
  obtain ⟨o, rfl, _⟩ := h
  exact nil_walk o hv
end Go.Proofs.YtejckimplihmiaaDoor
