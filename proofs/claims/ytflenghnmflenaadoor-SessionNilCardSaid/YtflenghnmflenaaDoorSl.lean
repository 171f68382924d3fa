/-
  What is proved: SessionNil, of what came in. Conditions as stated.
-/
import Derived.Test.YtflenghnmflenaaDoorSj
import Derived.Test.YtflenghnmflenaaDoorSk
namespace Go.Proofs.YtflenghnmflenaaDoor
open Go.RowKit
def zRq : Value := .agg #[.int .i64 0, .int .u64 0, .int .u8 0, .string ByteArray.empty, .string ByteArray.empty, .string ByteArray.empty, .string ByteArray.empty, .int .u64 0, .int .u8 0, .int .u8 0, .int .u8 0, .int .u8 0, .int .u8 0, .int .u8 0, .int .u8 0, .int .u8 0, .int .u8 0, .int .u8 0, .int .u8 0, .int .u8 0, .int .u8 0, .int .u8 0, .int .u8 0, .int .u8 0, .int .u8 0, .int .u8 0, .int .u8 0, .int .u8 0, .int .u8 0, .int .u8 0, .int .u8 0, .int .u8 0, .int .u8 0, .int .u8 0, .int .u8 0, .int .u8 0, .int .u8 0, .int .u8 0, .int .u8 0, .int .u8 0]
theorem nil_in (W : World) (hv : Vars W) (v : Value) (h : ∃ q : MRq, v = .agg (rqC q).toArray ∧ q.tag.length = 32 ∧ (q.time < 18446744073709551616 ∧ q.op.amount < 18446744073709551616 ∧ (Lit.int .i64 q.client).wf = true)) : Calls Tryd.prog 5 #[v] W fun E w' => E = .returned (.bool true) ∧ Below W.heap.size W w' := by
  obtain ⟨q, rfl, ht, hn⟩ := h
  exact nil_walk hv q ht hn
end Go.Proofs.YtflenghnmflenaaDoor
