/-
  What is proved: LoreNil, of what came in. Conditions as stated.
-/
import Derived.Test.YtgdcnakcjomllaaDoorF22p
import Derived.Test.YtgdcnakcjomllaaDoorFbp
namespace Go.Proofs.YtgdcnakcjomllaaDoor.Sh
open Go.RowKit
set_option maxRecDepth 100000


theorem nil_in (W : World) (hk : KIs W) (h0 : 0 < W.heap.size) (v : Value) (h : ∃ m : MMsg, v = .agg (msgC m).toArray ∧ m.Wf ∧ Prs W m.body.qa m.body.qs ∧ m.body.req.op.amount < 18446744073709551616) :
    Calls Tryd.prog 3 #[v] W fun E w' => E = .returned (.bool true) ∧ Below W.heap.size W w' := by
  obtain ⟨m, rfl, hm, hq, _⟩ := h
  exact nil_walk hk h0 m hm hq
end Go.Proofs.YtgdcnakcjomllaaDoor.Sh
