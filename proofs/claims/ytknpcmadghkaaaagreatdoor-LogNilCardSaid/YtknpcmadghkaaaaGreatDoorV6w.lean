/- Laws and walks. -/
import Derived.Test.YtknpcmadghkaaaaGreatDoorS8w
import Derived.Test.YtknpcmadghkaaaaGreatDoorV3w
import Derived.Test.YtknpcmadghkaaaaGreatDoorV5w
set_option maxHeartbeats 16000000
set_option maxRecDepth 100000
namespace Go.Proofs.YtknpcmadghkaaaaGreatDoor
open Go.RowKit
theorem exec_load_mid {P : Program} {o : Oper} {f : Operand -> Value} {w : World} (ty : TypeId) (x : Operand) (ho : o.op = .load ty x) (b off : Nat) (hx : f x = .pointer (some ⟨b, off, none⟩)) (cs : List Value) (d : TypeDesc)
  (hc : w.rangeAt b off cs) (hu : P.underlying ty = some d) (hd : d.isRow = true) (hi : (P.info? ty).map (·.size) = some cs.length) : (execOp f o).run P w = .ok (.value (.agg cs.toArray)) w := by
 unfold execOp
 simp only [ho, hx, Instr.loadAt, Instr.sureAddr, Sem.run_bind, Sem.run_pure, Result.andThen_ok, run_loadVar_mid w b off ty cs d hc hu hd hi]
end Go.Proofs.YtknpcmadghkaaaaGreatDoor
namespace Go.Proofs.YtknpcmadghkaaaaGreatDoor.Sh
open Go.RowKit
def MMsg.right (m : MMsg) : Prop := m.may /\ m.tag = numTag m.origin m.number (msgB m)
end Go.Proofs.YtknpcmadghkaaaaGreatDoor.Sh
