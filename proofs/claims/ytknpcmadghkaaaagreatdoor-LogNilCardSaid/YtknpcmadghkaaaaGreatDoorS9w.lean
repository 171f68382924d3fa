/- Laws and walks. -/
import Derived.Test.YtknpcmadghkaaaaGreatDoorS3w
import Derived.Test.YtknpcmadghkaaaaGreatDoorRows
import Derived.ProofKit
import Derived.OpenShut
import Derived.Deep.Slices
import Derived.Lib.LaidTab
import Derived.SizedLaws
set_option maxHeartbeats 16000000
set_option maxRecDepth 100000

namespace Go.Proofs.YtknpcmadghkaaaaGreatDoor.Sh
open Go.RowKit Go.ChangeShapes Go.WideShapes Go.Deep
theorem gK : Tryz.prog.globalNamed "ratchet/sha.k" = some 0 := by kernel_rfl
theorem tK : (Tryz.prog.globals[0]?).map (·.type) = some 216 := by kernel_rfl
theorem c42 : Tryz.prog.cellsOf 216 = 64 := by kernel_rfl
theorem K_length : K.length = 64 := by decide
theorem kIs_of_laid {W : World} (h : laidMet Tryz.prog [("ratchet/sha.k", Rows.laid_ratchet_sha_k)] W) : KIs W /\ 0 < W.heap.size := by
 have hT : Lib.TabIs Tryz.prog W "ratchet/sha.k" .u32 (K.map fun x => (x.toNat : Int)) :=
  Lib.tabIs_of_head gK tK Tryz.underlying216 Tryz.underlying201 Tryz.cells201 c42 (rest := []) h
 have hk : KIs W := fun i hi => by
  have := hT.cell gK i (by simpa [K_length] using hi)
  rw [this]
  simp [List.getD_eq_getElem?_getD, List.getElem?_eq_getElem (l := K) (i := i) (by rw [K_length]; exact hi)]
 exact ⟨hk, World.block_lt_of_cell? W _ (hk 0 (by omega))⟩
open Go.RowKit Go.ChangeShapes Go.WideShapes Go.Deep
end Go.Proofs.YtknpcmadghkaaaaGreatDoor.Sh
