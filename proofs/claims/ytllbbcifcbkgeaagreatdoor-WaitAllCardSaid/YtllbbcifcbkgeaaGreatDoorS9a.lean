/- Laws and walks. -/
import Derived.Test.YtllbbcifcbkgeaaGreatDoorS3a
import Derived.Test.YtllbbcifcbkgeaaGreatDoorRows
import Derived.ProofKit
import Derived.OpenShut
import Derived.Deep.Slices
import Derived.Lib.LaidTab
import Derived.SizedLaws
set_option maxHeartbeats 16000000
set_option maxRecDepth 100000

namespace Go.Proofs.YtllbbcifcbkgeaaGreatDoor.Sh
open Go.RowKit Go.ChangeShapes Go.WideShapes Go.Deep
theorem gK : Tryz.prog.globalNamed "ratchet/sha.k" = some 0 := by kernel_rfl
theorem tK : (Tryz.prog.globals[0]?).map (·.type) = some 160 := by kernel_rfl
theorem c42 : Tryz.prog.cellsOf 160 = 64 := by kernel_rfl
theorem K_length : K.length = 64 := by decide
theorem kIs_of_laid {W : World} (h : laidMet Tryz.prog [("ratchet/sha.k", Rows.laid_ratchet_sha_k)] W) : KIs W /\ 0 < W.heap.size := by
 have hT : Lib.TabIs Tryz.prog W "ratchet/sha.k" .u32 (K.map fun x => (x.toNat : Int)) :=
  Lib.tabIs_of_head gK tK Tryz.underlying160 Tryz.underlying148 Tryz.cells148 c42 (rest := []) h
 have hk : KIs W := fun i hi => by
  have := hT.cell gK i (by simpa [K_length] using hi)
  rw [this]
  simp [List.getD_eq_getElem?_getD, List.getElem?_eq_getElem (l := K) (i := i) (by rw [K_length]; exact hi)]
 exact ⟨hk, World.block_lt_of_cell? W _ (hk 0 (by omega))⟩
theorem bytes_of {H : Type} {enc : TypeId × Value -> H} {W : World} {base : Nat} {spare : Nat -> Bool} {held : Bool} {A : Option Addr} {n c : Nat} {d : DataW H} {p : List MemPlace}
  (h : DataW.Trod enc Tryz.prog W base spare held 23 (.slice A n c) d p) : ∃ bs, Rd (fun _ => True) W A n bs /\ Sl A n c := by
 obtain ⟨fuel, hf⟩ := h
 rcases open_ints Tryz.underlying23 Tryz.underlying5 (by kernel_rfl) hf with ⟨hcs, _⟩ | ⟨x, l, cap, zs, hcs, _, hl, hm, hz, _, hcell, hwz⟩
 ·simp [Value.cells] at hcs
  obtain ⟨rfl, rfl, rfl⟩ := hcs
  exact ⟨[], Rd.nil _ W _, ⟨fun _ => ⟨rfl, rfl⟩, Nat.le_refl _, by omega⟩⟩
 ·simp [Value.cells] at hcs
  obtain ⟨rfl, rfl, rfl⟩ := hcs
  have hnz : n <= zs.length := by rw [hz]; split <;> omega
  refine ⟨(zs.take n).map fun z => UInt8.ofNat z.toNat, ⟨by rw [List.length_map, List.length_take]; omega, fun hp => ?_⟩, ⟨(fun h => by cases h), hl, by unfold maxLen at hm; omega⟩⟩
  obtain ⟨b, o, rfl, hc⟩ := ints_at hcell (by omega)
  refine ⟨b, o, rfl, ?_, trivial, fun j u hu => ?_⟩
  ·have := World.block_lt_of_cell? W _ (hc 0 (by omega))
   exact this
  ·rw [List.getElem?_map] at hu
   obtain ⟨z, hz1, rfl⟩ := Option.map_eq_some_iff.1 hu
   rw [List.getElem?_take] at hz1
   split at hz1
   ·obtain ⟨hj, hz2⟩ := List.getElem?_eq_some_iff.1 hz1
    rw [hc j hj, List.getD_eq_getElem?_getD, hz1]
    have hb := bounds_u8 (hwz z (hz2 ▸ List.getElem_mem hj))
    simp only [Option.getD_some]
    congr 2
    simp
    omega
   ·cases hz1
theorem Tryz.bytes5 : Tryz.prog.bytesOf 5 = 1 := by kernel_rfl
theorem bytes_reach {H : Type} {enc : TypeId × Value -> H} {W : World} {base : Nat} {spare : Nat -> Bool} {held : Bool} {A : Option Addr} {n c : Nat} {d : DataW H} {p : List MemPlace} {ts : List TypeId} {ds : List (DataW H)} {j : Nat}
  (hsz : (DataW.weightsEach Tryz.prog ts ds).all (· <= reachBytes) = true) (ht : ts[j]? = some 23) (hd : ds[j]? = some d) (h : DataW.Trod enc Tryz.prog W base spare held 23 (.slice A n c) d p) : n <= 140737488351232 := by
 obtain ⟨fuel, hf⟩ := h
 rcases open_ints Tryz.underlying23 Tryz.underlying5 (by kernel_rfl) hf with ⟨hcs, _⟩ | ⟨x, l, cap, zs, hcs, _, hl, hm, hz, hx, _⟩
 ·simp [Value.cells] at hcs
  omega
 ·simp [Value.cells] at hcs
  obtain ⟨rfl, rfl, rfl⟩ := hcs
  injection hx with hx1 hx2
  subst hx1
  have h2 := sized_slice hsz ht hd Tryz.underlying23
  rw [Tryz.bytes5] at h2
  simp [lits] at h2
  unfold reachBytes at h2
  have : n <= zs.length := by rw [hz]; split <;> omega
  omega
open Go.RowKit Go.ChangeShapes Go.WideShapes Go.Deep
end Go.Proofs.YtllbbcifcbkgeaaGreatDoor.Sh
