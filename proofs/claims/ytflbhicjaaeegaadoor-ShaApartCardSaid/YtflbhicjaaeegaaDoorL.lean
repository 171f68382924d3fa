/-
  What is proved: the listed table holds K; what came in reads as bytes and numbers. Conditions as stated.
-/
import Derived.Test.YtflbhicjaaeegaaDoorI
import Derived.Test.YtflbhicjaaeegaaDoorRows
import Derived.ProofKit
import Derived.OpenShut
import Derived.Deep.Slices
import Derived.Lib.LaidTab
namespace Go.Proofs.YtflbhicjaaeegaaDoor
open Go.RowKit Go.ChangeShapes Go.WideShapes Go.Deep

theorem gK : Tryd.prog.globalNamed "ratchet/sha.k" = some 0 := by kernel_rfl
theorem tK : (Tryd.prog.globals[0]?).map (·.type) = some 42 := by kernel_rfl
theorem c42 : Tryd.prog.cellsOf 42 = 64 := by kernel_rfl
theorem K_length : K.length = 64 := by decide

theorem kIs_of_laid {W : World} (h : laidMet Tryd.prog [("ratchet/sha.k", Rows.laid_ratchet_sha_k)] W) : KIs W ∧ 0 < W.heap.size := by
  have hT : Lib.TabIs Tryd.prog W "ratchet/sha.k" .u32 (K.map fun x => (x.toNat : Int)) :=
    Lib.tabIs_of_head gK tK Tryd.underlying42 Tryd.underlying22 Tryd.cells22 c42 (rest := []) h
  have hk : KIs W := fun i hi => by
    have := hT.cell gK i (by simpa [K_length] using hi)
    rw [this]
    simp [List.getD_eq_getElem?_getD, List.getElem?_eq_getElem (l := K) (i := i) (by rw [K_length]; exact hi)]
  exact ⟨hk, World.block_lt_of_cell? W _ (hk 0 (by omega))⟩

/-- A slice of bytes that came in reads as bytes. -/
theorem bytes_of {H : Type} {enc : TypeId × Value → H} {W : World} {base : Nat} {spare : Nat → Bool} {held : Bool} {A : Option Addr} {n c : Nat} {d : DataW H} {p : List MemPlace}
    (h : DataW.Trod enc Tryd.prog W base spare held 28 (.slice A n c) d p) : ∃ bs, Rd (fun _ => True) W A n bs ∧ Sl A n c := by
  obtain ⟨fuel, hf⟩ := h
  rcases open_ints Tryd.underlying28 Tryd.underlying5 (by kernel_rfl) hf with ⟨hcs, _⟩ | ⟨x, l, cap, zs, hcs, _, hl, hm, hz, _, hcell, hwz⟩
  · simp [Value.cells] at hcs
    obtain ⟨rfl, rfl, rfl⟩ := hcs
    exact ⟨[], Rd.nil _ W _, ⟨fun _ => ⟨rfl, rfl⟩, Nat.le_refl _, by omega⟩⟩
  · simp [Value.cells] at hcs
    obtain ⟨rfl, rfl, rfl⟩ := hcs
    have hnz : n ≤ zs.length := by rw [hz]; split <;> omega
    refine ⟨(zs.take n).map fun z => UInt8.ofNat z.toNat, ⟨by rw [List.length_map, List.length_take]; omega, fun hp => ?_⟩, ⟨(fun h => by cases h), hl, by unfold maxLen at hm; omega⟩⟩
    obtain ⟨b, o, rfl, hc⟩ := ints_at hcell (by omega)
    refine ⟨b, o, rfl, ?_, trivial, fun j u hu => ?_⟩
    · have := World.block_lt_of_cell? W _ (hc 0 (by omega))
      exact this
    · rw [List.getElem?_map] at hu
      obtain ⟨z, hz1, rfl⟩ := Option.map_eq_some_iff.1 hu
      rw [List.getElem?_take] at hz1
      split at hz1
      · obtain ⟨hj, hz2⟩ := List.getElem?_eq_some_iff.1 hz1
        rw [hc j hj, List.getD_eq_getElem?_getD, hz1]
        have hb := bounds_u8 (hwz z (hz2 ▸ List.getElem_mem hj))
        simp only [Option.getD_some]
        congr 2
        simp
        omega
      · cases hz1
end Go.Proofs.YtflbhicjaaeegaaDoor
