/-
  What is proved: numbers and arrays that come in as a walk asks them. Conditions as stated.
-/
import Derived.Test.YtfmmldpemdodkaaDoorWb
import Derived.Test.YtfmmldpemdodkaaDoorT
namespace Go.Proofs.YtfmmldpemdodkaaDoor
open Go.RowKit Go.ChangeShapes Go.WideShapes Go.Deep

theorem u8_of {a : Int} (h : (Lit.int .u8 a).wf = true) : ∃ t : UInt8, a = (t.toNat : Int) := by
  have hb := bounds_u8 h
  exact ⟨UInt8.ofNat a.toNat, by simp; omega⟩
theorem c32b : Tryd.prog.cellsOf 25 = 32 := by kernel_rfl
theorem bytes32_of {H : Type} {enc : TypeId × Value → H} {W : World} {base b0 : Nat} {r : Reach} {spare : Nat → Bool} {held : Bool} {v : Value} {d : DataW H} {p : List MemPlace}
    (hval : Value.okWide Tryd.prog W r b0 25 v) (h : DataW.Trod enc Tryd.prog W base spare held 25 v d p) : ∃ l : List UInt8, v = .agg (u8s l).toArray ∧ l.length = 32 := by
  obtain ⟨zs, rfl, hl, hw⟩ := array_cells Tryd.underlying25 Tryd.underlying5 Tryd.cells5 c32b hval h
  refine ⟨zs.map fun z => UInt8.ofNat z.toNat, ?_, by rw [List.length_map, hl]⟩
  congr 2
  rw [u8s, List.map_map]
  refine List.map_congr_left fun z hz => ?_
  have := bounds_u8 (hw z hz)
  simp only [Function.comp]
  congr 1
  simp
  omega

theorem tagSame_all (W : World) (hk : KIs W) (h0 : 0 < W.heap.size) (v : Value) (hv : ∃ l : List UInt8, v = .agg (u8s l).toArray ∧ l.length = 32) (a : Int) (ha : (Lit.int .u8 a).wf = true) (b : Int) (hb : (Lit.int .u8 b).wf = true) :
    Calls Tryd.prog 4 #[v, .int .u8 a, .int .u8 b] W fun E w' => E = .returned (.bool true) ∧ Below W.heap.size W w' := by
  obtain ⟨l, rfl, hl⟩ := hv
  obtain ⟨t, rfl⟩ := u8_of ha
  obtain ⟨x, rfl⟩ := u8_of hb
  exact tagSame_walk l t x W hl works_any hk h0
end Go.Proofs.YtfmmldpemdodkaaDoor
