/-
  What is proved: bools that come in read as such; the walk of DiskFuses. Conditions as stated.
-/
import Derived.Test.YthbbghkefekhfaaDr
import Derived.Test.YthbbghkefekhfaaDo
import Derived.Deep.Grids
namespace Go.Proofs.Ythbbghkefekhfaa
open Go.RowKit Go.ChangeShapes Go.WideShapes Go.Deep

theorem bools_of {H : Type} {enc : TypeId × Value → H} {W : World} {base : Nat} {held : Bool} {A : Option Addr} {n c : Nat} {d : DataW H} {p : List MemPlace}
    (h : DataW.Trod enc Try.prog W base (fun _ => true) held 54 (.slice A n c) d p) : ∃ bs, Rb W A n bs ∧ Sl A n c := by
  obtain ⟨fuel, hf⟩ := h
  rcases open_bools Try.underlying54 Try.underlying4 (by kernel_rfl) hf with ⟨hcs, _⟩ | ⟨a, l, cap, B, hcs, _, hl, hm, _, hcell⟩
  · simp [Value.cells] at hcs
    obtain ⟨rfl, rfl, rfl⟩ := hcs
    exact ⟨[], ⟨rfl, fun h => absurd h (by omega)⟩, ⟨fun _ => ⟨rfl, rfl⟩, Nat.le_refl _, by omega⟩⟩
  · simp [Value.cells] at hcs
    obtain ⟨rfl, rfl, rfl⟩ := hcs
    refine ⟨(List.range n).map B, ⟨by simp, fun hp => ?_⟩, ⟨(fun h => by cases h), hl, by unfold maxLen at hm; omega⟩⟩
    obtain ⟨b, off, spot⟩ := a
    have hspot : spot = none := by simpa [Addr.add] using World.cell?_spot (hcell 0 (by omega))
    subst hspot
    have hc : ∀ j, j < c → W.cell? ⟨b, off + j, none⟩ = some (.bool (B j)) := fun j hj => by rw [← Go.WideShapes.add_plain]; exact hcell j hj
    refine ⟨b, off, rfl, World.block_lt_of_cell? W _ (hc 0 (by omega)), fun j u hu => ?_⟩
    rw [List.getElem?_map] at hu
    obtain ⟨z, hz1, rfl⟩ := Option.map_eq_some_iff.1 hu
    obtain ⟨hj, rfl⟩ := List.getElem?_eq_some_iff.1 hz1
    simp at hj ⊢
    exact hc j (by omega)

theorem diskFuses_walk (W : World) (x : Int) (hx : (Lit.int .u8 x).wf = true) (A : Option Addr) (n c : Nat) (h1 : ∃ bs, Rb W A n bs ∧ Sl A n c) (y : Int) (hy : (Lit.int .u8 y).wf = true) :
    Calls Try.prog 6 #[.int .u8 x, .slice A n c, .int .u8 y] W fun E w' => E = .returned (.bool true) ∧ Below W.heap.size W w' := by
  obtain ⟨bs, hb, hs⟩ := h1
  have := diskFuses_by works_are (UInt8.ofNat x.toNat) (UInt8.ofNat y.toNat) A n c bs W hb hs
  rwa [← u8_of hx, ← u8_of hy] at this
end Go.Proofs.Ythbbghkefekhfaa
