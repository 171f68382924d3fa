/-
  What is proved: bytes that come in read as such; the walk of CellNil. Conditions as stated.
-/
import Derived.Test.YtfegffdhlkhjbaaCp
import Derived.ProofKit
import Derived.OpenShut
import Derived.Deep.Slices
namespace Go.Proofs.Ytfegffdhlkhjbaa
open Go.RowKit Go.ChangeShapes Go.WideShapes Go.Deep
set_option maxRecDepth 100000

/-- A slice of bytes that came in reads as bytes. -/
theorem bytes_of {H : Type} {enc : TypeId × Value → H} {W : World} {base : Nat} {spare : Nat → Bool} {held : Bool} {A : Option Addr} {n c : Nat} {d : DataW H} {p : List MemPlace}
    (h : DataW.Trod enc Try.prog W base spare held 29 (.slice A n c) d p) : ∃ bs, Rd (fun _ => True) W A n bs ∧ Sl A n c := by
  obtain ⟨fuel, hf⟩ := h
  rcases open_ints Try.underlying29 Try.underlying5 (by kernel_rfl) hf with ⟨hcs, _⟩ | ⟨x, l, cap, zs, hcs, _, hl, hm, hz, _, hcell, hwz⟩
  · simp [Value.cells] at hcs
    obtain ⟨rfl, rfl, rfl⟩ := hcs
    exact ⟨[], ⟨rfl, fun h => absurd h (by omega)⟩, ⟨fun _ => ⟨rfl, rfl⟩, Nat.le_refl _, by omega⟩⟩
  · simp [Value.cells] at hcs
    obtain ⟨rfl, rfl, rfl⟩ := hcs
    have hnz : n ≤ zs.length := by rw [hz]; split <;> omega
    refine ⟨(zs.take n).map fun z => UInt8.ofNat z.toNat, ⟨by rw [List.length_map, List.length_take]; omega, fun hp => ?_⟩, ⟨(fun h => by cases h), hl, by unfold maxLen at hm; omega⟩⟩
    obtain ⟨b, o, rfl, hc⟩ := ints_at hcell (by omega)
    refine ⟨b, o, rfl, ?_, trivial, fun j u hu => ?_⟩
    · have := World.block_lt_of_cell? W _ (hc 0 (by omega))
      exact this
    · rw [List.getElem?_map] at hu
      obtain ⟨z, hz1, rfl⟩ := Option.map_eq_some_iff.1 hu
      rw [List.getElem?_take] at hz1
      split at hz1
      · obtain ⟨hj, hz2⟩ := List.getElem?_eq_some_iff.1 hz1
        rw [hc j hj, List.getD_eq_getElem?_getD, hz1]
        have hb := bounds_u8 (hwz z (hz2 ▸ List.getElem_mem hj))
        simp only [Option.getD_some]
        congr 2
        simp
        omega
      · cases hz1

theorem u8_of {x : Int} (hx : (Lit.int .u8 x).wf = true) : x = ((UInt8.ofNat x.toNat).toNat : Int) := by
  have := bounds_u8 hx
  simp
  omega
end Go.Proofs.Ytfegffdhlkhjbaa
