/-
  What is proved: bytes and bools that come in read as such. Conditions as stated.
-/
import Derived.Test.YthbbghkefekhfaaDk
import Derived.Test.YthbbghkefekhfaaDn
import Derived.Test.YthbbghkefekhfaaRows
import Derived.ProofKit
import Derived.OpenShut
import Derived.Deep.Slices
namespace Go.Proofs.Ythbbghkefekhfaa
open Go.RowKit Go.ChangeShapes Go.WideShapes Go.Deep

/-- A slice of bytes that came in reads as bytes. -/
theorem bytes_of {H : Type} {enc : TypeId × Value → H} {W : World} {base : Nat} {spare : Nat → Bool} {held : Bool} {A : Option Addr} {n c : Nat} {d : DataW H} {p : List MemPlace}
    (h : DataW.Trod enc Try.prog W base spare held 30 (.slice A n c) d p) : ∃ bs, Rd (fun _ => True) W A n bs ∧ Sl A n c := by
  obtain ⟨fuel, hf⟩ := h
  rcases open_ints Try.underlying30 Try.underlying5 (by kernel_rfl) hf with ⟨hcs, _⟩ | ⟨x, l, cap, zs, hcs, _, hl, hm, hz, _, hcell, hwz⟩
  · simp [Value.cells] at hcs
    obtain ⟨rfl, rfl, rfl⟩ := hcs
    exact ⟨[], ⟨rfl, fun h => absurd h (by omega)⟩, ⟨fun _ => ⟨rfl, rfl⟩, Nat.le_refl _, by omega⟩⟩
  · simp [Value.cells] at hcs
    obtain ⟨rfl, rfl, rfl⟩ := hcs
    have hnz : n ≤ zs.length := by rw [hz]; split <;> omega
    refine ⟨(zs.take n).map fun z => UInt8.ofNat z.toNat, ⟨by rw [List.length_map, List.length_take]; omega, fun hp => ?_⟩, ⟨(fun h => by cases h), hl, by unfold maxLen at hm; omega⟩⟩
    obtain ⟨b, o, rfl, hc⟩ := ints_at hcell (by omega)
    refine ⟨b, o, rfl, ?_, trivial, fun j u hu => ?_⟩
    · have := World.block_lt_of_cell? W _ (hc 0 (by omega))
      exact this
    · rw [List.getElem?_map] at hu
      obtain ⟨z, hz1, rfl⟩ := Option.map_eq_some_iff.1 hu
      rw [List.getElem?_take] at hz1
      split at hz1
      · obtain ⟨hj, hz2⟩ := List.getElem?_eq_some_iff.1 hz1
        rw [hc j hj, List.getD_eq_getElem?_getD, hz1]
        have hb := bounds_u8 (hwz z (hz2 ▸ List.getElem_mem hj))
        simp only [Option.getD_some]
        congr 2
        simp
        omega
      · cases hz1

theorem u8_of {x : Int} (hx : (Lit.int .u8 x).wf = true) : x = ((UInt8.ofNat x.toNat).toNat : Int) := by
  have := bounds_u8 hx
  simp
  omega

theorem diskLast_walk (W : World) (x : Int) (hx : (Lit.int .u8 x).wf = true) (A : Option Addr) (n c : Nat) (h1 : ∃ bs, Rd (fun _ => True) W A n bs ∧ Sl A n c) (B : Option Addr) (m cm : Nat) (h2 : ∃ bs, Rd (fun _ => True) W B m bs ∧ Sl B m cm) :
    Calls Try.prog 7 #[.int .u8 x, .slice A n c, .slice B m cm] W fun E w' => E = .returned (.bool true) ∧ Below W.heap.size W w' := by
  obtain ⟨ls, hl, hs⟩ := h1
  obtain ⟨ps, hp, hsp⟩ := h2
  have := diskLast_by works_are (UInt8.ofNat x.toNat) A n c ls B m cm ps W hl hs hp hsp
  rwa [← u8_of hx] at this
end Go.Proofs.Ythbbghkefekhfaa
