/-
  What is proved: bytes that come in read as such; the walk of CellNil. Conditions as stated.
-/
import Derived.Test.YtiphfeefbiiolaaCp
import Derived.ProofKit
import Derived.OpenShut
import Derived.Deep.Slices
namespace Go.Proofs.Ytiphfeefbiiolaa
open Go.RowKit Go.ChangeShapes Go.WideShapes Go.Deep
set_option maxRecDepth 100000

/-- A slice of bytes that came in reads as bytes. -/
theorem bytes_of {H : Type} {enc : TypeId × Value → H} {W : World} {base : Nat} {spare : Nat → Bool} {held : Bool} {A : Option Addr} {n c : Nat} {d : DataW H} {p : List MemPlace}
    (h : DataW.Trod enc Try.prog W base spare held 28 (.slice A n c) d p) : ∃ bs, Rd (fun _ => True) W A n bs ∧ Sl A n c := by
  obtain ⟨fuel, hf⟩ := h
  rcases open_ints Try.underlying28 Try.underlying5 (by kernel_rfl) hf with ⟨hcs, _⟩ | ⟨x, l, cap, zs, hcs, _, hl, hm, hz, _, hcell, hwz⟩
  · simp [Value.cells] at hcs
    obtain ⟨rfl, rfl, rfl⟩ := hcs
    exact ⟨[], ⟨rfl, fun h => absurd h (by omega)⟩, ⟨fun _ => ⟨rfl, rfl⟩, Nat.le_refl _, by omega⟩⟩
  · simp [Value.cells] at hcs
    obtain ⟨rfl, rfl, rfl⟩ := hcs
    have hnz : n ≤ zs.length := by rw [hz]; split <;> omega
    refine ⟨(zs.take n).map fun z => UInt8.ofNat z.toNat, ⟨by rw [List.length_map, List.length_take]; omega, fun hp => ?_⟩, ⟨(fun h => by cases h), hl, by unfold maxLen at hm; omega⟩⟩
    obtain ⟨b, o, rfl, hc⟩ := ints_at hcell (by omega)
    refine ⟨b, o, rfl, ?_, trivial, fun j u hu => ?_⟩
    · have := World.block_lt_of_cell? W _ (hc 0 (by omega))
      exact this
    · rw [List.getElem?_map] at hu
      obtain ⟨z, hz1, rfl⟩ := Option.map_eq_some_iff.1 hu
      rw [List.getElem?_take] at hz1
      split at hz1
      · obtain ⟨hj, hz2⟩ := List.getElem?_eq_some_iff.1 hz1
        rw [hc j hj, List.getD_eq_getElem?_getD, hz1]
        have hb := bounds_u8 (hwz z (hz2 ▸ List.getElem_mem hj))
        simp only [Option.getD_some]
        congr 2
        simp
        omega
      · cases hz1

theorem u8_of {x : Int} (hx : (Lit.int .u8 x).wf = true) : x = ((UInt8.ofNat x.toNat).toNat : Int) := by
  have := bounds_u8 hx
  simp
  omega

theorem cellNil_walk (W : World) (x : Int) (_hx : (Lit.int .i64 x).wf = true) (A : Option Addr) (n c : Nat) (_h1 : ∃ bs, Rd (fun _ => True) W A n bs ∧ Sl A n c) :
    Calls Try.prog 4 #[.int .i64 x, .slice A n c] W fun E w' => E = .returned (.bool true) ∧ Below W.heap.size W w' := by
  have HW := Lib.hid works_any
  clear _h1 _hx
  by_cases hn : n ≤ 4096
  · go_enter Try.func4, Try.ntmps4
    go_wp2_with (first
      | (go_at_call 10; refine (nil_open _ _).mono ?_; rintro E w1 ⟨rfl, hb1⟩)
      | (go_at_call 13; refine (nil_put _ _ _ _).mono ?_; rintro E w2 ⟨rfl, rfl⟩)
      | (go_at_call 11; refine (nil_get _).mono ?_; rintro E w3 ⟨rfl, rfl⟩)
      | (go_at_call 9; refine (nil_format _ _).mono ?_; rintro E w4 ⟨rfl, hb4⟩)
      | (go_at_call 7; refine (HW.out _).mono ?_; rintro E w5 ⟨rfl, hb5⟩))
    go_ret
    have h1 := hb1.trans (hb4.mono hb1.size)
    exact ⟨rfl, h1.trans (hb5.mono h1.size)⟩
  · go_enter Try.func4, Try.ntmps4
    go_wp2_with (first
      | (go_at_call 7; refine (HW.out _).mono ?_; rintro E w5 ⟨rfl, hb5⟩))
    go_ret
    exact ⟨rfl, hb5⟩
end Go.Proofs.Ytiphfeefbiiolaa
