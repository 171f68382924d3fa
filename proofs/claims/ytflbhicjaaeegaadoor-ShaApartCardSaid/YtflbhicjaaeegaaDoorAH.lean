/-
  What is proved: a slice of slices of bytes that came in reads as such. Conditions as stated.
-/
import Derived.Test.YtflbhicjaaeegaaDoorAF
import Derived.Test.YtflbhicjaaeegaaDoorL
namespace Go.Proofs.YtflbhicjaaeegaaDoor
open Go.RowKit Go.ChangeShapes Go.WideShapes Go.Deep

theorem c28 : Tryd.prog.cellsOf 28 = 1 := by kernel_rfl
theorem choose_lt {A : Type} [Inhabited A] {n : Nat} {p : Nat → A → Prop} (h : ∀ i, i < n → ∃ x, p i x) : ∃ f : Nat → A, ∀ i, i < n → p i (f i) :=
  ⟨fun i => if hi : i < n then Classical.choose (h i hi) else default, fun i hi => by
    simp only [dif_pos hi]
    exact Classical.choose_spec (h i hi)⟩

theorem lists_of {H : Type} {enc : TypeId × Value → H} {W : World} {base : Nat} {spare : Nat → Bool} {held : Bool} {A : Option Addr} {n c : Nat} {d : DataW H} {p : List MemPlace}
    (h : DataW.Trod enc Tryd.prog W base spare held 32 (.slice A n c) d p) : ∃ xs, Lists W A n xs ∧ Sl A n c := by
  obtain ⟨fuel, hf⟩ := h
  rcases open_slice1 Tryd.underlying32 c28 hf with ⟨hcs, _⟩ | ⟨a, len, cap, m, k, V, D, Pl, hcs, _, hlc, hcm, hm, _, hx⟩
  · simp [Value.cells] at hcs
    obtain ⟨rfl, rfl, rfl⟩ := hcs
    exact ⟨[], ⟨rfl, fun h => absurd h (by omega)⟩, ⟨fun _ => ⟨rfl, rfl⟩, Nat.le_refl _, by omega⟩⟩
  · simp [Value.cells] at hcs
    obtain ⟨rfl, rfl, rfl⟩ := hcs
    have hnm : n ≤ m := by rw [hm]; split <;> omega
    have hx' : ∀ i, i < n → ∃ x : Option Addr × Nat × List UInt8, W.cell? (a.add i) = some (.slice x.1 x.2.2.length x.2.1) ∧ Rd (fun _ => True) W x.1 x.2.2.length x.2.2 ∧ Sl x.1 x.2.2.length x.2.1 := by
      intro i hi
      obtain ⟨hc, ht⟩ := hx i (by omega)
      have hV : ∃ A' n' c', V i = .slice A' n' c' := by
        rcases open_ints Tryd.underlying28 Tryd.underlying5 (by kernel_rfl) ht with ⟨hcs, _⟩ | ⟨x, l, cap, zs, hcs, _⟩
        · exact ⟨_, _, _, List.head_eq_of_cons_eq hcs⟩
        · exact ⟨_, _, _, List.head_eq_of_cons_eq hcs⟩
      obtain ⟨A', n', c', hV⟩ := hV
      rw [hV] at hc ht
      obtain ⟨bs, hr, hs⟩ := bytes_of (A := A') (n := n') (c := c') ⟨_, ht⟩
      obtain rfl : bs.length = n' := hr.1
      exact ⟨(A', c', bs), hc, hr, hs⟩
    obtain ⟨X, hX⟩ := choose_lt (p := fun i (x : Option Addr × Nat × List UInt8) => W.cell? (a.add i) = some (.slice x.1 x.2.2.length x.2.1) ∧ Rd (fun _ => True) W x.1 x.2.2.length x.2.2 ∧ Sl x.1 x.2.2.length x.2.1) hx'
    refine ⟨(List.range n).map X, ⟨by simp, fun hp => ?_⟩, ⟨(fun h => (by cases h)), hlc, by unfold maxLen at hcm; omega⟩⟩
    have h0 := (hX 0 hp).1
    have hs : a.spot = none := by simpa [Addr.add] using World.cell?_spot h0
    obtain ⟨b, o, spot⟩ := a
    simp only at hs
    subst hs
    refine ⟨b, o, rfl, ?_, fun j x hj => ?_⟩
    · exact World.block_lt_of_cell? W _ h0
    · have hjn : j < n := by have := (List.getElem?_eq_some_iff.1 hj).1; simpa using this
      rw [List.getElem?_map, List.getElem?_range hjn] at hj
      cases hj
      obtain ⟨q0, q1, q2⟩ := hX j hjn
      rw [Addr.add_lit] at q0
      exact ⟨q0, q1, q2⟩

end Go.Proofs.YtflbhicjaaeegaaDoor
