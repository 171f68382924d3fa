/-
  What is proved: a slice of steps that came in reads as steps. Conditions as stated.
-/
import Derived.Test.YthnmmhjnfhmleaaU
namespace Go.Proofs.Ythnmmhjnfhmleaa
open Go.RowKit Go.ChangeShapes Go.WideShapes Go.Deep

theorem Try.cells39 : Try.prog.cellsOf 39 = 2 := by kernel_rfl
theorem Try.cells3 : Try.prog.cellsOf 3 = 1 := by kernel_rfl

theorem step_of {H : Type} {enc : TypeId × Value → H} {W : World} {base : Nat} {spare : Nat → Bool} {held : Bool} {n : Nat} {cs : List Value} {y : DataW H × List MemPlace}
    (h : DataW.trod enc Try.prog W base spare held n 39 cs = some y) : ∃ (k : Nat) (a : Int), cs = [.int .u8 (k : Int), .int .i64 a] ∧ k < 256 := by
  obtain ⟨ys, m, _, _, hlen, hys, hf⟩ := DataW.trod_struct Try.underlying39 h
  rw [Try.cells39] at hlen
  obtain ⟨c0, c1, rfl⟩ : ∃ c0 c1, cs = [c0, c1] := by
    match cs, hlen with
    | [c0, c1], _ => exact ⟨c0, c1, rfl⟩
  have hy2 : ys.length = 2 := hys
  have e0 : DataW.trod enc Try.prog W base spare held m 5 (([c0, c1].drop 0).take (Try.prog.cellsOf 5)) = ys[0]? := hf 0 _ rfl
  have e1 : DataW.trod enc Try.prog W base spare held m 3 (([c0, c1].drop 1).take (Try.prog.cellsOf 3)) = ys[1]? := hf 1 _ rfl
  rw [Try.cells5, List.getElem?_eq_getElem (by omega)] at e0
  rw [Try.cells3, List.getElem?_eq_getElem (by omega)] at e1
  obtain ⟨k, h0, _, w0⟩ := DataW.trod_int Try.underlying5 e0
  obtain ⟨a, h1, _, _⟩ := DataW.trod_int Try.underlying3 e1
  simp only [List.drop_zero, List.drop_succ_cons, List.take_succ_cons, List.take_zero, List.cons.injEq, and_true] at h0 h1
  subst h0 h1
  have b0 := bounds_u8 w0
  exact ⟨k.toNat, a, by rw [Int.toNat_of_nonneg b0.1], by omega⟩

/-- A slice of steps that came in, cell by cell. -/
theorem steps_of {H : Type} {enc : TypeId × Value → H} {W : World} {base : Nat} {spare : Nat → Bool} {held : Bool} {A : Option Addr} {n c : Nat} {d : DataW H} {p : List MemPlace}
    (h : DataW.Trod enc Try.prog W base spare held 32 (.slice A n c) d p) : ∃ (ks : List (Nat × Int)), ks.length = n ∧ (0 < n → ∃ b o, A = some ⟨b, o, none⟩ ∧ b < W.heap.size ∧ ∀ j x, ks[j]? = some x →
      W.cell? ⟨b, o + j * 2, none⟩ = some (.int .u8 (x.1 : Int)) ∧ W.cell? ⟨b, o + j * 2 + 1, none⟩ = some (.int .i64 x.2) ∧ x.1 < 256) := by
  obtain ⟨fuel, hf⟩ := h
  rcases open_slice Try.underlying32 hf with ⟨hcs, _⟩ | ⟨a, len, cap, m, k, D, Pl, hcs, _, hlc, hcm, hm, _, hx⟩
  · simp [Value.cells] at hcs
    obtain ⟨rfl, rfl, rfl⟩ := hcs
    exact ⟨[], rfl, fun h => absurd h (by omega)⟩
  · simp [Value.cells] at hcs
    obtain ⟨rfl, rfl, rfl⟩ := hcs
    rw [Try.cells39] at hx
    have hnm : n ≤ m := by rw [hm]; split <;> omega
    have hx' : ∀ i, i < n → ∃ x : Nat × Int, W.cell? (a.add (i * 2)) = some (.int .u8 (x.1 : Int)) ∧ W.cell? ((a.add (i * 2)).add 1) = some (.int .i64 x.2) ∧ x.1 < 256 := by
      intro i hi
      obtain ⟨cs', hc, ht⟩ := hx i (by omega)
      obtain ⟨_, _, hcell⟩ := World.cells?_some hc
      obtain ⟨k, z, rfl, b0⟩ := step_of ht
      exact ⟨(k, z), hcell 0 (by omega), hcell 1 (by omega), b0⟩
    obtain ⟨X, hX⟩ := choose_lt (p := fun i (x : Nat × Int) => W.cell? (a.add (i * 2)) = some (.int .u8 (x.1 : Int)) ∧ W.cell? ((a.add (i * 2)).add 1) = some (.int .i64 x.2) ∧ x.1 < 256) hx'
    refine ⟨(List.range n).map X, by simp, fun hp => ?_⟩
    have h0 := (hX 0 hp).1
    have hs : a.spot = none := by simpa [Addr.add] using World.cell?_spot h0
    obtain ⟨b, o, spot⟩ := a
    simp only at hs
    subst hs
    refine ⟨b, o, rfl, ?_, fun j x hj => ?_⟩
    · exact World.block_lt_of_cell? W _ h0
    · have hjn : j < n := by have := (List.getElem?_eq_some_iff.1 hj).1; simpa using this
      rw [List.getElem?_map, List.getElem?_range hjn] at hj
      cases hj
      obtain ⟨q0, q1, q2⟩ := hX j hjn
      rw [Addr.add_lit] at q0
      rw [add_plain2] at q1
      exact ⟨q0, q1, q2⟩

/-- The bytes' address lies in memory, where there are bytes or room. -/
theorem bytes_addr {H : Type} {enc : TypeId × Value → H} {W : World} {base : Nat} {spare : Nat → Bool} {held : Bool} {A : Option Addr} {n c : Nat} {d : DataW H} {p : List MemPlace}
    (h : DataW.Trod enc Try.prog W base spare held 22 (.slice A n c) d p) : (∃ bs, Rd W A n bs ∧ Sl A n c) ∧ (0 < n → ∀ ad, A = some ad → ad.block < W.heap.size) := by
  obtain ⟨bs, hr, hs⟩ := bytes_of h
  refine ⟨⟨bs, hr, hs⟩, fun hp ad had => ?_⟩
  obtain ⟨b, o, hA, hb, _⟩ := hr.2 hp
  rw [hA] at had
  cases had
  exact hb

end Go.Proofs.Ythnmmhjnfhmleaa
