/-
  What is proved: a slice of items that came in reads as items. Conditions as stated.
-/
import Derived.Test.YthnmmhjnfhmleaaM
import Derived.ProofKit
import Derived.OpenShut
import Derived.Deep.Slices
namespace Go.Proofs.Ythnmmhjnfhmleaa
open Go.RowKit Go.ChangeShapes Go.WideShapes Go.Deep

theorem Try.cells49 : Try.prog.cellsOf 49 = 3 := by kernel_rfl
theorem Try.cells5 : Try.prog.cellsOf 5 = 1 := by kernel_rfl
theorem Try.cells23 : Try.prog.cellsOf 23 = 1 := by kernel_rfl
theorem Try.cells9 : Try.prog.cellsOf 9 = 1 := by kernel_rfl

theorem add_plain2 (b o i j : Nat) : (((⟨b, o, none⟩ : Addr).add i).add j) = ⟨b, o + i + j, none⟩ := by rw [Addr.add_lit, Addr.add_lit]

theorem item_of {H : Type} {enc : TypeId × Value → H} {W : World} {base : Nat} {spare : Nat → Bool} {held : Bool} {n : Nat} {cs : List Value} {y : DataW H × List MemPlace}
    (h : DataW.trod enc Try.prog W base spare held n 49 cs = some y) :
    ∃ x : It, cs = [.int .u8 (x.k : Int), .int .u64 (x.n : Int), .string x.s] ∧ x.k < 256 ∧ x.n < 18446744073709551616 ∧ x.s.size ≤ 9223372036854775807 := by
  obtain ⟨ys, m, _, _, hlen, hys, hf⟩ := DataW.trod_struct Try.underlying49 h
  rw [Try.cells49] at hlen
  obtain ⟨c0, c1, c2, rfl⟩ : ∃ c0 c1 c2, cs = [c0, c1, c2] := by
    match cs, hlen with
    | [c0, c1, c2], _ => exact ⟨c0, c1, c2, rfl⟩
  have hy3 : ys.length = 3 := hys
  have e0 : DataW.trod enc Try.prog W base spare held m 5 (([c0, c1, c2].drop 0).take (Try.prog.cellsOf 5)) = ys[0]? := hf 0 _ rfl
  have e1 : DataW.trod enc Try.prog W base spare held m 23 (([c0, c1, c2].drop 1).take (Try.prog.cellsOf 23)) = ys[1]? := hf 1 _ rfl
  have e2 : DataW.trod enc Try.prog W base spare held m 9 (([c0, c1, c2].drop 2).take (Try.prog.cellsOf 9)) = ys[2]? := hf 2 _ rfl
  rw [Try.cells5, List.getElem?_eq_getElem (by omega)] at e0
  rw [Try.cells23, List.getElem?_eq_getElem (by omega)] at e1
  rw [Try.cells9, List.getElem?_eq_getElem (by omega)] at e2
  obtain ⟨k, h0, _, w0⟩ := DataW.trod_int Try.underlying5 e0
  obtain ⟨a, h1, _, w1⟩ := DataW.trod_int Try.underlying23 e1
  obtain ⟨s, h2, _, w2⟩ := DataW.trod_string Try.underlying9 e2
  simp only [List.drop_zero, List.drop_succ_cons, List.take_succ_cons, List.take_zero, List.cons.injEq, and_true] at h0 h1 h2
  subst h0 h1 h2
  have b0 := bounds_u8 w0
  have b1 := bounds_u64 w1
  unfold maxLen at w2
  refine ⟨⟨k.toNat, a.toNat, s⟩, ?_, ?_, ?_, ?_⟩
  · simp only [Int.toNat_of_nonneg b0.1, Int.toNat_of_nonneg b1.1]
  · show k.toNat < 256; omega
  · show a.toNat < 18446744073709551616; omega
  · show s.size ≤ _; omega

instance : Inhabited It := ⟨⟨0, 0, ByteArray.empty⟩⟩

/-- A slice of items that came in reads as items. -/
theorem its_of {H : Type} {enc : TypeId × Value → H} {W : World} {base : Nat} {spare : Nat → Bool} {held : Bool} {A : Option Addr} {n c : Nat} {d : DataW H} {p : List MemPlace}
    (h : DataW.Trod enc Try.prog W base spare held 47 (.slice A n c) d p) : (∃ its, Its W A n its) ∧ n ≤ 9223372036854775807 := by
  obtain ⟨fuel, hf⟩ := h
  rcases open_slice Try.underlying47 hf with ⟨hcs, _⟩ | ⟨a, len, cap, m, k, D, Pl, hcs, _, hlc, hcm, hm, _, hx⟩
  · simp [Value.cells] at hcs
    obtain ⟨rfl, rfl, rfl⟩ := hcs
    exact ⟨⟨[], rfl, fun h => absurd h (by omega)⟩, by omega⟩
  · simp [Value.cells] at hcs
    obtain ⟨rfl, rfl, rfl⟩ := hcs
    rw [Try.cells49] at hx
    have hnm : n ≤ m := by rw [hm]; split <;> omega
    have hx' : ∀ i, i < n → ∃ x : It, W.cell? (a.add (i * 3)) = some (.int .u8 (x.k : Int)) ∧ W.cell? ((a.add (i * 3)).add 1) = some (.int .u64 (x.n : Int)) ∧ W.cell? ((a.add (i * 3)).add 2) = some (.string x.s) ∧
        x.k < 256 ∧ x.n < 18446744073709551616 ∧ x.s.size ≤ 9223372036854775807 := by
      intro i hi
      obtain ⟨cs', hc, ht⟩ := hx i (by omega)
      obtain ⟨_, _, hcell⟩ := World.cells?_some hc
      obtain ⟨x, rfl, b0, b1, b2⟩ := item_of ht
      have q0 := hcell 0 (by omega)
      have q1 := hcell 1 (by omega)
      have q2 := hcell 2 (by omega)
      exact ⟨x, q0, q1, q2, b0, b1, b2⟩
    obtain ⟨X, hX⟩ := choose_lt (p := fun i (x : It) => W.cell? (a.add (i * 3)) = some (.int .u8 (x.k : Int)) ∧ W.cell? ((a.add (i * 3)).add 1) = some (.int .u64 (x.n : Int)) ∧ W.cell? ((a.add (i * 3)).add 2) = some (.string x.s) ∧
        x.k < 256 ∧ x.n < 18446744073709551616 ∧ x.s.size ≤ 9223372036854775807) hx'
    refine ⟨⟨(List.range n).map X, by simp, fun hp => ?_⟩, by unfold maxLen at hcm; omega⟩
    have h0 := (hX 0 hp).1
    have hs : a.spot = none := by simpa [Addr.add] using World.cell?_spot h0
    obtain ⟨b, o, spot⟩ := a
    simp only at hs
    subst hs
    refine ⟨b, o, rfl, ?_, fun j x hj => ?_⟩
    · exact World.block_lt_of_cell? W _ h0
    · have hjn : j < n := by have := (List.getElem?_eq_some_iff.1 hj).1; simpa using this
      rw [List.getElem?_map, List.getElem?_range hjn] at hj
      cases hj
      obtain ⟨q0, q1, q2, q3⟩ := hX j hjn
      rw [Addr.add_lit] at q0
      rw [add_plain2] at q1 q2
      exact ⟨q0, q1, q2, q3⟩

theorem octetBack_walk (A : Option Addr) (n c : Nat) (w : World) (h : (∃ its, Its w A n its) ∧ n ≤ 9223372036854775807) :
    Calls Try.prog 5 #[.slice A n c] w fun e w' => e = .returned (.bool true) ∧ Below w.heap.size w w' := by
  obtain ⟨⟨its, hi⟩, hm⟩ := h
  by_cases hn : n ≤ 60
  · exact octetBack_any A n c its w hi hn
  · exact octetBack_more A n c w (by omega) hm

end Go.Proofs.Ythnmmhjnfhmleaa
