/-
  What is proved: a slice of writes that came in reads as such; the walk of DiskPower. Conditions as stated.
-/
import Derived.Test.YthbbghkefekhfaaDv
import Derived.Test.YthbbghkefekhfaaDo
namespace Go.Proofs.Ythbbghkefekhfaa
open Go.RowKit Go.ChangeShapes Go.WideShapes Go.Deep

theorem Try.cells51 : Try.prog.cellsOf 51 = 2 := by kernel_rfl

theorem put_of {H : Type} {enc : TypeId × Value → H} {W : World} {base : Nat} {spare : Nat → Bool} {held : Bool} {n : Nat} {cs : List Value} {y : DataW H × List MemPlace}
    (h : DataW.trod enc Try.prog W base spare held n 51 cs = some y) : ∃ x : UInt8 × UInt8, cs = [.int .u8 (x.1.toNat : Int), .int .u8 (x.2.toNat : Int)] := by
  obtain ⟨ys, m, _, _, hlen, hys, hf⟩ := DataW.trod_struct Try.underlying51 h
  rw [Try.cells51] at hlen
  obtain ⟨c0, c1, rfl⟩ : ∃ c0 c1, cs = [c0, c1] := by
    match cs, hlen with
    | [c0, c1], _ => exact ⟨c0, c1, rfl⟩
  have hy3 : ys.length = 2 := hys
  have e0 : DataW.trod enc Try.prog W base spare held m 5 (([c0, c1].drop 0).take (Try.prog.cellsOf 5)) = ys[0]? := hf 0 _ rfl
  have e1 : DataW.trod enc Try.prog W base spare held m 5 (([c0, c1].drop 1).take (Try.prog.cellsOf 5)) = ys[1]? := hf 1 _ rfl
  rw [Try.cells5, List.getElem?_eq_getElem (by omega)] at e0
  rw [Try.cells5, List.getElem?_eq_getElem (by omega)] at e1
  obtain ⟨k, h0, _, w0⟩ := DataW.trod_int Try.underlying5 e0
  obtain ⟨a, h1, _, w1⟩ := DataW.trod_int Try.underlying5 e1
  simp only [List.drop_zero, List.drop_succ_cons, List.take_succ_cons, List.take_zero, List.cons.injEq, and_true] at h0 h1
  subst h0 h1
  exact ⟨(UInt8.ofNat k.toNat, UInt8.ofNat a.toNat), by rw [← u8_of w0, ← u8_of w1]⟩

theorem add_plain2 (b o i j : Nat) : (((⟨b, o, none⟩ : Addr).add i).add j) = ⟨b, o + i + j, none⟩ := by rw [Addr.add_lit, Addr.add_lit]

theorem puts_of {H : Type} {enc : TypeId × Value → H} {W : World} {base : Nat} {spare : Nat → Bool} {held : Bool} {A : Option Addr} {n c : Nat} {d : DataW H} {p : List MemPlace}
    (h : DataW.Trod enc Try.prog W base spare held 48 (.slice A n c) d p) : ∃ xs, Rp W A n xs ∧ Sl A n c := by
  obtain ⟨fuel, hf⟩ := h
  rcases open_slice Try.underlying48 hf with ⟨hcs, _⟩ | ⟨a, len, cap, m, k, D, Pl, hcs, _, hlc, hcm, hm, _, hx⟩
  · simp [Value.cells] at hcs
    obtain ⟨rfl, rfl, rfl⟩ := hcs
    exact ⟨[], ⟨rfl, fun h => absurd h (by omega)⟩, ⟨fun _ => ⟨rfl, rfl⟩, Nat.le_refl _, by omega⟩⟩
  · simp [Value.cells] at hcs
    obtain ⟨rfl, rfl, rfl⟩ := hcs
    rw [Try.cells51] at hx
    have hnm : n ≤ m := by rw [hm]; split <;> omega
    have hx' : ∀ i, i < n → ∃ x : UInt8 × UInt8, W.cell? (a.add (i * 2)) = some (.int .u8 (x.1.toNat : Int)) ∧ W.cell? ((a.add (i * 2)).add 1) = some (.int .u8 (x.2.toNat : Int)) := by
      intro i hi
      obtain ⟨cs', hc, ht⟩ := hx i (by omega)
      obtain ⟨_, _, hcell⟩ := World.cells?_some hc
      obtain ⟨x, rfl⟩ := put_of ht
      have q0 := hcell 0 (by omega)
      have q1 := hcell 1 (by omega)
      exact ⟨x, q0, q1⟩
    obtain ⟨F, hF⟩ := choose_lt (α := UInt8 × UInt8) (p := fun i x => W.cell? (a.add (i * 2)) = some (.int .u8 (x.1.toNat : Int)) ∧ W.cell? ((a.add (i * 2)).add 1) = some (.int .u8 (x.2.toNat : Int))) hx'
    refine ⟨(List.range n).map F, ⟨by simp, fun hp => ?_⟩, ⟨(fun h => by cases h), hlc, by unfold maxLen at hcm; omega⟩⟩
    obtain ⟨b, off, spot⟩ := a
    have hspot : spot = none := by simpa [Addr.add] using World.cell?_spot (hF 0 hp).1
    subst hspot
    refine ⟨b, off, rfl, ?_, fun j u hu => ?_⟩
    · have h0 := (hF 0 hp).1
      rw [Addr.add_lit] at h0
      exact World.block_lt_of_cell? W _ h0
    · rw [List.getElem?_map] at hu
      obtain ⟨z, hz1, rfl⟩ := Option.map_eq_some_iff.1 hu
      obtain ⟨hj, rfl⟩ := List.getElem?_eq_some_iff.1 hz1
      simp at hj
      obtain ⟨h1, h2⟩ := hF j hj
      rw [add_plain2] at h2
      rw [Addr.add_lit] at h1
      simp
      exact ⟨h1, h2⟩

theorem diskPower_walk (W : World) (A : Option Addr) (n c : Nat) (h1 : ∃ xs, Rp W A n xs ∧ Sl A n c) (B : Option Addr) (m cm : Nat) (h2 : ∃ xs, Rp W B m xs ∧ Sl B m cm) (D : Option Addr) (r cr : Nat) (h3 : ∃ bs, Rd (fun _ => True) W D r bs ∧ Sl D r cr) :
    Calls Try.prog 4 #[.slice A n c, .slice B m cm, .slice D r cr] W fun E w' => E = .returned (.bool true) ∧ Below W.heap.size W w' := by
  obtain ⟨xs, hx, hs⟩ := h1
  obtain ⟨ys, hy, hs2⟩ := h2
  obtain ⟨ps, hp, hs3⟩ := h3
  exact diskPower_by works_are A n c xs B m cm ys D r cr ps W hx hs hy hs2 hp hs3
end Go.Proofs.Ythbbghkefekhfaa
