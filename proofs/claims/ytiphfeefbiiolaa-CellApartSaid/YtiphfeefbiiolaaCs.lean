/-
  What is proved: a slice of crashes that came in reads as such; the walk of CellPower. Conditions as stated.
-/
import Derived.Test.YtiphfeefbiiolaaCr
namespace Go.Proofs.Ytiphfeefbiiolaa
open Go.RowKit Go.ChangeShapes Go.WideShapes Go.Deep
set_option maxRecDepth 100000

theorem add_plain2 (b o i j : Nat) : (((⟨b, o, none⟩ : Addr).add i).add j) = ⟨b, o + i + j, none⟩ := by rw [Addr.add_lit, Addr.add_lit]
/-- A crash of the law's: the bytes, the number, the picks (where they lie, what they are). -/
structure Crs where
  adr : Option Addr
  room : Nat
  bs : List UInt8
  num : UInt8
  padr : Option Addr
  proom : Nat
  picks : List UInt8
instance : Inhabited Crs := ⟨⟨none, 0, [], 0, none, 0, []⟩⟩
def Crs.cells (x : Crs) : List Value := [.slice x.adr x.bs.length x.room, .int .u8 (x.num.toNat : Int), .slice x.padr x.picks.length x.proom]
def Crs.ok (w : World) (x : Crs) : Prop := Rd (fun _ => True) w x.adr x.bs.length x.bs ∧ Sl x.adr x.bs.length x.room ∧ Rd (fun _ => True) w x.padr x.picks.length x.picks ∧ Sl x.padr x.picks.length x.proom
def Crss (w : World) (A : Option Addr) (n : Nat) (xs : List Crs) : Prop :=
  xs.length = n ∧ (0 < n → ∃ b o, A = some ⟨b, o, none⟩ ∧ b < w.heap.size ∧ ∀ (j : Nat) (x : Crs), xs[j]? = some x → w.rangeAt b (o + j * 3) x.cells ∧ x.ok w)
theorem Try.cells30 : Try.prog.cellsOf 30 = 3 := by kernel_rfl
theorem Try.cells28 : Try.prog.cellsOf 28 = 1 := by kernel_rfl
theorem Try.cells5 : Try.prog.cellsOf 5 = 1 := by kernel_rfl
theorem crash_of {H : Type} {enc : TypeId × Value → H} {W : World} {base : Nat} {spare : Nat → Bool} {held : Bool} {n : Nat} {cs : List Value} {y : DataW H × List MemPlace}
    (h : DataW.trod enc Try.prog W base spare held n 30 cs = some y) : ∃ x : Crs, cs = x.cells ∧ x.ok W := by
  obtain ⟨ys, m, _, _, hlen, hys, hf⟩ := DataW.trod_struct Try.underlying30 h
  rw [Try.cells30] at hlen
  obtain ⟨c0, c1, c2, rfl⟩ : ∃ c0 c1 c2, cs = [c0, c1, c2] := by
    match cs, hlen with
    | [c0, c1, c2], _ => exact ⟨c0, c1, c2, rfl⟩
  have hy3 : ys.length = 3 := hys
  have e0 : DataW.trod enc Try.prog W base spare held m 28 (([c0, c1, c2].drop 0).take (Try.prog.cellsOf 28)) = ys[0]? := hf 0 _ rfl
  have e1 : DataW.trod enc Try.prog W base spare held m 5 (([c0, c1, c2].drop 1).take (Try.prog.cellsOf 5)) = ys[1]? := hf 1 _ rfl
  have e2 : DataW.trod enc Try.prog W base spare held m 28 (([c0, c1, c2].drop 2).take (Try.prog.cellsOf 28)) = ys[2]? := hf 2 _ rfl
  rw [Try.cells28, List.getElem?_eq_getElem (by omega)] at e0 e2
  rw [Try.cells5, List.getElem?_eq_getElem (by omega)] at e1
  obtain ⟨k, h1, _, w1⟩ := DataW.trod_int Try.underlying5 e1
  simp only [List.drop_zero, List.drop_succ_cons, List.take_succ_cons, List.take_zero, List.cons.injEq, and_true] at h1 e0 e2
  subst h1
  have hV : ∀ {c : Value} {y : DataW H × List MemPlace}, DataW.trod enc Try.prog W base spare held m 28 [c] = some y → ∃ A' n' c', c = .slice A' n' c' := by
    intro c y e
    rcases open_ints Try.underlying28 Try.underlying5 (by kernel_rfl) e with ⟨hcs, _⟩ | ⟨x, l, cap, zs, hcs, _⟩
    · exact ⟨_, _, _, List.head_eq_of_cons_eq hcs⟩
    · exact ⟨_, _, _, List.head_eq_of_cons_eq hcs⟩
  obtain ⟨A0, n0, k0, rfl⟩ := hV e0
  obtain ⟨A2, n2, k2, rfl⟩ := hV e2
  obtain ⟨bs, hr, hs⟩ := bytes_of (A := A0) (n := n0) (c := k0) ⟨_, e0⟩
  obtain ⟨ps, hr2, hs2⟩ := bytes_of (A := A2) (n := n2) (c := k2) ⟨_, e2⟩
  obtain rfl : bs.length = n0 := hr.1
  obtain rfl : ps.length = n2 := hr2.1
  exact ⟨⟨A0, k0, bs, UInt8.ofNat k.toNat, A2, k2, ps⟩, by unfold Crs.cells; rw [← u8_of w1], hr, hs, hr2, hs2⟩
theorem crashes_of {H : Type} {enc : TypeId × Value → H} {W : World} {base : Nat} {spare : Nat → Bool} {held : Bool} {A : Option Addr} {n c : Nat} {d : DataW H} {p : List MemPlace}
    (h : DataW.Trod enc Try.prog W base spare held 22 (.slice A n c) d p) : ∃ xs, Crss W A n xs ∧ Sl A n c := by
  obtain ⟨fuel, hf⟩ := h
  rcases open_slice Try.underlying22 hf with ⟨hcs, _⟩ | ⟨a, len, cap, m, k, D, Pl, hcs, _, hlc, hcm, hm, _, hx⟩
  · simp [Value.cells] at hcs
    obtain ⟨rfl, rfl, rfl⟩ := hcs
    exact ⟨[], ⟨rfl, fun h => absurd h (by omega)⟩, ⟨fun _ => ⟨rfl, rfl⟩, Nat.le_refl _, by omega⟩⟩
  · simp [Value.cells] at hcs
    obtain ⟨rfl, rfl, rfl⟩ := hcs
    rw [Try.cells30] at hx
    have hnm : n ≤ m := by rw [hm]; split <;> omega
    have hx' : ∀ i, i < n → ∃ x : Crs, (∀ j v, x.cells[j]? = some v → W.cell? ((a.add (i * 3)).add j) = some v) ∧ x.ok W := by
      intro i hi
      obtain ⟨cs', hc, ht⟩ := hx i (by omega)
      obtain ⟨hl, _, hcell⟩ := World.cells?_some hc
      obtain ⟨x, rfl, hok⟩ := crash_of ht
      refine ⟨x, fun j v hv => ?_, hok⟩
      have hj : j < 3 := (List.getElem?_eq_some_iff.1 hv).1
      rw [hcell j hj]
      exact hv
    obtain ⟨F, hF⟩ := choose_lt (α := Crs) (p := fun i x => (∀ j v, x.cells[j]? = some v → W.cell? ((a.add (i * 3)).add j) = some v) ∧ x.ok W) hx'
    refine ⟨(List.range n).map F, ⟨by simp, fun hp => ?_⟩, ⟨(fun h => by cases h), hlc, by unfold maxLen at hcm; omega⟩⟩
    obtain ⟨b, off, spot⟩ := a
    have h00 := (hF 0 hp).1 0 _ rfl
    have hspot : spot = none := by simpa [Addr.add] using World.cell?_spot h00
    subst hspot
    refine ⟨b, off, rfl, ?_, fun j u hu => ?_⟩
    · rw [add_plain2] at h00
      exact World.block_lt_of_cell? W _ h00
    · rw [List.getElem?_map] at hu
      obtain ⟨z, hz1, rfl⟩ := Option.map_eq_some_iff.1 hu
      obtain ⟨hj, rfl⟩ := List.getElem?_eq_some_iff.1 hz1
      simp at hj
      obtain ⟨h1, h2⟩ := hF j hj
      simp
      refine ⟨fun i v hv => ?_, h2⟩
      have := h1 i v hv
      rwa [add_plain2] at this
end Go.Proofs.Ytiphfeefbiiolaa
