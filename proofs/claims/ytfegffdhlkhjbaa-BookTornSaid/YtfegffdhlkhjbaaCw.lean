/-
  What is proved: a slice of slices of bytes that came in reads as such; what Open finds where one slot alone is whole. Conditions as stated.
-/
import Derived.Test.YtfegffdhlkhjbaaCt
namespace Go.Proofs.Ytfegffdhlkhjbaa
open Go.RowKit Go.ChangeShapes Go.WideShapes Go.Deep
set_option maxRecDepth 100000

theorem Try.cells29 : Try.prog.cellsOf 29 = 1 := by kernel_rfl
/-- Slices of bytes in memory: where each lies, its room, its bytes. -/
def Lists (w : World) (A : Option Addr) (n : Nat) (xs : List (Option Addr × Nat × List UInt8)) : Prop :=
  xs.length = n ∧ (0 < n → ∃ b o, A = some ⟨b, o, none⟩ ∧ b < w.heap.size ∧ ∀ (j : Nat) (x : Option Addr × Nat × List UInt8), xs[j]? = some x → w.cell? ⟨b, o + j, none⟩ = some (.slice x.1 x.2.2.length x.2.1) ∧ Rd (fun _ => True) w x.1 x.2.2.length x.2.2 ∧ Sl x.1 x.2.2.length x.2.1)
theorem lists_of {H : Type} {enc : TypeId × Value → H} {W : World} {base : Nat} {spare : Nat → Bool} {held : Bool} {A : Option Addr} {n c : Nat} {d : DataW H} {p : List MemPlace}
    (h : DataW.Trod enc Try.prog W base spare held 28 (.slice A n c) d p) : ∃ xs, Lists W A n xs ∧ Sl A n c := by
  obtain ⟨fuel, hf⟩ := h
  rcases open_slice1 Try.underlying28 Try.cells29 hf with ⟨hcs, _⟩ | ⟨a, len, cap, m, k, V, D, Pl, hcs, _, hlc, hcm, hm, _, hx⟩
  · simp [Value.cells] at hcs
    obtain ⟨rfl, rfl, rfl⟩ := hcs
    exact ⟨[], ⟨rfl, fun h => absurd h (by omega)⟩, ⟨fun _ => ⟨rfl, rfl⟩, Nat.le_refl _, by omega⟩⟩
  · simp [Value.cells] at hcs
    obtain ⟨rfl, rfl, rfl⟩ := hcs
    have hnm : n ≤ m := by rw [hm]; split <;> omega
    have hx' : ∀ i, i < n → ∃ x : Option Addr × Nat × List UInt8, W.cell? (a.add i) = some (.slice x.1 x.2.2.length x.2.1) ∧ Rd (fun _ => True) W x.1 x.2.2.length x.2.2 ∧ Sl x.1 x.2.2.length x.2.1 := by
      intro i hi
      obtain ⟨hc, ht⟩ := hx i (by omega)
      have hV : ∃ A' n' c', V i = .slice A' n' c' := by
        rcases open_ints Try.underlying29 Try.underlying5 (by kernel_rfl) ht with ⟨hcs, _⟩ | ⟨x, l, cap, zs, hcs, _⟩
        · exact ⟨_, _, _, List.head_eq_of_cons_eq hcs⟩
        · exact ⟨_, _, _, List.head_eq_of_cons_eq hcs⟩
      obtain ⟨A', n', c', hV⟩ := hV
      rw [hV] at hc ht
      obtain ⟨bs, hr, hs⟩ := bytes_of (A := A') (n := n') (c := c') ⟨_, ht⟩
      obtain rfl : bs.length = n' := hr.1
      exact ⟨(A', c', bs), hc, hr, hs⟩
    obtain ⟨X, hX⟩ := choose_lt (α := Option Addr × Nat × List UInt8) (p := fun i (x : Option Addr × Nat × List UInt8) => W.cell? (a.add i) = some (.slice x.1 x.2.2.length x.2.1) ∧ Rd (fun _ => True) W x.1 x.2.2.length x.2.2 ∧ Sl x.1 x.2.2.length x.2.1) hx'
    refine ⟨(List.range n).map X, ⟨by simp, fun hp => ?_⟩, ⟨(fun h => (by cases h)), hlc, by unfold maxLen at hcm; omega⟩⟩
    have h0 := (hX 0 hp).1
    have hs : a.spot = none := by simpa [Addr.add] using World.cell?_spot h0
    obtain ⟨b, o, spot⟩ := a
    simp only at hs
    subst hs
    refine ⟨b, o, rfl, ?_, fun j x hj => ?_⟩
    · exact World.block_lt_of_cell? W _ h0
    · have hjn : j < n := by have := (List.getElem?_eq_some_iff.1 hj).1; simpa using this
      rw [List.getElem?_map, List.getElem?_range hjn] at hj
      cases hj
      obtain ⟨q0, q1, q2⟩ := hX j hjn
      rw [Addr.add_lit] at q0
      exact ⟨q0, q1, q2⟩

theorem openD_one {s : Dk} {x : Int} {b nb : Nat} {bs : List UInt8} (hb : b ≤ 1) (h : slotRes s (x + b * 10) = (nb, bs)) (hn : 1 ≤ nb) (h0 : (slotRes s (x + ((1 - b : Nat) : Int) * 10)).1 = 0) : openD s x = (nb, bs, (b : Int)) := by
  unfold openD
  rcases (show b = 0 ∨ b = 1 by omega) with rfl | rfl
  · rw [show x + ((0 : Nat) : Int) * 10 = x by omega] at h
    rw [show x + ((1 - 0 : Nat) : Int) * 10 = x + 10 by omega] at h0
    rw [h, if_neg (by simp only; omega), if_pos (by simp only; omega)]
    rfl
  · rw [show x + ((1 : Nat) : Int) * 10 = x + 10 by omega] at h
    rw [show x + ((1 - 1 : Nat) : Int) * 10 = x by omega] at h0
    rw [h, if_pos (by simp only; omega)]
    rfl
section
variable {w wr : World} {d T : Nat} {s : Dk} {L : List (Nat × Obj)} {x : Int} {g : Nat} {bs : List UInt8} {slot : Int}
theorem cell_open_one (h : Dat w d T s L wr) (ho : s.off = false) (hx : 0 ≤ x ∧ x ≤ 32748) {nb : Nat} (e : openD s x = (nb, bs, slot)) (hn : 1 ≤ nb) :
    Calls Try.prog 22 #[.pointer (some ⟨d, 0, none⟩), .int .i64 x] wr fun E w' => ∃ g, E = .returned (.tuple #[.pointer (some ⟨g, 0, none⟩), .int .i64 0]) ∧ Hid (OpAt w d T s x L g bs slot w') := by
  refine (open_any h ho x hx).mono fun E w' hE => ?_
  rcases hE with ⟨h0, _⟩ | ⟨_, g, h1, h2⟩
  · rw [e] at h0
    simp only at h0
    omega
  · rw [e] at h2
    exact ⟨g, h1, h2⟩
/-- A cell stays while its blocks do. -/
theorem OpAt.split (h : OpAt w d T s x L g bs slot wr) : ∃ Lc, Dat w d T s Lc wr ∧ ∀ T' s' W, Dat w d T' s' Lc W → OpAt w d T' s' x L g bs slot W := by
  obtain ⟨A, n, c, LR, h1, h2⟩ := h
  exact ⟨_, h1, fun T' s' W hW => ⟨A, n, c, LR, hW, h2⟩⟩
end
theorem CellIs.congr {s s' : Dk} {x : Int} {a na C C' : Nat} {bs : List UInt8} (h : CellIs s x a na bs C) (hr : ∀ i : Nat, i < 20 → s'.read (x + i) = s.read (x + i)) (hC : C ≤ C') (hC' : C' < 4611686018427387904) : CellIs s' x a na bs C' := by
  have ha := h.slot
  refine ⟨h.slot, fun i hi => ?_, h.pos, Nat.le_trans h.top hC, h.len, ?_, fun i hi he => ?_, hC'⟩
  · have := hr (a * 10 + i) (by omega)
    rw [show x + ((a * 10 + i : Nat) : Int) = x + a * 10 + i by omega] at this
    rw [this]
    exact h.has i hi
  · rw [slotRes_congr (s := s) fun i hi => ?_]
    · exact h.elder
    · have := hr ((1 - a) * 10 + i) (by omega)
      rw [show x + (((1 - a) * 10 + i : Nat) : Int) = x + (1 - a : Nat) * 10 + i by omega] at this
      exact this
  · rw [hr i hi] at he ⊢
    exact Nat.le_trans (h.all i hi he) hC
/-- What is written beside a cell. -/
theorem write_beside {s : Dk} (hc : Calm s) {y : Int} (hy : 0 ≤ y ∧ y < 32768) (b : List UInt8) : (s.write y b).2 = 0 ∧ Calm (s.write y b).1 ∧ ∀ z, 0 ≤ z ∧ z < 32768 → z ≠ y → (s.write y b).1.read z = s.read z := by
  rw [write_ok hc.1 hc.2 hy]
  refine ⟨rfl, hc, fun z hz hne => ?_⟩
  rw [read_on (s := { s with loose := s.loose ++ [(y, b)] }) hc.1 hz, read_on hc.1 hz]
  simp only [lastW_append]
  have : lastW [(y, b)] z = none := by
    simp [lastW]
    omega
  rw [this]
end Go.Proofs.Ytfegffdhlkhjbaa
