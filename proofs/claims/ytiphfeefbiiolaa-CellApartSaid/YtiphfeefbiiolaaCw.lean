/-
  What is proved: a slice of slices of bytes that came in reads as such; what Open finds where one slot alone is whole. Conditions as stated.
-/
import Derived.Test.YtiphfeefbiiolaaCv
namespace Go.Proofs.Ytiphfeefbiiolaa
open Go.RowKit Go.ChangeShapes Go.WideShapes Go.Deep
set_option maxRecDepth 100000

/-- Slices of bytes in memory: where each lies, its room, its bytes. -/
def Lists (w : World) (A : Option Addr) (n : Nat) (xs : List (Option Addr × Nat × List UInt8)) : Prop :=
  xs.length = n ∧ (0 < n → ∃ b o, A = some ⟨b, o, none⟩ ∧ b < w.heap.size ∧ ∀ (j : Nat) (x : Option Addr × Nat × List UInt8), xs[j]? = some x → w.cell? ⟨b, o + j, none⟩ = some (.slice x.1 x.2.2.length x.2.1) ∧ Rd (fun _ => True) w x.1 x.2.2.length x.2.2 ∧ Sl x.1 x.2.2.length x.2.1)
theorem lists_of {H : Type} {enc : TypeId × Value → H} {W : World} {base : Nat} {spare : Nat → Bool} {held : Bool} {A : Option Addr} {n c : Nat} {d : DataW H} {p : List MemPlace}
    (h : DataW.Trod enc Try.prog W base spare held 48 (.slice A n c) d p) : ∃ xs, Lists W A n xs ∧ Sl A n c := by
  obtain ⟨fuel, hf⟩ := h
  rcases open_slice1 Try.underlying48 Try.cells28 hf with ⟨hcs, _⟩ | ⟨a, len, cap, m, k, V, D, Pl, hcs, _, hlc, hcm, hm, _, hx⟩
  · simp [Value.cells] at hcs
    obtain ⟨rfl, rfl, rfl⟩ := hcs
    exact ⟨[], ⟨rfl, fun h => absurd h (by omega)⟩, ⟨fun _ => ⟨rfl, rfl⟩, Nat.le_refl _, by omega⟩⟩
  · simp [Value.cells] at hcs
    obtain ⟨rfl, rfl, rfl⟩ := hcs
    have hnm : n ≤ m := by rw [hm]; split <;> omega
    have hx' : ∀ i, i < n → ∃ x : Option Addr × Nat × List UInt8, W.cell? (a.add i) = some (.slice x.1 x.2.2.length x.2.1) ∧ Rd (fun _ => True) W x.1 x.2.2.length x.2.2 ∧ Sl x.1 x.2.2.length x.2.1 := by
      intro i hi
      obtain ⟨hc, ht⟩ := hx i (by omega)
      have hV : ∃ A' n' c', V i = .slice A' n' c' := by
        rcases open_ints Try.underlying28 Try.underlying5 (by kernel_rfl) ht with ⟨hcs, _⟩ | ⟨x, l, cap, zs, hcs, _⟩
        · exact ⟨_, _, _, List.head_eq_of_cons_eq hcs⟩
        · exact ⟨_, _, _, List.head_eq_of_cons_eq hcs⟩
      obtain ⟨A', n', c', hV⟩ := hV
      rw [hV] at hc ht
      obtain ⟨bs, hr, hs⟩ := bytes_of (A := A') (n := n') (c := c') ⟨_, ht⟩
      obtain rfl : bs.length = n' := hr.1
      exact ⟨(A', c', bs), hc, hr, hs⟩
    obtain ⟨X, hX⟩ := choose_lt (α := Option Addr × Nat × List UInt8) (p := fun i (x : Option Addr × Nat × List UInt8) => W.cell? (a.add i) = some (.slice x.1 x.2.2.length x.2.1) ∧ Rd (fun _ => True) W x.1 x.2.2.length x.2.2 ∧ Sl x.1 x.2.2.length x.2.1) hx'
    refine ⟨(List.range n).map X, ⟨by simp, fun hp => ?_⟩, ⟨(fun h => (by cases h)), hlc, by unfold maxLen at hcm; omega⟩⟩
    have h0 := (hX 0 hp).1
    have hs : a.spot = none := by simpa [Addr.add] using World.cell?_spot h0
    obtain ⟨b, o, spot⟩ := a
    simp only at hs
    subst hs
    refine ⟨b, o, rfl, ?_, fun j x hj => ?_⟩
    · exact World.block_lt_of_cell? W _ h0
    · have hjn : j < n := by have := (List.getElem?_eq_some_iff.1 hj).1; simpa using this
      rw [List.getElem?_map, List.getElem?_range hjn] at hj
      cases hj
      obtain ⟨q0, q1, q2⟩ := hX j hjn
      rw [Addr.add_lit] at q0
      exact ⟨q0, q1, q2⟩

theorem openD_one {s : Dk} {x : Int} {b nb : Nat} {bs : List UInt8} (hb : b ≤ 1) (h : slotRes s (x + b * 10) = (nb, bs)) (hn : 1 ≤ nb) (h0 : (slotRes s (x + ((1 - b : Nat) : Int) * 10)).1 = 0) : openD s x = (nb, bs, (b : Int)) := by
  unfold openD
  rcases (show b = 0 ∨ b = 1 by omega) with rfl | rfl
  · rw [show x + ((0 : Nat) : Int) * 10 = x by omega] at h
    rw [show x + ((1 - 0 : Nat) : Int) * 10 = x + 10 by omega] at h0
    rw [h, if_neg (by simp only; omega), if_pos (by simp only; omega)]
    rfl
  · rw [show x + ((1 : Nat) : Int) * 10 = x + 10 by omega] at h
    rw [show x + ((1 - 1 : Nat) : Int) * 10 = x by omega] at h0
    rw [h, if_pos (by simp only; omega)]
    rfl
/-- A sector of the cell's slot is lost: what stands in the other one is found. -/
theorem elder1 {s s5 : Dk} {a ne u1 : Nat} {elder : List UInt8} (ha : a ≤ 1) (hu : u1 < 10) (hold : SlotIs s (0 + ((1 - a : Nat) : Int) * 10) ne elder) (hpos : 1 ≤ ne) (hne : ne < 18446744073709551616) (hlen : elder.length ≤ 1100)
    (hl : s5.read (10 * (a : Int) + (u1 : Int)) = (zeros, 9)) (hr : ∀ z, 0 ≤ z ∧ z < 32768 → z ≠ 10 * (a : Int) + (u1 : Int) → s5.read z = s.read z) : openD s5 0 = (ne, elder, ((1 - a : Nat) : Int)) := by
  refine openD_one (by omega) (slotRes_is (fun i hi => ?_) hne hlen) hpos ?_
  · rw [hr _ (by omega) (by omega)]
    exact hold i hi
  · rw [show 1 - (1 - a) = a by omega]
    refine slotRes_lost (i := u1) hu ?_
    rw [show (0 : Int) + (a : Int) * 10 + (u1 : Int) = 10 * (a : Int) + (u1 : Int) by omega, hl]
    decide
/-- A sector of each slot is lost. -/
theorem elder2 {s s5 s8 : Dk} {a u1 u2 C : Nat} (ha : a ≤ 1) (hu : u1 < 10) (hu2 : u2 < 10) (hall : ∀ i : Nat, i < 20 → (s.read (0 + i)).2 = 0 → cnt (s.read (0 + i)).1 ≤ C)
    (hl : s5.read (10 * (a : Int) + (u1 : Int)) = (zeros, 9)) (hr : ∀ z, 0 ≤ z ∧ z < 32768 → z ≠ 10 * (a : Int) + (u1 : Int) → s5.read z = s.read z)
    (hl2 : s8.read (10 - 10 * (a : Int) + (u2 : Int)) = (zeros, 9)) (hr2 : ∀ z, 0 ≤ z ∧ z < 32768 → z ≠ 10 - 10 * (a : Int) + (u2 : Int) → s8.read z = s5.read z) :
    s8.read (10 * (a : Int) + (u1 : Int)) = (zeros, 9) ∧ (slotRes s8 0).1 = 0 ∧ (slotRes s8 (0 + 10)).1 = 0 ∧ topGo s8 0 20 ≤ C := by
  have h1 : s8.read (10 * (a : Int) + (u1 : Int)) = (zeros, 9) := by rw [hr2 _ (by omega) (by omega)]; exact hl
  refine ⟨h1, ?_, ?_, topGo_le fun i hi he => ?_⟩
  · rcases (show a = 0 ∨ a = 1 by omega) with rfl | rfl
    · exact slotRes_lost (i := u1) hu (by rw [show (0 : Int) + (u1 : Int) = 10 * ((0 : Nat) : Int) + (u1 : Int) by omega, h1]; decide)
    · exact slotRes_lost (i := u2) hu2 (by rw [show (0 : Int) + (u2 : Int) = 10 - 10 * ((1 : Nat) : Int) + (u2 : Int) by omega, hl2]; decide)
  · rcases (show a = 0 ∨ a = 1 by omega) with rfl | rfl
    · exact slotRes_lost (i := u2) hu2 (by rw [show (0 : Int) + 10 + (u2 : Int) = 10 - 10 * ((0 : Nat) : Int) + (u2 : Int) by omega, hl2]; decide)
    · exact slotRes_lost (i := u1) hu (by rw [show (0 : Int) + 10 + (u1 : Int) = 10 * ((1 : Nat) : Int) + (u1 : Int) by omega, h1]; decide)
  · by_cases k1 : (0 : Int) + (i : Int) = 10 - 10 * (a : Int) + (u2 : Int)
    · rw [k1, hl2] at he
      exact absurd he (by decide)
    · rw [hr2 _ (by omega) k1] at he ⊢
      by_cases k2 : (0 : Int) + (i : Int) = 10 * (a : Int) + (u1 : Int)
      · rw [k2, hl] at he
        exact absurd he (by decide)
      · rw [hr _ (by omega) k2] at he ⊢
        exact hall i hi he
/-- .. and the other slot is put anew. -/
theorem elder3 {s8 : Dk} {a u1 C : Nat} {b : List UInt8} (ha : a ≤ 1) (hu : u1 < 10) (hC : C < 9223372036854775808) (hc : Calm s8) (h1 : s8.read (10 * (a : Int) + (u1 : Int)) = (zeros, 9)) (ht : topGo s8 0 20 ≤ C) (hb : b.length ≤ 1100) :
    ∃ s11, renewD s8 0 (1 - (a : Int)) b = (s11, 0) ∧ s11.off = false ∧ openD s11 0 = (topGo s8 0 20 + 1, b, ((1 - a : Nat) : Int)) := by
  obtain ⟨s11, r1, r2, r3, r4, r5⟩ := renew_ok (s := s8) (at' := 0) (slot := 1 - (a : Int)) (bs := b) hc.1 hc.2 (by omega)
  refine ⟨s11, r1, r2, openD_one (by omega) (slotRes_is (fun i hi => ?_) (by omega) hb) (by omega) ?_⟩
  · rw [r5 _ (by omega), if_pos (by omega)]
    congr 2
    omega
  · rw [show 1 - (1 - a) = a by omega]
    refine slotRes_lost (i := u1) hu ?_
    rw [r5 _ (by omega), if_neg (by omega), show (0 : Int) + (a : Int) * 10 + (u1 : Int) = 10 * (a : Int) + (u1 : Int) by omega, h1]
    decide
section
variable {w wr : World} {d T : Nat} {s : Dk} {L : List (Nat × Obj)} {x : Int} {g : Nat} {bs : List UInt8} {slot : Int}
theorem cell_open_one (h : Dat w d T s L wr) (ho : s.off = false) (hx : 0 ≤ x ∧ x ≤ 32748) {nb : Nat} (e : openD s x = (nb, bs, slot)) (hn : 1 ≤ nb) :
    Calls Try.prog 10 #[.pointer (some ⟨d, 0, none⟩), .int .i64 x] wr fun E w' => ∃ g, E = .returned (.tuple #[.pointer (some ⟨g, 0, none⟩), .int .i64 0]) ∧ Hid (OpAt w d T s x L g bs slot w') := by
  refine (open_any h ho x hx).mono fun E w' hE => ?_
  rcases hE with ⟨h0, _⟩ | ⟨_, g, h1, h2⟩
  · rw [e] at h0
    simp only at h0
    omega
  · rw [e] at h2
    exact ⟨g, h1, h2⟩
/-- A cell stays while its blocks do. -/
theorem OpAt.split (h : OpAt w d T s x L g bs slot wr) : ∃ Lc, Dat w d T s Lc wr ∧ ∀ T' s' W, Dat w d T' s' Lc W → OpAt w d T' s' x L g bs slot W := by
  obtain ⟨A, n, c, LR, h1, h2⟩ := h
  exact ⟨_, h1, fun T' s' W hW => ⟨A, n, c, LR, hW, h2⟩⟩
end
/-- The numbers of CellElder. -/
theorem el_mod (u : UInt8) : ∃ m : Nat, m < 10 ∧ ((u.toNat : Int)).tmod 10 = (m : Int) ∧ (u.toNat : Int) % 10 = (m : Int) ∧ Go.RowKit.wrap64 (u.toNat : Int) = (u.toNat : Int) := by
  have := u.toNat_lt
  refine ⟨u.toNat % 10, by omega, ?_, by omega, by unfold Go.RowKit.wrap64; omega⟩
  rw [Int.tmod_eq_emod_of_nonneg (by omega)]
  omega
theorem el_turn {a k : Nat} (h : a = k % 2) : ((k : Int)).tmod 2 = (a : Int) ∧ (k : Int) % 2 = (a : Int) := by
  refine ⟨?_, by omega⟩
  rw [Int.tmod_eq_emod_of_nonneg (by omega)]
  omega
theorem el_one {a u : Nat} (ha : a ≤ 1) (hu : u < 10) : 0 ≤ 10 * (a : Int) + (u : Int) ∧ 10 * (a : Int) + (u : Int) < 32768 := by omega
theorem el_two {a u : Nat} (ha : a ≤ 1) (hu : u < 10) : 0 ≤ 10 - 10 * (a : Int) + (u : Int) ∧ 10 - 10 * (a : Int) + (u : Int) < 32768 := by omega
theorem el_wrap {a u : Nat} (ha : a ≤ 1) (hu : u < 10) : Go.RowKit.wrap64 (10 - 10 * (a : Int) + (u : Int)) = 10 - 10 * (a : Int) + (u : Int) := by unfold Go.RowKit.wrap64; omega
theorem el_less {na ne k n : Nat} (h1 : ne < na) (h2 : na ≤ 2 + k) (h3 : k ≤ n) (h4 : n ≤ 20) : ne < 18446744073709551616 := by omega
end Go.Proofs.Ytiphfeefbiiolaa
