/-
  What is proved: a cell that is new; what Open finds; the chapter's example (works). Conditions as stated.
-/
import Derived.Test.YtfegffdhlkhjbaaCn
namespace Go.Proofs.Ytfegffdhlkhjbaa
open Go.RowKit
set_option maxRecDepth 100000

theorem format_ok {s : Dk} {at' : Int} (ho : s.off = false) (hf : s.fuse = none) (hx : 0 ≤ at' ∧ at' ≤ 32748) :
    ∃ s1 s2 s3, wrs s at' (sect 2 []) 10 = (s1, 0) ∧ wrs s1 (at' + 10) (sect 1 []) 10 = (s2, 0) ∧ s2.sync = (s3, 0) ∧ s3.off = false ∧ s3.fuse = none ∧ s3.loose = [] ∧
      ∀ y, 0 ≤ y ∧ y < 32768 → s3.read y = if at' ≤ y ∧ y < at' + 10 then (sect 2 [] (y - at').toNat, 0) else if at' + 10 ≤ y ∧ y < at' + 20 then (sect 1 [] (y - (at' + 10)).toNat, 0) else s.read y := by
  have h1 := wrs_ok (s := s) (x := at') (f := sect 2 []) ho hf (by omega) 10 (Nat.le_refl _)
  have h2 := wrs_ok (s := { s with loose := s.loose ++ (List.range 10).map fun (i : Nat) => (at' + (i : Int), sect 2 [] i) }) (x := at' + 10) (f := sect 1 []) ho hf (by omega) 10 (Nat.le_refl _)
  obtain ⟨k1, k2, k3, k4, k5, _⟩ := sync_ok (s := { s with loose := (s.loose ++ (List.range 10).map fun (i : Nat) => (at' + (i : Int), sect 2 [] i)) ++ (List.range 10).map fun (i : Nat) => (at' + 10 + (i : Int), sect 1 [] i) }) ho hf
  refine ⟨_, _, _, h1, h2, Prod.ext rfl k1, k2, k3, k4, fun y hy => ?_⟩
  rw [k5 y hy, read_on (s := { s with loose := (s.loose ++ (List.range 10).map fun (i : Nat) => (at' + (i : Int), sect 2 [] i)) ++ (List.range 10).map fun (i : Nat) => (at' + 10 + (i : Int), sect 1 [] i) }) ho hy, read_on ho hy]
  simp only [lastW_append, lastW_slot]
  by_cases h : at' ≤ y ∧ y < at' + 10
  · rw [if_pos h, if_neg (by omega), if_pos (by omega)]
  · rw [if_neg h]
    by_cases h' : at' + 10 ≤ y ∧ y < at' + 20
    · rw [if_pos h', if_pos (by omega)]
    · rw [if_neg h', if_neg (by omega), if_neg (by omega)]

/-- What holds of a cell at x: slot a has the bytes with count na, the other slot is older, no count is above C. -/
structure CellIs (s : Dk) (x : Int) (a : Nat) (na : Nat) (bs : List UInt8) (C : Nat) : Prop where
  slot : a ≤ 1
  has : SlotIs s (x + a * 10) na bs
  pos : 1 ≤ na
  top : na ≤ C
  len : bs.length ≤ 1100
  elder : (slotRes s (x + (1 - a : Nat) * 10)).1 < na
  all : ∀ i : Nat, i < 20 → (s.read (x + i)).2 = 0 → cnt (s.read (x + i)).1 ≤ C
  small : C < 4611686018427387904
theorem CellIs.open {s : Dk} {x : Int} {a na C : Nat} {bs : List UInt8} (h : CellIs s x a na bs C) : openD s x = (na, bs, (a : Int)) := by
  have h1 := slotRes_is h.has (by have := h.top; have := h.small; omega) h.len
  have h2 := h.elder
  have hp := h.pos
  have ha := h.slot
  unfold openD
  rcases (show a = 0 ∨ a = 1 by omega) with rfl | rfl
  · rw [show x + ((0 : Nat) : Int) * 10 = x by omega] at h1
    rw [show x + ((1 - 0 : Nat) : Int) * 10 = x + 10 by omega] at h2
    rw [h1, if_neg (by simp only; omega), if_pos (by simp only; omega)]
    rfl
  · rw [show x + ((1 : Nat) : Int) * 10 = x + 10 by omega] at h1
    rw [show x + ((1 - 1 : Nat) : Int) * 10 = x by omega] at h2
    rw [h1, if_pos h2]
    rfl
theorem CellIs.top_le {s : Dk} {x : Int} {a na C : Nat} {bs : List UInt8} (h : CellIs s x a na bs C) : na ≤ topGo s x 20 ∧ topGo s x 20 ≤ C := by
  refine ⟨?_, topGo_le h.all⟩
  have ha := h.slot
  have h0 := h.has 0 (by omega)
  have hc : na < 18446744073709551616 := by have := h.top; have := h.small; omega
  have := topGo_ge (s := s) (x := x) (n := 20) (a * 10) (by omega) (by
    rw [show x + ((a * 10 : Nat) : Int) = x + a * 10 + ((0 : Nat) : Int) by omega, h0])
  rw [show x + ((a * 10 : Nat) : Int) = x + a * 10 + ((0 : Nat) : Int) by omega, h0, cnt_sect _ _ _ hc] at this
  exact this
/-- A new cell. -/
theorem cell_new {s s3 : Dk} {x : Int} (hx : 0 ≤ x ∧ x ≤ 32748) (h : ∀ y, 0 ≤ y ∧ y < 32768 → s3.read y = if x ≤ y ∧ y < x + 10 then (sect 2 [] (y - x).toNat, 0) else if x + 10 ≤ y ∧ y < x + 20 then (sect 1 [] (y - (x + 10)).toNat, 0) else s.read y) :
    CellIs s3 x 0 2 [] 2 := by
  have hA : SlotIs s3 x 2 [] := fun i hi => by
    rw [h _ (by omega), if_pos (by omega)]
    congr 2
    omega
  have hB : SlotIs s3 (x + 10) 1 [] := fun i hi => by
    rw [h _ (by omega), if_neg (by omega), if_pos (by omega)]
    congr 2
    omega
  refine ⟨by omega, by rw [show x + ((0 : Nat) : Int) * 10 = x by omega]; exact hA, by omega, by omega, by simp, ?_, fun i hi _ => ?_, by omega⟩
  · rw [show x + ((1 - 0 : Nat) : Int) * 10 = x + 10 by omega, slotRes_is hB (by omega) (by simp)]
    omega
  · by_cases h1 : i < 10
    · rw [hA i h1, cnt_sect _ _ _ (by omega)]
      omega
    · have := hB (i - 10) (by omega)
      rw [show x + 10 + ((i - 10 : Nat) : Int) = x + i by omega] at this
      rw [this, cnt_sect _ _ _ (by omega)]
      omega
/-- A Put that nothing disturbs. -/
theorem CellIs.put {s s' : Dk} {x : Int} {a na C : Nat} {bs : List UInt8} (h : CellIs s x a na bs C) (hx : 0 ≤ x ∧ x ≤ 32748) (hC : C + 1 < 4611686018427387904) (b : List UInt8) (hb : b.length ≤ 1100)
    (hr : ∀ y, 0 ≤ y ∧ y < 32768 → s'.read y = if x + (1 - a : Nat) * 10 ≤ y ∧ y < x + (1 - a : Nat) * 10 + 10 then (sect (topGo s x 20 + 1) b (y - (x + (1 - a : Nat) * 10)).toNat, 0) else s.read y) :
    CellIs s' x (1 - a) (topGo s x 20 + 1) b (C + 1) ∧ SlotIs s' (x + a * 10) na bs := by
  have ha := h.slot
  obtain ⟨t1, t2⟩ := h.top_le
  have hc : na < 18446744073709551616 := by omega
  have hA : SlotIs s' (x + (1 - a : Nat) * 10) (topGo s x 20 + 1) b := fun i hi => by
    rw [hr _ (by omega), if_pos (by omega)]
    congr 2
    omega
  have hB : SlotIs s' (x + a * 10) na bs := fun i hi => by
    rw [hr _ (by omega), if_neg (by omega)]
    exact h.has i hi
  refine ⟨⟨by omega, hA, by omega, by omega, hb, ?_, fun i hi he => ?_, hC⟩, hB⟩
  · rw [show 1 - (1 - a) = a by omega, slotRes_is hB hc h.len]
    simp only
    omega
  · rw [hr _ (by omega)] at he ⊢
    by_cases h1 : x + (1 - a : Nat) * 10 ≤ x + (i : Int) ∧ x + (i : Int) < x + (1 - a : Nat) * 10 + 10
    · rw [if_pos h1, cnt_sect _ _ _ (by omega)]
      omega
    · rw [if_neg h1] at he ⊢
      have := h.all i hi he
      omega
end Go.Proofs.Ytfegffdhlkhjbaa
