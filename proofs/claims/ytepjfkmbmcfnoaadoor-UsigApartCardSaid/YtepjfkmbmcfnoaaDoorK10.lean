/-
  What is proved: plain facts on what a slot's sectors tell, on writes one behind the other, and on what is picked. Conditions as stated.
  What is proved: a cell that is new; what Open finds; the chapter's example (works). Conditions as stated.
  What is proved: the cell's calls as a law meets them; the chapter's example (works). Conditions as stated.
  What is proved: bytes that come in read as such; the walk of CellNil. Conditions as stated.
-/
import Derived.Test.YtepjfkmbmcfnoaaDoorK9
import Derived.Lib.SlBytesConst
import Derived.ProofKit
import Derived.OpenShut
import Derived.Deep.Slices

namespace Go.Proofs.YtepjfkmbmcfnoaaDoor
open Go.RowKit
set_option maxRecDepth 100000

/-! ### the numbers -/
theorem num_beTake (size n : Nat) (hn : n < 256 ^ size) : ∀ k, k ≤ size → Oct.num (Oct.beTake size n k) = n / 256 ^ (size - k) := by
  intro k
  induction k with
  | zero => intro _; rw [Oct.beTake_zero, Nat.sub_zero, Nat.div_eq_of_lt hn]; rfl
  | succ k ih =>
    intro hk
    rw [Oct.beTake_succ, Oct.num_snoc, ih (by omega)]
    have h1 : size - k = (size - (k + 1)) + 1 := by omega
    have h2 : (Oct.beAt size n k).toNat = n / 256 ^ (size - (k + 1)) % 256 := by
      have := Oct.beAt_toNat size n k
      rw [show size - 1 - k = size - (k + 1) by omega] at this
      omega
    rw [h2, h1, Nat.pow_succ, ← Nat.div_div_eq_div_mul]
    omega
theorem num_be (size n : Nat) (hn : n < 256 ^ size) : Oct.num (Oct.be size n) = n := by
  rw [Oct.be, num_beTake size n hn size (Nat.le_refl _), Nat.sub_self, Nat.pow_zero, Nat.div_one]

theorem cnt_sect (count : Nat) (bs : List UInt8) (i : Nat) (hc : count < 18446744073709551616) : cnt (sect count bs i) = count := by
  unfold cnt sect
  rw [List.take_append_of_le_length (by rw [Oct.be_length]; omega), List.take_of_length_le (by rw [Oct.be_length]; omega)]
  exact num_be 8 count hc
theorem drop_sect (count : Nat) (bs : List UInt8) (i : Nat) : (sect count bs i).drop 8 = partOf bs i ++ List.replicate (120 - (partOf bs i).length) 0 := by
  unfold sect
  rw [List.drop_append, Oct.be_length, List.drop_of_length_le (by rw [Oct.be_length]; omega)]
  rfl

/-- All of a slot behind the counts. -/
def padded (bs : List UInt8) : List UInt8 := slotRow bs ++ List.replicate (1200 - (slotRow bs).length) 0
theorem padded_length (bs : List UInt8) (h : bs.length ≤ 1100) : (padded bs).length = 1200 := by
  have := slotRow_length bs
  simp only [padded, List.length_append, List.length_replicate]
  omega
theorem part_padded (bs : List UInt8) (h : bs.length ≤ 1100) (i : Nat) (hi : i < 10) : partOf bs i ++ List.replicate (120 - (partOf bs i).length) 0 = ((padded bs).drop (120 * i)).take 120 := by
  have hl := slotRow_length bs
  unfold partOf padded
  apply List.ext_getElem?
  intro j
  simp only [List.getElem?_append, List.length_take, List.length_drop, List.getElem?_take, List.getElem?_drop, List.getElem?_replicate]
  by_cases h1 : j < 120
  · by_cases h2 : 120 * i + j < (slotRow bs).length
    · rw [if_pos (by omega), if_pos (by omega), if_pos (by omega), if_pos (by omega)]
    · rw [if_neg (by omega), if_pos (by omega), if_pos (by omega), if_neg (by omega), if_pos (by omega)]
  · rw [if_neg (by omega), if_neg (by omega), if_neg (by omega)]
theorem contentOf_padded (bs : List UInt8) (h : bs.length ≤ 1100) : contentOf (padded bs) = some bs := by
  have h2 : (padded bs).take 2 = Oct.be 2 bs.length := by
    unfold padded slotRow
    rw [List.append_assoc, List.take_append_of_le_length (by rw [Oct.be_length]; omega), List.take_of_length_le (by rw [Oct.be_length]; omega)]
  have hn : Oct.num (Oct.be 2 bs.length) = bs.length := num_be 2 _ (by omega)
  have hd : (padded bs).drop 2 = bs ++ List.replicate (1200 - (slotRow bs).length) 0 := by
    unfold padded slotRow
    rw [List.append_assoc, List.drop_append, Oct.be_length, List.drop_of_length_le (by rw [Oct.be_length]; omega)]
    rfl
  unfold contentOf
  rw [h2, hn, if_neg (by omega), ← List.drop_drop, hd, List.drop_append, List.drop_of_length_le (Nat.le_refl _), Nat.sub_self, List.drop_zero, List.nil_append, if_pos (by simp [noughts]), List.take_append_of_le_length (Nat.le_refl _), List.take_length]

/-! ### slots -/
/-- The ten sectors from x on are these bytes' with that count. -/
def SlotIs (s : Dk) (x : Int) (count : Nat) (bs : List UInt8) : Prop := ∀ i : Nat, i < 10 → s.read (x + i) = (sect count bs i, 0)
theorem slotGo_is {s : Dk} {x : Int} {count : Nat} {bs : List UInt8} (h : SlotIs s x count bs) (hc : count < 18446744073709551616) (hl : bs.length ≤ 1100) : ∀ k, k ≤ 10 → slotGo s x k = some (if k = 0 then 0 else count, (padded bs).take (120 * k))
  | 0, _ => rfl
  | k + 1, hk => by
    rw [slotGo, slotGo_is h hc hl k (by omega)]
    simp only [h k (by omega), cnt_sect _ _ _ hc]
    rw [if_neg (by simp), if_neg (by intro hh; exact hh.2 (by rw [if_neg hh.1]))]
    rw [if_neg (Nat.succ_ne_zero k), drop_sect, part_padded bs hl k (by omega), ← List.take_add]
    congr 2
    split <;> simp_all
theorem slotRes_is {s : Dk} {x : Int} {count : Nat} {bs : List UInt8} (h : SlotIs s x count bs) (hc : count < 18446744073709551616) (hl : bs.length ≤ 1100) : slotRes s x = (count, bs) := by
  have hp := padded_length bs hl
  rw [slotRes, slotGo_is h hc hl 10 (Nat.le_refl _), if_neg (by decide)]
  simp only
  rw [List.take_of_length_le (by omega), contentOf_padded bs hl]
theorem slotGo_congr {s s' : Dk} {x : Int} : ∀ k, (∀ i : Nat, i < k → s'.read (x + i) = s.read (x + i)) → slotGo s' x k = slotGo s x k
  | 0, _ => rfl
  | k + 1, h => by rw [slotGo, slotGo, slotGo_congr k (fun i hi => h i (by omega)), h k (by omega)]
theorem slotRes_congr {s s' : Dk} {x : Int} (h : ∀ i : Nat, i < 10 → s'.read (x + i) = s.read (x + i)) : slotRes s' x = slotRes s x := by rw [slotRes, slotRes, slotGo_congr 10 h]
theorem slotGo_all {s : Dk} {x : Int} : ∀ {k : Nat} {p : Nat × List UInt8}, slotGo s x k = some p → ∀ i : Nat, i < k → (s.read (x + i)).2 = 0 ∧ cnt (s.read (x + i)).1 = p.1
  | 0, _, _, _, hi => absurd hi (by omega)
  | k + 1, p, h, i, hi => by
    rw [slotGo] at h
    cases hq : slotGo s x k with
    | none => rw [hq] at h; cases h
    | some q =>
      rw [hq] at h
      simp only at h
      split at h
      · cases h
      · rename_i he
        split at h
        · cases h
        · rename_i hc
          injection h with h
          have he0 : (s.read (x + k)).2 = 0 := by simpa using he
          have hpk : p.1 = if k = 0 then cnt (s.read (x + k)).1 else q.1 := by rw [← h]
          have hck : k ≠ 0 → cnt (s.read (x + k)).1 = q.1 := fun hk => Classical.byContradiction fun hh => hc ⟨hk, hh⟩
          by_cases hik : i = k
          · subst hik
            refine ⟨he0, ?_⟩
            rw [hpk]
            split
            · rfl
            · rename_i h0; exact hck h0
          · have := slotGo_all hq i (by omega)
            rw [hpk, if_neg (by omega)]
            exact this
/-- A slot that is whole: all its sectors can be read, with its count. -/
theorem slotRes_all {s : Dk} {x : Int} (h : (slotRes s x).1 ≠ 0) : ∀ i : Nat, i < 10 → (s.read (x + i)).2 = 0 ∧ cnt (s.read (x + i)).1 = (slotRes s x).1 := by
  unfold slotRes at h ⊢
  cases hq : slotGo s x 10 with
  | none => rw [hq] at h; exact absurd rfl h
  | some p =>
    rw [hq] at h
    simp only at h ⊢
    cases hc : contentOf p.2 with
    | none => rw [hc] at h; exact absurd rfl h
    | some b =>
      have := slotGo_all hq
      exact this
/-- One sector that can't be read: the slot is not whole. -/
theorem slotRes_lost {s : Dk} {x : Int} {i : Nat} (hi : i < 10) (h : (s.read (x + i)).2 ≠ 0) : (slotRes s x).1 = 0 := Classical.byContradiction fun hh => h (slotRes_all hh i hi).1

/-! ### the greatest count -/
theorem topGo_ge {s : Dk} {x : Int} : ∀ {n : Nat} (k : Nat), k < n → (s.read (x + k)).2 = 0 → cnt (s.read (x + k)).1 ≤ topGo s x n
  | 0, k, h, _ => absurd h (by omega)
  | n + 1, k, h, he => by
    rw [topGo]
    by_cases hk : k = n
    · subst hk
      rw [if_pos he]
      exact Nat.le_max_right _ _
    · exact Nat.le_trans (topGo_ge k (by omega) he) (Nat.le_max_left _ _)
theorem topGo_le {s : Dk} {x : Int} {C : Nat} : ∀ {n : Nat}, (∀ k : Nat, k < n → (s.read (x + k)).2 = 0 → cnt (s.read (x + k)).1 ≤ C) → topGo s x n ≤ C
  | 0, _ => Nat.zero_le _
  | n + 1, h => by
    rw [topGo]
    refine Nat.max_le.2 ⟨topGo_le fun k hk => h k (by omega), ?_⟩
    split
    · rename_i he; exact h n (by omega) he
    · exact Nat.zero_le _

/-! ### reading -/
theorem read_on {s : Dk} (ho : s.off = false) {y : Int} (hy : 0 ≤ y ∧ y < 32768) : s.read y = match lastW s.loose y with | some b => (b, 0) | none => match s.sure y with | some b => (b, 0) | none => (zeros, 9) := by
  have hr : s.refuses y = 0 := by unfold Dk.refuses; rw [ho]; simp; omega
  unfold Dk.read
  rw [if_neg (by simp [hr])]
  cases lastW s.loose y with
  | some b => rfl
  | none => cases s.sure y <;> rfl
theorem read_fuse (s : Dk) (f : Option Nat) (y : Int) : ({ s with fuse := f } : Dk).read y = s.read y := rfl

/-! ### writes that have no error -/
theorem write_ok {s : Dk} {y : Int} {b : List UInt8} (ho : s.off = false) (hf : s.fuse = none) (hy : 0 ≤ y ∧ y < 32768) : s.write y b = ({ s with loose := s.loose ++ [(y, b)] }, 0) := by
  have hr : s.refuses y = 0 := by unfold Dk.refuses; rw [ho]; simp; omega
  unfold Dk.write
  rw [if_neg (by simp [hr])]
  simp only [Dk.burn, hf]
theorem wrs_ok {s : Dk} {x : Int} {f : Nat → List UInt8} (ho : s.off = false) (hf : s.fuse = none) (hx : 0 ≤ x ∧ x + 10 ≤ 32768) : ∀ k, k ≤ 10 → wrs s x f k = ({ s with loose := s.loose ++ (List.range k).map fun (i : Nat) => (x + (i : Int), f i) }, 0)
  | 0, _ => by simp [wrs]
  | k + 1, hk => by
    have ih := wrs_ok (f := f) ho hf hx k (by omega)
    rw [wrs_next (by rw [ih]), ih]
    simp only
    rw [write_ok (s := { s with loose := s.loose ++ (List.range k).map fun (i : Nat) => (x + (i : Int), f i) }) ho hf (by omega), List.range_succ, List.map_append, List.append_assoc]
    rfl
theorem lastW_append (l : List (Int × List UInt8)) (y : Int) : ∀ m, lastW (l ++ m) y = match lastW m y with | some b => some b | none => lastW l y := by
  intro m
  induction l with
  | nil => cases h : lastW m y <;> simp [lastW, h]
  | cons p r ih =>
    rw [List.cons_append, lastW, ih, lastW]
    cases lastW m y with
    | some b => rfl
    | none => rfl
theorem lastW_slot (x : Int) (f : Nat → List UInt8) (y : Int) : ∀ k, lastW ((List.range k).map fun (i : Nat) => (x + (i : Int), f i)) y = if x ≤ y ∧ y < x + k then some (f (y - x).toNat) else none
  | 0 => by rw [if_neg (by omega)]; rfl
  | k + 1 => by
    rw [List.range_succ, List.map_append, List.map_cons, List.map_nil, lastW_snoc, lastW_slot x f y k]
    by_cases h1 : x + k = y
    · rw [if_pos h1, if_pos (by omega)]
      congr 2
      omega
    · rw [if_neg h1]
      by_cases h2 : x ≤ y ∧ y < x + k
      · rw [if_pos h2, if_pos (by omega)]
      · rw [if_neg h2, if_neg (by omega)]
theorem settled_sync (y : Int) : ∀ (l : List (Int × List UInt8)) (g : Int → Option (List UInt8)), settled (fun _ => 1) 0 g l y = match lastW l y with | some b => some b | none => g y := by
  have aux : ∀ (l : List (Int × List UInt8)) (i : Nat) (g : Int → Option (List UInt8)), settled (fun _ => 1) i g l y = match lastW l y with | some b => some b | none => g y := by
    intro l
    induction l with
    | nil => intro i g; rfl
    | cons p r ih =>
      intro i g
      rw [settled, ih, lastW]
      cases lastW r y with
      | some b => rfl
      | none =>
        simp only [done]
        rw [if_neg (by decide), if_neg (by decide)]
        by_cases h : p.1 = y
        · rw [if_pos h, ← h, upd_same]
        · rw [if_neg h, upd_other _ _ (fun e => h e.symm)]
  exact fun l g => aux l 0 g
theorem sync_ok {s : Dk} (ho : s.off = false) (hf : s.fuse = none) : s.sync.2 = 0 ∧ s.sync.1.off = false ∧ s.sync.1.fuse = none ∧ s.sync.1.loose = [] ∧ (∀ y, 0 ≤ y ∧ y < 32768 → s.sync.1.read y = s.read y) ∧ ∀ y, s.sync.1.sure y = match lastW s.loose y with | some b => some b | none => s.sure y := by
  have hb : s.burn = (s, 0) := by simp only [Dk.burn, hf]
  have e : s.sync = (s.settle fun _ => 1, 0) := by
    unfold Dk.sync
    rw [if_neg (by simp [ho]), hb]
    rfl
  have hs : ∀ y, (s.settle fun _ => 1).sure y = match lastW s.loose y with | some b => some b | none => s.sure y := fun y => settled_sync y s.loose s.sure
  rw [e]
  refine ⟨rfl, ho, hf, rfl, fun y hy => ?_, hs⟩
  show (s.settle fun _ => 1).read y = s.read y
  rw [read_on (s := s.settle fun _ => 1) ho hy, read_on ho hy, hs y]
  simp only [Dk.settle, lastW]
  cases lastW s.loose y with
  | some b => rfl
  | none => rfl
/-- A Put that nothing disturbs. -/
theorem renew_ok {s : Dk} {at' slot : Int} {bs : List UInt8} (ho : s.off = false) (hf : s.fuse = none) (hx : 0 ≤ at' + slot * 10 ∧ at' + slot * 10 + 10 ≤ 32768) :
    ∃ s', renewD s at' slot bs = (s', 0) ∧ s'.off = false ∧ s'.fuse = none ∧ s'.loose = [] ∧
      ∀ y, 0 ≤ y ∧ y < 32768 → s'.read y = if at' + slot * 10 ≤ y ∧ y < at' + slot * 10 + 10 then (sect (topGo s at' 20 + 1) bs (y - (at' + slot * 10)).toNat, 0) else s.read y := by
  obtain ⟨x, hxx⟩ : ∃ x, x = at' + slot * 10 := ⟨_, rfl⟩
  obtain ⟨f, hff⟩ : ∃ f, f = sect (topGo s at' 20 + 1) bs := ⟨_, rfl⟩
  rw [← hxx] at hx ⊢
  have hw := wrs_ok (f := f) ho hf hx 10 (Nat.le_refl _)
  obtain ⟨h1, h2, h3, h4, h5, _⟩ := sync_ok (s := { s with loose := s.loose ++ (List.range 10).map fun (i : Nat) => (x + (i : Int), f i) }) ho hf
  refine ⟨(Dk.sync { s with loose := s.loose ++ (List.range 10).map fun (i : Nat) => (x + (i : Int), f i) }).1, ?_, h2, h3, h4, fun y hy => ?_⟩
  · rw [renewD, ← hxx, ← hff, hw, if_neg (by simp)]
    exact Prod.ext rfl h1
  · rw [h5 y hy, read_on (s := { s with loose := s.loose ++ (List.range 10).map fun (i : Nat) => (x + (i : Int), f i) }) ho hy, read_on ho hy]
    simp only [lastW_append, lastW_slot]
    rw [← hff]
    by_cases h : x ≤ y ∧ y < x + 10
    · rw [if_pos h, if_pos (by omega)]
    · rw [if_neg h, if_neg (by omega)]
theorem topGo_congr {s s' : Dk} (h : ∀ y, s'.read y = s.read y) (x : Int) : ∀ n, topGo s' x n = topGo s x n
  | 0 => rfl
  | n + 1 => by rw [topGo, topGo, topGo_congr h x n, h]
end Go.Proofs.YtepjfkmbmcfnoaaDoor

namespace Go.Proofs.YtepjfkmbmcfnoaaDoor
open Go.RowKit
set_option maxRecDepth 100000

theorem format_ok {s : Dk} {at' : Int} (ho : s.off = false) (hf : s.fuse = none) (hx : 0 ≤ at' ∧ at' ≤ 32748) :
    ∃ s1 s2 s3, wrs s at' (sect 2 []) 10 = (s1, 0) ∧ wrs s1 (at' + 10) (sect 1 []) 10 = (s2, 0) ∧ s2.sync = (s3, 0) ∧ s3.off = false ∧ s3.fuse = none ∧ s3.loose = [] ∧
      ∀ y, 0 ≤ y ∧ y < 32768 → s3.read y = if at' ≤ y ∧ y < at' + 10 then (sect 2 [] (y - at').toNat, 0) else if at' + 10 ≤ y ∧ y < at' + 20 then (sect 1 [] (y - (at' + 10)).toNat, 0) else s.read y := by
  have h1 := wrs_ok (s := s) (x := at') (f := sect 2 []) ho hf (by omega) 10 (Nat.le_refl _)
  have h2 := wrs_ok (s := { s with loose := s.loose ++ (List.range 10).map fun (i : Nat) => (at' + (i : Int), sect 2 [] i) }) (x := at' + 10) (f := sect 1 []) ho hf (by omega) 10 (Nat.le_refl _)
  obtain ⟨k1, k2, k3, k4, k5, _⟩ := sync_ok (s := { s with loose := (s.loose ++ (List.range 10).map fun (i : Nat) => (at' + (i : Int), sect 2 [] i)) ++ (List.range 10).map fun (i : Nat) => (at' + 10 + (i : Int), sect 1 [] i) }) ho hf
  refine ⟨_, _, _, h1, h2, Prod.ext rfl k1, k2, k3, k4, fun y hy => ?_⟩
  rw [k5 y hy, read_on (s := { s with loose := (s.loose ++ (List.range 10).map fun (i : Nat) => (at' + (i : Int), sect 2 [] i)) ++ (List.range 10).map fun (i : Nat) => (at' + 10 + (i : Int), sect 1 [] i) }) ho hy, read_on ho hy]
  simp only [lastW_append, lastW_slot]
  by_cases h : at' ≤ y ∧ y < at' + 10
  · rw [if_pos h, if_neg (by omega), if_pos (by omega)]
  · rw [if_neg h]
    by_cases h' : at' + 10 ≤ y ∧ y < at' + 20
    · rw [if_pos h', if_pos (by omega)]
    · rw [if_neg h', if_neg (by omega), if_neg (by omega)]

/-- What holds of a cell at x: slot a has the bytes with count na, the other slot is older, no count is above C. -/
structure CellIs (s : Dk) (x : Int) (a : Nat) (na : Nat) (bs : List UInt8) (C : Nat) : Prop where
  slot : a ≤ 1
  has : SlotIs s (x + a * 10) na bs
  pos : 1 ≤ na
  top : na ≤ C
  len : bs.length ≤ 1100
  elder : (slotRes s (x + (1 - a : Nat) * 10)).1 < na
  all : ∀ i : Nat, i < 20 → (s.read (x + i)).2 = 0 → cnt (s.read (x + i)).1 ≤ C
  small : C < 4611686018427387904
theorem CellIs.open {s : Dk} {x : Int} {a na C : Nat} {bs : List UInt8} (h : CellIs s x a na bs C) : openD s x = (na, bs, (a : Int)) := by
  have h1 := slotRes_is h.has (by have := h.top; have := h.small; omega) h.len
  have h2 := h.elder
  have hp := h.pos
  have ha := h.slot
  unfold openD
  rcases (show a = 0 ∨ a = 1 by omega) with rfl | rfl
  · rw [show x + ((0 : Nat) : Int) * 10 = x by omega] at h1
    rw [show x + ((1 - 0 : Nat) : Int) * 10 = x + 10 by omega] at h2
    rw [h1, if_neg (by simp only; omega), if_pos (by simp only; omega)]
    rfl
  · rw [show x + ((1 : Nat) : Int) * 10 = x + 10 by omega] at h1
    rw [show x + ((1 - 1 : Nat) : Int) * 10 = x by omega] at h2
    rw [h1, if_pos h2]
    rfl
theorem CellIs.top_le {s : Dk} {x : Int} {a na C : Nat} {bs : List UInt8} (h : CellIs s x a na bs C) : na ≤ topGo s x 20 ∧ topGo s x 20 ≤ C := by
  refine ⟨?_, topGo_le h.all⟩
  have ha := h.slot
  have h0 := h.has 0 (by omega)
  have hc : na < 18446744073709551616 := by have := h.top; have := h.small; omega
  have := topGo_ge (s := s) (x := x) (n := 20) (a * 10) (by omega) (by
    rw [show x + ((a * 10 : Nat) : Int) = x + a * 10 + ((0 : Nat) : Int) by omega, h0])
  rw [show x + ((a * 10 : Nat) : Int) = x + a * 10 + ((0 : Nat) : Int) by omega, h0, cnt_sect _ _ _ hc] at this
  exact this
/-- A new cell. -/
theorem cell_new {s s3 : Dk} {x : Int} (hx : 0 ≤ x ∧ x ≤ 32748) (h : ∀ y, 0 ≤ y ∧ y < 32768 → s3.read y = if x ≤ y ∧ y < x + 10 then (sect 2 [] (y - x).toNat, 0) else if x + 10 ≤ y ∧ y < x + 20 then (sect 1 [] (y - (x + 10)).toNat, 0) else s.read y) :
    CellIs s3 x 0 2 [] 2 := by
  have hA : SlotIs s3 x 2 [] := fun i hi => by
    rw [h _ (by omega), if_pos (by omega)]
    congr 2
    omega
  have hB : SlotIs s3 (x + 10) 1 [] := fun i hi => by
    rw [h _ (by omega), if_neg (by omega), if_pos (by omega)]
    congr 2
    omega
  refine ⟨by omega, by rw [show x + ((0 : Nat) : Int) * 10 = x by omega]; exact hA, by omega, by omega, by simp, ?_, fun i hi _ => ?_, by omega⟩
  · rw [show x + ((1 - 0 : Nat) : Int) * 10 = x + 10 by omega, slotRes_is hB (by omega) (by simp)]
    omega
  · by_cases h1 : i < 10
    · rw [hA i h1, cnt_sect _ _ _ (by omega)]
      omega
    · have := hB (i - 10) (by omega)
      rw [show x + 10 + ((i - 10 : Nat) : Int) = x + i by omega] at this
      rw [this, cnt_sect _ _ _ (by omega)]
      omega
/-- A Put that nothing disturbs. -/
theorem CellIs.put {s s' : Dk} {x : Int} {a na C : Nat} {bs : List UInt8} (h : CellIs s x a na bs C) (hx : 0 ≤ x ∧ x ≤ 32748) (hC : C + 1 < 4611686018427387904) (b : List UInt8) (hb : b.length ≤ 1100)
    (hr : ∀ y, 0 ≤ y ∧ y < 32768 → s'.read y = if x + (1 - a : Nat) * 10 ≤ y ∧ y < x + (1 - a : Nat) * 10 + 10 then (sect (topGo s x 20 + 1) b (y - (x + (1 - a : Nat) * 10)).toNat, 0) else s.read y) :
    CellIs s' x (1 - a) (topGo s x 20 + 1) b (C + 1) ∧ SlotIs s' (x + a * 10) na bs := by
  have ha := h.slot
  obtain ⟨t1, t2⟩ := h.top_le
  have hc : na < 18446744073709551616 := by omega
  have hA : SlotIs s' (x + (1 - a : Nat) * 10) (topGo s x 20 + 1) b := fun i hi => by
    rw [hr _ (by omega), if_pos (by omega)]
    congr 2
    omega
  have hB : SlotIs s' (x + a * 10) na bs := fun i hi => by
    rw [hr _ (by omega), if_neg (by omega)]
    exact h.has i hi
  refine ⟨⟨by omega, hA, by omega, by omega, hb, ?_, fun i hi he => ?_, hC⟩, hB⟩
  · rw [show 1 - (1 - a) = a by omega, slotRes_is hB hc h.len]
    simp only
    omega
  · rw [hr _ (by omega)] at he ⊢
    by_cases h1 : x + (1 - a : Nat) * 10 ≤ x + (i : Int) ∧ x + (i : Int) < x + (1 - a : Nat) * 10 + 10
    · rw [if_pos h1, cnt_sect _ _ _ (by omega)]
      omega
    · rw [if_neg h1] at he ⊢
      have := h.all i hi he
      omega
end Go.Proofs.YtepjfkmbmcfnoaaDoor

namespace Go.Proofs.YtepjfkmbmcfnoaaDoor
open Go.RowKit
set_option maxRecDepth 100000

/-- A disk that is on, with no fuse. -/
def Calm (s : Dk) : Prop := s.off = false ∧ s.fuse = none
section
variable {w wr : World} {d T : Nat} {s : Dk} {L : List (Nat × Obj)} {x : Int} {a na C g : Nat} {bs : List UInt8}
theorem cell_format (h : Dat w d T s L wr) (hc : Calm s) (hT : T < 10000000) (hx : 0 ≤ x ∧ x ≤ 32748) :
    Calls Tryd.prog 26 #[.pointer (some ⟨d, 0, none⟩), .int .i64 x] wr fun E w' => E = .returned (.int .i64 0) ∧ ∃ s', Hid (Dat w d (T + 20) s' L w' ∧ Calm s' ∧ s'.loose = [] ∧ CellIs s' x 0 2 [] 2 ∧
      ∀ y, 0 ≤ y ∧ y < 32768 → s'.read y = if x ≤ y ∧ y < x + 10 then (sect 2 [] (y - x).toNat, 0) else if x + 10 ≤ y ∧ y < x + 20 then (sect 1 [] (y - (x + 10)).toNat, 0) else s.read y) := by
  obtain ⟨s1, s2, s3, h1, h2, h3, k1, k2, k3, k4⟩ := format_ok hc.1 hc.2 hx
  exact (format_any h hT x hx h1 h2 h3).mono fun E w' ⟨e, hD⟩ => ⟨e, s3, hD, ⟨k1, k2⟩, k3, cell_new hx k4, k4⟩
theorem cell_open (h : Dat w d T s L wr) (ho : s.off = false) (hx : 0 ≤ x ∧ x ≤ 32748) (hc : CellIs s x a na bs C) :
    Calls Tryd.prog 21 #[.pointer (some ⟨d, 0, none⟩), .int .i64 x] wr fun E w' => ∃ g, E = .returned (.tuple #[.pointer (some ⟨g, 0, none⟩), .int .i64 0]) ∧ Hid (OpAt w d T s x L g bs (a : Int) w') := by
  have e := hc.open
  have hp := hc.pos
  refine (open_any h ho x hx).mono fun E w' hE => ?_
  rcases hE with ⟨h0, _⟩ | ⟨_, g, h1, h2⟩
  · rw [e] at h0
    simp only at h0
    omega
  · rw [e] at h2
    exact ⟨g, h1, h2⟩
theorem cell_lost (h : Dat w d T s L wr) (ho : s.off = false) (hx : 0 ≤ x ∧ x ≤ 32748) (h0 : (slotRes s x).1 = 0) (h1 : (slotRes s (x + 10)).1 = 0) :
    Calls Tryd.prog 21 #[.pointer (some ⟨d, 0, none⟩), .int .i64 x] wr fun E w' => E = .returned (.tuple #[.pointer none, .int .i64 9]) ∧ Hid (Dat w d T s L w') := by
  have e : (openD s x).1 = 0 := by rw [openD, if_neg (by omega)]; exact h0
  refine (open_any h ho x hx).mono fun E w' hE => ?_
  rcases hE with ⟨_, h2, h3⟩ | ⟨h2, _⟩
  · exact ⟨h2, h3⟩
  · exact absurd e h2
theorem cell_get (h : OpAt w d T s x L g bs (a : Int) wr) :
    Calls Tryd.prog 52 #[.pointer (some ⟨g, 0, none⟩)] wr fun E w' => ∃ A n c, E = .returned (.slice A n c) ∧ Hid (OpAt w d T s x L g bs (a : Int) w' ∧ Oct.Rd w' A n bs ∧ Below wr.heap.size wr w') := by
  obtain ⟨A, n, c, hg, hr, hs, hn⟩ := h.cells
  exact (get_any hg bs hr hs hn).mono fun E w' ⟨A', c', e, ho, _, hb⟩ => ⟨A', n, c', e, h.next hb, Oct.Rd.of_own ho, hb⟩
theorem OpAt.lit {slot : Int} (h : OpAt w d T s x L g bs slot wr) (o : Obj) : OpAt w d T s x ((wr.heap.size, o) :: L) g bs slot (wr.alloc o) := by
  obtain ⟨A, n, c, LR, h1, h2, h3, h4, h5, h6⟩ := h
  have hg := h1.lt (q := g) (.head _)
  refine ⟨A, n, c, LR, (h1.alloc o).sub fun p hp => ?_, h2, h3, h4, fun p hp => ⟨(h5 p hp).1, fun q hq => ?_⟩, fun q hq => ?_⟩
  · simp only [List.mem_cons, List.mem_append] at hp ⊢
    rcases hp with rfl | hp | rfl | hp
    · exact .inr (.inl rfl)
    · exact .inr (.inr (.inl hp))
    · exact .inl rfl
    · exact .inr (.inr (.inr hp))
  · rcases List.mem_cons.1 hq with rfl | hq
    · have := keeps_dat.toKeep.lt h1 (.tail _ (List.mem_append_left _ hp))
      simp only
      omega
    · exact (h5 p hp).2 q hq
  · rcases List.mem_cons.1 hq with rfl | hq
    · simp only
      omega
    · exact h6 q hq
theorem cell_put_end {s' : Dk} {slot e : Int} {A : Option Addr} {n c : Nat} {b : List UInt8} (h : OpAt w d T s x L g bs slot wr) (ho : s.off = false) (hT : T < 10000000) (hx : 0 ≤ x ∧ x ≤ 32748) (hsl : 0 ≤ slot ∧ slot ≤ 1) (htop : topGo s x 20 < 9223372036854775808)
    (hb : Src w L A n b) (hs : Oct.Sl A n c) (hn : n ≤ 1100) (he : renewD s x (1 - slot) b = (s', e)) :
    Calls Tryd.prog 22 #[.pointer (some ⟨g, 0, none⟩), .slice A n c] wr fun E w' => E = .returned (.int .i64 e) ∧
      Hid ((e ≠ 0 ∧ (∃ A0 n0 c0 sl0, w'.heap[g]? = some (cellOf d x A0 n0 c0 sl0 true)) ∧ Dat w d (T + 10) s' L w' ∧ (∀ q ∈ L, q.1 ≠ g)) ∨ (e = 0 ∧ OpAt w d (T + 10) s' x L g b (1 - slot) w')) := by
  obtain ⟨A0, n0, c0, LR, h1, -, -, -, h5, h6⟩ := h
  refine (put_any h1 (fun p hp => (List.mem_append.1 hp).elim (fun hp => (h5 p hp).1) (fun hp => h6 p hp)) ho hT hx hsl htop A n c b (fun W hb1 hb2 => hb W hb1 (fun q hq => hb2 q (List.mem_append_right _ hq))) hs hn e he).mono fun E w' ⟨h7, h8⟩ => ⟨h7, ?_⟩
  rcases h8 with ⟨h9, hD⟩ | ⟨h9, A2, c2, LR2, hD, k1, k2, k3⟩
  · exact .inl ⟨h9, ⟨A0, n0, c0, slot, hD.get (q := g) (.head _)⟩, hD.sub fun p hp => .tail _ (List.mem_append_right _ hp), h6⟩
  · refine .inr ⟨h9, A2, n, c2, LR2, hD.sub fun p hp => ?_, k1, k2, hn, fun p hp => ⟨(k3 p hp).1, fun q hq => (k3 p hp).2 q (List.mem_append_right _ hq)⟩, h6⟩
    simp only [List.mem_cons, List.mem_append] at hp ⊢
    rcases hp with rfl | hp | hp
    · exact .inl rfl
    · exact .inr (.inl hp)
    · exact .inr (.inr (.inr hp))
theorem cell_put (h : OpAt w d T s x L g bs (a : Int) wr) (hc : Calm s) (hT : T < 10000000) (hx : 0 ≤ x ∧ x ≤ 32748) (hI : CellIs s x a na bs C) (hC : C + 1 < 4611686018427387904) {A : Option Addr} {n c : Nat} {b : List UInt8} (hb : Src w L A n b) (hs : Oct.Sl A n c) (hn : n ≤ 1100) (hbl : b.length = n) :
    Calls Tryd.prog 22 #[.pointer (some ⟨g, 0, none⟩), .slice A n c] wr fun E w' => E = .returned (.int .i64 0) ∧ ∃ s', Hid (OpAt w d (T + 10) s' x L g b ((1 - a : Nat) : Int) w' ∧ Calm s' ∧ s'.loose = [] ∧ CellIs s' x (1 - a) (topGo s x 20 + 1) b (C + 1) ∧ SlotIs s' (x + a * 10) na bs ∧
      ∀ y, 0 ≤ y ∧ y < 32768 → ¬ (x ≤ y ∧ y < x + 20) → s'.read y = s.read y) := by
  have ha := hI.slot
  obtain ⟨t1, t2⟩ := hI.top_le
  obtain ⟨s', k1, k2, k3, k4, k5⟩ := renew_ok (s := s) (at' := x) (slot := 1 - (a : Int)) (bs := b) hc.1 hc.2 (by omega)
  have e1 : x + (1 - (a : Int)) * 10 = x + ((1 - a : Nat) : Int) * 10 := by omega
  obtain ⟨i1, i2⟩ := hI.put (s' := s') hx hC b (by omega) (fun y hy => by rw [k5 y hy, e1])
  refine (cell_put_end h hc.1 hT hx (by omega) (by omega) hb hs hn k1).mono fun E w' ⟨h7, h8⟩ => ⟨h7, s', ?_⟩
  rcases h8.out with ⟨h9, _⟩ | ⟨_, hO⟩
  · exact absurd rfl h9
  · rw [show (1 - (a : Int)) = ((1 - a : Nat) : Int) by omega] at hO
    exact ⟨hO, ⟨k2, k3⟩, k4, i1, i2, fun y hy hny => by rw [k5 y hy, if_neg (by omega)]⟩
end

theorem new_calm : Calm Dk.new := ⟨rfl, rfl⟩
theorem run_str {w : World} {A : Option Addr} {n : Nat} {bs : List UInt8} (c : Nat) (h : Oct.Rd w A n bs) : (convert 29 9 (.slice A n c)).run Tryd.prog w = .ok (.string (Oct.str bs)) w := Oct.run_string h
/-- On a disk that is new no cell stands. -/
theorem new_lost (x : Int) (hx : 0 ≤ x ∧ x + 10 ≤ 32768) : (slotRes Dk.new x).1 = 0 := by
  refine Classical.byContradiction fun h => ?_
  have h0 := (slotRes_all h 0 (by omega)).2
  have e : Dk.new.read (x + ((0 : Nat) : Int)) = (zeros, 0) := by rw [read_on rfl (by omega)]; rfl
  rw [e] at h0
  exact h h0.symm
/-- A slice of bytes that was laid as a literal. -/
theorem src_lit {w : World} {q : Nat} (bs : List UInt8) (fr : Nat × Nat) : Src w [(q, .cells (u8s bs).toArray 5 fr)] (some ⟨q, 0, none⟩) bs.length bs := fun W _ hL =>
  ⟨rfl, fun _ => ⟨q, 0, rfl, (Array.getElem?_eq_some_iff.1 (hL _ (.head _))).1, fun j u hu => by
    rw [Nat.zero_add, cell_of_row W q j _ 5 fr (hL _ (.head _))]
    simp [u8s, hu]⟩⟩
end Go.Proofs.YtepjfkmbmcfnoaaDoor

namespace Go.Proofs.YtepjfkmbmcfnoaaDoor
open Go.RowKit Go.ChangeShapes Go.WideShapes Go.Deep
set_option maxRecDepth 100000

/-- A slice of bytes that came in reads as bytes. -/
theorem bytes_of {H : Type} {enc : TypeId × Value → H} {W : World} {base : Nat} {spare : Nat → Bool} {held : Bool} {A : Option Addr} {n c : Nat} {d : DataW H} {p : List MemPlace}
    (h : DataW.Trod enc Tryd.prog W base spare held 29 (.slice A n c) d p) : ∃ bs, Rd (fun _ => True) W A n bs ∧ Sl A n c := by
  obtain ⟨fuel, hf⟩ := h
  rcases open_ints Tryd.underlying29 Tryd.underlying5 (by kernel_rfl) hf with ⟨hcs, _⟩ | ⟨x, l, cap, zs, hcs, _, hl, hm, hz, _, hcell, hwz⟩
  · simp [Value.cells] at hcs
    obtain ⟨rfl, rfl, rfl⟩ := hcs
    exact ⟨[], ⟨rfl, fun h => absurd h (by omega)⟩, ⟨fun _ => ⟨rfl, rfl⟩, Nat.le_refl _, by omega⟩⟩
  · simp [Value.cells] at hcs
    obtain ⟨rfl, rfl, rfl⟩ := hcs
    have hnz : n ≤ zs.length := by rw [hz]; split <;> omega
    refine ⟨(zs.take n).map fun z => UInt8.ofNat z.toNat, ⟨by rw [List.length_map, List.length_take]; omega, fun hp => ?_⟩, ⟨(fun h => by cases h), hl, by unfold maxLen at hm; omega⟩⟩
    obtain ⟨b, o, rfl, hc⟩ := ints_at hcell (by omega)
    refine ⟨b, o, rfl, ?_, trivial, fun j u hu => ?_⟩
    · have := World.block_lt_of_cell? W _ (hc 0 (by omega))
      exact this
    · rw [List.getElem?_map] at hu
      obtain ⟨z, hz1, rfl⟩ := Option.map_eq_some_iff.1 hu
      rw [List.getElem?_take] at hz1
      split at hz1
      · obtain ⟨hj, hz2⟩ := List.getElem?_eq_some_iff.1 hz1
        rw [hc j hj, List.getD_eq_getElem?_getD, hz1]
        have hb := bounds_u8 (hwz z (hz2 ▸ List.getElem_mem hj))
        simp only [Option.getD_some]
        congr 2
        simp
        omega
      · cases hz1

theorem u8_of {x : Int} (hx : (Lit.int .u8 x).wf = true) : x = ((UInt8.ofNat x.toNat).toNat : Int) := by
  have := bounds_u8 hx
  simp
  omega
end Go.Proofs.YtepjfkmbmcfnoaaDoor
