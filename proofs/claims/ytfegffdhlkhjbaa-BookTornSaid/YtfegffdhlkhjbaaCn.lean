/-
  What is proved: plain facts on what a slot's sectors tell, on writes one behind the other, and on what is picked. Conditions as stated.
-/
import Derived.Test.YtfegffdhlkhjbaaCm
namespace Go.Proofs.Ytfegffdhlkhjbaa
open Go.RowKit
set_option maxRecDepth 100000

/-! ### the numbers -/
theorem num_beTake (size n : Nat) (hn : n < 256 ^ size) : ∀ k, k ≤ size → Oct.num (Oct.beTake size n k) = n / 256 ^ (size - k) := by
  intro k
  induction k with
  | zero => intro _; rw [Oct.beTake_zero, Nat.sub_zero, Nat.div_eq_of_lt hn]; rfl
  | succ k ih =>
    intro hk
    rw [Oct.beTake_succ, Oct.num_snoc, ih (by omega)]
    have h1 : size - k = (size - (k + 1)) + 1 := by omega
    have h2 : (Oct.beAt size n k).toNat = n / 256 ^ (size - (k + 1)) % 256 := by
      have := Oct.beAt_toNat size n k
      rw [show size - 1 - k = size - (k + 1) by omega] at this
      omega
    rw [h2, h1, Nat.pow_succ, ← Nat.div_div_eq_div_mul]
    omega
theorem num_be (size n : Nat) (hn : n < 256 ^ size) : Oct.num (Oct.be size n) = n := by
  rw [Oct.be, num_beTake size n hn size (Nat.le_refl _), Nat.sub_self, Nat.pow_zero, Nat.div_one]

theorem cnt_sect (count : Nat) (bs : List UInt8) (i : Nat) (hc : count < 18446744073709551616) : cnt (sect count bs i) = count := by
  unfold cnt sect
  rw [List.take_append_of_le_length (by rw [Oct.be_length]; omega), List.take_of_length_le (by rw [Oct.be_length]; omega)]
  exact num_be 8 count hc
theorem drop_sect (count : Nat) (bs : List UInt8) (i : Nat) : (sect count bs i).drop 8 = partOf bs i ++ List.replicate (120 - (partOf bs i).length) 0 := by
  unfold sect
  rw [List.drop_append, Oct.be_length, List.drop_of_length_le (by rw [Oct.be_length]; omega)]
  rfl

/-- All of a slot behind the counts. -/
def padded (bs : List UInt8) : List UInt8 := slotRow bs ++ List.replicate (1200 - (slotRow bs).length) 0
theorem padded_length (bs : List UInt8) (h : bs.length ≤ 1100) : (padded bs).length = 1200 := by
  have := slotRow_length bs
  simp only [padded, List.length_append, List.length_replicate]
  omega
theorem part_padded (bs : List UInt8) (h : bs.length ≤ 1100) (i : Nat) (hi : i < 10) : partOf bs i ++ List.replicate (120 - (partOf bs i).length) 0 = ((padded bs).drop (120 * i)).take 120 := by
  have hl := slotRow_length bs
  unfold partOf padded
  apply List.ext_getElem?
  intro j
  simp only [List.getElem?_append, List.length_take, List.length_drop, List.getElem?_take, List.getElem?_drop, List.getElem?_replicate]
  by_cases h1 : j < 120
  · by_cases h2 : 120 * i + j < (slotRow bs).length
    · rw [if_pos (by omega), if_pos (by omega), if_pos (by omega), if_pos (by omega)]
    · rw [if_neg (by omega), if_pos (by omega), if_pos (by omega), if_neg (by omega), if_pos (by omega)]
  · rw [if_neg (by omega), if_neg (by omega), if_neg (by omega)]
theorem contentOf_padded (bs : List UInt8) (h : bs.length ≤ 1100) : contentOf (padded bs) = some bs := by
  have h2 : (padded bs).take 2 = Oct.be 2 bs.length := by
    unfold padded slotRow
    rw [List.append_assoc, List.take_append_of_le_length (by rw [Oct.be_length]; omega), List.take_of_length_le (by rw [Oct.be_length]; omega)]
  have hn : Oct.num (Oct.be 2 bs.length) = bs.length := num_be 2 _ (by omega)
  have hd : (padded bs).drop 2 = bs ++ List.replicate (1200 - (slotRow bs).length) 0 := by
    unfold padded slotRow
    rw [List.append_assoc, List.drop_append, Oct.be_length, List.drop_of_length_le (by rw [Oct.be_length]; omega)]
    rfl
  unfold contentOf
  rw [h2, hn, if_neg (by omega), ← List.drop_drop, hd, List.drop_append, List.drop_of_length_le (Nat.le_refl _), Nat.sub_self, List.drop_zero, List.nil_append, if_pos (by simp [noughts]), List.take_append_of_le_length (Nat.le_refl _), List.take_length]

/-! ### slots -/
/-- The ten sectors from x on are these bytes' with that count. -/
def SlotIs (s : Dk) (x : Int) (count : Nat) (bs : List UInt8) : Prop := ∀ i : Nat, i < 10 → s.read (x + i) = (sect count bs i, 0)
theorem slotGo_is {s : Dk} {x : Int} {count : Nat} {bs : List UInt8} (h : SlotIs s x count bs) (hc : count < 18446744073709551616) (hl : bs.length ≤ 1100) : ∀ k, k ≤ 10 → slotGo s x k = some (if k = 0 then 0 else count, (padded bs).take (120 * k))
  | 0, _ => rfl
  | k + 1, hk => by
    rw [slotGo, slotGo_is h hc hl k (by omega)]
    simp only [h k (by omega), cnt_sect _ _ _ hc]
    rw [if_neg (by simp), if_neg (by intro hh; exact hh.2 (by rw [if_neg hh.1]))]
    rw [if_neg (Nat.succ_ne_zero k), drop_sect, part_padded bs hl k (by omega), ← List.take_add]
    congr 2
    split <;> simp_all
theorem slotRes_is {s : Dk} {x : Int} {count : Nat} {bs : List UInt8} (h : SlotIs s x count bs) (hc : count < 18446744073709551616) (hl : bs.length ≤ 1100) : slotRes s x = (count, bs) := by
  have hp := padded_length bs hl
  rw [slotRes, slotGo_is h hc hl 10 (Nat.le_refl _), if_neg (by decide)]
  simp only
  rw [List.take_of_length_le (by omega), contentOf_padded bs hl]
theorem slotGo_congr {s s' : Dk} {x : Int} : ∀ k, (∀ i : Nat, i < k → s'.read (x + i) = s.read (x + i)) → slotGo s' x k = slotGo s x k
  | 0, _ => rfl
  | k + 1, h => by rw [slotGo, slotGo, slotGo_congr k (fun i hi => h i (by omega)), h k (by omega)]
theorem slotRes_congr {s s' : Dk} {x : Int} (h : ∀ i : Nat, i < 10 → s'.read (x + i) = s.read (x + i)) : slotRes s' x = slotRes s x := by rw [slotRes, slotRes, slotGo_congr 10 h]
theorem slotGo_all {s : Dk} {x : Int} : ∀ {k : Nat} {p : Nat × List UInt8}, slotGo s x k = some p → ∀ i : Nat, i < k → (s.read (x + i)).2 = 0 ∧ cnt (s.read (x + i)).1 = p.1
  | 0, _, _, _, hi => absurd hi (by omega)
  | k + 1, p, h, i, hi => by
    rw [slotGo] at h
    cases hq : slotGo s x k with
    | none => rw [hq] at h; cases h
    | some q =>
      rw [hq] at h
      simp only at h
      split at h
      · cases h
      · rename_i he
        split at h
        · cases h
        · rename_i hc
          injection h with h
          have he0 : (s.read (x + k)).2 = 0 := by simpa using he
          have hpk : p.1 = if k = 0 then cnt (s.read (x + k)).1 else q.1 := by rw [← h]
          have hck : k ≠ 0 → cnt (s.read (x + k)).1 = q.1 := fun hk => Classical.byContradiction fun hh => hc ⟨hk, hh⟩
          by_cases hik : i = k
          · subst hik
            refine ⟨he0, ?_⟩
            rw [hpk]
            split
            · rfl
            · rename_i h0; exact hck h0
          · have := slotGo_all hq i (by omega)
            rw [hpk, if_neg (by omega)]
            exact this
/-- A slot that is whole: all its sectors can be read, with its count. -/
theorem slotRes_all {s : Dk} {x : Int} (h : (slotRes s x).1 ≠ 0) : ∀ i : Nat, i < 10 → (s.read (x + i)).2 = 0 ∧ cnt (s.read (x + i)).1 = (slotRes s x).1 := by
  unfold slotRes at h ⊢
  cases hq : slotGo s x 10 with
  | none => rw [hq] at h; exact absurd rfl h
  | some p =>
    rw [hq] at h
    simp only at h ⊢
    cases hc : contentOf p.2 with
    | none => rw [hc] at h; exact absurd rfl h
    | some b =>
      have := slotGo_all hq
      exact this
/-- One sector that can't be read: the slot is not whole. -/
theorem slotRes_lost {s : Dk} {x : Int} {i : Nat} (hi : i < 10) (h : (s.read (x + i)).2 ≠ 0) : (slotRes s x).1 = 0 := Classical.byContradiction fun hh => h (slotRes_all hh i hi).1

/-! ### the greatest count -/
theorem topGo_ge {s : Dk} {x : Int} : ∀ {n : Nat} (k : Nat), k < n → (s.read (x + k)).2 = 0 → cnt (s.read (x + k)).1 ≤ topGo s x n
  | 0, k, h, _ => absurd h (by omega)
  | n + 1, k, h, he => by
    rw [topGo]
    by_cases hk : k = n
    · subst hk
      rw [if_pos he]
      exact Nat.le_max_right _ _
    · exact Nat.le_trans (topGo_ge k (by omega) he) (Nat.le_max_left _ _)
theorem topGo_le {s : Dk} {x : Int} {C : Nat} : ∀ {n : Nat}, (∀ k : Nat, k < n → (s.read (x + k)).2 = 0 → cnt (s.read (x + k)).1 ≤ C) → topGo s x n ≤ C
  | 0, _ => Nat.zero_le _
  | n + 1, h => by
    rw [topGo]
    refine Nat.max_le.2 ⟨topGo_le fun k hk => h k (by omega), ?_⟩
    split
    · rename_i he; exact h n (by omega) he
    · exact Nat.zero_le _

/-! ### reading -/
theorem read_on {s : Dk} (ho : s.off = false) {y : Int} (hy : 0 ≤ y ∧ y < 32768) : s.read y = match lastW s.loose y with | some b => (b, 0) | none => match s.sure y with | some b => (b, 0) | none => (zeros, 9) := by
  have hr : s.refuses y = 0 := by unfold Dk.refuses; rw [ho]; simp; omega
  unfold Dk.read
  rw [if_neg (by simp [hr])]
  cases lastW s.loose y with
  | some b => rfl
  | none => cases s.sure y <;> rfl
theorem read_fuse (s : Dk) (f : Option Nat) (y : Int) : ({ s with fuse := f } : Dk).read y = s.read y := rfl

/-! ### writes that have no error -/
theorem write_ok {s : Dk} {y : Int} {b : List UInt8} (ho : s.off = false) (hf : s.fuse = none) (hy : 0 ≤ y ∧ y < 32768) : s.write y b = ({ s with loose := s.loose ++ [(y, b)] }, 0) := by
  have hr : s.refuses y = 0 := by unfold Dk.refuses; rw [ho]; simp; omega
  unfold Dk.write
  rw [if_neg (by simp [hr])]
  simp only [Dk.burn, hf]
theorem wrs_ok {s : Dk} {x : Int} {f : Nat → List UInt8} (ho : s.off = false) (hf : s.fuse = none) (hx : 0 ≤ x ∧ x + 10 ≤ 32768) : ∀ k, k ≤ 10 → wrs s x f k = ({ s with loose := s.loose ++ (List.range k).map fun (i : Nat) => (x + (i : Int), f i) }, 0)
  | 0, _ => by simp [wrs]
  | k + 1, hk => by
    have ih := wrs_ok (f := f) ho hf hx k (by omega)
    rw [wrs_next (by rw [ih]), ih]
    simp only
    rw [write_ok (s := { s with loose := s.loose ++ (List.range k).map fun (i : Nat) => (x + (i : Int), f i) }) ho hf (by omega), List.range_succ, List.map_append, List.append_assoc]
    rfl
theorem lastW_append (l : List (Int × List UInt8)) (y : Int) : ∀ m, lastW (l ++ m) y = match lastW m y with | some b => some b | none => lastW l y := by
  intro m
  induction l with
  | nil => cases h : lastW m y <;> simp [lastW, h]
  | cons p r ih =>
    rw [List.cons_append, lastW, ih, lastW]
    cases lastW m y with
    | some b => rfl
    | none => rfl
theorem lastW_slot (x : Int) (f : Nat → List UInt8) (y : Int) : ∀ k, lastW ((List.range k).map fun (i : Nat) => (x + (i : Int), f i)) y = if x ≤ y ∧ y < x + k then some (f (y - x).toNat) else none
  | 0 => by rw [if_neg (by omega)]; rfl
  | k + 1 => by
    rw [List.range_succ, List.map_append, List.map_cons, List.map_nil, lastW_snoc, lastW_slot x f y k]
    by_cases h1 : x + k = y
    · rw [if_pos h1, if_pos (by omega)]
      congr 2
      omega
    · rw [if_neg h1]
      by_cases h2 : x ≤ y ∧ y < x + k
      · rw [if_pos h2, if_pos (by omega)]
      · rw [if_neg h2, if_neg (by omega)]
theorem settled_sync (y : Int) : ∀ (l : List (Int × List UInt8)) (g : Int → Option (List UInt8)), settled (fun _ => 1) 0 g l y = match lastW l y with | some b => some b | none => g y := by
  have aux : ∀ (l : List (Int × List UInt8)) (i : Nat) (g : Int → Option (List UInt8)), settled (fun _ => 1) i g l y = match lastW l y with | some b => some b | none => g y := by
    intro l
    induction l with
    | nil => intro i g; rfl
    | cons p r ih =>
      intro i g
      rw [settled, ih, lastW]
      cases lastW r y with
      | some b => rfl
      | none =>
        simp only [done]
        rw [if_neg (by decide), if_neg (by decide)]
        by_cases h : p.1 = y
        · rw [if_pos h, ← h, upd_same]
        · rw [if_neg h, upd_other _ _ (fun e => h e.symm)]
  exact fun l g => aux l 0 g
theorem sync_ok {s : Dk} (ho : s.off = false) (hf : s.fuse = none) : s.sync.2 = 0 ∧ s.sync.1.off = false ∧ s.sync.1.fuse = none ∧ s.sync.1.loose = [] ∧ (∀ y, 0 ≤ y ∧ y < 32768 → s.sync.1.read y = s.read y) ∧ ∀ y, s.sync.1.sure y = match lastW s.loose y with | some b => some b | none => s.sure y := by
  have hb : s.burn = (s, 0) := by simp only [Dk.burn, hf]
  have e : s.sync = (s.settle fun _ => 1, 0) := by
    unfold Dk.sync
    rw [if_neg (by simp [ho]), hb]
    rfl
  have hs : ∀ y, (s.settle fun _ => 1).sure y = match lastW s.loose y with | some b => some b | none => s.sure y := fun y => settled_sync y s.loose s.sure
  rw [e]
  refine ⟨rfl, ho, hf, rfl, fun y hy => ?_, hs⟩
  show (s.settle fun _ => 1).read y = s.read y
  rw [read_on (s := s.settle fun _ => 1) ho hy, read_on ho hy, hs y]
  simp only [Dk.settle, lastW]
  cases lastW s.loose y with
  | some b => rfl
  | none => rfl
/-- A Put that nothing disturbs. -/
theorem renew_ok {s : Dk} {at' slot : Int} {bs : List UInt8} (ho : s.off = false) (hf : s.fuse = none) (hx : 0 ≤ at' + slot * 10 ∧ at' + slot * 10 + 10 ≤ 32768) :
    ∃ s', renewD s at' slot bs = (s', 0) ∧ s'.off = false ∧ s'.fuse = none ∧ s'.loose = [] ∧
      ∀ y, 0 ≤ y ∧ y < 32768 → s'.read y = if at' + slot * 10 ≤ y ∧ y < at' + slot * 10 + 10 then (sect (topGo s at' 20 + 1) bs (y - (at' + slot * 10)).toNat, 0) else s.read y := by
  obtain ⟨x, hxx⟩ : ∃ x, x = at' + slot * 10 := ⟨_, rfl⟩
  obtain ⟨f, hff⟩ : ∃ f, f = sect (topGo s at' 20 + 1) bs := ⟨_, rfl⟩
  rw [← hxx] at hx ⊢
  have hw := wrs_ok (f := f) ho hf hx 10 (Nat.le_refl _)
  obtain ⟨h1, h2, h3, h4, h5, _⟩ := sync_ok (s := { s with loose := s.loose ++ (List.range 10).map fun (i : Nat) => (x + (i : Int), f i) }) ho hf
  refine ⟨(Dk.sync { s with loose := s.loose ++ (List.range 10).map fun (i : Nat) => (x + (i : Int), f i) }).1, ?_, h2, h3, h4, fun y hy => ?_⟩
  · rw [renewD, ← hxx, ← hff, hw, if_neg (by simp)]
    exact Prod.ext rfl h1
  · rw [h5 y hy, read_on (s := { s with loose := s.loose ++ (List.range 10).map fun (i : Nat) => (x + (i : Int), f i) }) ho hy, read_on ho hy]
    simp only [lastW_append, lastW_slot]
    rw [← hff]
    by_cases h : x ≤ y ∧ y < x + 10
    · rw [if_pos h, if_pos (by omega)]
    · rw [if_neg h, if_neg (by omega)]
theorem topGo_congr {s s' : Dk} (h : ∀ y, s'.read y = s.read y) (x : Int) : ∀ n, topGo s' x n = topGo s x n
  | 0 => rfl
  | n + 1 => by rw [topGo, topGo, topGo_congr h x n, h]
end Go.Proofs.Ytfegffdhlkhjbaa
