/-
  What is proved: plain laws on keys, items and what is done with them, of no program; and what turns. Conditions as stated.
  What is proved: items in memory; the place of a key by halves; whether a key, a value, an operation may be. Conditions as stated.
  What is proved: what a key, a value, an operation may be. Conditions as stated.
  What is proved: the chapter's example, on lists. Conditions as stated.
-/
import Derived.Test.YtpageppjngbnpaaDoorChecked
import Derived.WalkKit
import Derived.WalkSpells
import Derived.WalkLawsBesides
import Derived.Maps.AppendAt
import Derived.Laws.CopyOwn
import Derived.Laws.IdiomCopy
import Derived.Laws.NewBlocks
import Derived.Lib.Hide
import Derived.Lib.QuietBelow
import Derived.Lib.Bytealg
import Derived.Lib.SliceRun
import Derived.Lib.Overlaps
import Derived.Lib.AppendZerosOnto
import Derived.Lib.ItoaNum
import Derived.Lib.ParseIntBCases
import Derived.IntWalk
import Derived.Deep.DeepMust
import Derived.Deep.QuietTactic
import Derived.BigQuiet
import Derived.Deep.WholeRow
import Derived.Deep.MidRow
import Derived.Deep.RegionLaw
import Derived.Deep.RegionHeld3
import Derived.StillTailTactics
import Derived.ChangeKeysEq
import Derived.Shelf.RegionOpenPlain
namespace Go.Proofs.YtpageppjngbnpaaDoor
open Go.RowKit

/-! ### the order of keys -/
abbrev It := ByteArray × ByteArray
def klt (a b : ByteArray) : Bool := Op.bytesLess a.toList b.toList
theorem bl_irrefl : ∀ a : List UInt8, Op.bytesLess a a = false
  | [] => rfl
  | a :: r => by simp [Op.bytesLess, bl_irrefl r, UInt8.lt_irrefl]
theorem bl_trans : ∀ a b c : List UInt8, Op.bytesLess a b = true → Op.bytesLess b c = true → Op.bytesLess a c = true
  | _, [], _, h, _ => by cases ‹List UInt8› <;> simp [Op.bytesLess] at h
  | _, _ :: _, [], _, h => by simp [Op.bytesLess] at h
  | [], _ :: _, _ :: _, _, _ => rfl
  | a :: x, b :: y, c :: z, h, k => by
    simp only [Op.bytesLess, Bool.or_eq_true, Bool.and_eq_true, decide_eq_true_eq, beq_iff_eq] at h k ⊢
    rcases h with h | ⟨rfl, h⟩
    · rcases k with k | ⟨rfl, k⟩
      · exact .inl (UInt8.lt_trans h k)
      · exact .inl h
    · rcases k with k | ⟨rfl, k⟩
      · exact .inl k
      · exact .inr ⟨rfl, bl_trans x y z h k⟩
theorem bl_total : ∀ a b : List UInt8, Op.bytesLess a b = false → Op.bytesLess b a = false → a = b
  | [], [], _, _ => rfl
  | [], _ :: _, h, _ => by simp [Op.bytesLess] at h
  | _ :: _, [], _, h => by simp [Op.bytesLess] at h
  | a :: x, b :: y, h, k => by
    simp only [Op.bytesLess, Bool.or_eq_false_iff, Bool.and_eq_false_iff, decide_eq_false_iff_not, beq_eq_false_iff_ne] at h k
    have e : a = b := UInt8.le_antisymm (UInt8.not_lt.1 k.1) (UInt8.not_lt.1 h.1)
    subst e
    rw [bl_total x y (h.2.resolve_left (by simp)) (k.2.resolve_left (by simp))]
theorem cmp_lt : ∀ a b : List UInt8, decide (Lib.compareBytes a b < 0) = Op.bytesLess a b
  | [], [] => rfl
  | [], _ :: _ => rfl
  | _ :: _, [] => rfl
  | a :: x, b :: y => by
    rw [Lib.compareBytes, Op.bytesLess]
    by_cases h : a < b
    · simp [h]
    · by_cases k : b < a
      · have hn : a ≠ b := fun e => h (e ▸ k)
        simp [h, k, hn]
      · have e : a = b := UInt8.le_antisymm (UInt8.not_lt.1 k) (UInt8.not_lt.1 h)
        subst e
        simp [h, cmp_lt x y]
theorem cmp_zero : ∀ a b : List UInt8, Lib.compareBytes a b = 0 ↔ a = b
  | [], [] => by simp [Lib.compareBytes]
  | [], _ :: _ => by simp [Lib.compareBytes]
  | _ :: _, [] => by simp [Lib.compareBytes]
  | a :: x, b :: y => by
    rw [Lib.compareBytes]
    by_cases h : a < b
    · have hn : a ≠ b := fun e => UInt8.lt_irrefl b (e ▸ h)
      simp [h, hn]
    · by_cases k : b < a
      · have hn : a ≠ b := fun e => h (e ▸ k)
        simp [h, k, hn]
      · have e : a = b := UInt8.le_antisymm (UInt8.not_lt.1 k) (UInt8.not_lt.1 h)
        subst e
        simp [h, cmp_zero x y]
theorem toList_inj {a b : ByteArray} (h : a.toList = b.toList) : a = b := by
  rw [ByteArray.toList_eq, ByteArray.toList_eq] at h
  exact ByteArray.ext (Array.toList_inj.1 h)
theorem klt_irrefl (a : ByteArray) : klt a a = false := bl_irrefl _
theorem klt_trans {a b c : ByteArray} (h : klt a b = true) (k : klt b c = true) : klt a c = true := bl_trans _ _ _ h k
theorem klt_total {a b : ByteArray} (h : klt a b = false) (k : klt b a = false) : a = b := toList_inj (bl_total _ _ h k)
theorem klt_asymm {a b : ByteArray} (h : klt a b = true) : klt b a = false := by
  cases hk : klt b a with
  | false => rfl
  | true => have := klt_trans h hk; rw [klt_irrefl] at this; cases this
theorem klt_empty (a : ByteArray) : klt a ByteArray.empty = false := by
  unfold klt
  rw [ByteArray.toList_eq ByteArray.empty]
  show Op.bytesLess _ [] = false
  cases a.toList <;> rfl
theorem empty_klt {a : ByteArray} (h : a.size ≠ 0) : klt ByteArray.empty a = true := by
  cases hk : klt ByteArray.empty a with
  | true => rfl
  | false => have := klt_total hk (klt_empty a); rw [← this] at h; exact absurd rfl h

/-! ### items -/
def posOf (xs : List It) (k : ByteArray) : Nat := (xs.takeWhile fun p => klt p.1 k).length
def hasK (xs : List It) (k : ByteArray) : Bool := match xs[posOf xs k]? with | some p => decide (p.1 = k) | none => false
def valK (xs : List It) (k : ByteArray) : ByteArray := match xs[posOf xs k]? with | some p => if p.1 = k then p.2 else ByteArray.empty | none => ByteArray.empty
def setK (xs : List It) (k v : ByteArray) : List It := xs.take (posOf xs k) ++ (k, v) :: xs.drop (posOf xs k + if hasK xs k then 1 else 0)
def delK (xs : List It) (k : ByteArray) : List It := xs.take (posOf xs k) ++ xs.drop (posOf xs k + 1)
def Rise (xs : List It) : Prop := xs.Pairwise fun a b => klt a.1 b.1 = true

theorem posOf_le (xs : List It) (k : ByteArray) : posOf xs k ≤ xs.length := List.Sublist.length_le (List.takeWhile_sublist _)
theorem pos_below {xs : List It} {k : ByteArray} {j : Nat} {p : It} (hj : j < posOf xs k) (hp : xs[j]? = some p) : klt p.1 k = true := by
  induction xs generalizing j with
  | nil => simp at hp
  | cons x r ih =>
    unfold posOf at hj ih
    rw [List.takeWhile_cons] at hj
    split at hj
    · rename_i hx
      cases j with
      | zero => simp at hp; rw [← hp]; exact hx
      | succ j => exact ih (by simpa using hj) (by simpa using hp)
    · simp at hj
theorem pos_at {xs : List It} {k : ByteArray} {p : It} (hp : xs[posOf xs k]? = some p) : klt p.1 k = false := by
  induction xs with
  | nil => simp at hp
  | cons x r ih =>
    unfold posOf at hp ih
    rw [List.takeWhile_cons] at hp
    split at hp
    · exact ih (by simpa using hp)
    · rename_i hx
      simp at hp
      rw [← hp]
      simpa using hx
theorem rise_lt {xs : List It} (h : Rise xs) {i j : Nat} {p q : It} (hij : i < j) (hp : xs[i]? = some p) (hq : xs[j]? = some q) : klt p.1 q.1 = true := by
  obtain ⟨hi, rfl⟩ := List.getElem?_eq_some_iff.1 hp
  obtain ⟨hj, rfl⟩ := List.getElem?_eq_some_iff.1 hq
  exact List.pairwise_iff_getElem.1 h i j hi hj hij
theorem pos_from {xs : List It} (h : Rise xs) {k : ByteArray} {j : Nat} {p : It} (hj : posOf xs k ≤ j) (hp : xs[j]? = some p) : klt p.1 k = false := by
  have hl : j < xs.length := (List.getElem?_eq_some_iff.1 hp).1
  rcases Nat.lt_or_eq_of_le hj with hlt | rfl
  · have h0 := pos_at (List.getElem?_eq_getElem (Nat.lt_trans hlt hl) : xs[posOf xs k]? = some _)
    have h1 := rise_lt h hlt (List.getElem?_eq_getElem (Nat.lt_trans hlt hl)) hp
    cases hk : klt p.1 k with
    | false => rfl
    | true => rw [klt_trans h1 hk] at h0; cases h0
  · exact pos_at hp
/-- What has all keys below k ahead of it, and none from it on, is k's place. -/
theorem pos_unique {xs : List It} {k : ByteArray} {i : Nat} (hi : i ≤ xs.length) (h1 : ∀ j p, j < i → xs[j]? = some p → klt p.1 k = true) (h2 : ∀ p, xs[i]? = some p → klt p.1 k = false) : i = posOf xs k := by
  have hle := posOf_le xs k
  rcases Nat.lt_trichotomy i (posOf xs k) with h | h | h
  · have := pos_below h (List.getElem?_eq_getElem (Nat.lt_of_lt_of_le h hle))
    rw [h2 _ (List.getElem?_eq_getElem (Nat.lt_of_lt_of_le h hle))] at this
    cases this
  · exact h
  · have := pos_at (List.getElem?_eq_getElem (Nat.lt_of_lt_of_le h hi) : xs[posOf xs k]? = some _)
    rw [h1 _ _ h (List.getElem?_eq_getElem (Nat.lt_of_lt_of_le h hi))] at this
    cases this
theorem has_of_mem {xs : List It} (h : Rise xs) {k v : ByteArray} {j : Nat} (hj : xs[j]? = some (k, v)) : posOf xs k = j ∧ hasK xs k = true ∧ valK xs k = v := by
  have e : posOf xs k = j := (pos_unique (Nat.le_of_lt (List.getElem?_eq_some_iff.1 hj).1) (fun i p hi hp => rise_lt h hi hp hj) (fun p hp => by rw [hj] at hp; cases hp; exact klt_irrefl k)).symm
  simp [hasK, valK, e, hj]
theorem mem_of_has {xs : List It} {k : ByteArray} (h : hasK xs k = true) : xs[posOf xs k]? = some (k, valK xs k) := by
  unfold hasK at h
  unfold valK
  cases hx : xs[posOf xs k]? with
  | none => rw [hx] at h; cases h
  | some p =>
    rw [hx] at h
    obtain ⟨a, b⟩ := p
    have e : a = k := by simpa using h
    subst e
    simp
theorem val_none {xs : List It} {k : ByteArray} (h : hasK xs k = false) : valK xs k = ByteArray.empty := by
  unfold hasK at h
  unfold valK
  cases hx : xs[posOf xs k]? with
  | none => rfl
  | some p =>
    rw [hx] at h
    have e : p.1 ≠ k := by simpa using h
    simp [e]
theorem pos_lt_of_has {xs : List It} {k : ByteArray} (h : hasK xs k = true) : posOf xs k < xs.length := (List.getElem?_eq_some_iff.1 (mem_of_has h)).1
theorem length_setK (xs : List It) (k v : ByteArray) : (setK xs k v).length = if hasK xs k then xs.length else xs.length + 1 := by
  have := posOf_le xs k
  unfold setK
  split
  · have := pos_lt_of_has ‹_›
    simp; omega
  · simp; omega
theorem length_delK {xs : List It} {k : ByteArray} (h : hasK xs k = true) : (delK xs k).length + 1 = xs.length := by
  have := pos_lt_of_has h
  simp [delK]; omega
theorem rise_set {xs : List It} (h : Rise xs) (k v : ByteArray) : Rise (setK xs k v) := by
  unfold Rise setK
  rw [List.pairwise_append]
  refine ⟨h.sublist (List.take_sublist _ _), ?_, ?_⟩
  · rw [List.pairwise_cons]
    refine ⟨fun q hq => ?_, h.sublist (List.drop_sublist _ _)⟩
    obtain ⟨m, hm⟩ : ∃ m, posOf xs k + (if hasK xs k = true then 1 else 0) = m := ⟨_, rfl⟩
    rw [hm] at hq
    obtain ⟨j, hj, rfl⟩ := List.getElem_of_mem hq
    rw [List.length_drop] at hj
    rw [List.getElem_drop]
    have hx : xs[m + j]? = some xs[m + j] := List.getElem?_eq_getElem (by omega)
    cases hh : hasK xs k with
    | true =>
      rw [hh] at hm
      have hm' : posOf xs k + 1 = m := by simpa using hm
      have h3 := rise_lt h (by omega : posOf xs k < m + j) (mem_of_has hh) hx
      exact h3
    | false =>
      have h1 := pos_from h (k := k) (by omega) hx
      cases h2 : klt k (xs[m + j]).1 with
      | true => rfl
      | false =>
        exfalso
        have e := klt_total h1 h2
        have hx' : xs[m + j]? = some (k, (xs[m + j]).2) := by rw [hx, ← e]
        rw [(has_of_mem h hx').2.1] at hh
        cases hh
  · intro p hp q hq
    obtain ⟨i, hi, rfl⟩ := List.getElem_of_mem hp
    rw [List.length_take] at hi
    rw [List.getElem_take]
    have h1 := pos_below (xs := xs) (k := k) (by omega) (List.getElem?_eq_getElem (by omega : i < xs.length))
    rcases List.mem_cons.1 hq with rfl | hq
    · exact h1
    · obtain ⟨j, hj, rfl⟩ := List.getElem_of_mem hq
      rw [List.length_drop] at hj
      rw [List.getElem_drop]
      exact rise_lt h (by omega : i < _) (List.getElem?_eq_getElem (by omega)) (List.getElem?_eq_getElem (by omega))
theorem rise_del {xs : List It} (h : Rise xs) (k : ByteArray) : Rise (delK xs k) := by
  unfold Rise delK
  rw [List.pairwise_append]
  refine ⟨h.sublist (List.take_sublist _ _), h.sublist (List.drop_sublist _ _), ?_⟩
  intro p hp q hq
  obtain ⟨i, hi, rfl⟩ := List.getElem_of_mem hp
  obtain ⟨j, hj, rfl⟩ := List.getElem_of_mem hq
  rw [List.length_take] at hi
  rw [List.length_drop] at hj
  rw [List.getElem_take, List.getElem_drop]
  exact rise_lt h (by omega : i < _) (List.getElem?_eq_getElem (by omega)) (List.getElem?_eq_getElem (by omega))

/-! ### numbers -/
def topN : Nat := 1125899906842624
def dec (n : Nat) : ByteArray := ⟨(Lib.decDigits n).toArray⟩
def numOf (s : ByteArray) : Option Nat := match Lib.parseUintB 64 s.data.toList with | .ok n => if n ≤ topN ∧ dec n = s then some n else none | _ => none
theorem dec_list (n : Nat) : (dec n).data.toList = Lib.decDigits n := by simp [dec]
theorem num_empty : numOf ByteArray.empty = none := by
  unfold numOf
  rw [show ByteArray.empty.data.toList = [] from rfl]
  simp [Lib.parseUintB]
theorem dec_of_num {s : ByteArray} {n : Nat} (h : numOf s = some n) : dec n = s ∧ n ≤ topN := by
  unfold numOf at h
  split at h
  · split at h
    · cases h
      exact ⟨‹_ ∧ _›.2, ‹_ ∧ _›.1⟩
    · cases h
  · cases h

/-! ### operations -/
structure MOp where
  kind : UInt8
  key : ByteArray
  value : ByteArray
  old : ByteArray
  to : ByteArray
  amount : Nat
def opC (o : MOp) : List Value := [.int .u8 (o.kind.toNat : Int), .string o.key, .string o.value, .string o.old, .string o.to, .int .u64 (o.amount : Int)]
def mayK (k : ByteArray) : Bool := decide (1 ≤ k.size) && decide (k.size ≤ 32)
def mayV (v : ByteArray) : Bool := decide (v.size ≤ 128)
/-- The operation with nothing but what its kind has, and whether that may be. -/
def ownOp (o : MOp) : MOp × Bool :=
  let x : MOp := ⟨o.kind, o.key, ByteArray.empty, ByteArray.empty, ByteArray.empty, 0⟩
  if o.kind = 1 ∨ o.kind = 3 then (x, true)
  else if o.kind = 2 then ({ x with value := o.value }, mayV o.value)
  else if o.kind = 4 then ({ x with value := o.value, old := o.old }, mayV o.old && mayV o.value)
  else if o.kind = 5 then ({ x with to := o.to, amount := o.amount }, mayK o.to && (decide (o.to ≠ o.key) && (decide (1 ≤ o.amount) && decide (o.amount ≤ topN))))
  else (x, false)
def mayOp (o : MOp) : Bool := (ownOp o).2 && (mayK o.key && decide ((ownOp o).1.value = o.value ∧ (ownOp o).1.old = o.old ∧ (ownOp o).1.to = o.to ∧ (ownOp o).1.amount = o.amount))
abbrev Rep := Nat × ByteArray
def no (e : Nat) : Rep := (e, ByteArray.empty)
def fullK (xs : List It) (k : ByteArray) : Bool := !hasK xs k && decide (64 ≤ xs.length)
def numAt (xs : List It) (k : ByteArray) : Option Nat := if hasK xs k then numOf (valK xs k) else some 0
def getR (xs : List It) (o : MOp) : Rep := if hasK xs o.key then (0, valK xs o.key) else no 4
def putR (xs : List It) (o : MOp) : Rep × List It := if fullK xs o.key then (no 7, xs) else (no 0, setK xs o.key o.value)
def delR (xs : List It) (o : MOp) : Rep × List It := if hasK xs o.key then ((0, valK xs o.key), delK xs o.key) else (no 4, xs)
def swapR (xs : List It) (o : MOp) : Rep × List It := if hasK xs o.key then (if valK xs o.key = o.old then (no 0, setK xs o.key o.value) else ((15, valK xs o.key), xs)) else (no 4, xs)
def moveR (xs : List It) (o : MOp) : Rep × List It :=
  if hasK xs o.key then
    match numOf (valK xs o.key), numAt xs o.to with
    | some a, some b =>
      if a < o.amount then ((14, valK xs o.key), xs)
      else if topN < b + o.amount then (no 6, xs)
      else if fullK xs o.to then (no 7, xs)
      else ((0, dec (a - o.amount)), setK (setK xs o.key (dec (a - o.amount))) o.to (dec (b + o.amount)))
    | _, _ => (no 5, xs)
  else (no 4, xs)
def doR (xs : List It) (o : MOp) : Rep × List It :=
  if mayOp o then
    (if o.kind = 1 then (getR xs o, xs) else if o.kind = 2 then putR xs o else if o.kind = 3 then delR xs o else if o.kind = 4 then swapR xs o else moveR xs o)
  else (no 1, xs)
theorem full_false {xs : List It} {k : ByteArray} (h : fullK xs k = false) : hasK xs k = true ∨ xs.length < 64 := by
  simp only [fullK, Bool.and_eq_false_iff, Bool.not_eq_false', decide_eq_false_iff_not, Nat.not_le] at h
  exact h
theorem has_set {xs : List It} (h : Rise xs) (k v : ByteArray) : posOf (setK xs k v) k = posOf xs k ∧ hasK (setK xs k v) k = true ∧ valK (setK xs k v) k = v := by
  have hj : (setK xs k v)[posOf xs k]? = some (k, v) := by
    have := posOf_le xs k
    unfold setK
    rw [List.getElem?_append_right (by simp [Nat.min_eq_left this])]
    simp [Nat.min_eq_left this]
  exact has_of_mem (rise_set h k v) hj
theorem mem_set {xs : List It} {k v : ByteArray} {p : It} (h : p ∈ setK xs k v) : p = (k, v) ∨ p ∈ xs := by
  unfold setK at h
  rcases List.mem_append.1 h with h | h
  · exact .inr (List.mem_of_mem_take h)
  · rcases List.mem_cons.1 h with h | h
    · exact .inl h
    · exact .inr (List.mem_of_mem_drop h)
theorem mem_of_set {xs : List It} {k v : ByteArray} {p : It} (h : p ∈ xs) (hne : p.1 ≠ k) : p ∈ setK xs k v := by
  obtain ⟨j, hj, rfl⟩ := List.getElem_of_mem h
  unfold setK
  by_cases hlt : j < posOf xs k
  · exact List.mem_append_left _ (List.mem_iff_getElem.2 ⟨j, by simp; omega, by simp⟩)
  · refine List.mem_append_right _ (List.mem_cons_of_mem _ ?_)
    cases hh : hasK xs k with
    | false => exact List.mem_iff_getElem.2 ⟨j - posOf xs k, by simp; omega, by simp [List.getElem_drop]; congr 1; omega⟩
    | true =>
      have hk := mem_of_has hh
      have : j ≠ posOf xs k := fun e => by
        subst e
        obtain ⟨_, e2⟩ := List.getElem?_eq_some_iff.1 hk
        exact hne (by rw [e2])
      exact List.mem_iff_getElem.2 ⟨j - posOf xs k - 1, by simp; omega, by simp [List.getElem_drop]; congr 1; omega⟩
theorem has_iff {xs : List It} (h : Rise xs) {k v : ByteArray} : (k, v) ∈ xs ↔ hasK xs k = true ∧ valK xs k = v := by
  constructor
  · intro hm
    obtain ⟨j, hj, e⟩ := List.getElem_of_mem hm
    exact (has_of_mem h (by rw [List.getElem?_eq_getElem hj, e] : xs[j]? = some (k, v))).2
  · rintro ⟨h1, rfl⟩
    exact List.mem_of_getElem? (mem_of_has h1)
theorem has_other {xs : List It} (h : Rise xs) {k v q : ByteArray} (hne : q ≠ k) : hasK (setK xs k v) q = hasK xs q ∧ valK (setK xs k v) q = valK xs q := by
  have hs := rise_set h k v
  cases hh : hasK xs q with
  | true =>
    have hm : (q, valK xs q) ∈ xs := (has_iff h).2 ⟨hh, rfl⟩
    exact (has_iff hs).1 (mem_of_set hm hne)
  | false =>
    have hn : hasK (setK xs k v) q = false := by
      cases hx : hasK (setK xs k v) q with
      | false => rfl
      | true =>
        exfalso
        have hm := (has_iff hs).2 ⟨hx, rfl⟩
        rcases mem_set hm with e | hm
        · exact hne (congrArg Prod.fst e)
        · rw [((has_iff h).1 hm).1] at hh; cases hh
    exact ⟨hn, by rw [val_none hn, val_none hh]⟩
theorem do_rise {xs : List It} (h : Rise xs) (o : MOp) : Rise (doR xs o).2 := by
  unfold doR putR delR swapR moveR
  repeat' split
  all_goals first | exact h | exact rise_set h _ _ | exact rise_del h _ | exact rise_set (rise_set h _ _) _ _
theorem do_len {xs : List It} (hl : xs.length ≤ 64) (h : Rise xs) (o : MOp) : (doR xs o).2.length ≤ 64 := by
  have hset : ∀ (ys : List It) (k v : ByteArray), ys.length ≤ 64 → fullK ys k = false → (setK ys k v).length ≤ 64 := fun ys k v hy hf => by
    rw [length_setK]
    rcases full_false hf with h | h
    · rw [if_pos h]; exact hy
    · split <;> omega
  have hset1 : ∀ (ys : List It) (k v : ByteArray), ys.length ≤ 64 → hasK ys k = true → (setK ys k v).length ≤ 64 := fun ys k v hy hf => by rw [length_setK, if_pos hf]; exact hy
  have hfo : ∀ (k v q : ByteArray), hasK xs k = true → fullK xs q = false → fullK (setK xs k v) q = false := fun k v q hk hq => by
    have hlen : (setK xs k v).length = xs.length := by rw [length_setK, if_pos hk]
    by_cases e : q = k
    · subst e
      simp [fullK, (has_set h q v).2.1]
    · unfold fullK at hq ⊢
      rw [(has_other h e).1, hlen]
      exact hq
  unfold doR putR delR swapR moveR
  repeat' split
  all_goals first
    | exact hl
    | (refine hset _ _ _ hl ?_; exact Bool.eq_false_iff.2 ‹¬ fullK xs o.key = true›)
    | (show (delK xs o.key).length ≤ 64; have := length_delK ‹hasK xs o.key = true›; omega)
    | exact hset1 _ _ _ hl ‹_›
    | skip
  all_goals refine hset _ _ _ (hset1 _ _ _ hl ‹hasK xs o.key = true›) (hfo _ _ _ ‹hasK xs o.key = true› ?_)
  all_goals exact Bool.eq_false_iff.2 ‹¬ fullK xs o.to = true›

/-! ### what turns -/
/-- Of what was there no block but those of S has turned. -/
structure Turns (S : Nat → Prop) (w w' : World) : Prop where
  os : w'.os = w.os
  tape : w'.tape = w.tape
  output : w'.output = w.output
  size : w.heap.size ≤ w'.heap.size
  block : ∀ k, k < w.heap.size → ¬ S k → w'.heap[k]? = w.heap[k]?

/-- .. and whose S was is S' now, but for what is new. -/
def Own (w : World) (S : Nat → Prop) (w' : World) (S' : Nat → Prop) : Prop := Turns S w w' ∧ ∀ k, S' k → S k ∨ w.heap.size ≤ k

theorem Turns.refl (S : Nat → Prop) (w : World) : Turns S w w := ⟨rfl, rfl, rfl, Nat.le_refl _, fun _ _ _ => rfl⟩
theorem Turns.drewN {S : Nat → Prop} {a w : World} (h : Turns S a w) (q : Nat) : Turns S a (w.drewN q) := ⟨h.os, h.tape, h.output, h.size, h.block⟩
theorem Turns.mono {S S' : Nat → Prop} {a w : World} (h : Turns S a w) (hs : ∀ k, S k → S' k) : Turns S' a w := ⟨h.os, h.tape, h.output, h.size, fun k hk hn => h.block k hk fun x => hn (hs k x)⟩
theorem Turns.step {S S' : Nat → Prop} {a b c : World} (h : Turns S a b) (k : Turns S' b c) (hs : ∀ k, S' k → S k ∨ a.heap.size ≤ k) : Turns S a c :=
  ⟨k.os.trans h.os, k.tape.trans h.tape, k.output.trans h.output, Nat.le_trans h.size k.size, fun i hi hn => (k.block i (Nat.lt_of_lt_of_le hi h.size) (fun x => (hs i x).elim hn fun y => by omega)).trans (h.block i hi hn)⟩
theorem Turns.trans {S : Nat → Prop} {a b c : World} (h : Turns S a b) (k : Turns S b c) : Turns S a c := h.step k fun _ x => .inl x
theorem Turns.alloc {S : Nat → Prop} {a w : World} (h : Turns S a w) (o : Obj) : Turns S a (w.alloc o) :=
  h.trans ⟨rfl, rfl, rfl, by simp, fun k hk _ => heap_alloc_old w o hk⟩
theorem Turns.setCell {S : Nat → Prop} {a w : World} (h : Turns S a w) {g : Nat} (hg : S g ∨ a.heap.size ≤ g) (i : Nat) (v : Value) : Turns S a (w.setCell ⟨g, i, none⟩ v) :=
  h.step (S' := (· = g)) ⟨rfl, rfl, rfl, by simp [World.setCell], fun k _ hn => Below.heap_setCell w ⟨g, i, none⟩ v k hn⟩ (by rintro k rfl; exact hg)
theorem Turns.setCells {S : Nat → Prop} {a : World} {g : Nat} (hg : S g ∨ a.heap.size ≤ g) : ∀ (vs : List Value) (o : Nat) (w : World), Turns S a w → Turns S a (w.setCells g o vs)
  | [], _, _, h => h
  | v :: r, o, w, h => by
    rw [World.setCells]
    exact Turns.setCells hg r (o + 1) _ (h.setCell hg o v)
theorem Turns.grown {S : Nat → Prop} {a w w' : World} (h : Turns S a w) {row : Option Nat} (hg : w.grownBy w' row) (hr : ∀ g, row = some g → S g ∨ a.heap.size ≤ g) : Turns S a w' :=
  h.step (S' := fun k => row = some k) ⟨hg.os, hg.tape, hg.output, hg.size, fun k hk hn => hg.block k hk fun e => hn e.symm⟩ (fun k e => hr k e)
theorem Turns.below {S : Nat → Prop} {a w : World} (h : Turns S a w) {B : Nat} (hB : B ≤ a.heap.size) (hs : ∀ k, S k → B ≤ k) : Below B a w :=
  ⟨h.os, h.tape, h.output, h.size, fun k hk => h.block k (by omega) fun x => by have := hs k x; omega⟩
theorem Turns.of_below {S : Nat → Prop} {a w : World} (h : Below a.heap.size a w) : Turns S a w := ⟨h.os, h.tape, h.output, h.size, fun k hk _ => h.block k hk⟩
theorem Own.trans {a b c : World} {S S' S'' : Nat → Prop} (h : Own a S b S') (k : Own b S' c S'') : Own a S c S'' :=
  ⟨h.1.step k.1 h.2, fun i hi => (k.2 i hi).elim (h.2 i) fun x => .inr (Nat.le_trans h.1.size x)⟩
theorem Own.same {a b : World} {S : Nat → Prop} (h : Turns S a b) : Own a S b S := ⟨h, fun _ x => .inl x⟩
open Go.RowKit
set_option maxRecDepth 100000

/-! ### items in memory -/
def itC (xs : List It) : List Value := xs.flatMap fun p => [Value.string p.1, Value.string p.2]
theorem itC_length : ∀ xs : List It, (itC xs).length = xs.length * 2
  | [] => rfl
  | p :: r => by
    have := itC_length r
    simp only [itC, List.flatMap_cons, List.length_append, List.length_cons, List.length_nil] at this ⊢
    omega
theorem itC_one (xs : List It) : ∀ v ∈ itC xs, v.oneCell' = true := by
  intro v hv
  simp only [itC, List.mem_flatMap] at hv
  obtain ⟨p, _, hp⟩ := hv
  simp at hp
  rcases hp with rfl | rfl <;> rfl
theorem itC_app (a b : List It) : itC (a ++ b) = itC a ++ itC b := by simp [itC]
theorem itC_cons (p : It) (r : List It) : itC (p :: r) = Value.string p.1 :: Value.string p.2 :: itC r := by simp [itC]
theorem itC_take : ∀ (xs : List It) (i : Nat), (itC xs).take (i * 2) = itC (xs.take i)
  | [], i => by simp [itC]
  | p :: r, 0 => by simp [itC]
  | p :: r, i + 1 => by
    rw [show (i + 1) * 2 = i * 2 + 1 + 1 by omega, itC_cons, List.take_succ_cons, List.take_succ_cons, itC_take r i, List.take_succ_cons, itC_cons]
theorem itC_drop : ∀ (xs : List It) (i : Nat), (itC xs).drop (i * 2) = itC (xs.drop i)
  | [], i => by simp [itC]
  | p :: r, 0 => by simp [itC]
  | p :: r, i + 1 => by
    rw [show (i + 1) * 2 = i * 2 + 1 + 1 by omega, itC_cons, List.drop_succ_cons, List.drop_succ_cons, itC_drop r i, List.drop_succ_cons]
theorem itC_at : ∀ {xs : List It} {j : Nat} {p : It}, xs[j]? = some p → (itC xs)[j * 2]? = some (.string p.1) ∧ (itC xs)[j * 2 + 1]? = some (.string p.2)
  | [], j, p, h => by simp at h
  | q :: r, 0, p, h => by
    obtain rfl : q = p := by simpa using h
    rw [itC_cons]
    exact ⟨rfl, rfl⟩
  | q :: r, j + 1, p, h => by
    rw [show (j + 1) * 2 = j * 2 + 1 + 1 by omega, itC_cons]
    exact itC_at (xs := r) (by simpa using h)

/-- At the address lie the items, one behind the other. -/
def Its (w : World) (A : Option Addr) (xs : List It) : Prop :=
  0 < xs.length → ∃ b o, A = some ⟨b, o, none⟩ ∧ b < w.heap.size ∧ ∀ j p, xs[j]? = some p → w.cell? ⟨b, o + j * 2, none⟩ = some (.string p.1) ∧ w.cell? ⟨b, o + j * 2 + 1, none⟩ = some (.string p.2)
theorem Its.below {w w' : World} {A : Option Addr} {xs : List It} (h : Its w A xs) (hb : Below w.heap.size w w') : Its w' A xs := fun hn =>
  let ⟨b, o, hA, hl, hc⟩ := h hn
  ⟨b, o, hA, Nat.lt_of_lt_of_le hl hb.size, fun j p hp => ⟨(hb.cell (p := ⟨b, o + j * 2, none⟩) hl).trans (hc j p hp).1, (hb.cell (p := ⟨b, o + j * 2 + 1, none⟩) hl).trans (hc j p hp).2⟩⟩
theorem Its.nil (w : World) (A : Option Addr) : Its w A [] := fun h => absurd h (by simp)

/-- A row of items of the call's own, or none. -/
def Rw (w : World) (r : Option Nat) (c : Nat) (xs : List It) : Prop :=
  match r with
  | none => c = 0 ∧ xs = []
  | some b => xs.length ≤ c ∧ c ≤ 9223372036854775807 ∧ ∃ R : List Value, w.heap[b]? = some (.cells (itC xs ++ R).toArray 81 (0, 0)) ∧ xs.length * 2 + R.length = c * 2
def slA (r : Option Nat) : Option Addr := r.map fun b => ⟨b, 0, none⟩
theorem Rw.its {w : World} {r : Option Nat} {c : Nat} {xs : List It} (h : Rw w r c xs) : Its w (slA r) xs := by
  intro hn
  cases r with
  | none => rw [h.2] at hn; simp at hn
  | some b =>
    obtain ⟨_, _, R, hb, _⟩ := h
    have hlt : b < w.heap.size := (Array.getElem?_eq_some_iff.1 hb).1
    refine ⟨b, 0, rfl, hlt, fun j p hp => ?_⟩
    have hc : ∀ k v, (itC xs)[k]? = some v → w.cell? ⟨b, k, none⟩ = some v := fun k v hv => by
      have hk : k < (itC xs).length := (List.getElem?_eq_some_iff.1 hv).1
      rw [cell_of_row w b k _ _ _ hb]
      simp [List.getElem?_append_left hk, hv]
    rw [Nat.zero_add]
    exact ⟨hc _ _ (itC_at hp).1, hc _ _ (itC_at hp).2⟩
theorem Rw.kept {w w' : World} {r : Option Nat} {c : Nat} {xs : List It} (h : Rw w r c xs) (hk : ∀ b, r = some b → w'.heap[b]? = w.heap[b]?) : Rw w' r c xs := by
  cases r with
  | none => exact h
  | some b =>
    obtain ⟨h1, h2, R, hb, h3⟩ := h
    exact ⟨h1, h2, R, (hk b rfl).trans hb, h3⟩
theorem Rw.lt {w : World} {b c : Nat} {xs : List It} (h : Rw w (some b) c xs) : b < w.heap.size := by
  obtain ⟨_, _, R, hb, _⟩ := h
  exact (Array.getElem?_eq_some_iff.1 hb).1
theorem Rw.c {w : World} {r : Option Nat} {c : Nat} {xs : List It} (h : Rw w r c xs) : xs.length ≤ c ∧ c ≤ 9223372036854775807 := by
  cases r with
  | none => rw [h.2, h.1]; exact ⟨Nat.le_refl _, by omega⟩
  | some b => exact ⟨h.1, h.2.1⟩

/-- A ledger: its block, its row's, its items. -/
structure Led (w : World) (g : Nat) (r : Option Nat) (c : Nat) (xs : List It) : Prop where
  top : w.heap[g]? = some (.cells #[.slice (slA r) xs.length c] 73 (0, 0))
  row : Rw w r c xs
/-- What it stands on. -/
def On (g : Nat) (r : Option Nat) (k : Nat) : Prop := k = g ∨ r = some k
theorem Led.lt {w : World} {g : Nat} {r : Option Nat} {c : Nat} {xs : List It} (h : Led w g r c xs) : g < w.heap.size := (Array.getElem?_eq_some_iff.1 h.top).1
theorem Led.on_lt {w : World} {g : Nat} {r : Option Nat} {c : Nat} {xs : List It} (h : Led w g r c xs) : ∀ k, On g r k → k < w.heap.size := by
  rintro k (rfl | rfl)
  · exact h.lt
  · exact h.row.lt
theorem Led.cell {w : World} {g : Nat} {r : Option Nat} {c : Nat} {xs : List It} (h : Led w g r c xs) : w.cell? ⟨g, 0, none⟩ = some (.slice (slA r) xs.length c) := by
  rw [cell_of_row w g 0 _ _ _ h.top]
  rfl
theorem Led.kept {w w' : World} {g : Nat} {r : Option Nat} {c : Nat} {xs : List It} (h : Led w g r c xs) (hk : ∀ k, On g r k → w'.heap[k]? = w.heap[k]?) : Led w' g r c xs :=
  ⟨(hk g (.inl rfl)).trans h.top, h.row.kept fun b e => hk b (.inr e)⟩
theorem Led.below {w w' : World} {g : Nat} {r : Option Nat} {c : Nat} {xs : List It} (h : Led w g r c xs) (hb : Below w.heap.size w w') : Led w' g r c xs :=
  h.kept fun k hk => hb.block k (h.on_lt k hk)
theorem Led.apart {w : World} {g : Nat} {r : Option Nat} {c : Nat} {xs : List It} (h : Led w g r c xs) : r ≠ some g := by
  rintro rfl
  obtain ⟨_, _, R, hb, _⟩ := h.row
  have := h.top.symm.trans hb
  simp at this

/-! ### the place of a key -/
theorem Tryd.e73 (args : Array Value) (w : World) (a b : ByteArray) (h : args = #[.string a, .string b]) : (callFunc 73 args).run Tryd.prog w = .ok (.value (.int .i64 (Lib.compareBytes a.data.toList b.data.toList))) w := by
  subst h
  rw [run_callFunc_extern Tryd.func73 (by kernel_rfl) (by kernel_rfl) (by kernel_rfl) (e := Extern.BytealgCompare.compare) (by kernel_rfl), Lib.run_compareString]
  rfl
theorem compare_any (a b : ByteArray) (w : World) : Calls Tryd.prog 63 #[.string a, .string b] w fun E w' => E = .returned (.int .i64 (Lib.compareBytes a.data.toList b.data.toList)) ∧ w = w' := by
  have H : ∀ w, (callFunc 73 #[.string a, .string b]).run Tryd.prog w = .ok (.value (.int .i64 (Lib.compareBytes a.data.toList b.data.toList))) w := fun w => Tryd.e73 _ w a b rfl
  go_enter Tryd.func63, Tryd.ntmps63
  go_wp2
  go_ret
  exact ⟨rfl, rfl⟩
theorem ord_any (p : It) (k : ByteArray) (w : World) : Calls Tryd.prog 62 #[.agg #[.string p.1, .string p.2], .string k] w fun E w' => E = .returned (.int .i64 (Lib.compareBytes p.1.data.toList k.data.toList)) ∧ Below w.heap.size w w' := by
  have HB : Hid (Below w.heap.size w (w.alloc (.cells #[.string p.1, .string p.2] 81))) := Lib.hid ((Below.refl _ _).alloc (Nat.le_refl _) _)
  go_enter Tryd.func62, Tryd.ntmps62
  go_wp2_with (go_at_call 63; refine (compare_any _ _ _).mono ?_; rintro E w' ⟨rfl, rfl⟩)
  go_ret
  exact ⟨rfl, HB⟩

theorem cmp_neg (p : ByteArray) (k : ByteArray) : (Lib.compareBytes p.data.toList k.data.toList < 0) ↔ klt p k = true := by
  rw [klt, ByteArray.toList_eq, ByteArray.toList_eq, ← cmp_lt, decide_eq_true_eq]
theorem cmp_eq0 (p : ByteArray) (k : ByteArray) : (Lib.compareBytes p.data.toList k.data.toList = 0) ↔ p = k := by
  rw [cmp_zero]
  exact ⟨fun h => ByteArray.ext (Array.toList_inj.1 h), fun h => by rw [h]⟩

set_option maxHeartbeats 4000000 in
theorem half_any (A : Option Addr) (c : Nat) (xs : List It) (k : ByteArray) (w : World) (hx : Its w A xs) (hs : Rise xs) (hn : xs.length ≤ 4611686018427387904) :
    Calls Tryd.prog 61 #[.slice A xs.length c, .string k, .func (.func 62) #[] #[]] w fun E w' => E = .returned (.tuple #[.int .i64 (posOf xs k : Int), .bool (hasK xs k)]) ∧ Below w.heap.size w w' := by
  have HX := Lib.hid hx
  have HS := Lib.hid hs
  obtain ⟨n, hnn⟩ : ∃ n, n = xs.length := ⟨_, rfl⟩
  have HL := Lib.hid hnn
  rw [← hnn] at hn ⊢
  clear hx hs hnn
  have HB0 := Lib.hid (Below.refl w.heap.size w)
  obtain ⟨q, hq⟩ : ∃ q, q = posOf xs k := ⟨_, rfl⟩
  obtain ⟨z, hz⟩ : ∃ z, z = hasK xs k := ⟨_, rfl⟩
  have HQ := Lib.hid hq
  have HZ := Lib.hid hz
  rw [← hq, ← hz]
  clear hq hz
  go_enter Tryd.func61, Tryd.ntmps61
  go_wp2_with fail
  go_loopw [9, 10] (fun v9 v10 wr => ∃ lo hi : Nat, v9 = .int .i64 (lo : Int) ∧ v10 = .int .i64 (hi : Int) ∧ lo ≤ hi ∧ hi ≤ n ∧ Hid (Below w.heap.size w wr ∧ (∀ j p, j < lo → xs[j]? = some p → klt p.1 k = true) ∧ ∀ j p, hi ≤ j → xs[j]? = some p → klt p.1 k = false)) (fun v9 v10 _ => (intOf v10).toNat - (intOf v9).toNat)
  case atStart => exact ⟨0, n, rfl, rfl, Nat.zero_le _, Nat.le_refl _, Lib.hid ⟨HB0.out, fun j p hj => absurd hj (Nat.not_lt_zero _), fun j p hj hp => absurd (List.getElem?_eq_some_iff.1 hp).1 (by rw [← HL.out]; omega)⟩⟩
  case round =>
    obtain ⟨lo, hi, rfl, rfl, hlh, hin, HR⟩ := hrel
    by_cases hlt : lo < hi
    · obtain ⟨m, hm⟩ : ∃ m, m = (lo + hi) / 2 := ⟨_, rfl⟩
      have hm1 : lo ≤ m := by omega
      have hm2 : m < hi := by omega
      have hmi : ((lo : Int) + (hi : Int)) / 2 = (m : Int) := by omega
      obtain ⟨b, o, rfl, hbl, hc⟩ := HX.out (by rw [← HL.out]; omega)
      obtain ⟨p, hp⟩ : ∃ p, xs[m]? = some p := ⟨_, List.getElem?_eq_getElem (by rw [← HL.out]; omega)⟩
      have c0 : wr.cell? ⟨b, o + m * 2, none⟩ = some (.string p.1) := (HR.out.1.cell (p := ⟨b, o + m * 2, none⟩) hbl).trans (hc m p hp).1
      have c1 : wr.cell? ⟨b, o + m * 2 + 1, none⟩ = some (.string p.2) := (HR.out.1.cell (p := ⟨b, o + m * 2 + 1, none⟩) hbl).trans (hc m p hp).2
      have HP := Lib.hid hp
      have HC := Lib.hid (fun W => ord_any p k W)
      have HK := Lib.hid (cmp_neg p.1 k)
      clear hc hp
      obtain ⟨x, y⟩ := p
      dsimp only at c0 c1 HC HK
      obtain ⟨u, hu⟩ : ∃ u, u = Lib.compareBytes x.data.toList k.data.toList := ⟨_, rfl⟩
      rw [← hu] at HC HK
      clear hu
      have HM := Lib.hid hm
      clear hm
      by_cases hu : u < 0
      · go_wp2_with (go_at_call 62; refine (HC.out _).mono ?_; rintro E w1 ⟨rfl, b1⟩)
        go_roundw
        case measure => simp [intOf] <;> omega
        case rel =>
          refine ⟨m + 1, hi, by go_num, rfl, by omega, hin, Lib.hid ⟨HR.out.1.trans (b1.mono HR.out.1.size), fun j p hj hp => ?_, HR.out.2.2⟩⟩
          rcases Nat.lt_or_eq_of_le (Nat.le_of_lt_succ hj) with h | rfl
          · exact klt_trans (rise_lt HS.out h hp HP.out) (HK.out.1 hu)
          · rw [HP.out] at hp; cases hp; exact HK.out.1 hu
      · go_wp2_with (go_at_call 62; refine (HC.out _).mono ?_; rintro E w1 ⟨rfl, b1⟩)
        go_roundw
        case measure => simp [intOf] <;> omega
        case rel =>
          refine ⟨lo, m, rfl, by go_num, by omega, by omega, Lib.hid ⟨HR.out.1.trans (b1.mono HR.out.1.size), HR.out.2.1, fun j p hj hp => ?_⟩⟩
          have h0 : klt x k = false := by cases h : klt x k with | false => rfl | true => exact absurd (HK.out.2 h) (by omega)
          rcases Nat.lt_or_eq_of_le hj with h | rfl
          · cases h' : klt p.1 k with
            | false => rfl
            | true => have := klt_trans (rise_lt HS.out h HP.out hp) h'; rw [h0] at this; cases this
          · rw [HP.out] at hp; cases hp; exact h0
    · obtain rfl : lo = hi := by omega
      have HE : Hid (q = lo) := Lib.hid (by rw [HQ.out]; exact (pos_unique (by rw [← HL.out]; exact hin) HR.out.2.1 (fun p hp => HR.out.2.2 lo p (Nat.le_refl _) hp)).symm)
      obtain rfl := HE.out
      by_cases hj : q < n
      · obtain ⟨b, o, rfl, hbl, hc⟩ := HX.out (by rw [← HL.out]; omega)
        obtain ⟨p, hp⟩ : ∃ p, xs[q]? = some p := ⟨_, List.getElem?_eq_getElem (by rw [← HL.out]; omega)⟩
        have c0 : wr.cell? ⟨b, o + q * 2, none⟩ = some (.string p.1) := (HR.out.1.cell (p := ⟨b, o + q * 2, none⟩) hbl).trans (hc q p hp).1
        have c1 : wr.cell? ⟨b, o + q * 2 + 1, none⟩ = some (.string p.2) := (HR.out.1.cell (p := ⟨b, o + q * 2 + 1, none⟩) hbl).trans (hc q p hp).2
        have HC := Lib.hid (fun W => ord_any p k W)
        have HK := Lib.hid (cmp_eq0 p.1 k)
        have HZ2 : Hid (z = decide (p.1 = k)) := Lib.hid (by rw [HZ.out, hasK, ← HQ.out, hp])
        clear hc hp
        obtain ⟨x, y⟩ := p
        dsimp only at c0 c1 HC HK HZ2
        obtain ⟨u, hu⟩ : ∃ u, u = Lib.compareBytes x.data.toList k.data.toList := ⟨_, rfl⟩
        rw [← hu] at HC HK
        clear hu
        by_cases hu : u = 0
        · have hu' : (u == 0) = true := by simpa using hu
          go_wp2_with (go_at_call 62; refine (HC.out _).mono ?_; rintro E w1 ⟨rfl, b1⟩)
          go_ret2
          refine ⟨?_, HR.out.1.trans (b1.mono HR.out.1.size)⟩
          rw [HZ2.out, decide_eq_true (HK.out.1 hu)]
          first | rfl | simp [hu]
        · have hu' : (u == 0) = false := by simpa using hu
          go_wp2_with (go_at_call 62; refine (HC.out _).mono ?_; rintro E w1 ⟨rfl, b1⟩)
          go_ret2
          refine ⟨?_, HR.out.1.trans (b1.mono HR.out.1.size)⟩
          rw [HZ2.out, decide_eq_false (fun h => hu (HK.out.2 h))]
          first | rfl | simp [hu]
      · have HZ2 : Hid (z = false) := Lib.hid (by rw [HZ.out, hasK, ← HQ.out, List.getElem?_eq_none (by rw [← HL.out]; omega)])
        go_wp2_with fail
        go_ret2
        rw [HZ2.out]
        exact ⟨rfl, HR.out.1⟩

theorem find_any {w : World} {g : Nat} {r : Option Nat} {c : Nat} {xs : List It} (h : Led w g r c xs) (hs : Rise xs) (hn : xs.length ≤ 4611686018427387904) (k : ByteArray) :
    Calls Tryd.prog 55 #[.pointer (some ⟨g, 0, none⟩), .string k] w fun E w' => E = .returned (.tuple #[.int .i64 (posOf xs k : Int), .bool (hasK xs k)]) ∧ Below w.heap.size w w' := by
  have c0 := h.cell
  have HC := Lib.hid (half_any (slA r) c xs k w h.row.its hs hn)
  obtain ⟨q, hq⟩ : ∃ q, q = posOf xs k := ⟨_, rfl⟩
  obtain ⟨z, hz⟩ : ∃ z, z = hasK xs k := ⟨_, rfl⟩
  rw [← hq, ← hz] at HC ⊢
  obtain ⟨A, hA⟩ : ∃ A, A = slA r := ⟨_, rfl⟩
  obtain ⟨n, hnn⟩ : ∃ n, n = xs.length := ⟨_, rfl⟩
  rw [← hA, ← hnn] at c0 HC
  clear hq hz hA hnn h hs hn
  go_enter Tryd.func55, Tryd.ntmps55
  go_wp2_with (go_at_call 61; refine HC.out.mono ?_; rintro E w1 ⟨rfl, b1⟩)
  go_ret2
  exact ⟨rfl, b1⟩
theorem value_any {w : World} {g : Nat} {r : Option Nat} {c : Nat} {xs : List It} (h : Led w g r c xs) (hs : Rise xs) (hn : xs.length ≤ 4611686018427387904) (k : ByteArray) :
    Calls Tryd.prog 52 #[.pointer (some ⟨g, 0, none⟩), .string k] w fun E w' => E = .returned (.tuple #[.string (valK xs k), .bool (hasK xs k)]) ∧ Below w.heap.size w w' := by
  have HC := Lib.hid (find_any h hs hn k)
  have HH := Lib.hid h
  obtain ⟨q, hq⟩ : ∃ q, q = posOf xs k := ⟨_, rfl⟩
  obtain ⟨z, hz⟩ : ∃ z, z = hasK xs k := ⟨_, rfl⟩
  obtain ⟨v, hv⟩ : ∃ v, v = valK xs k := ⟨_, rfl⟩
  have HV := Lib.hid hv
  have HQ := Lib.hid hq
  have HZ := Lib.hid hz
  rw [← hq, ← hz] at HC
  rw [← hz, ← hv]
  clear hv hq hz h
  cases z with
  | false =>
    have HE : Hid (v = ByteArray.empty) := Lib.hid (by rw [HV.out]; exact val_none HZ.out.symm)
    rw [HE.out]
    go_enter Tryd.func52, Tryd.ntmps52
    go_wp2_with (go_at_call 55; refine HC.out.mono ?_; rintro E w1 ⟨rfl, b1⟩)
    go_ret2
    exact ⟨rfl, b1⟩
  | true =>
    go_enter Tryd.func52, Tryd.ntmps52
    go_wp2_with (go_at_call 55; refine HC.out.mono ?_)
    rintro E w1 ⟨rfl, b1⟩
    have hL := HH.out.below b1
    have hm := mem_of_has HZ.out.symm
    have hql : q < xs.length := by rw [HQ.out]; exact pos_lt_of_has HZ.out.symm
    obtain ⟨b, o, hA, hbl, hc⟩ := hL.row.its (by omega)
    have c0 := hL.cell
    have c1 : w1.cell? ⟨b, o + q * 2 + 1, none⟩ = some (.string v) := by rw [HQ.out, HV.out]; exact (hc _ _ hm).2
    rw [hA] at c0
    obtain ⟨n, hnn⟩ : ∃ n, n = xs.length := ⟨_, rfl⟩
    rw [← hnn] at c0 hql
    clear hc hnn hL hm hA
    go_wp2_with fail
    go_ret2
    exact ⟨rfl, b1⟩
theorem full_any {w : World} {g : Nat} {r : Option Nat} {c : Nat} {xs : List It} (h : Led w g r c xs) (hs : Rise xs) (hn : xs.length ≤ 4611686018427387904) (k : ByteArray) :
    Calls Tryd.prog 53 #[.pointer (some ⟨g, 0, none⟩), .string k] w fun E w' => E = .returned (.bool (fullK xs k)) ∧ Below w.heap.size w w' := by
  have HC := Lib.hid (find_any h hs hn k)
  have HH := Lib.hid h
  obtain ⟨q, hq⟩ : ∃ q, q = posOf xs k := ⟨_, rfl⟩
  obtain ⟨z, hz⟩ : ∃ z, z = hasK xs k := ⟨_, rfl⟩
  obtain ⟨f, hf⟩ : ∃ f, f = fullK xs k := ⟨_, rfl⟩
  have HF : Hid (f = (!z && decide (64 ≤ xs.length))) := Lib.hid (by rw [hf, hz]; rfl)
  rw [← hq, ← hz] at HC
  rw [← hf]
  clear hf hq hz h
  go_enter Tryd.func53, Tryd.ntmps53
  go_wp2_with (go_at_call 55; refine HC.out.mono ?_)
  rintro E w1 ⟨rfl, b1⟩
  have c0 := (HH.out.below b1).cell
  obtain ⟨A, hA⟩ : ∃ A, A = slA r := ⟨_, rfl⟩
  obtain ⟨n, hnn⟩ : ∃ n, n = xs.length := ⟨_, rfl⟩
  rw [← hA, ← hnn] at c0
  rw [← hnn] at HF
  have HN := Lib.hid hnn
  clear hA hnn
  cases z with
  | false =>
    go_wp2_with fail
    go_ret
    rw [HF.out]
    refine ⟨?_, b1⟩
    first | rfl | (simp; done) | (simp; omega)
  | true =>
    go_wp2_with fail
    go_ret
    rw [HF.out]
    exact ⟨rfl, b1⟩
open Go.RowKit
set_option maxRecDepth 100000

theorem ret_dec {p q : Prop} [Decidable p] [Decidable q] (h : p ↔ q) : Ending.returned (.bool (decide p)) = Ending.returned (.bool (decide q)) := by rw [decide_eq_decide.2 h]
theorem block_cell {w : World} {g : Nat} {C : List Value} {t : TypeId} (h : w.heap[g]? = some (.cells C.toArray t (0, 0))) (k : Nat) (v : Value) (hv : C[k]? = some v) : w.cell? ⟨g, k, none⟩ = some v := by
  rw [cell_of_row w g k C.toArray t (0, 0) h]
  simpa using hv
theorem range_block {w : World} {g : Nat} {C : List Value} {t : TypeId} (h : w.heap[g]? = some (.cells C.toArray t (0, 0))) (o : Nat) (cs : List Value) (hc : ∀ j v, cs[j]? = some v → C[o + j]? = some v) : w.rangeAt g o cs := fun j v hv =>
  block_cell h (o + j) v (hc j v hv)
theorem range_all {w : World} {g : Nat} {C : List Value} {t : TypeId} (h : w.heap[g]? = some (.cells C.toArray t (0, 0))) : w.rangeAt g 0 C := range_block h 0 C fun j v hv => by rwa [Nat.zero_add]
theorem ret_range {P : Program} {fn : Func} {p : Tmp} {ty : TypeId} (h : fn.results = #[.cell p ty]) {tmps : Array Value} {w : World} {g : Nat} {cs : List Value} {d : TypeDesc}
    (hp : tmps.getD p undef = .pointer (some ⟨g, 0, none⟩)) (hc : w.rangeAt g 0 cs) (hu : P.underlying ty = some d) (hd : d.isRow = true) (hi : (P.info? ty).map (·.size) = some cs.length) :
    (results fn tmps).run P w = .ok (.agg cs.toArray) w := by
  have hp' : tmps[p]?.getD undef = .pointer (some ⟨g, 0, none⟩) := by simpa using hp
  simp [results, h, hp', asAddr, run_loadVar_mid w g 0 ty cs d hc hu hd hi]
theorem ret_ct {P : Program} {fn : Func} {p q : Tmp} {ty : TypeId} (h : fn.results = #[.cell p ty, .tmp q]) {tmps : Array Value} {w : World} {g : Nat} {cs : List Value} {d : TypeDesc} {v : Value}
    (hp : tmps.getD p undef = .pointer (some ⟨g, 0, none⟩)) (hq : tmps.getD q undef = v) (hc : w.rangeAt g 0 cs) (hu : P.underlying ty = some d) (hd : d.isRow = true) (hi : (P.info? ty).map (·.size) = some cs.length) :
    (results fn tmps).run P w = .ok (.tuple #[.agg cs.toArray, v]) w := by
  have hp' : tmps[p]?.getD undef = .pointer (some ⟨g, 0, none⟩) := by simpa using hp
  have hq' : tmps[q]?.getD undef = v := by simpa using hq
  simp [results, h, hp', hq', asAddr, run_loadVar_mid w g 0 ty cs d hc hu hd hi]
theorem Tryd.is34 : (Tryd.prog.info? 34).map (·.size) = some 6 := by kernel_rfl
theorem Tryd.is29 : (Tryd.prog.info? 29).map (·.size) = some 2 := by kernel_rfl
theorem mayK_any (k : ByteArray) (w : World) : Calls Tryd.prog 44 #[.string k] w fun E w' => E = .returned (.bool (mayK k)) ∧ w = w' := by
  by_cases h1 : 1 ≤ k.size
  · have h1' : ¬ ((k.size : Int) < 1) := by omega
    by_cases h2 : k.size ≤ 32
    · go_enter Tryd.func44, Tryd.ntmps44
      go_wp2_with fail
      go_ret
      exact ⟨by simp [mayK, h1, h2] <;> omega, rfl⟩
    · go_enter Tryd.func44, Tryd.ntmps44
      go_wp2_with fail
      go_ret
      exact ⟨by simp [mayK, h1, h2] <;> omega, rfl⟩
  · go_enter Tryd.func44, Tryd.ntmps44
    go_wp2_with fail
    go_ret
    exact ⟨by simp [mayK, h1], rfl⟩
theorem mayV_any (k : ByteArray) (w : World) : Calls Tryd.prog 45 #[.string k] w fun E w' => E = .returned (.bool (mayV k)) ∧ w = w' := by
  go_enter Tryd.func45, Tryd.ntmps45
  go_wp2_with fail
  go_ret
  exact ⟨ret_dec (by omega), rfl⟩
theorem refused_any (e : Nat) (w : World) : Calls Tryd.prog 39 #[.int .i64 (e : Int)] w fun E w' => E = .returned (.agg #[.int .i64 (e : Int), .string ByteArray.empty]) ∧ Below w.heap.size w w' := by
  have HB : Hid (Below w.heap.size w (w.alloc (.cells #[.int .i64 (e : Int), .string ByteArray.empty] 29))) := Lib.hid ((Below.refl _ _).alloc (Nat.le_refl _) _)
  go_enter Tryd.func39, Tryd.ntmps39
  go_wp2_with fail
  (try simp only [Exit.inBlock, Exit.then]); refine bodyPost_ret (ret_range (g := w.heap.size) rfl rfl (range_all (C := [.int .i64 (e : Int), .string ByteArray.empty]) (heap_alloc_new w _)) Tryd.underlying29 rfl Tryd.is29) rfl ?_
  exact ⟨rfl, HB.out⟩

def OwnP (w : World) (x : MOp) (b : Bool) (E : Ending) (w' : World) : Prop := E = .returned (.tuple #[.agg (opC x).toArray, .bool b]) ∧ Below w.heap.size w w'
theorem two_new (w : World) (o1 : Obj) (C : List Value) (t : TypeId) : ((w.alloc o1).alloc (.cells C.toArray t)).heap[w.heap.size + 1]? = some (.cells C.toArray t (0, 0)) := by
  have := heap_alloc_new (w.alloc o1) (.cells C.toArray t)
  simpa using this
theorem own_1 (kk : UInt8) (key value old to : ByteArray) (am : Nat) (w : World) (hk : (kk.toNat : Int) = 1) : Calls Tryd.prog 46 #[.agg (opC ⟨kk, key, value, old, to, am⟩).toArray] w fun E w' => OwnP w (⟨kk, key, ByteArray.empty, ByteArray.empty, ByteArray.empty, 0⟩) (true) E w' := by
  dsimp only [opC]
  obtain ⟨K, hK⟩ : ∃ K : Int, K = kk.toNat := ⟨_, rfl⟩
  have HE := Lib.hid (show opC (⟨kk, key, ByteArray.empty, ByteArray.empty, ByteArray.empty, 0⟩) = [.int .u8 K, .string key, .string ByteArray.empty, .string ByteArray.empty, .string ByteArray.empty, .int .u64 0] by rw [hK]; rfl)
  have HB : ∀ o1 o2, Hid (Below w.heap.size w ((w.alloc o1).alloc o2)) := fun _ _ => Lib.hid (((Below.refl _ _).alloc (Nat.le_refl _) _).alloc (by simp) _)
  rw [← hK] at hk ⊢
  clear hK
  subst hk
  go_enter Tryd.func46, Tryd.ntmps46
  go_wp2_with fail
  all_goals ((try simp only [Exit.inBlock, Exit.then]); refine bodyPost_ret (ret_ct (g := w.heap.size + 1) (cs := [.int .u8 _, .string key, .string ByteArray.empty, .string ByteArray.empty, .string ByteArray.empty, .int .u64 0]) rfl rfl rfl (range_all (two_new w _ _ _)) Tryd.underlying34 rfl Tryd.is34) rfl ?_)
  all_goals exact ⟨by rw [HE.out]; rfl, (HB _ _).out⟩
theorem own_3 (kk : UInt8) (key value old to : ByteArray) (am : Nat) (w : World) (hk : (kk.toNat : Int) = 3) : Calls Tryd.prog 46 #[.agg (opC ⟨kk, key, value, old, to, am⟩).toArray] w fun E w' => OwnP w (⟨kk, key, ByteArray.empty, ByteArray.empty, ByteArray.empty, 0⟩) (true) E w' := by
  dsimp only [opC]
  obtain ⟨K, hK⟩ : ∃ K : Int, K = kk.toNat := ⟨_, rfl⟩
  have HE := Lib.hid (show opC (⟨kk, key, ByteArray.empty, ByteArray.empty, ByteArray.empty, 0⟩) = [.int .u8 K, .string key, .string ByteArray.empty, .string ByteArray.empty, .string ByteArray.empty, .int .u64 0] by rw [hK]; rfl)
  have HB : ∀ o1 o2, Hid (Below w.heap.size w ((w.alloc o1).alloc o2)) := fun _ _ => Lib.hid (((Below.refl _ _).alloc (Nat.le_refl _) _).alloc (by simp) _)
  rw [← hK] at hk ⊢
  clear hK
  subst hk
  go_enter Tryd.func46, Tryd.ntmps46
  go_wp2_with fail
  all_goals ((try simp only [Exit.inBlock, Exit.then]); refine bodyPost_ret (ret_ct (g := w.heap.size + 1) (cs := [.int .u8 _, .string key, .string ByteArray.empty, .string ByteArray.empty, .string ByteArray.empty, .int .u64 0]) rfl rfl rfl (range_all (two_new w _ _ _)) Tryd.underlying34 rfl Tryd.is34) rfl ?_)
  all_goals exact ⟨by rw [HE.out]; rfl, (HB _ _).out⟩
theorem own_2 (kk : UInt8) (key value old to : ByteArray) (am : Nat) (w : World) (hk : (kk.toNat : Int) = 2) : Calls Tryd.prog 46 #[.agg (opC ⟨kk, key, value, old, to, am⟩).toArray] w fun E w' => OwnP w (⟨kk, key, value, ByteArray.empty, ByteArray.empty, 0⟩) (mayV value) E w' := by
  dsimp only [opC]
  obtain ⟨K, hK⟩ : ∃ K : Int, K = kk.toNat := ⟨_, rfl⟩
  have HE := Lib.hid (show opC (⟨kk, key, value, ByteArray.empty, ByteArray.empty, 0⟩) = [.int .u8 K, .string key, .string value, .string ByteArray.empty, .string ByteArray.empty, .int .u64 0] by rw [hK]; rfl)
  have HB : ∀ o1 o2, Hid (Below w.heap.size w ((w.alloc o1).alloc o2)) := fun _ _ => Lib.hid (((Below.refl _ _).alloc (Nat.le_refl _) _).alloc (by simp) _)
  rw [← hK] at hk ⊢
  clear hK
  subst hk
  have HV := fun W => mayV_any value W
  obtain ⟨z, hz⟩ : ∃ z, z = mayV value := ⟨_, rfl⟩
  rw [← hz] at HV ⊢
  clear hz
  go_enter Tryd.func46, Tryd.ntmps46
  go_wp2_with fail
  go_region_with (go_at_call 45; refine (HV _).mono ?_; rintro E w1 ⟨rfl, rfl⟩)
  all_goals go_wp2_with fail
  all_goals ((try simp only [Exit.inBlock, Exit.then]); refine bodyPost_ret (ret_ct (g := w.heap.size + 1) (cs := [.int .u8 _, .string key, .string value, .string ByteArray.empty, .string ByteArray.empty, .int .u64 0]) rfl rfl rfl (range_all (two_new w _ _ _)) Tryd.underlying34 rfl Tryd.is34) rfl ?_)
  all_goals exact ⟨by rw [HE.out]; rfl, (by first | exact below_drewN (HB _ _).out _ | exact below_drewN (below_drewN (HB _ _).out _) _)⟩
theorem own_no (kk : UInt8) (key value old to : ByteArray) (am : Nat) (w : World) (hk : ¬ ((kk.toNat : Int) = 1) ∧ ¬ ((kk.toNat : Int) = 2) ∧ ¬ ((kk.toNat : Int) = 3) ∧ ¬ ((kk.toNat : Int) = 4) ∧ ¬ ((kk.toNat : Int) = 5)) : Calls Tryd.prog 46 #[.agg (opC ⟨kk, key, value, old, to, am⟩).toArray] w fun E w' => OwnP w (⟨kk, key, ByteArray.empty, ByteArray.empty, ByteArray.empty, 0⟩) (false) E w' := by
  dsimp only [opC]
  obtain ⟨K, hK⟩ : ∃ K : Int, K = kk.toNat := ⟨_, rfl⟩
  have HE := Lib.hid (show opC (⟨kk, key, ByteArray.empty, ByteArray.empty, ByteArray.empty, 0⟩) = [.int .u8 K, .string key, .string ByteArray.empty, .string ByteArray.empty, .string ByteArray.empty, .int .u64 0] by rw [hK]; rfl)
  have HB : ∀ o1 o2, Hid (Below w.heap.size w ((w.alloc o1).alloc o2)) := fun _ _ => Lib.hid (((Below.refl _ _).alloc (Nat.le_refl _) _).alloc (by simp) _)
  rw [← hK] at hk ⊢
  clear hK
  obtain ⟨h1, h2, h3, h4, h5⟩ := hk
  go_enter Tryd.func46, Tryd.ntmps46
  go_wp2_with fail
  all_goals ((try simp only [Exit.inBlock, Exit.then]); refine bodyPost_ret (ret_ct (g := w.heap.size + 1) (cs := [.int .u8 _, .string key, .string ByteArray.empty, .string ByteArray.empty, .string ByteArray.empty, .int .u64 0]) rfl rfl rfl (range_all (two_new w _ _ _)) Tryd.underlying34 rfl Tryd.is34) rfl ?_)
  all_goals exact ⟨by rw [HE.out]; rfl, (HB _ _).out⟩
open Go.RowKit
set_option maxRecDepth 100000
def sA : ByteArray := ⟨#[97]⟩
def sB : ByteArray := ⟨#[98]⟩
def s10 : ByteArray := ⟨#[49, 48]⟩
def s6 : ByteArray := ⟨#[54]⟩
def s4 : ByteArray := ⟨#[52]⟩
def s3 : ByteArray := ⟨#[51]⟩
def sX : ByteArray := ⟨#[120]⟩
def sE : ByteArray := ⟨#[]⟩
def o1 : MOp := ⟨2, sA, s10, sE, sE, 0⟩
def o2 : MOp := ⟨5, sA, sE, sE, sB, 4⟩
def o3 : MOp := ⟨1, sB, sE, sE, sE, 0⟩
def o4 : MOp := ⟨5, sB, sE, sE, sA, 5⟩
def o5 : MOp := ⟨4, sB, sX, s3, sE, 0⟩
theorem w1 : doR [] o1 = (no 0, [(sA, s10)]) := by decide +kernel
theorem w2 : doR [(sA, s10)] o2 = ((0, s6), [(sA, s6), (sB, s4)]) := by decide +kernel
theorem w3 : doR [(sA, s6), (sB, s4)] o3 = ((0, s4), [(sA, s6), (sB, s4)]) := by decide +kernel
theorem w4 : doR [(sA, s6), (sB, s4)] o4 = ((14, s4), [(sA, s6), (sB, s4)]) := by decide +kernel
theorem w5 : doR [(sA, s6), (sB, s4)] o5 = ((15, s4), [(sA, s6), (sB, s4)]) := by decide +kernel
end Go.Proofs.YtpageppjngbnpaaDoor
