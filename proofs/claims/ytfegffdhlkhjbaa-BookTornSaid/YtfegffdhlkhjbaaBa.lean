/-
  What is proved: plain facts on a book's pages and records: what is read from a disk's sectors, and what is put there. Conditions as stated.
-/
import Derived.Test.YtfegffdhlkhjbaaCw
import Derived.Test.YtfegffdhlkhjbaaCt
import Derived.Test.YtfegffdhlkhjbaaCq
namespace Go.Proofs.Ytfegffdhlkhjbaa
open Go.RowKit
set_option maxRecDepth 100000

/-- How many pages a record of n bytes has. -/
def pagesN (n : Nat) : Nat := (n + 109) / 108
theorem pagesN_pos (n : Nat) : 1 ≤ pagesN n := by unfold pagesN; omega
theorem pagesN_le (n : Nat) (h : n ≤ 4096) : pagesN n ≤ 38 := by unfold pagesN; omega
theorem pagesN_room (n : Nat) : n + 2 ≤ 108 * pagesN n := by unfold pagesN; omega

/-- What a page's head says: the life, the record's number, the page's, how many pages. -/
def headOf (X : List UInt8) : Nat × Nat × Nat × Nat := (Oct.num (X.take 8), Oct.num ((X.drop 8).take 8), Oct.num ((X.drop 16).take 2), Oct.num ((X.drop 18).take 2))
def headAt (s : Dk) (y : Int) : Nat × Nat × Nat × Nat := if (s.read y).2 ≠ 0 then (0, 0, 0, 0) else headOf (s.read y).1
def partAt (s : Dk) (y : Int) : List UInt8 := if (s.read y).2 ≠ 0 then [] else (s.read y).1.drop 20
/-- The first k of the p pages of record n of life l, from y on: what stands in them. -/
def recGo (s : Dk) (y : Int) (l n p : Nat) : Nat → Option (List UInt8)
  | 0 => some []
  | k + 1 => match recGo s y l n p k with
    | none => none
    | some a => if headAt s (y + k) = (l, n, k, p) then some (a ++ partAt s (y + k)) else none
theorem recGo_none {s : Dk} {y : Int} {l n p k : Nat} (h : recGo s y l n p k = none) : ∀ j, recGo s y l n p (k + j) = none
  | 0 => h
  | j + 1 => by rw [← Nat.add_assoc, recGo, recGo_none h j]
/-- The record of which the pages' parts tell. -/
def contentB (all : List UInt8) : Option (List UInt8) :=
  if 4096 < Oct.num (all.take 2) ∨ all.length ≠ 108 * pagesN (Oct.num (all.take 2)) then none else if noughts (all.drop (2 + Oct.num (all.take 2))) then some ((all.drop 2).take (Oct.num (all.take 2))) else none
def recAt (s : Dk) (y left : Int) (l n p : Nat) : Option (List UInt8) := if left < p then none else match recGo s y l n p p with
  | none => none
  | some a => contentB a
/-- The next record: its bytes, its life, its pages. -/
def nextAt (s : Dk) (E : Int) (M : Nat) (y : Int) (cnt ahead : Nat) : Option (List UInt8 × Nat × Nat) :=
  if (headAt s y).1 < ahead ∨ M < (headAt s y).1 then none else (recAt s y (E - y) (headAt s y).1 (cnt + 1) (headAt s y).2.2.2).map fun r => (r, (headAt s y).1, (headAt s y).2.2.2)
/-- So many steps on, at most: the sector behind the last one, and all records. -/
def goRec (s : Dk) (E : Int) (M : Nat) : Nat → Int → Nat → List (List UInt8) → Int × List (List UInt8)
  | 0, y, _, rs => (y, rs)
  | f + 1, y, a, rs => match nextAt s E M y rs.length a with
    | none => (y, rs)
    | some q => goRec s E M f (y + q.2.2) q.2.1 (rs ++ [q.1])
def readAll (s : Dk) (y E : Int) (M : Nat) : Int × List (List UInt8) := goRec s E M ((E - y).toNat + 1) y 1 []

theorem headOf_lt (X : List UInt8) : (headOf X).1 < 18446744073709551616 ∧ (headOf X).2.1 < 18446744073709551616 ∧ (headOf X).2.2.1 < 65536 ∧ (headOf X).2.2.2 < 65536 := by
  have h8 : ∀ Y : List UInt8, Oct.num (Y.take 8) < 18446744073709551616 := fun Y => cnt_lt Y
  have h2 : ∀ Y : List UInt8, Oct.num (Y.take 2) < 65536 := fun Y => by
    have h := Oct.num_lt (Y.take 2).length (Y.take 2) rfl
    have hl : (Y.take 2).length ≤ 2 := by rw [List.length_take]; omega
    exact Nat.lt_of_lt_of_le h (Nat.pow_le_pow_right (by omega) hl)
  exact ⟨h8 _, h8 _, h2 _, h2 _⟩
theorem headAt_lt (s : Dk) (y : Int) : (headAt s y).1 < 18446744073709551616 ∧ (headAt s y).2.1 < 18446744073709551616 ∧ (headAt s y).2.2.1 < 65536 ∧ (headAt s y).2.2.2 < 65536 := by
  unfold headAt
  split
  · decide
  · exact headOf_lt _

theorem contentB_len {all r : List UInt8} (h : contentB all = some r) : all.length = 108 * pagesN r.length ∧ r.length ≤ 4096 := by
  unfold contentB at h
  split at h
  · cases h
  · rename_i hn
    split at h
    · injection h with h
      have h1 : Oct.num (all.take 2) ≤ 4096 := by omega
      have h2 : all.length = 108 * pagesN (Oct.num (all.take 2)) := by omega
      have h3 := pagesN_room (Oct.num (all.take 2))
      have e : r.length = Oct.num (all.take 2) := by rw [← h, List.length_take, List.length_drop]; omega
      rw [e]
      exact ⟨h2, h1⟩
    · cases h
theorem recGo_len {s : Dk} (hl : ∀ y, (s.read y).1.length = 128) {y : Int} {l n p : Nat} (h0 : 0 < l) : ∀ {k : Nat} {a : List UInt8}, recGo s y l n p k = some a → a.length = 108 * k
  | 0, a, h => by injection h with h; rw [← h]; rfl
  | k + 1, a, h => by
    rw [recGo] at h
    cases hq : recGo s y l n p k with
    | none => rw [hq] at h; cases h
    | some b =>
      rw [hq] at h
      simp only at h
      split at h
      · rename_i hh
        injection h with h
        have hb := recGo_len hl h0 hq
        have hp : (partAt s (y + k)).length = 108 := by
          unfold partAt
          unfold headAt at hh
          split
          · rename_i he
            rw [if_pos he] at hh
            injection hh with h1
            omega
          · rw [List.length_drop, hl]
        rw [← h, List.length_append, hb, hp]
        omega
      · cases h
/-- A record has just as many pages as it needs. -/
theorem recAt_pages {s : Dk} (hl : ∀ y, (s.read y).1.length = 128) {y left : Int} {l n p : Nat} (h0 : 0 < l) {r : List UInt8} (h : recAt s y left l n p = some r) : p = pagesN r.length ∧ r.length ≤ 4096 ∧ (p : Int) ≤ left := by
  unfold recAt at h
  split at h
  · cases h
  · rename_i hp
    split at h
    · cases h
    · rename_i a ha
      have h1 := recGo_len hl h0 ha
      obtain ⟨h2, h3⟩ := contentB_len h
      exact ⟨by omega, h3, by omega⟩
theorem nextAt_some {s : Dk} (hl : ∀ y, (s.read y).1.length = 128) {E : Int} {M : Nat} {y : Int} {cnt ahead : Nat} (ha : 0 < ahead) {q : List UInt8 × Nat × Nat} (h : nextAt s E M y cnt ahead = some q) :
    ahead ≤ q.2.1 ∧ q.2.1 ≤ M ∧ q.2.1 = (headAt s y).1 ∧ q.2.2 = (headAt s y).2.2.2 ∧ recAt s y (E - y) q.2.1 (cnt + 1) q.2.2 = some q.1 ∧ q.2.2 = pagesN q.1.length ∧ q.1.length ≤ 4096 ∧ (q.2.2 : Int) ≤ E - y := by
  unfold nextAt at h
  split at h
  · cases h
  · rename_i hn
    obtain ⟨r, hr, hq⟩ := Option.map_eq_some_iff.1 h
    have hq' := recAt_pages hl (by omega) hr
    subst hq
    exact ⟨by simp only; omega, by simp only; omega, rfl, rfl, hr, hq'⟩

/-! ### what is put -/
def recRow (r : List UInt8) : List UInt8 := Oct.be 2 r.length ++ r
theorem recRow_length (r : List UInt8) : (recRow r).length = r.length + 2 := by simp only [recRow, List.length_append, Oct.be_length]; omega
def headB (l n k p : Nat) : List UInt8 := Oct.be 8 l ++ Oct.be 8 n ++ Oct.be 2 k ++ Oct.be 2 p
theorem headB_length (l n k p : Nat) : (headB l n k p).length = 20 := by simp [headB, Oct.be_length]
def partB (r : List UInt8) (k : Nat) : List UInt8 := ((recRow r).drop (108 * k)).take 108
theorem partB_le (r : List UInt8) (k : Nat) : (partB r k).length ≤ 108 := by unfold partB; rw [List.length_take]; omega
/-- Page k of p of a record. -/
def pageB (l n p k : Nat) (r : List UInt8) : List UInt8 := headB l n k p ++ (partB r k ++ List.replicate (108 - (partB r k).length) 0)
theorem pageB_length (l n p k : Nat) (r : List UInt8) : (pageB l n p k r).length = 128 := by
  have := partB_le r k
  simp only [pageB, List.length_append, headB_length, List.length_replicate]
  omega
theorem headOf_pageB {l n p k : Nat} {r : List UInt8} (hl : l < 18446744073709551616) (hn : n < 18446744073709551616) (hk : k < 65536) (hp : p < 65536) : headOf (pageB l n p k r) = (l, n, k, p) := by
  obtain ⟨R, hR⟩ : ∃ R, R = partB r k ++ List.replicate (108 - (partB r k).length) 0 := ⟨_, rfl⟩
  have e1 : pageB l n p k r = Oct.be 8 l ++ (Oct.be 8 n ++ (Oct.be 2 k ++ (Oct.be 2 p ++ R))) := by rw [pageB, headB, ← hR]; simp only [List.append_assoc]
  have d : ∀ (m : Nat) (A B : List UInt8), A.length = m → (A ++ B).drop m = B ∧ (A ++ B).take m = A := fun m A B h => by subst h; exact ⟨List.drop_left, List.take_left⟩
  have b8 : ∀ m, (Oct.be 8 m).length = 8 := fun m => Oct.be_length 8 m
  have b2 : ∀ m, (Oct.be 2 m).length = 2 := fun m => Oct.be_length 2 m
  unfold headOf
  rw [show ∀ Y : List UInt8, Y.drop 18 = ((Y.drop 8).drop 8).drop 2 from fun Y => by rw [List.drop_drop, List.drop_drop], show ∀ Y : List UInt8, Y.drop 16 = (Y.drop 8).drop 8 from fun Y => by rw [List.drop_drop], e1,
    (d 8 _ _ (b8 l)).1, (d 8 _ _ (b8 l)).2, (d 8 _ _ (b8 n)).1, (d 8 _ _ (b8 n)).2, (d 2 _ _ (b2 k)).1, (d 2 _ _ (b2 k)).2, (d 2 _ _ (b2 p)).2, num_be 8 l hl, num_be 8 n hn, num_be 2 k hk, num_be 2 p hp]
theorem drop_pageB (l n p k : Nat) (r : List UInt8) : (pageB l n p k r).drop 20 = partB r k ++ List.replicate (108 - (partB r k).length) 0 := by
  unfold pageB
  rw [List.drop_append, headB_length, List.drop_of_length_le (by rw [headB_length]; omega)]
  rfl
/-- All of a record's pages behind their heads. -/
def padB (r : List UInt8) : List UInt8 := recRow r ++ List.replicate (108 * pagesN r.length - (recRow r).length) 0
theorem padB_length (r : List UInt8) : (padB r).length = 108 * pagesN r.length := by
  have := recRow_length r
  have := pagesN_room r.length
  simp only [padB, List.length_append, List.length_replicate]
  omega
theorem part_padB (r : List UInt8) (k : Nat) (hk : k < pagesN r.length) : partB r k ++ List.replicate (108 - (partB r k).length) 0 = ((padB r).drop (108 * k)).take 108 := by
  have hl := recRow_length r
  unfold partB padB
  apply List.ext_getElem?
  intro j
  simp only [List.getElem?_append, List.length_take, List.length_drop, List.getElem?_take, List.getElem?_drop, List.getElem?_replicate]
  by_cases h1 : j < 108
  · by_cases h2 : 108 * k + j < (recRow r).length
    · rw [if_pos (by omega), if_pos (by omega), if_pos (by omega), if_pos (by omega)]
    · rw [if_neg (by omega), if_pos (by omega), if_pos (by omega), if_neg (by omega), if_pos (by omega)]
  · rw [if_neg (by omega), if_neg (by omega), if_neg (by omega)]
theorem contentB_padB (r : List UInt8) (h : r.length ≤ 4096) : contentB (padB r) = some r := by
  have h2 : (padB r).take 2 = Oct.be 2 r.length := by
    unfold padB recRow
    rw [List.append_assoc, List.take_append_of_le_length (by rw [Oct.be_length]; omega), List.take_of_length_le (by rw [Oct.be_length]; omega)]
  have hn : Oct.num (Oct.be 2 r.length) = r.length := num_be 2 _ (by omega)
  have hd : (padB r).drop 2 = r ++ List.replicate (108 * pagesN r.length - (recRow r).length) 0 := by
    unfold padB recRow
    rw [List.append_assoc, List.drop_append, Oct.be_length, List.drop_of_length_le (by rw [Oct.be_length]; omega)]
    rfl
  unfold contentB
  rw [h2, hn, if_neg (by rw [padB_length]; omega), ← List.drop_drop, hd, List.drop_append, List.drop_of_length_le (Nat.le_refl _), Nat.sub_self, List.drop_zero, List.nil_append, if_pos (by simp [noughts]), List.take_append_of_le_length (Nat.le_refl _), List.take_length]

/-! ### records that stand -/
/-- Record number n of life l stands at y, whole. -/
def RecIs (s : Dk) (y : Int) (l n : Nat) (r : List UInt8) : Prop := ∀ k : Nat, k < pagesN r.length → s.read (y + k) = (pageB l n (pagesN r.length) k r, 0)
theorem headAt_is {s : Dk} {y : Int} {l n p k : Nat} {r : List UInt8} (h : s.read y = (pageB l n p k r, 0)) (hl : l < 18446744073709551616) (hn : n < 18446744073709551616) (hk : k < 65536) (hp : p < 65536) :
    headAt s y = (l, n, k, p) ∧ partAt s y = partB r k ++ List.replicate (108 - (partB r k).length) 0 := by
  unfold headAt partAt
  rw [h, if_neg (by simp), if_neg (by simp)]
  exact ⟨headOf_pageB hl hn hk hp, drop_pageB _ _ _ _ _⟩
theorem recGo_is {s : Dk} {y : Int} {l n : Nat} {r : List UInt8} (h : RecIs s y l n r) (hl : l < 18446744073709551616) (hn : n < 18446744073709551616) (hr : r.length ≤ 4096) : ∀ k, k ≤ pagesN r.length → recGo s y l n (pagesN r.length) k = some ((padB r).take (108 * k))
  | 0, _ => by simp [recGo]
  | k + 1, hk => by
    have hp := pagesN_le r.length hr
    obtain ⟨h1, h2⟩ := headAt_is (h k (by omega)) hl hn (by omega) (by omega)
    rw [recGo, recGo_is h hl hn hr k (by omega)]
    simp only
    rw [if_pos h1, h2, part_padB r k (by omega), ← List.take_add]
    rfl
theorem recAt_is {s : Dk} {y left : Int} {l n : Nat} {r : List UInt8} (h : RecIs s y l n r) (hl : l < 18446744073709551616) (hn : n < 18446744073709551616) (hr : r.length ≤ 4096) (hp : (pagesN r.length : Int) ≤ left) : recAt s y left l n (pagesN r.length) = some r := by
  unfold recAt
  rw [if_neg (by omega), recGo_is h hl hn hr _ (Nat.le_refl _)]
  simp only
  rw [List.take_of_length_le (by rw [padB_length]; omega), contentB_padB r hr]
theorem nextAt_is {s : Dk} {E : Int} {M : Nat} {y : Int} {cnt ahead l : Nat} {r : List UInt8} (h : RecIs s y l (cnt + 1) r) (hl : l < 18446744073709551616) (hn : cnt + 1 < 18446744073709551616) (hr : r.length ≤ 4096) (hp : (pagesN r.length : Int) ≤ E - y) (ha : ahead ≤ l) (hM : l ≤ M) :
    nextAt s E M y cnt ahead = some (r, l, pagesN r.length) := by
  have h0 := h 0 (pagesN_pos _)
  rw [show y + ((0 : Nat) : Int) = y by omega] at h0
  have hpl := pagesN_le r.length hr
  obtain ⟨h1, _⟩ := headAt_is h0 hl hn (by omega) (by omega)
  unfold nextAt
  rw [h1, if_neg (by simp only; omega)]
  simp only
  rw [recAt_is h hl hn hr hp]
  rfl
end Go.Proofs.Ytfegffdhlkhjbaa
