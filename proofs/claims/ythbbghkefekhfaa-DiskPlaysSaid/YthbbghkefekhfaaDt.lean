/-
  What is proved: what sectors have behind sure and loose writes (on lists, no memory); sixteen sectors in a row. Conditions as stated.
-/
import Derived.Test.YthbbghkefekhfaaDp
namespace Go.Proofs.Ythbbghkefekhfaa
open Go.RowKit

def pr (p : UInt8 × UInt8) : Int × List UInt8 := ((p.1.toNat % 16 : Nat), secOf p.2)
/-- What sector x has behind these writes. -/
def wasOf (l : List (UInt8 × UInt8)) (x : Nat) : List UInt8 := match lastW (l.map pr) x with | some b => b | none => zeros
theorem wasOf_snoc (l : List (UInt8 × UInt8)) (p : UInt8 × UInt8) (x : Nat) : wasOf (l ++ [p]) x = if x = p.1.toNat % 16 then secOf p.2 else wasOf l x := by
  unfold wasOf
  rw [List.map_append, List.map_cons, List.map_nil]
  show (match lastW (l.map pr ++ [(((p.1.toNat % 16 : Nat) : Int), secOf p.2)]) x with | some b => b | none => zeros) = _
  rw [lastW_snoc]
  by_cases h : x = p.1.toNat % 16
  · rw [if_pos (by omega), if_pos h]
  · rw [if_neg (by omega), if_neg h]
theorem lastW_mem (x : Int) (b : List UInt8) : ∀ l : List (Int × List UInt8), lastW l x = some b → (x, b) ∈ l
  | [], h => by cases h
  | p :: r, h => by
    rw [lastW] at h
    cases hr : lastW r x with
    | some c =>
      rw [hr] at h
      injection h with h
      subst h
      exact List.mem_cons_of_mem _ (lastW_mem x _ r hr)
    | none =>
      rw [hr] at h
      simp only at h
      split at h
      · injection h with h
        subst h
        rename_i e
        subst e
        exact List.mem_cons_self
      · cases h
theorem wasOf_length (l : List (UInt8 × UInt8)) (x : Nat) : (wasOf l x).length = 128 := by
  unfold wasOf
  cases h : lastW (l.map pr) x with
  | some b =>
    obtain ⟨p, _, e⟩ := List.mem_map.1 (lastW_mem _ _ _ h)
    injection e with _ e
    rw [← e]
    exact secOf_length _
  | none => rfl
def rows (l : List (UInt8 × UInt8)) : List (List UInt8) := (List.range 16).map (wasOf l)
theorem rows_length (l : List (UInt8 × UInt8)) : (rows l).length = 16 := by simp [rows]
theorem rows_next (l : List (UInt8 × UInt8)) (p : UInt8 × UInt8) : (rows l).set (p.1.toNat % 16) (secOf p.2) = rows (l ++ [p]) := by
  apply List.ext_getElem (by simp [rows])
  intro i h1 h2
  have hi : i < 16 := by simpa [rows] using h2
  rw [List.getElem_set]
  simp only [rows, List.getElem_map, List.getElem_range]
  rw [wasOf_snoc]
  by_cases h : p.1.toNat % 16 = i
  · rw [if_pos h, if_pos h.symm]
  · rw [if_neg h, if_neg (fun e => h e.symm)]
def flat (ws : List (List UInt8)) : List Value := ws.flatMap u8s
theorem flat_length : ∀ ws : List (List UInt8), (∀ r ∈ ws, r.length = 128) → (flat ws).length = 128 * ws.length
  | [], _ => rfl
  | r :: ws, h => by
    rw [flat, List.flatMap_cons, List.length_append, u8s_length, h r (by simp)]
    have := flat_length ws (fun r hr => h r (by simp [hr]))
    rw [flat] at this
    rw [this, List.length_cons]
    omega
theorem flat_split (ws : List (List UInt8)) (a : Nat) (ha : a < ws.length) : flat ws = flat (ws.take a) ++ (u8s ws[a] ++ flat (ws.drop (a + 1))) := by
  have : ws = ws.take a ++ (ws[a] :: ws.drop (a + 1)) := by rw [← List.drop_eq_getElem_cons ha, List.take_append_drop]
  have e : flat ws = flat (ws.take a ++ (ws[a] :: ws.drop (a + 1))) := congrArg flat this
  rw [e]
  simp only [flat, List.flatMap_append, List.flatMap_cons]
theorem flat_set (ws : List (List UInt8)) (h : ∀ r ∈ ws, r.length = 128) (a : Nat) (ha : a < ws.length) (b : List UInt8) (hb : b.length = 128) : setAll (flat ws) (128 * a) (u8s b) = flat (ws.set a b) := by
  have hl : (flat (ws.take a)).length = 128 * a := by
    rw [flat_length _ (fun r hr => h r (List.mem_of_mem_take hr)), List.length_take, Nat.min_eq_left (by omega)]
  rw [flat_split ws a ha, ← hl, setAll_mid (u8s b) _ (u8s ws[a]) _ (by rw [u8s_length, u8s_length, hb, h _ (List.getElem_mem ha)])]
  rw [flat_split (ws.set a b) a (by simpa using ha)]
  simp [List.take_set, List.drop_set]
  rw [List.set_eq_of_length_le (by simp; omega)]
theorem flat_at128 (ws : List (List UInt8)) (h : ∀ r ∈ ws, r.length = 128) (a : Nat) (ha : a < ws.length) (j : Nat) (v : Value) (hv : (u8s ws[a])[j]? = some v) : (flat ws)[128 * a + j]? = some v := by
  have hl : (flat (ws.take a)).length = 128 * a := by
    rw [flat_length _ (fun r hr => h r (List.mem_of_mem_take hr)), List.length_take, Nat.min_eq_left (by omega)]
  rw [flat_split ws a ha, List.getElem?_append_right (by omega), hl, show 128 * a + j - 128 * a = j by omega, List.getElem?_append_left (List.getElem?_eq_some_iff.1 hv).1]
  exact hv
theorem rows_len (l : List (UInt8 × UInt8)) : ∀ r ∈ rows l, r.length = 128 := fun r hr => by
  obtain ⟨x, _, rfl⟩ := List.mem_map.1 hr
  exact wasOf_length l x

/-! ### the disk -/
def suS (l : List (UInt8 × UInt8)) : Dk := ⟨false, none, fun _ => some zeros, l.map pr⟩
theorem refuses_pr (s : Dk) (h : s.off = false) (p : UInt8 × UInt8) : s.refuses (pr p).1 = 0 := by
  unfold Dk.refuses
  rw [h]
  simp only [Bool.false_eq_true, if_false]
  rw [if_neg (by simp only [pr]; omega)]
theorem write_pr (s : Dk) (h : s.off = false) (hf : s.fuse = none) (p : UInt8 × UInt8) : s.write (pr p).1 (pr p).2 = ({ s with loose := s.loose ++ [pr p] }, 0) := by
  unfold Dk.write
  rw [if_neg (by rw [refuses_pr s h]; simp)]
  unfold Dk.burn
  simp only [hf]
theorem suS_next (l : List (UInt8 × UInt8)) (p : UInt8 × UInt8) : (suS l).write (pr p).1 (pr p).2 = (suS (l ++ [p]), 0) := by
  rw [write_pr _ rfl rfl]
  simp [suS]
def sureV (l : List (UInt8 × UInt8)) : Int → Option (List UInt8) := settled (fun _ => 1) 0 (fun _ => some zeros) (l.map pr)
def soS (l m : List (UInt8 × UInt8)) : Dk := ⟨false, none, sureV l, m.map pr⟩
theorem suS_sync (l : List (UInt8 × UInt8)) : (suS l).sync = (soS l [], 0) := rfl
theorem soS_next (l m : List (UInt8 × UInt8)) (p : UInt8 × UInt8) : (soS l m).write (pr p).1 (pr p).2 = (soS l (m ++ [p]), 0) := by
  rw [write_pr _ rfl rfl]
  simp [soS]
def enS (l m : List (UInt8 × UInt8)) (ps : List UInt8) : Dk := ⟨false, none, settled (fun i => (ps.getD i 0).toNat) 0 (sureV l) (m.map pr), []⟩
theorem soS_on (l m : List (UInt8 × UInt8)) (ps : List UInt8) : (soS l m).offed.on ps = (enS l m ps, 0) := rfl
theorem soS_read0 (l m : List (UInt8 × UInt8)) : (soS l m).offed.read 0 = (zeros, 8) := rfl
theorem sureV_is (l : List (UInt8 × UInt8)) (x : Nat) : sureV l x = some (wasOf l x) := by
  unfold sureV wasOf
  rw [settled_one]
  cases lastW (l.map pr) x <;> rfl
/-- What a sector is behind the power. -/
theorem settled_mem (t : Nat → Nat) (x : Int) : ∀ (l : List (Int × List UInt8)) (i : Nat) (f : Int → Option (List UInt8)), settled t i f l x = f x ∨ (∃ b, (x, b) ∈ l ∧ settled t i f l x = some b) ∨ ((∃ b, (x, b) ∈ l) ∧ settled t i f l x = none)
  | [], _, _ => .inl rfl
  | q :: r, i, f => by
    rw [settled]
    rcases settled_mem t x r (i + 1) (done f q (t i)) with h | ⟨b, h1, h2⟩ | ⟨⟨b, h1⟩, h2⟩
    · rw [h]
      unfold done
      by_cases hx : x = q.1
      · subst hx
        split
        · exact .inl rfl
        · split
          · exact .inr (.inr ⟨⟨q.2, by simp⟩, upd_same _ _ _⟩)
          · exact .inr (.inl ⟨q.2, by simp, upd_same _ _ _⟩)
      · split
        · exact .inl rfl
        · split
          · exact .inl (upd_other _ _ hx)
          · exact .inl (upd_other _ _ hx)
    · exact .inr (.inl ⟨b, List.mem_cons_of_mem _ h1, h2⟩)
    · exact .inr (.inr ⟨⟨b, List.mem_cons_of_mem _ h1⟩, h2⟩)
def cOf (l m : List (UInt8 × UInt8)) (ps : List UInt8) (x : Nat) : Option (List UInt8) := settled (fun i => (ps.getD i 0).toNat) 0 (sureV l) (m.map pr) x
theorem enS_read (l m : List (UInt8 × UInt8)) (ps : List UInt8) (x : Nat) (hx : x < 16) : (enS l m ps).read x = (wOf (cOf l m ps x), eOf (cOf l m ps x)) := by
  have hr : (enS l m ps).refuses x = 0 := by
    show (if False then (8 : Int) else if (x : Int) < 0 ∨ 32768 ≤ (x : Int) then 1 else 0) = 0
    rw [if_neg (by simp), if_neg (by omega)]
  unfold Dk.read
  rw [if_neg (by rw [hr]; simp)]
  show (match cOf l m ps x with | some b => (b, (0 : Int)) | none => (zeros, 9)) = _
  cases cOf l m ps x <;> rfl
/-- Is it fine, as far as k loose writes tell? -/
def fine (l m : List (UInt8 × UInt8)) (c : Option (List UInt8)) (x k : Nat) : Bool :=
  decide (c = some (wasOf l x)) || (m.take k).any fun p => decide (p.1.toNat % 16 = x) && (decide (c = some (secOf p.2)) || decide (c = none))
theorem fine_next (l m : List (UInt8 × UInt8)) (c : Option (List UInt8)) (x k : Nat) (p : UInt8 × UInt8) (hp : m[k]? = some p) : fine l m c x (k + 1) = (fine l m c x k || (decide (p.1.toNat % 16 = x) && (decide (c = some (secOf p.2)) || decide (c = none)))) := by
  unfold fine
  rw [List.take_add_one, hp]
  simp [List.any_append, Bool.or_assoc]
theorem fine_end (l m : List (UInt8 × UInt8)) (ps : List UInt8) (x : Nat) : fine l m (cOf l m ps x) x m.length = true := by
  unfold fine
  rw [List.take_of_length_le (Nat.le_refl _), Bool.or_eq_true]
  rcases settled_mem (fun i => (ps.getD i 0).toNat) x (m.map pr) 0 (sureV l) with h | ⟨b, h1, h2⟩ | ⟨⟨b, h1⟩, h2⟩
  · left
    exact decide_eq_true (h.trans (sureV_is l x))
  · right
    obtain ⟨p, hp, e⟩ := List.mem_map.1 h1
    injection e with e1 e2
    rw [List.any_eq_true]
    refine ⟨p, hp, ?_⟩
    rw [Bool.and_eq_true, Bool.or_eq_true]
    exact ⟨decide_eq_true (by omega), .inl (decide_eq_true (by rw [e2]; exact h2))⟩
  · right
    obtain ⟨p, hp, e⟩ := List.mem_map.1 h1
    injection e with e1 e2
    rw [List.any_eq_true]
    refine ⟨p, hp, ?_⟩
    rw [Bool.and_eq_true, Bool.or_eq_true]
    exact ⟨decide_eq_true (by omega), .inr (decide_eq_true h2)⟩
end Go.Proofs.Ythbbghkefekhfaa
