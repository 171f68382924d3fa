/-
  What is proved: what counts of one stream: the model; a past in memory. Conditions as stated.
-/
import Derived.Test.YtolpkoeojljfaaaPb
namespace Go.Proofs.Ytolpkoeojljfaaa
open Go.RowKit
set_option maxRecDepth 100000

/-- What was voted in views, rising; the greatest view. -/
structure MPast where
  L : List (Nat × Nat)
  great : Nat
/-- What was voted in a view. -/
def vot : List (Nat × Nat) → Nat → Option Nat
  | [], _ => none
  | q :: r, x => if q.1 = x then some q.2 else vot r x
/-- It as values, by keys. -/
def vP (L : List (Nat × Nat)) (x : Int) : Option Value := if 0 ≤ x then (vot L x.toNat).map (fun n : Nat => Value.int .i64 (n : Int)) else none
theorem vP_nat (L : List (Nat × Nat)) (x : Nat) : vP L (x : Int) = (vot L x).map (fun n : Nat => Value.int .i64 (n : Int)) := by
  rw [vP, if_pos (by omega), Int.toNat_natCast]
theorem vot_snoc (x y n : Nat) : ∀ L : List (Nat × Nat), vot L y = none ∨ x ≠ y → vot (L ++ [(x, n)]) y = if x = y then some n else vot L y
  | [], _ => by by_cases h : x = y <;> simp [vot, h]
  | q :: r, h => by
    rw [List.cons_append, vot, vot]
    by_cases e : q.1 = y
    · rw [if_pos e, if_pos e]
      rcases h with h | h
      · rw [vot, if_pos e] at h; cases h
      · rw [if_neg h]
    · rw [if_neg e, if_neg e]
      exact vot_snoc x y n r (h.imp (fun h => by rwa [vot, if_neg e] at h) id)
/-- One more is voted in a view. -/
def bump (L : List (Nat × Nat)) (x : Nat) : List (Nat × Nat) := L.map fun q => if q.1 = x then (q.1, q.2 + 1) else q
theorem bump_length (L : List (Nat × Nat)) (x : Nat) : (bump L x).length = L.length := by simp [bump]
theorem bump_fst (L : List (Nat × Nat)) (x : Nat) : (bump L x).map (·.1) = L.map (·.1) := by
  rw [bump, List.map_map]
  refine List.map_congr_left fun q _ => ?_
  show (if q.1 = x then (q.1, q.2 + 1) else q).1 = q.1
  split <;> rfl
theorem vot_bump (x y : Nat) : ∀ L : List (Nat × Nat), vot (bump L x) y = if y = x then (vot L y).map (· + 1) else vot L y
  | [] => by simp [bump, vot]
  | q :: r => by
    have ih := vot_bump x y r
    rw [bump] at ih ⊢
    rw [List.map_cons, vot, vot, ih]
    by_cases e : q.1 = x
    · rw [if_pos e]
      by_cases h : q.1 = y
      · have : y = x := by omega
        simp [h, this]
      · simp [h]
    · rw [if_neg e]
      by_cases h : q.1 = y
      · have : ¬ y = x := by omega
        simp [h, this]
      · simp [h]
theorem vot_mem {L : List (Nat × Nat)} {x n : Nat} (h : vot L x = some n) : (x, n) ∈ L := by
  induction L with
  | nil => cases h
  | cons q r ih =>
    rw [vot] at h
    by_cases e : q.1 = x
    · rw [if_pos e] at h; injection h with h; subst h; subst e; exact List.mem_cons_self ..
    · rw [if_neg e] at h; exact List.mem_cons_of_mem _ (ih h)
theorem vot_none {L : List (Nat × Nat)} {x : Nat} : vot L x = none ↔ ∀ q ∈ L, q.1 ≠ x := by
  induction L with
  | nil => simp [vot]
  | cons q r ih =>
    rw [vot]
    by_cases e : q.1 = x
    · rw [if_pos e]
      exact ⟨fun h => (by cases h), fun h => absurd e (h q (List.mem_cons_self ..))⟩
    · rw [if_neg e, ih]
      exact ⟨fun h a ha => (List.mem_cons.1 ha).elim (fun x => x ▸ e) (h a), fun h a ha => h a (List.mem_cons_of_mem _ ha)⟩
/-- What holds of each past. -/
structure MPast.Ok (p : MPast) : Prop where
  rise : (p.L.map (·.1)).Pairwise (· < ·)
  le : ∀ q ∈ p.L, q.1 ≤ p.great ∧ q.2 ≤ 9223372036854775807
  top : p.great < 1073741824
theorem rise_len : ∀ (l : List Nat) (a N : Nat), l.Pairwise (· < ·) → (∀ x ∈ l, a ≤ x ∧ x < N) → l.length ≤ N - a
  | [], _, _, _, _ => Nat.zero_le _
  | x :: r, a, N, h, hb => by
    obtain ⟨h1, h2⟩ := List.pairwise_cons.1 h
    have := rise_len r (x + 1) N h2 fun y hy => ⟨h1 y hy, (hb y (List.mem_cons_of_mem _ hy)).2⟩
    have hx := hb x (List.mem_cons_self ..)
    rw [List.length_cons]
    omega
theorem MPast.Ok.len {p : MPast} (h : p.Ok) : p.L.length ≤ 1073741824 := by
  have := rise_len (p.L.map (·.1)) 0 1073741824 h.rise fun x hx => by
    obtain ⟨q, hq, rfl⟩ := List.mem_map.1 hx
    have := (h.le q hq).1
    have := h.top
    omega
  simpa using this
/-- A view above all is entered. -/
def MPast.add (p : MPast) (v n : Nat) : MPast := ⟨p.L ++ [(v, n)], v⟩
theorem MPast.Ok.add {p : MPast} (h : p.Ok) {v n : Nat} (hv : v < 1073741824) (hg : p.great ≤ v) (hn : n ≤ 9223372036854775807) (hx : vot p.L v = none) : (p.add v n).Ok := by
  refine ⟨?_, fun q hq => ?_, hv⟩
  · show ((p.L ++ [(v, n)]).map (·.1)).Pairwise (· < ·)
    rw [List.map_append]
    refine List.pairwise_append.2 ⟨h.rise, List.pairwise_singleton .., fun a ha b hb => ?_⟩
    obtain ⟨q, hq, rfl⟩ := List.mem_map.1 ha
    have e : b = v := by simpa using hb
    subst e
    have h1 := (h.le q hq).1
    have h2 := vot_none.1 hx q hq
    omega
  · rcases List.mem_append.1 hq with hq | hq
    · have := h.le q hq; exact ⟨Nat.le_trans this.1 hg, this.2⟩
    · rw [List.mem_singleton.1 hq]; exact ⟨Nat.le_refl _, hn⟩
def MPast.bump (p : MPast) : MPast := ⟨Proofs.Ytolpkoeojljfaaa.bump p.L p.great, p.great⟩
theorem MPast.Ok.bump {p : MPast} (h : p.Ok) {n : Nat} (hn : vot p.L p.great = some n) (hb : n < 9223372036854775807) : p.bump.Ok := by
  refine ⟨?_, fun q hq => ?_, h.top⟩
  · show ((Proofs.Ytolpkoeojljfaaa.bump p.L p.great).map (·.1)).Pairwise (· < ·)
    rw [bump_fst]
    exact h.rise
  · obtain ⟨a, ha, rfl⟩ := List.mem_map.1 hq
    by_cases e : a.1 = p.great
    · rw [if_pos e]
      refine ⟨(h.le a ha).1, ?_⟩
      have : vot p.L a.1 = some a.2 := by
        have hr := h.rise
        clear hq h hn hb e
        generalize p.L = L at ha hr
        induction L with
        | nil => cases ha
        | cons q r ih =>
          rw [vot]
          rw [List.map_cons] at hr
          obtain ⟨r1, r2⟩ := List.pairwise_cons.1 hr
          rcases List.mem_cons.1 ha with rfl | ha
          · rw [if_pos rfl]
          · have := r1 a.1 (List.mem_map.2 ⟨a, ha, rfl⟩)
            rw [if_neg (by omega)]
            exact ih ha r2
      rw [e, hn] at this
      injection this with this
      show a.2 + 1 ≤ _
      omega
    · rw [if_neg e]
      exact h.le a ha

/-! ### in memory -/
def paC (rv : Value) (mb : Option Nat) (g : Nat) : List Value := [rv, .map mb, .int .u64 (g : Int)]
structure PastAt (W : World) (b : Nat) (rv : Value) (mb : Option Nat) (p : MPast) : Prop where
  top : W.heap[b]? = some (.cells (paC rv mb p.great).toArray 52 (0, 0))
  row : W.ownsRow 0 23 1 rv p.L.length (nv .u64 (p.L.map (·.1)))
  mp : (mb = none ∧ p.L = []) ∨ ∃ k, mb = some k ∧ World.mapU W k p.L.length (vP p.L)
  ok : p.Ok
def OnP (b : Nat) (rv : Value) (mb : Option Nat) (k : Nat) : Prop := k = b ∨ mb = some k ∨ rv.ownBlock = some k
def paT (b : Nat) (rv : Value) (mb : Option Nat) (p : MPast) : Thing := ⟨fun W => PastAt W b rv mb p, OnP b rv mb⟩
theorem paT_ok (b : Nat) (rv : Value) (mb : Option Nat) (p : MPast) : (paT b rv mb p).Ok := by
  refine ⟨fun W W' (h : PastAt W b rv mb p) hk => ⟨(hk b (.inl rfl)).trans h.top, ownsRow_kept h.row fun k e => hk k (.inr (.inr e)), ?_, h.ok⟩, fun W (h : PastAt W b rv mb p) k hk => ?_⟩
  · rcases h.mp with h1 | ⟨k, h1, h2⟩
    · exact .inl h1
    · exact .inr ⟨k, h1, mapU_kept h2 (hk k (.inr (.inl h1)))⟩
  · rcases hk with rfl | hk | hk
    · exact (Array.getElem?_eq_some_iff.1 h.top).1
    · rcases h.mp with ⟨h1, _⟩ | ⟨k', h1, h2⟩
      · rw [h1] at hk; cases hk
      · rw [h1] at hk; injection hk with hk; rw [← hk]; exact mapU_lt h2
    · exact ownsRow_lt h.row k hk
/-- Its parts lie apart. -/
theorem PastAt.apart {W : World} {b : Nat} {rv : Value} {mb : Option Nat} {p : MPast} (h : PastAt W b rv mb p) : (∀ k, mb = some k → k ≠ b ∧ rv.ownBlock ≠ some k) ∧ ∀ k, rv.ownBlock = some k → k ≠ b := by
  refine ⟨fun k e => ?_, fun k e x => ?_⟩
  · rcases h.mp with ⟨h1, _⟩ | ⟨k', h1, h2⟩
    · rw [h1] at e; cases e
    · rw [h1] at e
      injection e with e
      subst e
      obtain ⟨es, c, h3⟩ := mapU_block h2
      refine ⟨fun x => ?_, fun x => ?_⟩
      · have := h.top; rw [← x, h3] at this; injection this with this; cases this
      · obtain ⟨C, h4⟩ := ownsRow_block h.row k' x
        rw [h3] at h4; injection h4 with h4; cases h4
  · obtain ⟨C, h4⟩ := ownsRow_block h.row k e
    have := h.top
    rw [← x, h4] at this
    simp at this
theorem PastAt.cells {W : World} {b : Nat} {rv : Value} {mb : Option Nat} {p : MPast} (h : PastAt W b rv mb p) : W.cell? ⟨b, 0, none⟩ = some rv ∧ W.cell? ⟨b, 1, none⟩ = some (.map mb) ∧ W.cell? ⟨b, 2, none⟩ = some (.int .u64 (p.great : Int)) :=
  ⟨block_cell h.top 0 _ rfl, block_cell h.top 1 _ rfl, block_cell h.top 2 _ rfl⟩
theorem PastAt.free {W : World} {b : Nat} {rv : Value} {mb : Option Nat} {p : MPast} (h : PastAt W b rv mb p) (i : Nat) : W.frozen? ⟨b, i, none⟩ = false := free_block h.top i
end Go.Proofs.Ytolpkoeojljfaaa
