/-
  What is proved: what stays of a past behind a step; cells of a row of numbers. Conditions as stated.
-/
import Derived.Test.YtolpkoeojljfaaaPp
namespace Go.Proofs.Ytolpkoeojljfaaa
open Go.RowKit
set_option maxRecDepth 100000

/-- What a step leaves as it was. -/
structure Keeps (p q : MPast) (X : Bool) : Prop where
  no : X = false → q = p
  great : p.great ≤ q.great
  len : p.L.length ≤ q.L.length
  at_ : ∀ (k : Nat) (a : Nat × Nat), p.L[k]? = some a → ∃ a' : Nat × Nat, q.L[k]? = some a' ∧ a'.1 = a.1 ∧ (a'.2 = a.2 ∨ (a'.2 = a.2 + 1 ∧ X = true ∧ a.1 = p.great))
theorem keeps_refl (p : MPast) : Keeps p p false := ⟨fun _ => rfl, Nat.le_refl _, Nat.le_refl _, fun _ a h => ⟨a, h, rfl, .inl rfl⟩⟩
theorem keeps_bump (p : MPast) : Keeps p p.bump true := by
  refine ⟨fun h => (by cases h), Nat.le_refl _, Nat.le_of_eq (bump_length _ _).symm, fun k a h => ?_⟩
  show ∃ a', (bump p.L p.great)[k]? = some a' ∧ _
  rw [bump, List.getElem?_map, h]
  by_cases e : a.1 = p.great
  · exact ⟨(a.1, a.2 + 1), by simp [e], rfl, .inr ⟨rfl, rfl, e⟩⟩
  · exact ⟨a, by simp [e], rfl, .inl rfl⟩
theorem doR_keeps {p q : MPast} {X : Bool} {x : MStep} (hd : doR p x = (X, q)) : Keeps p q X := by
  unfold doR at hd
  split at hd
  · unfold chg at hd
    split at hd
    · rename_i hc
      injection hd with h1 h2
      subst h1 h2
      exact ⟨fun h => (by cases h), Nat.le_of_lt hc.1, Nat.le_refl _, fun _ a h => ⟨a, h, rfl, .inl rfl⟩⟩
    · injection hd with h1 h2
      subst h1 h2
      exact keeps_refl _
  · split at hd
    · unfold ent at hd
      split at hd
      · rename_i hc
        injection hd with h1 h2
        subst h1 h2
        refine ⟨fun h => (by cases h), hc.1.1, by simp [MPast.add], fun k a h => ⟨a, ?_, rfl, .inl rfl⟩⟩
        show (p.L ++ _)[k]? = _
        rw [List.getElem?_append_left (List.getElem?_eq_some_iff.1 h).1]
        exact h
      · injection hd with h1 h2
        subst h1 h2
        exact keeps_refl _
    · split at hd
      · unfold prp at hd
        split at hd
        · injection hd with h1 h2
          subst h1 h2
          exact keeps_bump _
        · injection hd with h1 h2
          subst h1 h2
          exact keeps_refl _
      · unfold cmt at hd
        split at hd
        · injection hd with h1 h2
          subst h1 h2
          exact keeps_bump _
        · injection hd with h1 h2
          subst h1 h2
          exact keeps_refl _
theorem nu_cells {W : World} {e : TypeId} {κ : IntKind} {A : Option Addr} {c n : Nat} {l : List Nat} (h : (nuT e κ (.slice A n c) l).P W) (h0 : 0 < l.length) : ∃ g, A = some ⟨g, 0, none⟩ ∧ ∀ (k x : Nat), l[k]? = some x → W.cell? ⟨g, k, none⟩ = some (.int κ (x : Int)) := by
  obtain ⟨A2, c2, ee, _, hs, hz⟩ := row_shape h
  injection ee with e1 e2 e3
  subst e1
  cases A with
  | none => have := (hz rfl).1; omega
  | some ad =>
    obtain ⟨g, e, hg⟩ := hs ad rfl
    refine ⟨g, by rw [e], fun k x hk => ?_⟩
    have := hg k _ (nv_get (k := κ) hk)
    rwa [Nat.zero_add] at this
theorem InvP.vots {p : MPast} {N : Nat} (h : InvP p N) {k : Nat} {a : Nat × Nat} (ha : p.L[k]? = some a) : Proofs.Ytolpkoeojljfaaa.vot p.L a.1 = some a.2 := vot_of_mem h.ok.rise (List.mem_of_getElem? ha)
theorem InvP.rises {p : MPast} {N : Nat} (h : InvP p N) {k : Nat} {a b : Nat × Nat} (ha : p.L[k]? = some a) (hb : p.L[k + 1]? = some b) : a.1 < b.1 := by
  have hr := h.ok.rise
  obtain ⟨h1, e1⟩ := List.getElem?_eq_some_iff.1 ha
  obtain ⟨h2, e2⟩ := List.getElem?_eq_some_iff.1 hb
  have := List.pairwise_iff_getElem.1 hr k (k + 1) (by simpa using h1) (by simpa using h2) (Nat.lt_succ_self k)
  simp only [List.getElem_map] at this
  rw [e1, e2] at this
  exact this
end Go.Proofs.Ytolpkoeojljfaaa
