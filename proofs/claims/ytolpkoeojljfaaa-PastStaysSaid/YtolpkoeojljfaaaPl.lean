/-
  What is proved: what holds of a past all along; when a step counts. Conditions as stated.
-/
import Derived.Test.YtolpkoeojljfaaaPk
namespace Go.Proofs.Ytolpkoeojljfaaa
open Go.RowKit
set_option maxRecDepth 100000

def lst (p : MPast) : Nat × Nat := p.L.getLastD (0, 0)
structure InvP (p : MPast) (N : Nat) : Prop where
  ok : p.Ok
  ne : p.L ≠ []
  lo : ∀ q ∈ p.L, q.2 ≤ N
theorem InvP.mono {p : MPast} {N M : Nat} (h : InvP p N) (hm : N ≤ M) : InvP p M := ⟨h.ok, h.ne, fun q hq => Nat.le_trans (h.lo q hq) hm⟩
theorem inv_new (N : Nat) : InvP .new N := by
  refine ⟨⟨List.pairwise_singleton .., fun q hq => ?_, by decide⟩, by simp [MPast.new], fun q hq => ?_⟩
  · rw [List.mem_singleton.1 hq]; exact ⟨Nat.le_refl _, by decide⟩
  · rw [List.mem_singleton.1 hq]; exact Nat.zero_le _
theorem InvP.split {p : MPast} {N : Nat} (h : InvP p N) : p.L = p.L.dropLast ++ [lst p] := by
  have e : p.L.getLastD (0, 0) = p.L.getLast h.ne := by rw [List.getLastD_eq_getLast?, List.getLast?_eq_some_getLast h.ne]; rfl
  rw [lst, e, List.dropLast_concat_getLast]
theorem InvP.mem {p : MPast} {N : Nat} (h : InvP p N) : lst p ∈ p.L := by rw [h.split]; simp
theorem vot_of_mem {L : List (Nat × Nat)} (hr : (L.map (·.1)).Pairwise (· < ·)) {a : Nat × Nat} (ha : a ∈ L) : vot L a.1 = some a.2 := by
  induction L with
  | nil => cases ha
  | cons q r ih =>
    rw [vot]
    rw [List.map_cons] at hr
    obtain ⟨r1, r2⟩ := List.pairwise_cons.1 hr
    rcases List.mem_cons.1 ha with rfl | ha
    · rw [if_pos rfl]
    · have := r1 a.1 (List.mem_map.2 ⟨a, ha, rfl⟩)
      rw [if_neg (by omega)]
      exact ih r2 ha
theorem InvP.vot {p : MPast} {N : Nat} (h : InvP p N) : vot p.L (lst p).1 = some (lst p).2 := vot_of_mem h.ok.rise h.mem
theorem InvP.max {p : MPast} {N : Nat} (h : InvP p N) {q : Nat × Nat} (hq : q ∈ p.L) : q.1 ≤ (lst p).1 := by
  have hr := h.ok.rise
  rw [h.split, List.map_append] at hr
  rw [h.split] at hq
  rcases List.mem_append.1 hq with hq | hq
  · exact Nat.le_of_lt ((List.pairwise_append.1 hr).2.2 _ (List.mem_map.2 ⟨q, hq, rfl⟩) _ (by simp))
  · rw [List.mem_singleton.1 hq]; exact Nat.le_refl _
theorem InvP.top {p : MPast} {N : Nat} (h : InvP p N) : (lst p).1 ≤ p.great ∧ p.great < 1073741824 ∧ (lst p).2 ≤ N := ⟨(h.ok.le _ h.mem).1, h.ok.top, h.lo _ h.mem⟩
theorem InvP.opn {p : MPast} {N : Nat} (h : InvP p N) (x : Nat) : opn p x = (decide ((lst p).1 = p.great) && decide (x = (lst p).1)) := by
  rw [Bool.eq_iff_iff]
  simp only [Proofs.Ytolpkoeojljfaaa.opn, Bool.and_eq_true, decide_eq_true_eq]
  constructor
  · rintro ⟨h1, rfl⟩
    obtain ⟨n, hn⟩ := Option.isSome_iff_exists.1 h1
    have h2 := h.max (vot_mem hn)
    have h3 := h.top.1
    have h4 : p.great ≤ (lst p).1 := h2
    exact ⟨by omega, by omega⟩
  · rintro ⟨h1, rfl⟩
    exact ⟨by rw [h.vot]; rfl, h1⟩
theorem bump_mem {L : List (Nat × Nat)} {x : Nat} {q : Nat × Nat} (h : q ∈ bump L x) : ∃ a ∈ L, q = a ∨ q = (a.1, a.2 + 1) := by
  obtain ⟨a, ha, e⟩ := List.mem_map.1 h
  refine ⟨a, ha, ?_⟩
  by_cases hx : a.1 = x
  · rw [if_pos hx] at e; exact .inr e.symm
  · rw [if_neg hx] at e; exact .inl e.symm
theorem InvP.bump {p : MPast} {N : Nat} (h : InvP p N) (hN : N < 9223372036854775807) {x : Nat} (ho : Proofs.Ytolpkoeojljfaaa.opn p x = true) : InvP p.bump (N + 1) := by
  obtain ⟨e1, n, hn⟩ := opn_true ho
  rw [e1] at hn
  have := h.lo _ (vot_mem hn)
  refine ⟨h.ok.bump hn (by omega), ?_, fun q hq => ?_⟩
  · show Proofs.Ytolpkoeojljfaaa.bump p.L p.great ≠ []
    intro e
    have := congrArg List.length e
    rw [bump_length] at this
    exact h.ne (List.length_eq_zero_iff.1 this)
  · obtain ⟨a, ha, e | e⟩ := bump_mem hq
    · rw [e]; have := h.lo a ha; omega
    · rw [e]; have := h.lo a ha; show a.2 + 1 ≤ _; omega
theorem InvP.step {p : MPast} {N : Nat} (h : InvP p N) (hN : N < 9223372036854775807) (hN2 : 1073741824 ≤ N) {x : MStep} (hl : x.long ≤ 1073741824) : InvP (doR p x).2 (N + 1) := by
  have h' := h.mono (Nat.le_succ N)
  unfold doR
  split
  · unfold chg
    split
    · rename_i hc; exact ⟨h'.ok.chg hc.1 hc.2, h'.ne, h'.lo⟩
    · exact h'
  · split
    · unfold ent
      split
      · rename_i hc
        refine ⟨h'.ok.add hc.1.2 hc.1.1 (by omega) hc.2.2, by simp [MPast.add], fun q hq => ?_⟩
        rcases List.mem_append.1 hq with hq | hq
        · exact h'.lo q hq
        · rw [List.mem_singleton.1 hq]; show x.long.toNat ≤ _; omega
      · exact h'
    · split
      · unfold prp
        split
        · rename_i hc; exact h.bump hN hc.1
        · exact h'
      · unfold cmt
        split
        · rename_i hc; exact h.bump hN hc.1
        · exact h'
/-- When a step counts, told by the last view alone. -/
theorem chg_at (p : MPast) (x : Nat) : chg p x = if p.great < x ∧ x < 1073741824 then (true, ⟨p.L, x⟩) else (false, p) := rfl
theorem ent_at {p : MPast} {N : Nat} (h : InvP p N) (x : Nat) (l : Int) : ent p x l = if (((lst p).1 < x ∧ p.great ≤ x) ∧ x < 1073741824) ∧ 0 ≤ l then (true, p.add x l.toNat) else (false, p) := by
  unfold ent
  have ht := h.top
  by_cases hc : (p.great ≤ x ∧ x < 1073741824) ∧ 0 ≤ l
  · by_cases hv : vot p.L x = none
    · have : (lst p).1 ≠ x := vot_none.1 hv _ h.mem
      rw [if_pos ⟨hc.1, hc.2, hv⟩, if_pos (by omega)]
    · obtain ⟨n, hn⟩ := Option.ne_none_iff_exists'.1 hv
      have := h.max (vot_mem hn)
      have h3 : x ≤ (lst p).1 := this
      rw [if_neg (fun e => hv e.2.2), if_neg (by omega)]
  · rw [if_neg (fun e => hc ⟨e.1, e.2.1⟩), if_neg (by omega)]
theorem prp_at {p : MPast} {N : Nat} (h : InvP p N) (hN : N < 9223372036854775807) (x : Nat) : prp p x = if (lst p).1 = p.great ∧ x = (lst p).1 then (true, p.bump) else (false, p) := by
  unfold prp
  rw [h.opn]
  by_cases hc : (lst p).1 = p.great ∧ x = (lst p).1
  · have hv : Proofs.Ytolpkoeojljfaaa.vot p.L x ≠ some 9223372036854775807 := by
      rw [hc.2, h.vot]
      intro e
      injection e with e
      have := h.top.2.2
      omega
    rw [if_pos ⟨by simp [hc.1, hc.2], hv⟩, if_pos hc]
  · rw [if_neg (fun e => hc (by simpa using e.1)), if_neg hc]
theorem cmt_at {p : MPast} {N : Nat} (h : InvP p N) (x k : Nat) (m : Int) : cmt p x k m = if ((lst p).1 = p.great ∧ x = (lst p).1) ∧ k = (lst p).2 + 1 ∧ ((lst p).2 : Int) < m then (true, p.bump) else (false, p) := by
  unfold cmt
  rw [h.opn]
  by_cases hc : (lst p).1 = p.great ∧ x = (lst p).1
  · have hv : (Proofs.Ytolpkoeojljfaaa.vot p.L x).getD 0 = (lst p).2 := by rw [hc.2, h.vot]; rfl
    rw [hv]
    have e1 : (decide ((lst p).1 = p.great) && decide (x = (lst p).1)) = true := by simp [hc.1, hc.2]
    rw [e1]
    by_cases hd : k = (lst p).2 + 1 ∧ ((lst p).2 : Int) < m
    · rw [if_pos ⟨rfl, hd⟩, if_pos ⟨hc, hd⟩]
    · rw [if_neg (fun e => hd e.2), if_neg (fun e => hd e.2)]
  · rw [if_neg (fun e => hc (by simpa using e.1)), if_neg (fun e => hc e.1)]
end Go.Proofs.Ytolpkoeojljfaaa
