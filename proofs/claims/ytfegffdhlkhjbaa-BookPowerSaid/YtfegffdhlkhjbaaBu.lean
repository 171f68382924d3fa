/-
  What is proved: plain facts on a book at which the power goes. Conditions as stated.
-/
import Derived.Test.YtfegffdhlkhjbaaBr
namespace Go.Proofs.Ytfegffdhlkhjbaa
open Go.RowKit
set_option maxRecDepth 100000

/-- So many sectors are written, and synced. -/
def putD (s : Dk) (x : Int) (f : Nat → List UInt8) (N : Nat) : Dk × Int := if (wrs s x f N).2 ≠ 0 then wrs s x f N else (wrs s x f N).1.sync
theorem wrs_endN {s : Dk} {x : Int} {f : Nat → List UInt8} {N : Nat} (ho : s.off = false) (hl : s.loose = []) (hx : 0 ≤ x ∧ x + N ≤ 32768) : ∀ k, k ≤ N →
    ∃ j, j ≤ k ∧ (wrs s x f k).1.sure = s.sure ∧ (wrs s x f k).1.loose = slotW x f j ∧ (((wrs s x f k).2 = 0 ∧ (wrs s x f k).1.off = false ∧ j = k) ∨ ((wrs s x f k).2 = 8 ∧ (wrs s x f k).1.off = true))
  | 0, _ => ⟨0, Nat.le_refl _, rfl, by simp [wrs, hl, slotW], .inl ⟨rfl, ho, rfl⟩⟩
  | k + 1, hk => by
    obtain ⟨j, hj, h1, h2, h3⟩ := wrs_endN (f := f) ho hl hx k (by omega)
    rcases h3 with ⟨h3, h4, rfl⟩ | ⟨h3, h4⟩
    · rw [wrs_next h3]
      have hr : (wrs s x f j).1.refuses (x + j) = 0 := by unfold Dk.refuses; rw [h4]; simp; omega
      have hw : (wrs s x f j).1.write (x + j) (f j) = Dk.burn { (wrs s x f j).1 with loose := (wrs s x f j).1.loose ++ [(x + (j : Int), f j)] } := by
        unfold Dk.write
        rw [if_neg (by simp [hr])]
      rw [hw]
      rcases burn_end { (wrs s x f j).1 with loose := (wrs s x f j).1.loose ++ [(x + (j : Int), f j)] } h4 with ⟨k1, k2, k3, k4⟩ | ⟨k1, k2, k3, k4⟩
      · exact ⟨j + 1, Nat.le_refl _, by rw [k4]; exact h1, by rw [k3, slotW_succ, ← h2], .inl ⟨k1, k2, rfl⟩⟩
      · exact ⟨j + 1, Nat.le_refl _, by rw [k4]; exact h1, by rw [k3, slotW_succ, ← h2], .inr ⟨k1, k2⟩⟩
    · refine ⟨j, by omega, ?_⟩
      have := wrs_stuck (s := s) (x := x) (f := f) (k := k) (by rw [h3]; decide) 1
      rw [this]
      exact ⟨h1, h2, .inr ⟨h3, h4⟩⟩
/-- How writes that are synced end. -/
theorem put_end {s : Dk} {x : Int} {f : Nat → List UInt8} {N : Nat} (ho : s.off = false) (hl : s.loose = []) (hx : 0 ≤ x ∧ x + N ≤ 32768) :
    ∃ s' e, putD s x f N = (s', e) ∧ ((e = 0 ∧ s'.off = false ∧ s'.loose = [] ∧ ∀ y, s'.sure y = if x ≤ y ∧ y < x + N then some (f (y - x).toNat) else s.sure y) ∨ (e = 8 ∧ s'.sure = s.sure ∧ ∃ j, j ≤ N ∧ s'.loose = slotW x f j)) := by
  unfold putD
  obtain ⟨j, hj, h1, h2, h3⟩ := wrs_endN (f := f) ho hl hx N (Nat.le_refl _)
  generalize wrs s x f N = p at h1 h2 h3 ⊢
  rcases h3 with ⟨h3, h4, rfl⟩ | ⟨h3, h4⟩
  · rw [if_neg (by simp [h3])]
    rcases burn_end p.1 h4 with ⟨k1, k2, k3, k4⟩ | ⟨k1, k2, k3, k4⟩
    · have e : p.1.sync = (p.1.burn.1.settle fun _ => 1, 0) := by
        unfold Dk.sync
        rw [if_neg (by simp [h4]), if_neg (by simp [k1])]
      refine ⟨_, _, e, .inl ⟨rfl, k2, rfl, fun y => ?_⟩⟩
      show settled (fun _ => 1) 0 p.1.burn.1.sure p.1.burn.1.loose y = _
      rw [settled_sync, k3, k4, h1, h2, slotW, lastW_slot]
      by_cases hy : x ≤ y ∧ y < x + j
      · rw [if_pos hy, if_pos hy]
      · rw [if_neg hy, if_neg hy]
    · have e : p.1.sync = p.1.burn := by
        unfold Dk.sync
        rw [if_neg (by simp [h4]), if_pos (by simp [k1])]
      exact ⟨p.1.burn.1, 8, by rw [e]; exact Prod.ext rfl k1, .inr ⟨rfl, by rw [k4, h1], j, hj, by rw [k3, h2]⟩⟩
  · rw [if_pos (by simp [h3])]
    exact ⟨p.1, 8, Prod.ext rfl h3, .inr ⟨rfl, h1, j, hj, h2⟩⟩
/-- The power goes, and comes again. -/
theorem on_end {s' : Dk} {x : Int} {f : Nat → List UInt8} {j : Nat} (h : s'.loose = slotW x f j) (picks : List UInt8) :
    ∃ s2, s'.offed.on picks = (s2, 0) ∧ Calm s2 ∧ s2.loose = [] ∧ ∀ y, s2.sure y = s'.sure y ∨ ∃ i : Nat, i < j ∧ y = x + i ∧ (s2.sure y = none ∨ s2.sure y = some (f i)) := by
  refine ⟨Dk.settle { s'.offed with off := false, fuse := none } fun i => (picks.getD i 0).toNat, on_offed s' picks, ⟨rfl, rfl⟩, rfl, fun y => ?_⟩
  have e : (Dk.settle { s'.offed with off := false, fuse := none } fun i => (picks.getD i 0).toNat).sure y = settled (fun i => (picks.getD i 0).toNat) 0 s'.sure (slotW x f j) y := by
    show settled _ 0 s'.sure s'.loose y = _
    rw [h]
  rw [e]
  exact settled_slot _ s'.sure x f j y
theorem read_sure {s : Dk} (ho : s.off = false) (hl : s.loose = []) {y : Int} (hy : 0 ≤ y ∧ y < 32768) : s.read y = match s.sure y with | some b => (b, 0) | none => (zeros, 9) := by
  rw [read_on ho hy, hl]
  rfl
theorem read_same {s s2 : Dk} (ho : s.off = false) (hl : s.loose = []) (ho2 : s2.off = false) (hl2 : s2.loose = []) {y : Int} (hy : 0 ≤ y ∧ y < 32768) (h : s2.sure y = s.sure y) : s2.read y = s.read y := by
  rw [read_sure ho hl hy, read_sure ho2 hl2 hy, h]

theorem head_lost {s : Dk} {y : Int} (h : s.read y = (zeros, 9)) : headAt s y = (0, 0, 0, 0) := by
  unfold headAt
  rw [h, if_pos (by simp)]
/-- An Append at which the power went. -/
theorem BookIs.torn {s s2 : Dk} {x E : Int} {M K a na C : Nat} {q : List (Nat × List UInt8)} (h : BookIs s x E M K q a na C) (hK : K < M) (ho : s.off = false) (hl : s.loose = []) (ho2 : s2.off = false) (hl2 : s2.loose = []) (r : List UInt8) (hr : r.length ≤ 4096) (hE : endOf (x + 20) q + pagesN r.length ≤ E) (hE2 : E ≤ 32768) (hx : 0 ≤ x) (hq : q.length + 1 < 1000000)
    (hb : ∀ z, s2.sure z = s.sure z ∨ ∃ i : Nat, i < pagesN r.length ∧ z = endOf (x + 20) q + i ∧ (s2.sure z = none ∨ s2.sure z = some (pageF M (q.length + 1) r i))) :
    BookIs s2 x E M M q a na C ∨ BookIs s2 x E M K (q ++ [(M, r)]) a na C := by
  obtain ⟨y, hy⟩ : ∃ y, y = endOf (x + 20) q := ⟨_, rfl⟩
  have hg := endOf_ge q (x + 20)
  have hlf := h.life
  have hpl := pagesN_le r.length hr
  rw [← hy] at hb hE hg
  have hout : ∀ z, 0 ≤ z ∧ z < 32768 → ¬ (y ≤ z ∧ z < y + pagesN r.length) → s2.read z = s.read z := fun z hz hn => by
    rcases hb z with h1 | ⟨i, hi, rfl, _⟩
    · exact read_same ho hl ho2 hl2 hz h1
    · exact absurd ⟨by omega, by omega⟩ hn
  by_cases hall : ∀ i : Nat, i < pagesN r.length → s2.sure (y + i) = some (pageF M (q.length + 1) r i)
  · right
    refine h.snoc hK r hr (by rw [← hy]; exact hE) hE2 hx hq fun z hz => ?_
    rw [← hy]
    by_cases hz2 : y ≤ z ∧ z < y + pagesN r.length
    · rw [if_pos hz2, read_sure ho2 hl2 hz]
      have := hall (z - y).toNat (by omega)
      rw [show y + ((z - y).toNat : Int) = z by omega] at this
      rw [this]
    · rw [if_neg hz2]
      exact hout z hz hz2
  · left
    -- a page that is not the new one
    obtain ⟨i0, hi0, hn0⟩ : ∃ i0 : Nat, i0 < pagesN r.length ∧ s2.sure (y + i0) ≠ some (pageF M (q.length + 1) r i0) := by
      refine Classical.byContradiction fun hh => hall fun i hi => Classical.byContradiction fun hne => hh ⟨i, hi, hne⟩
    -- what each sector reads as
    have hcl : ∀ z, y ≤ z → z < E → s2.read z = s.read z ∨ headAt s2 z = (0, 0, 0, 0) ∨ ∃ i : Nat, i < pagesN r.length ∧ z = y + i ∧ i ≠ i0 ∧ headAt s2 z = (M, q.length + 1, i, pagesN r.length) := fun z h1 h2 => by
      rcases hb z with h3 | ⟨i, hi, rfl, h4 | h4⟩
      · exact .inl (read_same ho hl ho2 hl2 (by omega) h3)
      · refine .inr (.inl (head_lost ?_))
        rw [read_sure ho2 hl2 (by omega), h4]
      · refine .inr (.inr ⟨i, hi, rfl, fun e => hn0 (e ▸ h4), ?_⟩)
        have hrd : s2.read (y + i) = (pageB M (q.length + 1) (pagesN r.length) i r, 0) := by rw [read_sure ho2 hl2 (by omega), h4]; rfl
        exact (headAt_is hrd (by omega) (by have := h.many; omega) (by omega) (by omega)).1
    have hL := lastL_le h.rise (by omega)
    refine ⟨h.cell.congr (fun i hi => hout _ (by omega) (by omega)) (Nat.le_refl _) h.cell.small, stand_congr h.stand fun z h1 h2 => hout z (by omega) (by omega), h.rise, h.fit, fun M' hM' => ?_, fun z h1 h2 => ?_, h.many, h.life⟩
    · rw [← hy]
      have hst := h.stop M' hM'
      rw [← hy] at hst
      have hlow := h.low
      rw [← hy] at hlow
      by_cases hyE : y = E
      · rw [hyE]
        exact nextAt_end
      · rcases hcl y (Int.le_refl _) (by omega) with h1 | h1 | ⟨i, hi, hi2, hi3, h1⟩
        · -- the first page is as it was
          have h0 := (headAt_congr h1).1
          by_cases hs : ∀ z, y ≤ z → z < y + (headAt s y).2.2.2 → z < E → s2.read z = s.read z
          · unfold nextAt at hst ⊢
            rw [h0]
            split
            · rfl
            · rename_i hc
              rw [if_neg hc] at hst
              unfold recAt at hst ⊢
              split
              · rfl
              · rename_i hp
                rw [if_neg hp] at hst
                rw [recGo_congr (s := s) _ fun i hi => hs _ (by omega) (by omega) (by omega)]
                exact hst
          · have hlz := hlow y (Int.le_refl _) (by omega)
            obtain ⟨z, hz1, hz2, hz3, hz4⟩ : ∃ z, y ≤ z ∧ z < y + (headAt s y).2.2.2 ∧ z < E ∧ s2.read z ≠ s.read z := by
              refine Classical.byContradiction fun hh => hs fun z a b c => Classical.byContradiction fun d => hh ⟨z, a, b, c, d⟩
            unfold nextAt
            rw [h0]
            split
            · rfl
            · rename_i hc
              rw [Option.map_eq_none_iff]
              refine recAt_no (k := (z - y).toNat + 1) (by omega) ?_
              rw [recGo]
              split
              · rfl
              · rw [if_neg]
                rw [show y + ((z - y).toNat : Int) = z by omega]
                rcases hcl z hz1 hz3 with g1 | g1 | ⟨i, _, _, _, g1⟩
                · exact absurd g1 hz4
                · rw [g1]
                  intro e
                  injection e with e _
                  omega
                · rw [g1]
                  intro e
                  injection e with e _
                  omega
        · exact nextAt_low (by rw [h1]; simp only; omega)
        · have hi00 : i = 0 := by omega
          subst hi00
          unfold nextAt
          rw [h1]
          split
          · rfl
          · rw [Option.map_eq_none_iff]
            refine recAt_no (k := i0 + 1) (by simp only; omega) ?_
            rw [recGo]
            split
            · rfl
            · rw [if_neg]
              rcases hcl (y + i0) (by omega) (by omega) with g1 | g1 | ⟨i', _, e', hne, _⟩
              · have := hlow (y + i0) (by omega) (by omega)
                rw [(headAt_congr g1).1]
                intro e
                rw [e] at this
                simp only at this
                omega
              · rw [g1]
                intro e
                injection e with e _
                omega
              · exact absurd (by omega : i' = i0) hne
    · rw [← hy] at h1
      rcases hcl z h1 h2 with g1 | g1 | ⟨i, _, _, _, g1⟩
      · rw [(headAt_congr g1).1]
        have := h.low z (by rw [← hy]; exact h1) h2
        omega
      · rw [g1]; exact Nat.zero_le _
      · rw [g1]; exact Nat.le_refl _
end Go.Proofs.Ytfegffdhlkhjbaa
