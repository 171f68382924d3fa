/-
  What is proved: what a disk with a fuse has, round by round (on lists, no memory). Conditions as stated.
-/
import Derived.Test.YthbbghkefekhfaaDk
namespace Go.Proofs.Ythbbghkefekhfaa

def sec (j : Nat) : List UInt8 := secOf (UInt8.ofNat (j + 1))
/-- The last Sync ahead of k. -/
def sy (bs : List Bool) : Nat → Int
  | 0 => -1
  | k + 1 => if bs.getD k false then (k : Int) else sy bs k
/-- What is sure and what is loose behind k rounds without a fuse. -/
def gs (bs : List Bool) : Nat → (Int → Option (List UInt8)) × List (Int × List UInt8)
  | 0 => (fun _ => some zeros, [])
  | k + 1 => if bs.getD k false then (settled (fun _ => 1) 0 (gs bs k).1 (gs bs k).2, []) else ((gs bs k).1, (gs bs k).2 ++ [((k : Int), sec k)])

theorem settled_one (x : Int) : ∀ (l : List (Int × List UInt8)) (i : Nat) (f : Int → Option (List UInt8)), settled (fun _ => 1) i f l x = match lastW l x with | some b => some b | none => f x
  | [], _, _ => rfl
  | q :: r, i, f => by
    rw [settled, settled_one x r, lastW]
    cases lastW r x with
    | some b => rfl
    | none =>
      simp only [done]
      by_cases h : q.1 = x
      · subst h; simp [upd_same]
      · rw [if_neg h]; simp [upd_other _ _ (fun e => h e.symm)]
theorem settled_zero (x : Int) : ∀ (l : List (Int × List UInt8)) (i : Nat) (f : Int → Option (List UInt8)), settled (fun _ => 0) i f l x = f x
  | [], _, _ => rfl
  | q :: r, i, f => by
    rw [settled, settled_zero x r]
    rfl
theorem settled_congr (t t' : Nat → Nat) : ∀ (l : List (Int × List UInt8)) (i : Nat) (f : Int → Option (List UInt8)), (∀ j, j < l.length → t (i + j) = t' (i + j)) → settled t i f l = settled t' i f l
  | [], _, _, _ => rfl
  | q :: r, i, f, h => by
    rw [settled, settled, show t i = t' i from h 0 (by simp)]
    exact settled_congr t t' r (i + 1) _ fun j hj => by
      have := h (j + 1) (by simp; omega)
      rwa [show i + (j + 1) = i + 1 + j by omega] at this

theorem sy_facts (bs : List Bool) : ∀ k : Nat, -1 ≤ sy bs k ∧ sy bs k < k ∧ (∀ x : Nat, sy bs k < x → x < k → bs.getD x false = false) ∧ (∀ x : Nat, (x : Int) = sy bs k → bs.getD x false = true)
  | 0 => ⟨by simp [sy], by simp [sy], fun x _ h => by omega, fun x h => by simp [sy] at h⟩
  | k + 1 => by
    obtain ⟨h1, h2, h3, h4⟩ := sy_facts bs k
    rw [sy]
    by_cases hb : bs.getD k false = true
    · rw [if_pos hb]
      refine ⟨by omega, by omega, fun x h5 h6 => by omega, fun x h5 => ?_⟩
      obtain rfl : x = k := by omega
      exact hb
    · rw [if_neg hb]
      refine ⟨h1, by omega, fun x h5 h6 => ?_, h4⟩
      by_cases hx : x = k
      · subst hx; simpa using hb
      · exact h3 x h5 (by omega)
/-- What sector x has that is sure. -/
theorem gs_facts (bs : List Bool) : ∀ k : Nat, (∀ x : Nat, (gs bs k).1 x = some (if (x : Int) < sy bs k ∧ bs.getD x false = false then sec x else zeros)) ∧ (∀ x : Nat, lastW (gs bs k).2 x = if sy bs k < x ∧ x < k then some (sec x) else none)
  | 0 => ⟨fun x => by rw [gs, sy, if_neg (by omega)], fun x => by rw [gs, if_neg (by omega)]; rfl⟩
  | k + 1 => by
    obtain ⟨h1, h2⟩ := gs_facts bs k
    obtain ⟨f1, f2, f3, f4⟩ := sy_facts bs k
    rw [gs, sy]
    by_cases hb : bs.getD k false = true
    · rw [if_pos hb, if_pos hb]
      refine ⟨fun x => ?_, fun x => by rw [if_neg (by omega)]; rfl⟩
      show settled _ 0 (gs bs k).1 (gs bs k).2 x = _
      rw [settled_one, h2 x]
      by_cases hx : sy bs k < x ∧ x < k
      · rw [if_pos hx, if_pos ⟨by omega, f3 x hx.1 hx.2⟩]
      · rw [if_neg hx]
        simp only
        rw [h1 x]
        by_cases hy : (x : Int) < sy bs k
        · by_cases hz : bs.getD x false = false
          · rw [if_pos ⟨hy, hz⟩, if_pos ⟨by omega, hz⟩]
          · rw [if_neg (fun h => hz h.2), if_neg (fun h => hz h.2)]
        · rw [if_neg (fun h => hy h.1)]
          by_cases he : (x : Int) = sy bs k
          · rw [if_neg (fun h => by have := f4 x he; rw [this] at h; simp at h)]
          · rw [if_neg (by omega)]
    · rw [if_neg hb, if_neg hb]
      refine ⟨h1, fun x => ?_⟩
      rw [lastW_snoc]
      by_cases hx : x = k
      · subst hx
        rw [if_pos rfl, if_pos ⟨by omega, by omega⟩]
      · rw [if_neg (by omega), h2 x]
        by_cases hy : sy bs k < x ∧ x < k
        · rw [if_pos hy, if_pos ⟨hy.1, by omega⟩]
        · rw [if_neg hy, if_neg (by omega)]
theorem gs_some (bs : List Bool) : ∀ (k : Nat) (x : Int), ((gs bs k).1 x).isSome = true
  | 0, _ => rfl
  | k + 1, x => by
    rw [gs]
    split
    · show (settled _ 0 (gs bs k).1 (gs bs k).2 x).isSome = true
      rw [settled_one]
      cases lastW (gs bs k).2 x with
      | some b => rfl
      | none => exact gs_some bs k x
    · exact gs_some bs k x

/-! ### with a fuse -/
def onF (M : Nat) (bs : List Bool) (k : Nat) : Dk := ⟨false, some (M - k), (gs bs k).1, (gs bs k).2⟩
def lastL (M : Nat) (bs : List Bool) : List (Int × List UInt8) := if bs.getD M false then (gs bs M).2 else (gs bs M).2 ++ [((M : Int), sec M)]
def offF (M : Nat) (bs : List Bool) : Dk := ⟨true, none, (gs bs M).1, lastL M bs⟩
/-- Behind k rounds. -/
def fuF (M : Nat) (bs : List Bool) (k : Nat) : Dk := if k ≤ M then onF M bs k else offF M bs
theorem fuF_start (M : Nat) (bs : List Bool) : Dk.new.fuseAt (M : Int) = fuF M bs 0 := by
  unfold fuF onF Dk.fuseAt
  rw [if_pos (Nat.zero_le _), if_pos (by omega)]
  rfl
theorem read_e {s : Dk} {x : Nat} (h0 : s.off = false) (hx : x < 32768) (hs : (s.sure x).isSome = true) : (s.read x).2 = 0 := by
  have hr : s.refuses x = 0 := by
    unfold Dk.refuses
    rw [h0]
    simp only [Bool.false_eq_true, if_false]
    rw [if_neg (by omega)]
  unfold Dk.read
  rw [if_neg (by rw [hr]; simp)]
  cases lastW s.loose x with
  | some b => rfl
  | none =>
    simp only
    cases hq : s.sure x with
    | some b => rfl
    | none => rw [hq] at hs; cases hs
theorem fuF_read (M : Nat) (bs : List Bool) (k : Nat) (hk : k < 32768) : ((fuF M bs k).read k).2 = if k ≤ M then 0 else 8 := by
  unfold fuF
  split
  · exact read_e rfl hk (gs_some bs k k)
  · rfl
theorem fuF_sync (M : Nat) (bs : List Bool) (k : Nat) (hb : bs.getD k false = true) : (fuF M bs k).sync = (fuF M bs (k + 1), if k < M then 0 else 8) := by
  unfold fuF
  by_cases h1 : k < M
  · rw [if_pos (by omega), if_pos (by omega), if_pos h1]
    obtain ⟨j, hj⟩ : ∃ j, M - k = j + 1 := ⟨M - k - 1, by omega⟩
    have e : (onF M bs k).sync = (⟨false, some j, settled (fun _ => 1) 0 (gs bs k).1 (gs bs k).2, []⟩, 0) := by
      unfold onF
      rw [hj]
      rfl
    rw [e]
    unfold onF
    rw [gs, if_pos hb, show M - (k + 1) = j by omega]
  · by_cases h2 : k = M
    · subst h2
      rw [if_pos (Nat.le_refl _), if_neg (by omega), if_neg h1]
      have e : (onF k bs k).sync = (⟨true, none, (gs bs k).1, (gs bs k).2⟩, 8) := by
        unfold onF
        rw [Nat.sub_self]
        rfl
      rw [e]
      unfold offF lastL
      rw [if_pos hb]
    · rw [if_neg (by omega), if_neg (by omega), if_neg h1]
      rfl
theorem fuF_write (M : Nat) (bs : List Bool) (k : Nat) (hk : k < 32768) (hb : bs.getD k false = false) : (fuF M bs k).write k (sec k) = (fuF M bs (k + 1), if k < M then 0 else 8) := by
  have hr : ∀ s : Dk, s.off = false → s.refuses (k : Int) = 0 := fun s h0 => by
    unfold Dk.refuses
    rw [h0]
    simp only [Bool.false_eq_true, if_false]
    rw [if_neg (by omega)]
  unfold fuF
  by_cases h1 : k < M
  · rw [if_pos (by omega), if_pos (by omega), if_pos h1]
    obtain ⟨j, hj⟩ : ∃ j, M - k = j + 1 := ⟨M - k - 1, by omega⟩
    unfold Dk.write
    rw [if_neg (by rw [hr _ rfl]; simp)]
    unfold onF Dk.burn
    rw [gs, if_neg (by rw [hb]; simp), show M - (k + 1) = j by omega, hj]
  · by_cases h2 : k = M
    · subst h2
      rw [if_pos (Nat.le_refl _), if_neg (by omega), if_neg h1]
      unfold Dk.write
      rw [if_neg (by rw [hr _ rfl]; simp)]
      unfold onF Dk.burn offF lastL
      rw [if_neg (by rw [hb]; simp), Nat.sub_self]
    · rw [if_neg (by omega), if_neg (by omega), if_neg h1]
      rfl
theorem fuF_off (M : Nat) (bs : List Bool) (k : Nat) : (fuF M bs k).off = decide (M < k) := by
  unfold fuF
  by_cases h : k ≤ M
  · rw [if_pos h]; exact (decide_eq_false (by omega)).symm
  · rw [if_neg h]; exact (decide_eq_true (by omega)).symm

/-- On again, by picks that are all P. -/
def endF (M : Nat) (bs : List Bool) (P : Nat) : Dk := ⟨false, none, settled (fun _ => P) 0 (gs bs M).1 (lastL M bs), []⟩
theorem fuF_on (M : Nat) (bs : List Bool) (k : Nat) (hk : M < k) (P : UInt8) (ps : List UInt8) (hp : ps = List.replicate (lastL M bs).length P) : (fuF M bs k).on ps = (endF M bs P.toNat, 0) := by
  unfold fuF
  rw [if_neg (by omega)]
  show (({ sure := settled (fun i => (ps.getD i 0).toNat) 0 (gs bs M).1 (lastL M bs), off := false, fuse := none, loose := [] } : Dk), (0 : Int)) = _
  rw [settled_congr _ (fun _ => P.toNat) (lastL M bs) 0 _ (fun j hj => by
    rw [hp, List.getD_eq_getElem?_getD, List.getElem?_replicate, if_pos (by omega)]
    rfl)]
  rfl
theorem endF_read (M : Nat) (bs : List Bool) (P : Nat) (hP : P = 0 ∨ P = 1) (hM : M < 32768) (k : Nat) (hk : k ≤ M) :
    (endF M bs P).read k = (if bs.getD k false = false ∧ ((k : Int) < sy bs M ∨ P = 1) then sec k else zeros, 0) := by
  obtain ⟨g1, g2⟩ := gs_facts bs M
  obtain ⟨f1, f2, f3, f4⟩ := sy_facts bs M
  have hs : (endF M bs P).sure k = some (if bs.getD k false = false ∧ ((k : Int) < sy bs M ∨ P = 1) then sec k else zeros) := by
    show settled (fun _ => P) 0 (gs bs M).1 (lastL M bs) k = _
    rcases hP with rfl | rfl
    · rw [settled_zero, g1 k]
      by_cases h : (k : Int) < sy bs M ∧ bs.getD k false = false
      · rw [if_pos h, if_pos ⟨h.2, .inl h.1⟩]
      · rw [if_neg h, if_neg (fun x => h ⟨x.2.elim id (fun e => by cases e), x.1⟩)]
    · rw [settled_one]
      have hl : lastW (lastL M bs) k = if bs.getD k false = false ∧ sy bs M < k then some (sec k) else none := by
        unfold lastL
        by_cases hb : bs.getD M false = true
        · rw [if_pos hb, g2 k]
          by_cases h : sy bs M < k ∧ k < M
          · rw [if_pos h, if_pos ⟨f3 k h.1 h.2, h.1⟩]
          · rw [if_neg h, if_neg]
            rintro ⟨h1, h2⟩
            have : k = M := by omega
            subst this
            rw [hb] at h1
            cases h1
        · rw [if_neg hb, lastW_snoc]
          by_cases hm : k = M
          · subst hm
            rw [if_pos rfl, if_pos ⟨by simpa using hb, f2⟩]
          · rw [if_neg (by omega), g2 k]
            by_cases h : sy bs M < k ∧ k < M
            · rw [if_pos h, if_pos ⟨f3 k h.1 h.2, h.1⟩]
            · rw [if_neg h, if_neg (fun x => h ⟨x.2, by omega⟩)]
      rw [hl]
      by_cases h : bs.getD k false = false ∧ sy bs M < k
      · rw [if_pos h, if_pos ⟨h.1, .inr rfl⟩]
      · rw [if_neg h]
        simp only
        rw [g1 k]
        by_cases h5 : bs.getD k false = false
        · have h6 : (k : Int) < sy bs M := by
            by_cases he : (k : Int) = sy bs M
            · rw [f4 k he] at h5; cases h5
            · have : ¬ sy bs M < k := fun x => h ⟨h5, x⟩
              omega
          rw [if_pos ⟨h6, h5⟩, if_pos ⟨h5, .inr (by trivial)⟩]
        · rw [if_neg (fun x => h5 x.2), if_neg (fun x => h5 x.1)]
  have hr : (endF M bs P).refuses k = 0 := by
    show (if False then (8 : Int) else if (k : Int) < 0 ∨ 32768 ≤ (k : Int) then 1 else 0) = 0
    rw [if_neg (by simp), if_neg (by omega)]
  unfold Dk.read
  rw [if_neg (by rw [hr]; simp), hs]
  rfl
end Go.Proofs.Ythbbghkefekhfaa
