/-
  What is proved: what is read is put as it stood: numbers, texts, tags, pairs, requests, bodies, messages. Conditions as stated.
-/
import Derived.Test.YtghjogneogkpoaaGreatDoorGqc
namespace Go.Proofs.YtghjogneogkpoaaGreatDoor.Sh
open Go.RowKit
set_option maxRecDepth 100000


theorem be_num : ∀ (k : Nat) (bs : List UInt8), bs.length = k → be k (Oct.num bs) = bs
  | 0, bs, h => by rw [List.eq_nil_of_length_eq_zero h]; rfl
  | k + 1, bs, h => by
    have hne : bs ≠ [] := fun e => by rw [e] at h; cases h
    obtain ⟨l, b, rfl⟩ : ∃ l b, bs = l ++ [b] := ⟨bs.dropLast, bs.getLast hne, (List.dropLast_concat_getLast hne).symm⟩
    have hl : l.length = k := by simpa using h
    have ih := be_num k l hl
    rw [Oct.num_snoc]
    have hb := UInt8.toNat_lt b
    have e1 : ∀ i, i < k → beAt (k + 1) (Oct.num l * 256 + b.toNat) i = beAt k (Oct.num l) i := fun i hi => by
      unfold beAt
      congr 1
      rw [show k + 1 - 1 - i = (k - 1 - i) + 1 by omega, Nat.pow_succ', ← Nat.div_div_eq_div_mul, show (Oct.num l * 256 + b.toNat) / 256 = Oct.num l by omega]
    have e2 : beAt (k + 1) (Oct.num l * 256 + b.toNat) k = b := by
      unfold beAt
      rw [show k + 1 - 1 - k = 0 by omega, Nat.pow_zero, Nat.div_one]
      apply UInt8.toNat_inj.1
      simp
    show beTake (k + 1) _ (k + 1) = _
    unfold beTake
    rw [List.range_succ, List.map_append, List.map_singleton, e2]
    congr 1
    refine Eq.trans ?_ ih
    unfold be beTake
    exact List.map_congr_left fun i hi => e1 i (List.mem_range.1 hi)
theorem fits_of {rem : List UInt8} {sp : Bool} {k : Int} (h : (!Oct.fits rem sp k) = false) : sp = false ∧ 0 ≤ k ∧ k ≤ (rem.length : Int) := by
  simpa [Oct.fits] using h
theorem cut_inv {rem r : List UInt8} {sp : Bool} {k : Int} (h1 : Oct.tkRem rem sp k = r) (h2 : (!Oct.fits rem sp k) = false) : sp = false ∧ rem = Oct.tkOut rem sp k ++ r ∧ ((Oct.tkOut rem sp k).length : Int) = k := by
  obtain ⟨h3, h4, h5⟩ := fits_of h2
  have hf : Oct.fits rem sp k = true := by simpa using h2
  simp only [Oct.tkRem, hf, if_true] at h1
  simp only [Oct.tkOut, hf, if_true]
  exact ⟨h3, by rw [← h1, List.take_append_drop], by rw [List.length_take]; omega⟩
theorem cWord_inv {s : Cst} {r : List UInt8} (h : (cWord s).2 = (r, false)) : s = (be 8 (cWord s).1 ++ r, false) := by
  simp only [cWord, Prod.mk.injEq] at h
  obtain ⟨h1, h2, h3⟩ := cut_inv h.1 h.2
  have e : be 8 (cWord s).1 = Oct.tkOut s.1 s.2 8 := be_num 8 _ (by omega)
  rw [e, ← h2, ← h1]
theorem cByte_inv {s : Cst} {r : List UInt8} (h : (cByte s).2 = (r, false)) : s = (UInt8.ofNat (cByte s).1 :: r, false) := by
  simp only [cByte, Prod.mk.injEq] at h
  obtain ⟨h1, h2, h3⟩ := cut_inv h.1 h.2
  obtain ⟨u, hu⟩ := List.length_eq_one_iff.1 (show (Oct.tkOut s.1 s.2 1).length = 1 by omega)
  have e : (cByte s).1 = u.toNat := by simp [cByte, hu, Oct.num]
  rw [e]
  rw [hu] at h2
  have : UInt8.ofNat u.toNat = u := by simp
  rw [this]
  rw [← h1]
  show s = ([u] ++ r, s.2)
  rw [← h2]
theorem cTag_inv {s : Cst} {r : List UInt8} (h : (cTag s).2 = (r, false)) : s = ((cTag s).1 ++ r, false) ∧ (cTag s).1.length = 32 := by
  refine ⟨?_, cTag_len s⟩
  simp only [cTag, cRaw, Prod.mk.injEq] at h
  obtain ⟨h1, h2, h3⟩ := cut_inv h.1 h.2
  have e : (cTag s).1 = Oct.tkOut s.1 s.2 ((32 : Nat) : Int) := by
    simp only [cTag, cRaw]
    rw [show (Oct.tkOut s.1 s.2 ((32 : Nat) : Int)).length = 32 by omega]
    simp
  rw [e, ← h2, ← h1]
theorem cText_inv {most : Nat} {s : Cst} {r : List UInt8} (h : (cText most s).2 = (r, false)) : s = (txtB (cText most s).1 ++ r, false) ∧ (cText most s).1.size ≤ most := by
  simp only [cText, Prod.mk.injEq] at h
  obtain ⟨h1, h2, h3⟩ := cut_inv h.1 h.2
  have h0 : 0 ≤ Oct.tsz s.1 (most : Int) := (fits_of h.2).2.1
  unfold Oct.tsz at h0 h2 h3
  split at h0
  case isFalse => omega
  case isTrue hc =>
    rw [if_pos hc] at h2 h3
    obtain ⟨hc1, hc2⟩ := hc
    have hlen : (Oct.tkOut s.1 false 2).length = 2 := by
      have := (fits_of (sp := false) (rem := s.1) (k := 2) (by rw [hc1]; rfl)).2.2
      simp only [Oct.tkOut, hc1, if_true]
      rw [List.length_take]
      omega
    have hb2 : be 2 (Oct.num (Oct.tkOut s.1 false 2)) = Oct.tkOut s.1 false 2 := be_num 2 _ hlen
    obtain ⟨n, hn⟩ : ∃ n, Oct.num (Oct.tkOut s.1 false 2) = n := ⟨_, rfl⟩
    rw [hn] at h2 h3 hb2 hc2
    have e1 : (cText most s).1 = Oct.str ((Oct.tkOut s.1 s.2 (2 + (n : Int))).drop 2) := by
      simp only [cText]
      rw [show Oct.tsz s.1 (most : Int) = 2 + (n : Int) by rw [Oct.tsz, hn, if_pos ⟨hc1, hc2⟩]]
    have hsz : (cText most s).1.size = n := by
      rw [e1]
      show ((Oct.tkOut s.1 s.2 (2 + (n : Int))).drop 2).toArray.size = n
      simp
      omega
    have ht2 : (Oct.tkOut s.1 s.2 (2 + (n : Int))).take 2 = Oct.tkOut s.1 false 2 := by
      have hf2 : Oct.fits s.1 s.2 (2 + (n : Int)) = true := by
        have := h.2
        rw [show Oct.tsz s.1 (most : Int) = 2 + (n : Int) by rw [Oct.tsz, hn, if_pos ⟨hc1, hc2⟩]] at this
        simpa using this
      simp only [Oct.tkOut, hf2, hc1, if_true]
      rw [List.take_take]
      congr 1
      omega
    have e2 : txtB (cText most s).1 = Oct.tkOut s.1 s.2 (2 + (n : Int)) := by
      rw [txtB, hsz, hb2, ← ht2, e1]
      simp [Oct.str, List.take_append_drop]
    refine ⟨?_, by omega⟩
    rw [e2, ← h2, ← h1]
theorem cDeps_sp : ∀ (n : Nat) (s : Cst), s.2 = true → (cDeps n s).2.2 = true
  | 0, _, h => h
  | n + 1, s, h => by
    have := cDeps_sp n s h
    rw [cDeps]
    simp [cWord, Oct.fits, this]
theorem cDeps_inv : ∀ (n : Nat) (s : Cst) (r : List UInt8), (cDeps n s).2 = (r, false) → s = (depsB (cDeps n s).1 ++ r, false)
  | 0, s, r, h => by simpa [cDeps, depsB] using h
  | n + 1, s, r, h => by
    have h1 : (cWord (cDeps n s).2).2 = (r, false) := h
    have h2 := cDeps_inv n s (be 8 (cWord (cDeps n s).2).1 ++ r) (cWord_inv h1)
    rw [h2]
    have e : (cDeps (n + 1) s).1 = (cDeps n s).1 ++ [(cWord (cDeps n s).2).1] := rfl
    rw [← h2, e]
    simp only [depsB, List.flatMap_append, List.flatMap_singleton, List.append_assoc]
    exact h2
theorem rdPairs_inv : ∀ (n : Nat) (s : Cst) (r : List UInt8), (rdPairs n s).2 = (r, false) → s = (pairsB (rdPairs n s).1 ++ r, false)
  | 0, s, r, h => by simpa [rdPairs, pairsB] using h
  | n + 1, s, r, h => by
    have h1 : (cWord (cByte (rdPairs n s).2).2).2 = (r, false) := h
    have h2 := cWord_inv h1
    have h3 := cByte_inv h2
    have h4 := rdPairs_inv n s _ h3
    have e : (rdPairs (n + 1) s).1 = (rdPairs n s).1 ++ [(((cByte (rdPairs n s).2).1 : Int), (cWord (cByte (rdPairs n s).2).2).1)] := rfl
    rw [e]
    simp only [pairsB, List.flatMap_append, List.flatMap_singleton, List.append_assoc, pairB]
    have hb : byteOf ((cByte (rdPairs n s).2).1 : Int) = UInt8.ofNat (cByte (rdPairs n s).2).1 := by simp [byteOf]
    rw [hb]
    exact h4
theorem rdReq_inv (s : Cst) (r : List UInt8) (h : (rdReq s).2 = (r, false)) : s = (reqB (rdReq s).1 ++ r, false) := by
  simp only [rdReq] at h ⊢
  obtain ⟨h8, _⟩ := cText_inv h
  obtain ⟨h7, _⟩ := cText_inv h8
  obtain ⟨h6, _⟩ := cText_inv h7
  obtain ⟨h5, _⟩ := cText_inv h6
  have h4 := cWord_inv h5
  have h3 := cWord_inv h4
  have h2 := cByte_inv h3
  have h1 := cByte_inv h2
  have hb : byteOf ((cByte s).1 : Int) = UInt8.ofNat (cByte s).1 := by simp [byteOf]
  simp only [reqB, hb, List.cons_append, List.append_assoc]
  exact h1
theorem ofNat_u8 {k n : Nat} (hk : k < 256) (hn : n < 256) (h : UInt8.ofNat k = UInt8.ofNat n) : k = n := by
  have := congrArg UInt8.toNat h
  simp at this
  omega
/-- A body that was read, and may be, has the bytes of which it was read. -/
theorem rdBody_inv (k : Nat) (s : Cst) (r : List UInt8) (hk : k < 256) (h : (rdBody k s).2 = (r, false)) (hm : kindMay { (rdBody k s).1 with kind := UInt8.ofNat k } = true) : s = (bodyB { (rdBody k s).1 with kind := UInt8.ofNat k } ++ r, false) := by
  have key : ∀ n : Nat, n < 256 → UInt8.ofNat k = UInt8.ofNat n → k = n := fun n hn he => ofNat_u8 hk hn he
  rcases kinds_of hm with ⟨e, _⟩ | e | e | e | ⟨e, hp⟩ | e
  · obtain rfl := key 1 (by omega) e
    simp only [rdBody, if_true, rdPrepare] at h ⊢
    have h3 := (cTag_inv h).1
    have h2 := rdReq_inv _ _ h3
    have h1 := cWord_inv h2
    simp only [bodyB, show UInt8.ofNat 1 = 1 from rfl, if_true, List.append_assoc]
    exact h1
  · obtain rfl := key 2 (by omega) e
    simp only [rdBody, show ¬ ((2 : Nat) = 1) by decide, if_false, if_true, rdCommit] at h ⊢
    have h2 := cWord_inv h
    have h1 := cWord_inv h2
    simp only [bodyB, show UInt8.ofNat 2 = 2 from rfl, show ¬ ((2 : UInt8) = 1) by decide, if_false, if_true, List.append_assoc]
    exact h1
  · obtain rfl := key 3 (by omega) e
    simp only [rdBody, show ¬ ((3 : Nat) = 1) by decide, show ¬ ((3 : Nat) = 2) by decide, if_false, true_or, if_true, rdView] at h ⊢
    have h1 := cWord_inv h
    simp only [bodyB, show UInt8.ofNat 3 = 3 from rfl, show ¬ ((3 : UInt8) = 1) by decide, show ¬ ((3 : UInt8) = 2) by decide, show ¬ ((3 : UInt8) = 4) by decide, show ¬ ((3 : UInt8) = 6) by decide, if_false]
    exact h1
  · obtain rfl := key 5 (by omega) e
    simp only [rdBody, show ¬ ((5 : Nat) = 1) by decide, show ¬ ((5 : Nat) = 2) by decide, if_false, or_true, if_true, rdView] at h ⊢
    have h1 := cWord_inv h
    simp only [bodyB, show UInt8.ofNat 5 = 5 from rfl, show ¬ ((5 : UInt8) = 1) by decide, show ¬ ((5 : UInt8) = 2) by decide, show ¬ ((5 : UInt8) = 4) by decide, show ¬ ((5 : UInt8) = 6) by decide, if_false]
    exact h1
  · obtain rfl := key 4 (by omega) e
    simp only [rdBody, show ¬ ((4 : Nat) = 1) by decide, show ¬ ((4 : Nat) = 2) by decide, show ¬ ((4 : Nat) = 3 ∨ (4 : Nat) = 5) by decide, if_false, if_true, rdNewView] at h ⊢
    have h3 := rdPairs_inv _ _ _ h
    have h2 := cByte_inv h3
    have h1 := cWord_inv h2
    have hl : (rdPairs (cByte (cWord s).2).1 (cByte (cWord s).2).2).1.length = (cByte (cWord s).2).1 := rdPairs_len _ _
    simp only [bodyB, show UInt8.ofNat 4 = 4 from rfl, show ¬ ((4 : UInt8) = 1) by decide, show ¬ ((4 : UInt8) = 2) by decide, if_false, if_true, hl, List.append_assoc, List.cons_append]
    have hb : byteOf ((cByte (cWord s).2).1 : Int) = UInt8.ofNat (cByte (cWord s).2).1 := by simp [byteOf]
    rw [hb]
    exact h1
  · obtain rfl := key 6 (by omega) e
    simp only [rdBody, show ¬ ((6 : Nat) = 1) by decide, show ¬ ((6 : Nat) = 2) by decide, show ¬ ((6 : Nat) = 3 ∨ (6 : Nat) = 5) by decide, show ¬ ((6 : Nat) = 4) by decide, if_false, if_true, rdCheck] at h ⊢
    have h2 := (cTag_inv h).1
    have h1 := cWord_inv h2
    simp only [bodyB, show UInt8.ofNat 6 = 6 from rfl, show ¬ ((6 : UInt8) = 1) by decide, show ¬ ((6 : UInt8) = 2) by decide, show ¬ ((6 : UInt8) = 4) by decide, if_false, if_true, List.append_assoc]
    exact h1
theorem rdMsg_inv (s : Cst) (r : List UInt8) (h : (rdMsg s).2 = (r, false)) (hm : (rdMsg s).1.body.may) : s = (msgB (rdMsg s).1 ++ r, false) := by
  simp only [rdMsg] at h hm ⊢
  have h4 := rdBody_inv _ _ _ (cByte_lt _) h hm.1
  have h3 := cByte_inv h4
  have h2 := cDeps_inv _ _ _ h3
  have h1 := cByte_inv h2
  have hl : (cDeps 11 (cByte s).2).1.length = 11 := cDeps_len _ _
  have hb : byteOf ((cByte s).1 : Int) = UInt8.ofNat (cByte s).1 := by simp [byteOf]
  simp only [msgB, depM, hl, hb, Nat.sub_self, List.replicate_zero, List.append_nil, List.cons_append, List.append_assoc]
  exact h1
theorem may_got (n : Nat) (M : MMsg) (t : List UInt8) : (gotM n M t).may → M.body.may := fun h => h.2.2
/-- What is got is put as it stood. -/
theorem put_got {bs : List UInt8} (h : endG bs = ([], false)) (hm : (gotG bs).may) : putM (gotG bs) = bs := by
  rw [putM, if_pos hm]
  obtain ⟨h1, _⟩ := cTag_inv (show (cTag (rdMsg (cWord (bs, false)).2).2).2 = ([], false) from h)
  have h2 := rdMsg_inv _ _ h1 (may_got _ _ _ hm)
  have h3 := cWord_inv h2
  have h4 := (Prod.mk.inj h3).1
  simp only [List.append_nil] at h4
  exact h4.symm
end Go.Proofs.YtghjogneogkpoaaGreatDoor.Sh
