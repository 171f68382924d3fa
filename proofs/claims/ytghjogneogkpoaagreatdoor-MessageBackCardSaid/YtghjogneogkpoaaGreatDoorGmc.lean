/-
  What is proved: what is put is read again: numbers, texts, tags, pairs, requests, bodies, messages. Conditions as stated.
-/
import Derived.Test.YtghjogneogkpoaaGreatDoorGec
namespace Go.Proofs.YtghjogneogkpoaaGreatDoor.Sh
open Go.RowKit
set_option maxRecDepth 100000

theorem num_beTake (size n : Nat) (hn : n < 256 ^ size) : ∀ k, k ≤ size → Oct.num (Oct.beTake size n k) = n / 256 ^ (size - k) := by
  intro k
  induction k with
  | zero => intro _; rw [Oct.beTake_zero, Nat.sub_zero, Nat.div_eq_of_lt hn]; rfl
  | succ k ih =>
    intro hk
    rw [Oct.beTake_succ, Oct.num_snoc, ih (by omega)]
    have h1 : size - k = (size - (k + 1)) + 1 := by omega
    have h2 : (Oct.beAt size n k).toNat = n / 256 ^ (size - (k + 1)) % 256 := by
      have := Oct.beAt_toNat size n k
      rw [show size - 1 - k = size - (k + 1) by omega] at this
      omega
    rw [h2, h1, Nat.pow_succ, ← Nat.div_div_eq_div_mul]
    omega
theorem num_be (size n : Nat) (hn : n < 256 ^ size) : Oct.num (Oct.be size n) = n := by
  rw [Oct.be, num_beTake size n hn size (Nat.le_refl _), Nat.sub_self, Nat.pow_zero, Nat.div_one]

theorem tk_put {k : Nat} {a r : List UInt8} (h : a.length = k) : Oct.tkOut (a ++ r) false (k : Int) = a ∧ Oct.tkRem (a ++ r) false (k : Int) = r ∧ Oct.fits (a ++ r) false (k : Int) = true := by
  have hf : Oct.fits (a ++ r) false (k : Int) = true := by simp [Oct.fits, h]; omega
  subst h
  refine ⟨?_, ?_, hf⟩
  · simp [Oct.tkOut, hf]
  · simp [Oct.tkRem, hf]
theorem cWord_put (n : Nat) (r : List UInt8) (h : n < 18446744073709551616) : cWord (be 8 n ++ r, false) = (n, (r, false)) := by
  obtain ⟨h1, h2, h3⟩ := tk_put (k := 8) (a := be 8 n) (r := r) (be_length _ _)
  have e : Oct.num (be 8 n) = n := num_be 8 n (by omega)
  simp only [cWord]
  rw [show (8 : Int) = ((8 : Nat) : Int) from rfl, h1, h2, h3, e]
  rfl
theorem cByte_put (u : UInt8) (r : List UInt8) : cByte (u :: r, false) = (u.toNat, (r, false)) := by
  obtain ⟨h1, h2, h3⟩ := tk_put (k := 1) (a := [u]) (r := r) rfl
  simp only [cByte]
  rw [show (1 : Int) = ((1 : Nat) : Int) from rfl, show u :: r = [u] ++ r from rfl, h1, h2, h3]
  simp [Oct.num]
theorem cTag_put (t r : List UInt8) (h : t.length = 32) : cTag (t ++ r, false) = (t, (r, false)) := by
  obtain ⟨h1, h2, h3⟩ := tk_put (k := 32) (a := t) (r := r) h
  simp only [cTag, cRaw]
  rw [show (((32 : Nat) : Int)) = ((32 : Nat) : Int) from rfl, h1, h2, h3]
  simp [h]
theorem cText_put (most : Nat) (s : ByteArray) (r : List UInt8) (h : s.size ≤ most) (hm : most ≤ 65535) : cText most (txtB s ++ r, false) = (s, (r, false)) := by
  have hl : (txtB s).length = 2 + s.size := txtB_len s
  obtain ⟨a1, a2, a3⟩ := tk_put (k := 2) (a := be 2 s.size) (r := s.data.toList ++ r) (be_length _ _)
  have hn : Oct.num (be 2 s.size) = s.size := num_be 2 s.size (by omega)
  have e : txtB s ++ r = be 2 s.size ++ (s.data.toList ++ r) := by simp [txtB]
  have hz : Oct.tsz (txtB s ++ r) (most : Int) = ((2 + s.size : Nat) : Int) := by
    rw [e, Oct.tsz, show (2 : Int) = ((2 : Nat) : Int) from rfl, a1, a3, hn, if_pos ⟨rfl, by omega⟩]
    omega
  obtain ⟨b1, b2, b3⟩ := tk_put (k := 2 + s.size) (a := txtB s) (r := r) hl
  simp only [cText]
  rw [hz, b1, b2, b3]
  have hd : (txtB s).drop 2 = s.data.toList := by
    rw [txtB, List.drop_left' (be_length _ _)]
  rw [hd]
  simp [Oct.str]
theorem cDeps_put : ∀ (l : List Nat) (r : List UInt8), (∀ x ∈ l, x < 18446744073709551616) → ∀ (a : List Nat) (n : Nat) (s : Cst), cDeps n s = (a, (depsB l ++ r, false)) → cDeps (n + l.length) s = (a ++ l, (r, false))
  | [], r, _, a, n, s, h => by simpa [depsB] using h
  | x :: l, r, hx, a, n, s, h => by
    have h1 : cDeps (n + 1) s = (a ++ [x], (depsB l ++ r, false)) := by
      rw [cDeps, h]
      have e : depsB (x :: l) ++ r = be 8 x ++ (depsB l ++ r) := by simp [depsB]
      rw [e, cWord_put x _ (hx x (by simp))]
    have := cDeps_put l r (fun y hy => hx y (by simp [hy])) (a ++ [x]) (n + 1) s h1
    rw [List.length_cons, show n + (l.length + 1) = n + 1 + l.length by omega, this]
    simp
theorem byteOf_nat {i : Int} (h : 0 ≤ i ∧ i < 256) : ((byteOf i).toNat : Int) = i := byteOf_val h
theorem rdPairs_put : ∀ (l : List (Int × Nat)) (r : List UInt8), (∀ p ∈ l, 0 ≤ p.1 ∧ p.1 < 256 ∧ p.2 < 18446744073709551616) → ∀ (a : List (Int × Nat)) (n : Nat) (s : Cst), rdPairs n s = (a, (pairsB l ++ r, false)) → rdPairs (n + l.length) s = (a ++ l, (r, false))
  | [], r, _, a, n, s, h => by simpa [pairsB] using h
  | p :: l, r, hx, a, n, s, h => by
    have hp := hx p (by simp)
    have h1 : rdPairs (n + 1) s = (a ++ [p], (pairsB l ++ r, false)) := by
      rw [rdPairs, h]
      have e : pairsB (p :: l) ++ r = byteOf p.1 :: (be 8 p.2 ++ (pairsB l ++ r)) := by simp [pairsB, pairB]
      rw [e, cByte_put, cWord_put p.2 _ hp.2.2]
      have : ((byteOf p.1).toNat : Int) = p.1 := byteOf_nat ⟨hp.1, hp.2.1⟩
      simp only [this]
    have := rdPairs_put l r (fun y hy => hx y (by simp [hy])) (a ++ [p]) (n + 1) s h1
    rw [List.length_cons, show n + (l.length + 1) = n + 1 + l.length by omega, this]
    simp
theorem rdReq_put (q : MReq) (r : List UInt8) (hq : reqMay q = true) (ha : q.op.amount < 18446744073709551616) : rdReq (reqB q ++ r, false) = ({ q with tag := noTag }, (r, false)) := by
  simp only [reqMay, isCnt, opMay, Bool.and_eq_true, decide_eq_true_eq] at hq
  obtain ⟨hc, ht, ⟨hk, hto⟩, hv, ho⟩ := hq
  have e : reqB q ++ r = byteOf q.client :: (q.op.kind :: (be 8 q.time ++ (be 8 q.op.amount ++ (txtB q.op.key ++ (txtB q.op.value ++ (txtB q.op.old ++ (txtB q.op.to ++ r))))))) := by simp [reqB]
  have hcl : ((byteOf q.client).toNat : Int) = q.client := byteOf_nat (by omega)
  rw [e]
  simp only [rdReq, cByte_put, cWord_put q.time _ (by omega), cWord_put q.op.amount _ ha, cText_put 32 q.op.key _ hk (by omega), cText_put 128 q.op.value _ hv (by omega), cText_put 128 q.op.old _ ho (by omega), cText_put 32 q.op.to _ hto (by omega), hcl]
  simp
/-- What stands in a message: none of its numbers is too great. -/
theorem rdBody_put (b : MBody) (r : List UInt8) (hb : b.Wf) (hm : b.may) (ha : b.req.op.amount < 18446744073709551616) : ({ (rdBody b.kind.toNat (bodyB b ++ r, false)).1 with kind := b.kind, qa := b.qa, qc := b.qc } : MBody) = b ∧ (rdBody b.kind.toNat (bodyB b ++ r, false)).2 = (r, false) := by
  obtain ⟨hk, hv, hs⟩ := hm
  obtain ⟨e1, e2, e3, e4, e5⟩ := hs
  have hv2 : b.view < 18446744073709551616 := by omega
  rcases kinds_of hk with ⟨e, hr⟩ | e | e | e | ⟨e, hp⟩ | e
  · have hbd : bodyB b ++ r = be 8 b.view ++ (reqB b.req ++ (b.req.tag ++ r)) := by simp [bodyB, e]
    rw [hbd]
    simp only [rdBody, e, show (1 : UInt8).toNat = 1 from rfl, if_true, rdPrepare, cWord_put _ _ hv2, rdReq_put _ _ hr ha, cTag_put _ _ hb.1]
    simp only [bodyOwn, e, if_true] at e1 e2 e3 e4 e5
    cases b
    simp_all [zeroBody]
  · have hkk : b.k < 18446744073709551616 := by simp [kindMay, e, isCnt] at hk; omega
    have hbd : bodyB b ++ r = be 8 b.view ++ (be 8 b.k ++ r) := by simp [bodyB, e]
    rw [hbd]
    simp only [rdBody, e, show (2 : UInt8).toNat = 2 from rfl, show ¬ ((2 : Nat) = 1) by decide, if_false, if_true, rdCommit, cWord_put _ _ hv2, cWord_put _ _ hkk]
    simp [bodyOwn, e] at e1 e2 e3 e4 e5
    cases b
    simp_all [zeroBody]
  · have hbd : bodyB b ++ r = be 8 b.view ++ r := by simp [bodyB, e]
    rw [hbd]
    simp only [rdBody, e, show (3 : UInt8).toNat = 3 from rfl, show ¬ ((3 : Nat) = 1) by decide, show ¬ ((3 : Nat) = 2) by decide, if_false, true_or, if_true, rdView, cWord_put _ _ hv2]
    simp [bodyOwn, e] at e1 e2 e3 e4 e5
    cases b
    simp_all [zeroBody]
  · have hbd : bodyB b ++ r = be 8 b.view ++ r := by simp [bodyB, e]
    rw [hbd]
    simp only [rdBody, e, show (5 : UInt8).toNat = 5 from rfl, show ¬ ((5 : Nat) = 1) by decide, show ¬ ((5 : Nat) = 2) by decide, if_false, or_true, if_true, rdView, cWord_put _ _ hv2]
    simp [bodyOwn, e] at e1 e2 e3 e4 e5
    cases b
    simp_all [zeroBody]
  · have hpp := prs_all hp
    have hbd : bodyB b ++ r = be 8 b.view ++ (byteOf (b.qs.length : Int) :: (pairsB b.qs ++ r)) := by simp [bodyB, e]
    have hl : (byteOf (b.qs.length : Int)).toNat = b.qs.length := by have := byteOf_nat (i := (b.qs.length : Int)) (by omega); omega
    have hpr := rdPairs_put b.qs r (fun p hp => by have := hpp.1 p hp; omega) [] 0 (pairsB b.qs ++ r, false) rfl
    rw [Nat.zero_add, List.nil_append] at hpr
    rw [hbd]
    simp only [rdBody, e, show (4 : UInt8).toNat = 4 from rfl, show ¬ ((4 : Nat) = 1) by decide, show ¬ ((4 : Nat) = 2) by decide, show ¬ ((4 : Nat) = 3 ∨ (4 : Nat) = 5) by decide, if_false, if_true, rdNewView, cWord_put _ _ hv2, cByte_put, hl, hpr]
    simp [bodyOwn, e] at e1 e2 e3 e4 e5
    cases b
    simp_all [zeroBody]
  · have hkk : b.k < 18446744073709551616 := by simp [kindMay, e, isCnt] at hk; omega
    have hbd : bodyB b ++ r = be 8 b.k ++ (b.dig ++ r) := by simp [bodyB, e]
    rw [hbd]
    simp only [rdBody, e, show (6 : UInt8).toNat = 6 from rfl, show ¬ ((6 : Nat) = 1) by decide, show ¬ ((6 : Nat) = 2) by decide, show ¬ ((6 : Nat) = 3 ∨ (6 : Nat) = 5) by decide, show ¬ ((6 : Nat) = 4) by decide, if_false, if_true, rdCheck, cWord_put _ _ hkk, cTag_put _ _ hb.2]
    simp [bodyOwn, e] at e1 e2 e3 e4 e5
    cases b
    simp_all [zeroBody]
end Go.Proofs.YtghjogneogkpoaaGreatDoor.Sh
