/-
  What is proved: plain facts on moves: what goes there and back. Conditions as stated.
-/
import Derived.Test.YtflenghnmflenaaDoorMe
import Derived.Test.YtflenghnmflenaaDoorMc
namespace Go.Proofs.YtflenghnmflenaaDoor
open Go.RowKit

theorem dig_ok {d : Nat} (h : d < 10) : Lib.digitVal (UInt8.ofNat (48 + d)) = some d := by
  have e : (UInt8.ofNat (48 + d)).toNat = 48 + d := by simp; omega
  rw [Lib.digitVal, e, if_pos (by omega)]
  congr 1
  omega
theorem from_app (m : List UInt8) : ∀ (l : List UInt8) (acc n : Nat), Lib.decFrom acc l = some n → Lib.decFrom acc (l ++ m) = Lib.decFrom n m
  | [], acc, n, h => by
    simp only [Lib.decFrom, Option.some.injEq] at h
    rw [h]; rfl
  | b :: r, acc, n, h => by
    simp only [Lib.decFrom, List.cons_append] at h ⊢
    cases hd : Lib.digitVal b with
    | none => rw [hd] at h; cases h
    | some d => rw [hd] at h; exact from_app m r _ n h
theorem from_dec (n : Nat) : Lib.decFrom 0 (Lib.decDigits n) = some n := by
  induction n using Nat.strongRecOn with
  | ind n ih =>
    by_cases h : n < 10
    · rw [Lib.decDigits_one h, Lib.decFrom, dig_ok h]
      simp [Lib.decFrom]
    · rw [Lib.decDigits, dif_neg h, from_app _ _ _ _ (ih (n / 10) (by omega)), Lib.decFrom, dig_ok (by omega)]
      simp only [Lib.decFrom]
      congr 1
      omega
theorem num_dec {n : Nat} (h : n ≤ topN) : numOf (dec n) = some n := by
  have hl : (dec n).data.toList.length ≤ 18 := by
    rw [dec_list, Lib.decDigits_length]
    have := nDigits_le 15 n (by unfold topN at h; omega)
    omega
  rw [num_short hl, dec_list]
  have hd : Lib.decNat (Lib.decDigits n) = some n := by
    have hne : Lib.decDigits n ≠ [] := by rw [dD_step]; simp
    unfold Lib.decNat
    rw [if_neg (by simpa using hne)]
    exact from_dec n
  rw [hd]
  simp [h]
theorem rise_ext_mem : ∀ {xs ys : List It}, Rise xs → Rise ys → (∀ p, p ∈ xs ↔ p ∈ ys) → xs = ys
  | [], [], _, _, _ => rfl
  | [], y :: ys, _, _, h => absurd ((h y).2 (by simp)) (by simp)
  | x :: xs, [], _, _, h => absurd ((h x).1 (by simp)) (by simp)
  | x :: xs, y :: ys, hx, hy, h => by
    obtain ⟨hx1, hx2⟩ := List.pairwise_cons.1 hx
    obtain ⟨hy1, hy2⟩ := List.pairwise_cons.1 hy
    have e : x = y := by
      rcases List.mem_cons.1 ((h x).1 (by simp)) with e | h1
      · exact e
      · rcases List.mem_cons.1 ((h y).2 (by simp)) with e | h2
        · exact e.symm
        · have a1 := hy1 x h1
          have a2 := hx1 y h2
          rw [klt_asymm a1] at a2
          cases a2
    subst e
    rw [rise_ext_mem hx2 hy2 fun p => ?_]
    constructor
    · intro hp
      rcases List.mem_cons.1 ((h p).1 (List.mem_cons_of_mem _ hp)) with e | hq
      · subst e
        have := hx1 p hp
        rw [klt_irrefl] at this; cases this
      · exact hq
    · intro hp
      rcases List.mem_cons.1 ((h p).2 (List.mem_cons_of_mem _ hp)) with e | hq
      · subst e
        have := hy1 p hp
        rw [klt_irrefl] at this; cases this
      · exact hq
theorem rise_ext {xs ys : List It} (hx : Rise xs) (hy : Rise ys) (h : ∀ q, hasK xs q = hasK ys q ∧ valK xs q = valK ys q) : xs = ys :=
  rise_ext_mem hx hy fun ⟨q, v⟩ => by rw [has_iff hx, has_iff hy, (h q).1, (h q).2]
theorem del_other {xs : List It} (h : Rise xs) {k q : ByteArray} (hk : hasK xs k = true) (hne : q ≠ k) : hasK (delK xs k) q = hasK xs q ∧ valK (delK xs k) q = valK xs q := by
  have hd := rise_del h k
  have hto : ∀ p : It, p ∈ delK xs k → p ∈ xs := fun p hp => by
    unfold delK at hp
    rcases List.mem_append.1 hp with hp | hp
    · exact List.mem_of_mem_take hp
    · exact List.mem_of_mem_drop hp
  have hof : ∀ p : It, p ∈ xs → p.1 ≠ k → p ∈ delK xs k := fun p hp hpk => by
    have e : xs = xs.take (posOf xs k) ++ (k, valK xs k) :: xs.drop (posOf xs k + 1) := by
      obtain ⟨hl, e⟩ := List.getElem?_eq_some_iff.1 (mem_of_has hk)
      rw [← e, ← List.drop_eq_getElem_cons hl, List.take_append_drop]
    rw [e] at hp
    unfold delK
    rcases List.mem_append.1 hp with hp | hp
    · exact List.mem_append_left _ hp
    · rcases List.mem_cons.1 hp with hp | hp
      · rw [hp] at hpk; exact absurd rfl hpk
      · exact List.mem_append_right _ hp
  cases hh : hasK xs q with
  | true =>
    have hm : (q, valK xs q) ∈ xs := (has_iff h).2 ⟨hh, rfl⟩
    exact (has_iff hd).1 (hof _ hm hne)
  | false =>
    have hn : hasK (delK xs k) q = false := by
      cases hx : hasK (delK xs k) q with
      | false => rfl
      | true =>
        exfalso
        have hm := hto _ ((has_iff hd).2 ⟨hx, rfl⟩)
        rw [((has_iff h).1 hm).1] at hh; cases hh
    exact ⟨hn, by rw [val_none hn, val_none hh]⟩

/-! ### moves -/
def mvO (a b : ByteArray) (n : Nat) : MOp := ⟨5, a, ⟨#[]⟩, ⟨#[]⟩, b, n⟩
def dlO (b : ByteArray) : MOp := ⟨3, b, ⟨#[]⟩, ⟨#[]⟩, ⟨#[]⟩, 0⟩
theorem may_mv {a b : ByteArray} {n : Nat} (h : mayOp (mvO a b n) = true) : mayK a = true ∧ mayK b = true ∧ b ≠ a ∧ 1 ≤ n ∧ n ≤ topN := by
  simp [mayOp, ownOp, mvO] at h
  obtain ⟨⟨h1, h2, h3, h4⟩, h5, _⟩ := h
  exact ⟨h5, h1, of_decide_eq_true h2, of_decide_eq_true h3, of_decide_eq_true h4⟩
theorem mv_may {a b : ByteArray} {n : Nat} (h1 : mayK a = true) (h2 : mayK b = true) (h3 : b ≠ a) (h4 : 1 ≤ n) (h5 : n ≤ topN) : mayOp (mvO a b n) = true := by
  simp [mayOp, ownOp, mvO]
  exact ⟨⟨h2, decide_eq_true h3, decide_eq_true h4, decide_eq_true h5⟩, h1, rfl⟩
theorem dl_may {b : ByteArray} (h : mayK b = true) : mayOp (dlO b) = true := by
  simp [mayOp, ownOp, dlO]
  exact ⟨h, rfl⟩
theorem do_mv {a b : ByteArray} {n : Nat} (xs : List It) (h : mayOp (mvO a b n) = true) : doR xs (mvO a b n) = moveR xs (mvO a b n) := by
  rw [doR, if_pos h]; rfl
theorem do_dl {b : ByteArray} (xs : List It) (h : mayOp (dlO b) = true) (hb : hasK xs b = true) : doR xs (dlO b) = ((0, valK xs b), delK xs b) := by
  rw [doR, if_pos h]
  show delR xs (dlO b) = _
  rw [delR, if_pos (show hasK xs (dlO b).key = true from hb)]
  rfl
/-- What lies there behind a move. -/
def mvd (xs : List It) (a b : ByteArray) (A B n : Nat) : List It := setK (setK xs a (dec (A - n))) b (dec (B + n))
theorem mv_ok {xs : List It} {a b : ByteArray} {n A B : Nat} (ha : hasK xs a = true) (h1 : numOf (valK xs a) = some A) (h2 : numAt xs b = some B) (hn : n ≤ A) (ht : B + n ≤ topN) (hf : fullK xs b = false) :
    moveR xs (mvO a b n) = ((0, dec (A - n)), mvd xs a b A B n) := by
  rw [moveR, if_pos (show hasK xs (mvO a b n).key = true from ha), show numOf (valK xs (mvO a b n).key) = some A from h1, show numAt xs (mvO a b n).to = some B from h2]
  show (if A < n then _ else _) = _
  rw [if_neg (by omega), if_neg (by show ¬ topN < B + n; omega), if_neg (by show ¬ fullK xs b = true; rw [hf]; simp)]
  rfl
theorem mvd_rise {xs : List It} (h : Rise xs) (a b : ByteArray) (A B n : Nat) : Rise (mvd xs a b A B n) := rise_set (rise_set h _ _) _ _
theorem mvd_a {xs : List It} (h : Rise xs) {a b : ByteArray} (hne : b ≠ a) (A B n : Nat) : hasK (mvd xs a b A B n) a = true ∧ valK (mvd xs a b A B n) a = dec (A - n) := by
  obtain ⟨e1, e2⟩ := has_other (rise_set h a (dec (A - n))) (k := b) (v := dec (B + n)) (q := a) (fun e => hne e.symm)
  obtain ⟨_, e3, e4⟩ := has_set h a (dec (A - n))
  exact ⟨e1.trans e3, e2.trans e4⟩
theorem mvd_b {xs : List It} (h : Rise xs) (a b : ByteArray) (A B n : Nat) : hasK (mvd xs a b A B n) b = true ∧ valK (mvd xs a b A B n) b = dec (B + n) := (has_set (rise_set h _ _) b (dec (B + n))).2
theorem mvd_o {xs : List It} (h : Rise xs) {a b q : ByteArray} (h1 : q ≠ a) (h2 : q ≠ b) (A B n : Nat) : hasK (mvd xs a b A B n) q = hasK xs q ∧ valK (mvd xs a b A B n) q = valK xs q := by
  obtain ⟨e1, e2⟩ := has_other (rise_set h a (dec (A - n))) (k := b) (v := dec (B + n)) h2
  obtain ⟨e3, e4⟩ := has_other h (k := a) (v := dec (A - n)) h1
  exact ⟨e1.trans e3, e2.trans e4⟩
theorem full_has {xs : List It} {k : ByteArray} (h : hasK xs k = true) : fullK xs k = false := by rw [fullK, h]; rfl
/-- Back again. -/
theorem mv_back {xs : List It} (h : Rise xs) {a b : ByteArray} {n A B : Nat} (hne : b ≠ a) (hn : n ≤ A) (hA : A ≤ topN) (ht : B + n ≤ topN) :
    moveR (mvd xs a b A B n) (mvO b a n) = ((0, dec B), mvd (mvd xs a b A B n) b a (B + n) (A - n) n) := by
  obtain ⟨a1, a2⟩ := mvd_a h hne A B n
  obtain ⟨b1, b2⟩ := mvd_b h a b A B n
  have := mv_ok (xs := mvd xs a b A B n) (a := b) (b := a) (n := n) (A := B + n) (B := A - n) b1 (by rw [b2, num_dec ht]) (by rw [numAt, if_pos a1, a2, num_dec (by omega)]) (by omega) (by omega) (full_has a1)
  rwa [show B + n - n = B by omega] at this
theorem back_facts {xs : List It} (h : Rise xs) {a b : ByteArray} {n A B : Nat} (hne : b ≠ a) (hn : n ≤ A) :
    (hasK (mvd (mvd xs a b A B n) b a (B + n) (A - n) n) a = true ∧ valK (mvd (mvd xs a b A B n) b a (B + n) (A - n) n) a = dec A) ∧ (hasK (mvd (mvd xs a b A B n) b a (B + n) (A - n) n) b = true ∧ valK (mvd (mvd xs a b A B n) b a (B + n) (A - n) n) b = dec B) ∧
    ∀ q, q ≠ a → q ≠ b → hasK (mvd (mvd xs a b A B n) b a (B + n) (A - n) n) q = hasK xs q ∧ valK (mvd (mvd xs a b A B n) b a (B + n) (A - n) n) q = valK xs q := by
  have h1 := mvd_rise h a b A B n
  have e1 := mvd_b h1 b a (B + n) (A - n) n
  have e2 := mvd_a h1 (a := b) (b := a) (fun e => hne e.symm) (B + n) (A - n) n
  rw [show A - n + n = A by omega] at e1
  rw [show B + n - n = B by omega] at e2
  refine ⟨e1, e2, fun q q1 q2 => ?_⟩
  obtain ⟨e3, e4⟩ := mvd_o h1 (a := b) (b := a) q2 q1 (B + n) (A - n) n
  obtain ⟨e5, e6⟩ := mvd_o h q1 q2 A B n
  exact ⟨e3.trans e5, e4.trans e6⟩
theorem back_there {xs : List It} (h : Rise xs) {a b : ByteArray} {n A B : Nat} (hne : b ≠ a) (hn : n ≤ A) (ha : hasK xs a = true) (hb : hasK xs b = true) (h1 : numOf (valK xs a) = some A) (h2 : numOf (valK xs b) = some B) :
    mvd (mvd xs a b A B n) b a (B + n) (A - n) n = xs := by
  obtain ⟨⟨a1, a2⟩, ⟨b1, b2⟩, ho⟩ := back_facts h (A := A) (B := B) hne hn
  refine rise_ext (mvd_rise (mvd_rise h _ _ _ _ _) _ _ _ _ _) h fun q => ?_
  by_cases q1 : q = a
  · subst q1
    rw [a1, a2, ha, (dec_of_num h1).1]; exact ⟨rfl, rfl⟩
  · by_cases q2 : q = b
    · subst q2
      rw [b1, b2, hb, (dec_of_num h2).1]; exact ⟨rfl, rfl⟩
    · exact ho q q1 q2
theorem back_new {xs : List It} (h : Rise xs) {a b : ByteArray} {n A : Nat} (hne : b ≠ a) (hn : n ≤ A) (ha : hasK xs a = true) (hb : hasK xs b = false) (h1 : numOf (valK xs a) = some A) :
    delK (mvd (mvd xs a b A 0 n) b a (0 + n) (A - n) n) b = xs := by
  obtain ⟨⟨a1, a2⟩, ⟨b1, b2⟩, ho⟩ := back_facts h (A := A) (B := 0) hne hn
  have hz := mvd_rise (mvd_rise h a b A 0 n) b a (0 + n) (A - n) n
  refine rise_ext (rise_del hz b) h fun q => ?_
  by_cases q2 : q = b
  · subst q2
    rw [has_del hz, val_none (has_del hz), hb, val_none hb]; exact ⟨rfl, rfl⟩
  · rw [(del_other hz b1 q2).1, (del_other hz b1 q2).2]
    by_cases q1 : q = a
    · subst q1
      rw [a1, a2, ha, (dec_of_num h1).1]; exact ⟨rfl, rfl⟩
    · exact ho q q1 q2
end Go.Proofs.YtflenghnmflenaaDoor
