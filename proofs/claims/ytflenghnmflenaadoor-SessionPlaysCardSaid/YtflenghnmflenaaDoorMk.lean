/-
  What is proved: plain facts on sums, on items that may be, on what an operation leaves. Conditions as stated.
-/
import Derived.Test.YtflenghnmflenaaDoorMh
namespace Go.Proofs.YtflenghnmflenaaDoor
open Go.RowKit

/-! ### sums -/
def sumN : List It → Nat
  | [] => 0
  | p :: r => numV p.2 + sumN r
theorem sum_app : ∀ x y : List It, sumN (x ++ y) = sumN x + sumN y
  | [], y => by simp [sumN]
  | p :: x, y => by simp only [List.cons_append, sumN, sum_app x y]; omega
theorem sum_take {xs : List It} {j : Nat} {p : It} (h : xs[j]? = some p) : sumN (xs.take (j + 1)) = sumN (xs.take j) + numV p.2 := by
  obtain ⟨hl, e⟩ := List.getElem?_eq_some_iff.1 h
  rw [List.take_add_one, h, sum_app]
  simp [sumN]
theorem sum_le : ∀ xs : List It, sumN xs ≤ xs.length * topN
  | [] => by simp [sumN]
  | p :: r => by
    have h1 := sum_le r
    have h2 := num_le (s := p.2)
    simp only [sumN, List.length_cons, Nat.add_mul, Nat.one_mul]
    omega
theorem split_has {xs : List It} {k : ByteArray} (hk : hasK xs k = true) : xs = xs.take (posOf xs k) ++ (k, valK xs k) :: xs.drop (posOf xs k + 1) := by
  obtain ⟨hl, e⟩ := List.getElem?_eq_some_iff.1 (mem_of_has hk)
  rw [← e, ← List.drop_eq_getElem_cons hl, List.take_append_drop]
theorem numV_empty : numV ByteArray.empty = 0 := by rw [numV, num_empty]; rfl
theorem sum_set (xs : List It) (k v : ByteArray) : sumN (setK xs k v) + numV (valK xs k) = sumN xs + numV v := by
  cases hh : hasK xs k with
  | true =>
    have e := split_has hh
    have h1 : sumN xs = sumN (xs.take (posOf xs k)) + (numV (valK xs k) + sumN (xs.drop (posOf xs k + 1))) := by
      conv => lhs; rw [e]
      rw [sum_app]; rfl
    rw [setK, if_pos hh, sum_app, sumN, h1]
    show _ + (numV v + _) + _ = _
    omega
  | false =>
    have h1 : sumN xs = sumN (xs.take (posOf xs k)) + sumN (xs.drop (posOf xs k)) := by
      rw [← sum_app, List.take_append_drop]
    rw [setK, hh, if_neg (by simp), Nat.add_zero, sum_app, sumN, h1, val_none hh, numV_empty]
    show _ + (numV v + _) + _ = _
    omega
theorem numV_dec {n : Nat} (h : n ≤ topN) : numV (dec n) = n := by rw [numV, num_dec h]; rfl
theorem sum_move {xs : List It} (h : Rise xs) {o : MOp} (hne : o.to ≠ o.key) : sumN (moveR xs o).2 = sumN xs := by
  unfold moveR
  split
  · rename_i hh
    split
    · rename_i a b e1 e2
      split
      · rfl
      · split
        · rfl
        · split
          · rfl
          · have ha := (dec_of_num e1).2
            have s1 := sum_set xs o.key (dec (a - o.amount))
            have s2 := sum_set (setK xs o.key (dec (a - o.amount))) o.to (dec (b + o.amount))
            rw [numV_dec (by omega)] at s1 s2
            have v1 : numV (valK xs o.key) = a := by rw [numV, e1]; rfl
            have v2 : numV (valK (setK xs o.key (dec (a - o.amount))) o.to) = b := by
              rw [(has_other h hne).2]
              unfold numAt at e2
              split at e2
              · rw [numV, e2]; rfl
              · rename_i hb
                rw [val_none (by simpa using hb), numV_empty]
                simpa using e2
            rw [v1] at s1
            rw [v2] at s2
            show sumN (setK (setK xs o.key (dec (a - o.amount))) o.to (dec (b + o.amount))) = sumN xs
            omega
    · rfl
  · rfl
theorem may_5 {o : MOp} (h : mayOp o = true) (hk : o.kind = 5) : o.to ≠ o.key ∧ o.amount ≤ topN ∧ mayK o.to = true := by
  unfold mayOp at h
  rw [Bool.and_eq_true] at h
  have h1 := h.1
  unfold ownOp at h1
  rw [hk] at h1
  simp only [show ¬ ((5 : UInt8) = 1 ∨ (5 : UInt8) = 3) by decide, show ¬ (5 : UInt8) = 2 by decide, show ¬ (5 : UInt8) = 4 by decide, if_false, if_true] at h1
  simp only [Bool.and_eq_true, decide_eq_true_eq] at h1
  exact ⟨h1.2.1, h1.2.2.2, h1.1⟩
theorem may_key {o : MOp} (h : mayOp o = true) : mayK o.key = true := by
  unfold mayOp at h
  rw [Bool.and_eq_true, Bool.and_eq_true] at h
  exact h.2.1
theorem do_kind {xs : List It} {o : MOp} (hm : mayOp o = true) : doR xs o = if o.kind = 1 then (getR xs o, xs) else if o.kind = 2 then putR xs o else if o.kind = 3 then delR xs o else if o.kind = 4 then swapR xs o else moveR xs o := by rw [doR, if_pos hm]
theorem do_sum {xs : List It} (h : Rise xs) {o : MOp} (hk : o.kind = 5) : sumN (doR xs o).2 = sumN xs := by
  cases hm : mayOp o with
  | false => rw [doR, hm]; rfl
  | true =>
    rw [do_kind hm, hk]
    obtain ⟨h1, _, _⟩ := may_5 hm hk
    exact sum_move h h1
theorem do_err {xs : List It} {o : MOp} (h : (doR xs o).1.1 ≠ 0) : (doR xs o).2 = xs := by
  unfold doR putR delR swapR moveR at h ⊢
  repeat' split
  all_goals first
    | rfl
    | (exfalso; simp_all [no])
/-- The keys are some. -/
def Keys (xs : List It) : Prop := ∀ p ∈ xs, mayK p.1 = true
theorem Keys.set {xs : List It} (h : Keys xs) {k v : ByteArray} (hk : mayK k = true) : Keys (setK xs k v) := fun p hp => by
  rcases mem_set hp with rfl | hp
  · exact hk
  · exact h p hp
theorem Keys.del {xs : List It} (h : Keys xs) (k : ByteArray) : Keys (delK xs k) := fun p hp => by
  unfold delK at hp
  rcases List.mem_append.1 hp with hp | hp
  · exact h p (List.mem_of_mem_take hp)
  · exact h p (List.mem_of_mem_drop hp)
theorem Keys.do {xs : List It} (h : Keys xs) (o : MOp) : Keys (doR xs o).2 := by
  cases hm : mayOp o with
  | false => rw [doR, hm]; exact h
  | true =>
    have hk := may_key hm
    rw [do_kind hm]
    by_cases h5 : o.kind = 5
    · rw [h5]
      have ht := (may_5 hm h5).2.2
      show Keys (moveR xs o).2
      unfold moveR
      repeat' split
      all_goals first
        | exact h
        | exact (h.set hk).set ht
    · have h1 := may_kind hm
      unfold putR delR swapR
      split
      · exact h
      · split
        · split
          · exact h
          · exact h.set hk
        · split
          · split
            · exact h.del _
            · exact h
          · split
            · split
              · split
                · exact h.set hk
                · exact h
              · exact h
            · rename_i a1 a2 a3 a4
              rcases h1 with e | e | e | e | e
              · exact absurd e a1
              · exact absurd e a2
              · exact absurd e a3
              · exact absurd e a4
              · exact absurd e h5

/-! ### items that may be -/
def mayI : ByteArray → List It → Bool
  | _, [] => true
  | l, p :: r => klt l p.1 && (mayK p.1 && (mayV p.2 && mayI p.1 r))
theorem mayI_rise : ∀ {l : ByteArray} {xs : List It}, mayI l xs = true → Rise xs ∧ Keys xs ∧ (∀ p ∈ xs, p.2.size ≤ 128) ∧ ∀ p ∈ xs, klt l p.1 = true
  | l, [], _ => ⟨List.Pairwise.nil, (by intro p hp; cases hp), (by intro p hp; cases hp), (by intro p hp; cases hp)⟩
  | l, p :: r, h => by
    simp only [mayI, Bool.and_eq_true] at h
    obtain ⟨h1, h2, h3, h4⟩ := h
    obtain ⟨a1, a2, a3, a4⟩ := mayI_rise h4
    refine ⟨List.pairwise_cons.2 ⟨a4, a1⟩, fun q hq => ?_, fun q hq => ?_, fun q hq => ?_⟩
    · rcases List.mem_cons.1 hq with rfl | hq
      · exact h2
      · exact a2 q hq
    · rcases List.mem_cons.1 hq with rfl | hq
      · simpa [mayV] using h3
      · exact a3 q hq
    · rcases List.mem_cons.1 hq with rfl | hq
      · exact h1
      · exact klt_trans h1 (a4 q hq)
theorem rise_mayI : ∀ {l : ByteArray} {xs : List It}, Rise xs → Keys xs → (∀ p ∈ xs, p.2.size ≤ 128) → (∀ p ∈ xs, klt l p.1 = true) → mayI l xs = true
  | l, [], _, _, _, _ => rfl
  | l, p :: r, h1, h2, h3, h4 => by
    obtain ⟨b1, b2⟩ := List.pairwise_cons.1 h1
    simp only [mayI, Bool.and_eq_true]
    exact ⟨h4 p (by simp), h2 p (by simp), by simpa [mayV] using h3 p (by simp), rise_mayI b2 (fun q hq => h2 q (List.mem_cons_of_mem _ hq)) (fun q hq => h3 q (List.mem_cons_of_mem _ hq)) b1⟩
theorem mayI_own {xs : List It} (h1 : Rise xs) (h2 : Keys xs) (h3 : ∀ p ∈ xs, p.2.size ≤ 128) : mayI ByteArray.empty xs = true :=
  rise_mayI h1 h2 h3 fun p hp => empty_klt (by
    have := h2 p hp
    simp [mayK] at this
    omega)
theorem mayI_at {l : ByteArray} {xs : List It} {j : Nat} {p : It} (h : xs[j]? = some p) : mayI l (xs.drop j) = (klt l p.1 && (mayK p.1 && (mayV p.2 && mayI p.1 (xs.drop (j + 1))))) := by
  obtain ⟨hl, e⟩ := List.getElem?_eq_some_iff.1 h
  rw [List.drop_eq_getElem_cons hl, e]
  rfl
end Go.Proofs.YtflenghnmflenaaDoor
