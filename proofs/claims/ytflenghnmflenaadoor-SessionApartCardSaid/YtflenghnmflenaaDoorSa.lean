/-
  What is proved: what requests do to a table and a ledger; that done again nothing is done; that clients with keys of their own say nothing to each other. Conditions as stated.
-/
import Derived.Test.YtflenghnmflenaaDoorMk
namespace Go.Proofs.YtflenghnmflenaaDoor
open Go.RowKit
set_option maxRecDepth 100000

/-- What a client was answered last. -/
abbrev Lrp := Int × ByteArray
def up (r : Rep) : Lrp := ((r.1 : Int), r.2)
abbrev Lst := Nat × Lrp
def zL : Lst := (0, ((0 : Int), ByteArray.empty))
structure MRq where
  client : Int
  time : Nat
  op : MOp
  tag : List Value
def isCl (c : Int) : Bool := decide (1 ≤ c) && decide (c ≤ 8)
def mayQ (q : MRq) : Bool := isCl q.client && decide (q.time ≠ 0)
def lastOf (T : List Lst) (c : Int) : Lst := T.getD (c.toNat - 1) zL
def tR (T : List Lst) (xs : List It) (q : MRq) : (Lrp × Bool) × List Lst × List It :=
  if mayQ q = true then
    if q.time < (lastOf T q.client).1 then ((up (no 13), false), T, xs)
    else if q.time = (lastOf T q.client).1 then (((lastOf T q.client).2, false), T, xs)
    else ((up (doR xs q.op).1, true), T.set (q.client.toNat - 1) (q.time, up (doR xs q.op).1), (doR xs q.op).2)
  else ((up (no 1), false), T, xs)
theorem isCl_iff {c : Int} : isCl c = true ↔ 1 ≤ c ∧ c ≤ 8 := by simp [isCl]
theorem mayQ_iff {q : MRq} : mayQ q = true ↔ (1 ≤ q.client ∧ q.client ≤ 8) ∧ q.time ≠ 0 := by simp [mayQ, isCl_iff]
theorem tR_no {T : List Lst} {xs : List It} {q : MRq} (h : mayQ q = false) : tR T xs q = ((up (no 1), false), T, xs) := by rw [tR, if_neg (by rw [h]; decide)]
theorem tR_low {T : List Lst} {xs : List It} {q : MRq} (h : mayQ q = true) (hl : q.time < (lastOf T q.client).1) : tR T xs q = ((up (no 13), false), T, xs) := by rw [tR, if_pos h, if_pos hl]
theorem tR_at {T : List Lst} {xs : List It} {q : MRq} (h : mayQ q = true) (hl : q.time = (lastOf T q.client).1) : tR T xs q = (((lastOf T q.client).2, false), T, xs) := by rw [tR, if_pos h, if_neg (by omega), if_pos hl]
theorem tR_new {T : List Lst} {xs : List It} {q : MRq} (h : mayQ q = true) (hl : (lastOf T q.client).1 < q.time) : tR T xs q = ((up (doR xs q.op).1, true), T.set (q.client.toNat - 1) (q.time, up (doR xs q.op).1), (doR xs q.op).2) := by rw [tR, if_pos h, if_neg (by omega), if_neg (by omega)]
theorem tR_old {T : List Lst} {xs : List It} {q : MRq} (h : mayQ q = true → q.time ≤ (lastOf T q.client).1) : (tR T xs q).1.2 = false ∧ (tR T xs q).2 = (T, xs) := by
  cases hm : mayQ q with
  | false => rw [tR_no hm]; exact ⟨rfl, rfl⟩
  | true =>
    rcases Nat.lt_or_eq_of_le (h hm) with e | e
    · rw [tR_low hm e]; exact ⟨rfl, rfl⟩
    · rw [tR_at hm e]; exact ⟨rfl, rfl⟩
theorem tR_done {T : List Lst} {xs : List It} {q : MRq} (h : mayQ q = true) : (tR T xs q).1.2 = decide ((lastOf T q.client).1 < q.time) := by
  by_cases hl : (lastOf T q.client).1 < q.time
  · rw [tR_new h hl, decide_eq_true hl]
  · rw [(tR_old fun _ => by omega).1, decide_eq_false hl]
theorem tR_len (T : List Lst) (xs : List It) (q : MRq) : (tR T xs q).2.1.length = T.length := by
  unfold tR
  repeat' split
  all_goals simp
theorem tR_xs (T : List Lst) (xs : List It) (q : MRq) : (tR T xs q).2.2 = xs ∨ (tR T xs q).2.2 = (doR xs q.op).2 := by
  unfold tR
  repeat' split
  all_goals first | exact .inl rfl | exact .inr rfl
theorem last_set {T : List Lst} (hT : T.length = 8) {c : Int} (hc : 1 ≤ c ∧ c ≤ 8) (p : Lst) : lastOf (T.set (c.toNat - 1) p) c = p := by
  unfold lastOf
  rw [List.getD_eq_getElem?_getD, List.getElem?_set_self (by omega)]
  rfl
theorem last_set_ne {T : List Lst} {c c' : Int} (hc : 1 ≤ c ∧ c ≤ 8) (hc' : 1 ≤ c' ∧ c' ≤ 8) (hne : c ≠ c') (p : Lst) : lastOf (T.set (c.toNat - 1) p) c' = lastOf T c' := by
  unfold lastOf
  rw [List.getD_eq_getElem?_getD, List.getElem?_set_ne (by omega), ← List.getD_eq_getElem?_getD]
/-- Times only rise, and a request that may be is behind none. -/
theorem tR_rise {T : List Lst} (hT : T.length = 8) (xs : List It) (q : MRq) : (∀ c, 1 ≤ c ∧ c ≤ 8 → (lastOf T c).1 ≤ (lastOf (tR T xs q).2.1 c).1) ∧ (mayQ q = true → q.time ≤ (lastOf (tR T xs q).2.1 q.client).1) := by
  cases hm : mayQ q with
  | false => rw [tR_no hm]; exact ⟨fun _ _ => Nat.le_refl _, fun h => by cases h⟩
  | true =>
    have hc := (mayQ_iff.1 hm).1
    by_cases hl : (lastOf T q.client).1 < q.time
    · rw [tR_new hm hl]
      refine ⟨fun c h => ?_, fun _ => ?_⟩
      · by_cases e : q.client = c
        · rw [← e, last_set hT hc]; exact Nat.le_of_lt hl
        · rw [last_set_ne hc h e]; exact Nat.le_refl _
      · rw [last_set hT hc]; exact Nat.le_refl _
    · have := (tR_old (T := T) (xs := xs) (q := q) fun _ => by omega).2
      rw [this]
      exact ⟨fun _ _ => Nat.le_refl _, fun _ => by show q.time ≤ (lastOf T q.client).1; omega⟩
/-- What is known behind requests: each that may be has a time that is not above its client's last one. -/
def Past (T : List Lst) (qs : List MRq) : Prop := ∀ q ∈ qs, mayQ q = true → q.time ≤ (lastOf T q.client).1
theorem Past.next {T : List Lst} (hT : T.length = 8) (xs : List It) {qs : List MRq} (h : Past T qs) (q : MRq) : Past (tR T xs q).2.1 (qs ++ [q]) := fun p hp hm => by
  rcases List.mem_append.1 hp with hp | hp
  · exact Nat.le_trans (h p hp hm) ((tR_rise hT xs q).1 _ (mayQ_iff.1 hm).1)
  · obtain rfl := List.mem_singleton.1 hp
    exact (tR_rise hT xs p).2 hm

/-! ### keys of their own -/
theorem mem_setK {xs : List It} (h : Rise xs) {k v : ByteArray} {p : It} : p ∈ setK xs k v ↔ p = (k, v) ∨ (p ∈ xs ∧ p.1 ≠ k) := by
  constructor
  · intro hp
    by_cases e : p.1 = k
    · left
      obtain ⟨a, b⟩ := p
      dsimp only at e
      subst e
      have := (has_iff (rise_set h a v)).1 hp
      rw [(has_set h a v).2.2] at this
      rw [this.2]
    · rcases mem_set hp with e' | e'
      · exact absurd (by rw [e']) e
      · exact .inr ⟨e', e⟩
  · rintro (rfl | ⟨hp, hn⟩)
    · exact (has_iff (rise_set h k v)).2 (has_set h k v).2
    · exact mem_of_set hp hn
theorem mem_delK {xs : List It} (h : Rise xs) {k : ByteArray} (hk : hasK xs k = true) {p : It} : p ∈ delK xs k ↔ p ∈ xs ∧ p.1 ≠ k := by
  have hs := split_has hk
  have hmem : ∀ q : It, q ∈ xs ↔ q ∈ delK xs k ∨ q = (k, valK xs k) := fun q => by
    rw [delK]
    conv => lhs; rw [hs]
    simp only [List.mem_append, List.mem_cons]
    constructor
    · rintro (a | a | a)
      · exact .inl (.inl a)
      · exact .inr a
      · exact .inl (.inr a)
    · rintro ((a | a) | a)
      · exact .inl a
      · exact .inr (.inr a)
      · exact .inr (.inl a)
  have hne : ∀ q ∈ delK xs k, q.1 ≠ k := fun q hq e => by
    have h0 := h
    rw [Rise, hs] at h0
    obtain ⟨_, b, c⟩ := List.pairwise_append.1 h0
    have b' := (List.pairwise_cons.1 b).1
    rw [delK] at hq
    rcases List.mem_append.1 hq with a | a
    · have := c q a _ (List.mem_cons_self ..)
      rw [e, klt_irrefl] at this
      cases this
    · have := b' q a
      rw [e, klt_irrefl] at this
      cases this
  constructor
  · intro hp
    exact ⟨(hmem p).2 (.inl hp), hne p hp⟩
  · rintro ⟨hp, hn⟩
    rcases (hmem p).1 hp with a | a
    · exact a
    · exact absurd (by rw [a]) hn

/-- The items whose keys are of one client. -/
def mine (P : ByteArray → Bool) (xs : List It) : List It := xs.filter fun p => P p.1
theorem mem_mine {P : ByteArray → Bool} {xs : List It} {p : It} : p ∈ mine P xs ↔ p ∈ xs ∧ P p.1 = true := List.mem_filter
theorem rise_mine {P : ByteArray → Bool} {xs : List It} (h : Rise xs) : Rise (mine P xs) := List.Pairwise.filter _ h
theorem mine_has {P : ByteArray → Bool} {xs : List It} (h : Rise xs) {k : ByteArray} (hk : P k = true) : hasK (mine P xs) k = hasK xs k ∧ valK (mine P xs) k = valK xs k := by
  cases hh : hasK xs k with
  | true => exact (has_iff (rise_mine h)).1 (mem_mine.2 ⟨(has_iff h).2 ⟨hh, rfl⟩, hk⟩)
  | false =>
    have hn : hasK (mine P xs) k = false := by
      cases hx : hasK (mine P xs) k with
      | false => rfl
      | true =>
        have := ((has_iff h).1 (mem_mine.1 ((has_iff (rise_mine h)).2 ⟨hx, rfl⟩)).1).1
        rw [hh] at this
        cases this
    exact ⟨hn, by rw [val_none hn, val_none hh]⟩
theorem mine_set {P : ByteArray → Bool} {xs : List It} (h : Rise xs) {k : ByteArray} (hk : P k = true) (v : ByteArray) : mine P (setK xs k v) = setK (mine P xs) k v :=
  rise_ext_mem (rise_mine (rise_set h k v)) (rise_set (rise_mine h) k v) fun p => by
    rw [mem_mine, mem_setK h, mem_setK (rise_mine h), mem_mine]
    constructor
    · rintro ⟨rfl | ⟨a, b⟩, c⟩
      · exact .inl rfl
      · exact .inr ⟨⟨a, c⟩, b⟩
    · rintro (rfl | ⟨⟨a, c⟩, b⟩)
      · exact ⟨.inl rfl, hk⟩
      · exact ⟨.inr ⟨a, b⟩, c⟩
theorem mine_set_no {P : ByteArray → Bool} {xs : List It} (h : Rise xs) {k : ByteArray} (hk : P k = false) (v : ByteArray) : mine P (setK xs k v) = mine P xs :=
  rise_ext_mem (rise_mine (rise_set h k v)) (rise_mine h) fun p => by
    rw [mem_mine, mem_setK h, mem_mine]
    constructor
    · rintro ⟨rfl | ⟨a, b⟩, c⟩
      · rw [hk] at c; cases c
      · exact ⟨a, c⟩
    · rintro ⟨a, c⟩
      exact ⟨.inr ⟨a, fun e => by rw [e, hk] at c; cases c⟩, c⟩
theorem mine_del {P : ByteArray → Bool} {xs : List It} (h : Rise xs) {k : ByteArray} (hk : P k = true) (hh : hasK xs k = true) : mine P (delK xs k) = delK (mine P xs) k :=
  rise_ext_mem (rise_mine (rise_del h k)) (rise_del (rise_mine h) k) fun p => by
    rw [mem_mine, mem_delK h hh, mem_delK (rise_mine h) (by rw [(mine_has h hk).1]; exact hh), mem_mine]
    constructor
    · rintro ⟨⟨a, b⟩, c⟩
      exact ⟨⟨a, c⟩, b⟩
    · rintro ⟨⟨a, c⟩, b⟩
      exact ⟨⟨a, b⟩, c⟩
theorem mine_del_no {P : ByteArray → Bool} {xs : List It} (h : Rise xs) {k : ByteArray} (hk : P k = false) (hh : hasK xs k = true) : mine P (delK xs k) = mine P xs :=
  rise_ext_mem (rise_mine (rise_del h k)) (rise_mine h) fun p => by
    rw [mem_mine, mem_delK h hh, mem_mine]
    constructor
    · rintro ⟨⟨a, b⟩, c⟩
      exact ⟨a, c⟩
    · rintro ⟨a, c⟩
      exact ⟨⟨a, fun e => by rw [e, hk] at c; cases c⟩, c⟩
theorem full_few {xs : List It} (h : xs.length < 64) (k : ByteArray) : fullK xs k = false := by
  rw [fullK, decide_eq_false (by omega), Bool.and_false]
theorem mine_le (P : ByteArray → Bool) (xs : List It) : (mine P xs).length ≤ xs.length := List.length_filter_le ..
/-- Of one's own keys the same is answered, and the same becomes. -/
theorem mine_do {P : ByteArray → Bool} {xs : List It} (h : Rise xs) (hl : xs.length < 63) {o : MOp} (hk : P o.key = true) (ht : o.kind = 5 → P o.to = true) : doR (mine P xs) o = ((doR xs o).1, mine P (doR xs o).2) := by
  have hl2 : (mine P xs).length < 63 := Nat.lt_of_le_of_lt (mine_le P xs) hl
  obtain ⟨e1, e2⟩ := mine_has h hk
  cases hm : mayOp o with
  | false => rw [doR, doR, if_neg (by rw [hm]; decide), if_neg (by rw [hm]; decide)]
  | true =>
    rw [do_kind hm, do_kind hm]
    by_cases k1 : o.kind = 1
    · rw [if_pos k1, if_pos k1, getR, getR, e1, e2]
    · rw [if_neg k1, if_neg k1]
      by_cases k2 : o.kind = 2
      · rw [if_pos k2, if_pos k2, putR, putR, full_few (by omega), full_few (by omega)]
        exact Prod.ext rfl (mine_set h hk _).symm
      · rw [if_neg k2, if_neg k2]
        by_cases k3 : o.kind = 3
        · rw [if_pos k3, if_pos k3, delR, delR, e1, e2]
          by_cases hh : hasK xs o.key = true
          · rw [if_pos hh, if_pos hh]
            exact Prod.ext rfl (mine_del h hk hh).symm
          · rw [if_neg hh, if_neg hh]
        · rw [if_neg k3, if_neg k3]
          by_cases k4 : o.kind = 4
          · rw [if_pos k4, if_pos k4, swapR, swapR, e1, e2]
            by_cases hh : hasK xs o.key = true
            · rw [if_pos hh, if_pos hh]
              by_cases hv : valK xs o.key = o.old
              · rw [if_pos hv, if_pos hv]
                exact Prod.ext rfl (mine_set h hk _).symm
              · rw [if_neg hv, if_neg hv]
            · rw [if_neg hh, if_neg hh]
          · rw [if_neg k4, if_neg k4]
            have k5 : o.kind = 5 := by
              have hmo := hm
              unfold mayOp at hmo
              rw [Bool.and_eq_true] at hmo
              have h1 := hmo.1
              unfold ownOp at h1
              dsimp only at h1
              rw [if_neg (by rintro (a | a); exact k1 a; exact k3 a), if_neg k2, if_neg k4] at h1
              by_cases e : o.kind = 5
              · exact e
              · rw [if_neg e] at h1
                cases h1
            have ht' := ht k5
            obtain ⟨t1, t2⟩ := mine_has h ht'
            rw [moveR, moveR, e1, e2, numAt, numAt, t1, t2, full_few (show (mine P xs).length < 64 by omega), full_few (show xs.length < 64 by omega)]
            by_cases hh : hasK xs o.key = true
            · rw [if_pos hh, if_pos hh]
              split
              · rename_i a b _ _
                by_cases c1 : a < o.amount
                · rw [if_pos c1, if_pos c1]
                · rw [if_neg c1, if_neg c1]
                  by_cases c2 : topN < b + o.amount
                  · rw [if_pos c2, if_pos c2]
                  · rw [if_neg c2, if_neg c2]
                    refine Prod.ext rfl ?_
                    show _ = mine P (setK (setK xs o.key _) o.to _)
                    rw [mine_set (rise_set h _ _) ht', mine_set h hk]
                    rfl
              · rfl
            · rw [if_neg hh, if_neg hh]
/-- What is done with others' keys leaves one's own as they were. -/
theorem mine_do_no {P : ByteArray → Bool} {xs : List It} (h : Rise xs) {o : MOp} (hk : P o.key = false) (ht : o.kind = 5 → P o.to = false) : mine P (doR xs o).2 = mine P xs := by
  cases hm : mayOp o with
  | false => rw [doR, if_neg (by rw [hm]; decide)]
  | true =>
    rw [do_kind hm]
    by_cases k1 : o.kind = 1
    · rw [if_pos k1]
    · rw [if_neg k1]
      by_cases k2 : o.kind = 2
      · rw [if_pos k2, putR]
        split
        · rfl
        · exact mine_set_no h hk _
      · rw [if_neg k2]
        by_cases k3 : o.kind = 3
        · rw [if_pos k3, delR]
          split
          · exact mine_del_no h hk ‹_›
          · rfl
        · rw [if_neg k3]
          by_cases k4 : o.kind = 4
          · rw [if_pos k4, swapR]
            split
            · split
              · exact mine_set_no h hk _
              · rfl
            · rfl
          · rw [if_neg k4]
            have k5 : o.kind = 5 := by
              have hmo := hm
              unfold mayOp at hmo
              rw [Bool.and_eq_true] at hmo
              have h1 := hmo.1
              unfold ownOp at h1
              dsimp only at h1
              rw [if_neg (by rintro (a | a); exact k1 a; exact k3 a), if_neg k2, if_neg k4] at h1
              by_cases e : o.kind = 5
              · exact e
              · rw [if_neg e] at h1
                cases h1
            rw [moveR]
            repeat' split
            all_goals first
              | rfl
              | exact (mine_set_no (rise_set h _ _) (ht k5) _).trans (mine_set_no h hk _)
/-- All keys of a few. -/
def Among (K : List ByteArray) (xs : List It) : Prop := ∀ p ∈ xs, p.1 ∈ K
theorem among_do {K : List ByteArray} {xs : List It} (ha : Among K xs) {o : MOp} (hk : o.key ∈ K) (ht : o.kind = 5 → o.to ∈ K) : Among K (doR xs o).2 := by
  have hset : ∀ {ys : List It} {k v : ByteArray}, Among K ys → k ∈ K → Among K (setK ys k v) := fun hy hk p hp => by
    rcases mem_set hp with rfl | hp
    · exact hk
    · exact hy p hp
  have hdel : Among K (delK xs o.key) := fun p hp => by
    rw [delK] at hp
    rcases List.mem_append.1 hp with hp | hp
    · exact ha p (List.mem_of_mem_take hp)
    · exact ha p (List.mem_of_mem_drop hp)
  cases hm : mayOp o with
  | false => rw [doR, if_neg (by rw [hm]; decide)]; exact ha
  | true =>
    rw [do_kind hm, putR, delR, swapR, moveR]
    by_cases k5 : o.kind = 5
    · rw [k5]
      rw [if_neg (by decide), if_neg (by decide), if_neg (by decide), if_neg (by decide)]
      repeat' split
      all_goals first | exact ha | exact hset (hset ha hk) (ht k5)
    · repeat' split
      all_goals first | exact ha | exact hset ha hk | exact hdel | exact hset (hset ha hk) (ht (by
        have hmo := hm
        unfold mayOp at hmo
        rw [Bool.and_eq_true] at hmo
        have h1 := hmo.1
        unfold ownOp at h1
        dsimp only at h1
        rw [if_neg (by rintro (a | a); exact absurd a ‹_›; exact absurd a ‹_›), if_neg ‹_›, if_neg ‹_›, if_neg k5] at h1
        cases h1))
theorem few_of_among : ∀ (l K : List ByteArray), l.Nodup → (∀ k ∈ l, k ∈ K) → l.length ≤ K.length
  | [], _, _, _ => Nat.zero_le _
  | k :: l, K, hn, h => by
    have hn' := List.nodup_cons.1 hn
    have h1 := few_of_among l (K.filter fun q => decide (q ≠ k)) hn'.2 fun q hq => List.mem_filter.2 ⟨h q (List.mem_cons_of_mem _ hq), decide_eq_true fun e => hn'.1 (by rw [← e]; exact hq)⟩
    have h2 : (K.filter fun q => decide (q ≠ k)).length < K.length := List.length_filter_lt_length_iff_exists.2 ⟨k, h k (List.mem_cons_self ..), by simp⟩
    simp only [List.length_cons]
    omega
theorem among_len {K : List ByteArray} {xs : List It} (h : Rise xs) (ha : Among K xs) : xs.length ≤ K.length := by
  have := few_of_among (xs.map Prod.fst) K (List.pairwise_map.2 (h.imp fun {a b} hab e => by rw [e, klt_irrefl] at hab; cases hab)) fun k hk => by
    obtain ⟨p, hp, rfl⟩ := List.mem_map.1 hk
    exact ha p hp
  rwa [List.length_map] at this
end Go.Proofs.YtflenghnmflenaaDoor
