/-
  What is proved: what requests do to a table and a ledger; that done again nothing is done; that clients with keys of their own say nothing to each other. Conditions as stated.
  What is proved: how a table of what clients were answered lies in memory; requests and lists of what was answered; New, whether a number is a client. Conditions as stated.
  What is proved: Do of a table. Conditions as stated.
  What is proved: Do of a table, done; Do of none. Conditions as stated.
  What is proved: Do of any request; Do where there is no table or no ledger; Last, List. Conditions as stated.
  What is proved: whether requests are gone through (Few). Conditions as stated.
  What is proved: a block's cells anew, all at once. Conditions as stated.
  What is proved: a table and a ledger side by side, and what lies beside; the chapter's example. Conditions as stated.
  What is proved: when two that were answered last are the same; a row of one request; what lies beside in memory. Conditions as stated.
  What is proved: lists that stay while requests are done; New of both; requests gone through. Conditions as stated.
-/
import Derived.Test.YtpageppjngbnpaaDoorA6
import Derived.Test.YtpageppjngbnpaaDoorA5
import Derived.Test.YtpageppjngbnpaaDoorA1
import Derived.Great.BuildSlice
namespace Go.Proofs.YtpageppjngbnpaaDoor
open Go.RowKit
set_option maxRecDepth 100000

/-- What a client was answered last. -/
abbrev Lrp := Int × ByteArray
def up (r : Rep) : Lrp := ((r.1 : Int), r.2)
abbrev Lst := Nat × Lrp
def zL : Lst := (0, ((0 : Int), ByteArray.empty))
structure MRq where
  client : Int
  time : Nat
  op : MOp
  tag : List Value
def isCl (c : Int) : Bool := decide (1 ≤ c) && decide (c ≤ 8)
def mayQ (q : MRq) : Bool := isCl q.client && decide (q.time ≠ 0)
def lastOf (T : List Lst) (c : Int) : Lst := T.getD (c.toNat - 1) zL
def tR (T : List Lst) (xs : List It) (q : MRq) : (Lrp × Bool) × List Lst × List It :=
  if mayQ q = true then
    if q.time < (lastOf T q.client).1 then ((up (no 13), false), T, xs)
    else if q.time = (lastOf T q.client).1 then (((lastOf T q.client).2, false), T, xs)
    else ((up (doR xs q.op).1, true), T.set (q.client.toNat - 1) (q.time, up (doR xs q.op).1), (doR xs q.op).2)
  else ((up (no 1), false), T, xs)
theorem isCl_iff {c : Int} : isCl c = true ↔ 1 ≤ c ∧ c ≤ 8 := by simp [isCl]
theorem mayQ_iff {q : MRq} : mayQ q = true ↔ (1 ≤ q.client ∧ q.client ≤ 8) ∧ q.time ≠ 0 := by simp [mayQ, isCl_iff]
theorem tR_no {T : List Lst} {xs : List It} {q : MRq} (h : mayQ q = false) : tR T xs q = ((up (no 1), false), T, xs) := by rw [tR, if_neg (by rw [h]; decide)]
theorem tR_low {T : List Lst} {xs : List It} {q : MRq} (h : mayQ q = true) (hl : q.time < (lastOf T q.client).1) : tR T xs q = ((up (no 13), false), T, xs) := by rw [tR, if_pos h, if_pos hl]
theorem tR_at {T : List Lst} {xs : List It} {q : MRq} (h : mayQ q = true) (hl : q.time = (lastOf T q.client).1) : tR T xs q = (((lastOf T q.client).2, false), T, xs) := by rw [tR, if_pos h, if_neg (by omega), if_pos hl]
theorem tR_new {T : List Lst} {xs : List It} {q : MRq} (h : mayQ q = true) (hl : (lastOf T q.client).1 < q.time) : tR T xs q = ((up (doR xs q.op).1, true), T.set (q.client.toNat - 1) (q.time, up (doR xs q.op).1), (doR xs q.op).2) := by rw [tR, if_pos h, if_neg (by omega), if_neg (by omega)]
theorem tR_old {T : List Lst} {xs : List It} {q : MRq} (h : mayQ q = true → q.time ≤ (lastOf T q.client).1) : (tR T xs q).1.2 = false ∧ (tR T xs q).2 = (T, xs) := by
  cases hm : mayQ q with
  | false => rw [tR_no hm]; exact ⟨rfl, rfl⟩
  | true =>
    rcases Nat.lt_or_eq_of_le (h hm) with e | e
    · rw [tR_low hm e]; exact ⟨rfl, rfl⟩
    · rw [tR_at hm e]; exact ⟨rfl, rfl⟩
theorem tR_done {T : List Lst} {xs : List It} {q : MRq} (h : mayQ q = true) : (tR T xs q).1.2 = decide ((lastOf T q.client).1 < q.time) := by
  by_cases hl : (lastOf T q.client).1 < q.time
  · rw [tR_new h hl, decide_eq_true hl]
  · rw [(tR_old fun _ => by omega).1, decide_eq_false hl]
theorem tR_len (T : List Lst) (xs : List It) (q : MRq) : (tR T xs q).2.1.length = T.length := by
  unfold tR
  repeat' split
  all_goals simp
theorem tR_xs (T : List Lst) (xs : List It) (q : MRq) : (tR T xs q).2.2 = xs ∨ (tR T xs q).2.2 = (doR xs q.op).2 := by
  unfold tR
  repeat' split
  all_goals first | exact .inl rfl | exact .inr rfl
theorem last_set {T : List Lst} (hT : T.length = 8) {c : Int} (hc : 1 ≤ c ∧ c ≤ 8) (p : Lst) : lastOf (T.set (c.toNat - 1) p) c = p := by
  unfold lastOf
  rw [List.getD_eq_getElem?_getD, List.getElem?_set_self (by omega)]
  rfl
theorem last_set_ne {T : List Lst} {c c' : Int} (hc : 1 ≤ c ∧ c ≤ 8) (hc' : 1 ≤ c' ∧ c' ≤ 8) (hne : c ≠ c') (p : Lst) : lastOf (T.set (c.toNat - 1) p) c' = lastOf T c' := by
  unfold lastOf
  rw [List.getD_eq_getElem?_getD, List.getElem?_set_ne (by omega), ← List.getD_eq_getElem?_getD]
/-- Times only rise, and a request that may be is behind none. -/
theorem tR_rise {T : List Lst} (hT : T.length = 8) (xs : List It) (q : MRq) : (∀ c, 1 ≤ c ∧ c ≤ 8 → (lastOf T c).1 ≤ (lastOf (tR T xs q).2.1 c).1) ∧ (mayQ q = true → q.time ≤ (lastOf (tR T xs q).2.1 q.client).1) := by
  cases hm : mayQ q with
  | false => rw [tR_no hm]; exact ⟨fun _ _ => Nat.le_refl _, fun h => by cases h⟩
  | true =>
    have hc := (mayQ_iff.1 hm).1
    by_cases hl : (lastOf T q.client).1 < q.time
    · rw [tR_new hm hl]
      refine ⟨fun c h => ?_, fun _ => ?_⟩
      · by_cases e : q.client = c
        · rw [← e, last_set hT hc]; exact Nat.le_of_lt hl
        · rw [last_set_ne hc h e]; exact Nat.le_refl _
      · rw [last_set hT hc]; exact Nat.le_refl _
    · have := (tR_old (T := T) (xs := xs) (q := q) fun _ => by omega).2
      rw [this]
      exact ⟨fun _ _ => Nat.le_refl _, fun _ => by show q.time ≤ (lastOf T q.client).1; omega⟩
/-- What is known behind requests: each that may be has a time that is not above its client's last one. -/
def Past (T : List Lst) (qs : List MRq) : Prop := ∀ q ∈ qs, mayQ q = true → q.time ≤ (lastOf T q.client).1
theorem Past.next {T : List Lst} (hT : T.length = 8) (xs : List It) {qs : List MRq} (h : Past T qs) (q : MRq) : Past (tR T xs q).2.1 (qs ++ [q]) := fun p hp hm => by
  rcases List.mem_append.1 hp with hp | hp
  · exact Nat.le_trans (h p hp hm) ((tR_rise hT xs q).1 _ (mayQ_iff.1 hm).1)
  · obtain rfl := List.mem_singleton.1 hp
    exact (tR_rise hT xs p).2 hm

/-! ### keys of their own -/
theorem mem_setK {xs : List It} (h : Rise xs) {k v : ByteArray} {p : It} : p ∈ setK xs k v ↔ p = (k, v) ∨ (p ∈ xs ∧ p.1 ≠ k) := by
  constructor
  · intro hp
    by_cases e : p.1 = k
    · left
      obtain ⟨a, b⟩ := p
      dsimp only at e
      subst e
      have := (has_iff (rise_set h a v)).1 hp
      rw [(has_set h a v).2.2] at this
      rw [this.2]
    · rcases mem_set hp with e' | e'
      · exact absurd (by rw [e']) e
      · exact .inr ⟨e', e⟩
  · rintro (rfl | ⟨hp, hn⟩)
    · exact (has_iff (rise_set h k v)).2 (has_set h k v).2
    · exact mem_of_set hp hn
theorem mem_delK {xs : List It} (h : Rise xs) {k : ByteArray} (hk : hasK xs k = true) {p : It} : p ∈ delK xs k ↔ p ∈ xs ∧ p.1 ≠ k := by
  have hs := split_has hk
  have hmem : ∀ q : It, q ∈ xs ↔ q ∈ delK xs k ∨ q = (k, valK xs k) := fun q => by
    rw [delK]
    conv => lhs; rw [hs]
    simp only [List.mem_append, List.mem_cons]
    constructor
    · rintro (a | a | a)
      · exact .inl (.inl a)
      · exact .inr a
      · exact .inl (.inr a)
    · rintro ((a | a) | a)
      · exact .inl a
      · exact .inr (.inr a)
      · exact .inr (.inl a)
  have hne : ∀ q ∈ delK xs k, q.1 ≠ k := fun q hq e => by
    have h0 := h
    rw [Rise, hs] at h0
    obtain ⟨_, b, c⟩ := List.pairwise_append.1 h0
    have b' := (List.pairwise_cons.1 b).1
    rw [delK] at hq
    rcases List.mem_append.1 hq with a | a
    · have := c q a _ (List.mem_cons_self ..)
      rw [e, klt_irrefl] at this
      cases this
    · have := b' q a
      rw [e, klt_irrefl] at this
      cases this
  constructor
  · intro hp
    exact ⟨(hmem p).2 (.inl hp), hne p hp⟩
  · rintro ⟨hp, hn⟩
    rcases (hmem p).1 hp with a | a
    · exact a
    · exact absurd (by rw [a]) hn

/-- The items whose keys are of one client. -/
def mine (P : ByteArray → Bool) (xs : List It) : List It := xs.filter fun p => P p.1
theorem mem_mine {P : ByteArray → Bool} {xs : List It} {p : It} : p ∈ mine P xs ↔ p ∈ xs ∧ P p.1 = true := List.mem_filter
theorem rise_mine {P : ByteArray → Bool} {xs : List It} (h : Rise xs) : Rise (mine P xs) := List.Pairwise.filter _ h
theorem mine_has {P : ByteArray → Bool} {xs : List It} (h : Rise xs) {k : ByteArray} (hk : P k = true) : hasK (mine P xs) k = hasK xs k ∧ valK (mine P xs) k = valK xs k := by
  cases hh : hasK xs k with
  | true => exact (has_iff (rise_mine h)).1 (mem_mine.2 ⟨(has_iff h).2 ⟨hh, rfl⟩, hk⟩)
  | false =>
    have hn : hasK (mine P xs) k = false := by
      cases hx : hasK (mine P xs) k with
      | false => rfl
      | true =>
        have := ((has_iff h).1 (mem_mine.1 ((has_iff (rise_mine h)).2 ⟨hx, rfl⟩)).1).1
        rw [hh] at this
        cases this
    exact ⟨hn, by rw [val_none hn, val_none hh]⟩
theorem mine_set {P : ByteArray → Bool} {xs : List It} (h : Rise xs) {k : ByteArray} (hk : P k = true) (v : ByteArray) : mine P (setK xs k v) = setK (mine P xs) k v :=
  rise_ext_mem (rise_mine (rise_set h k v)) (rise_set (rise_mine h) k v) fun p => by
    rw [mem_mine, mem_setK h, mem_setK (rise_mine h), mem_mine]
    constructor
    · rintro ⟨rfl | ⟨a, b⟩, c⟩
      · exact .inl rfl
      · exact .inr ⟨⟨a, c⟩, b⟩
    · rintro (rfl | ⟨⟨a, c⟩, b⟩)
      · exact ⟨.inl rfl, hk⟩
      · exact ⟨.inr ⟨a, b⟩, c⟩
theorem mine_set_no {P : ByteArray → Bool} {xs : List It} (h : Rise xs) {k : ByteArray} (hk : P k = false) (v : ByteArray) : mine P (setK xs k v) = mine P xs :=
  rise_ext_mem (rise_mine (rise_set h k v)) (rise_mine h) fun p => by
    rw [mem_mine, mem_setK h, mem_mine]
    constructor
    · rintro ⟨rfl | ⟨a, b⟩, c⟩
      · rw [hk] at c; cases c
      · exact ⟨a, c⟩
    · rintro ⟨a, c⟩
      exact ⟨.inr ⟨a, fun e => by rw [e, hk] at c; cases c⟩, c⟩
theorem mine_del {P : ByteArray → Bool} {xs : List It} (h : Rise xs) {k : ByteArray} (hk : P k = true) (hh : hasK xs k = true) : mine P (delK xs k) = delK (mine P xs) k :=
  rise_ext_mem (rise_mine (rise_del h k)) (rise_del (rise_mine h) k) fun p => by
    rw [mem_mine, mem_delK h hh, mem_delK (rise_mine h) (by rw [(mine_has h hk).1]; exact hh), mem_mine]
    constructor
    · rintro ⟨⟨a, b⟩, c⟩
      exact ⟨⟨a, c⟩, b⟩
    · rintro ⟨⟨a, c⟩, b⟩
      exact ⟨⟨a, b⟩, c⟩
theorem mine_del_no {P : ByteArray → Bool} {xs : List It} (h : Rise xs) {k : ByteArray} (hk : P k = false) (hh : hasK xs k = true) : mine P (delK xs k) = mine P xs :=
  rise_ext_mem (rise_mine (rise_del h k)) (rise_mine h) fun p => by
    rw [mem_mine, mem_delK h hh, mem_mine]
    constructor
    · rintro ⟨⟨a, b⟩, c⟩
      exact ⟨a, c⟩
    · rintro ⟨a, c⟩
      exact ⟨⟨a, fun e => by rw [e, hk] at c; cases c⟩, c⟩
theorem full_few {xs : List It} (h : xs.length < 64) (k : ByteArray) : fullK xs k = false := by
  rw [fullK, decide_eq_false (by omega), Bool.and_false]
theorem mine_le (P : ByteArray → Bool) (xs : List It) : (mine P xs).length ≤ xs.length := List.length_filter_le ..
/-- Of one's own keys the same is answered, and the same becomes. -/
theorem mine_do {P : ByteArray → Bool} {xs : List It} (h : Rise xs) (hl : xs.length < 63) {o : MOp} (hk : P o.key = true) (ht : o.kind = 5 → P o.to = true) : doR (mine P xs) o = ((doR xs o).1, mine P (doR xs o).2) := by
  have hl2 : (mine P xs).length < 63 := Nat.lt_of_le_of_lt (mine_le P xs) hl
  obtain ⟨e1, e2⟩ := mine_has h hk
  cases hm : mayOp o with
  | false => rw [doR, doR, if_neg (by rw [hm]; decide), if_neg (by rw [hm]; decide)]
  | true =>
    rw [do_kind hm, do_kind hm]
    by_cases k1 : o.kind = 1
    · rw [if_pos k1, if_pos k1, getR, getR, e1, e2]
    · rw [if_neg k1, if_neg k1]
      by_cases k2 : o.kind = 2
      · rw [if_pos k2, if_pos k2, putR, putR, full_few (by omega), full_few (by omega)]
        exact Prod.ext rfl (mine_set h hk _).symm
      · rw [if_neg k2, if_neg k2]
        by_cases k3 : o.kind = 3
        · rw [if_pos k3, if_pos k3, delR, delR, e1, e2]
          by_cases hh : hasK xs o.key = true
          · rw [if_pos hh, if_pos hh]
            exact Prod.ext rfl (mine_del h hk hh).symm
          · rw [if_neg hh, if_neg hh]
        · rw [if_neg k3, if_neg k3]
          by_cases k4 : o.kind = 4
          · rw [if_pos k4, if_pos k4, swapR, swapR, e1, e2]
            by_cases hh : hasK xs o.key = true
            · rw [if_pos hh, if_pos hh]
              by_cases hv : valK xs o.key = o.old
              · rw [if_pos hv, if_pos hv]
                exact Prod.ext rfl (mine_set h hk _).symm
              · rw [if_neg hv, if_neg hv]
            · rw [if_neg hh, if_neg hh]
          · rw [if_neg k4, if_neg k4]
            have k5 : o.kind = 5 := by
              have hmo := hm
              unfold mayOp at hmo
              rw [Bool.and_eq_true] at hmo
              have h1 := hmo.1
              unfold ownOp at h1
              dsimp only at h1
              rw [if_neg (by rintro (a | a); exact k1 a; exact k3 a), if_neg k2, if_neg k4] at h1
              by_cases e : o.kind = 5
              · exact e
              · rw [if_neg e] at h1
                cases h1
            have ht' := ht k5
            obtain ⟨t1, t2⟩ := mine_has h ht'
            rw [moveR, moveR, e1, e2, numAt, numAt, t1, t2, full_few (show (mine P xs).length < 64 by omega), full_few (show xs.length < 64 by omega)]
            by_cases hh : hasK xs o.key = true
            · rw [if_pos hh, if_pos hh]
              split
              · rename_i a b _ _
                by_cases c1 : a < o.amount
                · rw [if_pos c1, if_pos c1]
                · rw [if_neg c1, if_neg c1]
                  by_cases c2 : topN < b + o.amount
                  · rw [if_pos c2, if_pos c2]
                  · rw [if_neg c2, if_neg c2]
                    refine Prod.ext rfl ?_
                    show _ = mine P (setK (setK xs o.key _) o.to _)
                    rw [mine_set (rise_set h _ _) ht', mine_set h hk]
                    rfl
              · rfl
            · rw [if_neg hh, if_neg hh]
/-- What is done with others' keys leaves one's own as they were. -/
theorem mine_do_no {P : ByteArray → Bool} {xs : List It} (h : Rise xs) {o : MOp} (hk : P o.key = false) (ht : o.kind = 5 → P o.to = false) : mine P (doR xs o).2 = mine P xs := by
  cases hm : mayOp o with
  | false => rw [doR, if_neg (by rw [hm]; decide)]
  | true =>
    rw [do_kind hm]
    by_cases k1 : o.kind = 1
    · rw [if_pos k1]
    · rw [if_neg k1]
      by_cases k2 : o.kind = 2
      · rw [if_pos k2, putR]
        split
        · rfl
        · exact mine_set_no h hk _
      · rw [if_neg k2]
        by_cases k3 : o.kind = 3
        · rw [if_pos k3, delR]
          split
          · exact mine_del_no h hk ‹_›
          · rfl
        · rw [if_neg k3]
          by_cases k4 : o.kind = 4
          · rw [if_pos k4, swapR]
            split
            · split
              · exact mine_set_no h hk _
              · rfl
            · rfl
          · rw [if_neg k4]
            have k5 : o.kind = 5 := by
              have hmo := hm
              unfold mayOp at hmo
              rw [Bool.and_eq_true] at hmo
              have h1 := hmo.1
              unfold ownOp at h1
              dsimp only at h1
              rw [if_neg (by rintro (a | a); exact k1 a; exact k3 a), if_neg k2, if_neg k4] at h1
              by_cases e : o.kind = 5
              · exact e
              · rw [if_neg e] at h1
                cases h1
            rw [moveR]
            repeat' split
            all_goals first
              | rfl
              | exact (mine_set_no (rise_set h _ _) (ht k5) _).trans (mine_set_no h hk _)
/-- All keys of a few. -/
def Among (K : List ByteArray) (xs : List It) : Prop := ∀ p ∈ xs, p.1 ∈ K
theorem among_do {K : List ByteArray} {xs : List It} (ha : Among K xs) {o : MOp} (hk : o.key ∈ K) (ht : o.kind = 5 → o.to ∈ K) : Among K (doR xs o).2 := by
  have hset : ∀ {ys : List It} {k v : ByteArray}, Among K ys → k ∈ K → Among K (setK ys k v) := fun hy hk p hp => by
    rcases mem_set hp with rfl | hp
    · exact hk
    · exact hy p hp
  have hdel : Among K (delK xs o.key) := fun p hp => by
    rw [delK] at hp
    rcases List.mem_append.1 hp with hp | hp
    · exact ha p (List.mem_of_mem_take hp)
    · exact ha p (List.mem_of_mem_drop hp)
  cases hm : mayOp o with
  | false => rw [doR, if_neg (by rw [hm]; decide)]; exact ha
  | true =>
    rw [do_kind hm, putR, delR, swapR, moveR]
    by_cases k5 : o.kind = 5
    · rw [k5]
      rw [if_neg (by decide), if_neg (by decide), if_neg (by decide), if_neg (by decide)]
      repeat' split
      all_goals first | exact ha | exact hset (hset ha hk) (ht k5)
    · repeat' split
      all_goals first | exact ha | exact hset ha hk | exact hdel | exact hset (hset ha hk) (ht (by
        have hmo := hm
        unfold mayOp at hmo
        rw [Bool.and_eq_true] at hmo
        have h1 := hmo.1
        unfold ownOp at h1
        dsimp only at h1
        rw [if_neg (by rintro (a | a); exact absurd a ‹_›; exact absurd a ‹_›), if_neg ‹_›, if_neg ‹_›, if_neg k5] at h1
        cases h1))
theorem few_of_among : ∀ (l K : List ByteArray), l.Nodup → (∀ k ∈ l, k ∈ K) → l.length ≤ K.length
  | [], _, _, _ => Nat.zero_le _
  | k :: l, K, hn, h => by
    have hn' := List.nodup_cons.1 hn
    have h1 := few_of_among l (K.filter fun q => decide (q ≠ k)) hn'.2 fun q hq => List.mem_filter.2 ⟨h q (List.mem_cons_of_mem _ hq), decide_eq_true fun e => hn'.1 (by rw [← e]; exact hq)⟩
    have h2 : (K.filter fun q => decide (q ≠ k)).length < K.length := List.length_filter_lt_length_iff_exists.2 ⟨k, h k (List.mem_cons_self ..), by simp⟩
    simp only [List.length_cons]
    omega
theorem among_len {K : List ByteArray} {xs : List It} (h : Rise xs) (ha : Among K xs) : xs.length ≤ K.length := by
  have := few_of_among (xs.map Prod.fst) K (List.pairwise_map.2 (h.imp fun {a b} hab e => by rw [e, klt_irrefl] at hab; cases hab)) fun k hk => by
    obtain ⟨p, hp, rfl⟩ := List.mem_map.1 hk
    exact ha p hp
  rwa [List.length_map] at this
open Go.RowKit
set_option maxRecDepth 100000

/-! ### cells -/
def lrC (p : Lrp) : List Value := [.int .i64 p.1, .string p.2]
def lsC (p : Lst) : List Value := [.int .u64 (p.1 : Int), .int .i64 (p.2.1 : Int), .string p.2.2]
def tbC (T : List Lst) : List Value := T.flatMap lsC
theorem tbC_length : ∀ T : List Lst, (tbC T).length = T.length * 3
  | [] => rfl
  | p :: T => by
    have := tbC_length T
    simp only [tbC, List.flatMap_cons, List.length_append, List.length_cons] at this ⊢
    rw [this]
    simp only [lsC, List.length_cons, List.length_nil]
    omega
theorem tbC_app (a b : List Lst) : tbC (a ++ b) = tbC a ++ tbC b := by simp [tbC]
theorem tbC_one (T : List Lst) : ∀ v ∈ tbC T, v.oneCell' = true := by
  intro v hv
  simp only [tbC, List.mem_flatMap] at hv
  obtain ⟨p, _, hp⟩ := hv
  simp only [lsC, List.mem_cons, List.mem_nil_iff, or_false] at hp
  rcases hp with rfl | rfl | rfl <;> rfl
theorem lsC_one (p : Lst) : ∀ v ∈ lsC p, v.oneCell' = true := by
  intro v hp
  simp only [lsC, List.mem_cons, List.mem_nil_iff, or_false] at hp
  rcases hp with rfl | rfl | rfl <;> rfl
theorem tbC_at : ∀ {T : List Lst} {j : Nat} {p : Lst}, T[j]? = some p → ∀ i v, (lsC p)[i]? = some v → (tbC T)[j * 3 + i]? = some v
  | [], j, p, h => by simp at h
  | q :: T, 0, p, h => by
    simp at h
    subst h
    intro i v hv
    show (lsC q ++ tbC T)[0 * 3 + i]? = some v
    rw [List.getElem?_append_left (by have := (List.getElem?_eq_some_iff.1 hv).1; omega)]
    simpa using hv
  | q :: T, j + 1, p, h => by
    intro i v hv
    simp at h
    show (lsC q ++ tbC T)[(j + 1) * 3 + i]? = some v
    rw [List.getElem?_append_right (by simp [lsC]; omega)]
    have : (j + 1) * 3 + i - (lsC q).length = j * 3 + i := by simp [lsC]; omega
    rw [this]
    exact tbC_at h i v hv
theorem tbC_set : ∀ {T : List Lst} {j : Nat} (_ : j < T.length) (a : Nat) (b : Int) (s : ByteArray), (((tbC T).set (j * 3) (.int .u64 (a : Int))).set (j * 3 + 1) (.int .i64 (b : Int))).set (j * 3 + 2) (.string s) = tbC (T.set j (a, (b, s)))
  | [], j, h, _, _, _ => by simp at h
  | q :: T, 0, h, a, b, s => rfl
  | q :: T, j + 1, h, a, b, s => by
    have e : tbC (q :: T) = .int .u64 (q.1 : Int) :: .int .i64 (q.2.1 : Int) :: .string q.2.2 :: tbC T := rfl
    have e2 : tbC ((q :: T).set (j + 1) (a, (b, s))) = .int .u64 (q.1 : Int) :: .int .i64 (q.2.1 : Int) :: .string q.2.2 :: tbC (T.set j (a, (b, s))) := rfl
    rw [e, e2, show (j + 1) * 3 = j * 3 + 3 from by omega]
    simp only [List.set_cons_succ, Nat.add_assoc]
    rw [← tbC_set (by simpa using h) a b s]
theorem tbC_take : ∀ (T : List Lst) (i : Nat), (tbC T).take (i * 3) = tbC (T.take i)
  | [], i => by simp [tbC]
  | p :: T, 0 => by simp [tbC]
  | p :: T, i + 1 => by
    show (lsC p ++ tbC T).take ((i + 1) * 3) = lsC p ++ tbC (T.take i)
    rw [List.take_append, List.take_of_length_le (by simp [lsC]; omega)]
    congr 1
    rw [show (i + 1) * 3 - (lsC p).length = i * 3 from by simp [lsC]; omega]
    exact tbC_take T i

/-- The table lies in this block. -/
structure Tbl (w : World) (t : Nat) (T : List Lst) : Prop where
  top : w.heap[t]? = some (.cells (tbC T).toArray 71 (0, 0))
  len : T.length = 8
theorem Tbl.lt {w : World} {t : Nat} {T : List Lst} (h : Tbl w t T) : t < w.heap.size := (Array.getElem?_eq_some_iff.1 h.top).1
theorem Tbl.kept {w w' : World} {t : Nat} {T : List Lst} (h : Tbl w t T) (hk : w'.heap[t]? = w.heap[t]?) : Tbl w' t T := ⟨hk.trans h.top, h.len⟩
theorem Tbl.below {w w' : World} {t : Nat} {T : List Lst} (h : Tbl w t T) (hb : Below w.heap.size w w') : Tbl w' t T := h.kept (hb.block _ h.lt)
theorem Tbl.cell {w : World} {t : Nat} {T : List Lst} (h : Tbl w t T) {j : Nat} {p : Lst} (hp : T[j]? = some p) (i : Nat) (v : Value) (hv : (lsC p)[i]? = some v) : w.cell? ⟨t, j * 3 + i, none⟩ = some v :=
  block_cell h.top _ _ (tbC_at hp i v hv)
theorem Tbl.range {w : World} {t : Nat} {T : List Lst} (h : Tbl w t T) {j : Nat} {p : Lst} (hp : T[j]? = some p) : w.rangeAt t (j * 3) (lsC p) := fun i v hv => h.cell hp i v hv
theorem Tbl.free {w : World} {t : Nat} {T : List Lst} (h : Tbl w t T) (k : Nat) : w.frozen? ⟨t, k, none⟩ = false := free_block h.top k
theorem Tbl.put {w : World} {t : Nat} {T : List Lst} (h : Tbl w t T) {j : Nat} (hj : j < 8) (a : Nat) (b : Int) (s : ByteArray) :
    Tbl (((w.setCell ⟨t, j * 3, none⟩ (.int .u64 (a : Int))).setCell ⟨t, j * 3 + 1, none⟩ (.int .i64 (b : Int))).setCell ⟨t, j * 3 + 2, none⟩ (.string s)) t (T.set j (a, (b, s))) :=
  ⟨by rw [← tbC_set (by rw [h.len]; exact hj) a b s]; exact heap_set (heap_set (heap_set h.top _) _) _, by rw [List.length_set, h.len]⟩
theorem last_at {T : List Lst} (h : T.length = 8) {j : Nat} (hj : j < 8) : ∃ p, T[j]? = some p ∧ lastOf T ((j : Int) + 1) = p := by
  refine ⟨T[j]'(by omega), List.getElem?_eq_getElem (by omega), ?_⟩
  unfold lastOf
  rw [List.getD_eq_getElem?_getD, show ((j : Int) + 1).toNat - 1 = j from by omega, List.getElem?_eq_getElem (by omega)]
  rfl
/-- What was answered lies at the address, one behind the other. -/
def Lss (w : World) (A : Option Addr) (T : List Lst) : Prop :=
  0 < T.length → ∃ b o, A = some ⟨b, o, none⟩ ∧ b < w.heap.size ∧ ∀ j p, T[j]? = some p → w.rangeAt b (o + j * 3) (lsC p)
theorem Lss.below {w w' : World} {A : Option Addr} {T : List Lst} (h : Lss w A T) (hb : Below w.heap.size w w') : Lss w' A T := fun hn =>
  let ⟨b, o, hA, hl, hc⟩ := h hn
  ⟨b, o, hA, Nat.lt_of_lt_of_le hl hb.size, fun j p hp k v hv => (hb.cell (p := ⟨b, o + j * 3 + k, none⟩) hl).trans (hc j p hp k v hv)⟩
theorem Lss.cell {w : World} {b o : Nat} {T : List Lst} (hc : ∀ j p, T[j]? = some p → w.rangeAt b (o + j * 3) (lsC p)) : ∀ j u, (tbC T)[j]? = some u → w.cell? ⟨b, o + j, none⟩ = some u := fun j u hj => by
  have hl := (List.getElem?_eq_some_iff.1 hj).1
  rw [tbC_length] at hl
  have hq : j / 3 < T.length := by omega
  have hp : T[j / 3]? = some T[j / 3] := List.getElem?_eq_getElem hq
  have hi : j % 3 < (lsC T[j / 3]).length := by simp [lsC]; omega
  have h1 := tbC_at hp (j % 3) _ (List.getElem?_eq_getElem hi)
  rw [show j / 3 * 3 + j % 3 = j from by omega, hj] at h1
  have h2 := hc _ _ hp (j % 3) _ (List.getElem?_eq_getElem hi)
  rw [show o + j / 3 * 3 + j % 3 = o + j from by omega] at h2
  rw [h2, Option.some.inj h1]
theorem Lss.of_block {w : World} {b : Nat} {T : List Lst} {R : List Value} {ty : TypeId} (h : w.heap[b]? = some (.cells (tbC T ++ R).toArray ty (0, 0))) : Lss w (some ⟨b, 0, none⟩) T := fun _ =>
  ⟨b, 0, rfl, (Array.getElem?_eq_some_iff.1 h).1, fun j p hp k v hv => by
    rw [Nat.zero_add]
    refine block_cell h _ _ ?_
    have := tbC_at hp k v hv
    rw [List.getElem?_append_left (List.getElem?_eq_some_iff.1 this).1]
    exact this⟩

/-! ### requests -/
def rqC (q : MRq) : List Value := .int .i64 q.client :: .int .u64 (q.time : Int) :: (opC q.op ++ q.tag)
theorem rqC_length (q : MRq) : (rqC q).length = 8 + q.tag.length := by simp [rqC, opC]; omega
theorem rq_0 (q : MRq) : (rqC q)[0]? = some (.int .i64 q.client) := rfl
theorem rq_1 (q : MRq) : (rqC q)[1]? = some (.int .u64 (q.time : Int)) := rfl
theorem rq_op (q : MRq) : ∀ j v, (opC q.op)[j]? = some v → (rqC q)[2 + j]? = some v := fun j v hv => by
  rw [rqC, show 2 + j = j + 1 + 1 from by omega, List.getElem?_cons_succ, List.getElem?_cons_succ, List.getElem?_append_left (List.getElem?_eq_some_iff.1 hv).1]
  exact hv
/-- Requests lie at the address, one behind the other. -/
structure Rqs (w : World) (A : Option Addr) (qs : List MRq) : Prop where
  at' : 0 < qs.length → ∃ b o, A = some ⟨b, o, none⟩ ∧ b < w.heap.size ∧ ∀ j q, qs[j]? = some q → w.rangeAt b (o + j * 40) (rqC q)
  tag : ∀ q ∈ qs, q.tag.length = 32
  num : ∀ q ∈ qs, q.time < 18446744073709551616 ∧ q.op.amount < 18446744073709551616 ∧ (Lit.int .i64 q.client).wf = true
theorem Rqs.below {w w' : World} {A : Option Addr} {qs : List MRq} (h : Rqs w A qs) (hb : Below w.heap.size w w') : Rqs w' A qs := ⟨fun hn =>
  let ⟨b, o, hA, hl, hc⟩ := h.at' hn
  ⟨b, o, hA, Nat.lt_of_lt_of_le hl hb.size, fun j p hp k v hv => (hb.cell (p := ⟨b, o + j * 40 + k, none⟩) hl).trans (hc j p hp k v hv)⟩, h.tag, h.num⟩

theorem Tryd.is37 : (Tryd.prog.info? 37).map (·.size) = some 40 := by kernel_rfl
theorem Tryd.is48 : (Tryd.prog.info? 48).map (·.size) = some 3 := by kernel_rfl
theorem Tryd.info48 : (Tryd.prog.info? 48).map (fun i => (i.zero, i.size, i.bytes)) = some (some (.agg #[.int .u64 0, .int .i64 0, .string ByteArray.empty]), 3, 32) := by kernel_rfl

/-! ### New, isClient -/
theorem client_any (c : Int) (w : World) : Calls Tryd.prog 27 #[.int .i64 c] w fun E w' => E = .returned (.bool (isCl c)) ∧ w = w' := by
  by_cases h1 : 1 ≤ c
  · have h1' : ¬ (c < 1) := by omega
    by_cases h2 : c ≤ 8
    · go_enter Tryd.func27, Tryd.ntmps27
      go_wp2_with fail
      go_ret
      exact ⟨by simp [isCl, h1, h2] <;> omega, rfl⟩
    · go_enter Tryd.func27, Tryd.ntmps27
      go_wp2_with fail
      go_ret
      exact ⟨by simp [isCl, h1, h2] <;> omega, rfl⟩
  · go_enter Tryd.func27, Tryd.ntmps27
    go_wp2_with fail
    go_ret
    exact ⟨by simp [isCl] <;> omega, rfl⟩
def zT : List Lst := List.replicate 8 zL
theorem tnew_any (w : World) : Calls Tryd.prog 14 #[] w fun E w' => E = .returned (.pointer (some ⟨w.heap.size, 0, none⟩)) ∧ Tbl w' w.heap.size zT ∧ Below w.heap.size w w' := by
  have HF : Hid (Tbl (w.alloc (.cells (tbC zT).toArray 71)) w.heap.size zT ∧ Below w.heap.size w (w.alloc (.cells (tbC zT).toArray 71))) := Lib.hid ⟨⟨heap_alloc_new w _, rfl⟩, (Below.refl _ _).alloc (Nat.le_refl _) _⟩
  go_enter Tryd.func14, Tryd.ntmps14
  go_wp2_with fail
  go_ret
  exact ⟨rfl, HF.out⟩
open Go.RowKit
set_option maxRecDepth 100000

def OnT (g : Nat) (r : Option Nat) (t k : Nat) : Prop := On g r k ∨ k = t
def SDoP (w : World) (t : Nat) (T : List Lst) (g : Nat) (r : Option Nat) (xs : List It) (q : MRq) (E : Ending) (w' : World) : Prop :=
  E = .returned (.tuple #[.agg (lrC (tR T xs q).1.1).toArray, .bool (tR T xs q).1.2]) ∧ ∃ r' c', Tbl w' t (tR T xs q).2.1 ∧ Sys w' g r' c' (tR T xs q).2.2 ∧ ¬ On g r' t ∧ Own w (OnT g r t) w' (OnT g r' t)
structure SAt (w : World) (t : Nat) (T : List Lst) (g : Nat) (r : Option Nat) (q : MRq) (W : World) (r' : Option Nat) (c' : Nat) (ys : List It) : Prop where
  tbl : Tbl W t T
  sys : Sys W g r' c' ys
  ne : ¬ On g r' t
  own : Own w (OnT g r t) W (OnT g r' t)
  box : W.heap[w.heap.size]? = some (.cells (rqC q).toArray 37 (0, 0))
  res : W.heap[w.heap.size + 1]? = some (.cells [.int .i64 0, .string ByteArray.empty].toArray 29 (0, 0))
  tlow : t < w.heap.size
  low : 4 ≤ t
theorem SAt.start {w : World} {t : Nat} {T : List Lst} {g : Nat} {r : Option Nat} {c : Nat} {xs : List It} (hT : Tbl w t T) (h : Sys w g r c xs) (hne : ¬ On g r t) (ht : 4 ≤ t) (q : MRq) :
    SAt w t T g r q ((w.alloc (.cells (rqC q).toArray 37)).alloc (.cells [.int .i64 0, .string ByteArray.empty].toArray 29)) r c xs := by
  have hb : Below w.heap.size w ((w.alloc (.cells (rqC q).toArray 37)).alloc (.cells [.int .i64 0, .string ByteArray.empty].toArray 29)) := ((Below.refl _ _).alloc (Nat.le_refl _) _).alloc (by simp) _
  exact ⟨hT.below hb, h.below hb, hne, Own.same (Turns.of_below hb), one_new w _ _ _, two_new w _ _ _, hT.lt, ht⟩
theorem SAt.lt {w : World} {t : Nat} {T : List Lst} {g : Nat} {r : Option Nat} {q : MRq} {W : World} {r' : Option Nat} {c' : Nat} {ys : List It} (H : SAt w t T g r q W r' c' ys) : w.heap.size + 1 < W.heap.size := (Array.getElem?_eq_some_iff.1 H.res).1
theorem SAt.below {w : World} {t : Nat} {T : List Lst} {g : Nat} {r : Option Nat} {q : MRq} {W W' : World} {r' : Option Nat} {c' : Nat} {ys : List It} (H : SAt w t T g r q W r' c' ys) (hb : Below W.heap.size W W') : SAt w t T g r q W' r' c' ys :=
  ⟨H.tbl.below hb, H.sys.below hb, H.ne, ⟨H.own.1.trans (Turns.of_below hb), H.own.2⟩, (hb.block _ (by have := H.lt; omega)).trans H.box, (hb.block _ H.lt).trans H.res, H.tlow, H.low⟩
theorem SAt.next {w : World} {t : Nat} {T : List Lst} {g : Nat} {r : Option Nat} {q : MRq} {W W' : World} {r' r'' : Option Nat} {c' c'' : Nat} {ys zs : List It} (H : SAt w t T g r q W r' c' ys) (hs : Sys W' g r'' c'' zs) (ho : Own W (On g r') W' (On g r'')) : SAt w t T g r q W' r'' c'' zs :=
  ⟨H.tbl.kept (ho.1.block _ H.tbl.lt H.ne), hs, fun h => by
    rcases ho.2 t h with e | e
    · exact H.ne e
    · have := H.tbl.lt; omega,
   H.own.trans ⟨ho.1.mono fun k hk => .inl hk, fun k hk => by
    rcases hk with hk | hk
    · rcases ho.2 k hk with e | e
      · exact .inl (.inl e)
      · exact .inr e
    · exact .inl (.inr hk)⟩,
   (ho.1.block _ (by have := H.lt; omega) (H.sys.apart H.box (by decide) (by decide))).trans H.box, (ho.1.block _ H.lt (H.sys.apart H.res (by decide) (by decide))).trans H.res, H.tlow, H.low⟩
theorem Sys.off {w w' : World} {g : Nat} {r : Option Nat} {c : Nat} {xs : List It} (h : Sys w g r c xs) (hv : ∀ k, k < 4 → w'.heap[k]? = w.heap[k]?) (hk : ∀ k, On g r k → w'.heap[k]? = w.heap[k]?) : Sys w' g r c xs :=
  ⟨h.led.kept hk, h.vars.kept hv, h.low, h.rise, h.len, h.small⟩
theorem SAt.put {w : World} {t : Nat} {T : List Lst} {g : Nat} {r : Option Nat} {q : MRq} {W : World} {r' : Option Nat} {c' : Nat} {ys : List It} (H : SAt w t T g r q W r' c' ys) {j : Nat} (hj : j < 8) (a : Nat) (b : Int) (s : ByteArray) :
    SAt w t (T.set j (a, (b, s))) g r q (((W.setCell ⟨t, j * 3, none⟩ (.int .u64 (a : Int))).setCell ⟨t, j * 3 + 1, none⟩ (.int .i64 (b : Int))).setCell ⟨t, j * 3 + 2, none⟩ (.string s)) r' c' ys := by
  have hk : ∀ k, k ≠ t → (((W.setCell ⟨t, j * 3, none⟩ (.int .u64 (a : Int))).setCell ⟨t, j * 3 + 1, none⟩ (.int .i64 (b : Int))).setCell ⟨t, j * 3 + 2, none⟩ (.string s)).heap[k]? = W.heap[k]? := fun k hne => by
    rw [Below.heap_setCell _ ⟨t, j * 3 + 2, none⟩ _ k hne, Below.heap_setCell _ ⟨t, j * 3 + 1, none⟩ _ k hne, Below.heap_setCell _ ⟨t, j * 3, none⟩ _ k hne]
  have h1 := H.tlow
  have h2 := H.low
  refine ⟨H.tbl.put hj a b s, H.sys.off (fun k hk4 => hk k (by omega)) fun k ho => hk k fun e => H.ne (e ▸ ho), H.ne, ⟨((H.own.1.setCell (.inl (.inr rfl)) _ _).setCell (.inl (.inr rfl)) _ _).setCell (.inl (.inr rfl)) _ _, H.own.2⟩, (hk _ (by omega)).trans H.box, (hk _ (by omega)).trans H.res, h1, h2⟩
theorem SAt.out {w : World} {t : Nat} {T : List Lst} {g : Nat} {r : Option Nat} {q : MRq} {W : World} {r' : Option Nat} {c' : Nat} {ys : List It} (H : SAt w t T g r q W r' c' ys) : W.cell? ⟨w.heap.size + 1, 0, none⟩ = some (.int .i64 0) ∧ W.cell? ⟨w.heap.size + 1, 1, none⟩ = some (.string ByteArray.empty) ∧ W.frozen? ⟨w.heap.size + 1, 0, none⟩ = false ∧ W.frozen? ⟨w.heap.size + 1, 1, none⟩ = false :=
  ⟨block_cell H.res 0 _ rfl, block_cell H.res 1 _ rfl, free_block H.res 0, free_block H.res 1⟩
theorem SAt.fin {w : World} {t : Nat} {T : List Lst} {g : Nat} {r : Option Nat} {q : MRq} {W : World} {r' : Option Nat} {c' : Nat} {ys : List It} (H : SAt w t T g r q W r' c' ys) (x y : Value) :
    ((W.setCell ⟨w.heap.size + 1, 0, none⟩ x).setCell ⟨w.heap.size + 1, 1, none⟩ y).heap[w.heap.size + 1]? = some (.cells [x, y].toArray 29 (0, 0)) ∧ ∃ r' c', Tbl ((W.setCell ⟨w.heap.size + 1, 0, none⟩ x).setCell ⟨w.heap.size + 1, 1, none⟩ y) t T ∧ Sys ((W.setCell ⟨w.heap.size + 1, 0, none⟩ x).setCell ⟨w.heap.size + 1, 1, none⟩ y) g r' c' ys ∧ ¬ On g r' t ∧ Own w (OnT g r t) ((W.setCell ⟨w.heap.size + 1, 0, none⟩ x).setCell ⟨w.heap.size + 1, 1, none⟩ y) (OnT g r' t) := by
  have ha := H.sys.apart H.res (by decide) (by decide)
  have hk : ∀ k, k ≠ w.heap.size + 1 → ((W.setCell ⟨w.heap.size + 1, 0, none⟩ x).setCell ⟨w.heap.size + 1, 1, none⟩ y).heap[k]? = W.heap[k]? := fun k hne => by
    rw [Below.heap_setCell _ ⟨w.heap.size + 1, 1, none⟩ _ k hne, Below.heap_setCell _ ⟨w.heap.size + 1, 0, none⟩ _ k hne]
  have h1 := H.tlow
  have h2 := H.low
  refine ⟨pair_store H.res x y, r', c', H.tbl.kept (hk _ (by omega)), H.sys.off (fun k hk4 => hk k (by omega)) fun k ho => hk k fun e => ha (e ▸ ho), H.ne, (H.own.1.setCell (.inr (by omega)) _ _).setCell (.inr (by omega)) _ _, H.own.2⟩
/-- What is stored at once into the fresh block. -/
theorem SAt.fin0 {w : World} {t : Nat} {T : List Lst} {g : Nat} {r : Option Nat} {c : Nat} {xs : List It} (hT : Tbl w t T) (h : Sys w g r c xs) (hne : ¬ On g r t) (q : MRq) (x y : Value) :
    ((w.alloc (.cells (rqC q).toArray 37)).alloc (.cells #[x, y] 29)).heap[w.heap.size + 1]? = some (.cells [x, y].toArray 29 (0, 0)) ∧ ∃ r' c', Tbl ((w.alloc (.cells (rqC q).toArray 37)).alloc (.cells #[x, y] 29)) t T ∧ Sys ((w.alloc (.cells (rqC q).toArray 37)).alloc (.cells #[x, y] 29)) g r' c' xs ∧ ¬ On g r' t ∧ Own w (OnT g r t) ((w.alloc (.cells (rqC q).toArray 37)).alloc (.cells #[x, y] 29)) (OnT g r' t) := by
  have hb : Below w.heap.size w ((w.alloc (.cells (rqC q).toArray 37)).alloc (.cells #[x, y] 29)) := ((Below.refl _ _).alloc (Nat.le_refl _) _).alloc (by simp) _
  exact ⟨two_new w _ [x, y] _, r, c, hT.below hb, h.below hb, hne, Own.same (Turns.of_below hb)⟩
theorem SAt.drewN {w : World} {t : Nat} {T : List Lst} {g : Nat} {r : Option Nat} {q : MRq} {W : World} {r' : Option Nat} {c' : Nat} {ys : List It} (H : SAt w t T g r q W r' c' ys) (k : Nat) : SAt w t T g r q (W.drewN k) r' c' ys := H.below (below_drewN (Below.refl _ _) k)
theorem SAt.cell {w : World} {t : Nat} {T : List Lst} {g : Nat} {r : Option Nat} {q : MRq} {W : World} {r' : Option Nat} {c' : Nat} {ys : List It} (H : SAt w t T g r q W r' c' ys) (k : Nat) (v : Value) (hv : (rqC q)[k]? = some v) : W.cell? ⟨w.heap.size, k, none⟩ = some v := block_cell H.box k v hv
theorem SAt.op {w : World} {t : Nat} {T : List Lst} {g : Nat} {r : Option Nat} {q : MRq} {W : World} {r' : Option Nat} {c' : Nat} {ys : List It} (H : SAt w t T g r q W r' c' ys) : W.rangeAt w.heap.size 2 (opC q.op) := range_block H.box 2 _ (rq_op q)
set_option maxHeartbeats 1000000 in
theorem sdo_no1 {w : World} {t : Nat} {T : List Lst} {g : Nat} {r : Option Nat} {c : Nat} {xs : List It} (hT : Tbl w t T) (h : Sys w g r c xs) (hne : ¬ On g r t) (ht : 4 ≤ t) (q : MRq) (hc : isCl q.client = false) :
    Calls Tryd.prog 16 #[.pointer (some ⟨t, 0, none⟩), .pointer (some ⟨g, 0, none⟩), .agg (rqC q).toArray] w fun E w' => SDoP w t T g r xs q E w' := by
  have H0 := Lib.hid (SAt.start hT h hne ht q)
  have HE : Hid (tR T xs q = ((up (no 1), false), T, xs)) := Lib.hid (tR_no (by rw [mayQ, hc]; rfl))
  have HC : Hid (∀ W, Calls Tryd.prog 27 #[.int .i64 q.client] W fun E w' => E = .returned (.bool false) ∧ W = w') := Lib.hid fun W => by rw [← hc]; exact client_any q.client W
  have k0 : ((w.alloc (.cells (rqC q).toArray 37)).alloc (.cells #[.int .i64 0, .string ⟨#[]⟩] 29)).cell? ⟨w.heap.size, 0, none⟩ = some (.int .i64 q.client) := H0.out.cell 0 _ (rq_0 _)
  have k1 : ((w.alloc (.cells (rqC q).toArray 37)).alloc (.cells #[.int .i64 0, .string ⟨#[]⟩] 29)).cell? ⟨w.heap.size, 1, none⟩ = some (.int .u64 (q.time : Int)) := H0.out.cell 1 _ (rq_1 _)
  have HZ := Lib.hid (fun x y => SAt.fin0 hT h hne q x y)
  clear hT h hne ht hc
  go_enter Tryd.func16, Tryd.ntmps16
  go_wp2_with (go_at_call 27; refine (HC.out _).mono ?_)
  rintro E w1 ⟨rfl, rfl⟩
  clear HC
  go_wp2_with fail
  (try simp only [Exit.inBlock, Exit.then]); refine bodyPost_ret (ret_ct (g := w.heap.size + 1) rfl rfl rfl (range_all (HZ.out _ _).1) Tryd.underlying29 rfl Tryd.is29) rfl ?_
  show SDoP w t T g r xs _ _ _
  unfold SDoP
  rw [HE.out]
  exact ⟨rfl, (HZ.out _ _).2⟩
set_option maxHeartbeats 1000000 in
theorem sdo_no2 {w : World} {t : Nat} {T : List Lst} {g : Nat} {r : Option Nat} {c : Nat} {xs : List It} (hT : Tbl w t T) (h : Sys w g r c xs) (hne : ¬ On g r t) (ht : 4 ≤ t) (q : MRq) (hc : isCl q.client = true) (h0 : q.time = 0) :
    Calls Tryd.prog 16 #[.pointer (some ⟨t, 0, none⟩), .pointer (some ⟨g, 0, none⟩), .agg (rqC q).toArray] w fun E w' => SDoP w t T g r xs q E w' := by
  have H0 := Lib.hid (SAt.start hT h hne ht q)
  have HE : Hid (tR T xs q = ((up (no 1), false), T, xs)) := Lib.hid (tR_no (by rw [mayQ, hc, h0]; rfl))
  have HC : Hid (∀ W, Calls Tryd.prog 27 #[.int .i64 q.client] W fun E w' => E = .returned (.bool true) ∧ W = w') := Lib.hid fun W => by rw [← hc]; exact client_any q.client W
  have k0 : ((w.alloc (.cells (rqC q).toArray 37)).alloc (.cells #[.int .i64 0, .string ⟨#[]⟩] 29)).cell? ⟨w.heap.size, 0, none⟩ = some (.int .i64 q.client) := H0.out.cell 0 _ (rq_0 _)
  have k1 : ((w.alloc (.cells (rqC q).toArray 37)).alloc (.cells #[.int .i64 0, .string ⟨#[]⟩] 29)).cell? ⟨w.heap.size, 1, none⟩ = some (.int .u64 0) := by have := H0.out.cell 1 _ (rq_1 q); rw [h0] at this; exact this
  have HZ := Lib.hid (fun x y => SAt.fin0 hT h hne q x y)
  clear hT h hne ht hc h0
  go_enter Tryd.func16, Tryd.ntmps16
  go_wp2_with (go_at_call 27; refine (HC.out _).mono ?_)
  rintro E w1 ⟨rfl, rfl⟩
  clear HC
  go_wp2_with fail
  (try simp only [Exit.inBlock, Exit.then]); refine bodyPost_ret (ret_ct (g := w.heap.size + 1) rfl rfl rfl (range_all (HZ.out _ _).1) Tryd.underlying29 rfl Tryd.is29) rfl ?_
  show SDoP w t T g r xs _ _ _
  unfold SDoP
  rw [HE.out]
  exact ⟨rfl, (HZ.out _ _).2⟩
set_option maxHeartbeats 1000000 in
theorem sdo_low {w : World} {t : Nat} {T : List Lst} {g : Nat} {r : Option Nat} {c : Nat} {xs : List It} (hT : Tbl w t T) (h : Sys w g r c xs) (hne : ¬ On g r t) (ht : 4 ≤ t) {j : Nat} (hj : j < 8) {tm : Nat} (h0 : tm ≠ 0) (o : MOp) (tag : List Value) (hx : tm < (lastOf T ((j : Int) + 1)).1) :
    Calls Tryd.prog 16 #[.pointer (some ⟨t, 0, none⟩), .pointer (some ⟨g, 0, none⟩), .agg (rqC (⟨(j : Int) + 1, tm, o, tag⟩ : MRq)).toArray] w fun E w' => SDoP w t T g r xs (⟨(j : Int) + 1, tm, o, tag⟩ : MRq) E w' := by
  have H0 := Lib.hid (SAt.start hT h hne ht (⟨(j : Int) + 1, tm, o, tag⟩ : MRq))
  have hcl : isCl ((j : Int) + 1) = true := isCl_iff.2 (by omega)
  have HE : Hid (tR T xs (⟨(j : Int) + 1, tm, o, tag⟩ : MRq) = ((up (no 13), false), T, xs)) := Lib.hid (tR_low (mayQ_iff.2 ⟨by dsimp only; omega, h0⟩) hx)
  have HC : Hid (∀ W, Calls Tryd.prog 27 #[.int .i64 ((j : Int) + 1)] W fun E w' => E = .returned (.bool true) ∧ W = w') := Lib.hid fun W => by rw [← hcl]; exact client_any ((j : Int) + 1) W
  have k0 : ((w.alloc (.cells (rqC (⟨(j : Int) + 1, tm, o, tag⟩ : MRq)).toArray 37)).alloc (.cells #[.int .i64 0, .string ⟨#[]⟩] 29)).cell? ⟨w.heap.size, 0, none⟩ = some (.int .i64 ((j : Int) + 1)) := H0.out.cell 0 _ (rq_0 _)
  have k1 : ((w.alloc (.cells (rqC (⟨(j : Int) + 1, tm, o, tag⟩ : MRq)).toArray 37)).alloc (.cells #[.int .i64 0, .string ⟨#[]⟩] 29)).cell? ⟨w.heap.size, 1, none⟩ = some (.int .u64 (tm : Int)) := H0.out.cell 1 _ (rq_1 _)
  have hwj : IntKind.i64.wrap ((j : Int) + 1 - 1) = (j : Int) := by rw [IntKind.wrap_i64]; omega
  obtain ⟨p, hp, hlast⟩ := last_at hT.len hj
  have m0 : ((w.alloc (.cells (rqC (⟨(j : Int) + 1, tm, o, tag⟩ : MRq)).toArray 37)).alloc (.cells #[.int .i64 0, .string ⟨#[]⟩] 29)).cell? ⟨t, j * 3, none⟩ = some (.int .u64 (p.1 : Int)) := H0.out.tbl.cell hp 0 _ rfl
  have m1 : ((w.alloc (.cells (rqC (⟨(j : Int) + 1, tm, o, tag⟩ : MRq)).toArray 37)).alloc (.cells #[.int .i64 0, .string ⟨#[]⟩] 29)).cell? ⟨t, j * 3 + 1, none⟩ = some (.int .i64 (p.2.1 : Int)) := H0.out.tbl.cell hp 1 _ rfl
  have m2 : ((w.alloc (.cells (rqC (⟨(j : Int) + 1, tm, o, tag⟩ : MRq)).toArray 37)).alloc (.cells #[.int .i64 0, .string ⟨#[]⟩] 29)).cell? ⟨t, j * 3 + 2, none⟩ = some (.string p.2.2) := H0.out.tbl.cell hp 2 _ rfl
  have hj0 : (0 : Int) ≤ (j : Int) := by omega
  have hj8 : (j : Int) < 8 := by omega
  have htn : ((j : Int)).toNat = j := by omega
  have h0' : ¬ ((tm : Int) = 0) := by omega
  have hx1 : (tm : Int) < (p.1 : Int) := by rw [hlast] at hx; omega
  have HZ := Lib.hid (fun k x y => (H0.out.drewN k).fin x y)
  clear hT h hne ht h0 hx hp hlast hcl
  go_enter Tryd.func16, Tryd.ntmps16
  go_wp2_with (go_at_call 27; refine (HC.out _).mono ?_)
  rintro E w1 ⟨rfl, rfl⟩
  clear HC
  go_wp2_with fail
  go_quiet (fail)
  go_wp2_with fail
  go_quiet (fail)
  go_wp2_with fail
  (try simp only [Exit.inBlock, Exit.then]); refine bodyPost_ret (ret_ct (g := w.heap.size + 1) rfl rfl rfl (range_all (HZ.out _ _ _).1) Tryd.underlying29 rfl Tryd.is29) rfl ?_
  show SDoP w t T g r xs _ _ _
  unfold SDoP
  rw [HE.out]
  exact ⟨rfl, (HZ.out _ _ _).2⟩
set_option maxHeartbeats 1000000 in
theorem sdo_at {w : World} {t : Nat} {T : List Lst} {g : Nat} {r : Option Nat} {c : Nat} {xs : List It} (hT : Tbl w t T) (h : Sys w g r c xs) (hne : ¬ On g r t) (ht : 4 ≤ t) {j : Nat} (hj : j < 8) {tm : Nat} (h0 : tm ≠ 0) (o : MOp) (tag : List Value) (hx : tm = (lastOf T ((j : Int) + 1)).1) :
    Calls Tryd.prog 16 #[.pointer (some ⟨t, 0, none⟩), .pointer (some ⟨g, 0, none⟩), .agg (rqC (⟨(j : Int) + 1, tm, o, tag⟩ : MRq)).toArray] w fun E w' => SDoP w t T g r xs (⟨(j : Int) + 1, tm, o, tag⟩ : MRq) E w' := by
  have H0 := Lib.hid (SAt.start hT h hne ht (⟨(j : Int) + 1, tm, o, tag⟩ : MRq))
  have hcl : isCl ((j : Int) + 1) = true := isCl_iff.2 (by omega)
  have HE : Hid (tR T xs (⟨(j : Int) + 1, tm, o, tag⟩ : MRq) = (((lastOf T ((j : Int) + 1)).2, false), T, xs)) := Lib.hid (tR_at (mayQ_iff.2 ⟨by dsimp only; omega, h0⟩) hx)
  have HC : Hid (∀ W, Calls Tryd.prog 27 #[.int .i64 ((j : Int) + 1)] W fun E w' => E = .returned (.bool true) ∧ W = w') := Lib.hid fun W => by rw [← hcl]; exact client_any ((j : Int) + 1) W
  have k0 : ((w.alloc (.cells (rqC (⟨(j : Int) + 1, tm, o, tag⟩ : MRq)).toArray 37)).alloc (.cells #[.int .i64 0, .string ⟨#[]⟩] 29)).cell? ⟨w.heap.size, 0, none⟩ = some (.int .i64 ((j : Int) + 1)) := H0.out.cell 0 _ (rq_0 _)
  have k1 : ((w.alloc (.cells (rqC (⟨(j : Int) + 1, tm, o, tag⟩ : MRq)).toArray 37)).alloc (.cells #[.int .i64 0, .string ⟨#[]⟩] 29)).cell? ⟨w.heap.size, 1, none⟩ = some (.int .u64 (tm : Int)) := H0.out.cell 1 _ (rq_1 _)
  have hwj : IntKind.i64.wrap ((j : Int) + 1 - 1) = (j : Int) := by rw [IntKind.wrap_i64]; omega
  obtain ⟨p, hp, hlast⟩ := last_at hT.len hj
  have m0 : ((w.alloc (.cells (rqC (⟨(j : Int) + 1, tm, o, tag⟩ : MRq)).toArray 37)).alloc (.cells #[.int .i64 0, .string ⟨#[]⟩] 29)).cell? ⟨t, j * 3, none⟩ = some (.int .u64 (p.1 : Int)) := H0.out.tbl.cell hp 0 _ rfl
  have m1 : ((w.alloc (.cells (rqC (⟨(j : Int) + 1, tm, o, tag⟩ : MRq)).toArray 37)).alloc (.cells #[.int .i64 0, .string ⟨#[]⟩] 29)).cell? ⟨t, j * 3 + 1, none⟩ = some (.int .i64 (p.2.1 : Int)) := H0.out.tbl.cell hp 1 _ rfl
  have m2 : ((w.alloc (.cells (rqC (⟨(j : Int) + 1, tm, o, tag⟩ : MRq)).toArray 37)).alloc (.cells #[.int .i64 0, .string ⟨#[]⟩] 29)).cell? ⟨t, j * 3 + 2, none⟩ = some (.string p.2.2) := H0.out.tbl.cell hp 2 _ rfl
  have hj0 : (0 : Int) ≤ (j : Int) := by omega
  have hj8 : (j : Int) < 8 := by omega
  have htn : ((j : Int)).toNat = j := by omega
  have h0' : ¬ ((tm : Int) = 0) := by omega
  obtain rfl : tm = p.1 := by rw [hlast] at hx; exact hx
  rw [hlast] at HE
  have HZ := Lib.hid (fun k x y => (H0.out.drewN k).fin x y)
  clear hT h hne ht h0 hx hp hlast hcl
  go_enter Tryd.func16, Tryd.ntmps16
  go_wp2_with (go_at_call 27; refine (HC.out _).mono ?_)
  rintro E w1 ⟨rfl, rfl⟩
  clear HC
  go_wp2_with fail
  go_quiet (fail)
  go_wp2_with fail
  go_quiet (fail)
  go_wp2_with fail
  go_quiet (fail)
  go_wp2_with fail
  (try simp only [Exit.inBlock, Exit.then]); refine bodyPost_ret (ret_ct (g := w.heap.size + 1) rfl rfl rfl (range_all (HZ.out _ _ _).1) Tryd.underlying29 rfl Tryd.is29) rfl ?_
  show SDoP w t T g r xs _ _ _
  unfold SDoP
  rw [HE.out]
  exact ⟨rfl, (HZ.out _ _ _).2⟩
open Go.RowKit
set_option maxRecDepth 100000

set_option maxHeartbeats 2000000 in
theorem sdo_new {w : World} {t : Nat} {T : List Lst} {g : Nat} {r : Option Nat} {c : Nat} {xs : List It} (hT : Tbl w t T) (h : Sys w g r c xs) (hne : ¬ On g r t) (ht : 4 ≤ t) {j : Nat} (hj : j < 8) {tm : Nat} (h0 : tm ≠ 0) (o : MOp) (tag : List Value) (hx : (lastOf T ((j : Int) + 1)).1 < tm) :
    Calls Tryd.prog 16 #[.pointer (some ⟨t, 0, none⟩), .pointer (some ⟨g, 0, none⟩), .agg (rqC (⟨(j : Int) + 1, tm, o, tag⟩ : MRq)).toArray] w fun E w' => SDoP w t T g r xs (⟨(j : Int) + 1, tm, o, tag⟩ : MRq) E w' := by
  have H0 := Lib.hid (SAt.start hT h hne ht (⟨(j : Int) + 1, tm, o, tag⟩ : MRq))
  have hcl : isCl ((j : Int) + 1) = true := isCl_iff.2 (by omega)
  obtain ⟨er, vl, he⟩ : ∃ er vl, (doR xs o).1 = (er, vl) := ⟨_, _, rfl⟩
  obtain ⟨zs, hzs⟩ : ∃ zs, zs = (doR xs o).2 := ⟨_, rfl⟩
  have HE : Hid (tR T xs (⟨(j : Int) + 1, tm, o, tag⟩ : MRq) = ((((er : Int), vl), true), T.set j (tm, ((er : Int), vl)), zs)) := Lib.hid (by rw [tR_new (mayQ_iff.2 ⟨by dsimp only; omega, h0⟩) hx, he, ← hzs]; simp [up])
  have HC : Hid (∀ W, Calls Tryd.prog 27 #[.int .i64 ((j : Int) + 1)] W fun E w' => E = .returned (.bool true) ∧ W = w') := Lib.hid fun W => by rw [← hcl]; exact client_any ((j : Int) + 1) W
  have HD : Hid (∀ W, Sys W g r c xs → Calls Tryd.prog 28 #[.pointer (some ⟨g, 0, none⟩), .agg (opC o).toArray] W fun E w' => E = .returned (.agg #[.int .i64 (er : Int), .string vl]) ∧ ∃ r' c', Sys w' g r' c' zs ∧ Own W (On g r) w' (On g r')) := Lib.hid fun W hs => (do_any hs o).mono fun E w' hd => by unfold DoP at hd; rw [he, ← hzs] at hd; exact hd
  have k0 : ((w.alloc (.cells (rqC (⟨(j : Int) + 1, tm, o, tag⟩ : MRq)).toArray 37)).alloc (.cells #[.int .i64 0, .string ⟨#[]⟩] 29)).cell? ⟨w.heap.size, 0, none⟩ = some (.int .i64 ((j : Int) + 1)) := H0.out.cell 0 _ (rq_0 _)
  have k1 : ((w.alloc (.cells (rqC (⟨(j : Int) + 1, tm, o, tag⟩ : MRq)).toArray 37)).alloc (.cells #[.int .i64 0, .string ⟨#[]⟩] 29)).cell? ⟨w.heap.size, 1, none⟩ = some (.int .u64 (tm : Int)) := H0.out.cell 1 _ (rq_1 _)
  have K1 : Hid ((rqC (⟨(j : Int) + 1, tm, o, tag⟩ : MRq))[1]? = some (.int .u64 (tm : Int))) := Lib.hid rfl
  have hwj : IntKind.i64.wrap ((j : Int) + 1 - 1) = (j : Int) := by rw [IntKind.wrap_i64]; omega
  obtain ⟨p, hp, hlast⟩ := last_at hT.len hj
  have m0 : ((w.alloc (.cells (rqC (⟨(j : Int) + 1, tm, o, tag⟩ : MRq)).toArray 37)).alloc (.cells #[.int .i64 0, .string ⟨#[]⟩] 29)).cell? ⟨t, j * 3, none⟩ = some (.int .u64 (p.1 : Int)) := H0.out.tbl.cell hp 0 _ rfl
  have hj0 : (0 : Int) ≤ (j : Int) := by omega
  have hj8 : (j : Int) < 8 := by omega
  have htn : ((j : Int)).toNat = j := by omega
  have h0' : ¬ ((tm : Int) = 0) := by omega
  have hx1 : ¬ ((tm : Int) < (p.1 : Int)) := by rw [hlast] at hx; omega
  have hx2 : ¬ ((tm : Int) = (p.1 : Int)) := by rw [hlast] at hx; omega
  have HN : Hid (T.length = 8) := Lib.hid hT.len
  clear hT h hne ht h0 hx hp hlast hcl he hzs
  go_enter Tryd.func16, Tryd.ntmps16
  go_wp2_with (go_at_call 27; refine (HC.out _).mono ?_; rintro E w1 ⟨rfl, rfl⟩)
  clear HC
  go_quiet (fail)
  go_wp2_with fail
  go_quiet (fail)
  go_wp2_with fail
  go_quiet (fail)
  go_wp2_with fail
  have HS := Lib.hid (fun k => H0.out.drewN k)
  clear H0 k0 k1 m0
  refine wp_region_any (by kernel_rfl) ?_
  change wpAny _ _ _ _ _ _ _ (World.drewN (World.drewN _ _) 1)
  refine held_gen (G := fun W => wpAny _ _ _ _ _ _ _ W) (fun W => SAt w t T g r (⟨(j : Int) + 1, tm, o, tag⟩ : MRq) W r c xs) (by first | exact (HS.out _).drewN 1 | exact ((HS.out _).drewN _).drewN 1 | exact (((HS.out _).drewN _).drewN _).drewN 1) (fun W HW0 => ?_)
  have HW := Lib.hid HW0
  clear HW0
  refine wpAny_of_held (S := fun W => W.heap[w.heap.size]? = some (.cells (rqC (⟨(j : Int) + 1, tm, o, tag⟩ : MRq)).toArray 37 (0, 0))) _ _ _ _ ?_
  refine wpAnyH_take (i := 0) (oi := { dst := some 56, op := Op.move (Operand.tmp 8), type := _, pos := _, after := _, guard := none }) (v := .pointer (some ⟨t, j * 3, none⟩)) rfl (by kernel_rfl) (by kernel_rfl) (by kernel_rfl) (fun _ _ _ h => h) (Or.inl ⟨by kernel_rfl, fun W hSW => by go_simp⟩) (HW.out.box) ?_
  try simp only [Act.put, List.setIfInBounds_toArray, List.set_cons_zero, List.set_cons_succ]
  refine wpAnyH_take (i := 1) (oi := { dst := some 57, op := Op.fieldAddr 37 (Operand.tmp 5) 1, type := _, pos := _, after := _, guard := none }) (v := .pointer (some ⟨w.heap.size, 1, none⟩)) rfl (by kernel_rfl) (by kernel_rfl) (by kernel_rfl) (fun _ _ _ h => h) (Or.inl ⟨by kernel_rfl, fun W hSW => by go_simp⟩) (HW.out.box) ?_
  try simp only [Act.put, List.setIfInBounds_toArray, List.set_cons_zero, List.set_cons_succ]
  refine wpAnyH_take (i := 2) (oi := { dst := some 58, op := Op.load 32 (Operand.tmp 57), type := _, pos := _, after := _, guard := none }) (v := .int .u64 (tm : Int)) rfl (by kernel_rfl) (by kernel_rfl) (by kernel_rfl) (fun _ _ _ h => h) (Or.inl ⟨by kernel_rfl, fun W hSW => by have hc := block_cell hSW 1 _ K1.out; go_simp⟩) (HW.out.box) ?_
  try simp only [Act.put, List.setIfInBounds_toArray, List.set_cons_zero, List.set_cons_succ]
  refine wpAnyH_take (i := 3) (oi := { dst := some 59, op := Op.move (Operand.tmp 1), type := _, pos := _, after := _, guard := none }) (v := .pointer (some ⟨g, 0, none⟩)) rfl (by kernel_rfl) (by kernel_rfl) (by kernel_rfl) (fun _ _ _ h => h) (Or.inl ⟨by kernel_rfl, fun W hSW => by go_simp⟩) (HW.out.box) ?_
  try simp only [Act.put, List.setIfInBounds_toArray, List.set_cons_zero, List.set_cons_succ]
  refine wpAnyH_take (i := 4) (oi := { dst := some 60, op := Op.fieldAddr 37 (Operand.tmp 5) 2, type := _, pos := _, after := _, guard := none }) (v := .pointer (some ⟨w.heap.size, 2, none⟩)) rfl (by kernel_rfl) (by kernel_rfl) (by kernel_rfl) (fun _ _ _ h => h) (Or.inl ⟨by kernel_rfl, fun W hSW => by go_simp⟩) (HW.out.box) ?_
  try simp only [Act.put, List.setIfInBounds_toArray, List.set_cons_zero, List.set_cons_succ]
  refine wpAnyH_take (i := 5) (oi := { dst := some 61, op := Op.load 34 (Operand.tmp 60), type := _, pos := _, after := _, guard := none }) (v := .agg (opC o).toArray) rfl (by kernel_rfl) (by kernel_rfl) (by kernel_rfl) (fun _ _ _ h => h) (Or.inl ⟨by kernel_rfl, fun W hSW => exec_load_mid 34 (.tmp 60) rfl w.heap.size 2 rfl (opC o) _ (range_block hSW 2 _ (rq_op (⟨(j : Int) + 1, tm, o, tag⟩ : MRq))) Tryd.underlying34 rfl Tryd.is34⟩) (HW.out.box) ?_
  try simp only [Act.put, List.setIfInBounds_toArray, List.set_cons_zero, List.set_cons_succ]
  refine wpAnyH_ready (rs := [6]) (by kernel_rfl) (by simp) ?_
  refine AllReadyH.cons (o := { dst := some 62, op := Op.call { callee := Callee.value (Operand.func 28), args := #[Operand.tmp 59, Operand.tmp 61], argTypes := #[52, 34] }, type := _, pos := _, after := _, guard := none }) rfl (fun K' hK' => ?_) AllReadyH.nil
  go_simp
  go_at_call 28
  refine (HD.out _ HW.out.sys).mono ?_
  rintro E w5 ⟨rfl, r5, c5, l5, q5⟩
  have H5 := Lib.hid (HW.out.next l5 q5)
  clear l5 q5
  refine hK'.out _ _ H5.out.box (fun _ => ?_)
  clear hK' K'
  try simp only [Act.put, List.setIfInBounds_toArray, List.set_cons_zero, List.set_cons_succ]
  refine wpAnyH_take (i := 7) (oi := { dst := some 63, op := Op.build 48 #[(0, Operand.tmp 58), (1, Operand.tmp 62)], type := _, pos := _, after := _, guard := none }) (v := .agg #[.int .u64 (tm : Int), .int .i64 (er : Int), .string vl]) rfl (by kernel_rfl) (by kernel_rfl) (by kernel_rfl) (fun _ _ _ h => h) (Or.inl ⟨by kernel_rfl, fun W hSW => by go_simp⟩) (H5.out.box) ?_
  try simp only [Act.put, List.setIfInBounds_toArray, List.set_cons_zero, List.set_cons_succ]
  refine wpAnyH_take (i := 8) (oi := { dst := some 64, op := Op.nilCheck (Operand.tmp 56), type := _, pos := _, after := _, guard := none }) (v := .pointer (some ⟨t, j * 3, none⟩)) rfl (by kernel_rfl) (by kernel_rfl) (by kernel_rfl) (fun _ _ _ h => h) (Or.inl ⟨by kernel_rfl, fun W hSW => by go_simp⟩) (H5.out.box) ?_
  try simp only [Act.put, List.setIfInBounds_toArray, List.set_cons_zero, List.set_cons_succ]
  refine wpAnyH_ready (rs := [9]) (by kernel_rfl) (by simp) ?_
  refine AllReadyH.cons (o := { dst := none, op := Op.store 48 (Operand.tmp 64) (Operand.tmp 63), type := _, pos := _, after := _, guard := none }) rfl (fun K' hK' => ?_) AllReadyH.nil
  rw [if_pos (by kernel_rfl)]
  refine wp_store_mid 48 (.tmp 64) (.tmp 63) rfl t (j * 3) #[.int .u64 (tm : Int), .int .i64 (er : Int), .string vl] rfl rfl (there_block H5.out.tbl.top (j * 3) 3 (by rw [tbC_length, H5.out.tbl.len]; omega)) Tryd.is48 (by simp [Value.oneCell']) ?_
  have H6 : Hid (SAt w t (T.set j (tm, ((er : Int), vl))) g r (⟨(j : Int) + 1, tm, o, tag⟩ : MRq) (w5.setCells t (j * 3) #[.int .u64 (tm : Int), .int .i64 (er : Int), .string vl].toList) r5 c5 zs) := Lib.hid (H5.out.put hj tm (er : Int) vl)
  refine hK'.out _ _ H6.out.box (fun _ => ?_)
  clear hK' K'
  try simp only [Act.put]
  refine wpAnyH_done (by kernel_rfl) ?_ _
  clear HD H5
  generalize w5.setCells t (j * 3) #[.int .u64 (tm : Int), .int .i64 (er : Int), .string vl].toList = w6 at H6 ⊢
  have HP : Hid ((T.set j (tm, ((er : Int), vl)))[j]? = some (tm, ((er : Int), vl))) := Lib.hid (List.getElem?_set_self (by rw [HN.out]; exact hj))
  have n1 : w6.cell? ⟨t, j * 3 + 1, none⟩ = some (.int .i64 (er : Int)) := H6.out.tbl.cell HP.out 1 _ rfl
  have n2 : w6.cell? ⟨t, j * 3 + 2, none⟩ = some (.string vl) := H6.out.tbl.cell HP.out 2 _ rfl
  have HZ := Lib.hid (fun x y => H6.out.fin x y)
  obtain ⟨d0, d1, f0, f1⟩ := H6.out.out
  clear H6
  go_wp2_with fail
  (try simp only [Exit.inBlock, Exit.then]); refine bodyPost_ret (ret_ct (g := w.heap.size + 1) rfl rfl rfl (range_all (HZ.out _ _).1) Tryd.underlying29 rfl Tryd.is29) rfl ?_
  show SDoP w t T g r xs _ _ _
  unfold SDoP
  rw [HE.out]
  exact ⟨rfl, (HZ.out _ _).2⟩
open Go.RowKit
set_option maxRecDepth 100000

theorem sdo_any {w : World} {t : Nat} {T : List Lst} {g : Nat} {r : Option Nat} {c : Nat} {xs : List It} (hT : Tbl w t T) (h : Sys w g r c xs) (hne : ¬ On g r t) (ht : 4 ≤ t) (q : MRq) :
    Calls Tryd.prog 16 #[.pointer (some ⟨t, 0, none⟩), .pointer (some ⟨g, 0, none⟩), .agg (rqC q).toArray] w fun E w' => SDoP w t T g r xs q E w' := by
  cases hc : isCl q.client with
  | false => exact sdo_no1 hT h hne ht q hc
  | true =>
    by_cases h0 : q.time = 0
    · exact sdo_no2 hT h hne ht q hc h0
    · obtain ⟨cl, tm, o, tag⟩ := q
      dsimp only at hc h0
      have hcl := isCl_iff.1 hc
      obtain ⟨j, rfl⟩ : ∃ j : Nat, cl = (j : Int) + 1 := ⟨(cl - 1).toNat, by omega⟩
      have hj : j < 8 := by omega
      rcases Nat.lt_trichotomy tm (lastOf T ((j : Int) + 1)).1 with hx | hx | hx
      · exact sdo_low hT h hne ht hj h0 o tag hx
      · exact sdo_at hT h hne ht hj h0 o tag hx
      · exact sdo_new hT h hne ht hj h0 o tag hx
def NoP (w : World) (e : Nat) (E : Ending) (w' : World) : Prop := E = .returned (.tuple #[.agg (repC (no e)).toArray, .bool false]) ∧ Below w.heap.size w w'
theorem sdo_nil1 (p : Value) (q : MRq) (w : World) : Calls Tryd.prog 16 #[.pointer none, p, .agg (rqC q).toArray] w fun E w' => NoP w 2 E w' := by
  have HZ : Hid (∀ x y, ((w.alloc (.cells (rqC q).toArray 37)).alloc (.cells #[x, y] 29)).heap[w.heap.size + 1]? = some (.cells [x, y].toArray 29 (0, 0)) ∧ Below w.heap.size w ((w.alloc (.cells (rqC q).toArray 37)).alloc (.cells #[x, y] 29))) := Lib.hid fun x y => ⟨two_new w _ [x, y] _, ((Below.refl _ _).alloc (Nat.le_refl _) _).alloc (by simp) _⟩
  go_enter Tryd.func16, Tryd.ntmps16
  go_wp2_with fail
  (try simp only [Exit.inBlock, Exit.then]); refine bodyPost_ret (ret_ct (g := w.heap.size + 1) rfl rfl rfl (range_all (HZ.out _ _).1) Tryd.underlying29 rfl Tryd.is29) rfl ?_
  exact ⟨rfl, (HZ.out _ _).2⟩
theorem sdo_nil2 (t : Nat) (q : MRq) (w : World) : Calls Tryd.prog 16 #[.pointer (some ⟨t, 0, none⟩), .pointer none, .agg (rqC q).toArray] w fun E w' => NoP w 2 E w' := by
  have HZ : Hid (∀ x y, ((w.alloc (.cells (rqC q).toArray 37)).alloc (.cells #[x, y] 29)).heap[w.heap.size + 1]? = some (.cells [x, y].toArray 29 (0, 0)) ∧ Below w.heap.size w ((w.alloc (.cells (rqC q).toArray 37)).alloc (.cells #[x, y] 29))) := Lib.hid fun x y => ⟨two_new w _ [x, y] _, ((Below.refl _ _).alloc (Nat.le_refl _) _).alloc (by simp) _⟩
  go_enter Tryd.func16, Tryd.ntmps16
  go_wp2_with fail
  (try simp only [Exit.inBlock, Exit.then]); refine bodyPost_ret (ret_ct (g := w.heap.size + 1) rfl rfl rfl (range_all (HZ.out _ _).1) Tryd.underlying29 rfl Tryd.is29) rfl ?_
  exact ⟨rfl, (HZ.out _ _).2⟩
/-! ### Last -/
def tLast (T : List Lst) (c : Int) : Lst := if isCl c = true then lastOf T c else zL
theorem last_fresh (w : World) (a b c : Value) : (w.alloc (.cells #[a, b, c] 48)).heap[w.heap.size]? = some (.cells [a, b, c].toArray 48 (0, 0)) ∧ Below w.heap.size w (w.alloc (.cells #[a, b, c] 48)) :=
  ⟨heap_alloc_new w _, (Below.refl _ _).alloc (Nat.le_refl _) _⟩
theorem tlast_nil (c : Int) (w : World) : Calls Tryd.prog 26 #[.pointer none, .int .i64 c] w fun E w' => E = .returned (.agg (lsC zL).toArray) ∧ Below w.heap.size w w' := by
  have HZ := Lib.hid (last_fresh w)
  go_enter Tryd.func26, Tryd.ntmps26
  go_wp2_with fail
  (try simp only [Exit.inBlock, Exit.then]); refine bodyPost_ret (ret_range (g := w.heap.size) rfl rfl (range_all (HZ.out _ _ _).1) Tryd.underlying48 rfl Tryd.is48) rfl ?_
  exact ⟨rfl, (HZ.out _ _ _).2⟩
theorem tlast_any {w : World} {t : Nat} {T : List Lst} (hT : Tbl w t T) (c : Int) : Calls Tryd.prog 26 #[.pointer (some ⟨t, 0, none⟩), .int .i64 c] w fun E w' => E = .returned (.agg (lsC (tLast T c)).toArray) ∧ Below w.heap.size w w' := by
  have HZ := Lib.hid (last_fresh w)
  cases hc : isCl c with
  | false =>
    have HE : Hid (tLast T c = zL) := Lib.hid (by rw [tLast, hc]; rfl)
    have HC : Hid (∀ W, Calls Tryd.prog 27 #[.int .i64 c] W fun E w' => E = .returned (.bool false) ∧ W = w') := Lib.hid fun W => by rw [← hc]; exact client_any c W
    clear hT hc
    rw [HE.out]
    go_enter Tryd.func26, Tryd.ntmps26
    go_wp2_with (go_at_call 27; refine (HC.out _).mono ?_; rintro E w1 ⟨rfl, rfl⟩)
    (try simp only [Exit.inBlock, Exit.then]); refine bodyPost_ret (ret_range (g := w.heap.size) rfl rfl (range_all (HZ.out _ _ _).1) Tryd.underlying48 rfl Tryd.is48) rfl ?_
    exact ⟨rfl, (HZ.out _ _ _).2⟩
  | true =>
    have hcl := isCl_iff.1 hc
    obtain ⟨j, rfl⟩ : ∃ j : Nat, c = (j : Int) + 1 := ⟨(c - 1).toNat, by omega⟩
    have hj : j < 8 := by omega
    obtain ⟨p, hp, hlast⟩ := last_at hT.len hj
    have HE : Hid (tLast T ((j : Int) + 1) = p) := Lib.hid (by rw [tLast, hc, if_pos rfl, hlast])
    have HC : Hid (∀ W, Calls Tryd.prog 27 #[.int .i64 ((j : Int) + 1)] W fun E w' => E = .returned (.bool true) ∧ W = w') := Lib.hid fun W => by rw [← hc]; exact client_any ((j : Int) + 1) W
    have hb := (HZ.out (.int .u64 0) (.int .i64 0) (.string ⟨#[]⟩)).2
    have m0 : (w.alloc (.cells #[.int .u64 0, .int .i64 0, .string ⟨#[]⟩] 48)).cell? ⟨t, j * 3, none⟩ = some (.int .u64 (p.1 : Int)) := (hT.below hb).cell hp 0 _ rfl
    have m1 : (w.alloc (.cells #[.int .u64 0, .int .i64 0, .string ⟨#[]⟩] 48)).cell? ⟨t, j * 3 + 1, none⟩ = some (.int .i64 (p.2.1 : Int)) := (hT.below hb).cell hp 1 _ rfl
    have m2 : (w.alloc (.cells #[.int .u64 0, .int .i64 0, .string ⟨#[]⟩] 48)).cell? ⟨t, j * 3 + 2, none⟩ = some (.string p.2.2) := (hT.below hb).cell hp 2 _ rfl
    have hwj : IntKind.i64.wrap ((j : Int) + 1 - 1) = (j : Int) := by rw [IntKind.wrap_i64]; omega
    have hj0 : (0 : Int) ≤ (j : Int) := by omega
    have hj8 : (j : Int) < 8 := by omega
    have htn : ((j : Int)).toNat = j := by omega
    clear hb hT hc hcl hp hlast
    rw [HE.out]
    go_enter Tryd.func26, Tryd.ntmps26
    go_wp2_with (go_at_call 27; refine (HC.out _).mono ?_; rintro E w1 ⟨rfl, rfl⟩)
    (try simp only [Exit.inBlock, Exit.then]); refine bodyPost_ret (ret_range (g := w.heap.size) rfl rfl (range_all (HZ.out _ _ _).1) Tryd.underlying48 rfl Tryd.is48) rfl ?_
    exact ⟨rfl, (HZ.out _ _ _).2⟩
/-! ### List -/
def LstP (w : World) (T : List Lst) (E : Ending) (w' : World) : Prop := ∃ b c, E = .returned (.slice (some ⟨b, 0, none⟩) T.length c) ∧ Lss w' (some ⟨b, 0, none⟩) T ∧ w.heap.size ≤ b ∧ Below w.heap.size w w'
theorem lss_of_own {w : World} {B : Nat} {v : Value} {T : List Lst} (hn : 0 < T.length) (h : w.ownsRow B 48 3 v T.length (tbC T)) : ∃ b c, v = .slice (some ⟨b, 0, none⟩) T.length c ∧ Lss w (some ⟨b, 0, none⟩) T ∧ B ≤ b := by
  obtain ⟨_, h⟩ := h
  rcases h with ⟨rfl, hz⟩ | ⟨b, cap, cur, rfl, hB, hb, hl, hc, hs, ht⟩
  · omega
  · refine ⟨b, cap, rfl, ?_, hB⟩
    have e : cur.toList = tbC T ++ cur.toList.drop (T.length * 3) := by
      conv => lhs; rw [← List.take_append_drop (T.length * 3) cur.toList]
      rw [ht]
    exact Lss.of_block (R := cur.toList.drop (T.length * 3)) (ty := 48) (by rw [← e]; simpa using hb)
set_option maxHeartbeats 2000000 in
theorem tclone_some {w : World} {b o c : Nat} {T : List Lst} (hn : 0 < T.length) (hl : T.length ≤ 1000) (hx : ∀ j u, (tbC T)[j]? = some u → w.cell? ⟨b, o + j, none⟩ = some u) :
    Calls Tryd.prog 42 #[.slice (some ⟨b, o, none⟩) T.length c] w fun E w' => LstP w T E w' := by
  obtain ⟨i0, hi0, hz0, hzs, hzb⟩ := info_parts Tryd.info48
  have q22 : ∀ (w : World) (a : Option Addr) (n c n' c' : Nat), (binOp .eql 64 (.slice a n c) (.slice none n' c')).run Tryd.prog w = .ok (.bool a.isNone) w := fun w a n c n' c' => Lib.run_eql_slice_nil w _ _ a n c n' c' Tryd.underlying64
  have H1 : Hid (∀ j u, (tbC T)[j]? = some u → (w.alloc (.cells #[] 48)).cell? ((⟨b, o, none⟩ : Addr).add j) = some u) := Lib.hid fun j u hj => by
    rw [Addr.add_lit]
    exact Lib.cell?_alloc_some _ (hx j u hj)
  have H2 := Lib.hid (tbC_length T)
  have H3 := Lib.hid (tbC_one T)
  have HF : Hid (∀ v' w', w'.ownsRow w.heap.size 48 3 v' (0 + T.length) ([] ++ tbC T) → (w.alloc (.cells #[] 48)).grownBy w' (some w.heap.size) → LstP w T (.returned v') w') := Lib.hid fun v' w' h g => by
    rw [Nat.zero_add, List.nil_append] at h
    obtain ⟨b, c, rfl, hr, hb⟩ := lss_of_own hn h
    exact ⟨b, c, rfl, hr, hb, ((Below.refl _ w).alloc (Nat.le_refl _) _).grown g (by simp) (by intro k hk; injection hk with hk; omega)⟩
  obtain ⟨n, hnn⟩ : ∃ n, n = T.length := ⟨_, rfl⟩
  rw [← hnn] at H2 HF hl ⊢
  clear hx hnn hn
  go_enter Tryd.func42, Tryd.ntmps42
  go_wp2_with (at_builtin; refine wpList_append_own _ rfl _ _ 64 rfl w.heap.size 48 i0 _ 3 32 Tryd.underlying64 hi0 hz0 hzs hzb (by simp [Value.cells]) (by omega) _ 0 [] rfl (World.ownsRow_made w #[] 0 (Nat.le_refl _) (Nat.zero_le _) (by simp)) ⟨b, o, none⟩ n c (tbC T) rfl H2.out H1.out H3.out (by unfold maxLen; omega) (by omega) (by simp) ?_; intro v' w1 hown hgrow hnil)
  go_ret
  exact HF.out _ _ hown hgrow
theorem tlist_any {w : World} {t : Nat} {T : List Lst} (hT : Tbl w t T) : Calls Tryd.prog 32 #[.pointer (some ⟨t, 0, none⟩)] w fun E w' => LstP w T E w' := by
  have HC : Hid (Calls Tryd.prog 42 #[.slice (some ⟨t, 0, none⟩) 8 8] w fun E w' => LstP w T E w') := Lib.hid (by
    have := tclone_some (b := t) (o := 0) (c := 8) (T := T) (w := w) (by rw [hT.len]; omega) (by rw [hT.len]; omega) (fun j u hj => by rw [Nat.zero_add]; exact block_cell hT.top j u hj)
    rwa [hT.len] at this)
  have hal : Tryd.prog.arrayLen 69 = 8 := by kernel_rfl
  clear hT
  go_enter Tryd.func32, Tryd.ntmps32
  go_wp2_with (go_at_call 42; refine HC.out.mono ?_; rintro E w' ⟨b, c, rfl, hp⟩)
  go_ret
  exact ⟨b, c, rfl, hp⟩
theorem tlist_nil (w : World) : Calls Tryd.prog 32 #[.pointer none] w fun E w' => E = .returned (.slice none 0 0) ∧ w = w' := by
  go_enter Tryd.func32, Tryd.ntmps32
  go_wp2_with fail
  go_ret
  exact ⟨rfl, rfl⟩
open Go.RowKit
set_option maxRecDepth 100000

def ocC (os : List MOp) : List Value := os.flatMap opC
theorem ocC_length : ∀ os : List MOp, (ocC os).length = os.length * 6
  | [] => rfl
  | p :: T => by
    have := ocC_length T
    simp only [ocC, List.flatMap_cons, List.length_append, List.length_cons] at this ⊢
    rw [this]
    simp only [opC, List.length_cons, List.length_nil]
    omega
theorem ocC_app (a b : List MOp) : ocC (a ++ b) = ocC a ++ ocC b := by simp [ocC]
theorem opC_one (p : MOp) : ∀ v ∈ opC p, v.oneCell' = true := by
  intro v hp
  simp only [opC, List.mem_cons, List.mem_nil_iff, or_false] at hp
  rcases hp with rfl | rfl | rfl | rfl | rfl | rfl <;> rfl
theorem ocC_at : ∀ {T : List MOp} {j : Nat} {p : MOp}, T[j]? = some p → ∀ i v, (opC p)[i]? = some v → (ocC T)[j * 6 + i]? = some v
  | [], j, p, h => by simp at h
  | q :: T, 0, p, h => by
    simp at h
    subst h
    intro i v hv
    show (opC q ++ ocC T)[0 * 6 + i]? = some v
    rw [List.getElem?_append_left (by have := (List.getElem?_eq_some_iff.1 hv).1; omega)]
    simpa using hv
  | q :: T, j + 1, p, h => by
    intro i v hv
    simp at h
    show (opC q ++ ocC T)[(j + 1) * 6 + i]? = some v
    rw [List.getElem?_append_right (by simp [opC]; omega)]
    have : (j + 1) * 6 + i - (opC q).length = j * 6 + i := by simp [opC]; omega
    rw [this]
    exact ocC_at h i v hv
theorem ops_of_own {w : World} {B : Nat} {v : Value} {os : List MOp} (h : w.ownsRow B 34 6 v os.length (ocC os)) : ∃ A c, v = .slice A os.length c ∧ Ops w A os := by
  obtain ⟨_, h⟩ := h
  rcases h with ⟨rfl, hz⟩ | ⟨b, cap, cur, rfl, hB, hb, hl, hc, hs, ht⟩
  · exact ⟨none, 0, by rw [hz], fun hn => by omega⟩
  · refine ⟨some ⟨b, 0, none⟩, cap, rfl, fun _ => ⟨b, 0, rfl, (Array.getElem?_eq_some_iff.1 hb).1, fun j p hp k u hu => ?_⟩⟩
    have h1 := ocC_at hp k u hu
    have h2 : cur.toList[j * 6 + k]? = some u := by
      rw [← ht] at h1
      rw [List.getElem?_take] at h1
      split at h1
      · exact h1
      · cases h1
    rw [Nat.zero_add]
    exact block_cell (C := cur.toList) (t := 34) (by simpa using hb) _ _ h2
theorem Tryd.info34 : (Tryd.prog.info? 34).map (fun i => (i.zero, i.size, i.bytes)) = some (some (.agg #[.int .u8 0, .string ByteArray.empty, .string ByteArray.empty, .string ByteArray.empty, .string ByteArray.empty, .int .u64 0]), 6, 80) := by kernel_rfl
def opsOf (qs : List MRq) : List MOp := qs.map MRq.op
set_option maxHeartbeats 4000000 in
theorem sfew_any (A : Option Addr) (c : Nat) (qs : List MRq) (w : World) (h : Rqs w A qs) (hn : qs.length ≤ 1099511627776) :
    Calls Tryd.prog 4 #[.slice A qs.length c] w fun E w' => (∃ z, E = .returned (.bool z) ∧ (z = true → qs.length ≤ 150)) ∧ Below w.heap.size w w' := by
  obtain ⟨i0, hi0, hz0, hzs, hzb⟩ := info_parts Tryd.info34
  have HX := Lib.hid h
  obtain ⟨n, hnn⟩ : ∃ n, n = qs.length := ⟨_, rfl⟩
  have HL := Lib.hid hnn
  have HFw : Hid (∀ v W, W.ownsRow w.heap.size 34 6 v n (ocC ((opsOf qs).take n)) → Below w.heap.size w W → ∃ A' c', v = .slice A' n c' ∧ (Calls Tryd.prog 10 #[.slice A' n c'] W fun E w' => (∃ z, E = .returned (.bool z) ∧ (z = true → n ≤ 150)) ∧ Below w.heap.size w w')) := Lib.hid fun v W ho hb => by
    have e : (opsOf qs).take n = opsOf qs := List.take_of_length_le (by rw [opsOf, List.length_map, hnn]; exact Nat.le_refl _)
    have el : (opsOf qs).length = n := by rw [opsOf, List.length_map, hnn]
    rw [e, ← el] at ho
    obtain ⟨A', c', rfl, hO⟩ := ops_of_own ho
    rw [el] at ho ⊢
    refine ⟨A', c', rfl, ?_⟩
    have := few_any A' c' (opsOf qs) W hO (by rw [el, hnn]; omega)
    rw [el] at this
    exact this.mono fun E w' ⟨h1, h2⟩ => ⟨h1, hb.trans (h2.mono hb.size)⟩
  rw [← hnn] at hn ⊢
  clear h hnn
  have HS : Hid (w.ownsRow w.heap.size 34 6 (.slice none 0 0) 0 (ocC ((opsOf qs).take 0)) ∧ Below w.heap.size w w) := Lib.hid ⟨World.ownsRow_nil _ _ _ _, Below.refl _ _⟩
  go_enter Tryd.func4, Tryd.ntmps4
  go_wp2_with fail
  go_loopw [3, 4] (fun v3 v4 wr => ∃ (j : Nat) (v : Value), j ≤ n ∧ v4 = .int .i64 (j : Int) ∧ v = v3 ∧ Hid (wr.ownsRow w.heap.size 34 6 v j (ocC ((opsOf qs).take j)) ∧ Below w.heap.size w wr)) (fun _ v4 _ => n - (intOf v4).toNat)
  case atStart => exact ⟨0, _, by omega, rfl, rfl, HS⟩
  case round =>
    obtain ⟨j, v3, hj, rfl, rfl, HR⟩ := hrel
    by_cases hjj : j < n
    · obtain ⟨bb, o, rfl, hbl, hc⟩ := HX.out.at' (by rw [← HL.out]; omega)
      obtain ⟨p, hp⟩ : ∃ p, qs[j]? = some p := ⟨_, List.getElem?_eq_getElem (by rw [← HL.out]; exact hjj)⟩
      have HC : Hid (∀ k v, (opC p.op)[k]? = some v → wr.cell? ⟨bb, o + j * 40 + 2 + k, none⟩ = some v) := Lib.hid fun k v hv => (HR.out.2.cell (p := ⟨bb, o + j * 40 + 2 + k, none⟩) hbl).trans (by have := hc j p hp (2 + k) v (rq_op p k v hv); rwa [← Nat.add_assoc] at this)
      have HT2 : Hid (ocC ((opsOf qs).take (j + 1)) = ocC ((opsOf qs).take j) ++ opC p.op) := Lib.hid (by
        have : (opsOf qs)[j]? = some p.op := by rw [opsOf, List.getElem?_map, hp]; rfl
        rw [List.take_add_one, this, ocC_app]
        congr 1)
      have HO : Hid ((wr.alloc (.cells #[.int .u8 (p.op.kind.toNat : Int), .string p.op.key, .string p.op.value, .string p.op.old, .string p.op.to, .int .u64 (p.op.amount : Int)] 34)).ownsRow w.heap.size 34 6 v3 j (ocC ((opsOf qs).take j))) := Lib.hid (HR.out.1.alloc _)
      have HB : Hid (Below w.heap.size w (wr.alloc (.cells #[.int .u8 (p.op.kind.toNat : Int), .string p.op.key, .string p.op.value, .string p.op.old, .string p.op.to, .int .u64 (p.op.amount : Int)] 34))) := Lib.hid (HR.out.2.alloc HR.out.2.size _)
      have HV : Hid (∀ j u, (opC p.op)[j]? = some u → (wr.alloc (.cells #[.int .u8 (p.op.kind.toNat : Int), .string p.op.key, .string p.op.value, .string p.op.old, .string p.op.to, .int .u64 (p.op.amount : Int)] 34)).cell? ((⟨wr.heap.size, 0, none⟩ : Addr).add j) = some u) := Lib.hid fun j u hj => by
        rw [Addr.add_lit, Nat.zero_add]
        exact block_cell (C := opC p.op) (t := 34) (heap_alloc_new wr (.cells #[.int .u8 (p.op.kind.toNat : Int), .string p.op.key, .string p.op.value, .string p.op.old, .string p.op.to, .int .u64 (p.op.amount : Int)] 34)) j u hj
      have H1 := Lib.hid (opC_one p.op)
      have HLt : Hid (∀ k, v3.ownBlock = some k → w.heap.size ≤ k) := Lib.hid fun k hk => (HR.out.1.lt k hk).1
      have HSz : Hid (w.heap.size ≤ (wr.alloc (.cells #[.int .u8 (p.op.kind.toNat : Int), .string p.op.key, .string p.op.value, .string p.op.old, .string p.op.to, .int .u64 (p.op.amount : Int)] 34)).heap.size) := Lib.hid HB.out.size
      have HG : Hid (∀ v' w', w'.ownsRow w.heap.size 34 6 v' (j + 1) (ocC ((opsOf qs).take j) ++ opC p.op) → (wr.alloc (.cells #[.int .u8 (p.op.kind.toNat : Int), .string p.op.key, .string p.op.value, .string p.op.old, .string p.op.to, .int .u64 (p.op.amount : Int)] 34)).grownBy w' v3.ownBlock → w'.ownsRow w.heap.size 34 6 v' (j + 1) (ocC ((opsOf qs).take (j + 1))) ∧ Below w.heap.size w w') := Lib.hid fun v' w' ho hg => by
        rw [HT2.out]
        exact ⟨ho, HB.out.grown hg HB.out.size (fun k hk => HLt.out k hk)⟩
      have hj0 : (0 : Int) ≤ (j : Int) := by omega
      have hjn : (j : Int) < (n : Int) := by omega
      have htn : ((j : Int)).toNat = j := by omega
      have q0 : wr.cell? ⟨bb, o + j * 40 + 2, none⟩ = some (.int .u8 (p.op.kind.toNat : Int)) := HC.out 0 _ rfl
      have q1 : wr.cell? ⟨bb, o + j * 40 + 2 + 1, none⟩ = some (.string p.op.key) := HC.out 1 _ rfl
      have q2 : wr.cell? ⟨bb, o + j * 40 + 2 + 2, none⟩ = some (.string p.op.value) := HC.out 2 _ rfl
      have q3 : wr.cell? ⟨bb, o + j * 40 + 2 + 3, none⟩ = some (.string p.op.old) := HC.out 3 _ rfl
      have q4 : wr.cell? ⟨bb, o + j * 40 + 2 + 4, none⟩ = some (.string p.op.to) := HC.out 4 _ rfl
      have q5 : wr.cell? ⟨bb, o + j * 40 + 2 + 5, none⟩ = some (.int .u64 (p.op.amount : Int)) := HC.out 5 _ rfl
      clear hc hp HT2 HR HC
      obtain ⟨C, hC⟩ : ∃ C, C = ocC ((opsOf qs).take j) := ⟨_, rfl⟩
      rw [← hC] at HO HG
      clear hC
      go_wp2_with (at_builtin; refine wpList_append_own _ rfl _ _ 41 rfl w.heap.size 34 i0 _ 6 80 Tryd.underlying41 hi0 hz0 hzs hzb (by simp [Value.cells]) (by omega) _ j C rfl HO.out ⟨wr.heap.size, 0, none⟩ 1 1 (opC p.op) rfl rfl HV.out H1.out (by unfold maxLen; omega) (by omega) HSz.out ?_; intro v' w1 hown hgrow hnil)
      have HQ := Lib.hid (HG.out v' w1 hown hgrow)
      clear hown hgrow hnil HG HO HV
      go_wp2_with fail
      go_roundw
      case measure => simp [intOf] <;> omega
      case rel => exact ⟨j + 1, _, by omega, by go_num, rfl, HQ⟩
    · obtain rfl : j = n := by omega
      obtain ⟨A', c', rfl, hcall⟩ := HFw.out v3 wr HR.out.1 HR.out.2
      have HCall := Lib.hid hcall
      clear hcall HR HFw
      go_wp2_with (go_at_call 10; refine HCall.out.mono ?_; rintro E w1 ⟨⟨z, rfl, hz⟩, hb⟩)
      go_ret
      exact ⟨⟨z, rfl, hz⟩, hb⟩
open Go.RowKit
set_option maxRecDepth 100000

/-- One cell behind the other set. -/
def setAll : List Value → Nat → List Value → List Value
  | C, _, [] => C
  | C, o, v :: r => setAll (C.set o v) (o + 1) r
theorem heap_setCells {g : Nat} {t : TypeId} : ∀ (vs : List Value) (o : Nat) (w : World) (C : List Value), w.heap[g]? = some (.cells C.toArray t (0, 0)) → (w.setCells g o vs).heap[g]? = some (.cells (setAll C o vs).toArray t (0, 0))
  | [], _, _, _, h => h
  | v :: r, o, w, C, h => by
    rw [World.setCells, setAll]
    exact heap_setCells r (o + 1) _ _ (heap_set h v)
theorem setAll_mid : ∀ (vs p a b : List Value), a.length = vs.length → setAll (p ++ (a ++ b)) p.length vs = p ++ (vs ++ b)
  | [], p, a, b, h => by
    obtain rfl : a = [] := List.eq_nil_of_length_eq_zero h
    rfl
  | v :: r, p, a, b, h => by
    match a, h with
    | x :: a', h =>
      have := setAll_mid r (p ++ [v]) a' b (by simpa using h)
      rw [setAll, List.set_append_right _ _ (Nat.le_refl _), Nat.sub_self]
      simpa using this
theorem gb_setCells (g : Nat) : ∀ (vs : List Value) (o : Nat) (w : World), w.grownBy (w.setCells g o vs) (some g)
  | [], _, _ => ⟨rfl, rfl, rfl, Nat.le_refl _, fun _ _ _ => rfl⟩
  | v :: r, o, w => by
    rw [World.setCells]
    have h : w.grownBy (w.setCell ⟨g, o, none⟩ v) (some g) := ⟨rfl, rfl, rfl, by simp [World.setCell], fun k _ hk => Below.heap_setCell _ _ _ _ (fun e => hk (by rw [e]))⟩
    exact h.trans (gb_setCells g r (o + 1) _)
theorem all_one_arr {cs : List Value} (h : ∀ v ∈ cs, v.oneCell' = true) : cs.toArray.all (fun v => v.oneCell') = true := by
  simpa using h
/-- An array of cells goes into the middle of a block. -/
theorem wpList_store_cells {P : Program} {ops : Array Oper} {rest : List Oper} {op : Oper} {a : Act} {w : World} {Q : Exit → Act → World → Prop} (hgd : op.guard = none) (ty : TypeId) (x y : Operand) (ho : op.op = .store ty x y)
    (b o : Nat) (cs : List Value) (hx : a.eval x = .pointer (some ⟨b, o, none⟩)) (hy : a.eval y = .agg cs.toArray)
    (ht : w.there b o cs.length) (hi : (P.info? ty).map (·.size) = some cs.length) (h1 : ∀ v ∈ cs, v.oneCell' = true)
    (h : wpList P ops Q rest (a.put op.dst undef) (w.setCells b o cs)) : wpList P ops Q (op :: rest) a w :=
  wpList_store_mid hgd ty x y ho b o cs.toArray hx hy (by simpa using ht) (by simpa using hi) (by simpa using h1) (by simpa using h)
/-- A whole block's cells anew: no other block has turned. -/
theorem wpList_store_all {P : Program} {ops : Array Oper} {rest : List Oper} {op : Oper} {a : Act} {w : World} {Q : Exit → Act → World → Prop} (hgd : op.guard = none) (ty : TypeId) (x y : Operand) (ho : op.op = .store ty x y)
    (g : Nat) (Z cs : List Value) (t : TypeId) (hZ : w.heap[g]? = some (.cells Z.toArray t (0, 0))) (hl : Z.length = cs.length) (hx : a.eval x = .pointer (some ⟨g, 0, none⟩)) (hy : a.eval y = .agg cs.toArray)
    (hi : (P.info? ty).map (·.size) = some cs.length) (h1 : ∀ v ∈ cs, v.oneCell' = true)
    (h : ∀ w', Hid (w'.heap[g]? = some (.cells cs.toArray t (0, 0)) ∧ w.grownBy w' (some g)) → wpList P ops Q rest (a.put op.dst undef) w') : wpList P ops Q (op :: rest) a w := by
  refine wpList_store_cells hgd ty x y ho g 0 cs hx hy (there_block hZ 0 _ (by omega)) hi h1 (h _ (Lib.hid ⟨?_, gb_setCells _ _ _ _⟩))
  rw [heap_setCells cs 0 w _ hZ]
  have := setAll_mid cs [] Z [] hl
  simp only [List.nil_append, List.length_nil, List.append_nil] at this
  rw [this]
open Go.RowKit
set_option maxRecDepth 100000

abbrev Kept := Nat × Array Value × TypeId
/-- A table and a ledger, and blocks that nobody turns. -/
structure Sn (w : World) (t g : Nat) (bs : List Kept) (W : World) (T : List Lst) (r : Option Nat) (c : Nat) (xs : List It) : Prop where
  tbl : Tbl W t T
  sys : Sys W g r c xs
  ne : ¬ On g r t
  town : w.heap.size ≤ t
  own : ∀ k, On g r k → w.heap.size ≤ k
  bel : Below w.heap.size w W
  low : 4 ≤ w.heap.size
  keep : ∀ p ∈ bs, W.heap[p.1]? = some (.cells p.2.1 p.2.2 (0, 0)) ∧ ¬ On g r p.1 ∧ p.1 ≠ t
theorem Sn.below {w : World} {t g : Nat} {bs : List Kept} {W W' : World} {T : List Lst} {r : Option Nat} {c : Nat} {xs : List It} (H : Sn w t g bs W T r c xs) (hb : Below W.heap.size W W') : Sn w t g bs W' T r c xs :=
  ⟨H.tbl.below hb, H.sys.below hb, H.ne, H.town, H.own, H.bel.trans (hb.mono H.bel.size), H.low, fun p hp => ⟨(hb.block _ (Array.getElem?_eq_some_iff.1 (H.keep p hp).1).1).trans (H.keep p hp).1, (H.keep p hp).2⟩⟩
theorem Sn.drewN {w : World} {t g : Nat} {bs : List Kept} {W : World} {T : List Lst} {r : Option Nat} {c : Nat} {xs : List It} (H : Sn w t g bs W T r c xs) (k : Nat) : Sn w t g bs (W.drewN k) T r c xs := H.below (below_drewN (Below.refl _ _) k)
theorem Sn.next {w : World} {t g : Nat} {bs : List Kept} {W : World} {T : List Lst} {r : Option Nat} {c : Nat} {xs : List It} (H : Sn w t g bs W T r c xs) {q : MRq} {E : Ending} {W' : World} (h : SDoP W t T g r xs q E W') :
    E = .returned (.tuple #[.agg (lrC (tR T xs q).1.1).toArray, .bool (tR T xs q).1.2]) ∧ ∃ r' c', Sn w t g bs W' (tR T xs q).2.1 r' c' (tR T xs q).2.2 := by
  obtain ⟨he, r', c', ht, hs, hn, ho⟩ := h
  refine ⟨he, r', c', ht, hs, hn, H.town, fun k hk => ?_, H.bel.trans (ho.1.below H.bel.size fun k hk => ?_), H.low, fun p hp => ?_⟩
  · rcases ho.2 k (.inl hk) with (e | e) | e
    · exact H.own k e
    · exact absurd (e ▸ hk) hn
    · exact Nat.le_trans H.bel.size e
  · rcases hk with hk | hk
    · exact H.own k hk
    · rw [hk]; exact H.town
  · obtain ⟨h1, h2, h3⟩ := H.keep p hp
    have hlt := (Array.getElem?_eq_some_iff.1 h1).1
    refine ⟨(ho.1.block _ hlt (by rintro (e | e); exact h2 e; exact h3 e)).trans h1, fun e => ?_, h3⟩
    rcases ho.2 p.1 (.inl e) with (e' | e') | e'
    · exact h2 e'
    · exact h3 e'
    · omega
theorem Sn.do {w : World} {t g : Nat} {bs : List Kept} {W : World} {T : List Lst} {r : Option Nat} {c : Nat} {xs : List It} (H : Sn w t g bs W T r c xs) (q : MRq) :
    Calls Tryd.prog 16 #[.pointer (some ⟨t, 0, none⟩), .pointer (some ⟨g, 0, none⟩), .agg (rqC q).toArray] W fun E W' => E = .returned (.tuple #[.agg (lrC (tR T xs q).1.1).toArray, .bool (tR T xs q).1.2]) ∧ ∃ r' c', Sn w t g bs W' (tR T xs q).2.1 r' c' (tR T xs q).2.2 :=
  (sdo_any H.tbl H.sys H.ne (Nat.le_trans H.low H.town) q).mono fun _ _ h => H.next h
theorem Sn.box {w : World} {t g : Nat} {bs : List Kept} {W : World} {T : List Lst} {r : Option Nat} {c : Nat} {xs : List It} (H : Sn w t g bs W T r c xs) (C : Array Value) (ty : TypeId) : Sn w t g ((W.heap.size, C, ty) :: bs) (W.alloc (.cells C ty)) T r c xs := by
  have hb : Below W.heap.size W (W.alloc (.cells C ty)) := (Below.refl _ _).alloc (Nat.le_refl _) _
  have H' := H.below hb
  refine ⟨H'.tbl, H'.sys, H'.ne, H'.town, H'.own, H'.bel, H'.low, fun p hp => ?_⟩
  rcases List.mem_cons.1 hp with rfl | hp
  · refine ⟨heap_alloc_new W _, fun e => ?_, fun e => ?_⟩
    · have := H.sys.led.on_lt _ e
      omega
    · have := H.tbl.lt
      omega
  · exact H'.keep p hp
/-- A block beside is stored into. -/
theorem Sn.set {w : World} {t g : Nat} {bs : List Kept} {W : World} {T : List Lst} {r : Option Nat} {c : Nat} {xs : List It} {b : Nat} {C : List Value} {ty : TypeId} (H : Sn w t g ((b, C.toArray, ty) :: bs) W T r c xs) (hb : ∀ p ∈ bs, p.1 ≠ b) (hw : w.heap.size ≤ b) (i : Nat) (v : Value) :
    Sn w t g ((b, (C.set i v).toArray, ty) :: bs) (W.setCell ⟨b, i, none⟩ v) T r c xs := by
  have hk : ∀ k, k ≠ b → (W.setCell ⟨b, i, none⟩ v).heap[k]? = W.heap[k]? := fun k hn => Below.heap_setCell W ⟨b, i, none⟩ v k hn
  obtain ⟨h1, h2, h3⟩ := H.keep _ (List.mem_cons_self ..)
  have hl := H.low
  refine ⟨H.tbl.kept (hk _ (fun e => h3 e.symm)), H.sys.off (fun k h4 => hk k (by omega)) fun k ho => hk k fun e => h2 (e ▸ ho), H.ne, H.town, H.own, H.bel.setCell (p := ⟨b, i, none⟩) hw v, hl, fun p hp => ?_⟩
  rcases List.mem_cons.1 hp with rfl | hp
  · exact ⟨heap_set h1 v, h2, h3⟩
  · obtain ⟨k1, k2, k3⟩ := H.keep p (List.mem_cons_of_mem _ hp)
    exact ⟨(hk _ (hb p hp)).trans k1, k2, k3⟩
/-- A block beside is stored into, all of it. -/
theorem Sn.turn {w : World} {t g : Nat} {bs : List Kept} {W W' : World} {T : List Lst} {r : Option Nat} {c : Nat} {xs : List It} {b : Nat} {C D : Array Value} {ty : TypeId} (H : Sn w t g ((b, C, ty) :: bs) W T r c xs) (hb : ∀ p ∈ bs, p.1 ≠ b) (hw : w.heap.size ≤ b) (hh : W'.heap[b]? = some (.cells D ty (0, 0))) (hg : W.grownBy W' (some b)) :
    Sn w t g ((b, D, ty) :: bs) W' T r c xs := by
  have hk : ∀ k, k < W.heap.size → k ≠ b → W'.heap[k]? = W.heap[k]? := fun k hl hn => hg.block k hl fun e => hn (by cases e; rfl)
  obtain ⟨h1, h2, h3⟩ := H.keep _ (List.mem_cons_self ..)
  have hl := H.low
  have hz := H.bel.size
  refine ⟨H.tbl.kept (hk _ H.tbl.lt (fun e => h3 e.symm)), H.sys.off (fun k h4 => hk k (by omega) (by omega)) fun k ho => hk k (H.sys.led.on_lt k ho) fun e => h2 (e ▸ ho), H.ne, H.town, H.own, H.bel.grown hg hz (fun k hk => by injection hk with hk; omega), hl, fun p hp => ?_⟩
  rcases List.mem_cons.1 hp with rfl | hp
  · exact ⟨hh, h2, h3⟩
  · obtain ⟨k1, k2, k3⟩ := H.keep p (List.mem_cons_of_mem _ hp)
    exact ⟨(hk _ (Array.getElem?_eq_some_iff.1 k1).1 (hb p hp)).trans k1, k2, k3⟩
theorem Sn.perm {w : World} {t g : Nat} {bs bs' : List Kept} {W : World} {T : List Lst} {r : Option Nat} {c : Nat} {xs : List It} (H : Sn w t g bs W T r c xs) (h : ∀ p ∈ bs', p ∈ bs) : Sn w t g bs' W T r c xs :=
  ⟨H.tbl, H.sys, H.ne, H.town, H.own, H.bel, H.low, fun p hp => H.keep p (h p hp)⟩
theorem Sn.pop {w : World} {t g : Nat} {b : Kept} {bs : List Kept} {W : World} {T : List Lst} {r : Option Nat} {c : Nat} {xs : List It} (H : Sn w t g (b :: bs) W T r c xs) : Sn w t g bs W T r c xs :=
  ⟨H.tbl, H.sys, H.ne, H.town, H.own, H.bel, H.low, fun p hp => H.keep p (List.mem_cons_of_mem _ hp)⟩
theorem sn_start {w W W' W2 : World} {t g : Nat} (hv : Vars w) (hb0 : Below w.heap.size w W) (h : Tbl W' t zT) (ht : W.heap.size ≤ t) (hb : Below W.heap.size W W') (hs : Sys W2 g none 0 []) (hg : W'.heap.size ≤ g) (hb2 : Below W'.heap.size W' W2) : Sn w t g [] W2 zT none 0 [] := by
  refine ⟨h.below hb2, hs, ?_, Nat.le_trans hb0.size ht, ?_, (hb0.trans (hb.mono hb0.size)).trans (hb2.mono (Nat.le_trans hb0.size hb.size)), hv.low, (by intro p hp; cases hp)⟩
  · rintro (rfl | e)
    · have := h.lt
      omega
    · cases e
  · rintro k (rfl | e)
    · exact Nat.le_trans hb0.size (Nat.le_trans hb.size hg)
    · cases e
def s1 : ByteArray := ⟨#[49]⟩
def q5 (tm : Nat) : MRq := ⟨1, tm, ⟨2, sA, s1, sE, sE, 0⟩, List.replicate 32 (.int .u8 0)⟩
def T5 : List Lst := zT.set 0 (5, (0, sE))
theorem x1 : tR zT [] (q5 5) = (((0, sE), true), T5, [(sA, s1)]) := by decide +kernel
theorem x2 : tR T5 [(sA, s1)] (q5 5) = (((0, sE), false), T5, [(sA, s1)]) := by decide +kernel
theorem x3 : tR T5 [(sA, s1)] (q5 4) = (((13, sE), false), T5, [(sA, s1)]) := by decide +kernel
theorem x4 : tLast T5 1 = (5, (0, sE)) := by decide +kernel
def zQ : MRq := ⟨0, 0, ⟨0, sE, sE, sE, sE, 0⟩, List.replicate 32 (.int .u8 0)⟩
theorem zero_rq (w : World) : (zeroValue 37).run Tryd.prog w = .ok (.agg (rqC zQ).toArray) w := by kernel_rfl
theorem rq_one {q : MRq} (h : ∀ v ∈ q.tag, v.oneCell' = true) : ∀ v ∈ rqC q, v.oneCell' = true := by
  intro v hv
  simp only [rqC, opC, List.mem_cons, List.cons_append, List.nil_append] at hv
  rcases hv with rfl | rfl | rfl | rfl | rfl | rfl | rfl | rfl | hv
  all_goals first | rfl | exact h _ hv
theorem rep_one : ∀ v ∈ (List.replicate 32 (Value.int .u8 0)), v.oneCell' = true := fun v hv => by rw [(List.mem_replicate.1 hv).2]; rfl
theorem field_5 (w : World) : (Instr.field 48 (.agg #[.int .u64 5, .int .i64 0, .string ⟨#[]⟩]) 0).run Tryd.prog w = .ok (.int .u64 5) w := by kernel_rfl
theorem q5_set : (rqC (q5 5)).set 1 (.int .u64 4) = rqC (q5 4) := rfl
open Go.RowKit
set_option maxRecDepth 100000

theorem eq_lrp_of {d : Nat} (p q : Lrp) {b : Bool} (hb : b = true ↔ p = q) (w : World) : (Op.equalIn (d + 2) 29 (.agg (lrC p).toArray) (.agg (lrC q).toArray)).run Tryd.prog w = .ok b w := by
  rw [run_equalIn_struct w (d + 1) 29 _ _ (struct_of Tryd.underlying29) (by kernel_rfl), fields_of Tryd.underlying29]
  refine Eq.trans (eqF_cons rfl (run_part_cell Tryd.underlying27 rfl rfl w) (run_part_cell Tryd.underlying27 rfl rfl w) (eq_int_of Tryd.underlying27 w)
    (eqF_cons rfl (run_part_cell Tryd.underlying9 rfl rfl w) (run_part_cell Tryd.underlying9 rfl rfl w) (eq_str_of w) eqF_nil)) ?_
  congr 1
  rw [Bool.eq_iff_iff, hb]
  simp only [Bool.and_eq_true, beq_iff_eq, decide_eq_true_eq, and_true, Prod.ext_iff]
theorem eq_lst_of {d : Nat} (p q : Lst) {b : Bool} (hb : b = true ↔ p = q) (w : World) : (Op.equalIn (d + 3) 48 (.agg (lsC p).toArray) (.agg (lsC q).toArray)).run Tryd.prog w = .ok b w := by
  rw [run_equalIn_struct w (d + 2) 48 _ _ (struct_of Tryd.underlying48) (by kernel_rfl), fields_of Tryd.underlying48]
  refine Eq.trans (eqF_cons rfl (run_part_cell Tryd.underlying32 rfl rfl w) (run_part_cell Tryd.underlying32 rfl rfl w) (eq_int_of Tryd.underlying32 w)
    (eqF_cons rfl (run_part_agg (ys := lrC p.2) Tryd.underlying29 rfl Tryd.is29 rfl w) (run_part_agg (ys := lrC q.2) Tryd.underlying29 rfl Tryd.is29 rfl w) (eq_lrp_of p.2 q.2 (b := decide (p.2 = q.2)) (by simp) w) eqF_nil)) ?_
  congr 1
  rw [Bool.eq_iff_iff, hb]
  simp only [Bool.and_eq_true, beq_iff_eq, decide_eq_true_eq, and_true, Int.ofNat_inj, Prod.ext_iff]
theorem Tryd.guard48 : Tryd.prog.eqGuardType Tryd.prog.depth 48 = false := by kernel_rfl

/-! ### a row of one request -/
theorem fill_mid (p a c : List Value) (vs : List Value) (h : a.length = vs.length) :
    ((Value.agg vs.toArray).cells.zipIdx.foldl (fun cs (x : Value × Nat) => cs.setIfInBounds (p.length + x.2) x.1) (p ++ (a ++ c)).toArray) = (p ++ (vs ++ c)).toArray := by
  have e : (Value.agg vs.toArray).cells = vs.toArray := rfl
  rw [e]
  have e2 : (vs.toArray.zipIdx.foldl (fun cs (x : Value × Nat) => cs.setIfInBounds (p.length + x.2) x.1) (p ++ (a ++ c)).toArray) = ((vs.zipIdx 0).foldl (fun cs (x : Value × Nat) => cs.setIfInBounds (p.length + x.2) x.1) (p ++ (a ++ c)).toArray) := by simp
  rw [e2]
  obtain ⟨_, h2⟩ := Great.foldl_set p.length vs 0 (p ++ (a ++ c)).toArray
  apply Array.ext_getElem?
  intro k
  rw [h2 k]
  simp only [List.getElem?_toArray, List.size_toArray, List.length_append, Nat.add_zero]
  by_cases h3 : p.length ≤ k
  · rw [List.getElem?_append_right h3, List.getElem?_append_right h3]
    by_cases h4 : k - p.length < vs.length
    · rw [if_pos (by omega), List.getElem?_append_left h4]
    · rw [if_neg (by omega), List.getElem?_append_right (by omega), List.getElem?_append_right (by omega), h]
  · rw [if_neg (by omega), List.getElem?_append_left (by omega), List.getElem?_append_left (by omega)]
theorem fill_cons (place : Nat → Option (Nat × Nat)) (cells : Array Value) (i : Nat) (v : Value) (rest : List (Nat × Value)) (off size : Nat) (hp : place i = some (off, size)) (hs : v.cells.size = size) (hle : off + v.cells.size ≤ cells.size) :
    Instr.fill place cells ((i, v) :: rest) = Instr.fill place (v.cells.zipIdx.foldl (fun cs (x : Value × Nat) => cs.setIfInBounds (off + x.2) x.1) cells) rest := by
  rw [Instr.fill, hp]
  simp only
  rw [if_neg (by simp only [hs]; rw [hs] at hle; simp; omega)]
theorem Tryd.info37 : (Tryd.prog.info? 37).map (fun i => (i.zero, i.size, i.bytes)) = some (some (.agg (rqC zQ).toArray), 40, 128) := by kernel_rfl
theorem build_one (q : MRq) (ht : q.tag.length = 32) (w : World) : (Instr.buildSlice 22 1 #[(0, .agg (rqC q).toArray)]).run Tryd.prog w = .ok (.slice (some ⟨w.heap.size, 0, none⟩) 1 1) (w.alloc (.cells (rqC q).toArray 37)) := by
  obtain ⟨i0, hi, hz0, hz1, _⟩ := info_parts Tryd.info37
  have hl : (rqC q).length = 40 := by rw [rqC_length, ht]
  refine run_buildSlice w 22 37 1 _ _ i0 _ Tryd.underlying22 hi hz0 (by rw [hz1]; decide) (by rw [hz1]; decide) ?_
  rw [hz1]
  generalize hA : (Array.range (1 * 40)).map (fun x => (Value.agg (rqC zQ).toArray).cells[x % (Value.agg (rqC zQ).toArray).cells.size]!) = A
  have hAs : A.toList.length = 40 := by rw [← hA]; simp
  have hAs' : A.size = 40 := by simpa using hAs
  have m1 := fill_mid [] A.toList [] (rqC q) (by rw [hAs, hl])
  have e1 : (Value.agg (rqC q).toArray).cells.size = 40 := by show (rqC q).toArray.size = 40; simpa using hl
  rw [fill_cons _ _ 0 _ _ 0 40 rfl e1 (by rw [e1]; omega)]
  simp only [List.length_nil, List.nil_append, List.append_nil] at m1
  rw [show A = A.toList.toArray by simp, m1]
  rfl
theorem rqs_one {W : World} {b : Nat} {q : MRq} {ty : TypeId} (h : W.heap[b]? = some (.cells (rqC q).toArray ty (0, 0))) (ht : q.tag.length = 32) (hn : q.time < 18446744073709551616 ∧ q.op.amount < 18446744073709551616 ∧ (Lit.int .i64 q.client).wf = true) : Rqs W (some ⟨b, 0, none⟩) [q] :=
  ⟨fun _ => ⟨b, 0, rfl, (Array.getElem?_eq_some_iff.1 h).1, fun j p hp k v hv => by
    match j, hp with
    | 0, hp =>
      obtain rfl : q = p := by simpa using hp
      simp only [Nat.zero_mul, Nat.zero_add]
      exact block_cell h k v hv
    | j + 1, hp => simp at hp⟩, fun p hp => by rw [List.mem_singleton.1 hp]; exact ht, fun p hp => by rw [List.mem_singleton.1 hp]; exact hn⟩

/-! ### beside -/
/-- What was there stays, and so do these new blocks, which are not the same. -/
structure Kp (w : World) (bs : List Kept) (W : World) : Prop where
  bel : Below w.heap.size w W
  keep : ∀ p ∈ bs, W.heap[p.1]? = some (.cells p.2.1 p.2.2 (0, 0)) ∧ w.heap.size ≤ p.1
  nd : (bs.map Prod.fst).Nodup
theorem Kp.below {w W W' : World} {bs : List Kept} (H : Kp w bs W) (hb : Below W.heap.size W W') : Kp w bs W' :=
  ⟨H.bel.trans (hb.mono H.bel.size), fun p hp => ⟨(hb.block _ (Array.getElem?_eq_some_iff.1 (H.keep p hp).1).1).trans (H.keep p hp).1, (H.keep p hp).2⟩, H.nd⟩
theorem Kp.drewN {w W : World} {bs : List Kept} (H : Kp w bs W) (k : Nat) : Kp w bs (W.drewN k) := H.below (below_drewN (Below.refl _ _) k)
theorem Kp.start (w : World) : Kp w [] w := ⟨Below.refl _ _, fun p hp => (by cases hp), List.nodup_nil⟩
theorem Kp.box {w W : World} {bs : List Kept} (H : Kp w bs W) (C : Array Value) (ty : TypeId) : Kp w ((W.heap.size, C, ty) :: bs) (W.alloc (.cells C ty)) := by
  have H' := H.below ((Below.refl _ _).alloc (Nat.le_refl _) (.cells C ty))
  refine ⟨H'.bel, fun p hp => ?_, List.nodup_cons.2 ⟨fun hm => ?_, H.nd⟩⟩
  · rcases List.mem_cons.1 hp with rfl | hp
    · exact ⟨heap_alloc_new W _, H.bel.size⟩
    · exact H'.keep p hp
  · obtain ⟨p, hp, e⟩ := List.mem_map.1 hm
    have := (Array.getElem?_eq_some_iff.1 (H.keep p hp).1).1
    dsimp only at e
    omega
theorem Kp.at {w W : World} {bs : List Kept} (H : Kp w bs W) (i : Nat) {b : Nat} {C : Array Value} {ty : TypeId} (hi : bs[i]? = some (b, C, ty)) : W.heap[b]? = some (.cells C ty (0, 0)) ∧ w.heap.size ≤ b := H.keep _ (List.mem_of_getElem? hi)
theorem Kp.turn {w W W' : World} {bs : List Kept} (H : Kp w bs W) (i : Nat) {b : Nat} {C D : Array Value} {ty : TypeId} (hi : bs[i]? = some (b, C, ty)) (hh : W'.heap[b]? = some (.cells D ty (0, 0))) (hg : W.grownBy W' (some b)) : Kp w (bs.set i (b, D, ty)) W' := by
  obtain ⟨h1, h2⟩ := H.at i hi
  have hil := (List.getElem?_eq_some_iff.1 hi).1
  have hnd : ∀ (a c : Nat) (p q : Kept), bs[a]? = some p → bs[c]? = some q → a < c → p.1 ≠ q.1 := fun a c p q ha hc hac => by
    have ha' : (bs.map Prod.fst)[a]? = some p.1 := by rw [List.getElem?_map, ha]; rfl
    have hc' : (bs.map Prod.fst)[c]? = some q.1 := by rw [List.getElem?_map, hc]; rfl
    obtain ⟨x1, e1⟩ := List.getElem?_eq_some_iff.1 ha'
    obtain ⟨x2, e2⟩ := List.getElem?_eq_some_iff.1 hc'
    have := List.pairwise_iff_getElem.1 H.nd a c x1 x2 hac
    rwa [e1, e2] at this
  refine ⟨H.bel.grown hg H.bel.size (fun k hk => by injection hk with hk; omega), fun p hp => ?_, ?_⟩
  · obtain ⟨j, hj⟩ := List.mem_iff_getElem?.1 hp
    by_cases e : i = j
    · subst e
      rw [List.getElem?_set_self hil] at hj
      obtain rfl := Option.some.inj hj
      exact ⟨hh, h2⟩
    · rw [List.getElem?_set_ne e] at hj
      obtain ⟨k1, k2⟩ := H.keep p (List.mem_of_getElem? hj)
      have hne : p.1 ≠ b := by
        rcases Nat.lt_or_gt_of_ne e with h | h
        · exact fun e => hnd i j _ p hi hj h e.symm
        · exact hnd j i p _ hj hi h
      exact ⟨(hg.block _ (Array.getElem?_eq_some_iff.1 k1).1 (fun e => hne (by cases e; rfl))).trans k1, k2⟩
  · rw [List.map_set]
    have : (bs.map Prod.fst).set i b = bs.map Prod.fst := by
      have : (bs.map Prod.fst)[i]? = some b := by rw [List.getElem?_map, hi]; rfl
      obtain ⟨x, e⟩ := List.getElem?_eq_some_iff.1 this
      conv => lhs; rw [← e]
      exact List.set_getElem_self x
    rw [this]
    exact H.nd
/-- A pair of cells anew. -/
theorem Kp.two {w W : World} {bs : List Kept} (H : Kp w bs W) (i : Nat) {b : Nat} {x y : Value} {ty : TypeId} (hi : bs[i]? = some (b, #[x, y], ty)) (x' y' : Value) : Kp w (bs.set i (b, #[x', y'], ty)) (W.setCells b 0 [x', y']) :=
  H.turn i hi (pair_store (a := x) (b := y) (H.at i hi).1 x' y') (gb_setCells b [x', y'] 0 W)
theorem Kp.cell {w W : World} {bs : List Kept} (H : Kp w bs W) (i : Nat) {b : Nat} {C : Array Value} {ty : TypeId} (hi : bs[i]? = some (b, C, ty)) (k : Nat) (v : Value) (hv : C[k]? = some v) : W.cell? ⟨b, k, none⟩ = some v :=
  block_cell (C := C.toList) (t := ty) (H.at i hi).1 k v (by simpa using hv)
open Go.RowKit
set_option maxRecDepth 100000

/-- The blocks of a list, that it may be kept. -/
theorem rw_kept {w : World} {r : Option Nat} {c : Nat} {xs : List It} (h : Rw w r c xs) : ∃ ks : List Kept, (∀ p ∈ ks, w.heap[p.1]? = some (.cells p.2.1 p.2.2 (0, 0)) ∧ r = some p.1) ∧ ∀ W : World, (∀ p ∈ ks, W.heap[p.1]? = some (.cells p.2.1 p.2.2 (0, 0))) → Its W (slA r) xs := by
  cases r with
  | none =>
    exact ⟨[], fun p hp => (by cases hp), fun W _ => by rw [h.2]; exact Its.nil W _⟩
  | some b =>
    obtain ⟨R, hB, _⟩ := h.blk
    refine ⟨[(b, (itC xs ++ R).toArray, 81)], fun p hp => ?_, fun W hW => ?_⟩
    · obtain rfl := List.mem_singleton.1 hp
      exact ⟨hB, rfl⟩
    · have hb := hW _ (List.mem_singleton.2 rfl)
      exact (h.kept (w' := W) fun b' e => by injection e with e; subst e; exact hb.trans (show w.heap[b]? = _ from hB).symm).its
theorem Sn.add {w : World} {t g : Nat} {bs : List Kept} {W W' : World} {T : List Lst} {r : Option Nat} {c : Nat} {xs : List It} (H : Sn w t g bs W T r c xs) (hb : Below W.heap.size W W') {ks : List Kept} (hk : ∀ p ∈ ks, W'.heap[p.1]? = some (.cells p.2.1 p.2.2 (0, 0)) ∧ W.heap.size ≤ p.1) : Sn w t g (ks ++ bs) W' T r c xs := by
  have H' := H.below hb
  refine ⟨H'.tbl, H'.sys, H'.ne, H'.town, H'.own, H'.bel, H'.low, fun p hp => ?_⟩
  rcases List.mem_append.1 hp with hp | hp
  · obtain ⟨h1, h2⟩ := hk p hp
    refine ⟨h1, fun e => ?_, fun e => ?_⟩
    · have := H.sys.led.on_lt _ e
      omega
    · have := H.tbl.lt
      omega
  · exact H'.keep p hp
/-- Requests that came in, wherever what was there stays. -/
theorem rqs_at {w : World} {A : Option Addr} {qs : List MRq} (h : Rqs w A qs) (j : Nat) (q : MRq) (hq : qs[j]? = some q) : ∃ b off, A = some ⟨b, off, none⟩ ∧ ∀ W, Below w.heap.size w W → W.rangeAt b (off + j * 40) (rqC q) := by
  obtain ⟨b, off, h1, hl, hc⟩ := h.at' (by have := (List.getElem?_eq_some_iff.1 hq).1; omega)
  exact ⟨b, off, h1, fun W hb k v hv => (hb.cell (p := ⟨b, off + j * 40 + k, none⟩) hl).trans (hc j q hq k v hv)⟩
theorem rq_info {w : World} {A : Option Addr} {qs : List MRq} (h : Rqs w A qs) {q : MRq} (hq : q ∈ qs) : (Tryd.prog.info? 37).map (·.size) = some (rqC q).length := by
  rw [rqC_length, h.tag q hq]
  exact Tryd.is37
theorem tR_rep (T : List Lst) (xs : List It) (q : MRq) : ∃ e v z, (tR T xs q).1 = ((e, v), z) := ⟨_, _, _, rfl⟩
end Go.Proofs.YtpageppjngbnpaaDoor
