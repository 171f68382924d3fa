/-
  What is proved: whether items are the same (Same); a key's value as it is listed (get); all items but those of two keys (others). Conditions as stated.
  What is proved: a number's digits by the document's own answers. Conditions as stated.
  What is proved: the number that a value is, by the document's own answers. Conditions as stated.
  What is proved: all items but those of two keys (others). Conditions as stated.
  What is proved: what is kept while a law goes on: the ledger, rows that were listed, blocks; and what an operation does, on lists. Conditions as stated.
  What is proved: plain facts on moves: what goes there and back. Conditions as stated.
  What is proved: plain facts on sums, on items that may be, on what an operation leaves. Conditions as stated.
  What is proved: the sum of items, whether items may be, Of. Conditions as stated.
  What is proved: Of. Conditions as stated.
  What is proved: two ledgers side by side. Conditions as stated.
-/
import Derived.Test.YtpageppjngbnpaaDoorA5
import Derived.Test.YtpageppjngbnpaaDoorA4
import Derived.Lib.Atoi
import Derived.Lib.AtoiTie
import Derived.Lib.AtoiErr
namespace Go.Proofs.YtpageppjngbnpaaDoor
open Go.RowKit
set_option maxRecDepth 100000

theorem ret_bool {x y : Bool} (h : x = y) : Ending.returned (.bool x) = Ending.returned (.bool y) := by rw [h]
theorem it_cells {w w' : World} {b o : Nat} {p : It} {j : Nat} (h : w.cell? ⟨b, o + j * 2, none⟩ = some (.string p.1) ∧ w.cell? ⟨b, o + j * 2 + 1, none⟩ = some (.string p.2)) (hb : Below w.heap.size w w') (hl : b < w.heap.size) :
    w'.cell? ⟨b, o + j * 2, none⟩ = some (.string p.1) ∧ w'.cell? ⟨b, o + j * 2 + 1, none⟩ = some (.string p.2) :=
  ⟨(hb.cell (p := ⟨b, o + j * 2, none⟩) hl).trans h.1, (hb.cell (p := ⟨b, o + j * 2 + 1, none⟩) hl).trans h.2⟩
open Go.RowKit
set_option maxRecDepth 100000

/-- The digits of what is left. -/
def dD (m : Nat) : List UInt8 := if m = 0 then [] else Lib.decDigits m
theorem dD_step (m : Nat) : Lib.decDigits m = dD (m / 10) ++ [UInt8.ofNat (48 + m % 10)] := by
  by_cases h10 : m < 10
  · rw [Lib.decDigits_one h10, dD, if_pos (by omega), Nat.mod_eq_of_lt h10]
    rfl
  · rw [Lib.decDigits, dif_neg h10, dD, if_neg (by omega)]
def mz (v w : Value) : Nat := 2 * (intOf v).toNat + (match w with | .string s => 1 - s.size | _ => 0)
theorem mz_lt (m k : Nat) (s t : ByteArray) (h : (s.size = 0 ∧ k ≤ m) ∨ k < m) (ht : 1 ≤ t.size) : mz (.int .u64 (k : Int)) (.string t) < mz (.int .u64 (m : Int)) (.string s) := by
  simp only [mz, intOf, Int.toNat_natCast]
  omega
theorem size_mk (l : List UInt8) : (⟨l.toArray⟩ : ByteArray).size = l.length := by simp [ByteArray.size]
def DigR (N m : Nat) (s : List UInt8) : Prop := (s = [] ∧ m = N) ∨ (s ≠ [] ∧ Lib.decDigits N = dD m ++ s)
theorem DigR.next {N m : Nat} {s : List UInt8} (h : DigR N m s) (hg : m ≠ 0 ∨ s = []) : DigR N (m / 10) (UInt8.ofNat (48 + m % 10) :: s) := by
  refine .inr ⟨by simp, ?_⟩
  by_cases hm : m = 0
  · subst hm
    rcases h with ⟨rfl, rfl⟩ | ⟨hs, _⟩
    · exact dD_step 0
    · exact absurd (hg.resolve_left (by simp)) hs
  · rcases h with ⟨rfl, rfl⟩ | ⟨_, h⟩
    · rw [dD_step m]
    · rw [h, dD, if_neg hm, dD_step m, List.append_assoc]
      rfl
theorem DigR.fin {N m : Nat} {s : List UInt8} (h : DigR N m s) (hm : m = 0) (hs : s ≠ []) : Lib.decDigits N = s := by
  rcases h with ⟨e, _⟩ | ⟨_, h⟩
  · exact absurd e hs
  · rw [h, hm]; rfl
theorem DigR.len {N m : Nat} {s : List UInt8} (h : DigR N m s) (hN : N < 18446744073709551616) : s.length ≤ 20 := by
  rcases h with ⟨rfl, _⟩ | ⟨_, h⟩
  · simp
  · have h1 : (Lib.decDigits N).length ≤ 20 := by
      rw [Lib.decDigits_length]
      by_cases h0 : 1 ≤ N
      · have := Lib.numDigits_eq N h0 hN
        split at this <;> omega
      · obtain rfl : N = 0 := by omega
        rw [Lib.nDigits_small (by omega)]
        omega
    rw [h, List.length_append] at h1
    omega
open Go.RowKit
set_option maxRecDepth 100000

theorem bsize (s : ByteArray) : s.size = s.data.toList.length := by
  show s.data.size = _
  rw [Array.length_toList]
theorem num_short {s : ByteArray} (hl : s.data.toList.length ≤ 18) : numOf s = match Lib.decNat s.data.toList with | some n => if n ≤ topN ∧ dec n = s then some n else none | none => none := by
  unfold numOf
  rw [Lib.parseUintB_64, Lib.parseMag_short _ hl]
  cases Lib.decNat s.data.toList <;> rfl
theorem nDigits_le : ∀ (k n : Nat), n < 10 ^ (k + 1) → Lib.nDigits n ≤ k + 1
  | 0, n, h => by rw [Lib.nDigits_small (by simpa using h)]; omega
  | k + 1, n, h => by
    by_cases h10 : n < 10
    · rw [Lib.nDigits_small h10]; omega
    · rw [Lib.nDigits_big h10]
      have := nDigits_le k (n / 10) (by rw [Nat.pow_succ] at h; omega)
      omega
theorem num_long {s : ByteArray} (hl : 16 < s.size) : numOf s = none := by
  cases h : numOf s with
  | none => rfl
  | some n =>
    exfalso
    obtain ⟨h1, h2⟩ := dec_of_num h
    have h3 : (dec n).size = Lib.nDigits n := by rw [dec, size_mk, Lib.decDigits_length]
    have h4 := nDigits_le 15 n (by unfold topN at h2; omega)
    rw [h1] at h3
    omega
def NumP (s : ByteArray) (w : World) (E : Ending) (w' : World) : Prop := ∃ x : Nat, E = .returned (.tuple #[.int .u64 (x : Int), .bool (numOf s).isSome]) ∧ ((numOf s).isSome = true → x = numV s) ∧ (s = ByteArray.empty → x = 0) ∧ Below w.heap.size w w'
theorem index_str (s : ByteArray) (j : Nat) (b : UInt8) (h : s.data.toList[j]? = some b) (w : World) : (Instr.index 9 (.string s) (.int .i64 (j : Int))).run Tryd.prog w = .ok (.int .u8 (b.toNat : Int)) w := by
  have hj : j < s.data.toList.length := (List.getElem?_eq_some_iff.1 h).1
  have hj' : j < s.size := by rw [bsize]; exact hj
  have hb : s[j]? = some b := by
    rw [getElem?_pos s j hj']
    congr 1
    obtain ⟨_, e⟩ := List.getElem?_eq_some_iff.1 h
    rw [← e]
    rfl
  simp [Instr.index, asIntOf, run_underlying Tryd.underlying9, hb]
open Go.RowKit
set_option maxRecDepth 100000

def rest (xs : List It) (a b : ByteArray) : List It := xs.filter fun p => decide (p.1 ≠ a) && decide (p.1 ≠ b)
theorem rest_take {xs : List It} {a b : ByteArray} {j : Nat} {p : It} (hp : xs[j]? = some p) : rest (xs.take (j + 1)) a b = rest (xs.take j) a b ++ if decide (p.1 ≠ a) && decide (p.1 ≠ b) then [p] else [] := by
  rw [List.take_add_one, hp, rest, List.filter_append]
  congr 1
  simp [List.filter_cons]
open Go.RowKit
set_option maxRecDepth 100000

abbrev Row3 := Option Nat × Nat × List It
/-- The ledger at g, rows that were listed, blocks that are kept: all of the call's own. -/
structure Ke (w : World) (g : Nat) (bs : List (Nat × Obj)) (rows : List Row3) (W : World) (r : Option Nat) (c : Nat) (xs : List It) : Prop where
  sys : Sys W g r c xs
  bel : Below w.heap.size w W
  own : ∀ k, On g r k → w.heap.size ≤ k
  keep : ∀ p ∈ bs, W.heap[p.1]? = some p.2 ∧ ¬ On g r p.1
  row : ∀ q ∈ rows, Rw W q.1 q.2.1 q.2.2 ∧ ∀ b, q.1 = some b → ¬ On g r b ∧ w.heap.size ≤ b
theorem Ke.next {w : World} {g : Nat} {bs : List (Nat × Obj)} {rows : List Row3} {W W' : World} {r r' : Option Nat} {c c' : Nat} {xs ys : List It} (H : Ke w g bs rows W r c xs) (hs : Sys W' g r' c' ys) (ho : Own W (On g r) W' (On g r')) : Ke w g bs rows W' r' c' ys := by
  have hon : ∀ k, k < W.heap.size → ¬ On g r k → ¬ On g r' k := fun k hk hn h => by
    rcases ho.2 k h with e | e
    · exact hn e
    · omega
  refine ⟨hs, H.bel.trans (ho.1.below H.bel.size H.own), fun k hk => ?_, fun p hp => ?_, fun q hq => ?_⟩
  · rcases ho.2 k hk with e | e
    · exact H.own k e
    · exact Nat.le_trans H.bel.size e
  · obtain ⟨h1, h2⟩ := H.keep p hp
    have hl := (Array.getElem?_eq_some_iff.1 h1).1
    exact ⟨(ho.1.block _ hl h2).trans h1, hon _ hl h2⟩
  · obtain ⟨h1, h2⟩ := H.row q hq
    refine ⟨h1.kept fun b e => ho.1.block b ?_ (h2 b e).1, fun b e => ⟨hon b ?_ (h2 b e).1, (h2 b e).2⟩⟩
    · rw [e] at h1; exact h1.lt
    · rw [e] at h1; exact h1.lt
theorem Ke.below {w : World} {g : Nat} {bs : List (Nat × Obj)} {rows : List Row3} {W W' : World} {r : Option Nat} {c : Nat} {xs : List It} (H : Ke w g bs rows W r c xs) (hb : Below W.heap.size W W') : Ke w g bs rows W' r c xs :=
  H.next (H.sys.below hb) (Own.same (Turns.of_below hb))
theorem Ke.do {w : World} {g : Nat} {bs : List (Nat × Obj)} {rows : List Row3} {W : World} {r : Option Nat} {c : Nat} {xs : List It} (H : Ke w g bs rows W r c xs) (o : MOp) : Calls Tryd.prog 28 #[.pointer (some ⟨g, 0, none⟩), .agg (opC o).toArray] W fun E w' => E = .returned (.agg (repC (doR xs o).1).toArray) ∧ ∃ r' c', Ke w g bs rows w' r' c' (doR xs o).2 :=
  (do_any H.sys o).mono fun _ _ ⟨he, r', c', hs, ho⟩ => ⟨he, r', c', H.next hs ho⟩
theorem Ke.push {w : World} {g : Nat} {bs : List (Nat × Obj)} {rows : List Row3} {W W' : World} {r : Option Nat} {c : Nat} {xs ys : List It} {r1 : Option Nat} {c1 : Nat} (H : Ke w g bs rows W r c xs) (hr : Rw W' r1 c1 ys) (hg : ∀ b, r1 = some b → W.heap.size ≤ b) (hb : Below W.heap.size W W') : Ke w g bs ((r1, c1, ys) :: rows) W' r c xs := by
  have H' := H.below hb
  refine ⟨H'.sys, H'.bel, H'.own, H'.keep, fun q hq => ?_⟩
  rcases List.mem_cons.1 hq with rfl | hq
  · refine ⟨hr, fun b e => ⟨fun h => ?_, Nat.le_trans H.bel.size (hg b e)⟩⟩
    have h1 := H.sys.led.on_lt b h
    have h2 := hg b e
    omega
  · exact H'.row q hq
theorem Ke.box {w : World} {g : Nat} {bs : List (Nat × Obj)} {rows : List Row3} {W : World} {r : Option Nat} {c : Nat} {xs : List It} (H : Ke w g bs rows W r c xs) (o : Obj) : Ke w g ((W.heap.size, o) :: bs) rows (W.alloc o) r c xs := by
  have H' := H.below ((Below.refl W.heap.size W).alloc (Nat.le_refl _) o)
  refine ⟨H'.sys, H'.bel, H'.own, fun p hp => ?_, H'.row⟩
  rcases List.mem_cons.1 hp with rfl | hp
  · exact ⟨heap_alloc_new W o, fun h => by have := H.sys.led.on_lt _ h; omega⟩
  · exact H'.keep p hp
theorem Ke.drewN {w : World} {g : Nat} {bs : List (Nat × Obj)} {rows : List Row3} {W : World} {r : Option Nat} {c : Nat} {xs : List It} (H : Ke w g bs rows W r c xs) (q : Nat) : Ke w g bs rows (W.drewN q) r c xs :=
  H.below (below_drewN (Below.refl _ _) q)

/-! ### what an operation does -/
theorem rest_app (x y : List It) (a b : ByteArray) : rest (x ++ y) a b = rest x a b ++ rest y a b := List.filter_append ..
theorem rest_cons (p : It) (y : List It) (a b : ByteArray) (h : p.1 = a ∨ p.1 = b) : rest (p :: y) a b = rest y a b := by
  rw [rest, List.filter_cons]
  have : (decide (p.1 ≠ a) && decide (p.1 ≠ b)) = false := by rcases h with h | h <;> simp [h]
  rw [this]
  rfl
theorem rest_drop {xs : List It} {k a b : ByteArray} (hk : k = a ∨ k = b) (hh : hasK xs k = true) : rest (xs.drop (posOf xs k + 1)) a b = rest (xs.drop (posOf xs k)) a b := by
  obtain ⟨hl, e⟩ := List.getElem?_eq_some_iff.1 (mem_of_has hh)
  rw [List.drop_eq_getElem_cons hl, rest_cons _ _ _ _ (by rw [e]; exact hk)]
theorem rest_set (xs : List It) {k v a b : ByteArray} (hk : k = a ∨ k = b) : rest (setK xs k v) a b = rest xs a b := by
  rw [setK, rest_app, rest_cons _ _ _ _ hk]
  cases hh : hasK xs k with
  | true =>
    rw [if_pos rfl, rest_drop hk hh, ← rest_app, List.take_append_drop]
  | false => rw [if_neg (by simp), Nat.add_zero, ← rest_app, List.take_append_drop]
theorem rest_del {xs : List It} {k a b : ByteArray} (hk : k = a ∨ k = b) (hh : hasK xs k = true) : rest (delK xs k) a b = rest xs a b := by
  rw [delK, rest_app, rest_drop hk hh, ← rest_app, List.take_append_drop]
theorem rest_do (xs : List It) (o : MOp) : rest (doR xs o).2 o.key o.to = rest xs o.key o.to := by
  unfold doR putR delR swapR moveR
  repeat' split
  all_goals first
    | rfl
    | exact rest_set _ (.inl rfl)
    | exact rest_del (.inl rfl) ‹_›
    | exact (rest_set _ (.inr rfl)).trans (rest_set _ (.inl rfl))
theorem has_del {xs : List It} (h : Rise xs) {k : ByteArray} : hasK (delK xs k) k = false := by
  cases hx : hasK (delK xs k) k with
  | false => rfl
  | true =>
    exfalso
    have hm := (has_iff (rise_del h k)).2 ⟨hx, rfl⟩
    unfold delK at hm
    rcases List.mem_append.1 hm with hm | hm
    · obtain ⟨j, hj, e⟩ := List.getElem_of_mem hm
      rw [List.length_take] at hj
      rw [List.getElem_take] at e
      have := pos_below (xs := xs) (k := k) (by omega : j < posOf xs k) (List.getElem?_eq_getElem (by omega))
      rw [e] at this
      rw [klt_irrefl] at this
      cases this
    · obtain ⟨j, hj, e⟩ := List.getElem_of_mem hm
      rw [List.length_drop] at hj
      rw [List.getElem_drop] at e
      have hj2 : posOf xs k + 1 + j < xs.length := by omega
      have := (has_of_mem h (show xs[posOf xs k + 1 + j]? = some (k, _) by rw [List.getElem?_eq_getElem hj2, e])).1
      omega
open Go.RowKit

theorem dig_ok {d : Nat} (h : d < 10) : Lib.digitVal (UInt8.ofNat (48 + d)) = some d := by
  have e : (UInt8.ofNat (48 + d)).toNat = 48 + d := by simp; omega
  rw [Lib.digitVal, e, if_pos (by omega)]
  congr 1
  omega
theorem from_app (m : List UInt8) : ∀ (l : List UInt8) (acc n : Nat), Lib.decFrom acc l = some n → Lib.decFrom acc (l ++ m) = Lib.decFrom n m
  | [], acc, n, h => by
    simp only [Lib.decFrom, Option.some.injEq] at h
    rw [h]; rfl
  | b :: r, acc, n, h => by
    simp only [Lib.decFrom, List.cons_append] at h ⊢
    cases hd : Lib.digitVal b with
    | none => rw [hd] at h; cases h
    | some d => rw [hd] at h; exact from_app m r _ n h
theorem from_dec (n : Nat) : Lib.decFrom 0 (Lib.decDigits n) = some n := by
  induction n using Nat.strongRecOn with
  | ind n ih =>
    by_cases h : n < 10
    · rw [Lib.decDigits_one h, Lib.decFrom, dig_ok h]
      simp [Lib.decFrom]
    · rw [Lib.decDigits, dif_neg h, from_app _ _ _ _ (ih (n / 10) (by omega)), Lib.decFrom, dig_ok (by omega)]
      simp only [Lib.decFrom]
      congr 1
      omega
theorem num_dec {n : Nat} (h : n ≤ topN) : numOf (dec n) = some n := by
  have hl : (dec n).data.toList.length ≤ 18 := by
    rw [dec_list, Lib.decDigits_length]
    have := nDigits_le 15 n (by unfold topN at h; omega)
    omega
  rw [num_short hl, dec_list]
  have hd : Lib.decNat (Lib.decDigits n) = some n := by
    have hne : Lib.decDigits n ≠ [] := by rw [dD_step]; simp
    unfold Lib.decNat
    rw [if_neg (by simpa using hne)]
    exact from_dec n
  rw [hd]
  simp [h]
theorem rise_ext_mem : ∀ {xs ys : List It}, Rise xs → Rise ys → (∀ p, p ∈ xs ↔ p ∈ ys) → xs = ys
  | [], [], _, _, _ => rfl
  | [], y :: ys, _, _, h => absurd ((h y).2 (by simp)) (by simp)
  | x :: xs, [], _, _, h => absurd ((h x).1 (by simp)) (by simp)
  | x :: xs, y :: ys, hx, hy, h => by
    obtain ⟨hx1, hx2⟩ := List.pairwise_cons.1 hx
    obtain ⟨hy1, hy2⟩ := List.pairwise_cons.1 hy
    have e : x = y := by
      rcases List.mem_cons.1 ((h x).1 (by simp)) with e | h1
      · exact e
      · rcases List.mem_cons.1 ((h y).2 (by simp)) with e | h2
        · exact e.symm
        · have a1 := hy1 x h1
          have a2 := hx1 y h2
          rw [klt_asymm a1] at a2
          cases a2
    subst e
    rw [rise_ext_mem hx2 hy2 fun p => ?_]
    constructor
    · intro hp
      rcases List.mem_cons.1 ((h p).1 (List.mem_cons_of_mem _ hp)) with e | hq
      · subst e
        have := hx1 p hp
        rw [klt_irrefl] at this; cases this
      · exact hq
    · intro hp
      rcases List.mem_cons.1 ((h p).2 (List.mem_cons_of_mem _ hp)) with e | hq
      · subst e
        have := hy1 p hp
        rw [klt_irrefl] at this; cases this
      · exact hq
theorem rise_ext {xs ys : List It} (hx : Rise xs) (hy : Rise ys) (h : ∀ q, hasK xs q = hasK ys q ∧ valK xs q = valK ys q) : xs = ys :=
  rise_ext_mem hx hy fun ⟨q, v⟩ => by rw [has_iff hx, has_iff hy, (h q).1, (h q).2]
theorem del_other {xs : List It} (h : Rise xs) {k q : ByteArray} (hk : hasK xs k = true) (hne : q ≠ k) : hasK (delK xs k) q = hasK xs q ∧ valK (delK xs k) q = valK xs q := by
  have hd := rise_del h k
  have hto : ∀ p : It, p ∈ delK xs k → p ∈ xs := fun p hp => by
    unfold delK at hp
    rcases List.mem_append.1 hp with hp | hp
    · exact List.mem_of_mem_take hp
    · exact List.mem_of_mem_drop hp
  have hof : ∀ p : It, p ∈ xs → p.1 ≠ k → p ∈ delK xs k := fun p hp hpk => by
    have e : xs = xs.take (posOf xs k) ++ (k, valK xs k) :: xs.drop (posOf xs k + 1) := by
      obtain ⟨hl, e⟩ := List.getElem?_eq_some_iff.1 (mem_of_has hk)
      rw [← e, ← List.drop_eq_getElem_cons hl, List.take_append_drop]
    rw [e] at hp
    unfold delK
    rcases List.mem_append.1 hp with hp | hp
    · exact List.mem_append_left _ hp
    · rcases List.mem_cons.1 hp with hp | hp
      · rw [hp] at hpk; exact absurd rfl hpk
      · exact List.mem_append_right _ hp
  cases hh : hasK xs q with
  | true =>
    have hm : (q, valK xs q) ∈ xs := (has_iff h).2 ⟨hh, rfl⟩
    exact (has_iff hd).1 (hof _ hm hne)
  | false =>
    have hn : hasK (delK xs k) q = false := by
      cases hx : hasK (delK xs k) q with
      | false => rfl
      | true =>
        exfalso
        have hm := hto _ ((has_iff hd).2 ⟨hx, rfl⟩)
        rw [((has_iff h).1 hm).1] at hh; cases hh
    exact ⟨hn, by rw [val_none hn, val_none hh]⟩

/-! ### moves -/
def mvO (a b : ByteArray) (n : Nat) : MOp := ⟨5, a, ⟨#[]⟩, ⟨#[]⟩, b, n⟩
def dlO (b : ByteArray) : MOp := ⟨3, b, ⟨#[]⟩, ⟨#[]⟩, ⟨#[]⟩, 0⟩
theorem may_mv {a b : ByteArray} {n : Nat} (h : mayOp (mvO a b n) = true) : mayK a = true ∧ mayK b = true ∧ b ≠ a ∧ 1 ≤ n ∧ n ≤ topN := by
  simp [mayOp, ownOp, mvO] at h
  obtain ⟨⟨h1, h2, h3, h4⟩, h5, _⟩ := h
  exact ⟨h5, h1, of_decide_eq_true h2, of_decide_eq_true h3, of_decide_eq_true h4⟩
theorem mv_may {a b : ByteArray} {n : Nat} (h1 : mayK a = true) (h2 : mayK b = true) (h3 : b ≠ a) (h4 : 1 ≤ n) (h5 : n ≤ topN) : mayOp (mvO a b n) = true := by
  simp [mayOp, ownOp, mvO]
  exact ⟨⟨h2, decide_eq_true h3, decide_eq_true h4, decide_eq_true h5⟩, h1, rfl⟩
theorem dl_may {b : ByteArray} (h : mayK b = true) : mayOp (dlO b) = true := by
  simp [mayOp, ownOp, dlO]
  exact ⟨h, rfl⟩
theorem do_mv {a b : ByteArray} {n : Nat} (xs : List It) (h : mayOp (mvO a b n) = true) : doR xs (mvO a b n) = moveR xs (mvO a b n) := by
  rw [doR, if_pos h]; rfl
theorem do_dl {b : ByteArray} (xs : List It) (h : mayOp (dlO b) = true) (hb : hasK xs b = true) : doR xs (dlO b) = ((0, valK xs b), delK xs b) := by
  rw [doR, if_pos h]
  show delR xs (dlO b) = _
  rw [delR, if_pos (show hasK xs (dlO b).key = true from hb)]
  rfl
/-- What lies there behind a move. -/
def mvd (xs : List It) (a b : ByteArray) (A B n : Nat) : List It := setK (setK xs a (dec (A - n))) b (dec (B + n))
theorem mv_ok {xs : List It} {a b : ByteArray} {n A B : Nat} (ha : hasK xs a = true) (h1 : numOf (valK xs a) = some A) (h2 : numAt xs b = some B) (hn : n ≤ A) (ht : B + n ≤ topN) (hf : fullK xs b = false) :
    moveR xs (mvO a b n) = ((0, dec (A - n)), mvd xs a b A B n) := by
  rw [moveR, if_pos (show hasK xs (mvO a b n).key = true from ha), show numOf (valK xs (mvO a b n).key) = some A from h1, show numAt xs (mvO a b n).to = some B from h2]
  show (if A < n then _ else _) = _
  rw [if_neg (by omega), if_neg (by show ¬ topN < B + n; omega), if_neg (by show ¬ fullK xs b = true; rw [hf]; simp)]
  rfl
theorem mvd_rise {xs : List It} (h : Rise xs) (a b : ByteArray) (A B n : Nat) : Rise (mvd xs a b A B n) := rise_set (rise_set h _ _) _ _
theorem mvd_a {xs : List It} (h : Rise xs) {a b : ByteArray} (hne : b ≠ a) (A B n : Nat) : hasK (mvd xs a b A B n) a = true ∧ valK (mvd xs a b A B n) a = dec (A - n) := by
  obtain ⟨e1, e2⟩ := has_other (rise_set h a (dec (A - n))) (k := b) (v := dec (B + n)) (q := a) (fun e => hne e.symm)
  obtain ⟨_, e3, e4⟩ := has_set h a (dec (A - n))
  exact ⟨e1.trans e3, e2.trans e4⟩
theorem mvd_b {xs : List It} (h : Rise xs) (a b : ByteArray) (A B n : Nat) : hasK (mvd xs a b A B n) b = true ∧ valK (mvd xs a b A B n) b = dec (B + n) := (has_set (rise_set h _ _) b (dec (B + n))).2
theorem mvd_o {xs : List It} (h : Rise xs) {a b q : ByteArray} (h1 : q ≠ a) (h2 : q ≠ b) (A B n : Nat) : hasK (mvd xs a b A B n) q = hasK xs q ∧ valK (mvd xs a b A B n) q = valK xs q := by
  obtain ⟨e1, e2⟩ := has_other (rise_set h a (dec (A - n))) (k := b) (v := dec (B + n)) h2
  obtain ⟨e3, e4⟩ := has_other h (k := a) (v := dec (A - n)) h1
  exact ⟨e1.trans e3, e2.trans e4⟩
theorem full_has {xs : List It} {k : ByteArray} (h : hasK xs k = true) : fullK xs k = false := by rw [fullK, h]; rfl
/-- Back again. -/
theorem mv_back {xs : List It} (h : Rise xs) {a b : ByteArray} {n A B : Nat} (hne : b ≠ a) (hn : n ≤ A) (hA : A ≤ topN) (ht : B + n ≤ topN) :
    moveR (mvd xs a b A B n) (mvO b a n) = ((0, dec B), mvd (mvd xs a b A B n) b a (B + n) (A - n) n) := by
  obtain ⟨a1, a2⟩ := mvd_a h hne A B n
  obtain ⟨b1, b2⟩ := mvd_b h a b A B n
  have := mv_ok (xs := mvd xs a b A B n) (a := b) (b := a) (n := n) (A := B + n) (B := A - n) b1 (by rw [b2, num_dec ht]) (by rw [numAt, if_pos a1, a2, num_dec (by omega)]) (by omega) (by omega) (full_has a1)
  rwa [show B + n - n = B by omega] at this
theorem back_facts {xs : List It} (h : Rise xs) {a b : ByteArray} {n A B : Nat} (hne : b ≠ a) (hn : n ≤ A) :
    (hasK (mvd (mvd xs a b A B n) b a (B + n) (A - n) n) a = true ∧ valK (mvd (mvd xs a b A B n) b a (B + n) (A - n) n) a = dec A) ∧ (hasK (mvd (mvd xs a b A B n) b a (B + n) (A - n) n) b = true ∧ valK (mvd (mvd xs a b A B n) b a (B + n) (A - n) n) b = dec B) ∧
    ∀ q, q ≠ a → q ≠ b → hasK (mvd (mvd xs a b A B n) b a (B + n) (A - n) n) q = hasK xs q ∧ valK (mvd (mvd xs a b A B n) b a (B + n) (A - n) n) q = valK xs q := by
  have h1 := mvd_rise h a b A B n
  have e1 := mvd_b h1 b a (B + n) (A - n) n
  have e2 := mvd_a h1 (a := b) (b := a) (fun e => hne e.symm) (B + n) (A - n) n
  rw [show A - n + n = A by omega] at e1
  rw [show B + n - n = B by omega] at e2
  refine ⟨e1, e2, fun q q1 q2 => ?_⟩
  obtain ⟨e3, e4⟩ := mvd_o h1 (a := b) (b := a) q2 q1 (B + n) (A - n) n
  obtain ⟨e5, e6⟩ := mvd_o h q1 q2 A B n
  exact ⟨e3.trans e5, e4.trans e6⟩
theorem back_there {xs : List It} (h : Rise xs) {a b : ByteArray} {n A B : Nat} (hne : b ≠ a) (hn : n ≤ A) (ha : hasK xs a = true) (hb : hasK xs b = true) (h1 : numOf (valK xs a) = some A) (h2 : numOf (valK xs b) = some B) :
    mvd (mvd xs a b A B n) b a (B + n) (A - n) n = xs := by
  obtain ⟨⟨a1, a2⟩, ⟨b1, b2⟩, ho⟩ := back_facts h (A := A) (B := B) hne hn
  refine rise_ext (mvd_rise (mvd_rise h _ _ _ _ _) _ _ _ _ _) h fun q => ?_
  by_cases q1 : q = a
  · subst q1
    rw [a1, a2, ha, (dec_of_num h1).1]; exact ⟨rfl, rfl⟩
  · by_cases q2 : q = b
    · subst q2
      rw [b1, b2, hb, (dec_of_num h2).1]; exact ⟨rfl, rfl⟩
    · exact ho q q1 q2
theorem back_new {xs : List It} (h : Rise xs) {a b : ByteArray} {n A : Nat} (hne : b ≠ a) (hn : n ≤ A) (ha : hasK xs a = true) (hb : hasK xs b = false) (h1 : numOf (valK xs a) = some A) :
    delK (mvd (mvd xs a b A 0 n) b a (0 + n) (A - n) n) b = xs := by
  obtain ⟨⟨a1, a2⟩, ⟨b1, b2⟩, ho⟩ := back_facts h (A := A) (B := 0) hne hn
  have hz := mvd_rise (mvd_rise h a b A 0 n) b a (0 + n) (A - n) n
  refine rise_ext (rise_del hz b) h fun q => ?_
  by_cases q2 : q = b
  · subst q2
    rw [has_del hz, val_none (has_del hz), hb, val_none hb]; exact ⟨rfl, rfl⟩
  · rw [(del_other hz b1 q2).1, (del_other hz b1 q2).2]
    by_cases q1 : q = a
    · subst q1
      rw [a1, a2, ha, (dec_of_num h1).1]; exact ⟨rfl, rfl⟩
    · exact ho q q1 q2
open Go.RowKit

/-! ### sums -/
def sumN : List It → Nat
  | [] => 0
  | p :: r => numV p.2 + sumN r
theorem sum_app : ∀ x y : List It, sumN (x ++ y) = sumN x + sumN y
  | [], y => by simp [sumN]
  | p :: x, y => by simp only [List.cons_append, sumN, sum_app x y]; omega
theorem sum_take {xs : List It} {j : Nat} {p : It} (h : xs[j]? = some p) : sumN (xs.take (j + 1)) = sumN (xs.take j) + numV p.2 := by
  obtain ⟨hl, e⟩ := List.getElem?_eq_some_iff.1 h
  rw [List.take_add_one, h, sum_app]
  simp [sumN]
theorem sum_le : ∀ xs : List It, sumN xs ≤ xs.length * topN
  | [] => by simp [sumN]
  | p :: r => by
    have h1 := sum_le r
    have h2 := num_le (s := p.2)
    simp only [sumN, List.length_cons, Nat.add_mul, Nat.one_mul]
    omega
theorem split_has {xs : List It} {k : ByteArray} (hk : hasK xs k = true) : xs = xs.take (posOf xs k) ++ (k, valK xs k) :: xs.drop (posOf xs k + 1) := by
  obtain ⟨hl, e⟩ := List.getElem?_eq_some_iff.1 (mem_of_has hk)
  rw [← e, ← List.drop_eq_getElem_cons hl, List.take_append_drop]
theorem numV_empty : numV ByteArray.empty = 0 := by rw [numV, num_empty]; rfl
theorem sum_set (xs : List It) (k v : ByteArray) : sumN (setK xs k v) + numV (valK xs k) = sumN xs + numV v := by
  cases hh : hasK xs k with
  | true =>
    have e := split_has hh
    have h1 : sumN xs = sumN (xs.take (posOf xs k)) + (numV (valK xs k) + sumN (xs.drop (posOf xs k + 1))) := by
      conv => lhs; rw [e]
      rw [sum_app]; rfl
    rw [setK, if_pos hh, sum_app, sumN, h1]
    show _ + (numV v + _) + _ = _
    omega
  | false =>
    have h1 : sumN xs = sumN (xs.take (posOf xs k)) + sumN (xs.drop (posOf xs k)) := by
      rw [← sum_app, List.take_append_drop]
    rw [setK, hh, if_neg (by simp), Nat.add_zero, sum_app, sumN, h1, val_none hh, numV_empty]
    show _ + (numV v + _) + _ = _
    omega
theorem numV_dec {n : Nat} (h : n ≤ topN) : numV (dec n) = n := by rw [numV, num_dec h]; rfl
theorem sum_move {xs : List It} (h : Rise xs) {o : MOp} (hne : o.to ≠ o.key) : sumN (moveR xs o).2 = sumN xs := by
  unfold moveR
  split
  · rename_i hh
    split
    · rename_i a b e1 e2
      split
      · rfl
      · split
        · rfl
        · split
          · rfl
          · have ha := (dec_of_num e1).2
            have s1 := sum_set xs o.key (dec (a - o.amount))
            have s2 := sum_set (setK xs o.key (dec (a - o.amount))) o.to (dec (b + o.amount))
            rw [numV_dec (by omega)] at s1 s2
            have v1 : numV (valK xs o.key) = a := by rw [numV, e1]; rfl
            have v2 : numV (valK (setK xs o.key (dec (a - o.amount))) o.to) = b := by
              rw [(has_other h hne).2]
              unfold numAt at e2
              split at e2
              · rw [numV, e2]; rfl
              · rename_i hb
                rw [val_none (by simpa using hb), numV_empty]
                simpa using e2
            rw [v1] at s1
            rw [v2] at s2
            show sumN (setK (setK xs o.key (dec (a - o.amount))) o.to (dec (b + o.amount))) = sumN xs
            omega
    · rfl
  · rfl
theorem may_5 {o : MOp} (h : mayOp o = true) (hk : o.kind = 5) : o.to ≠ o.key ∧ o.amount ≤ topN ∧ mayK o.to = true := by
  unfold mayOp at h
  rw [Bool.and_eq_true] at h
  have h1 := h.1
  unfold ownOp at h1
  rw [hk] at h1
  simp only [show ¬ ((5 : UInt8) = 1 ∨ (5 : UInt8) = 3) by decide, show ¬ (5 : UInt8) = 2 by decide, show ¬ (5 : UInt8) = 4 by decide, if_false, if_true] at h1
  simp only [Bool.and_eq_true, decide_eq_true_eq] at h1
  exact ⟨h1.2.1, h1.2.2.2, h1.1⟩
theorem may_key {o : MOp} (h : mayOp o = true) : mayK o.key = true := by
  unfold mayOp at h
  rw [Bool.and_eq_true, Bool.and_eq_true] at h
  exact h.2.1
theorem do_kind {xs : List It} {o : MOp} (hm : mayOp o = true) : doR xs o = if o.kind = 1 then (getR xs o, xs) else if o.kind = 2 then putR xs o else if o.kind = 3 then delR xs o else if o.kind = 4 then swapR xs o else moveR xs o := by rw [doR, if_pos hm]
theorem do_sum {xs : List It} (h : Rise xs) {o : MOp} (hk : o.kind = 5) : sumN (doR xs o).2 = sumN xs := by
  cases hm : mayOp o with
  | false => rw [doR, hm]; rfl
  | true =>
    rw [do_kind hm, hk]
    obtain ⟨h1, _, _⟩ := may_5 hm hk
    exact sum_move h h1
theorem do_err {xs : List It} {o : MOp} (h : (doR xs o).1.1 ≠ 0) : (doR xs o).2 = xs := by
  unfold doR putR delR swapR moveR at h ⊢
  repeat' split
  all_goals first
    | rfl
    | (exfalso; simp_all [no])
/-- The keys are some. -/
def Keys (xs : List It) : Prop := ∀ p ∈ xs, mayK p.1 = true
theorem Keys.set {xs : List It} (h : Keys xs) {k v : ByteArray} (hk : mayK k = true) : Keys (setK xs k v) := fun p hp => by
  rcases mem_set hp with rfl | hp
  · exact hk
  · exact h p hp
theorem Keys.del {xs : List It} (h : Keys xs) (k : ByteArray) : Keys (delK xs k) := fun p hp => by
  unfold delK at hp
  rcases List.mem_append.1 hp with hp | hp
  · exact h p (List.mem_of_mem_take hp)
  · exact h p (List.mem_of_mem_drop hp)
theorem Keys.do {xs : List It} (h : Keys xs) (o : MOp) : Keys (doR xs o).2 := by
  cases hm : mayOp o with
  | false => rw [doR, hm]; exact h
  | true =>
    have hk := may_key hm
    rw [do_kind hm]
    by_cases h5 : o.kind = 5
    · rw [h5]
      have ht := (may_5 hm h5).2.2
      show Keys (moveR xs o).2
      unfold moveR
      repeat' split
      all_goals first
        | exact h
        | exact (h.set hk).set ht
    · have h1 := may_kind hm
      unfold putR delR swapR
      split
      · exact h
      · split
        · split
          · exact h
          · exact h.set hk
        · split
          · split
            · exact h.del _
            · exact h
          · split
            · split
              · split
                · exact h.set hk
                · exact h
              · exact h
            · rename_i a1 a2 a3 a4
              rcases h1 with e | e | e | e | e
              · exact absurd e a1
              · exact absurd e a2
              · exact absurd e a3
              · exact absurd e a4
              · exact absurd e h5

/-! ### items that may be -/
def mayI : ByteArray → List It → Bool
  | _, [] => true
  | l, p :: r => klt l p.1 && (mayK p.1 && (mayV p.2 && mayI p.1 r))
theorem mayI_rise : ∀ {l : ByteArray} {xs : List It}, mayI l xs = true → Rise xs ∧ Keys xs ∧ (∀ p ∈ xs, p.2.size ≤ 128) ∧ ∀ p ∈ xs, klt l p.1 = true
  | l, [], _ => ⟨List.Pairwise.nil, (by intro p hp; cases hp), (by intro p hp; cases hp), (by intro p hp; cases hp)⟩
  | l, p :: r, h => by
    simp only [mayI, Bool.and_eq_true] at h
    obtain ⟨h1, h2, h3, h4⟩ := h
    obtain ⟨a1, a2, a3, a4⟩ := mayI_rise h4
    refine ⟨List.pairwise_cons.2 ⟨a4, a1⟩, fun q hq => ?_, fun q hq => ?_, fun q hq => ?_⟩
    · rcases List.mem_cons.1 hq with rfl | hq
      · exact h2
      · exact a2 q hq
    · rcases List.mem_cons.1 hq with rfl | hq
      · simpa [mayV] using h3
      · exact a3 q hq
    · rcases List.mem_cons.1 hq with rfl | hq
      · exact h1
      · exact klt_trans h1 (a4 q hq)
theorem rise_mayI : ∀ {l : ByteArray} {xs : List It}, Rise xs → Keys xs → (∀ p ∈ xs, p.2.size ≤ 128) → (∀ p ∈ xs, klt l p.1 = true) → mayI l xs = true
  | l, [], _, _, _, _ => rfl
  | l, p :: r, h1, h2, h3, h4 => by
    obtain ⟨b1, b2⟩ := List.pairwise_cons.1 h1
    simp only [mayI, Bool.and_eq_true]
    exact ⟨h4 p (by simp), h2 p (by simp), by simpa [mayV] using h3 p (by simp), rise_mayI b2 (fun q hq => h2 q (List.mem_cons_of_mem _ hq)) (fun q hq => h3 q (List.mem_cons_of_mem _ hq)) b1⟩
theorem mayI_own {xs : List It} (h1 : Rise xs) (h2 : Keys xs) (h3 : ∀ p ∈ xs, p.2.size ≤ 128) : mayI ByteArray.empty xs = true :=
  rise_mayI h1 h2 h3 fun p hp => empty_klt (by
    have := h2 p hp
    simp [mayK] at this
    omega)
theorem mayI_at {l : ByteArray} {xs : List It} {j : Nat} {p : It} (h : xs[j]? = some p) : mayI l (xs.drop j) = (klt l p.1 && (mayK p.1 && (mayV p.2 && mayI p.1 (xs.drop (j + 1))))) := by
  obtain ⟨hl, e⟩ := List.getElem?_eq_some_iff.1 h
  rw [List.drop_eq_getElem_cons hl, e]
  rfl
open Go.RowKit
set_option maxRecDepth 100000

set_option maxHeartbeats 4000000 in
theorem mayItems_any (A : Option Addr) (c : Nat) (xs : List It) (w : World) (h : Its w A xs) (hn : xs.length ≤ 1000) :
    Calls Tryd.prog 37 #[.slice A xs.length c] w fun E w' => E = .returned (.bool (mayI ByteArray.empty xs)) ∧ Below w.heap.size w w' := by
  have HX := Lib.hid h
  obtain ⟨n, hnn⟩ : ∃ n, n = xs.length := ⟨_, rfl⟩
  have HL := Lib.hid hnn
  have HB0 := Lib.hid (Below.refl w.heap.size w)
  obtain ⟨z, hz⟩ : ∃ z, z = mayI ByteArray.empty xs := ⟨_, rfl⟩
  have HZ := Lib.hid hz
  rw [← hz]
  rw [← hnn] at hn ⊢
  clear h hnn hz
  have HK := Lib.hid mayK_any
  have HV := Lib.hid mayV_any
  go_enter Tryd.func37, Tryd.ntmps37
  go_wp2_with fail
  go_loopw [3, 8] (fun v3 v8 wr => ∃ (j : Nat) (l : ByteArray), j ≤ n ∧ v3 = .string l ∧ v8 = .int .i64 (j : Int) ∧ Hid (z = mayI l (xs.drop j) ∧ Below w.heap.size w wr)) (fun _ v8 _ => n - (intOf v8).toNat)
  case atStart => exact ⟨0, ⟨#[]⟩, by omega, rfl, rfl, Lib.hid ⟨HZ.out, HB0.out⟩⟩
  case round =>
    obtain ⟨j, l, hj, rfl, rfl, HR⟩ := hrel
    by_cases hjj : j < n
    · obtain ⟨b, o, rfl, hbl, hc⟩ := HX.out (by rw [← HL.out]; omega)
      obtain ⟨p, hp⟩ : ∃ p, xs[j]? = some p := ⟨_, List.getElem?_eq_getElem (by rw [← HL.out]; exact hjj)⟩
      have c0 : wr.cell? ⟨b, o + j * 2, none⟩ = some (.string p.1) := (HR.out.2.cell (p := ⟨b, o + j * 2, none⟩) hbl).trans (hc j p hp).1
      have c1 : wr.cell? ⟨b, o + j * 2 + 1, none⟩ = some (.string p.2) := (HR.out.2.cell (p := ⟨b, o + j * 2 + 1, none⟩) hbl).trans (hc j p hp).2
      have HM : Hid (z = (klt l p.1 && (mayK p.1 && (mayV p.2 && mayI p.1 (xs.drop (j + 1)))))) := Lib.hid (by rw [HR.out.1, mayI_at hp])
      have HB := Lib.hid HR.out.2
      clear hc hp HR
      cases hk : klt l p.1 with
      | false =>
        have HF : Hid (z = false) := Lib.hid (by rw [HM.out, hk]; rfl)
        cases hbl2 : Op.bytesLess p.1.toList l.toList with
        | true =>
          clear hk
          go_wp2_with fail
          go_ret
          exact ⟨ret_bool HF.out.symm, HB.out.alloc (HB.out.size) _⟩
        | false =>
          have he : (p.1.toList == l.toList) = true := by
            have := klt_total hbl2 hk
            rw [this]; simp
          clear hk
          go_wp2_with fail
          go_ret
          exact ⟨ret_bool HF.out.symm, HB.out.alloc (HB.out.size) _⟩
      | true =>
        have hbl2 : Op.bytesLess p.1.toList l.toList = false := klt_asymm (a := l) (b := p.1) hk
        have he : (p.1.toList == l.toList) = false := by
          cases e : p.1.toList == l.toList with
          | false => rfl
          | true =>
            have : p.1 = l := toList_inj (by simpa using e)
            rw [this, klt_irrefl] at hk; cases hk
        have HM2 : Hid (z = (mayK p.1 && (mayV p.2 && mayI p.1 (xs.drop (j + 1))))) := Lib.hid (by rw [HM.out, hk]; rfl)
        obtain ⟨q, hq⟩ : ∃ q, q = mayK p.1 := ⟨_, rfl⟩
        have HQ := Lib.hid hq
        obtain ⟨v, hv⟩ : ∃ v, v = mayV p.2 := ⟨_, rfl⟩
        have HVq := Lib.hid hv
        have HK1 : Hid (∀ W, Calls Tryd.prog 44 #[.string p.1] W fun E w' => E = .returned (.bool q) ∧ W = w') := Lib.hid (by rw [hq]; exact HK.out p.1)
        have HV1 : Hid (∀ W, Calls Tryd.prog 45 #[.string p.2] W fun E w' => E = .returned (.bool v) ∧ W = w') := Lib.hid (by rw [hv]; exact HV.out p.2)
        have HB2 : Hid (Below w.heap.size w (wr.alloc (.cells #[.string p.1, .string p.2] 81))) := Lib.hid (HB.out.alloc (HB.out.size) _)
        clear hk hq hv HM HB
        cases q with
        | false =>
          have HF : Hid (z = false) := Lib.hid (by rw [HM2.out, ← HQ.out]; rfl)
          go_wp2_with (go_at_call 44; refine (HK1.out _).mono ?_; rintro E w1 ⟨rfl, rfl⟩)
          go_ret
          exact ⟨ret_bool HF.out.symm, HB2.out⟩
        | true =>
          cases v with
          | false =>
            have HF : Hid (z = false) := Lib.hid (by rw [HM2.out, ← HQ.out, ← HVq.out]; rfl)
            go_wp2_with (first | (go_at_call 44; refine (HK1.out _).mono ?_; rintro E w1 ⟨rfl, rfl⟩) | (go_at_call 45; refine (HV1.out _).mono ?_; rintro E w1 ⟨rfl, rfl⟩))
            go_ret
            exact ⟨ret_bool HF.out.symm, HB2.out⟩
          | true =>
            have HF : Hid (z = mayI p.1 (xs.drop (j + 1))) := Lib.hid (by rw [HM2.out, ← HQ.out, ← HVq.out]; rfl)
            go_wp2_with (first | (go_at_call 44; refine (HK1.out _).mono ?_; rintro E w1 ⟨rfl, rfl⟩) | (go_at_call 45; refine (HV1.out _).mono ?_; rintro E w1 ⟨rfl, rfl⟩))
            go_roundw
            case measure => simp [intOf] <;> omega
            case rel => exact ⟨j + 1, p.1, by omega, rfl, by go_num, Lib.hid ⟨HF.out, HB2.out⟩⟩
    · obtain rfl : j = n := by omega
      have HT : Hid (z = true) := Lib.hid (by rw [HR.out.1, List.drop_of_length_le (by rw [← HL.out]; exact Nat.le_refl _)]; rfl)
      go_wp2_with fail
      go_ret
      exact ⟨ret_bool HT.out.symm, HR.out.2⟩
open Go.RowKit
set_option maxRecDepth 100000

def OfP (w : World) (xs : List It) (E : Ending) (w' : World) : Prop :=
  Below w.heap.size w w' ∧ if mayI ByteArray.empty xs = true then (if xs.length ≤ 64 then ∃ g r c, E = .returned (.tuple #[.pointer (some ⟨g, 0, none⟩), .int .i64 0]) ∧ Sys w' g r c xs ∧ ∀ k, On g r k → w.heap.size ≤ k
    else E = .returned (.tuple #[.pointer none, .int .i64 6])) else E = .returned (.tuple #[.pointer none, .int .i64 1])
theorem sys_of {w W : World} (hv : Vars w) {xs : List It} (hm : mayI ByteArray.empty xs = true) (hl : xs.length ≤ 64) (hb : Below w.heap.size w W) {r : Option Nat} {c : Nat} (hr : Rw W r c xs) (hg : ∀ b, r = some b → w.heap.size ≤ b) :
    Sys (W.alloc (.cells #[.slice (slA r) xs.length c] 73)) W.heap.size r c xs ∧ ∀ k, On W.heap.size r k → w.heap.size ≤ k := by
  have hb2 : Below W.heap.size W (W.alloc (.cells #[.slice (slA r) xs.length c] 73)) := (Below.refl _ _).alloc (Nat.le_refl _) _
  have hlow := hv.low
  have hon : ∀ k, On W.heap.size r k → w.heap.size ≤ k := by
    rintro k (rfl | hk)
    · exact hb.size
    · exact hg k hk
  obtain ⟨h1, _, h3, _⟩ := mayI_rise hm
  refine ⟨⟨⟨heap_alloc_new W _, hr.kept fun b e => hb2.block b (by rw [e] at hr; exact hr.lt)⟩, (hv.below hb).below hb2, fun k hk => Nat.le_trans hlow (hon k hk), h1, hl, h3⟩, hon⟩
set_option maxHeartbeats 4000000 in
theorem of_any {w : World} (hv : Vars w) {r : Option Nat} {c : Nat} {xs : List It} (h : Rw w r c xs) (hn : xs.length ≤ 1000) :
    Calls Tryd.prog 23 #[.slice (slA r) xs.length c] w fun E w' => OfP w xs E w' := by
  have HM := Lib.hid (mayItems_any (slA r) c xs w h.its hn)
  have HR := Lib.hid h
  have HV := Lib.hid hv
  obtain ⟨z, hz⟩ : ∃ z, z = mayI ByteArray.empty xs := ⟨_, rfl⟩
  have HZ := Lib.hid hz
  rw [← hz] at HM
  have HF : Hid (∀ E W, Below w.heap.size w W → (z = true → xs.length ≤ 64 → ∃ g r c, E = .returned (.tuple #[.pointer (some ⟨g, 0, none⟩), .int .i64 0]) ∧ Sys W g r c xs ∧ ∀ k, On g r k → w.heap.size ≤ k) → (z = true → ¬ xs.length ≤ 64 → E = .returned (.tuple #[.pointer none, .int .i64 6])) → (z = false → E = .returned (.tuple #[.pointer none, .int .i64 1])) → OfP w xs E W) := Lib.hid fun E W hb h1 h2 h3 => by
    refine ⟨hb, ?_⟩
    rw [← hz]
    cases z with
    | false => exact h3 rfl
    | true =>
      rw [if_pos rfl]
      by_cases hl : xs.length ≤ 64
      · rw [if_pos hl]; exact h1 rfl hl
      · rw [if_neg hl]; exact h2 rfl hl
  have HN := Lib.hid hn
  obtain ⟨A, hA⟩ : ∃ A, A = slA r := ⟨_, rfl⟩
  have HA := Lib.hid hA
  rw [← hA] at HM ⊢
  obtain ⟨n, hnn⟩ : ∃ n, n = xs.length := ⟨_, rfl⟩
  have HL := Lib.hid hnn
  rw [← hnn] at HM hn ⊢
  clear h hv hz hA hnn
  go_enter Tryd.func23, Tryd.ntmps23
  go_wp2_with (go_at_call 37; refine HM.out.mono ?_)
  rintro E w1 ⟨rfl, b1⟩
  have HB1 := Lib.hid b1
  clear b1 HM
  cases z with
  | false =>
    go_wp2_with fail
    go_ret2
    exact HF.out _ _ HB1.out (fun h => by cases h) (fun h => by cases h) fun _ => rfl
  | true =>
    by_cases hl : n ≤ 64
    · have h1 : ¬ ((n : Int) > 64) := by omega
      have h2 : ¬ (64 < (n : Int)) := by omega
      have h3 : (n : Int) ≤ 64 := by omega
      have HC : Hid (Calls Tryd.prog 38 #[.slice A n c] w1 fun E w' => ListP w1 xs E w') := Lib.hid (by
        rw [HA.out, HL.out]
        exact clone_rw (HR.out.kept fun b e => HB1.out.block b (by have := HR.out; rw [e] at this; exact this.lt)) HN.out)
      go_wp2_with (go_at_call 38; refine HC.out.mono ?_)
      rintro E w2 ⟨r2, c2, rfl, hR2, hg2, b2⟩
      have HB2 := Lib.hid (HB1.out.trans (b2.mono HB1.out.size))
      have HS := Lib.hid (sys_of HV.out HZ.out.symm (by rw [← HL.out]; exact hl) HB2.out hR2 (fun b e => Nat.le_trans HB1.out.size (hg2 b e)))
      clear hR2 hg2 b2 HC
      go_wp2_with fail
      go_ret2
      exact HF.out _ _ (HB2.out.alloc HB2.out.size _) (fun _ _ => ⟨_, _, _, rfl, HS.out.1, HS.out.2⟩) (fun _ h => absurd (by rw [← HL.out]; exact hl) h) (fun h => by cases h)
    · have h1 : ((n : Int) > 64) := by omega
      have h2 : (64 < (n : Int)) := by omega
      go_wp2_with fail
      go_ret2
      exact HF.out _ _ HB1.out (fun _ h => absurd (by rw [HL.out]; exact h) hl) (fun _ _ => rfl) (fun h => by cases h)
open Go.RowKit
set_option maxRecDepth 100000

structure Duo (w : World) (g : Nat) (r : Option Nat) (c : Nat) (xs : List It) (g2 : Nat) (r2 : Option Nat) (c2 : Nat) (ys : List It) (W : World) : Prop where
  s1 : Sys W g r c xs
  s2 : Sys W g2 r2 c2 ys
  bel : Below w.heap.size w W
  own1 : ∀ k, On g r k → w.heap.size ≤ k
  own2 : ∀ k, On g2 r2 k → w.heap.size ≤ k
  apart : ∀ k, On g r k → ¬ On g2 r2 k
theorem Duo.swap {w : World} {g : Nat} {r : Option Nat} {c : Nat} {xs : List It} {g2 : Nat} {r2 : Option Nat} {c2 : Nat} {ys : List It} {W : World} (H : Duo w g r c xs g2 r2 c2 ys W) : Duo w g2 r2 c2 ys g r c xs W :=
  ⟨H.s2, H.s1, H.bel, H.own2, H.own1, fun k h1 h2 => H.apart k h2 h1⟩
theorem Duo.below {w : World} {g : Nat} {r : Option Nat} {c : Nat} {xs : List It} {g2 : Nat} {r2 : Option Nat} {c2 : Nat} {ys : List It} {W W' : World} (H : Duo w g r c xs g2 r2 c2 ys W) (hb : Below W.heap.size W W') : Duo w g r c xs g2 r2 c2 ys W' :=
  ⟨H.s1.below hb, H.s2.below hb, H.bel.trans (hb.mono H.bel.size), H.own1, H.own2, H.apart⟩
theorem Duo.do1 {w : World} {g : Nat} {r : Option Nat} {c : Nat} {xs : List It} {g2 : Nat} {r2 : Option Nat} {c2 : Nat} {ys : List It} {W : World} (H : Duo w g r c xs g2 r2 c2 ys W) (o : MOp) :
    Calls Tryd.prog 28 #[.pointer (some ⟨g, 0, none⟩), .agg (opC o).toArray] W fun E w' => E = .returned (.agg (repC (doR xs o).1).toArray) ∧ ∃ r' c', Duo w g r' c' (doR xs o).2 g2 r2 c2 ys w' :=
  (do_any H.s1 o).mono fun _ W' ⟨he, r', c', hs, ho⟩ => ⟨he, r', c', hs, ⟨H.s2.led.kept fun k hk => ho.1.block k (H.s2.led.on_lt k hk) fun h => H.apart k h hk, hs.vars, H.s2.low, H.s2.rise, H.s2.len, H.s2.small⟩,
    H.bel.trans (ho.1.below H.bel.size H.own1), fun k hk => by
      rcases ho.2 k hk with e | e
      · exact H.own1 k e
      · exact Nat.le_trans H.bel.size e, H.own2, fun k hk h2 => by
      rcases ho.2 k hk with e | e
      · exact H.apart k e h2
      · have := H.s2.led.on_lt k h2
        omega⟩
theorem Duo.do2 {w : World} {g : Nat} {r : Option Nat} {c : Nat} {xs : List It} {g2 : Nat} {r2 : Option Nat} {c2 : Nat} {ys : List It} {W : World} (H : Duo w g r c xs g2 r2 c2 ys W) (o : MOp) :
    Calls Tryd.prog 28 #[.pointer (some ⟨g2, 0, none⟩), .agg (opC o).toArray] W fun E w' => E = .returned (.agg (repC (doR ys o).1).toArray) ∧ ∃ r' c', Duo w g r c xs g2 r' c' (doR ys o).2 w' :=
  (H.swap.do1 o).mono fun _ _ ⟨he, r', c', h⟩ => ⟨he, r', c', h.swap⟩
theorem Ke.drop {w : World} {g : Nat} {bs : List (Nat × Obj)} {rows : List Row3} {W : World} {r : Option Nat} {c : Nat} {xs : List It} (H : Ke w g bs rows W r c xs) : Ke w g [] [] W r c xs :=
  ⟨H.sys, H.bel, H.own, (by intro p hp; cases hp), (by intro p hp; cases hp)⟩
theorem ke_start {w W W' : World} {g : Nat} (hb : Below w.heap.size w W) (hs : Sys W' g none 0 []) (hg : W.heap.size ≤ g) (hb' : Below W.heap.size W W') : Ke w g [] [] W' none 0 [] := by
  refine ⟨hs, hb.trans (hb'.mono hb.size), ?_, (by intro p hp; cases hp), (by intro p hp; cases hp)⟩
  rintro k (rfl | hk)
  · exact Nat.le_trans hb.size hg
  · cases hk
theorem Ke.duo {w : World} {g : Nat} {bs : List (Nat × Obj)} {rows : List Row3} {W W' : World} {r : Option Nat} {c : Nat} {xs : List It} (H : Ke w g bs rows W r c xs) {g2 : Nat} {r2 : Option Nat} {c2 : Nat} {ys : List It} (hb : Below W.heap.size W W') (hs : Sys W' g2 r2 c2 ys) (ho : ∀ k, On g2 r2 k → W.heap.size ≤ k) : Duo w g r c xs g2 r2 c2 ys W' :=
  ⟨H.sys.below hb, hs, H.bel.trans (hb.mono H.bel.size), H.own, fun k hk => Nat.le_trans H.bel.size (ho k hk), fun k h1 h2 => by
    have h3 := H.sys.led.on_lt k h1
    have h4 := ho k h2
    omega⟩
end Go.Proofs.YtpageppjngbnpaaDoor
