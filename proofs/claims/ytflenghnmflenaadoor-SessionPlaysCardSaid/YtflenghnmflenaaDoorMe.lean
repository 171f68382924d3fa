/-
  What is proved: what is kept while a law goes on: the ledger, rows that were listed, blocks; and what an operation does, on lists. Conditions as stated.
-/
import Derived.Test.YtflenghnmflenaaDoorMd
import Derived.Test.YtflenghnmflenaaDoorMc
import Derived.Test.YtflenghnmflenaaDoorLu
namespace Go.Proofs.YtflenghnmflenaaDoor
open Go.RowKit
set_option maxRecDepth 100000

abbrev Row3 := Option Nat × Nat × List It
/-- The ledger at g, rows that were listed, blocks that are kept: all of the call's own. -/
structure Ke (w : World) (g : Nat) (bs : List (Nat × Obj)) (rows : List Row3) (W : World) (r : Option Nat) (c : Nat) (xs : List It) : Prop where
  sys : Sys W g r c xs
  bel : Below w.heap.size w W
  own : ∀ k, On g r k → w.heap.size ≤ k
  keep : ∀ p ∈ bs, W.heap[p.1]? = some p.2 ∧ ¬ On g r p.1
  row : ∀ q ∈ rows, Rw W q.1 q.2.1 q.2.2 ∧ ∀ b, q.1 = some b → ¬ On g r b ∧ w.heap.size ≤ b
theorem Ke.next {w : World} {g : Nat} {bs : List (Nat × Obj)} {rows : List Row3} {W W' : World} {r r' : Option Nat} {c c' : Nat} {xs ys : List It} (H : Ke w g bs rows W r c xs) (hs : Sys W' g r' c' ys) (ho : Own W (On g r) W' (On g r')) : Ke w g bs rows W' r' c' ys := by
  have hon : ∀ k, k < W.heap.size → ¬ On g r k → ¬ On g r' k := fun k hk hn h => by
    rcases ho.2 k h with e | e
    · exact hn e
    · omega
  refine ⟨hs, H.bel.trans (ho.1.below H.bel.size H.own), fun k hk => ?_, fun p hp => ?_, fun q hq => ?_⟩
  · rcases ho.2 k hk with e | e
    · exact H.own k e
    · exact Nat.le_trans H.bel.size e
  · obtain ⟨h1, h2⟩ := H.keep p hp
    have hl := (Array.getElem?_eq_some_iff.1 h1).1
    exact ⟨(ho.1.block _ hl h2).trans h1, hon _ hl h2⟩
  · obtain ⟨h1, h2⟩ := H.row q hq
    refine ⟨h1.kept fun b e => ho.1.block b ?_ (h2 b e).1, fun b e => ⟨hon b ?_ (h2 b e).1, (h2 b e).2⟩⟩
    · rw [e] at h1; exact h1.lt
    · rw [e] at h1; exact h1.lt
theorem Ke.below {w : World} {g : Nat} {bs : List (Nat × Obj)} {rows : List Row3} {W W' : World} {r : Option Nat} {c : Nat} {xs : List It} (H : Ke w g bs rows W r c xs) (hb : Below W.heap.size W W') : Ke w g bs rows W' r c xs :=
  H.next (H.sys.below hb) (Own.same (Turns.of_below hb))
theorem Ke.do {w : World} {g : Nat} {bs : List (Nat × Obj)} {rows : List Row3} {W : World} {r : Option Nat} {c : Nat} {xs : List It} (H : Ke w g bs rows W r c xs) (o : MOp) : Calls Tryd.prog 26 #[.pointer (some ⟨g, 0, none⟩), .agg (opC o).toArray] W fun E w' => E = .returned (.agg (repC (doR xs o).1).toArray) ∧ ∃ r' c', Ke w g bs rows w' r' c' (doR xs o).2 :=
  (do_any H.sys o).mono fun _ _ ⟨he, r', c', hs, ho⟩ => ⟨he, r', c', H.next hs ho⟩
theorem Ke.push {w : World} {g : Nat} {bs : List (Nat × Obj)} {rows : List Row3} {W W' : World} {r : Option Nat} {c : Nat} {xs ys : List It} {r1 : Option Nat} {c1 : Nat} (H : Ke w g bs rows W r c xs) (hr : Rw W' r1 c1 ys) (hg : ∀ b, r1 = some b → W.heap.size ≤ b) (hb : Below W.heap.size W W') : Ke w g bs ((r1, c1, ys) :: rows) W' r c xs := by
  have H' := H.below hb
  refine ⟨H'.sys, H'.bel, H'.own, H'.keep, fun q hq => ?_⟩
  rcases List.mem_cons.1 hq with rfl | hq
  · refine ⟨hr, fun b e => ⟨fun h => ?_, Nat.le_trans H.bel.size (hg b e)⟩⟩
    have h1 := H.sys.led.on_lt b h
    have h2 := hg b e
    omega
  · exact H'.row q hq
theorem Ke.box {w : World} {g : Nat} {bs : List (Nat × Obj)} {rows : List Row3} {W : World} {r : Option Nat} {c : Nat} {xs : List It} (H : Ke w g bs rows W r c xs) (o : Obj) : Ke w g ((W.heap.size, o) :: bs) rows (W.alloc o) r c xs := by
  have H' := H.below ((Below.refl W.heap.size W).alloc (Nat.le_refl _) o)
  refine ⟨H'.sys, H'.bel, H'.own, fun p hp => ?_, H'.row⟩
  rcases List.mem_cons.1 hp with rfl | hp
  · exact ⟨heap_alloc_new W o, fun h => by have := H.sys.led.on_lt _ h; omega⟩
  · exact H'.keep p hp
theorem Ke.drewN {w : World} {g : Nat} {bs : List (Nat × Obj)} {rows : List Row3} {W : World} {r : Option Nat} {c : Nat} {xs : List It} (H : Ke w g bs rows W r c xs) (q : Nat) : Ke w g bs rows (W.drewN q) r c xs :=
  H.below (below_drewN (Below.refl _ _) q)

/-! ### what an operation does -/
theorem rest_app (x y : List It) (a b : ByteArray) : rest (x ++ y) a b = rest x a b ++ rest y a b := List.filter_append ..
theorem rest_cons (p : It) (y : List It) (a b : ByteArray) (h : p.1 = a ∨ p.1 = b) : rest (p :: y) a b = rest y a b := by
  rw [rest, List.filter_cons]
  have : (decide (p.1 ≠ a) && decide (p.1 ≠ b)) = false := by rcases h with h | h <;> simp [h]
  rw [this]
  rfl
theorem rest_drop {xs : List It} {k a b : ByteArray} (hk : k = a ∨ k = b) (hh : hasK xs k = true) : rest (xs.drop (posOf xs k + 1)) a b = rest (xs.drop (posOf xs k)) a b := by
  obtain ⟨hl, e⟩ := List.getElem?_eq_some_iff.1 (mem_of_has hh)
  rw [List.drop_eq_getElem_cons hl, rest_cons _ _ _ _ (by rw [e]; exact hk)]
theorem rest_set (xs : List It) {k v a b : ByteArray} (hk : k = a ∨ k = b) : rest (setK xs k v) a b = rest xs a b := by
  rw [setK, rest_app, rest_cons _ _ _ _ hk]
  cases hh : hasK xs k with
  | true =>
    rw [if_pos rfl, rest_drop hk hh, ← rest_app, List.take_append_drop]
  | false => rw [if_neg (by simp), Nat.add_zero, ← rest_app, List.take_append_drop]
theorem rest_del {xs : List It} {k a b : ByteArray} (hk : k = a ∨ k = b) (hh : hasK xs k = true) : rest (delK xs k) a b = rest xs a b := by
  rw [delK, rest_app, rest_drop hk hh, ← rest_app, List.take_append_drop]
theorem rest_do (xs : List It) (o : MOp) : rest (doR xs o).2 o.key o.to = rest xs o.key o.to := by
  unfold doR putR delR swapR moveR
  repeat' split
  all_goals first
    | rfl
    | exact rest_set _ (.inl rfl)
    | exact rest_del (.inl rfl) ‹_›
    | exact (rest_set _ (.inr rfl)).trans (rest_set _ (.inl rfl))
theorem has_del {xs : List It} (h : Rise xs) {k : ByteArray} : hasK (delK xs k) k = false := by
  cases hx : hasK (delK xs k) k with
  | false => rfl
  | true =>
    exfalso
    have hm := (has_iff (rise_del h k)).2 ⟨hx, rfl⟩
    unfold delK at hm
    rcases List.mem_append.1 hm with hm | hm
    · obtain ⟨j, hj, e⟩ := List.getElem_of_mem hm
      rw [List.length_take] at hj
      rw [List.getElem_take] at e
      have := pos_below (xs := xs) (k := k) (by omega : j < posOf xs k) (List.getElem?_eq_getElem (by omega))
      rw [e] at this
      rw [klt_irrefl] at this
      cases this
    · obtain ⟨j, hj, e⟩ := List.getElem_of_mem hm
      rw [List.length_drop] at hj
      rw [List.getElem_drop] at e
      have hj2 : posOf xs k + 1 + j < xs.length := by omega
      have := (has_of_mem h (show xs[posOf xs k + 1 + j]? = some (k, _) by rw [List.getElem?_eq_getElem hj2, e])).1
      omega
end Go.Proofs.YtflenghnmflenaaDoor
