/-
  What is proved: New, List, and the chapter's example. Conditions as stated.
-/
import Derived.Test.YtflenghnmflenaaDoorLr
import Derived.Test.YtflenghnmflenaaDoorLs
namespace Go.Proofs.YtflenghnmflenaaDoor
open Go.RowKit
set_option maxRecDepth 100000

theorem rw_of_own {w : World} {B : Nat} {v : Value} {xs : List It} (h : w.ownsRow B 64 2 v xs.length (itC xs)) : ∃ r c, v = .slice (slA r) xs.length c ∧ Rw w r c xs ∧ ∀ b, r = some b → B ≤ b := by
  obtain ⟨_, h⟩ := h
  rcases h with ⟨rfl, hn⟩ | ⟨b, cap, cur, rfl, hB, hb, hn, hc, hs, ht⟩
  · obtain rfl : xs = [] := List.eq_nil_of_length_eq_zero hn
    exact ⟨none, 0, rfl, ⟨rfl, rfl⟩, fun b e => by cases e⟩
  · refine ⟨some b, cap, rfl, Rw.of_blk (C := cur.toList) (show w.heap[b]? = _ by simpa using hb) (by simpa using hs) hn (by unfold maxLen at hc; omega) ht, fun b' e => ?_⟩
    injection e with e
    rw [← e]
    exact hB
def ListP (w : World) (xs : List It) (E : Ending) (w' : World) : Prop := ∃ r c, E = .returned (.slice (slA r) xs.length c) ∧ Rw w' r c xs ∧ (∀ b, r = some b → w.heap.size ≤ b) ∧ Below w.heap.size w w'
set_option maxHeartbeats 2000000 in
theorem clone_some {w : World} {b o c : Nat} {xs : List It} (hl : xs.length ≤ 1000) (hx : ∀ j u, (itC xs)[j]? = some u → w.cell? ⟨b, o + j, none⟩ = some u) :
    Calls Tryd.prog 29 #[.slice (some ⟨b, o, none⟩) xs.length c] w fun E w' => ListP w xs E w' := by
  obtain ⟨i0, hi0, hz0, hzs, hzb⟩ := info_parts Tryd.info64
  have q22 : ∀ (w : World) (a : Option Addr) (n c n' c' : Nat), (binOp .eql 43 (.slice a n c) (.slice none n' c')).run Tryd.prog w = .ok (.bool a.isNone) w := fun w a n c n' c' => Lib.run_eql_slice_nil w _ _ a n c n' c' Tryd.underlying43
  have H1 : Hid (∀ j u, (itC xs)[j]? = some u → (w.alloc (.cells #[] 64)).cell? ((⟨b, o, none⟩ : Addr).add j) = some u) := Lib.hid fun j u hj => by
    rw [Addr.add_lit]
    exact Lib.cell?_alloc_some _ (hx j u hj)
  have H2 := Lib.hid (itC_length xs)
  have H3 := Lib.hid (itC_one xs)
  have HF : Hid (∀ v' w', w'.ownsRow w.heap.size 64 2 v' (0 + xs.length) ([] ++ itC xs) → (w.alloc (.cells #[] 64)).grownBy w' (some w.heap.size) → ListP w xs (.returned v') w') := Lib.hid fun v' w' h g => by
    rw [Nat.zero_add, List.nil_append] at h
    obtain ⟨r, c, rfl, hr, hb⟩ := rw_of_own h
    exact ⟨r, c, rfl, hr, hb, ((Below.refl _ w).alloc (Nat.le_refl _) _).grown g (by simp) (by intro k hk; injection hk with hk; omega)⟩
  obtain ⟨n, hn⟩ : ∃ n, n = xs.length := ⟨_, rfl⟩
  rw [← hn] at H2 HF hl ⊢
  clear hx hn
  go_enter Tryd.func29, Tryd.ntmps29
  go_wp2_with (at_builtin; refine wpList_append_own _ rfl _ _ 43 rfl w.heap.size 64 i0 _ 2 32 Tryd.underlying43 hi0 hz0 hzs hzb (by simp [Value.cells]) (by omega) _ 0 [] rfl (World.ownsRow_made w #[] 0 (Nat.le_refl _) (Nat.zero_le _) (by simp)) ⟨b, o, none⟩ n c (itC xs) rfl H2.out H1.out H3.out (by unfold maxLen; omega) (by omega) (by simp) ?_; intro v' w1 hown hgrow hnil)
  go_ret
  exact HF.out _ _ hown hgrow
theorem clone_nil (n c : Nat) (w : World) : Calls Tryd.prog 29 #[.slice none n c] w fun E w' => E = .returned (.slice none 0 0) ∧ w = w' := by
  have q22 : ∀ (w : World) (a : Option Addr) (n c n' c' : Nat), (binOp .eql 43 (.slice a n c) (.slice none n' c')).run Tryd.prog w = .ok (.bool a.isNone) w := fun w a n c n' c' => Lib.run_eql_slice_nil w _ _ a n c n' c' Tryd.underlying43
  go_enter Tryd.func29, Tryd.ntmps29
  go_wp2_with fail
  go_ret
  exact ⟨rfl, rfl⟩
theorem clone_rw {w : World} {r : Option Nat} {c : Nat} {xs : List It} (h : Rw w r c xs) (hl : xs.length ≤ 1000) : Calls Tryd.prog 29 #[.slice (slA r) xs.length c] w fun E w' => ListP w xs E w' := by
  cases r with
  | none =>
    refine (clone_nil _ _ w).mono ?_
    rintro E w' ⟨rfl, rfl⟩
    rw [h.2]
    exact ⟨none, 0, rfl, ⟨rfl, rfl⟩, fun b e => (by cases e), Below.refl _ _⟩
  | some b =>
    obtain ⟨R, hB, _⟩ := h.blk
    exact clone_some hl fun j u hj => by
      rw [Nat.zero_add]
      exact hB.cell (by rw [List.getElem?_append_left (List.getElem?_eq_some_iff.1 hj).1]; exact hj)
theorem list_any {w : World} {g : Nat} {r : Option Nat} {c : Nat} {xs : List It} (h : Led w g r c xs) (hl : xs.length ≤ 1000) : Calls Tryd.prog 20 #[.pointer (some ⟨g, 0, none⟩)] w fun E w' => ListP w xs E w' := by
  have HC := Lib.hid (clone_rw h.row hl)
  have c0 := h.cell
  clear h
  go_enter Tryd.func20, Tryd.ntmps20
  go_wp2_with (go_at_call 29; refine HC.out.mono ?_; rintro E w' ⟨r', c', rfl, hp⟩)
  go_ret
  exact ⟨r', c', rfl, hp⟩
theorem list_nil (w : World) : Calls Tryd.prog 20 #[.pointer none] w fun E w' => E = .returned (.slice none 0 0) ∧ w = w' := by
  go_enter Tryd.func20, Tryd.ntmps20
  go_wp2_with fail
  go_ret
  exact ⟨rfl, rfl⟩
theorem new_any {w : World} (hv : Vars w) : Calls Tryd.prog 13 #[] w fun E w' => E = .returned (.pointer (some ⟨w.heap.size, 0, none⟩)) ∧ Sys w' w.heap.size none 0 [] ∧ Below w.heap.size w w' := by
  have HF : Hid (Sys (w.alloc (.cells #[.slice none 0 0] 75)) w.heap.size none 0 [] ∧ Below w.heap.size w (w.alloc (.cells #[.slice none 0 0] 75))) := by
    have hb : Below w.heap.size w (w.alloc (.cells #[.slice none 0 0] 75)) := (Below.refl _ _).alloc (Nat.le_refl _) _
    have hlow := hv.low
    exact ⟨⟨⟨heap_alloc_new w _, rfl, rfl⟩, hv.below hb, (by rintro k (rfl | hk); exact hlow; cases hk), List.Pairwise.nil, Nat.zero_le _, (by intro p hp; cases hp)⟩, hb⟩
  go_enter Tryd.func13, Tryd.ntmps13
  go_wp2_with fail
  go_ret
  exact ⟨rfl, HF.out⟩

theorem Sys.apart {W : World} {g : Nat} {r : Option Nat} {c : Nat} {ys : List It} (H : Sys W g r c ys) {k : Nat} {C : Array Value} {t : TypeId} (hk : W.heap[k]? = some (.cells C t (0, 0))) (h1 : t ≠ 75) (h2 : t ≠ 64) : ¬ On g r k := by
  rintro (rfl | rfl)
  · have e := H.led.top.symm.trans hk
    injection e with e
    injection e with e1 e2
    exact h1 e2.symm
  · obtain ⟨R, hB, _⟩ := H.led.row.blk
    have e := (show W.heap[k]? = _ from hB).symm.trans hk
    injection e with e
    injection e with e1 e2
    exact h2 e2.symm
theorem Sys.below {W W' : World} {g : Nat} {r : Option Nat} {c : Nat} {ys : List It} (H : Sys W g r c ys) (hb : Below W.heap.size W W') : Sys W' g r c ys :=
  ⟨H.led.below hb, H.vars.below hb, H.low, H.rise, H.len, H.small⟩
/-- While the chapter's example is gone through: the ledger, and the replies that are kept. -/
structure Wk (w : World) (g : Nat) (bs : List (Nat × Rep)) (W : World) (r : Option Nat) (c : Nat) (xs : List It) : Prop where
  sys : Sys W g r c xs
  bel : Below w.heap.size w W
  own : ∀ k, On g r k → w.heap.size ≤ k
  reps : ∀ p ∈ bs, W.heap[p.1]? = some (.cells (repC p.2).toArray 32 (0, 0))
theorem Wk.next {w : World} {g : Nat} {bs : List (Nat × Rep)} {W : World} {r : Option Nat} {c : Nat} {xs : List It} (H : Wk w g bs W r c xs) {o : MOp} {E : Ending} {W' : World} (h : DoP W g r xs o E W') {q : Rep} {ys : List It} (hq : doR xs o = (q, ys)) : E = .returned (.agg (repC q).toArray) ∧ ∃ r' c', Wk w g bs W' r' c' ys := by
  obtain ⟨he, r', c', hs, ho⟩ := h
  rw [hq] at he hs
  refine ⟨he, r', c', hs, ?_, fun k hk => ?_, fun p hp => ?_⟩
  · exact H.bel.trans (ho.1.below H.bel.size H.own)
  · rcases ho.2 k hk with e | e
    · exact H.own k e
    · exact Nat.le_trans H.bel.size e
  · have h0 := H.reps p hp
    exact (ho.1.block _ (Array.getElem?_eq_some_iff.1 h0).1 (H.sys.apart h0 (by decide) (by decide))).trans h0
theorem Wk.box {w : World} {g : Nat} {bs : List (Nat × Rep)} {W : World} {r : Option Nat} {c : Nat} {xs : List It} (H : Wk w g bs W r c xs) (q : Rep) : Wk w g ((W.heap.size, q) :: bs) (W.alloc (.cells (repC q).toArray 32)) r c xs := by
  have hb : Below W.heap.size W (W.alloc (.cells (repC q).toArray 32)) := (Below.refl _ _).alloc (Nat.le_refl _) _
  refine ⟨H.sys.below hb, H.bel.trans (hb.mono H.bel.size), H.own, fun p hp => ?_⟩
  rcases List.mem_cons.1 hp with rfl | hp
  · exact heap_alloc_new W _
  · have h0 := H.reps p hp
    exact (hb.block _ (Array.getElem?_eq_some_iff.1 h0).1).trans h0
theorem Wk.bel' {w : World} {g : Nat} {bs : List (Nat × Rep)} {W W' : World} {r : Option Nat} {c : Nat} {xs : List It} (H : Wk w g bs W r c xs) (hb : Below W.heap.size W W') : Wk w g bs W' r c xs :=
  ⟨H.sys.below hb, H.bel.trans (hb.mono H.bel.size), H.own, fun p hp => (hb.block _ (Array.getElem?_eq_some_iff.1 (H.reps p hp)).1).trans (H.reps p hp)⟩
theorem Wk.do {w : World} {g : Nat} {bs : List (Nat × Rep)} {W : World} {r : Option Nat} {c : Nat} {xs : List It} (H : Wk w g bs W r c xs) (o : MOp) (q : Rep) (ys : List It) (hq : doR xs o = (q, ys)) : Calls Tryd.prog 26 #[.pointer (some ⟨g, 0, none⟩), .agg (opC o).toArray] W fun E w' => E = .returned (.agg (repC q).toArray) ∧ ∃ r' c', Wk w g bs w' r' c' ys :=
  (do_any H.sys o).mono fun _ _ h => H.next h hq
end Go.Proofs.YtflenghnmflenaaDoor
