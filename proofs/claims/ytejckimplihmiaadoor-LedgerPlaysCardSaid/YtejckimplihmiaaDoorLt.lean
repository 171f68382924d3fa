/-
  What is proved: New, List, and the chapter's example. Conditions as stated.
-/
import Derived.Test.YtejckimplihmiaaDoorLr
import Derived.Test.YtejckimplihmiaaDoorLs
namespace Go.Proofs.YtejckimplihmiaaDoor
open Go.RowKit
set_option maxRecDepth 100000

theorem rw_of_own {w : World} {B : Nat} {v : Value} {xs : List It} (h : w.ownsRow B 27 2 v xs.length (itC xs)) : ∃ r c, v = .slice (slA r) xs.length c ∧ Rw w r c xs ∧ ∀ b, r = some b → B ≤ b := by
  obtain ⟨_, h⟩ := h
  rcases h with ⟨rfl, hn⟩ | ⟨b, cap, cur, rfl, hB, hb, hn, hc, hs, ht⟩
  · obtain rfl : xs = [] := List.eq_nil_of_length_eq_zero hn
    exact ⟨none, 0, rfl, ⟨rfl, rfl⟩, fun b e => by cases e⟩
  · refine ⟨some b, cap, rfl, Rw.of_blk (C := cur.toList) (show w.heap[b]? = _ by simpa using hb) (by simpa using hs) hn (by unfold maxLen at hc; omega) ht, fun b' e => ?_⟩
    injection e with e
    rw [← e]
    exact hB
def ListP (w : World) (xs : List It) (E : Ending) (w' : World) : Prop := ∃ r c, E = .returned (.slice (slA r) xs.length c) ∧ Rw w' r c xs ∧ (∀ b, r = some b → w.heap.size ≤ b) ∧ Below w.heap.size w w'
set_option maxHeartbeats 2000000 in
theorem clone_some {w : World} {b o c : Nat} {xs : List It} (hl : xs.length ≤ 1000) (hx : ∀ j u, (itC xs)[j]? = some u → w.cell? ⟨b, o + j, none⟩ = some u) :
    Calls Tryd.prog 24 #[.slice (some ⟨b, o, none⟩) xs.length c] w fun E w' => ListP w xs E w' := by
  obtain ⟨i0, hi0, hz0, hzs, hzb⟩ := info_parts Tryd.info27
  have q22 : ∀ (w : World) (a : Option Addr) (n c n' c' : Nat), (binOp .eql 22 (.slice a n c) (.slice none n' c')).run Tryd.prog w = .ok (.bool a.isNone) w := fun w a n c n' c' => Lib.run_eql_slice_nil w _ _ a n c n' c' Tryd.underlying22
  have H1 : Hid (∀ j u, (itC xs)[j]? = some u → (w.alloc (.cells #[] 27)).cell? ((⟨b, o, none⟩ : Addr).add j) = some u) := Lib.hid fun j u hj => by
    rw [Addr.add_lit]
    exact Lib.cell?_alloc_some _ (hx j u hj)
  have H2 := Lib.hid (itC_length xs)
  have H3 := Lib.hid (itC_one xs)
  have HF : Hid (∀ v' w', w'.ownsRow w.heap.size 27 2 v' (0 + xs.length) ([] ++ itC xs) → (w.alloc (.cells #[] 27)).grownBy w' (some w.heap.size) → ListP w xs (.returned v') w') := Lib.hid fun v' w' h g => by
    rw [Nat.zero_add, List.nil_append] at h
    obtain ⟨r, c, rfl, hr, hb⟩ := rw_of_own h
    exact ⟨r, c, rfl, hr, hb, ((Below.refl _ w).alloc (Nat.le_refl _) _).grown g (by simp) (by intro k hk; injection hk with hk; omega)⟩
  obtain ⟨n, hn⟩ : ∃ n, n = xs.length := ⟨_, rfl⟩
  rw [← hn] at H2 HF hl ⊢
  clear hx hn
  go_enter Tryd.func24, Tryd.ntmps24
  go_wp2_with (at_builtin; refine wpList_append_own _ rfl _ _ 22 rfl w.heap.size 27 i0 _ 2 32 Tryd.underlying22 hi0 hz0 hzs hzb (by simp [Value.cells]) (by omega) _ 0 [] rfl (World.ownsRow_made w #[] 0 (Nat.le_refl _) (Nat.zero_le _) (by simp)) ⟨b, o, none⟩ n c (itC xs) rfl H2.out H1.out H3.out (by unfold maxLen; omega) (by omega) (by simp) ?_; intro v' w1 hown hgrow hnil)
  go_ret
  exact HF.out _ _ hown hgrow
theorem clone_nil (n c : Nat) (w : World) : Calls Tryd.prog 24 #[.slice none n c] w fun E w' => E = .returned (.slice none 0 0) ∧ w = w' := by
  have q22 : ∀ (w : World) (a : Option Addr) (n c n' c' : Nat), (binOp .eql 22 (.slice a n c) (.slice none n' c')).run Tryd.prog w = .ok (.bool a.isNone) w := fun w a n c n' c' => Lib.run_eql_slice_nil w _ _ a n c n' c' Tryd.underlying22
  go_enter Tryd.func24, Tryd.ntmps24
  go_wp2_with fail
  go_ret
  exact ⟨rfl, rfl⟩
theorem clone_rw {w : World} {r : Option Nat} {c : Nat} {xs : List It} (h : Rw w r c xs) (hl : xs.length ≤ 1000) : Calls Tryd.prog 24 #[.slice (slA r) xs.length c] w fun E w' => ListP w xs E w' := by
  cases r with
  | none =>
    refine (clone_nil _ _ w).mono ?_
    rintro E w' ⟨rfl, rfl⟩
    rw [h.2]
    exact ⟨none, 0, rfl, ⟨rfl, rfl⟩, fun b e => (by cases e), Below.refl _ _⟩
  | some b =>
    obtain ⟨R, hB, _⟩ := h.blk
    exact clone_some hl fun j u hj => by
      rw [Nat.zero_add]
      exact hB.cell (by rw [List.getElem?_append_left (List.getElem?_eq_some_iff.1 hj).1]; exact hj)
theorem list_any {w : World} {g : Nat} {r : Option Nat} {c : Nat} {xs : List It} (h : Led w g r c xs) (hl : xs.length ≤ 1000) : Calls Tryd.prog 18 #[.pointer (some ⟨g, 0, none⟩)] w fun E w' => ListP w xs E w' := by
  have HC := Lib.hid (clone_rw h.row hl)
  have c0 := h.cell
  clear h
  go_enter Tryd.func18, Tryd.ntmps18
  go_wp2_with (go_at_call 24; refine HC.out.mono ?_; rintro E w' ⟨r', c', rfl, hp⟩)
  go_ret
  exact ⟨r', c', rfl, hp⟩
theorem list_nil (w : World) : Calls Tryd.prog 18 #[.pointer none] w fun E w' => E = .returned (.slice none 0 0) ∧ w = w' := by
  go_enter Tryd.func18, Tryd.ntmps18
  go_wp2_with fail
  go_ret
  exact ⟨rfl, rfl⟩
theorem new_any {w : World} (hv : Vars w) : Calls Tryd.prog 12 #[] w fun E w' => E = .returned (.pointer (some ⟨w.heap.size, 0, none⟩)) ∧ Sys w' w.heap.size none 0 [] ∧ Below w.heap.size w w' := by
  have HF : Hid (Sys (w.alloc (.cells #[.slice none 0 0] 59)) w.heap.size none 0 [] ∧ Below w.heap.size w (w.alloc (.cells #[.slice none 0 0] 59))) := by
    have hb : Below w.heap.size w (w.alloc (.cells #[.slice none 0 0] 59)) := (Below.refl _ _).alloc (Nat.le_refl _) _
    have hlow := hv.low
    exact ⟨⟨⟨heap_alloc_new w _, rfl, rfl⟩, hv.below hb, (by rintro k (rfl | hk); exact hlow; cases hk), List.Pairwise.nil, Nat.zero_le _, (by intro p hp; cases hp)⟩, hb⟩
  go_enter Tryd.func12, Tryd.ntmps12
  go_wp2_with fail
  go_ret
  exact ⟨rfl, HF.out⟩

theorem Sys.apart {W : World} {g : Nat} {r : Option Nat} {c : Nat} {ys : List It} (H : Sys W g r c ys) {k : Nat} {C : Array Value} {t : TypeId} (hk : W.heap[k]? = some (.cells C t (0, 0))) (h1 : t ≠ 59) (h2 : t ≠ 27) : ¬ On g r k := by
  rintro (rfl | rfl)
  · have e := H.led.top.symm.trans hk
    injection e with e
    injection e with e1 e2
    exact h1 e2.symm
  · obtain ⟨R, hB, _⟩ := H.led.row.blk
    have e := (show W.heap[k]? = _ from hB).symm.trans hk
    injection e with e
    injection e with e1 e2
    exact h2 e2.symm
theorem Sys.below {W W' : World} {g : Nat} {r : Option Nat} {c : Nat} {ys : List It} (H : Sys W g r c ys) (hb : Below W.heap.size W W') : Sys W' g r c ys :=
  ⟨H.led.below hb, H.vars.below hb, H.low, H.rise, H.len, H.small⟩
/-- While the chapter's example is gone through: the ledger, and the replies that are kept. -/
structure Wk (w : World) (g : Nat) (bs : List (Nat × Rep)) (W : World) (r : Option Nat) (c : Nat) (xs : List It) : Prop where
  sys : Sys W g r c xs
  bel : Below w.heap.size w W
  own : ∀ k, On g r k → w.heap.size ≤ k
  reps : ∀ p ∈ bs, W.heap[p.1]? = some (.cells (repC p.2).toArray 43 (0, 0))
theorem Wk.next {w : World} {g : Nat} {bs : List (Nat × Rep)} {W : World} {r : Option Nat} {c : Nat} {xs : List It} (H : Wk w g bs W r c xs) {o : MOp} {E : Ending} {W' : World} (h : DoP W g r xs o E W') {q : Rep} {ys : List It} (hq : doR xs o = (q, ys)) : E = .returned (.agg (repC q).toArray) ∧ ∃ r' c', Wk w g bs W' r' c' ys := by
  obtain ⟨he, r', c', hs, ho⟩ := h
  rw [hq] at he hs
  refine ⟨he, r', c', hs, ?_, fun k hk => ?_, fun p hp => ?_⟩
  · exact H.bel.trans (ho.1.below H.bel.size H.own)
  · rcases ho.2 k hk with e | e
    · exact H.own k e
    · exact Nat.le_trans H.bel.size e
  · have h0 := H.reps p hp
    exact (ho.1.block _ (Array.getElem?_eq_some_iff.1 h0).1 (H.sys.apart h0 (by decide) (by decide))).trans h0
theorem Wk.box {w : World} {g : Nat} {bs : List (Nat × Rep)} {W : World} {r : Option Nat} {c : Nat} {xs : List It} (H : Wk w g bs W r c xs) (q : Rep) : Wk w g ((W.heap.size, q) :: bs) (W.alloc (.cells (repC q).toArray 43)) r c xs := by
  have hb : Below W.heap.size W (W.alloc (.cells (repC q).toArray 43)) := (Below.refl _ _).alloc (Nat.le_refl _) _
  refine ⟨H.sys.below hb, H.bel.trans (hb.mono H.bel.size), H.own, fun p hp => ?_⟩
  rcases List.mem_cons.1 hp with rfl | hp
  · exact heap_alloc_new W _
  · have h0 := H.reps p hp
    exact (hb.block _ (Array.getElem?_eq_some_iff.1 h0).1).trans h0
theorem Wk.bel' {w : World} {g : Nat} {bs : List (Nat × Rep)} {W W' : World} {r : Option Nat} {c : Nat} {xs : List It} (H : Wk w g bs W r c xs) (hb : Below W.heap.size W W') : Wk w g bs W' r c xs :=
  ⟨H.sys.below hb, H.bel.trans (hb.mono H.bel.size), H.own, fun p hp => (hb.block _ (Array.getElem?_eq_some_iff.1 (H.reps p hp)).1).trans (H.reps p hp)⟩
theorem Wk.do {w : World} {g : Nat} {bs : List (Nat × Rep)} {W : World} {r : Option Nat} {c : Nat} {xs : List It} (H : Wk w g bs W r c xs) (o : MOp) (q : Rep) (ys : List It) (hq : doR xs o = (q, ys)) : Calls Tryd.prog 15 #[.pointer (some ⟨g, 0, none⟩), .agg (opC o).toArray] W fun E w' => E = .returned (.agg (repC q).toArray) ∧ ∃ r' c', Wk w g bs w' r' c' ys :=
  (do_any H.sys o).mono fun _ _ h => H.next h hq
set_option maxHeartbeats 4000000 in
theorem works_any {w : World} (hv : Vars w) : Calls Tryd.prog 9 #[] w fun E w' => E = .returned (.bool true) ∧ Below w.heap.size w w' := by
  have HN := Lib.hid (new_any hv)
  clear hv
  have D1 : Hid (∀ bs W r c, Wk w w.heap.size bs W r c [] → Calls Tryd.prog 15 #[.pointer (some ⟨w.heap.size, 0, none⟩), .agg #[.int .u8 2, .string ⟨#[97]⟩, .string ⟨#[49, 48]⟩, .string ⟨#[]⟩, .string ⟨#[]⟩, .int .u64 0]] W fun E w' => E = .returned (.agg #[.int .i64 0, .string ⟨#[]⟩]) ∧ ∃ r' c', Wk w w.heap.size bs w' r' c' [(sA, s10)]) := Lib.hid fun bs W r c H => H.do o1 _ _ w1
  have D2 : Hid (∀ bs W r c, Wk w w.heap.size bs W r c [(sA, s10)] → Calls Tryd.prog 15 #[.pointer (some ⟨w.heap.size, 0, none⟩), .agg #[.int .u8 5, .string ⟨#[97]⟩, .string ⟨#[]⟩, .string ⟨#[]⟩, .string ⟨#[98]⟩, .int .u64 4]] W fun E w' => E = .returned (.agg #[.int .i64 0, .string ⟨#[54]⟩]) ∧ ∃ r' c', Wk w w.heap.size bs w' r' c' [(sA, s6), (sB, s4)]) := Lib.hid fun bs W r c H => H.do o2 _ _ w2
  have D3 : Hid (∀ bs W r c, Wk w w.heap.size bs W r c [(sA, s6), (sB, s4)] → Calls Tryd.prog 15 #[.pointer (some ⟨w.heap.size, 0, none⟩), .agg #[.int .u8 1, .string ⟨#[98]⟩, .string ⟨#[]⟩, .string ⟨#[]⟩, .string ⟨#[]⟩, .int .u64 0]] W fun E w' => E = .returned (.agg #[.int .i64 0, .string ⟨#[52]⟩]) ∧ ∃ r' c', Wk w w.heap.size bs w' r' c' [(sA, s6), (sB, s4)]) := Lib.hid fun bs W r c H => H.do o3 _ _ w3
  have D4 : Hid (∀ bs W r c, Wk w w.heap.size bs W r c [(sA, s6), (sB, s4)] → Calls Tryd.prog 15 #[.pointer (some ⟨w.heap.size, 0, none⟩), .agg #[.int .u8 5, .string ⟨#[98]⟩, .string ⟨#[]⟩, .string ⟨#[]⟩, .string ⟨#[97]⟩, .int .u64 5]] W fun E w' => E = .returned (.agg #[.int .i64 14, .string ⟨#[52]⟩]) ∧ ∃ r' c', Wk w w.heap.size bs w' r' c' [(sA, s6), (sB, s4)]) := Lib.hid fun bs W r c H => H.do o4 _ _ w4
  have D5 : Hid (∀ bs W r c, Wk w w.heap.size bs W r c [(sA, s6), (sB, s4)] → Calls Tryd.prog 15 #[.pointer (some ⟨w.heap.size, 0, none⟩), .agg #[.int .u8 4, .string ⟨#[98]⟩, .string ⟨#[120]⟩, .string ⟨#[51]⟩, .string ⟨#[]⟩, .int .u64 0]] W fun E w' => E = .returned (.agg #[.int .i64 15, .string ⟨#[52]⟩]) ∧ ∃ r' c', Wk w w.heap.size bs w' r' c' [(sA, s6), (sB, s4)]) := Lib.hid fun bs W r c H => H.do o5 _ _ w5
  have HL : Hid (∀ bs W r c, Wk w w.heap.size bs W r c [(sA, s6), (sB, s4)] → Calls Tryd.prog 18 #[.pointer (some ⟨w.heap.size, 0, none⟩)] W fun E w' => ListP W [(sA, s6), (sB, s4)] E w') := Lib.hid fun bs W r c H => list_any H.sys.led (by simp)
  have g43 := Tryd.guard43
  have e1 : ∀ w, (Op.equalIn 10000 43 (.agg #[.int .i64 0, .string ⟨#[54]⟩]) (.agg #[.int .i64 0, .string ⟨#[54]⟩])).run Tryd.prog w = .ok true w := fun w => eq_rep_of (d := 9998) (0, ⟨#[54]⟩) (0, ⟨#[54]⟩) (by simp) w
  have e2 : ∀ w, (Op.equalIn 10000 43 (.agg #[.int .i64 0, .string ⟨#[52]⟩]) (.agg #[.int .i64 0, .string ⟨#[52]⟩])).run Tryd.prog w = .ok true w := fun w => eq_rep_of (d := 9998) (0, ⟨#[52]⟩) (0, ⟨#[52]⟩) (by simp) w
  have e3 : ∀ w, (Op.equalIn 10000 43 (.agg #[.int .i64 14, .string ⟨#[52]⟩]) (.agg #[.int .i64 14, .string ⟨#[52]⟩])).run Tryd.prog w = .ok true w := fun w => eq_rep_of (d := 9998) (14, ⟨#[52]⟩) (14, ⟨#[52]⟩) (by simp) w
  have e4 : ∀ w, (Op.equalIn 10000 43 (.agg #[.int .i64 15, .string ⟨#[52]⟩]) (.agg #[.int .i64 15, .string ⟨#[52]⟩])).run Tryd.prog w = .ok true w := fun w => eq_rep_of (d := 9998) (15, ⟨#[52]⟩) (15, ⟨#[52]⟩) (by simp) w
  go_enter Tryd.func9, Tryd.ntmps9
  go_wp2_with (go_at_call 12; refine HN.out.mono ?_)
  rintro E x0 ⟨rfl, hs0, hb0⟩
  have K0 : Hid (Wk w w.heap.size [] x0 none 0 []) := Lib.hid ⟨hs0, hb0, (by rintro k (rfl | hk); exact Nat.le_refl _; cases hk), (by intro p hp; cases hp)⟩
  clear hs0 hb0 HN
  go_wp2_with (go_at_call 15; refine (D1.out _ _ _ _ K0.out).mono ?_)
  rintro E x1 ⟨rfl, r1, c1, h1⟩
  have K1 := Lib.hid h1
  clear h1 K0 D1
  go_wp2_with (go_at_call 15; refine (D2.out _ _ _ _ K1.out).mono ?_)
  rintro E x2 ⟨rfl, r2, c2, h2⟩
  have K2 := Lib.hid (h2.box (0, ⟨#[54]⟩))
  clear h2 K1 D2
  go_wp2_with (go_at_call 15; refine (D3.out _ _ _ _ K2.out).mono ?_)
  rintro E x3 ⟨rfl, r3, c3, h3⟩
  have K3 := Lib.hid (h3.box (0, ⟨#[52]⟩))
  clear h3 K2 D3
  go_wp2_with (go_at_call 15; refine (D4.out _ _ _ _ K3.out).mono ?_)
  rintro E x4 ⟨rfl, r4, c4, h4⟩
  have K4 := Lib.hid (h4.box (14, ⟨#[52]⟩))
  clear h4 K3 D4
  go_wp2_with (go_at_call 15; refine (D5.out _ _ _ _ K4.out).mono ?_)
  rintro E x5 ⟨rfl, r5, c5, h5⟩
  have K5 := Lib.hid h5
  clear h5 K4 D5
  have cl : ∀ (p : Nat × Rep) (k : Nat) (v : Value), p ∈ [(x4.heap.size, ((14, ⟨#[52]⟩) : Rep)), (x3.heap.size, (0, ⟨#[52]⟩)), (x2.heap.size, (0, ⟨#[54]⟩))] → (repC p.2)[k]? = some v → x5.cell? ⟨p.1, k, none⟩ = some v := fun p k v hp hv => block_cell (K5.out.reps p hp) k v hv
  have a0 : x5.cell? ⟨x2.heap.size, 0, none⟩ = some (.int .i64 0) := cl (x2.heap.size, (0, ⟨#[54]⟩)) 0 _ (by simp) rfl
  have a1 : x5.cell? ⟨x2.heap.size, 1, none⟩ = some (.string ⟨#[54]⟩) := cl (x2.heap.size, (0, ⟨#[54]⟩)) 1 _ (by simp) rfl
  have a2 : x5.cell? ⟨x3.heap.size, 0, none⟩ = some (.int .i64 0) := cl (x3.heap.size, (0, ⟨#[52]⟩)) 0 _ (by simp) rfl
  have a3 : x5.cell? ⟨x3.heap.size, 1, none⟩ = some (.string ⟨#[52]⟩) := cl (x3.heap.size, (0, ⟨#[52]⟩)) 1 _ (by simp) rfl
  have a4 : x5.cell? ⟨x4.heap.size, 0, none⟩ = some (.int .i64 14) := cl (x4.heap.size, (14, ⟨#[52]⟩)) 0 _ (by simp) rfl
  have a5 : x5.cell? ⟨x4.heap.size, 1, none⟩ = some (.string ⟨#[52]⟩) := cl (x4.heap.size, (14, ⟨#[52]⟩)) 1 _ (by simp) rfl
  have lt2 : x2.heap.size < x5.heap.size := (Array.getElem?_eq_some_iff.1 (K5.out.reps (x2.heap.size, (0, ⟨#[54]⟩)) (by simp))).1
  have lt3 : x3.heap.size < x5.heap.size := (Array.getElem?_eq_some_iff.1 (K5.out.reps (x3.heap.size, (0, ⟨#[52]⟩)) (by simp))).1
  have lt4 : x4.heap.size < x5.heap.size := (Array.getElem?_eq_some_iff.1 (K5.out.reps (x4.heap.size, (14, ⟨#[52]⟩)) (by simp))).1
  have K6 := Lib.hid (K5.out.box (15, ⟨#[52]⟩))
  clear cl K5
  go_wp2_with (go_at_call 18; refine (HL.out _ _ _ _ K6.out).mono ?_)
  rintro E x6 ⟨r6, c6, rfl, _, _, hb⟩
  have HB := Lib.hid (K6.out.bel.trans (hb.mono K6.out.bel.size))
  clear K6 hb
  go_wp2_with fail
  go_ret
  exact ⟨rfl, HB.out⟩
end Go.Proofs.YtejckimplihmiaaDoor
