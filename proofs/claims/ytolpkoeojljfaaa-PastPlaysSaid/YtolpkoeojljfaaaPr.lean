/-
  What is proved: the document's own past: New, Open, Change, Enter, Prepare, Commit, Voted. Conditions as stated.
-/
import Derived.Test.YtolpkoeojljfaaaPq
import Derived.Test.YtolpkoeojljfaaaPp
namespace Go.Proofs.Ytolpkoeojljfaaa
open Go.RowKit
set_option maxRecDepth 100000

theorem ropen_any {W : World} {b g m c : Nat} {p : MPast} (h : RfF W b g m c p) (x : Nat) : Calls Try.prog 28 #[.pointer (some ⟨b, 0, none⟩), .int .u64 (x : Int)] W fun E W' => E = .returned (.bool (decide ((lst p).1 = p.great) && decide (x = (lst p).1))) ∧ ∃ n, W' = W.drewN n := by
  have HL := Lib.hid (rlast_any h)
  have c0 := h.c0
  clear h
  generalize (lst p).1 = l at HL ⊢
  generalize p.great = G at c0 ⊢
  by_cases h1 : x = G
  · have k1 : ((x : Int) == (G : Int)) = true := by simp; omega
    by_cases h2 : x = l
    · have e : (decide (l = G) && decide (x = l)) = true := by simp; omega
      have k2 : ((x : Int) == (l : Int)) = true := by simp; omega
      rw [e]
      clear h1 h2 e
      go_enter Try.func28, Try.ntmps28
      go_wp2_with (go_at_call 27; refine HL.out.mono ?_; rintro E w1 ⟨rfl, nq, rfl⟩)
      go_ret
      exact ⟨rfl, _, rfl⟩
    · have e : (decide (l = G) && decide (x = l)) = false := by simp; omega
      have k2 : ((x : Int) == (l : Int)) = false := by simp; omega
      rw [e]
      clear h1 h2 e
      go_enter Try.func28, Try.ntmps28
      go_wp2_with (go_at_call 27; refine HL.out.mono ?_; rintro E w1 ⟨rfl, nq, rfl⟩)
      go_ret
      exact ⟨rfl, _, rfl⟩
  · have k1 : ((x : Int) == (G : Int)) = false := by simp; omega
    have e : (decide (l = G) && decide (x = l)) = false := by simp; omega
    rw [e]
    clear h1 e
    go_enter Try.func28, Try.ntmps28
    go_wp2_with (go_at_call 27; refine HL.out.mono ?_; rintro E w1 ⟨rfl, nq, rfl⟩)
    go_ret
    exact ⟨rfl, 0, rfl⟩
/-- The greatest view anew. -/
theorem rf_great {v W : World} {os : List Thing} {b : Nat} {A : Option Addr} {c : Nat} {p : MPast} (H : Fr v W (rfT b A c p :: os)) (x : Nat) :
    Fr v (W.setCell ⟨b, 0, none⟩ (.int .u64 (x : Int))) (rfT b A c ⟨p.L, x⟩ :: os) := by
  have h : RfAt W b A c p := H.hd
  exact H.turn (o' := rfT b A c ⟨p.L, x⟩) (Own.same ((Turns.refl _ W).setCell (.inl (.inl rfl)) 0 _)) ⟨heap_set h.top _, ownsRow_kept h.row fun k e => Below.heap_setCell W ⟨b, 0, none⟩ _ k (h.apart k ((own_slice A _ _ _ _).trans e))⟩ (rfT_ok _ _ _ _)
theorem rchange_any {v W : World} {os : List Thing} {b : Nat} {p : MPast} (HP : RfIs v W os b p) {x : Nat} (hx : x < 18446744073709551616) :
    Calls Try.prog 21 #[.pointer (some ⟨b, 0, none⟩), .int .u64 (x : Int)] W fun E W' => E = .returned (.bool (chg p x).1) ∧ RfIs v W' os b (chg p x).2 := by
  obtain ⟨A, c, H⟩ := HP
  have h : RfAt W b A c p := H.hd
  have c0 : W.cell? ⟨b, 0, none⟩ = some (.int .u64 (p.great : Int)) := block_cell h.top 0 _ rfl
  have f0 : W.frozen? ⟨b, 0, none⟩ = false := free_block h.top 0
  have HH : Hid (RfIs v W os b p) := Lib.hid ⟨A, c, H⟩
  by_cases h1 : p.great < x
  · by_cases h2 : x < 1073741824
    · rw [chg, if_pos ⟨h1, h2⟩]
      have H2 : Hid (RfIs v (W.setCell ⟨b, 0, none⟩ (.int .u64 (x : Int))) os b ⟨p.L, x⟩) := Lib.hid ⟨A, c, rf_great H x⟩
      have k1 : decide (x ≤ p.great) = false := decide_eq_false (by omega)
      have k2 : decide (1073741824 ≤ (x : Int)) = false := decide_eq_false (by omega)
      clear H h h1 h2 hx
      go_enter Try.func21, Try.ntmps21
      go_wp2
      go_ret
      exact ⟨rfl, H2.out⟩
    · rw [chg, if_neg (by omega)]
      have k1 : decide (x ≤ p.great) = false := decide_eq_false (by omega)
      have k2 : decide (1073741824 ≤ (x : Int)) = true := decide_eq_true (by omega)
      clear H h h1 h2 hx
      go_enter Try.func21, Try.ntmps21
      go_wp2
      go_ret
      exact ⟨rfl, HH.out⟩
  · rw [chg, if_neg (by omega)]
    have k1 : decide (x ≤ p.great) = true := decide_eq_true (by omega)
    clear H h h1 hx
    go_enter Try.func21, Try.ntmps21
    go_wp2
    go_ret
    exact ⟨rfl, HH.out⟩
/-! ### a view is entered -/
theorem Try.inf42 : (Try.prog.info? 42).map (fun i => (i.zero, i.size, i.bytes)) = some (some (.agg #[.int .u64 0, .int .i64 0]), 2, 16) := by kernel_rfl
theorem rf_row {v W : World} {os : List Thing} {b : Nat} {A : Option Addr} {c : Nat} {p : MPast} (H : Fr v W (rfT b A c p :: os)) (hl : p.L.length ≤ 1073741824) (ty : TypeId) (gb : Nat) (x n : Nat) (hg : W.heap[gb]? = some (.cells #[.int .u64 (x : Int), .int .i64 (n : Int)] 42 (0, 0))) (q : Nat) :
    ∃ A' c' W', (Builtin.append_ #[34, 34] ty #[.slice A p.L.length c, .slice (some ⟨gb, 0, none⟩) 1 1]).run Try.prog W = .ok (.slice A' (p.L.length + 1) c') W' ∧ W'.frozen? ⟨b, 1, none⟩ = false ∧ (∃ y, W'.cell? ⟨b, 1, none⟩ = some y) ∧
      Fr v ((W'.setCell ⟨b, 1, none⟩ (.slice A' (p.L.length + 1) c')).setCell ⟨b, 0, none⟩ (.int .u64 (q : Int))) (rfT b A' c' ⟨p.L ++ [(x, n)], q⟩ :: os) ∧ (W'.setCell ⟨b, 1, none⟩ (.slice A' (p.L.length + 1) c')).frozen? ⟨b, 0, none⟩ = false ∧ ∃ y, (W'.setCell ⟨b, 1, none⟩ (.slice A' (p.L.length + 1) c')).cell? ⟨b, 0, none⟩ = some y := by
  have h : RfAt W b A c p := H.hd
  have hb : b < W.heap.size := (Array.getElem?_eq_some_iff.1 h.top).1
  obtain ⟨i0, h1, h2, h3, h4⟩ := info_parts Try.inf42
  obtain ⟨v', w', hr, hrow, hgr, _, hat⟩ := run_append_own_at (P := Try.prog) W 0 34 ty 42 i0 (.agg #[.int .u64 0, .int .i64 0]) 2 16 Try.underlying34 h1 h2 h3 h4 rfl (by decide) (.slice A p.L.length c) p.L.length (vtC p.L) h.row ⟨gb, 0, none⟩ 1 1 [.int .u64 (x : Int), .int .i64 (n : Int)] rfl
    (fun j u hj => by
      rw [add_at]
      exact block_cell (C := [.int .u64 (x : Int), .int .i64 (n : Int)]) hg j u hj) (by intro u hu; simp at hu; rcases hu with rfl | rfl <;> rfl) (by unfold maxLen; omega) (by omega) (Nat.zero_le _)
  obtain ⟨A', c', rfl, _⟩ := row_shape hrow
  have ha : ∀ j, (Value.slice A p.L.length c).ownBlock = some j → j ≠ b := fun j hj => h.apart j ((own_slice A _ _ _ _).trans hj)
  have hbt : w'.heap[b]? = some (.cells [Value.int .u64 (p.great : Int), .slice A p.L.length c].toArray 36 (0, 0)) := (hgr.block b hb fun e => ha b e.symm rfl).trans h.top
  have hn' : ∀ j, (Value.slice A' (p.L.length + 1) c').ownBlock = some j → j ≠ b := fun j hj x => by
    rcases hat with e | e
    · rw [e] at hj; exact ha j hj x
    · rw [e] at hj; injection hj with hj; omega
  have hs1 := heap_set hbt (k := 1) (.slice A' (p.L.length + 1) c')
  refine ⟨A', c', w', hr, free_block hbt 1, ⟨_, block_cell hbt 1 _ rfl⟩, H.turn (o' := rfT b A' c' ⟨p.L ++ [(x, n)], q⟩) ⟨(((Turns.refl _ W).grown hgr fun j e => .inl (.inr ((own_slice A _ _ _ _).trans e))).setCell (.inl (.inl rfl)) 1 _).setCell (.inl (.inl rfl)) 0 _, fun j hj => ?_⟩ ⟨?_, ?_⟩ (rfT_ok _ _ _ _), free_block hs1 0, ⟨_, block_cell hs1 0 _ rfl⟩⟩
  · rcases hj with rfl | hj
    · exact .inl (.inl rfl)
    · have hj' : (Value.slice A' (p.L.length + 1) c').ownBlock = some j := (own_slice A' _ _ _ _).trans hj
      rcases hat with e | e
      · exact .inl (.inr ((own_slice A _ _ _ _).trans (e.symm.trans hj')))
      · rw [e] at hj'; injection hj' with hj'; exact .inr (Nat.le_of_eq hj')
  · have := heap_set hs1 (k := 0) (.int .u64 (q : Int))
    have e : (p.L ++ [(x, n)]).length = p.L.length + 1 := by simp
    show _ = some (Obj.cells [Value.int .u64 (q : Int), .slice A' (p.L ++ [(x, n)]).length c'].toArray 36 (0, 0))
    rw [e]
    exact this
  · show World.ownsRow _ 0 42 2 (.slice A' (p.L ++ [(x, n)]).length c') (p.L ++ [(x, n)]).length (vtC (p.L ++ [(x, n)]))
    have e : (p.L ++ [(x, n)]).length = p.L.length + 1 := by simp
    rw [e, vtC_app]
    refine ownsRow_kept (W := w') hrow fun j ej => ?_
    rw [Below.heap_setCell _ ⟨b, 0, none⟩ _ j (hn' j ej), Below.heap_setCell _ ⟨b, 1, none⟩ _ j (hn' j ej)]
end Go.Proofs.Ytolpkoeojljfaaa
