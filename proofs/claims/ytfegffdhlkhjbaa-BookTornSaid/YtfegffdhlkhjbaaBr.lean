/-
  What is proved: rows of what came in; a row of the law's own to which slices that came in are put. Conditions as stated.
-/
import Derived.Test.YtfegffdhlkhjbaaBp
namespace Go.Proofs.Ytfegffdhlkhjbaa
open Go.RowKit Go.ChangeShapes Go.WideShapes Go.Deep
set_option maxRecDepth 100000

/-- Slices of slices of bytes that came in. -/
theorem rows_of {H : Type} {enc : TypeId × Value → H} {W : World} {base : Nat} {spare : Nat → Bool} {held : Bool} {A : Option Addr} {n c : Nat} {d : DataW H} {p : List MemPlace}
    (h : DataW.Trod enc Try.prog W base spare held 28 (.slice A n c) d p) : ∃ rs, Rows (fun b => b < W.heap.size) W A n rs ∧ Sl A n c := by
  obtain ⟨xs, h1, h2⟩ := lists_of h
  refine ⟨xs.map (·.2.2), ⟨by rw [List.length_map]; exact h1.1, fun hn => ?_⟩, h2⟩
  obtain ⟨b, o, e, hb, hc⟩ := h1.2 hn
  refine ⟨b, o, e, hb, hb, fun j r hr => ?_⟩
  rw [List.getElem?_map, Option.map_eq_some_iff] at hr
  obtain ⟨x, hx, rfl⟩ := hr
  obtain ⟨k1, k2, k3⟩ := hc j x hx
  exact ⟨x.1, x.2.1, k1, k2.kept fun b _ hlt => ⟨hlt, rfl⟩, k3⟩

/-- The law's own row of slices that came in; L is its block. -/
structure Was (w : World) (L : List (Nat × Obj)) (v : Value) (rs : List (List UInt8)) (W : World) : Prop where
  row : ∃ vs, W.ownsRow w.heap.size 29 1 v rs.length vs ∧ ∀ (j : Nat) (r : List UInt8), rs[j]? = some r → ∃ Aj cj, vs[j]? = some (.slice Aj r.length cj) ∧ Rd (fun b => b < w.heap.size) W Aj r.length r ∧ Sl Aj r.length cj
  own : (v.ownBlock = none ∧ L = []) ∨ ∃ g o, v.ownBlock = some g ∧ L = [(g, o)]
theorem Was.nil (w W : World) : Was w [] (.slice none 0 0) [] W := ⟨⟨[], World.ownsRow_nil _ _ _ _, fun _ _ h => by cases h⟩, .inl ⟨rfl, rfl⟩⟩
theorem Was.go {w W W' : World} {d d' T T' : Nat} {s s' : Dk} {L : List (Nat × Obj)} {v : Value} {rs : List (List UInt8)} (h : Was w L v rs W) (hD : Dat w d T s L W) (hD' : Dat w d' T' s' L W') : Was w L v rs W' := by
  obtain ⟨⟨vs, h1, h2⟩, h3⟩ := h
  refine ⟨⟨vs, own_kept h1 fun g e => ?_, fun j r hr => ?_⟩, h3⟩
  · rcases h3 with ⟨h0, _⟩ | ⟨g', o, e', rfl⟩
    · rw [h0] at e; cases e
    · rw [e'] at e
      injection e with e
      subst e
      exact (hD'.get (q := g') (.head _)).trans (hD.get (q := g') (.head _)).symm
  · obtain ⟨Aj, cj, k1, k2, k3⟩ := h2 j r hr
    exact ⟨Aj, cj, k1, k2.kept fun b hb _ => ⟨hb, (hD'.below.block b hb).trans (hD.below.block b hb).symm⟩, k3⟩
theorem Was.rows {w W : World} {d T : Nat} {s : Dk} {L : List (Nat × Obj)} {v : Value} {rs : List (List UInt8)} (h : Was w L v rs W) (hD : Dat w d T s L W) : ∃ A c, v = .slice A rs.length c ∧ Rows (Stay w L) W A rs.length rs ∧ Sl A rs.length c := by
  obtain ⟨⟨vs, h1, h2⟩, h3⟩ := h
  obtain ⟨A, c, rfl, hs⟩ := row_shape (e := 29) h1
  refine ⟨A, c, rfl, ⟨rfl, fun hn => ?_⟩, hs⟩
  have h1' := h1
  rcases h1.2 with ⟨_, h0⟩ | ⟨g, cap, cur, e, hB, hg, hn', hm, hz, ht⟩
  · omega
  · injection e with e1 e2 e3
    subst e1
    have hst : Stay w L g := by
      rcases h3 with ⟨h0, _⟩ | ⟨g', o, e', rfl⟩
      · simp [Value.ownBlock] at h0
      · simp only [Value.ownBlock, Option.some.injEq] at e'
        subst e'
        exact .inr ⟨o, .head _⟩
    refine ⟨g, 0, rfl, (Array.getElem?_eq_some_iff.1 hg).1, hst, fun j r hr => ?_⟩
    obtain ⟨Aj, cj, k1, k2, k3⟩ := h2 j r hr
    refine ⟨Aj, cj, ?_, k2.kept fun b hb _ => ⟨.inl hb, rfl⟩, k3⟩
    rw [Nat.zero_add]
    have := h1'.cells (g := g) rfl j _ k1
    rwa [Addr.add_lit, Nat.zero_add] at this
/-- One more slice that came in: it was laid just now. -/
theorem wpList_was {w W : World} {d T : Nat} {s : Dk} {L : List (Nat × Obj)} {ops : Array Oper} {rest : List Oper} {o : Oper} {a : Act} {Q : Exit → Act → World → Prop} (hgd : o.guard = none) (sv x : Operand)
    (ho : o.op = Op.call { callee := Callee.builtin Builtin.append, args := #[sv, x], argTypes := #[28, 28] })
    (v : Value) (rs : List (List UInt8)) (A : Option Addr) (m c : Nat) (r : List UInt8) (hs : a.eval sv = v) (hx : a.eval x = .slice (some ⟨W.heap.size, 0, none⟩) 1 1)
    (hD : Dat w d T s L W) (hw : Was w L v rs W) (hr : Rd (fun b => b < w.heap.size) W A m r) (hsl : Sl A m c) (hm : rs.length < 1000000)
    (h : ∀ A' c' W' L', Hid (Dat w d T s L' W' ∧ Was w L' (.slice A' (rs.length + 1) c') (rs ++ [r]) W') → wpList Try.prog ops Q rest (a.put o.dst (.slice A' (rs.length + 1) c')) W') :
    wpList Try.prog ops Q (o :: rest) a (W.alloc (.cells #[.slice A m c] 29)) := by
  obtain ⟨i0, hi, hz0, hz1, hz2⟩ := info_parts Try.info29
  obtain ⟨⟨vs, h1, h2⟩, h3⟩ := hw
  obtain ⟨v', W', hrun, hv', hg', _, hat⟩ := run_append_own_at (P := Try.prog) (W.alloc (.cells #[.slice A m c] 29)) w.heap.size 28 o.type 29 i0 (.slice none 0 0) 1 24 Try.underlying28 hi hz0 hz1 hz2 rfl (by decide) v rs.length vs (h1.alloc _) ⟨W.heap.size, 0, none⟩ 1 1 [.slice A m c] rfl (cell_one_new _ _ _) (by intro u hu; simp at hu; subst hu; rfl) (by unfold maxLen; omega) (by omega) (by have := hD.below.size; simp; omega)
  have hgo : W.grownBy W' v.ownBlock := ⟨hg'.os, hg'.tape, hg'.output, Nat.le_trans (by simp) hg'.size, fun k hk hn => (hg'.block k (by simp; omega) hn).trans (heap_alloc_old W _ hk)⟩
  have hvl : vs.length = rs.length := by have := h1.1; omega
  have hrm : r.length = m := hr.1
  have hge : ∀ g, v.ownBlock = some g → w.heap.size ≤ g := fun g e => (own_lt h1 g e).1
  have hold : ∀ b, b < w.heap.size → b < W.heap.size → b < w.heap.size ∧ W'.heap[b]? = W.heap[b]? := fun b hb hlt => ⟨hb, hgo.block b hlt fun e => by have := hge b e.symm; omega⟩
  -- the row
  obtain ⟨A', c', rfl, _⟩ := row_shape (e := 29) hv'
  have hrow : ∃ vs', W'.ownsRow w.heap.size 29 1 (.slice A' (rs.length + 1) c') (rs ++ [r]).length vs' ∧ ∀ (j : Nat) (q : List UInt8), (rs ++ [r])[j]? = some q → ∃ Aj cj, vs'[j]? = some (.slice Aj q.length cj) ∧ Rd (fun b => b < w.heap.size) W' Aj q.length q ∧ Sl Aj q.length cj := by
    refine ⟨vs ++ [.slice A m c], by rw [List.length_append]; exact hv', fun j q hq => ?_⟩
    by_cases hj : j < rs.length
    · rw [List.getElem?_append_left hj] at hq
      obtain ⟨Aj, cj, k1, k2, k3⟩ := h2 j q hq
      exact ⟨Aj, cj, by rw [List.getElem?_append_left (by omega)]; exact k1, k2.kept hold, k3⟩
    · have hj' : j = rs.length := by
        have := (List.getElem?_eq_some_iff.1 hq).1
        simp at this
        omega
      subst hj'
      rw [List.getElem?_append_right (Nat.le_refl _), Nat.sub_self] at hq
      simp only [List.getElem?_cons_zero, Option.some.injEq] at hq
      subst hq
      refine ⟨A, c, ?_, ?_, ?_⟩
      · rw [← hvl, List.getElem?_append_right (Nat.le_refl _), Nat.sub_self, hrm]
        rfl
      · rw [hrm]; exact hr.kept hold
      · rw [hrm]; exact hsl
  -- its block
  have hD' : ∃ L', Dat w d T s L' W' ∧ (((Value.slice A' (rs.length + 1) c').ownBlock = none ∧ L' = []) ∨ ∃ g o, (Value.slice A' (rs.length + 1) c').ownBlock = some g ∧ L' = [(g, o)]) := by
    have key : ∃ L', Dat w d T s L' W' ∧ ∀ g, (Value.slice A' (rs.length + 1) c').ownBlock = some g → ∃ o, (g, o) ∈ L' := by
      rcases h3 with ⟨h0, rfl⟩ | ⟨g, o, e, rfl⟩
      · have hb : Below W.heap.size W W' := by
          rw [h0] at hgo
          exact ⟨hgo.os, hgo.tape, hgo.output, hgo.size, fun k hk => hgo.block k hk (by simp)⟩
        refine ⟨_, hD.wide0 hb, fun g e => ?_⟩
        rcases hat with hat | hat
        · rw [h0] at hat
          rw [hat] at e
          cases e
        · rw [hat] at e
          injection e with e
          have hlt := (own_lt hv' g (by rw [hat, e])).2
          exact ⟨W'.heap[g], List.mem_append_left _ (mem_freshOf.2 ⟨by rw [← e]; simp, Array.getElem?_eq_getElem hlt⟩)⟩
      · have hlt : g < W'.heap.size := Nat.lt_of_lt_of_le (hD.lt (q := g) (.head _)) hgo.size
        have ht : Turns (· = g) W W' := by
          rw [e] at hgo
          exact ⟨hgo.os, hgo.tape, hgo.output, hgo.size, fun k hk hn => hgo.block k hk (fun x => by injection x with x; exact hn x)⟩
        refine ⟨_, hD.wide (fun p hp => by cases hp) ht (Array.getElem?_eq_getElem hlt), fun g' e' => ?_⟩
        rcases hat with hat | hat
        · rw [hat, e] at e'
          injection e' with e'
          subst e'
          exact ⟨_, .head _⟩
        · have hlt' := (own_lt hv' g' e').2
          rw [hat] at e'
          injection e' with e'
          exact ⟨W'.heap[g'], .tail _ (List.mem_append_left _ (mem_freshOf.2 ⟨by rw [← e']; simp, Array.getElem?_eq_getElem hlt'⟩))⟩
    obtain ⟨L', k1, k2⟩ := key
    cases hq : (Value.slice A' (rs.length + 1) c').ownBlock with
    | none => exact ⟨[], k1.sub (fun p hp => (by cases hp)), .inl ⟨rfl, rfl⟩⟩
    | some g =>
      obtain ⟨o, ho⟩ := k2 g hq
      exact ⟨[(g, o)], k1.sub (fun p hp => (by simp only [List.mem_singleton] at hp; subst hp; exact ho)), .inr ⟨g, o, rfl, rfl⟩⟩
  obtain ⟨L', k1, k2⟩ := hD'
  refine wpList_plain hgd fun K hK => ?_
  unfold Oper.wp execOp
  simp only [ho, resolve, invoke, builtin, Sem.run_bind, Sem.run_pure, Result.andThen_ok, List.map_toArray, List.map_cons, List.map_nil, hs, hx, hrun]
  exact hK _ _ (h A' c' W' L' (Lib.hid ⟨k1, hrow, k2⟩))
end Go.Proofs.Ytfegffdhlkhjbaa
