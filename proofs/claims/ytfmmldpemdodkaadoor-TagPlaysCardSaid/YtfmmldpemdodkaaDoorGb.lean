/-
  What is proved: appends to a row of the call's own, with what else may have turned: only that row's block. Conditions as stated.
-/
import Derived.Test.YtfmmldpemdodkaaDoorU
namespace Go.Proofs.YtfmmldpemdodkaaDoor
open Go.RowKit

/-- append of bytes onto a row of the call's own; no block but that row's has turned. -/
theorem wp_append_gb {w : World} {o : Oper} {a : Act} {K : Act → World → Prop} {Q : Exit → Act → World → Prop} (s x : Operand)
    (ho : o.op = Op.call { callee := Callee.builtin Builtin.append, args := #[s, x], argTypes := #[22, 22] })
    (B n m c : Nat) (v : Value) (A : Option Addr) (xs bs : List UInt8) (hs : a.eval s = v) (hx : a.eval x = .slice A m c)
    (hown : w.ownsRow B 5 1 v n (u8s xs)) {Pr : Nat → Prop} (hr : Rd Pr w A m bs) (hsl : Sl A m c) (hB : B ≤ w.heap.size) (hm : n + m ≤ 140737488355328)
    (h : ∀ A' c' w', Hid (w'.ownsRow B 5 1 (.slice A' (n + m) c') (n + m) (u8s (xs ++ bs)) ∧ Sl A' (n + m) c') → Hid (w.grownBy w' v.ownBlock) → K (a.put o.dst (.slice A' (n + m) c')) w') :
    o.wp Tryd.prog a w K Q := by
  obtain ⟨i0, hi, hz0, hz1, hz2⟩ := info_parts Tryd.info5
  rcases A with _ | ad
  · obtain ⟨rfl, rfl⟩ := hsl.1 rfl
    have hbs : bs = [] := List.eq_nil_of_length_eq_zero hr.1
    subst hbs
    obtain ⟨A', c', rfl, hsl'⟩ := own_shape hown
    have hrun := run_append_owned_none (P := Tryd.prog) w B 22 o.type 5 i0 1 Tryd.underlying22 hi _ n _ hown
    unfold Oper.wp
    simp [execOp, ho, resolve, invoke, builtin, hs, hx, hrun, Result.andThen]
    have h2 := h A' c' w ⟨by simpa using hown, by simpa using hsl'⟩ (World.grownBy.refl w _)
    rw [Nat.add_zero] at h2
    exact h2
  · have hl : (u8s bs).length = m * 1 := by rw [u8s_length, hr.1]; omega
    refine wp_append_own w s x 22 ho B 5 i0 (.int .u8 0) 1 1 Tryd.underlying22 hi hz0 hz1 hz2 rfl (by decide) v n _ hs hown ad m c (u8s bs) hx hl ?_ (u8s_one bs) (by unfold maxLen; omega) (by omega) hB ?_
    · intro j u hu
      have hp : 0 < (u8s bs).length := by have := (List.getElem?_eq_some_iff.1 hu).1; omega
      obtain ⟨ad2, had, hc⟩ := hr.src hp
      injection had with had
      subst had
      exact hc j u hu
    · intro v' w' hv' hg' _
      obtain ⟨A', c', rfl, hsl'⟩ := own_shape hv'
      exact h A' c' w' ⟨by rw [show u8s (xs ++ bs) = u8s xs ++ u8s bs by simp [u8s]]; exact hv', hsl'⟩ hg'
theorem wpList_append_gb {w : World} {ops : Array Oper} {rest : List Oper} {o : Oper} {a : Act} {Q : Exit → Act → World → Prop} (hgd : o.guard = none) (s x : Operand)
    (ho : o.op = Op.call { callee := Callee.builtin Builtin.append, args := #[s, x], argTypes := #[22, 22] })
    (B n m c : Nat) (v : Value) (A : Option Addr) (xs bs : List UInt8) (hs : a.eval s = v) (hx : a.eval x = .slice A m c)
    (hown : w.ownsRow B 5 1 v n (u8s xs)) {Pr : Nat → Prop} (hr : Rd Pr w A m bs) (hsl : Sl A m c) (hB : B ≤ w.heap.size) (hm : n + m ≤ 140737488355328)
    (h : ∀ A' c' w', Hid (w'.ownsRow B 5 1 (.slice A' (n + m) c') (n + m) (u8s (xs ++ bs)) ∧ Sl A' (n + m) c') → Hid (w.grownBy w' v.ownBlock) → wpList Tryd.prog ops Q rest (a.put o.dst (.slice A' (n + m) c')) w') :
    wpList Tryd.prog ops Q (o :: rest) a w :=
  wpList_plain hgd fun _ hK => wp_append_gb s x ho B n m c v A xs bs hs hx hown hr hsl hB hm fun A' c' w' h1 h2 => hK _ _ (h A' c' w' h1 h2)
theorem step_append_gb {w : World} {ops : Array Oper} {o : Oper} {a : Act} {K : Act → World → Prop} {Q : Exit → Act → World → Prop} {E : Prop} (hgd : o.guard = none) (s x : Operand)
    (ho : o.op = Op.call { callee := Callee.builtin Builtin.append, args := #[s, x], argTypes := #[22, 22] })
    (B n m c : Nat) (v : Value) (A : Option Addr) (xs bs : List UInt8) (hs : a.eval s = v) (hx : a.eval x = .slice A m c)
    (hown : w.ownsRow B 5 1 v n (u8s xs)) {Pr : Nat → Prop} (hr : Rd Pr w A m bs) (hsl : Sl A m c) (hB : B ≤ w.heap.size) (hm : n + m ≤ 140737488355328)
    (h : ∀ A' c' w', Hid (w'.ownsRow B 5 1 (.slice A' (n + m) c') (n + m) (u8s (xs ++ bs)) ∧ Sl A' (n + m) c') → Hid (w.grownBy w' v.ownBlock) → K (a.put o.dst (.slice A' (n + m) c')) w') :
    if Region.wanted o (yielded ops a.tmps) = true then Oper.wp Tryd.prog o a w K Q else E := by
  have hw : Region.wanted o (yielded ops a.tmps) = true := by simp [Region.wanted, hgd]
  rw [if_pos hw]
  exact wp_append_gb s x ho B n m c v A xs bs hs hx hown hr hsl hB hm h

/-- append of one byte; no block but that row's has turned. -/
theorem wpList_append_byte_gb {wr : World} {ops : Array Oper} {rest : List Oper} {o : Oper} {a : Act} {Q : Exit → Act → World → Prop} (hgd : o.guard = none) (s x : Operand)
    (ho : o.op = Op.call { callee := Callee.builtin Builtin.append, args := #[s, x], argTypes := #[22, 22] })
    (B n : Nat) (v : Value) (xs : List UInt8) (z : Int) (u : UInt8) (hs : a.eval s = v) (hx : a.eval x = .slice (some ⟨wr.heap.size, 0, none⟩) 1 1)
    (hown : wr.ownsRow B 5 1 v n (u8s xs)) (hB : B ≤ wr.heap.size) (hz : z = (u.toNat : Int)) (hm : n + 1 ≤ 140737488355328)
    (h : ∀ A' c' w', Hid (w'.ownsRow B 5 1 (.slice A' (n + 1) c') (n + 1) (u8s (xs ++ [u])) ∧ Sl A' (n + 1) c') → Hid (wr.grownBy w' v.ownBlock) → wpList Tryd.prog ops Q rest (a.put o.dst (.slice A' (n + 1) c')) w') :
    wpList Tryd.prog ops Q (o :: rest) a (wr.alloc (.cells #[.int .u8 z] 5)) := by
  refine wpList_append_gb hgd s x ho B n 1 1 v _ xs [u] hs hx (hown.alloc _) (Pr := fun _ => True) ⟨rfl, fun _ => ⟨_, 0, rfl, by simp, trivial, fun j y hy => ?_⟩⟩ ⟨(fun h => (by cases h)), Nat.le_refl _, by omega⟩ (by simp; omega) hm
    fun A' c' w' h1 h2 => h A' c' w' h1 (Lib.hid (gb_trans (World.grownBy_alloc wr _ _) h2.out))
  match j, hy with
  | 0, hy =>
    simp at hy
    subst hy hz
    exact cell_of_row _ _ 0 _ 5 (0, 0) (heap_alloc_new wr _)

/-- Two rows whose first bytes are unlike lie in blocks of their own. -/
theorem own_differ {w : World} {B B' n n' : Nat} {v v' : Value} {xs ys : List UInt8} {x y : UInt8} (h : w.ownsRow B 5 1 v n (u8s xs)) (h' : w.ownsRow B' 5 1 v' n' (u8s ys)) (hx : xs[0]? = some x) (hy : ys[0]? = some y) (hne : x ≠ y) : v.ownBlock ≠ v'.ownBlock := by
  intro e
  cases hv : v.ownBlock with
  | none =>
    rcases h.2 with ⟨_, h0⟩ | ⟨g, cap, cur, rfl, _⟩
    · have : xs = [] := List.eq_nil_of_length_eq_zero (by have h1 := h.1; rw [u8s_length, h0] at h1; omega)
      subst this
      cases hx
    · simp [Value.ownBlock] at hv
  | some g =>
    have c1 := h.cells hv 0 (.int .u8 (x.toNat : Int)) (by simp [u8s, hx])
    have c2 := h'.cells (e ▸ hv) 0 (.int .u8 (y.toNat : Int)) (by simp [u8s, hy])
    rw [c1] at c2
    injection c2 with c2
    injection c2 with _ c3
    apply hne
    apply UInt8.toNat_inj.1
    omega
end Go.Proofs.YtfmmldpemdodkaaDoor
