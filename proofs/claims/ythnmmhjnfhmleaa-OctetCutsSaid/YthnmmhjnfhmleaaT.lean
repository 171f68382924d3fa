/-
  What is proved: small facts for OctetCuttings. Conditions as stated.
-/
import Derived.Test.YthnmmhjnfhmleaaN
import Derived.Test.YthnmmhjnfhmleaaQ
import Derived.Deep.RegionHeld3
namespace Go.Proofs.Ythnmmhjnfhmleaa
open Go.RowKit

theorem run_append_rd {w : World} {ty : TypeId} {B n m c : Nat} {v : Value} {A : Option Addr} {xs bs : List UInt8} (hown : w.ownsRow B 5 1 v n (u8s xs)) (hr : Rd w A m bs) (hsl : Sl A m c) (hB : B ≤ w.heap.size) (hm : n + m ≤ 140737488355328) :
    ∃ A' c' w', (Builtin.append_ #[22, 22] ty #[v, .slice A m c]).run Try.prog w = .ok (.slice A' (n + m) c') w' ∧ w'.ownsRow B 5 1 (.slice A' (n + m) c') (n + m) (u8s (xs ++ bs)) ∧ Sl A' (n + m) c' ∧ w.grownBy w' v.ownBlock := by
  obtain ⟨i0, hi, hz0, hz1, hz2⟩ := info_parts Try.info5
  rcases A with _ | ad
  · obtain ⟨rfl, rfl⟩ := hsl.1 rfl
    have hbs : bs = [] := List.eq_nil_of_length_eq_zero hr.1
    subst hbs
    obtain ⟨A', c', rfl, hsl'⟩ := own_shape hown
    exact ⟨A', c', w, run_append_owned_none (P := Try.prog) w B 22 ty 5 i0 1 Try.underlying22 hi _ n _ hown, by simpa using hown, by simpa using hsl', World.grownBy.refl _ _⟩
  · have hl : (u8s bs).length = m * 1 := by rw [u8s_length, hr.1]; omega
    obtain ⟨v', w', hrun, h1, h2, _⟩ := run_append_own (P := Try.prog) w B 22 ty 5 i0 (.int .u8 0) 1 1 Try.underlying22 hi hz0 hz1 hz2 rfl (by decide) v n _ hown ad m c (u8s bs) hl (by
      intro j u hu
      have hp : 0 < (u8s bs).length := by have := (List.getElem?_eq_some_iff.1 hu).1; omega
      obtain ⟨ad2, had, hc⟩ := hr.src (Below.refl _ _) hp
      injection had with had
      subst had
      exact hc j u hu) (u8s_one bs) (by unfold maxLen; omega) (by omega) hB
    obtain ⟨A', c', rfl, hsl'⟩ := own_shape h1
    exact ⟨A', c', w', hrun, by rw [u8s_append]; exact h1, hsl', h2⟩

/-- append as one step of a region. -/
theorem step_append_rd {ops : Array Oper} {o : Oper} {a : Act} {w w0 : World} {K : Act → World → Prop} {Q : Exit → Act → World → Prop} {E : Prop} (hgd : o.guard = none) (s x : Operand)
    (ho : o.op = Op.call { callee := Callee.builtin Builtin.append, args := #[s, x], argTypes := #[22, 22] })
    (B n m c : Nat) (v : Value) (A : Option Addr) (xs bs : List UInt8) (hs : a.eval s = v) (hx : a.eval x = .slice A m c)
    (hown : w.ownsRow B 5 1 v n (u8s xs)) (hr : Rd w A m bs) (hsl : Sl A m c) (hb : Below B w0 w) (hB : B ≤ w.heap.size) (hm : n + m ≤ 140737488355328)
    (h : ∀ A' c' w', Hid (w'.ownsRow B 5 1 (.slice A' (n + m) c') (n + m) (u8s (xs ++ bs)) ∧ Sl A' (n + m) c') → Below B w0 w' → K (a.put o.dst (.slice A' (n + m) c')) w') :
    if Region.wanted o (yielded ops a.tmps) = true then Oper.wp Try.prog o a w K Q else E := by
  have hw : Region.wanted o (yielded ops a.tmps) = true := by simp [Region.wanted, hgd]
  rw [if_pos hw]
  obtain ⟨A', c', w', hrun, h1, h2, h3⟩ := run_append_rd (ty := o.type) hown hr hsl hB hm
  unfold Oper.wp execOp
  simp only [ho, resolve, invoke, builtin, Sem.run_bind, Sem.run_pure, Result.andThen_ok, List.map_toArray, List.map_cons, List.map_nil, hs, hx, hrun]
  exact h A' c' w' ⟨h1, h2⟩ (hb.grown h3 hB (fun k hk => (hown.lt k hk).1))

theorem left_of {lo m : Nat} {bh : List UInt8} (g : Nat) (w : World) (h : CutAt w lo g bh false) (hl : bh.length = m) :
    Calls Try.prog 27 #[.pointer (some ⟨g, 0, none⟩)] w fun e w' => e = .returned (.int .i64 (m : Int)) ∧ ∃ q, w' = w.drewN q := hl ▸ left_any g bh false w h

theorem Its.take {w : World} {A : Option Addr} {n k : Nat} {its : List It} (h : Its w A n its) (hk : k ≤ n) : Its w A k (its.take k) := by
  refine ⟨by rw [List.length_take, h.1]; omega, fun hp => ?_⟩
  obtain ⟨b, o, hA, hb, hc⟩ := h.2 (by omega)
  refine ⟨b, o, hA, hb, fun j x hj => hc j x ?_⟩
  rw [List.getElem?_take] at hj
  split at hj
  · exact hj
  · cases hj

theorem Its.cut {w : World} {A : Option Addr} {n c k : Nat} {its : List It} (h : Its w A n its) (hk : k ≤ n) (hc : n ≤ c) : Its w (if c = k then A else A.map (·.add (k * 3))) (n - k) (its.drop k) := by
  refine ⟨by rw [List.length_drop, h.1], fun hp => ?_⟩
  obtain ⟨b, o, rfl, hb, hcell⟩ := h.2 (by omega)
  rw [if_neg (by omega)]
  refine ⟨b, o + k * 3, by simp [Addr.add_lit], hb, fun j x hj => ?_⟩
  rw [List.getElem?_drop] at hj
  have := hcell _ x hj
  rw [show o + (k + j) * 3 = o + k * 3 + j * 3 by omega] at this
  exact this

end Go.Proofs.Ythnmmhjnfhmleaa
