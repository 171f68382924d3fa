/-
  What is proved: an append to a row of the call's own lies where the row lay, or behind all that there was; two rows and two hashes side by side. Conditions as stated.
-/
import Derived.Test.YtflbhicjaaeegaaDoorU
namespace Go.Proofs.YtflbhicjaaeegaaDoor
open Go.RowKit

theorem append_fresh {P : Program} (w : World) (base : Nat) (t ty e : TypeId) (i : TypeInfo) (z : Value) (size bytes : Nat) (ht : P.underlying t = some (.slice e)) (hi : P.info? e = some i) (hz : i.zero = some z)
    (hsize : i.size = size) (hby : i.bytes = bytes) (hzs : z.cells.size = size) (hsz : 0 < size)
    (v : Value) (n : Nat) (xs : List Value) (hown : w.ownsRow base e size v n xs)
    (a : Addr) (m c : Nat) (news : List Value) (hl : news.length = m * size) (hnews : ∀ j u, news[j]? = some u → w.cell? (a.add j) = some u) (h1 : ∀ u ∈ news, u.oneCell' = true)
    (h63 : n + m ≤ maxLen) (hbytes : (n + m) * bytes ≤ 140737488355328) (hbase : base ≤ w.heap.size) {v' : Value} {w' : World} (hrun : (Builtin.append_ #[t, t] ty #[v, .slice (some a) m c]).run P w = .ok v' w') :
    v'.ownBlock = v.ownBlock ∨ v'.ownBlock = some w.heap.size := by
  obtain ⟨v2, w2, hr2, _, _, h4⟩ := run_append_own (P := P) w base t ty e i z size bytes ht hi hz hsize hby hzs hsz v n xs hown a m c news hl hnews h1 h63 hbytes hbase
  rw [hrun] at hr2
  injection hr2 with e1 e2
  subst e1 e2 hsize hby
  have hsmall : n + m ≤ 9223372036854775807 := by simp only [maxLen] at h63; omega
  rcases hown.2 with ⟨rfl, rfl⟩ | ⟨g, cap, cur, rfl, hbg, hg, hnc, hcm, hcs, htake⟩
  · by_cases hm : m = 0
    · left
      rw [h4.2 ⟨rfl, hm⟩]
    · right
      have hr := run_append_nil (P := P) w t ty e i z ht hi hz a m c news hl hnews (by omega) (by omega) (by have hb := hbytes; simp only [Nat.zero_add] at hb; omega)
      rw [hrun] at hr
      injection hr with e1 _
      rw [e1]
      rfl
  · by_cases hroom : n + m ≤ cap
    · left
      have hfit : n * i.size + news.length ≤ cur.size := by rw [hl, hcs, ← Nat.add_mul]; exact Nat.mul_le_mul_right _ hroom
      have hr := run_append_room (P := P) w t ty e i ht hi g n cap cur hg a m c news hl hnews h1 hroom hfit
      rw [hrun] at hr
      injection hr with e1 _
      rw [e1]
      rfl
    · right
      have hr := run_append_grow (P := P) w t ty e i z ht hi hz ⟨g, 0, none⟩ n cap xs hown.1 (hown.cells (g := g) rfl) a m c news hl hnews (by omega) (by omega) (growslice_fits (by omega) hbytes)
      rw [hrun] at hr
      injection hr with e1 _
      rw [e1]
      rfl

/-- append of bytes onto a row of the call's own: no block but that row's has turned, and where the new row lies. -/
theorem wpList_append_fr {w : World} {ops : Array Oper} {rest : List Oper} {o : Oper} {a : Act} {Q : Exit → Act → World → Prop} (hgd : o.guard = none) (s x : Operand)
    (ho : o.op = Op.call { callee := Callee.builtin Builtin.append, args := #[s, x], argTypes := #[28, 28] })
    (B n m c : Nat) (v : Value) (A : Option Addr) (xs bs : List UInt8) (hs : a.eval s = v) (hx : a.eval x = .slice A m c)
    (hown : w.ownsRow B 5 1 v n (u8s xs)) {Pr : Nat → Prop} (hr : Rd Pr w A m bs) (hsl : Sl A m c) (hB : B ≤ w.heap.size) (hm : n + m ≤ 140737488355328)
    (h : ∀ A' c' w', Hid (w'.ownsRow B 5 1 (.slice A' (n + m) c') (n + m) (u8s (xs ++ bs)) ∧ Sl A' (n + m) c') → Hid (w.grownBy w' v.ownBlock) → Hid ((Value.slice A' (n + m) c').ownBlock = v.ownBlock ∨ (Value.slice A' (n + m) c').ownBlock = some w.heap.size) → wpList Tryd.prog ops Q rest (a.put o.dst (.slice A' (n + m) c')) w') :
    wpList Tryd.prog ops Q (o :: rest) a w := by
  obtain ⟨i0, hi, hz0, hz1, hz2⟩ := info_parts Tryd.info5
  refine wpList_plain hgd fun K hK => ?_
  rcases A with _ | ad
  · obtain ⟨rfl, rfl⟩ := hsl.1 rfl
    have hbs : bs = [] := List.eq_nil_of_length_eq_zero hr.1
    subst hbs
    obtain ⟨A', c', rfl, hsl'⟩ := own_shape hown
    have hrun := run_append_owned_none (P := Tryd.prog) w B 28 o.type 5 i0 1 Tryd.underlying28 hi _ n _ hown
    unfold Oper.wp
    simp [execOp, ho, resolve, invoke, builtin, hs, hx, hrun, Result.andThen]
    have h2 := h A' c' w ⟨by simpa using hown, by simpa using hsl'⟩ (World.grownBy.refl w _) (Lib.hid (.inl rfl))
    rw [Nat.add_zero] at h2
    exact hK _ _ h2
  · have hl : (u8s bs).length = m * 1 := by rw [u8s_length, hr.1]; omega
    have hnews : ∀ j u, (u8s bs)[j]? = some u → w.cell? (ad.add j) = some u := by
      intro j u hu
      have hp : 0 < (u8s bs).length := by have := (List.getElem?_eq_some_iff.1 hu).1; omega
      obtain ⟨ad2, had, hc⟩ := hr.src hp
      injection had with had
      subst had
      exact hc j u hu
    obtain ⟨v', w', hrun, h2, h3, _⟩ := run_append_own (P := Tryd.prog) w B 28 o.type 5 i0 (.int .u8 0) 1 1 Tryd.underlying28 hi hz0 hz1 hz2 rfl (by decide) v n _ hown ad m c (u8s bs) hl hnews (u8s_one bs) (by unfold maxLen; omega) (by omega) hB
    have h5 := append_fresh (P := Tryd.prog) w B 28 o.type 5 i0 (.int .u8 0) 1 1 Tryd.underlying28 hi hz0 hz1 hz2 rfl (by decide) v n _ hown ad m c (u8s bs) hl hnews (u8s_one bs) (by unfold maxLen; omega) (by omega) hB hrun
    unfold Oper.wp execOp
    simp only [ho, resolve, invoke, builtin, Sem.run_bind, Sem.run_pure, Result.andThen_ok, List.map_toArray, List.map_cons, List.map_nil, hs, hx, hrun]
    obtain ⟨A', c', rfl, hsl'⟩ := own_shape h2
    exact hK _ _ (h A' c' w' ⟨by rw [show u8s (xs ++ bs) = u8s xs ++ u8s bs by simp [u8s]]; exact h2, hsl'⟩ h3 (Lib.hid h5))
end Go.Proofs.YtflbhicjaaeegaaDoor
