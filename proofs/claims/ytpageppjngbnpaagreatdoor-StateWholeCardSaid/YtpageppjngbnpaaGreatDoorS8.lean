/-
  What is proved: a region that draws its order may be walked under a condition on the world that is made stronger on the way; an append into a row with room, told whole. Conditions as stated.
  What is proved: appends to a row of the call's own, with what else may have turned: only that row's block. Conditions as stated.
  What is proved: what the document's own with and Of of tag answer. Conditions as stated.
  What is proved: what the document's own key, Replica, Client and Numbered of tag answer. Conditions as stated.
-/
import Derived.Test.YtpageppjngbnpaaGreatDoorS5
import Derived.Deep.RegionHeld
import Derived.RegionTactic
import Derived.Laws.OwnMore
import Derived.Deep.Cut
import Derived.Deep.RegionLaw

namespace Go.Proofs.YtpageppjngbnpaaGreatDoor.Sh
set_option maxRecDepth 100000
open Go.RowKit

theorem wpAnyH_mono {P : Program} {md : Region.Mode} {ops : Array Oper} {Q : Exit → Act → World → Prop} {S S' : World → Prop} (hS : ∀ w, S' w → S w) : ∀ (fuel : Nat) (listed : Array Bool) (a : Act) (w : World), wpAnyH P md ops Q S' fuel listed a w → wpAnyH P md ops Q S fuel listed a w
  | 0, _, _, _, h => h
  | fuel + 1, _, _, _, h => ⟨h.1, fun i hi => wpOp_mono (fun a' w' h' => ⟨hS _ h'.1, wpAnyH_mono hS fuel _ a' w' h'.2⟩) (h.2 i hi)⟩

/-- From here on all memory that there is stays as it is. -/
theorem wpAnyH_next {P : Program} {md : Region.Mode} {ops : Array Oper} {Q : Exit → Act → World → Prop} {w0 w1 : World} (hb : Below w0.heap.size w0 w1) {fuel : Nat} {listed : Array Bool} {a : Act}
    (h : wpAnyH P md ops Q (fun W => Below w1.heap.size w1 W) fuel listed a w1) : wpAnyH P md ops Q (fun W => Below w0.heap.size w0 W) fuel listed a w1 :=
  wpAnyH_mono (fun _ h => hb.trans (h.mono hb.size)) _ _ _ _ h

/-- append of bytes that came in into an empty row with room, told whole. -/
theorem wpList_append_into {Pr : Nat → Prop} {w0 w : World} {ops : Array Oper} {rest : List Oper} {o : Oper} {a : Act} {Q : Exit → Act → World → Prop} (hgd : o.guard = none) (s x : Operand)
    (ho : o.op = Op.call { callee := Callee.builtin Builtin.append, args := #[s, x], argTypes := #[23, 23] })
    (g cap m c : Nat) (A : Option Addr) (bs : List UInt8) (hs : a.eval s = .slice (some ⟨g, 0, none⟩) 0 cap) (hx : a.eval x = .slice A m c)
    (hg : Hid (w.heap[g]? = some (.cells (List.replicate cap (Value.int .u8 0)).toArray 5 (0, 0)))) (hr : Rd Pr w A m bs) (hsl : Sl A m c) (hb : Below g w0 w) (hm : m ≤ cap) (hcap : cap ≤ 9223372036854775807)
    (h : ∀ w', Hid (w'.heap[g]? = some (.cells (splice (List.replicate cap (Value.int .u8 0)) 0 (u8s bs)).toArray 5 (0, 0))) → Below g w0 w' → w.heap.size ≤ w'.heap.size → wpList Tryz.prog ops Q rest (a.put o.dst (.slice (some ⟨g, 0, none⟩) m cap)) w') :
    wpList Tryz.prog ops Q (o :: rest) a w := by
  obtain ⟨i0, hi, hz0, hz1, hz2⟩ := info_parts Tryz.info5
  refine wpList_plain hgd fun K hK' => ?_
  rcases A with _ | ad
  · obtain ⟨rfl, rfl⟩ := hsl.1 rfl
    have hbs : bs = [] := List.eq_nil_of_length_eq_zero hr.1
    subst hbs
    have hown : w.ownsRow g 5 1 (.slice (some ⟨g, 0, none⟩) 0 cap) 0 [] := ⟨rfl, .inr ⟨g, cap, _, rfl, Nat.le_refl _, hg.out, Nat.zero_le _, by unfold maxLen; omega, by simp, by simp⟩⟩
    have hrun := run_append_owned_none (P := Tryz.prog) w g 23 o.type 5 i0 1 Tryz.underlying23 hi _ 0 _ hown
    unfold Oper.wp
    simp [execOp, ho, resolve, invoke, builtin, hs, hx, hrun, Result.andThen]
    exact hK' _ _ (h w (by show _ = _; rw [hg.out]; simp [splice, u8s]) hb (Nat.le_refl _))
  · have hl : (u8s bs).length = m * i0.size := by rw [u8s_length, hr.1, hz1]; omega
    have hcells : ∀ j u, (u8s bs)[j]? = some u → w.cell? (ad.add j) = some u := by
      intro j u hu
      have hp : 0 < (u8s bs).length := by have := (List.getElem?_eq_some_iff.1 hu).1; omega
      obtain ⟨ad2, had, hc⟩ := hr.src hp
      injection had with had
      subst had
      exact hc j u hu
    have hrun := run_append_room (P := Tryz.prog) w 23 o.type 5 i0 Tryz.underlying23 hi g 0 cap _ hg.out ad m c (u8s bs) hl hcells (u8s_one bs) (by omega) (by rw [hl, hz1]; simp; omega)
    have hsp : ((List.replicate cap (Value.int .u8 0)).toArray.toList.take (0 * i0.size) ++ u8s bs ++ (List.replicate cap (Value.int .u8 0)).toArray.toList.drop (0 * i0.size + (u8s bs).length)) = splice (List.replicate cap (Value.int .u8 0)) 0 (u8s bs) := by simp [splice]
    rw [hsp, Nat.zero_add] at hrun
    unfold Oper.wp
    simp only [execOp, ho, resolve, invoke, builtin, Sem.run_bind, Sem.run_pure, Result.andThen_ok, List.map_toArray, List.map_cons, List.map_nil, hs, hx, hrun]
    exact hK' _ _ (h _ (setRow_heap w g _ _ 5 _ hg.out) (below_setRow hb (Nat.le_refl _) _) (by simp [World.setRow]))
end Go.Proofs.YtpageppjngbnpaaGreatDoor.Sh

namespace Go.Proofs.YtpageppjngbnpaaGreatDoor.Sh
set_option maxRecDepth 100000
open Go.RowKit

/-- append of bytes onto a row of the call's own; no block but that row's has turned. -/
theorem wp_append_gb {w : World} {o : Oper} {a : Act} {K : Act → World → Prop} {Q : Exit → Act → World → Prop} (s x : Operand)
    (ho : o.op = Op.call { callee := Callee.builtin Builtin.append, args := #[s, x], argTypes := #[23, 23] })
    (B n m c : Nat) (v : Value) (A : Option Addr) (xs bs : List UInt8) (hs : a.eval s = v) (hx : a.eval x = .slice A m c)
    (hown : w.ownsRow B 5 1 v n (u8s xs)) {Pr : Nat → Prop} (hr : Rd Pr w A m bs) (hsl : Sl A m c) (hB : B ≤ w.heap.size) (hm : n + m ≤ 140737488355328)
    (h : ∀ A' c' w', Hid (w'.ownsRow B 5 1 (.slice A' (n + m) c') (n + m) (u8s (xs ++ bs)) ∧ Sl A' (n + m) c') → Hid (w.grownBy w' v.ownBlock) → K (a.put o.dst (.slice A' (n + m) c')) w') :
    o.wp Tryz.prog a w K Q := by
  obtain ⟨i0, hi, hz0, hz1, hz2⟩ := info_parts Tryz.info5
  rcases A with _ | ad
  · obtain ⟨rfl, rfl⟩ := hsl.1 rfl
    have hbs : bs = [] := List.eq_nil_of_length_eq_zero hr.1
    subst hbs
    obtain ⟨A', c', rfl, hsl'⟩ := own_shape hown
    have hrun := run_append_owned_none (P := Tryz.prog) w B 23 o.type 5 i0 1 Tryz.underlying23 hi _ n _ hown
    unfold Oper.wp
    simp [execOp, ho, resolve, invoke, builtin, hs, hx, hrun, Result.andThen]
    have h2 := h A' c' w ⟨by simpa using hown, by simpa using hsl'⟩ (World.grownBy.refl w _)
    rw [Nat.add_zero] at h2
    exact h2
  · have hl : (u8s bs).length = m * 1 := by rw [u8s_length, hr.1]; omega
    refine wp_append_own w s x 23 ho B 5 i0 (.int .u8 0) 1 1 Tryz.underlying23 hi hz0 hz1 hz2 rfl (by decide) v n _ hs hown ad m c (u8s bs) hx hl ?_ (u8s_one bs) (by unfold maxLen; omega) (by omega) hB ?_
    · intro j u hu
      have hp : 0 < (u8s bs).length := by have := (List.getElem?_eq_some_iff.1 hu).1; omega
      obtain ⟨ad2, had, hc⟩ := hr.src hp
      injection had with had
      subst had
      exact hc j u hu
    · intro v' w' hv' hg' _
      obtain ⟨A', c', rfl, hsl'⟩ := own_shape hv'
      exact h A' c' w' ⟨by rw [show u8s (xs ++ bs) = u8s xs ++ u8s bs by simp [u8s]]; exact hv', hsl'⟩ hg'
theorem wpList_append_gb {w : World} {ops : Array Oper} {rest : List Oper} {o : Oper} {a : Act} {Q : Exit → Act → World → Prop} (hgd : o.guard = none) (s x : Operand)
    (ho : o.op = Op.call { callee := Callee.builtin Builtin.append, args := #[s, x], argTypes := #[23, 23] })
    (B n m c : Nat) (v : Value) (A : Option Addr) (xs bs : List UInt8) (hs : a.eval s = v) (hx : a.eval x = .slice A m c)
    (hown : w.ownsRow B 5 1 v n (u8s xs)) {Pr : Nat → Prop} (hr : Rd Pr w A m bs) (hsl : Sl A m c) (hB : B ≤ w.heap.size) (hm : n + m ≤ 140737488355328)
    (h : ∀ A' c' w', Hid (w'.ownsRow B 5 1 (.slice A' (n + m) c') (n + m) (u8s (xs ++ bs)) ∧ Sl A' (n + m) c') → Hid (w.grownBy w' v.ownBlock) → wpList Tryz.prog ops Q rest (a.put o.dst (.slice A' (n + m) c')) w') :
    wpList Tryz.prog ops Q (o :: rest) a w :=
  wpList_plain hgd fun _ hK => wp_append_gb s x ho B n m c v A xs bs hs hx hown hr hsl hB hm fun A' c' w' h1 h2 => hK _ _ (h A' c' w' h1 h2)
theorem step_append_gb {w : World} {ops : Array Oper} {o : Oper} {a : Act} {K : Act → World → Prop} {Q : Exit → Act → World → Prop} {E : Prop} (hgd : o.guard = none) (s x : Operand)
    (ho : o.op = Op.call { callee := Callee.builtin Builtin.append, args := #[s, x], argTypes := #[23, 23] })
    (B n m c : Nat) (v : Value) (A : Option Addr) (xs bs : List UInt8) (hs : a.eval s = v) (hx : a.eval x = .slice A m c)
    (hown : w.ownsRow B 5 1 v n (u8s xs)) {Pr : Nat → Prop} (hr : Rd Pr w A m bs) (hsl : Sl A m c) (hB : B ≤ w.heap.size) (hm : n + m ≤ 140737488355328)
    (h : ∀ A' c' w', Hid (w'.ownsRow B 5 1 (.slice A' (n + m) c') (n + m) (u8s (xs ++ bs)) ∧ Sl A' (n + m) c') → Hid (w.grownBy w' v.ownBlock) → K (a.put o.dst (.slice A' (n + m) c')) w') :
    if Region.wanted o (yielded ops a.tmps) = true then Oper.wp Tryz.prog o a w K Q else E := by
  have hw : Region.wanted o (yielded ops a.tmps) = true := by simp [Region.wanted, hgd]
  rw [if_pos hw]
  exact wp_append_gb s x ho B n m c v A xs bs hs hx hown hr hsl hB hm h

/-- append of one byte; no block but that row's has turned. -/
theorem wpList_append_byte_gb {wr : World} {ops : Array Oper} {rest : List Oper} {o : Oper} {a : Act} {Q : Exit → Act → World → Prop} (hgd : o.guard = none) (s x : Operand)
    (ho : o.op = Op.call { callee := Callee.builtin Builtin.append, args := #[s, x], argTypes := #[23, 23] })
    (B n : Nat) (v : Value) (xs : List UInt8) (z : Int) (u : UInt8) (hs : a.eval s = v) (hx : a.eval x = .slice (some ⟨wr.heap.size, 0, none⟩) 1 1)
    (hown : wr.ownsRow B 5 1 v n (u8s xs)) (hB : B ≤ wr.heap.size) (hz : z = (u.toNat : Int)) (hm : n + 1 ≤ 140737488355328)
    (h : ∀ A' c' w', Hid (w'.ownsRow B 5 1 (.slice A' (n + 1) c') (n + 1) (u8s (xs ++ [u])) ∧ Sl A' (n + 1) c') → Hid (wr.grownBy w' v.ownBlock) → wpList Tryz.prog ops Q rest (a.put o.dst (.slice A' (n + 1) c')) w') :
    wpList Tryz.prog ops Q (o :: rest) a (wr.alloc (.cells #[.int .u8 z] 5)) := by
  refine wpList_append_gb hgd s x ho B n 1 1 v _ xs [u] hs hx (hown.alloc _) (Pr := fun _ => True) ⟨rfl, fun _ => ⟨_, 0, rfl, by simp, trivial, fun j y hy => ?_⟩⟩ ⟨(fun h => (by cases h)), Nat.le_refl _, by omega⟩ (by simp; omega) hm
    fun A' c' w' h1 h2 => h A' c' w' h1 (Lib.hid (gb_trans (World.grownBy_alloc wr _ _) h2.out))
  match j, hy with
  | 0, hy =>
    simp at hy
    subst hy hz
    exact cell_of_row _ _ 0 _ 5 (0, 0) (heap_alloc_new wr _)

/-- Two rows whose first bytes are unlike lie in blocks of their own. -/
theorem own_differ {w : World} {B B' n n' : Nat} {v v' : Value} {xs ys : List UInt8} {x y : UInt8} (h : w.ownsRow B 5 1 v n (u8s xs)) (h' : w.ownsRow B' 5 1 v' n' (u8s ys)) (hx : xs[0]? = some x) (hy : ys[0]? = some y) (hne : x ≠ y) : v.ownBlock ≠ v'.ownBlock := by
  intro e
  cases hv : v.ownBlock with
  | none =>
    rcases h.2 with ⟨_, h0⟩ | ⟨g, cap, cur, rfl, _⟩
    · have : xs = [] := List.eq_nil_of_length_eq_zero (by have h1 := h.1; rw [u8s_length, h0] at h1; omega)
      subst this
      cases hx
    · simp [Value.ownBlock] at hv
  | some g =>
    have c1 := h.cells hv 0 (.int .u8 (x.toNat : Int)) (by simp [u8s, hx])
    have c2 := h'.cells (e ▸ hv) 0 (.int .u8 (y.toNat : Int)) (by simp [u8s, hy])
    rw [c1] at c2
    injection c2 with c2
    injection c2 with _ c3
    apply hne
    apply UInt8.toNat_inj.1
    omega
end Go.Proofs.YtpageppjngbnpaaGreatDoor.Sh

namespace Go.Proofs.YtpageppjngbnpaaGreatDoor.Sh
set_option maxRecDepth 100000
open Go.RowKit

theorem own_at (w w3 : World) (h : w.heap.size ≤ w3.heap.size) : (w3.alloc (.cells #[] 5)).ownsRow w.heap.size 5 1 (.slice (some ⟨w3.heap.size, 0, none⟩) 0 0) 0 (u8s []) :=
  World.ownsRow_lit w3 #[] 0 h (Nat.zero_le _) rfl

theorem there_grownO {w w' : World} {b o n : Nat} {row : Option Nat} (h : w.there b o n) (hb : w.grownBy w' row) (hne : ∀ k, row = some k → b ≠ k) : w'.there b o n := fun j hj => by
  obtain ⟨u, hu⟩ := Option.isSome_iff_exists.1 (h j hj).1
  have hlt := World.block_lt_of_cell? w _ hu
  exact ⟨by rw [hb.cell hu (fun e => hne b e.symm rfl)]; rfl, by rw [World.frozen?_of_block (w := w) (hb.block b hlt (fun e => hne b e.symm rfl))]; exact (h j hj).2⟩

/-- A row and so many noughts. -/
def NtAt (L : Nat) (sh : List UInt8) (j c : Nat) (A : Option Addr) (w wr : World) : Prop :=
  wr.ownsRow w.heap.size 5 1 (.slice A (L + j) c) (L + j) (u8s (sh ++ List.replicate j 0)) ∧ Sl A (L + j) c ∧ Below w.heap.size w wr
theorem NtAt.zero {L c : Nat} {sh : List UInt8} {A : Option Addr} {w wr : World} (h1 : wr.ownsRow w.heap.size 5 1 (.slice A L c) L (u8s sh)) (h2 : Sl A L c) (h3 : Below w.heap.size w wr) : NtAt L sh 0 c A w wr :=
  ⟨by simpa using h1, h2, h3⟩

/-- What lies there when the outer digest is taken. -/
def OuAt (g5 : Nat) (d : List UInt8) (w wr : World) : Prop := Below w.heap.size w wr ∧ wr.rangeAt g5 0 (u8s d) ∧ wr.there w.heap.size 0 32 ∧ g5 < wr.heap.size ∧ w.heap.size < wr.heap.size
theorem OuAt.next {g5 : Nat} {d : List UInt8} {w wr w' : World} (H : OuAt g5 d w wr) (hb : Below wr.heap.size wr w') : OuAt g5 d w w' :=
  ⟨H.1.trans (hb.mono H.1.size), rangeAt_below H.2.1 hb H.2.2.2.1, there_below H.2.2.1 hb H.2.2.2.2, Nat.lt_of_lt_of_le H.2.2.2.1 hb.size, Nat.lt_of_lt_of_le H.2.2.2.2 hb.size⟩
theorem OuAt.drewN {g5 : Nat} {d : List UInt8} {w wr : World} (H : OuAt g5 d w wr) (q : Nat) : OuAt g5 d w (wr.drewN q) := ⟨below_drewN H.1 q, H.2⟩
theorem OuAt.grown {g5 B k : Nat} {d : List UInt8} {v : Value} {xs : List Value} {w wr w1 w' : World} (H : OuAt g5 d w wr) (hb : Below wr.heap.size wr w1) (ho : w1.ownsRow B 5 1 v k xs) (hB : wr.heap.size ≤ B) (hg : w1.grownBy w' v.ownBlock) : OuAt g5 d w w' :=
  H.next (hb.grown hg hb.size fun k hk => by have := (ho.lt k hk).1; omega)

end Go.Proofs.YtpageppjngbnpaaGreatDoor.Sh

namespace Go.Proofs.YtpageppjngbnpaaGreatDoor.Sh
set_option maxRecDepth 100000
open Go.RowKit

theorem Rd.grownAt {w w' : World} {A : Option Addr} {B n : Nat} {bs : List UInt8} {row : Option Nat} (h : Rd (· < B) w A n bs) (hg : w.grownBy w' row) (hr : ∀ k, row = some k → B ≤ k) : Rd (fun _ => True) w' A n bs := by
  refine ⟨h.1, fun hn => ?_⟩
  obtain ⟨b, o, hA, hlt, hp, hc⟩ := h.2 hn
  exact ⟨b, o, hA, Nat.lt_of_lt_of_le hlt hg.size, trivial, fun j u hu => hg.cell (hc j u hu) (fun e => by have := hr b e.symm; have hp' : b < B := hp; omega)⟩

end Go.Proofs.YtpageppjngbnpaaGreatDoor.Sh
