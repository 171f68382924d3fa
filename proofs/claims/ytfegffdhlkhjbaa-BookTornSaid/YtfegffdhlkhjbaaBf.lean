/-
  What is proved: rows of rows of bytes: how they lie in memory, and one more behind them; all that is new is the call's own. Conditions as stated.
-/
import Derived.Test.YtfegffdhlkhjbaaBe
namespace Go.Proofs.Ytfegffdhlkhjbaa
open Go.RowKit
set_option maxRecDepth 100000

/-- A slice of slices of bytes that reads as these; all its blocks are P. -/
def Rows (P : Nat → Prop) (w : World) (A : Option Addr) (n : Nat) (rs : List (List UInt8)) : Prop :=
  rs.length = n ∧ (0 < n → ∃ b o, A = some ⟨b, o, none⟩ ∧ b < w.heap.size ∧ P b ∧ ∀ (j : Nat) (r : List UInt8), rs[j]? = some r → ∃ Aj cj, w.cell? ⟨b, o + j, none⟩ = some (.slice Aj r.length cj) ∧ Rd P w Aj r.length r ∧ Sl Aj r.length cj)
theorem Rd.kept {P P' : Nat → Prop} {w w' : World} {A : Option Addr} {n : Nat} {bs : List UInt8} (h : Rd P w A n bs) (hk : ∀ b, P b → b < w.heap.size → P' b ∧ w'.heap[b]? = w.heap[b]?) : Rd P' w' A n bs := by
  refine ⟨h.1, fun hn => ?_⟩
  obtain ⟨b, o, e, hb, hp, hc⟩ := h.2 hn
  obtain ⟨h1, h2⟩ := hk b hp hb
  have hlt : b < w'.heap.size := by
    have : (w'.heap[b]?).isSome := by rw [h2, Array.getElem?_eq_getElem hb]; rfl
    obtain ⟨o, ho⟩ := Option.isSome_iff_exists.1 this
    exact (Array.getElem?_eq_some_iff.1 ho).1
  exact ⟨b, o, e, hlt, h1, fun j u hu => (World.cell?_of_block (a := ⟨b, o + j, none⟩) h2).trans (hc j u hu)⟩
theorem Rows.kept {P P' : Nat → Prop} {w w' : World} {A : Option Addr} {n : Nat} {rs : List (List UInt8)} (h : Rows P w A n rs) (hk : ∀ b, P b → b < w.heap.size → P' b ∧ w'.heap[b]? = w.heap[b]?) : Rows P' w' A n rs := by
  refine ⟨h.1, fun hn => ?_⟩
  obtain ⟨b, o, e, hb, hp, hc⟩ := h.2 hn
  obtain ⟨h1, h2⟩ := hk b hp hb
  have hlt : b < w'.heap.size := by
    have : (w'.heap[b]?).isSome := by rw [h2, Array.getElem?_eq_getElem hb]; rfl
    obtain ⟨o, ho⟩ := Option.isSome_iff_exists.1 this
    exact (Array.getElem?_eq_some_iff.1 ho).1
  refine ⟨b, o, e, hlt, h1, fun j r hr => ?_⟩
  obtain ⟨Aj, cj, k1, k2, k3⟩ := hc j r hr
  exact ⟨Aj, cj, (World.cell?_of_block (a := ⟨b, o + j, none⟩) h2).trans k1, k2.kept hk, k3⟩
theorem Rows.at {P : Nat → Prop} {w : World} {A : Option Addr} {n : Nat} {rs : List (List UInt8)} (h : Rows P w A n rs) {j : Nat} {r : List UInt8} (hr : rs[j]? = some r) :
    ∃ b o Aj cj, A = some ⟨b, o, none⟩ ∧ b < w.heap.size ∧ P b ∧ w.cell? ⟨b, o + j, none⟩ = some (.slice Aj r.length cj) ∧ Rd P w Aj r.length r ∧ Sl Aj r.length cj := by
  have hj := (List.getElem?_eq_some_iff.1 hr).1
  obtain ⟨b, o, e, hb, hp, hc⟩ := h.2 (by have := h.1; omega)
  obtain ⟨Aj, cj, k⟩ := hc j r hr
  exact ⟨b, o, Aj, cj, e, hb, hp, k⟩

/-- A row of the call's own of slices of bytes: no block of theirs is the row's. -/
def RowOwn (B : Nat) (w : World) (v : Value) (rs : List (List UInt8)) : Prop :=
  ∃ vs, w.ownsRow B 29 1 v rs.length vs ∧ ∀ (j : Nat) (r : List UInt8), rs[j]? = some r → ∃ Aj cj, vs[j]? = some (.slice Aj r.length cj) ∧ Rd (fun b => B ≤ b ∧ ∃ C, w.heap[b]? = some (.cells C 5 (0, 0))) w Aj r.length r ∧ Sl Aj r.length cj
theorem RowOwn.nil (B : Nat) (w : World) : RowOwn B w (.slice none 0 0) [] := ⟨[], World.ownsRow_nil _ _ _ _, fun j r h => by cases h⟩
theorem RowOwn.kept {B : Nat} {w w' : World} {v : Value} {rs : List (List UInt8)} (h : RowOwn B w v rs) (hk : ∀ k, B ≤ k → k < w.heap.size → w'.heap[k]? = w.heap[k]?) : RowOwn B w' v rs := by
  obtain ⟨vs, h1, h2⟩ := h
  refine ⟨vs, own_kept h1 (fun g e => hk g (own_lt h1 g e).1 (own_lt h1 g e).2), fun j r hr => ?_⟩
  obtain ⟨Aj, cj, k1, k2, k3⟩ := h2 j r hr
  exact ⟨Aj, cj, k1, k2.kept fun b hb hlt => ⟨⟨hb.1, hb.2.imp fun C hC => (hk b hb.1 hlt).trans hC⟩, hk b hb.1 hlt⟩, k3⟩
theorem RowOwn.below {B : Nat} {w w' : World} {v : Value} {rs : List (List UInt8)} (h : RowOwn B w v rs) (hb : Below w.heap.size w w') : RowOwn B w' v rs := h.kept fun k _ hk => hb.block k hk
theorem RowOwn.shape {B : Nat} {w : World} {v : Value} {rs : List (List UInt8)} (h : RowOwn B w v rs) : ∃ A c, v = .slice A rs.length c ∧ Sl A rs.length c := by
  obtain ⟨vs, h1, _⟩ := h
  exact row_shape (e := 29) h1
theorem RowOwn.rows {B : Nat} {w : World} {A : Option Addr} {n c : Nat} {rs : List (List UInt8)} (h : RowOwn B w (.slice A n c) rs) : Rows (fun b => B ≤ b) w A n rs ∧ Sl A n c := by
  obtain ⟨A', c', e, hs⟩ := h.shape
  injection e with e1 e2 e3
  subst e1 e2 e3
  refine ⟨⟨rfl, fun hn => ?_⟩, hs⟩
  obtain ⟨vs, h1, h2⟩ := h
  have h1' := h1
  rcases h1.2 with ⟨_, h0⟩ | ⟨g, cap, cur, e, hB, hg, hn', hm, hz, ht⟩
  · omega
  · injection e with e1 e2 e3
    subst e1
    refine ⟨g, 0, rfl, (Array.getElem?_eq_some_iff.1 hg).1, hB, fun j r hr => ?_⟩
    obtain ⟨Aj, cj, k1, k2, k3⟩ := h2 j r hr
    refine ⟨Aj, cj, ?_, k2.kept fun b hb _ => ⟨hb.1, rfl⟩, k3⟩
    rw [Nat.zero_add]
    have := h1'.cells (g := g) rfl j _ k1
    rwa [Addr.add_lit, Nat.zero_add] at this
theorem Try.info29 : (Try.prog.info? 29).map (fun i => (i.zero, i.size, i.bytes)) = some (some (.slice none 0 0), 1, 24) := by kernel_rfl
/-- One more slice behind the others: it was laid just now. -/
theorem wpList_push {w : World} {ops : Array Oper} {rest : List Oper} {o : Oper} {a : Act} {Q : Exit → Act → World → Prop} (hgd : o.guard = none) (s x : Operand)
    (ho : o.op = Op.call { callee := Callee.builtin Builtin.append, args := #[s, x], argTypes := #[28, 28] })
    (B : Nat) (v : Value) (rs : List (List UInt8)) (A : Option Addr) (m c : Nat) (r : List UInt8) (hs : a.eval s = v) (hx : a.eval x = .slice (some ⟨w.heap.size, 0, none⟩) 1 1)
    (hown : RowOwn B w v rs) (hr : Rd (fun b => B ≤ b ∧ ∃ C, w.heap[b]? = some (.cells C 5 (0, 0))) w A m r) (hsl : Sl A m c) (hB : B ≤ w.heap.size) (hm : rs.length < 1000000)
    (h : ∀ A' c' w', Hid (RowOwn B w' (.slice A' (rs.length + 1) c') (rs ++ [r])) → Hid (w.grownBy w' v.ownBlock) → wpList Try.prog ops Q rest (a.put o.dst (.slice A' (rs.length + 1) c')) w') :
    wpList Try.prog ops Q (o :: rest) a (w.alloc (.cells #[.slice A m c] 29)) := by
  obtain ⟨i0, hi, hz0, hz1, hz2⟩ := info_parts Try.info29
  obtain ⟨vs, h1, h2⟩ := hown
  refine wpList_append_own _ hgd s x 28 ho B 29 i0 (.slice none 0 0) 1 24 Try.underlying28 hi hz0 hz1 hz2 rfl (by decide) v rs.length vs hs (h1.alloc _) ⟨w.heap.size, 0, none⟩ 1 1 [.slice A m c] hx rfl (cell_one_new _ _ _) (by intro u hu; simp at hu; subst hu; rfl) (by unfold maxLen; omega) (by omega) (by simp; omega) ?_
  intro v' w' hv' hg' _
  have hgo : w.grownBy w' v.ownBlock := ⟨hg'.os, hg'.tape, hg'.output, Nat.le_trans (by simp) hg'.size, fun k hk hn => (hg'.block k (by simp; omega) hn).trans (heap_alloc_old w _ hk)⟩
  have hkeep : ∀ b, (B ≤ b ∧ ∃ C, w.heap[b]? = some (.cells C 5 (0, 0))) → b < w.heap.size → (B ≤ b ∧ ∃ C, w'.heap[b]? = some (.cells C 5 (0, 0))) ∧ w'.heap[b]? = w.heap[b]? := by
    intro b hb hlt
    have hne : v.ownBlock ≠ some b := by
      intro e
      obtain ⟨C, hC⟩ := hb.2
      rcases h1.2 with ⟨rfl, _⟩ | ⟨g, cap, cur, rfl, _, hg, _⟩
      · simp [Value.ownBlock] at e
      · simp only [Value.ownBlock, Option.some.injEq] at e
        subst e
        rw [hg] at hC
        injection hC with hC
        injection hC with _ hC
        exact absurd hC (by decide)
    have he := hgo.block b hlt (fun e => hne e.symm)
    exact ⟨⟨hb.1, hb.2.imp fun C hC => he.trans hC⟩, he⟩
  have hrow : RowOwn B w' v' (rs ++ [r]) := by
    refine ⟨vs ++ [.slice A m c], by rw [List.length_append]; exact hv', fun j q hq => ?_⟩
    have hvl : vs.length = rs.length := by have := h1.1; omega
    have hrm : r.length = m := hr.1
    by_cases hj : j < rs.length
    · rw [List.getElem?_append_left hj] at hq
      obtain ⟨Aj, cj, k1, k2, k3⟩ := h2 j q hq
      exact ⟨Aj, cj, by rw [List.getElem?_append_left (by omega)]; exact k1, k2.kept hkeep, k3⟩
    · have hj' : j = rs.length := by
        have := (List.getElem?_eq_some_iff.1 hq).1
        simp at this
        omega
      subst hj'
      rw [List.getElem?_append_right (Nat.le_refl _), Nat.sub_self] at hq
      simp only [List.getElem?_cons_zero, Option.some.injEq] at hq
      subst hq
      refine ⟨A, c, ?_, ?_, ?_⟩
      · rw [← hvl, List.getElem?_append_right (Nat.le_refl _), Nat.sub_self, hrm]
        rfl
      · rw [hrm]; exact hr.kept hkeep
      · rw [hrm]; exact hsl
  obtain ⟨A', c', rfl, _⟩ := hrow.shape
  rw [List.length_append] at hrow ⊢
  exact h A' c' w' (Lib.hid hrow) (Lib.hid hgo)

theorem own_typed {B n c : Nat} {w : World} {A : Option Addr} {bs : List UInt8} (h : w.ownsRow B 5 1 (.slice A n c) n (u8s bs)) : Rd (fun b => B ≤ b ∧ ∃ C, w.heap[b]? = some (.cells C 5 (0, 0))) w A n bs := by
  have hr := Oct.Rd.of_own h
  refine ⟨hr.1, fun hn => ?_⟩
  obtain ⟨b, o, e, hlt, hc⟩ := hr.2 hn
  subst e
  rcases h.2 with ⟨e, _⟩ | ⟨g, cap, cur, e, hB, hg, _⟩
  · cases e
  · injection e with e
    injection e with e
    injection e with e1 e2
    subst e1
    exact ⟨b, o, rfl, hlt, ⟨hB, cur, hg⟩, hc⟩
/-- All memory that is new. -/
def freshOf (w w' : World) : List (Nat × Obj) := (List.range (w'.heap.size - w.heap.size)).filterMap fun i => (w'.heap[w.heap.size + i]?).map fun o => (w.heap.size + i, o)
theorem mem_freshOf {w w' : World} {k : Nat} {o : Obj} : (k, o) ∈ freshOf w w' ↔ w.heap.size ≤ k ∧ w'.heap[k]? = some o := by
  unfold freshOf
  simp only [List.mem_filterMap, List.mem_range, Option.map_eq_some_iff, Prod.mk.injEq]
  constructor
  · rintro ⟨i, hi, o', ho, rfl, rfl⟩
    exact ⟨by omega, ho⟩
  · rintro ⟨h1, h2⟩
    have := (Array.getElem?_eq_some_iff.1 h2).1
    exact ⟨k - w.heap.size, by omega, o, by rw [show w.heap.size + (k - w.heap.size) = k by omega]; exact h2, by omega, rfl⟩
/-- The call's own book is turned, and all that is new is its own. -/
theorem Dat.wide {w wr w' : World} {d T g : Nat} {s : Dk} {L : List (Nat × Obj)} {o o' : Obj} (h : Dat w d T s ((g, o) :: L) wr) (hne : ∀ p ∈ L, p.1 ≠ g) (ht : Turns (· = g) wr w') (hg : w'.heap[g]? = some o') : Dat w d T s ((g, o') :: (freshOf wr w' ++ L)) w' := by
  have hlt := h.lt (q := g) (.head _)
  obtain ⟨S, h1, h2, h3⟩ := h
  have hS : ¬ S g := (h3 (g, o) (.head _)).2.1
  refine ⟨S, h1.turns ht (fun k hk e => hS (e ▸ hk)), ⟨h2.1.step ht (fun k e => .inr (by subst e; exact (h3 (k, o) (.head _)).1)), h2.2⟩, fun p hp => ?_⟩
  rcases List.mem_cons.1 hp with rfl | hp
  · exact ⟨(h3 (g, o) (.head _)).1, hS, hg⟩
  · rcases List.mem_append.1 hp with hp | hp
    · obtain ⟨k, ob⟩ := p
      obtain ⟨a, b⟩ := mem_freshOf.1 hp
      exact ⟨Nat.le_trans h2.1.size a, (fun x => by have := h1.lt _ x; simp only at this; omega), b⟩
    · obtain ⟨a, b, c⟩ := h3 p (.tail _ hp)
      exact ⟨a, b, (ht.block _ (Array.getElem?_eq_some_iff.1 c).1 (fun e => hne p hp e)).trans c⟩
/-- .. where nothing is turned. -/
theorem Dat.wide0 {w wr w' : World} {d T : Nat} {s : Dk} {L : List (Nat × Obj)} (h : Dat w d T s L wr) (hb : Below wr.heap.size wr w') : Dat w d T s (freshOf wr w' ++ L) w' := by
  obtain ⟨S0, g1, g2, g3⟩ := h
  have ht : Turns (fun _ => False) wr w' := Turns.of_below hb
  refine ⟨S0, g1.turns ht (fun k _ e => e), ⟨g2.1.step ht (fun k e => e.elim), g2.2⟩, fun p hp => ?_⟩
  rcases List.mem_append.1 hp with hp | hp
  · obtain ⟨k, ob⟩ := p
    obtain ⟨a, b⟩ := mem_freshOf.1 hp
    exact ⟨Nat.le_trans g2.1.size a, (fun x => by have := g1.lt _ x; simp only at this; omega), b⟩
  · obtain ⟨a, b, c⟩ := g3 p hp
    exact ⟨a, b, (hb.block _ (Array.getElem?_eq_some_iff.1 c).1).trans c⟩

/-- What was there ahead of the law, or is its own. -/
def Stay (w : World) (L : List (Nat × Obj)) (b : Nat) : Prop := b < w.heap.size ∨ ∃ o, (b, o) ∈ L
theorem Stay.kept {w W W' : World} {d d' T T' : Nat} {s s' : Dk} {L L' : List (Nat × Obj)} (h : Dat w d T s L W) (h' : Dat w d' T' s' L' W') (hs : ∀ p ∈ L, p ∈ L') : ∀ b, Stay w L b → b < W.heap.size → Stay w L' b ∧ W'.heap[b]? = W.heap[b]? := by
  rintro b (hb | ⟨o, ho⟩) _
  · exact ⟨.inl hb, (h'.below.block b hb).trans (h.below.block b hb).symm⟩
  · exact ⟨.inr ⟨o, hs _ ho⟩, (h'.get (hs _ ho)).trans (h.get ho).symm⟩
theorem Rows.go {w W W' : World} {d d' T T' : Nat} {s s' : Dk} {L L' : List (Nat × Obj)} {A : Option Addr} {n : Nat} {rs : List (List UInt8)} (h : Rows (Stay w L) W A n rs) (hD : Dat w d T s L W) (hD' : Dat w d' T' s' L' W') (hs : ∀ p ∈ L, p ∈ L') : Rows (Stay w L') W' A n rs := h.kept (Stay.kept hD hD' hs)
theorem Rd.src {w W : World} {d T : Nat} {s : Dk} {L : List (Nat × Obj)} {A : Option Addr} {n : Nat} {bs : List UInt8} (h : Rd (Stay w L) W A n bs) (hD : Dat w d T s L W) : Src w L A n bs := by
  intro W' hb hL
  have k := h.kept (P' := fun _ => True) (w' := W') (fun b hb' hlt => ⟨trivial, by
    rcases hb' with hb' | ⟨o, ho⟩
    · exact (hb.block b hb').trans (hD.below.block b hb').symm
    · exact (hL _ ho).trans (hD.get ho).symm⟩)
  exact ⟨k.1, fun hn => let ⟨b, o, e, hlt, _, hc⟩ := k.2 hn; ⟨b, o, e, hlt, hc⟩⟩
end Go.Proofs.Ytfegffdhlkhjbaa
