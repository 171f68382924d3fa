/-
  What is proved: the walk of BookTorn for whatever comes in. Conditions as stated.
-/
import Derived.Test.YtfegffdhlkhjbaaBt
namespace Go.Proofs.Ytfegffdhlkhjbaa
open Go.RowKit Go.ChangeShapes Go.WideShapes Go.Deep
set_option maxRecDepth 100000


theorem rec_head {s : Dk} {y : Int} {l n : Nat} {r : List UInt8} (h : RecIs s y l n r) (hl : l < 1000000) (hn : n < 1000000000) (hr : r.length ≤ 4096) {z : Int} (h1 : y ≤ z) (h2 : z < y + pagesN r.length) : headAt s z = (l, n, (z - y).toNat, pagesN r.length) := by
  have hpl := pagesN_le r.length hr
  have := h (z - y).toNat (by omega)
  rw [show y + ((z - y).toNat : Int) = z by omega] at this
  exact (headAt_is this (by omega) (by omega) (by omega) (by omega)).1
theorem stand_head {s : Dk} {M : Nat} (hM : M < 1000000) : ∀ (q : List (Nat × List UInt8)) (y : Int) (n a : Nat), Stand s y n q → Rising a M q → n + q.length < 1000000000 → ∀ z, y ≤ z → z < endOf y q → (headAt s z).1 ≤ M
  | [], y, n, a, _, _, _, z, h1, h2 => by rw [endOf] at h2; omega
  | p :: q, y, n, a, ⟨k1, k2⟩, ⟨r1, r2, r3, r4⟩, hn, z, h1, h2 => by
    rw [List.length_cons] at hn
    by_cases hz : z < y + pagesN p.2.length
    · rw [rec_head k1 (by omega) (by omega) r3 h1 hz]
      exact r2
    · exact stand_head hM q _ (n + 1) p.1 k2 r4 (by omega) z (by omega) (by rw [endOf] at h2; exact h2)
theorem endOf_app : ∀ (q1 q2 : List (Nat × List UInt8)) (y : Int), endOf y (q1 ++ q2) = endOf (endOf y q1) q2
  | [], _, _ => rfl
  | p :: q1, q2, y => by rw [List.cons_append, endOf, endOf_app q1 q2, endOf]
theorem stand_app {s : Dk} : ∀ {q1 q2 : List (Nat × List UInt8)} {y : Int} {n : Nat}, Stand s y n (q1 ++ q2) → Stand s y n q1 ∧ Stand s (endOf y q1) (n + q1.length) q2
  | [], _, _, _, h => ⟨trivial, h⟩
  | p :: q1, q2, y, n, ⟨h1, h2⟩ => by
    obtain ⟨k1, k2⟩ := stand_app h2
    refine ⟨⟨h1, k1⟩, ?_⟩
    rw [endOf, List.length_cons, show n + (q1.length + 1) = n + 1 + q1.length by omega]
    exact k2
theorem rising_app {M : Nat} : ∀ {q1 q2 : List (Nat × List UInt8)} {a : Nat}, Rising a M (q1 ++ q2) → Rising a M q1 ∧ Rising (lastL a q1) M q2
  | [], _, _, h => ⟨trivial, h⟩
  | _ :: _, _, _, ⟨h1, h2, h3, h4⟩ => ⟨⟨h1, h2, h3, (rising_app h4).1⟩, (rising_app h4).2⟩
/-- A page of a record is spoilt: the records ahead are there. -/
theorem BookIs.spoilt {s s2 : Dk} {x E : Int} {M K a na C l : Nat} {r : List UInt8} {q1 q2 : List (Nat × List UInt8)} (h : BookIs s x E M K (q1 ++ (l, r) :: q2) a na C) (hKM : K ≤ M) (hx : 0 ≤ x) (hE : E ≤ 32768) (j : Nat) (hj : j < pagesN r.length)
    (hsame : ∀ z, 0 ≤ z ∧ z < 32768 → z ≠ endOf (x + 20) q1 + j → s2.read z = s.read z)
    (hnew : (headAt s2 (endOf (x + 20) q1 + j)).1 = 0 ∨ 1000000 ≤ (headAt s2 (endOf (x + 20) q1 + j)).1) : BookIs s2 x E M M q1 a na C := by
  obtain ⟨hs1, hs2⟩ := stand_app h.stand
  obtain ⟨hr1, hr2⟩ := rising_app h.rise
  obtain ⟨g1, g2, g3, g4⟩ := hr2
  simp only at g1 g2 g3
  have hg1 := endOf_ge q1 (x + 20)
  have hg2 := endOf_ge q2 (endOf (x + 20) q1 + pagesN r.length)
  have hf := h.fit
  rw [endOf_app, endOf] at hf
  simp only at hf
  have hm := h.many
  rw [List.length_append, List.length_cons] at hm
  have hlf := h.life
  have hlow := h.low
  rw [endOf_app, endOf] at hlow
  simp only at hlow
  have h1L : 1 ≤ lastL 1 q1 := by
    rcases Nat.eq_zero_or_pos M with h0 | h0
    · have := g1; have := g2
      have hne : ∀ {q : List (Nat × List UInt8)} {a : Nat}, 1 ≤ a → Rising a M q → 1 ≤ lastL a q := fun {q} => by
        induction q with
        | nil => exact fun h _ => h
        | cons p q ih => exact fun h ⟨k1, _, _, k4⟩ => ih (by omega) k4
      exact hne (Nat.le_refl _) hr1
    · exact (lastL_le hr1 (by omega)).1
  obtain ⟨y, hy⟩ : ∃ y, y = endOf (x + 20) q1 := ⟨_, rfl⟩
  rw [← hy] at hg1 hg2 hf hs2 hsame hnew hlow
  have hRI : RecIs s y l (1 + q1.length) r := hs2.1
  refine ⟨h.cell.congr (fun i hi => hsame _ (by omega) (by omega)) (Nat.le_refl _) h.cell.small, stand_congr hs1 fun z h1 h2 => hsame z (by omega) (by omega), hr1, by omega, fun M' hM' hM3 => ?_, fun z h1 h2 => ?_, by omega, h.life⟩
  · rw [← hy]
    by_cases hj0 : j = 0
    · subst hj0
      rw [show y + ((0 : Nat) : Int) = y by omega] at hnew
      rcases hnew with h3 | h3
      · exact nextAt_low (by omega)
      · exact nextAt_high (by omega)
    · have h0 : headAt s2 y = (l, 1 + q1.length, 0, pagesN r.length) := by
        rw [(headAt_congr (hsame y (by omega) (by omega))).1, rec_head hRI (by omega) (by omega) g3 (Int.le_refl _) (by omega)]
        simp
      unfold nextAt
      rw [h0]
      split
      · rfl
      · rename_i hc
        simp only at hc
        rw [Option.map_eq_none_iff]
        refine recAt_no (k := j + 1) (by simp only; omega) ?_
        rw [recGo]
        split
        · rfl
        · rw [if_neg]
          intro e
          rw [e] at hnew
          simp only at hnew
          omega
  · rw [← hy] at h1
    by_cases hz : z = y + j
    · subst hz
      rcases hnew with h3 | h3
      · exact .inl (by omega)
      · exact .inr h3
    · rw [(headAt_congr (hsame z (by omega) hz)).1]
      by_cases hz2 : z < endOf (y + pagesN r.length) q2
      · exact .inl (stand_head h.life ((l, r) :: q2) y (1 + q1.length) (lastL 1 q1) hs2 ⟨g1, g2, g3, g4⟩ (by rw [List.length_cons]; omega) z h1 (by rw [endOf]; exact hz2))
      · rcases hlow z (by omega) h2 with h3 | h3
        · exact .inl (by omega)
        · exact .inr h3

theorem head_ff : (headOf (secOf 255)).1 = 18446744073709551615 := by kernel_rfl
/-- Another sector stands there. -/
theorem spoil_put {s : Dk} (hc : Calm s) (hl : s.loose = []) {y : Int} (hy : 0 ≤ y ∧ y < 32768) : ∃ s1, s.write y (secOf 255) = (s1, 0) ∧ Calm s1 ∧ (∀ z, 0 ≤ z ∧ z < 32768 → z ≠ y → s1.read z = s.read z) ∧ 1000000 ≤ (headAt s1 y).1 ∧
    ∃ s2, s1.offed.on [2] = (s2, 0) ∧ Calm s2 ∧ (∀ z, 0 ≤ z ∧ z < 32768 → z ≠ y → s2.read z = s.read z) ∧ (headAt s2 y).1 = 0 := by
  obtain ⟨w1, w2, w3⟩ := write_beside hc hy (secOf 255)
  have hw := write_ok (b := secOf 255) hc.1 hc.2 hy
  rw [hw] at w2 w3
  refine ⟨_, hw, w2, w3, ?_, _, on_offed _ _, ⟨rfl, rfl⟩, fun z hz hn => ?_, ?_⟩
  · unfold headAt
    rw [read_on w2.1 hy, lastW_snoc, if_pos rfl, if_neg (by simp)]
    rw [head_ff]
    decide
  · have e : (Dk.settle { ({ s with loose := s.loose ++ [(y, secOf 255)] } : Dk).offed with off := false, fuse := none } fun i => (([2] : List UInt8).getD i 0).toNat).sure z = s.sure z := by
      show settled _ 0 s.sure (s.loose ++ [(y, secOf 255)]) z = _
      rw [hl]
      exact upd_other s.sure none hn
    rw [read_on rfl hz, e, read_on hc.1 hz, hl]
    rfl
  · have e : (Dk.settle { ({ s with loose := s.loose ++ [(y, secOf 255)] } : Dk).offed with off := false, fuse := none } fun i => (([2] : List UInt8).getD i 0).toNat).sure y = none := by
      show settled _ 0 s.sure (s.loose ++ [(y, secOf 255)]) y = _
      rw [hl]
      exact upd_same s.sure y none
    unfold headAt
    rw [read_on rfl hy, e]
    rfl


theorem Was.empty {w W : World} (h : w.heap.size ≤ W.heap.size) : Was w [(W.heap.size, .cells #[] 29 (0, 0))] (.slice (some ⟨W.heap.size, 0, none⟩) 0 0) [] (W.alloc (.cells #[] 29)) :=
  ⟨⟨[], ⟨rfl, .inr ⟨W.heap.size, 0, #[], rfl, h, row_new W [] 29, Nat.le_refl _, by unfold maxLen; omega, rfl, rfl⟩⟩, fun _ _ h => by cases h⟩, .inr ⟨_, _, rfl, rfl⟩⟩
/-- Many more slices that came in. -/
theorem wpList_wasN {w W : World} {d T : Nat} {s : Dk} {L L0 : List (Nat × Obj)} {ops : Array Oper} {rest : List Oper} {o : Oper} {a : Act} {Q : Exit → Act → World → Prop} (hwant : Region.wanted o (yielded ops a.tmps) = true) (sv x : Operand)
    (ho : o.op = Op.call { callee := Callee.builtin Builtin.append, args := #[sv, x], argTypes := #[28, 28] })
    (v : Value) (rs : List (List UInt8)) (b0 o0 k c : Nat) (rs2 : List (List UInt8)) (hs : a.eval sv = v) (hx : a.eval x = .slice (some ⟨b0, o0, none⟩) k c)
    (hD : Dat w d T s (L ++ L0) W) (hsep : ∀ p ∈ L0, ∀ x ∈ L, p.1 ≠ x.1) (hw : Was w L v rs W) (hk : rs2.length = k)
    (hr : ∀ (j : Nat) (r : List UInt8), rs2[j]? = some r → ∃ Aj cj, W.cell? ⟨b0, o0 + j, none⟩ = some (.slice Aj r.length cj) ∧ Rd (fun b => b < w.heap.size) W Aj r.length r ∧ Sl Aj r.length cj) (hm : rs.length + k < 1000000)
    (h : ∀ A' c' W' L', Hid (Dat w d T s (L' ++ L0) W' ∧ Was w L' (.slice A' (rs.length + k) c') (rs ++ rs2) W' ∧ ∀ p ∈ L0, ∀ x ∈ L', p.1 ≠ x.1) → wpList Try.prog ops Q rest (a.put o.dst (.slice A' (rs.length + k) c')) W') :
    wpList Try.prog ops Q (o :: rest) a W := by
  obtain ⟨i0, hi, hz0, hz1, hz2⟩ := info_parts Try.info29
  obtain ⟨⟨vs, h1, h2⟩, h3⟩ := hw
  obtain ⟨news, hn1, hn2⟩ : ∃ news : List Value, news.length = k ∧ ∀ (j : Nat) (r : List UInt8), rs2[j]? = some r → ∃ Aj cj, news[j]? = some (.slice Aj r.length cj) ∧ W.cell? ⟨b0, o0 + j, none⟩ = some (.slice Aj r.length cj) ∧ Rd (fun b => b < w.heap.size) W Aj r.length r ∧ Sl Aj r.length cj := by
    refine ⟨(List.range k).map fun j => (W.cell? ⟨b0, o0 + j, none⟩).getD undef, by simp, fun j r hj => ?_⟩
    obtain ⟨Aj, cj, k1, k2, k3⟩ := hr j r hj
    have hlt := (List.getElem?_eq_some_iff.1 hj).1
    exact ⟨Aj, cj, by rw [List.getElem?_map, List.getElem?_range (by omega), Option.map_some, k1]; rfl, k1, k2, k3⟩
  have hn3 : ∀ (j : Nat) (u : Value), news[j]? = some u → ∃ r, rs2[j]? = some r := fun j u hu => ⟨_, List.getElem?_eq_getElem (by have := (List.getElem?_eq_some_iff.1 hu).1; omega)⟩
  obtain ⟨v', W', hrun, hv', hgo, _, hat⟩ := run_append_own_at (P := Try.prog) W w.heap.size 28 o.type 29 i0 (.slice none 0 0) 1 24 Try.underlying28 hi hz0 hz1 hz2 rfl (by decide) v rs.length vs h1 ⟨b0, o0, none⟩ k c news (by omega)
    (fun j u hu => by
      obtain ⟨r, hr'⟩ := hn3 j u hu
      obtain ⟨Aj, cj, e1, e2, _⟩ := hn2 j r hr'
      rw [e1] at hu
      rw [Addr.add_lit, e2]
      exact hu)
    (fun u hu => by
      obtain ⟨j, hj⟩ := List.mem_iff_getElem?.1 hu
      obtain ⟨r, hr'⟩ := hn3 j u hj
      obtain ⟨Aj, cj, e1, _⟩ := hn2 j r hr'
      rw [e1] at hj
      injection hj with hj
      subst hj
      rfl) (by unfold maxLen; omega) (by omega) hD.below.size
  have hvl : vs.length = rs.length := by have := h1.1; omega
  have hge : ∀ g, v.ownBlock = some g → w.heap.size ≤ g := fun g e => (own_lt h1 g e).1
  have hold : ∀ b, b < w.heap.size → b < W.heap.size → b < w.heap.size ∧ W'.heap[b]? = W.heap[b]? := fun b hb hlt => ⟨hb, hgo.block b hlt fun e => by have := hge b e.symm; omega⟩
  -- the row
  obtain ⟨A', c', rfl, _⟩ := row_shape (e := 29) hv'
  have hrow : ∃ vs', W'.ownsRow w.heap.size 29 1 (.slice A' (rs.length + k) c') (rs ++ rs2).length vs' ∧ ∀ (j : Nat) (q : List UInt8), (rs ++ rs2)[j]? = some q → ∃ Aj cj, vs'[j]? = some (.slice Aj q.length cj) ∧ Rd (fun b => b < w.heap.size) W' Aj q.length q ∧ Sl Aj q.length cj := by
    refine ⟨vs ++ news, by rw [List.length_append, hk]; exact hv', fun j q hq => ?_⟩
    by_cases hj : j < rs.length
    · rw [List.getElem?_append_left hj] at hq
      obtain ⟨Aj, cj, k1, k2, k3⟩ := h2 j q hq
      exact ⟨Aj, cj, by rw [List.getElem?_append_left (by omega)]; exact k1, k2.kept hold, k3⟩
    · rw [List.getElem?_append_right (by omega)] at hq
      obtain ⟨Aj, cj, k1, _, k2, k3⟩ := hn2 _ q hq
      exact ⟨Aj, cj, by rw [List.getElem?_append_right (by omega), hvl]; exact k1, k2.kept hold, k3⟩
  have hD' : ∃ L', Dat w d T s (L' ++ L0) W' ∧ (((Value.slice A' (rs.length + k) c').ownBlock = none ∧ L' = []) ∨ ∃ g o, (Value.slice A' (rs.length + k) c').ownBlock = some g ∧ L' = [(g, o)]) ∧ ∀ p ∈ L0, ∀ x ∈ L', p.1 ≠ x.1 := by
    have key : ∃ L', Dat w d T s (L' ++ L0) W' ∧ ∀ g, (Value.slice A' (rs.length + k) c').ownBlock = some g → (∃ o, (g, o) ∈ L') ∧ ∀ p ∈ L0, p.1 ≠ g := by
      have hfr : ∀ p ∈ L0, p.1 < W.heap.size := fun p hp => keeps_dat.toKeep.lt hD (List.mem_append_right _ hp)
      rcases h3 with ⟨h0, rfl⟩ | ⟨g, o, e, rfl⟩
      · have hb : Below W.heap.size W W' := by
          rw [h0] at hgo
          exact ⟨hgo.os, hgo.tape, hgo.output, hgo.size, fun k hk => hgo.block k hk (by simp)⟩
        refine ⟨_, Dat.wide0 (L := L0) hD hb, fun g e => ?_⟩
        rcases hat with hat | hat
        · rw [h0] at hat
          rw [hat] at e
          cases e
        · rw [hat] at e
          injection e with e
          have hlt := (own_lt hv' g (by rw [hat, e])).2
          have hsz : W.heap.size ≤ g := by rw [← e]; exact Nat.le_refl _
          exact ⟨⟨W'.heap[g], mem_freshOf.2 ⟨hsz, Array.getElem?_eq_getElem hlt⟩⟩, fun p hp => by have := hfr p hp; omega⟩
      · have hlt : g < W'.heap.size := Nat.lt_of_lt_of_le (hD.lt (q := g) (.head _)) hgo.size
        have ht : Turns (· = g) W W' := by
          rw [e] at hgo
          exact ⟨hgo.os, hgo.tape, hgo.output, hgo.size, fun k hk hn => hgo.block k hk (fun x => by injection x with x; exact hn x)⟩
        have hsg : ∀ p ∈ L0, p.1 ≠ g := fun p hp => hsep p hp (g, o) (.head _)
        have hw := Dat.wide (L := L0) hD hsg ht (Array.getElem?_eq_getElem hlt)
        refine ⟨(g, W'.heap[g]) :: freshOf W W', hw, fun g' e' => ?_⟩
        rcases hat with hat | hat
        · rw [hat, e] at e'
          injection e' with e'
          subst e'
          exact ⟨⟨_, .head _⟩, hsg⟩
        · have hlt' := (own_lt hv' g' e').2
          rw [hat] at e'
          injection e' with e'
          have hsz : W.heap.size ≤ g' := by rw [← e']; simp
          exact ⟨⟨W'.heap[g'], .tail _ (mem_freshOf.2 ⟨hsz, Array.getElem?_eq_getElem hlt'⟩)⟩, fun p hp => by have := hfr p hp; omega⟩
    obtain ⟨L', k1, k2⟩ := key
    cases hq : (Value.slice A' (rs.length + k) c').ownBlock with
    | none => exact ⟨[], k1.sub (fun p hp => List.mem_append_right _ hp), .inl ⟨rfl, rfl⟩, fun _ _ _ hx => by cases hx⟩
    | some g =>
      obtain ⟨⟨o, ho⟩, hne⟩ := k2 g hq
      refine ⟨[(g, o)], k1.sub (fun p hp => ?_), .inr ⟨g, o, rfl, rfl⟩, fun p hp x hx => ?_⟩
      · rcases List.mem_append.1 hp with hp | hp
        · simp only [List.mem_singleton] at hp
          subst hp
          exact List.mem_append_left _ ho
        · exact List.mem_append_right _ hp
      · simp only [List.mem_singleton] at hx
        subst hx
        exact hne p hp
  obtain ⟨L', k1, k2, k3⟩ := hD'
  refine wpList_step fun K hK => ?_
  rw [if_pos hwant]
  unfold Oper.wp execOp
  simp only [ho, resolve, invoke, builtin, Sem.run_bind, Sem.run_pure, Result.andThen_ok, List.map_toArray, List.map_cons, List.map_nil, hs, hx, hrun]
  exact hK _ _ (h A' c' W' L' (Lib.hid ⟨k1, ⟨hrow, k2⟩, k3⟩))

theorem endOf_take (q : List (Nat × List UInt8)) (t : Nat) (y : Int) : y ≤ endOf y (q.take t) ∧ endOf y (q.take t) ≤ endOf y q := by
  have h1 := endOf_app (q.take t) (q.drop t) y
  rw [List.take_append_drop] at h1
  have h2 := endOf_ge (q.drop t) (endOf y (q.take t))
  have h3 := endOf_ge (q.take t) y
  omega
theorem pages_500 {n : Nat} (h : n ≤ 500) : pagesN n ≤ 5 := by unfold pagesN; omega
theorem rows_take {P : Nat → Prop} {w : World} {A : Option Addr} {n : Nat} {rs : List (List UInt8)} (h : Rows P w A n rs) (t : Nat) (ht : t ≤ n) : Rows P w A t (rs.take t) := by
  refine ⟨by rw [List.length_take, h.1]; omega, fun hn => ?_⟩
  obtain ⟨b, o, e, hb, hp, hc⟩ := h.2 (by omega)
  refine ⟨b, o, e, hb, hp, fun j r hr => hc j r ?_⟩
  have := (List.getElem?_eq_some_iff.1 hr).1
  rw [List.length_take] at this
  rw [List.getElem?_take_of_lt (by omega)] at hr
  exact hr
/-- While records are appended. -/
structure TnAt (w : World) (d g k : Nat) (rs : List (List UInt8)) (LF : List (Nat × Obj)) (q : List (Nat × List UInt8)) (a na : Nat) (s : Dk) (W : World) : Prop where
  dat : Dat w d (30 + 5 * k) s ((g, bookOf d 1 (q.length : Int) (endOf (0 + 20) q) 400 false) :: LF) W
  ne : ∀ p ∈ LF, p.1 ≠ g
  calm : Calm s
  loose : s.loose = []
  book : BookIs s 0 400 1 0 q a na 3
  cnt : q.length = k
  recs : recsOf q = rs.take k
  fin : endOf (0 + 20) q ≤ 20 + 5 * (k : Int)
theorem take_snoc (q : List (Nat × List UInt8)) (p : Nat × List UInt8) (t : Nat) : (q ++ [p]).take t = if q.length < t then q ++ [p] else q.take t := by
  split
  · rw [List.take_of_length_le (by simp; omega)]
  · rw [List.take_append_of_le_length (by omega)]
theorem split_at {q : List (Nat × List UInt8)} {rs : List (List UInt8)} {t : Nat} (ht : t < q.length) (hr : recsOf q = rs) : ∃ l r q2, q = q.take t ++ (l, r) :: q2 ∧ rs[t]? = some r ∧ recsOf (q.take t) = rs.take t := by
  refine ⟨q[t].1, q[t].2, q.drop (t + 1), ?_, ?_, ?_⟩
  · show q = q.take t ++ q[t] :: q.drop (t + 1)
    rw [← List.drop_eq_getElem_cons ht, List.take_append_drop]
  · rw [← hr, recsOf, List.getElem?_map, List.getElem?_eq_getElem ht]
    rfl
  · rw [← hr, recsOf, recsOf, List.map_take]

theorem Opened.go2 {w W W' : World} {d T g life n c : Nat} {s : Dk} {L LF : List (Nat × Obj)} {y stop : Int} {rs : List (List UInt8)} {A : Option Addr} (h : Opened w d T s L g life y stop rs A n c LF W) (hb : Below W.heap.size W W') : Opened w d T s L g life y stop rs A n c LF W' :=
  ⟨h.dat.next hb, h.row.kept fun b hb' hlt => ⟨hb', hb.block b hlt⟩, h.sl, h.new, h.old⟩
theorem rows_cells {P : Nat → Prop} {w : World} {b o n : Nat} {rs : List (List UInt8)} (h : Rows P w (some ⟨b, o, none⟩) n rs) : ∀ (j : Nat) (r : List UInt8), rs[j]? = some r → ∃ Aj cj, w.cell? ⟨b, o + j, none⟩ = some (.slice Aj r.length cj) ∧ Rd P w Aj r.length r ∧ Sl Aj r.length cj := fun j r hr => by
  obtain ⟨b', o', Aj, cj, e, -, -, k⟩ := h.at hr
  injection e with e
  injection e with e1 e2
  subst e1 e2
  exact ⟨Aj, cj, k⟩

/-- So many more slices that came in, the row's length named. -/
theorem wpList_wasM {w W : World} {d T : Nat} {s : Dk} {L L0 : List (Nat × Obj)} {ops : Array Oper} {rest : List Oper} {o : Oper} {a : Act} {Q : Exit → Act → World → Prop} (hwant : Region.wanted o (yielded ops a.tmps) = true) (sv x : Operand)
    (ho : o.op = Op.call { callee := Callee.builtin Builtin.append, args := #[sv, x], argTypes := #[28, 28] })
    (v : Value) (rs : List (List UInt8)) (b0 o0 k c N : Nat) (rs2 rs3 : List (List UInt8)) (hN : rs.length + k = N) (h3 : rs ++ rs2 = rs3) (hs : a.eval sv = v) (hx : a.eval x = .slice (some ⟨b0, o0, none⟩) k c)
    (hD : Dat w d T s (L ++ L0) W) (hsep : ∀ p ∈ L0, ∀ x ∈ L, p.1 ≠ x.1) (hw : Was w L v rs W) (hk : rs2.length = k)
    (hr : ∀ (j : Nat) (r : List UInt8), rs2[j]? = some r → ∃ Aj cj, W.cell? ⟨b0, o0 + j, none⟩ = some (.slice Aj r.length cj) ∧ Rd (fun b => b < w.heap.size) W Aj r.length r ∧ Sl Aj r.length cj) (hm : N < 1000000)
    (h : ∀ A' c' W' L', Hid (Dat w d T s (L' ++ L0) W' ∧ Was w L' (.slice A' N c') rs3 W' ∧ ∀ p ∈ L0, ∀ x ∈ L', p.1 ≠ x.1) → wpList Try.prog ops Q rest (a.put o.dst (.slice A' N c')) W') :
    wpList Try.prog ops Q (o :: rest) a W := by
  subst hN h3
  exact wpList_wasN hwant sv x ho v rs b0 o0 k c rs2 hs hx hD hsep hw hk hr hm h
/-- One more, that was laid just now. -/
theorem wpList_wasG {w W : World} {d T : Nat} {s : Dk} {L L0 : List (Nat × Obj)} {ops : Array Oper} {rest : List Oper} {o : Oper} {a : Act} {Q : Exit → Act → World → Prop} (hwant : Region.wanted o (yielded ops a.tmps) = true) (sv x : Operand)
    (ho : o.op = Op.call { callee := Callee.builtin Builtin.append, args := #[sv, x], argTypes := #[28, 28] })
    (v : Value) (rs : List (List UInt8)) (n : Nat) (hn : rs.length = n) (A : Option Addr) (m c : Nat) (r : List UInt8) (hs : a.eval sv = v) (hx : a.eval x = .slice (some ⟨W.heap.size, 0, none⟩) 1 1)
    (hD : Dat w d T s (L ++ L0) W) (hsep : ∀ p ∈ L0, ∀ x ∈ L, p.1 ≠ x.1) (hw : Was w L v rs W) (hr : Rd (fun b => b < w.heap.size) W A m r) (hsl : Sl A m c) (hm : n + 1 < 1000000)
    (h : ∀ A' c' W' L', Hid (Dat w d T s (L' ++ L0) W' ∧ Was w L' (.slice A' (n + 1) c') (rs ++ [r]) W' ∧ ∀ p ∈ L0, ∀ x ∈ L', p.1 ≠ x.1) → wpList Try.prog ops Q rest (a.put o.dst (.slice A' (n + 1) c')) W') :
    wpList Try.prog ops Q (o :: rest) a (W.alloc (.cells #[.slice A m c] 29)) := by
  have hD' : Dat w d T s (L ++ L0) (W.alloc (.cells #[.slice A m c] 29)) := (hD.alloc _).sub fun p hp => .tail _ hp
  have hrm : r.length = m := hr.1
  refine wpList_wasM hwant sv x ho v rs W.heap.size 0 1 1 (n + 1) [r] (rs ++ [r]) (by rw [hn]) rfl hs hx hD' hsep (hw.go (hD.sub fun p hp => List.mem_append_left _ hp) (hD'.sub fun p hp => List.mem_append_left _ hp)) rfl (fun j q hq => ?_) hm h
  obtain rfl : j = 0 := by
    have := (List.getElem?_eq_some_iff.1 hq).1
    simp at this
    omega
  obtain rfl : r = q := by injection hq
  have hc := cell_one_new W (.slice A m c) 29 0 _ rfl
  rw [Addr.add_lit] at hc
  refine ⟨A, c, by rw [hrm]; exact hc, ?_, by rw [hrm]; exact hsl⟩
  rw [hrm]
  exact hr.kept fun b hb hlt => ⟨hb, heap_alloc_old W _ hlt⟩

set_option maxHeartbeats 40000000 in
theorem bookTorn_by (hW : Works) (A : Option Addr) (n c : Nat) (rs : List (List UInt8)) (x1 x2 : Nat) (hx1 : x1 ≤ 255) (hx2 : x2 ≤ 255) (lost : Bool) (Am : Option Addr) (mm mc : Nat) (ms : List UInt8) (w : World)
    (hx : Rows (fun b => b < w.heap.size) w A n rs) (hs : Sl A n c) (hm : Rd (fun b => b < w.heap.size) w Am mm ms) (hsm : Sl Am mm mc) :
    Calls Try.prog 6 #[.slice A n c, .int .u8 (x1 : Int), .int .u8 (x2 : Int), .bool lost, .slice Am mm mc] w fun E w' => E = .returned (.bool true) ∧ Below w.heap.size w w' := by
  have HW := Lib.hid hW
  have HX := Lib.hid hx
  have HMR : Hid (∀ W, Below w.heap.size w W → Rd (fun b => b < w.heap.size) W Am mm ms) := Lib.hid fun W hb => hm.kept fun b hb' _ => ⟨hb', hb.block b hb'⟩
  have HMS := Lib.hid hsm
  have HML := Lib.hid hm.1
  have hsc := hs.2
  have hsk := hsm.2
  have hw1 : RowKit.wrap64 (x1 : Int) = (x1 : Int) := by unfold RowKit.wrap64; omega
  have hw2 : RowKit.wrap64 (x2 : Int) = (x2 : Int) := by unfold RowKit.wrap64; omega
  have HPG := Lib.hid (fun (m : Nat) (hm : m ≤ 140737488355328) (wx : World) => pages_any (w := wx) m hm)
  by_cases hok : n ≤ 20 ∧ n ≠ 0 ∧ mm ≤ 500
  · obtain ⟨hn, hn0, hmm⟩ := hok
    obtain ⟨b, o, rfl, hb0, -, -⟩ := hx.2 (by omega)
    obtain ⟨t, ht⟩ : ∃ t, t = x1 % n := ⟨_, rfl⟩
    have htn : t < n := by rw [ht]; exact Nat.mod_lt _ (by omega)
    have htm : ((x1 : Int)).tmod (n : Int) = (t : Int) := by rw [ht]; rfl
    have hte : ((x1 : Int)) % (n : Int) = (t : Int) := by rw [ht]; rfl
    have hnz : ¬ (n : Int) = 0 := by omega
    have hnq : ((n : Int) == 0) = false := by rw [beq_eq_false_iff_ne]; exact hnz
    have hd1 : decide ((20 : Int) < (n : Int)) = false := decide_eq_false (by omega)
    have hd2 : decide ((500 : Int) < (mm : Int)) = false := decide_eq_false (by omega)
    have HRW : Hid (∀ W, Below w.heap.size w W → Rows (fun b => b < w.heap.size) W (some ⟨b, o, none⟩) n rs) := Lib.hid fun W hb => hx.kept fun b hb' _ => ⟨hb', hb.block b hb'⟩
    have HTS : Hid (Sl (some ⟨b, o, none⟩) t c) := Lib.hid ⟨(fun e => (by cases e)), by omega, hs.2.2⟩
    clear ht hW hx hs hm hsm
    go_enter Try.func6, Try.ntmps6
    go_wp2_with fail
    refine (dat_new (Below.refl _ w)).mono ?_
    rintro E w1 ⟨d, rfl, h1, -⟩
    have D1 := Lib.hid h1
    clear h1
    go_wp2_with fail
    refine (book_format D1.out (by omega) (x := 0) 400 (by omega) (by omega)).mono ?_
    rintro E w2 ⟨rfl, s2, H2⟩
    clear D1
    go_wp2_with fail
    refine (book_open H2.out.1 H2.out.2.1 (by omega) H2.out.2.2.2.1 400 (by omega) (by omega) (by omega) (by omega) (by omega) (by omega)).mono ?_
    rintro E w3 ⟨g, A3, n3, c3, rfl, s3, LF3, H3⟩
    obtain rfl : n3 = 0 := H3.out.1.row.1.symm
    have HR0 : Hid (TnAt w d g 0 rs (LF3 ++ []) [] (1 - 0) (topGo s2 0 20 + 1) s3 w3) := Lib.hid ⟨H3.out.1.book, H3.out.1.ne, H3.out.2.1, H3.out.2.2.1, H3.out.2.2.2.1, rfl, rfl, by decide⟩
    clear H2 H3
    generalize topGo s2 0 20 + 1 = na at HR0
    generalize LF3 ++ [] = LF at HR0
    go_wp2_with fail
    go_loopw [16, 17] (fun v16 v17 wr => ∃ k : Nat, k ≤ n ∧ v17 = .int .i64 (k : Int) ∧ ∃ q s, v16 = .int .i64 (endOf (0 + 20) (q.take t)) ∧ Hid (TnAt w d g k rs LF q (1 - 0) na s wr)) (fun _ v17 _ => n - (intOf v17).toNat)
    case atStart => exact ⟨0, Nat.zero_le _, rfl, [], s3, by rw [List.take_nil]; rfl, HR0⟩
    case round =>
      clear HR0
      obtain ⟨k, hk, rfl, q, s, rfl, HD⟩ := hrel
      obtain ⟨y, hy⟩ : ∃ y, y = endOf (0 + 20) (q.take t) := ⟨_, rfl⟩
      have HY := Lib.hid hy
      have hyb : 20 ≤ y ∧ y ≤ 20 + 5 * (k : Int) := by
        have h1 := endOf_take q t (0 + 20)
        have h2 := HD.out.fin
        omega
      rw [← hy]
      clear hy
      by_cases hkk : k < n
      · obtain ⟨r, hr⟩ : ∃ r, rs[k]? = some r := ⟨_, List.getElem?_eq_getElem (by have := HX.out.1; omega)⟩
        obtain ⟨b', o', Aj, cj, e0, -, -, hcr, hrd, hsj⟩ := HX.out.at hr
        injection e0 with e0
        injection e0 with e1 e2
        subst e1 e2
        have HCR : Hid (∀ W, Below w.heap.size w W → W.cell? ⟨b, o + k, none⟩ = some (.slice Aj r.length cj)) := Lib.hid fun W hb => (hb.cell (p := ⟨b, o + k, none⟩) hb0).trans hcr
        have HRD : Hid (∀ W, Below w.heap.size w W → Rd (fun b => b < w.heap.size) W Aj r.length r) := Lib.hid fun W hb => hrd.kept fun b hb' _ => ⟨hb', hb.block b hb'⟩
        have HSJ := Lib.hid hsj
        have HRK := Lib.hid hr
        obtain ⟨m, hm⟩ : ∃ m, m = r.length := ⟨_, rfl⟩
        rw [← hm] at HCR HRD HSJ
        have HM := Lib.hid hm
        have hmc := HSJ.out.2
        clear hcr hrd hsj hr hm
        have cb := HCR.out _ HD.out.dat.below
        by_cases hml : m ≤ 500
        · obtain ⟨pn, hpn⟩ : ∃ pn, pn = pagesN m := ⟨_, rfl⟩
          have hpb : 1 ≤ pn ∧ pn ≤ 5 := by rw [hpn]; exact ⟨pagesN_pos m, pages_500 hml⟩
          have HPN := Lib.hid hpn
          have HPC := Lib.hid (fun wx => HPG.out m (by omega) wx)
          rw [← hpn] at HPC
          clear hpn
          go_wp2_with fail
          refine (book_append (x := 0) (E := 400) (q := q) HD.out.dat HD.out.ne HD.out.calm (by omega) HD.out.book (by omega) (by omega) (by omega) (by have := HD.out.cnt; omega) Aj m cj r (rd_rd (HRD.out _ HD.out.dat.below)) HSJ.out (by omega) (by rw [← HPN.out]; have := HD.out.fin; omega)).mono ?_
          rintro E w5 ⟨rfl, s5, H5⟩
          have HN : Hid (TnAt w d g (k + 1) rs LF (q ++ [(1, r)]) (1 - 0) na s5 w5) := Lib.hid ⟨H5.out.1.more (by rw [← HPN.out]; omega), HD.out.ne, H5.out.2.1, H5.out.2.2.1, H5.out.2.2.2.1, by rw [List.length_append, HD.out.cnt]; rfl, by rw [recsOf_snoc, HD.out.recs, List.take_add_one, HRK.out]; rfl, by rw [endOf_snoc, ← HM.out, ← HPN.out]; have := HD.out.fin; omega⟩
          have HQL := Lib.hid HD.out.cnt
          have HEQ : Hid (k < t → y = endOf (0 + 20) q) := Lib.hid fun h => by rw [HY.out, List.take_of_length_le (by rw [HQL.out]; omega)]
          clear H5 HD cb
          have cb := HCR.out _ HN.out.dat.below
          by_cases hkt : k < t
          · go_wp2_with (first | (go_at_call 18; refine (HPC.out _).mono ?_; rintro E w6 ⟨rfl, rfl⟩) | fail)
            refine ⟨⟨k + 1, by omega, by go_num, q ++ [(1, r)], s5, ?_, HN⟩, by simp [intOf]; omega⟩
            rw [take_snoc, if_pos (by rw [HQL.out]; exact hkt), endOf_snoc, ← HM.out, ← HPN.out, ← HEQ.out hkt]
          · go_wp2_with fail
            refine ⟨⟨k + 1, by omega, by go_num, q ++ [(1, r)], s5, ?_, HN⟩, by simp [intOf]; omega⟩
            rw [take_snoc, if_neg (by rw [HQL.out]; exact hkt), ← HY.out]
        · go_wp2_with (first | (go_at_call 8; refine (HW.out _).mono ?_; rintro E wz ⟨rfl, hbz⟩) | fail)
          go_ret
          exact ⟨rfl, HD.out.dat.below.trans (hbz.mono HD.out.dat.below.size)⟩
      · obtain rfl : k = n := by omega
        have hrsn : recsOf q = rs := by rw [HD.out.recs, List.take_of_length_le (by rw [HX.out.1]; exact Nat.le_refl _)]
        obtain ⟨l, r, q2, hq, hrt, hq1⟩ := split_at (t := t) (by rw [HD.out.cnt]; exact htn) hrsn
        obtain ⟨q1, hq1e⟩ : ∃ q1, q1 = q.take t := ⟨_, rfl⟩
        rw [← hq1e] at hq hq1 HY
        obtain ⟨b', o', Aj, cj, e0, -, -, hcr, hrd, hsj⟩ := HX.out.at hrt
        injection e0 with e0
        injection e0 with e1 e2
        subst e1 e2
        obtain ⟨pn, hpn⟩ : ∃ pn, pn = pagesN r.length := ⟨_, rfl⟩
        have hcl := HD.out.book.fit
        have hpp := pagesN_pos r.length
        have hfe : y + (pn : Int) ≤ 400 := by
          have h1 := HD.out.book.fit
          rw [hq, endOf_app, endOf, ← HY.out] at h1
          have h2 := endOf_ge q2 (y + pagesN r.length)
          rw [hpn]
          simp only at h1
          omega
        have hrl : r.length ≤ 4096 := by
          have := HD.out.book.rise
          rw [hq] at this
          exact (rising_app this).2.2.2.1
        rw [← hpn] at hpp
        obtain ⟨j, hj⟩ : ∃ j, j = x2 % pn := ⟨_, rfl⟩
        have hjp : j < pn := by rw [hj]; exact Nat.mod_lt _ (by omega)
        have hjm : ((x2 : Int)).tmod (pn : Int) = (j : Int) := by rw [hj]; rfl
        have hje : ((x2 : Int)) % (pn : Int) = (j : Int) := by rw [hj]; rfl
        have hpz : ¬ (pn : Int) = 0 := by omega
        have HSP := Lib.hid (spoil_put (s := s) (y := y + (j : Int)) HD.out.calm HD.out.loose (by omega))
        have HBS : Hid (∀ sX, (∀ z, 0 ≤ z ∧ z < 32768 → z ≠ y + (j : Int) → sX.read z = s.read z) → ((headAt sX (y + (j : Int))).1 = 0 ∨ 1000000 ≤ (headAt sX (y + (j : Int))).1) → BookIs sX 0 400 1 1 q1 (1 - 0) na 3) := Lib.hid fun sX g1 g2 => by
          have hb := HD.out.book
          rw [hq] at hb
          rw [HY.out] at g1 g2
          exact hb.spoilt (by omega) (by omega) (by omega) j (by rw [← hpn]; exact hjp) g1 g2
        have hy1 := endOf_ge q1 (0 + 20)
        rw [← HY.out] at hy1
        have DD := Lib.hid (HD.out.dat.sub (L' := LF) fun p hp => .tail _ hp)
        have HQ1 := Lib.hid hq1
        have HPC := Lib.hid (fun wx => HPG.out r.length (by omega) wx)
        rw [← hpn] at HPC
        have cb := (DD.out.below.cell (p := ⟨b, o + t, none⟩) hb0).trans hcr
        obtain ⟨m, hm⟩ : ∃ m, m = r.length := ⟨_, rfl⟩
        rw [← hm] at HPC cb
        have hsl2 := hsj.2
        rw [← hm] at hsl2 hrl
        clear hj hpn hq1e hq hrt hq1 hrsn hcr hrd hsj HD hm hcl
        have hlen : q1.length ≤ 400 := by omega
        go_wp2_with (first | (go_at_call 18; refine (HPC.out _).mono ?_; rintro E w6 ⟨rfl, rfl⟩) | fail)
        obtain ⟨s6, hw6, hc6, hr6, hh6, s7, hon, hc7, hr7, hh7⟩ := HSP.out
        have HB6 := Lib.hid (HBS.out s6 hr6 (.inr hh6))
        have HB7 := Lib.hid (HBS.out s7 hr7 (.inl hh7))
        have HC6 := Lib.hid hc6
        have HC7 := Lib.hid hc7
        have HON := Lib.hid hon
        have HWR := Lib.hid hw6
        clear hw6 hc6 hr6 hh6 hon hc7 hr7 hh7 HSP HBS cb
        refine (dat_bytes DD.out 255).mono ?_
        rintro E w7 ⟨rfl, h7, -⟩
        have D7 := Lib.hid h7
        clear h7 DD
        go_wp2_with fail
        have HWT := Lib.hid (dat_write D7.out (y + (j : Int)) (secOf 255) (secOf_length _) (by omega))
        rw [HWR.out] at HWT
        refine HWT.out.mono ?_
        rintro E w8 ⟨rfl, h8⟩
        have D8 := Lib.hid h8
        clear h8 D7 HWT
        cases lost with
        | false =>
          go_wp2_with fail
          refine (book_open (D8.out.sub (L' := []) fun p hp => by cases hp) HC6.out (by omega) HB6.out 400 (by omega) (by omega) (by omega) (by omega) (by omega) (by omega)).mono ?_
          rintro E w11 ⟨g11, A11, n11, c11, rfl, s11, LF11, H11⟩
          have O11 := Lib.hid H11.out.1
          have HC11 := Lib.hid H11.out.2.1
          have HB11 := Lib.hid H11.out.2.2.2.1
          clear H11 D8
          have HSM := Lib.hid (same_b O11.out.row (rows_take (HRW.out _ O11.out.dat.below) t (by omega)) O11.out.sl HTS.out)
          rw [HQ1.out, decide_eq_true (rfl : rs.take t = rs.take t)] at HSM
          go_wp2_with fail
          refine HSM.out.mono ?_
          rintro E w12 ⟨rfl, hb12⟩
          have O12 := Lib.hid (Opened.go2 O11.out hb12)
          clear HSM hb12 O11
          go_wp2_with fail
          refine (book_append (x := 0) (E := 400) (q := q1) O12.out.book O12.out.ne HC11.out (by omega) HB11.out (by omega) (by omega) (by omega) (by omega) Am mm mc ms (rd_rd (HMR.out _ O12.out.dat.below)) HMS.out (by omega) (by rw [← HY.out]; have := pages_500 hmm; omega)).mono ?_
          rintro E w13 ⟨rfl, s13, H13⟩
          have D13 := Lib.hid (H13.out.1.sub (L' := []) fun p hp => by cases hp)
          have HC13 := Lib.hid H13.out.2.1
          have HB13 := Lib.hid H13.out.2.2.2.1
          have hp5 := pages_500 hmm
          clear H13 O12
          go_wp2_with fail
          refine (book_open D13.out HC13.out (by omega) HB13.out 400 (by omega) (by omega) (by omega) (by omega) (by omega) (by omega)).mono ?_
          rintro E w14 ⟨g14, A14, n14, c14, rfl, s14, LF14, H14⟩
          have O14 := Lib.hid H14.out.1
          clear H14 D13
          skip
          have D15 : Hid (Dat w d _ s14 ([(w14.heap.size, .cells #[] 29 (0, 0))] ++ LF14) (w14.alloc (.cells #[] 29))) := Lib.hid ((O14.out.dat.sub (L' := LF14) fun p hp => .tail _ (List.mem_append_left _ hp)).alloc (.cells #[] 29))
          have HS15 : Hid (∀ p ∈ LF14, ∀ x ∈ [(w14.heap.size, Obj.cells #[] 29 (0, 0))], p.1 ≠ x.1) := Lib.hid (fun p hp x hx => by simp only [List.mem_singleton] at hx; subst hx; exact Nat.ne_of_lt (O14.out.dat.lt (q := p.1) (o := p.2) (.tail _ (List.mem_append_left _ hp))))
          have HR15 := Lib.hid (rows_take (HRW.out _ D15.out.below) t (by omega))
          have W15 := Lib.hid (Was.empty (w := w) (W := w14) O14.out.dat.below.size)
          have HTL := Lib.hid HR15.out.1
          have HRC := Lib.hid (rows_cells HR15.out)
          go_wp2_with (first
            | (at_builtin; refine wpList_wasM (by kernel_rfl) (.tmp 146) (.tmp 149) rfl (.slice (some ⟨w14.heap.size, 0, none⟩) 0 0) [] b o t c t (rs.take t) (rs.take t) (Nat.zero_add t) rfl rfl rfl D15.out HS15.out W15.out HTL.out HRC.out (by omega) ?_; intro A16 c16 w16 L16 H16)
            | (at_builtin; refine wpList_wasG (by kernel_rfl) (.tmp 150) (.tmp 152) rfl (.slice A16 t c16) (rs.take t) t HTL.out Am mm mc ms rfl rfl H16.out.1 H16.out.2.2 H16.out.2.1 (HMR.out _ H16.out.1.below) HMS.out (by omega) ?_; intro A17 c17 w17 L17 H17)
            | fail)
          obtain ⟨A18, c18, e18, hr18, hs18⟩ := H17.out.2.1.rows (H17.out.1.sub fun p hp => List.mem_append_left _ hp)
          injection e18 with e1 e2 e3
          subst e1 e3
          have HSN := Lib.hid (same_b (O14.out.row.go (O14.out.dat.sub (L' := LF14) fun p hp => .tail _ (List.mem_append_left _ hp)) (H17.out.1.sub (L' := LF14) fun p hp => List.mem_append_right _ hp) (fun _ h => h)) hr18 O14.out.sl hs18)
          clear hr18 hs18
          rw [recsOf_snoc, HQ1.out, decide_eq_true (rfl : rs.take t ++ [ms] = rs.take t ++ [ms]), ← e2] at HSN
          clear e2
          refine HSN.out.mono ?_
          rintro E w19 ⟨rfl, hb19⟩
          have B19 : Hid (Below w.heap.size w w19) := Lib.hid (H17.out.1.below.trans (hb19.mono H17.out.1.below.size))
          clear H17 H16 HSN hb19 O14 D15 W15 HR15 HRC HS15
          go_wp2_with (first | (go_at_call 8; refine (HW.out _).mono ?_; rintro E wz ⟨rfl, hbz⟩) | fail)
          go_ret
          exact ⟨rfl, B19.out.trans (hbz.mono B19.out.size)⟩
        | true =>
          go_wp2_with fail
          refine (dat_off D8.out).mono ?_
          rintro E w9 ⟨rfl, h9⟩
          have D9 := Lib.hid h9
          clear h9 D8
          go_wp2_with fail
          have HO9 := Lib.hid (dat_on_lit D9.out (by omega) [2] (by decide))
          rw [HON.out] at HO9
          refine HO9.out.mono ?_
          rintro E w10 ⟨rfl, h10⟩
          have D10 := Lib.hid h10
          clear h10 D9 HO9
          go_wp2_with fail
          refine (book_open (D10.out.sub (L' := []) fun p hp => by cases hp) HC7.out (by omega) HB7.out 400 (by omega) (by omega) (by omega) (by omega) (by omega) (by omega)).mono ?_
          rintro E w11 ⟨g11, A11, n11, c11, rfl, s11, LF11, H11⟩
          have O11 := Lib.hid H11.out.1
          have HC11 := Lib.hid H11.out.2.1
          have HB11 := Lib.hid H11.out.2.2.2.1
          clear H11 D10
          have HSM := Lib.hid (same_b O11.out.row (rows_take (HRW.out _ O11.out.dat.below) t (by omega)) O11.out.sl HTS.out)
          rw [HQ1.out, decide_eq_true (rfl : rs.take t = rs.take t)] at HSM
          go_wp2_with fail
          refine HSM.out.mono ?_
          rintro E w12 ⟨rfl, hb12⟩
          have O12 := Lib.hid (Opened.go2 O11.out hb12)
          clear HSM hb12 O11
          go_wp2_with fail
          refine (book_append (x := 0) (E := 400) (q := q1) O12.out.book O12.out.ne HC11.out (by omega) HB11.out (by omega) (by omega) (by omega) (by omega) Am mm mc ms (rd_rd (HMR.out _ O12.out.dat.below)) HMS.out (by omega) (by rw [← HY.out]; have := pages_500 hmm; omega)).mono ?_
          rintro E w13 ⟨rfl, s13, H13⟩
          have D13 := Lib.hid (H13.out.1.sub (L' := []) fun p hp => by cases hp)
          have HC13 := Lib.hid H13.out.2.1
          have HB13 := Lib.hid H13.out.2.2.2.1
          have hp5 := pages_500 hmm
          clear H13 O12
          go_wp2_with fail
          refine (book_open D13.out HC13.out (by omega) HB13.out 400 (by omega) (by omega) (by omega) (by omega) (by omega) (by omega)).mono ?_
          rintro E w14 ⟨g14, A14, n14, c14, rfl, s14, LF14, H14⟩
          have O14 := Lib.hid H14.out.1
          clear H14 D13
          skip
          have D15 : Hid (Dat w d _ s14 ([(w14.heap.size, .cells #[] 29 (0, 0))] ++ LF14) (w14.alloc (.cells #[] 29))) := Lib.hid ((O14.out.dat.sub (L' := LF14) fun p hp => .tail _ (List.mem_append_left _ hp)).alloc (.cells #[] 29))
          have HS15 : Hid (∀ p ∈ LF14, ∀ x ∈ [(w14.heap.size, Obj.cells #[] 29 (0, 0))], p.1 ≠ x.1) := Lib.hid (fun p hp x hx => by simp only [List.mem_singleton] at hx; subst hx; exact Nat.ne_of_lt (O14.out.dat.lt (q := p.1) (o := p.2) (.tail _ (List.mem_append_left _ hp))))
          have HR15 := Lib.hid (rows_take (HRW.out _ D15.out.below) t (by omega))
          have W15 := Lib.hid (Was.empty (w := w) (W := w14) O14.out.dat.below.size)
          have HTL := Lib.hid HR15.out.1
          have HRC := Lib.hid (rows_cells HR15.out)
          go_wp2_with (first
            | (at_builtin; refine wpList_wasM (by kernel_rfl) (.tmp 146) (.tmp 149) rfl (.slice (some ⟨w14.heap.size, 0, none⟩) 0 0) [] b o t c t (rs.take t) (rs.take t) (Nat.zero_add t) rfl rfl rfl D15.out HS15.out W15.out HTL.out HRC.out (by omega) ?_; intro A16 c16 w16 L16 H16)
            | (at_builtin; refine wpList_wasG (by kernel_rfl) (.tmp 150) (.tmp 152) rfl (.slice A16 t c16) (rs.take t) t HTL.out Am mm mc ms rfl rfl H16.out.1 H16.out.2.2 H16.out.2.1 (HMR.out _ H16.out.1.below) HMS.out (by omega) ?_; intro A17 c17 w17 L17 H17)
            | fail)
          obtain ⟨A18, c18, e18, hr18, hs18⟩ := H17.out.2.1.rows (H17.out.1.sub fun p hp => List.mem_append_left _ hp)
          injection e18 with e1 e2 e3
          subst e1 e3
          have HSN := Lib.hid (same_b (O14.out.row.go (O14.out.dat.sub (L' := LF14) fun p hp => .tail _ (List.mem_append_left _ hp)) (H17.out.1.sub (L' := LF14) fun p hp => List.mem_append_right _ hp) (fun _ h => h)) hr18 O14.out.sl hs18)
          clear hr18 hs18
          rw [recsOf_snoc, HQ1.out, decide_eq_true (rfl : rs.take t ++ [ms] = rs.take t ++ [ms]), ← e2] at HSN
          clear e2
          refine HSN.out.mono ?_
          rintro E w19 ⟨rfl, hb19⟩
          have B19 : Hid (Below w.heap.size w w19) := Lib.hid (H17.out.1.below.trans (hb19.mono H17.out.1.below.size))
          clear H17 H16 HSN hb19 O14 D15 W15 HR15 HRC HS15
          go_wp2_with (first | (go_at_call 8; refine (HW.out _).mono ?_; rintro E wz ⟨rfl, hbz⟩) | fail)
          go_ret
          exact ⟨rfl, B19.out.trans (hbz.mono B19.out.size)⟩
  · by_cases h1 : n ≤ 20
    · by_cases h2 : n = 0
      · subst h2
        go_enter Try.func6, Try.ntmps6
        go_wp2_with (first | (go_at_call 8; refine (HW.out _).mono ?_; rintro E wz ⟨rfl, hb⟩))
        all_goals (go_ret; exact ⟨rfl, hb⟩)
      · have hnq : ((n : Int) == 0) = false := by rw [beq_eq_false_iff_ne]; omega
        have hd1 : decide ((20 : Int) < (n : Int)) = false := decide_eq_false (by omega)
        have hd2 : decide ((500 : Int) < (mm : Int)) = true := decide_eq_true (by omega)
        go_enter Try.func6, Try.ntmps6
        go_wp2_with (first | (go_at_call 8; refine (HW.out _).mono ?_; rintro E wz ⟨rfl, hb⟩))
        all_goals (go_ret; exact ⟨rfl, hb⟩)
    · have hd1 : decide ((20 : Int) < (n : Int)) = true := decide_eq_true (by omega)
      go_enter Try.func6, Try.ntmps6
      go_wp2_with (first | (go_at_call 8; refine (HW.out _).mono ?_; rintro E wz ⟨rfl, hb⟩))
      all_goals (go_ret; exact ⟨rfl, hb⟩)
theorem bookTorn_walk (w : World) (A : Option Addr) (n c : Nat) (h : ∃ rs, Rows (fun b => b < w.heap.size) w A n rs ∧ Sl A n c) (x1 : Int) (hx1 : (Lit.int .u8 x1).wf = true) (x2 : Int) (hx2 : (Lit.int .u8 x2).wf = true) (lost : Bool)
    (Am : Option Addr) (mm mc : Nat) (hm : ∃ bs, Rd (fun _ => True) w Am mm bs ∧ Sl Am mm mc) :
    Calls Try.prog 6 #[.slice A n c, .int .u8 x1, .int .u8 x2, .bool lost, .slice Am mm mc] w fun E w' => E = .returned (.bool true) ∧ Below w.heap.size w w' := by
  obtain ⟨rs, h1, h2⟩ := h
  obtain ⟨ms, h3, h4⟩ := hm
  rw [u8_of hx1, u8_of hx2]
  exact bookTorn_by works_any A n c rs _ _ (by have := (UInt8.ofNat x1.toNat).toNat_lt; omega) (by have := (UInt8.ofNat x2.toNat).toNat_lt; omega) lost Am mm mc ms w h1 h2 (h3.kept fun b _ hlt => ⟨hlt, rfl⟩) h4
end Go.Proofs.Ytfegffdhlkhjbaa
