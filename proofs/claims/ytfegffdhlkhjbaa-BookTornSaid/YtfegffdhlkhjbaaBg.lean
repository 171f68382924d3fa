/-
  What is proved: all records that stand are read. Conditions as stated.
-/
import Derived.Test.YtfegffdhlkhjbaaBf
namespace Go.Proofs.Ytfegffdhlkhjbaa
open Go.RowKit
set_option maxRecDepth 100000

theorem goRec_none {s : Dk} {E : Int} {M : Nat} {y : Int} {a : Nat} {rs : List (List UInt8)} (h : nextAt s E M y rs.length a = none) : ∀ {f : Nat}, goRec s E M f y a rs = (y, rs)
  | 0 => rfl
  | f + 1 => by rw [goRec, h]
theorem goRec_some {s : Dk} {E : Int} {M f : Nat} {y : Int} {a : Nat} {rs : List (List UInt8)} {q : List UInt8 × Nat × Nat} (h : nextAt s E M y rs.length a = some q) : goRec s E M (f + 1) y a rs = goRec s E M f (y + q.2.2) q.2.1 (rs ++ [q.1]) := by rw [goRec, h]

/-- Behind some rounds: y is the next page, rs are read. -/
structure RdAt (w : World) (d T g M : Nat) (s : Dk) (L : List (Nat × Obj)) (next stop : Int) (wo : World) (y : Int) (a f : Nat) (rs : List (List UInt8)) (v : Value) (W : World) : Prop where
  dat : Dat w d T s ((g, bookOf d M (rs.length : Int) y stop false) :: L) W
  turn : Turns (· = g) wo W
  row : RowOwn wo.heap.size W v rs
  go : goRec s stop M f y a rs = readAll s next stop M
  fuel : stop - y < f
  low : next ≤ y
  top : y ≤ stop
  cnt : (rs.length : Int) ≤ y - next
  pos : 1 ≤ a
  small : a < 18446744073709551616
theorem RdAt.next {w wo W W' : World} {d T g M a f : Nat} {s : Dk} {L : List (Nat × Obj)} {next stop y : Int} {rs : List (List UInt8)} {v : Value} (h : RdAt w d T g M s L next stop wo y a f rs v W) (hb : Below W.heap.size W W') : RdAt w d T g M s L next stop wo y a f rs v W' :=
  ⟨h.dat.next hb, h.turn.trans (Turns.of_below hb), h.row.below hb, h.go, h.fuel, h.low, h.top, h.cnt, h.pos, h.small⟩

theorem RdAt.stop {w wo W : World} {d T g M a f : Nat} {s : Dk} {L : List (Nat × Obj)} {next stop y : Int} {rs : List (List UInt8)} {v : Value} (h : RdAt w d T g M s L next stop wo y a f rs v W) (h0 : Dat w d T s ((g, bookOf d M 0 next stop false) :: L) wo) (hne : ∀ p ∈ L, p.1 ≠ g)
    (hno : nextAt s stop M y rs.length a = none) : ∃ A n c, v = .slice A n c ∧ Hid (Dat w d T s ((g, bookOf d M ((readAll s next stop M).2.length : Int) (readAll s next stop M).1 stop false) :: (freshOf wo W ++ L)) W ∧ Rows (fun b => wo.heap.size ≤ b) W A n (readAll s next stop M).2 ∧ Sl A n c) := by
  have e : readAll s next stop M = (y, rs) := by rw [← h.go]; exact goRec_none hno
  rw [e]
  obtain ⟨A, c, rfl, _⟩ := h.row.shape
  exact ⟨A, rs.length, c, rfl, Lib.hid ⟨h0.wide hne h.turn (h.dat.get (q := g) (.head _)), h.row.rows⟩⟩

set_option maxHeartbeats 8000000 in
theorem read_b {w wo : World} {d T g M : Nat} {s : Dk} {L : List (Nat × Obj)} {next stop : Int} (h : Dat w d T s ((g, bookOf d M 0 next stop false) :: L) wo) (hne : ∀ p ∈ L, p.1 ≠ g) (hn : 0 ≤ next ∧ next ≤ stop) (hst : stop ≤ 32768) :
    Calls Try.prog 29 #[.pointer (some ⟨g, 0, none⟩)] wo fun E w' => ∃ A n c, E = .returned (.slice A n c) ∧ Hid (Dat w d T s ((g, bookOf d M ((readAll s next stop M).2.length : Int) (readAll s next stop M).1 stop false) :: (freshOf wo w' ++ L)) w' ∧ Rows (fun b => wo.heap.size ≤ b) w' A n (readAll s next stop M).2 ∧ Sl A n c) := by
  have HDO := Lib.hid h
  have HNE := Lib.hid hne
  have HGL : Hid (g < wo.heap.size) := Lib.hid (h.lt (q := g) (.head _))
  have H0 : Hid (RdAt w d T g M s L next stop wo next 1 ((stop - next).toNat + 1) [] (.slice none 0 0) wo) := Lib.hid ⟨h, Turns.refl _ _, RowOwn.nil _ _, rfl, by omega, by omega, hn.2, by simp, by omega, by omega⟩
  have HRL : Hid (∀ y, (s.read y).1.length = 128) := Lib.hid fun y => h.read_len y
  clear h hne
  go_enter Try.func29, Try.ntmps29
  go_wp2_with fail
  go_loopw [3, 4] (fun v3 v4 wr => ∃ (y : Int) (a f : Nat) (rs : List (List UInt8)), v4 = .int .u64 (a : Int) ∧ Hid (RdAt w d T g M s L next stop wo y a f rs v3 wr)) (fun _ _ wr => 40000 - (intOf ((wr.cell? ⟨g, 3, none⟩).getD undef)).toNat)
  case atStart => exact ⟨next, 1, (stop - next).toNat + 1, [], rfl, H0⟩
  case round =>
    clear H0
    obtain ⟨y, a, f, rs, rfl, HR⟩ := hrel
    have hy1 := HR.out.low
    have hy2 := HR.out.top
    have ha := HR.out.small
    obtain ⟨-, -, -, k3, -, -⟩ := bookOf_cells (HR.out.dat.get (q := g) (.head _))
    have K3 := Lib.hid k3
    obtain ⟨hh, hhh⟩ : ∃ hh, hh = headAt s y := ⟨_, rfl⟩
    have hpb := page_b HR.out.dat y (i64_of (by omega))
    rw [← hhh] at hpb
    have HPB := Lib.hid hpb
    have HHL := Lib.hid (headAt_lt s y)
    have HH := Lib.hid hhh
    rw [← hhh] at HHL
    clear hpb hhh
    go_wp2_with fail
    refine HPB.out.mono ?_
    rintro E w4 ⟨A4, m4, c4, rfl, hb4, -, -⟩
    have B4 := Lib.hid hb4
    clear hb4 HPB k3
    have HBX : Hid (∀ W, (w4.alloc (.cells (headV (0, 0, 0, 0)).toArray 94)).grownBy W (some w4.heap.size) → Below wr.heap.size wr W) := Lib.hid fun W hg => (B4.out.alloc B4.out.size _).grown hg (by simp; exact Nat.le_succ_of_le B4.out.size) (fun k e => by injection e with e; subst e; exact B4.out.size)
    have HQ : Hid (wr.heap.size ≤ w4.heap.size) := Lib.hid B4.out.size
    obtain ⟨n1, n2, n3, n4⟩ := hh
    have hn1 := HHL.out.1
    have hn4 := HHL.out.2.2.2
    simp only at hn1 hn4
    by_cases h1 : n1 < a ∨ M < n1
    · have HNO : Hid (nextAt s stop M y rs.length a = none) := Lib.hid (by rw [nextAt, ← HH.out, if_pos h1])
      clear HH HHL
      by_cases h2 : n1 < a
      · have hd1 : decide ((n1 : Int) < (a : Int)) = true := by simpa using h2
        go_wp2_with (first
          | (refine wpList_store_all rfl 94 (.tmp 5) (.tmp 16) rfl w4.heap.size (headV (0, 0, 0, 0)) (headV (n1, n2, n3, n4)) 94 (row_new w4 (headV (0, 0, 0, 0)) 94) rfl rfl rfl Try.size94 (headV_one _) ?_; intro w5 G5; have R5 := Lib.hid (HR.out.next (HBX.out _ G5.out.2)); have c50 : w5.cell? ⟨w4.heap.size, 0, none⟩ = some (.int .u64 (n1 : Int)) := block_cell G5.out.1 0 _ rfl)
          | fail)
        go_quiet (fail)
        go_wp2_with fail
        go_ret
        obtain ⟨A, n, c, rfl, hH⟩ := (R5.out.next (W' := w5.drewN nq) ⟨rfl, rfl, rfl, Nat.le_refl _, fun _ _ => rfl⟩).stop HDO.out HNE.out HNO.out
        exact ⟨A, n, c, rfl, hH⟩
      · have h3 : M < n1 := by omega
        have hd1 : decide ((n1 : Int) < (a : Int)) = false := by simpa using h2
        have hd2 : decide ((M : Int) < (n1 : Int)) = true := by simpa using h3
        go_wp2_with (first
          | (refine wpList_store_all rfl 94 (.tmp 5) (.tmp 16) rfl w4.heap.size (headV (0, 0, 0, 0)) (headV (n1, n2, n3, n4)) 94 (row_new w4 (headV (0, 0, 0, 0)) 94) rfl rfl rfl Try.size94 (headV_one _) ?_; intro w5 G5; have R5 := Lib.hid (HR.out.next (HBX.out _ G5.out.2)); have c50 : w5.cell? ⟨w4.heap.size, 0, none⟩ = some (.int .u64 (n1 : Int)) := block_cell G5.out.1 0 _ rfl; have c51 := (bookOf_cells (R5.out.dat.get (q := g) (.head _))).2.1)
          | fail)
        go_quiet (fail)
        go_wp2_with fail
        go_ret
        obtain ⟨A, n, c, rfl, hH⟩ := (R5.out.next (W' := w5.drewN nq) ⟨rfl, rfl, rfl, Nat.le_refl _, fun _ _ => rfl⟩).stop HDO.out HNE.out HNO.out
        exact ⟨A, n, c, rfl, hH⟩
    · have hd1 : decide ((n1 : Int) < (a : Int)) = false := by simp; omega
      have hd2 : decide ((M : Int) < (n1 : Int)) = false := by simp; omega
      have HNX : Hid (nextAt s stop M y rs.length a = (recAt s y (stop - y) n1 (rs.length + 1) n4).map fun r => (r, n1, n4)) := Lib.hid (by rw [nextAt, ← HH.out, if_neg h1])
      have h2 : ¬ n1 < a := fun h => h1 (.inl h)
      have h3 : ¬ M < n1 := fun h => h1 (.inr h)
      clear HH HHL h1
      go_wp2_with (first
        | (refine wpList_store_all rfl 94 (.tmp 5) (.tmp 16) rfl w4.heap.size (headV (0, 0, 0, 0)) (headV (n1, n2, n3, n4)) 94 (row_new w4 (headV (0, 0, 0, 0)) 94) rfl rfl rfl Try.size94 (headV_one _) ?_; intro w5 G5; have R5 := Lib.hid (HR.out.next (HBX.out _ G5.out.2)); have Q5 : Hid (w5.heap[w4.heap.size]? = some (.cells (headV (n1, n2, n3, n4)).toArray 94 (0, 0))) := Lib.hid G5.out.1; have c50 : w5.cell? ⟨w4.heap.size, 0, none⟩ = some (.int .u64 (n1 : Int)) := block_cell G5.out.1 0 _ rfl; have c51 := (bookOf_cells (R5.out.dat.get (q := g) (.head _))).2.1)
        | fail)
      go_quiet (fail)
      have R6 := Lib.hid (R5.out.next (W' := w5.drewN nq) ⟨rfl, rfl, rfl, Nat.le_refl _, fun _ _ => rfl⟩)
      have Q6 : Hid ((w5.drewN nq).heap[w4.heap.size]? = some (.cells (headV (n1, n2, n3, n4)).toArray 94 (0, 0))) := Lib.hid Q5.out
      clear R5 Q5 c50 c51
      generalize w4.heap.size = q5 at Q6 HQ ⊢
      generalize w5.drewN nq = w6 at R6 Q6 ⊢
      clear HR HBX G5 B4
      have c60 : w6.cell? ⟨q5, 0, none⟩ = some (.int .u64 (n1 : Int)) := block_cell Q6.out 0 _ rfl
      have c63 : w6.cell? ⟨q5, 3, none⟩ = some (.int .u16 (n4 : Int)) := block_cell Q6.out 3 _ rfl
      have hcn := R6.out.cnt
      have hpos := R6.out.pos
      have HRC := Lib.hid (record_b R6.out.dat n1 n4 (by omega) hn4 (by omega) (by omega) (by omega))
      obtain ⟨ra, hra⟩ : ∃ ra, ra = recAt s y (stop - y) n1 (rs.length + 1) n4 := ⟨_, rfl⟩
      rw [← hra] at HRC HNX
      have HRA := Lib.hid hra
      clear hra
      go_wp2_with fail
      refine HRC.out.mono ?_
      rintro E w7 ⟨A7, m7, c7, rfl, hb7, hs7, ho7⟩
      have R7 := Lib.hid (R6.out.next hb7)
      have Q7 : Hid (w7.heap[q5]? = some (.cells (headV (n1, n2, n3, n4)).toArray 94 (0, 0))) := Lib.hid ((hb7.block _ (Array.getElem?_eq_some_iff.1 Q6.out).1).trans Q6.out)
      have S7 := Lib.hid hs7
      have O7 := Lib.hid (own_base ho7 (Nat.le_trans R6.out.turn.size (Nat.le_refl _)))
      clear hb7 hs7 ho7 HRC R6 Q6 c60 c63
      cases ra with
      | none =>
        go_wp2_with fail
        go_ret
        obtain ⟨A, n, c, rfl, hH⟩ := R7.out.stop HDO.out HNE.out (by rw [HNX.out]; rfl)
        exact ⟨A, n, c, rfl, hH⟩
      | some r =>
        have HNS : Hid (nextAt s stop M y rs.length a = some (r, n1, n4)) := Lib.hid (by rw [HNX.out]; rfl)
        obtain ⟨k1, k2, -, -, -, k6, k7, k8⟩ := nextAt_some HRL.out (by omega) HNS.out
        simp only at k1 k2 k6 k7 k8
        have HPG : Hid (1 ≤ n4) := Lib.hid (by rw [k6]; exact pagesN_pos _)
        have RD7 := Lib.hid (own_typed (bs := r) O7.out)
        have HBS := Lib.hid R7.out.turn.size
        have HQ5 := Lib.hid (Array.getElem?_eq_some_iff.1 Q7.out).1
        have HKX : Hid (∀ W : World, w7.grownBy W u3.ownBlock → W.heap[g]? = w7.heap[g]? ∧ Turns (· = g) wo W) := Lib.hid fun W hg => by
          have hv : ∀ b, u3.ownBlock = some b → wo.heap.size ≤ b := fun b e => by
            obtain ⟨vs, h1, _⟩ := R7.out.row
            exact (own_lt h1 b e).1
          exact ⟨hg.block _ (R7.out.dat.lt (q := g) (.head _)) (fun e => by have := hv g e.symm; have := HGL.out; omega), R7.out.turn.grown hg (fun b e => .inr (hv b e))⟩
        have HQ8 : Hid (∀ W : World, w7.grownBy W u3.ownBlock → W.heap[q5]? = some (.cells (headV (n1, n2, n3, n4)).toArray 94 (0, 0))) := Lib.hid fun W hg => by
          refine (hg.block _ HQ5.out fun e => ?_).trans Q7.out
          obtain ⟨vs, h1, _⟩ := R7.out.row
          rcases h1.2 with ⟨h0, _⟩ | ⟨g', cap, cur, h0, _, hg', _⟩
          · rw [h0] at e
            simp [Value.ownBlock] at e
          · rw [h0] at e
            simp only [Value.ownBlock, Option.some.injEq] at e
            subst e
            have := Q7.out.symm.trans hg'
            injection this with this
            injection this with _ this
            exact absurd this (by decide)
        clear k6 HNX HRA
        have hw4 : RowKit.wrap64 (n4 : Int) = (n4 : Int) := by unfold RowKit.wrap64; omega
        go_wp2_with (first
          | (at_builtin; go_must (refine wpList_push rfl (.tmp 44) (.tmp 46) rfl wo.heap.size u3 rs A7 m7 c7 r rfl rfl R7.out.row RD7.out S7.out HBS.out (by omega) ?_); intro A8 c8 w8 h8 hg8; have c83 : w8.cell? ⟨q5, 3, none⟩ = some (.int .u16 (n4 : Int)) := block_cell (HQ8.out _ hg8.out) 3 _ rfl)
          | fail)
        have hB8 := (HKX.out _ hg8.out).1.trans (R7.out.dat.get (q := g) (.head _))
        refine (turn_b hB8 (n4 : Int) (by omega) (by omega) (by omega)).mono ?_
        rintro E w9 ⟨rfl, h9, hg9⟩
        have Q9 : Hid (w9.heap[q5]? = some (.cells (headV (n1, n2, n3, n4)).toArray 94 (0, 0))) := Lib.hid ((hg9.block _ (Array.getElem?_eq_some_iff.1 (HQ8.out _ hg8.out)).1 (fun e => by
          injection e with e
          subst e
          have := (HQ8.out _ hg8.out).symm.trans hB8
          injection this with this
          injection this with _ this
          exact absurd this (by decide))).trans (HQ8.out _ hg8.out))
        have c90 : w9.cell? ⟨q5, 0, none⟩ = some (.int .u64 (n1 : Int)) := block_cell Q9.out 0 _ rfl
        have H9 := Lib.hid h9
        have G9 := Lib.hid hg9
        clear h9 hg9 hB8 c83
        go_wp2_with fail
        have hc93 := (bookOf_cells H9.out).2.2.2.1
        have ht9 : Turns (· = g) wo w9 := (HKX.out _ hg8.out).2.trans ⟨G9.out.os, G9.out.tape, G9.out.output, G9.out.size, fun k hk hn => G9.out.block k hk (fun e => by injection e with e; exact hn e)⟩
        have hf := R7.out.fuel
        have hpg := HPG.out
        obtain ⟨f', rfl⟩ : ∃ f', f = f' + 1 := ⟨f - 1, by omega⟩
        have hgo := R7.out.go
        rw [goRec_some HNS.out] at hgo
        simp only at hgo
        have e1 : ((rs ++ [r]).length : Int) = (rs.length : Int) + 1 := by simp
        have hrow := h8.out.kept (w' := w9) (fun k hk hlt => G9.out.block k hlt (fun e => by injection e with e; have := HGL.out; omega))
        refine ⟨⟨y + n4, n1, f', rs ++ [r], rfl, Lib.hid ⟨?_, ht9, hrow, hgo, by omega, by omega, by omega, by rw [e1]; have := HPG.out; omega, by omega, by omega⟩⟩, ?_⟩
        · rw [e1]
          exact (HDO.out.wide HNE.out ht9 H9.out).sub fun p hp => (List.mem_cons.1 hp).elim (fun e => e ▸ .head _) (fun h => .tail _ (List.mem_append_right _ h))
        · rw [hc93, K3.out]
          simp only [Option.getD_some, intOf]
          have := HPG.out
          omega
end Go.Proofs.Ytfegffdhlkhjbaa
