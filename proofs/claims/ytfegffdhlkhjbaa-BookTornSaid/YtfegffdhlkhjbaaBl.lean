/-
  What is proved: a record is written behind the others. Conditions as stated.
-/
import Derived.Test.YtfegffdhlkhjbaaBk
namespace Go.Proofs.Ytfegffdhlkhjbaa
open Go.RowKit
set_option maxRecDepth 100000

/-- Two own blocks are turned. -/
theorem Dat.two {w wr w' : World} {d T q2 q5 : Nat} {s : Dk} {L : List (Nat × Obj)} {o2 o5 o2' o5' : Obj} (h : Dat w d T s ((q2, o2) :: (q5, o5) :: L) wr) (hne : ∀ p ∈ L, p.1 ≠ q2 ∧ p.1 ≠ q5) (ht : Turns (fun b => b = q2 ∨ b = q5) wr w') (h2 : w'.heap[q2]? = some o2') (h5 : w'.heap[q5]? = some o5') :
    Dat w d T s ((q2, o2') :: (q5, o5') :: L) w' := by
  obtain ⟨S, k1, k2, k3⟩ := h
  have a2 := k3 (q2, o2) (.head _)
  have a5 := k3 (q5, o5) (.tail _ (.head _))
  refine ⟨S, k1.turns ht (fun k hk e => e.elim (fun e => a2.2.1 (e ▸ hk)) (fun e => a5.2.1 (e ▸ hk))), ⟨k2.1.step ht (fun k e => .inr (e.elim (fun e => e ▸ a2.1) (fun e => e ▸ a5.1))), k2.2⟩, fun p hp => ?_⟩
  rcases List.mem_cons.1 hp with rfl | hp
  · exact ⟨a2.1, a2.2.1, h2⟩
  · rcases List.mem_cons.1 hp with rfl | hp
    · exact ⟨a5.1, a5.2.1, h5⟩
    · obtain ⟨b1, b2, b3⟩ := k3 p (.tail _ (.tail _ hp))
      have hn := hne p hp
      exact ⟨b1, b2, (ht.block _ (Array.getElem?_eq_some_iff.1 b3).1 (fun e => e.elim hn.1 hn.2)).trans b3⟩

/-- All pages of a record. -/
def pageF (l n : Nat) (r : List UInt8) (k : Nat) : List UInt8 := pageB l n (pagesN r.length) k r
/-- What an Append does on the disk. -/
def appendD (s : Dk) (y : Int) (l n : Nat) (r : List UInt8) : Dk × Int :=
  if (wrs s y (pageF l n r) (pagesN r.length)).2 ≠ 0 then wrs s y (pageF l n r) (pagesN r.length) else (wrs s y (pageF l n r) (pagesN r.length)).1.sync
theorem rec_next (r : List UInt8) (k m : Nat) (hm : ((recRow r).drop (108 * k)).length = m) : ((recRow r).drop (108 * k)).drop (min 108 m) = (recRow r).drop (108 * (k + 1)) := by
  rw [List.length_drop] at hm
  rw [List.drop_drop]
  by_cases h : 108 ≤ m
  · rw [Nat.min_eq_left h]; congr 1
  · rw [List.drop_of_length_le (by omega), List.drop_of_length_le (by omega)]

/-- Between two rounds: k pages are written, and no error has come. -/
structure WAt (w : World) (d T M c p g : Nat) (s : Dk) (L LR : List (Nat × Obj)) (next stop : Int) (q2 q5 : Nat) (r : List UInt8) (k : Nat) (A : Option Addr) (m cc : Nat) (W : World) : Prop where
  ok : (wrs s next (pageF M (c + 1) r) k).2 = 0
  dat : Dat w d (T + k) (wrs s next (pageF M (c + 1) r) k).1 ((q2, .cells (headV (M, c + 1, k, p)).toArray 94 (0, 0)) :: (q5, .cells #[.slice A m cc] 29 (0, 0)) :: (g, bookOf d M (c : Int) next stop false) :: (LR ++ L)) W
  row : Rd (Stay w LR) W A m ((recRow r).drop (108 * k))
  sl : Oct.Sl A m cc
  ne : ∀ x ∈ (g, bookOf d M (c : Int) next stop false) :: (LR ++ L), x.1 ≠ q2 ∧ x.1 ≠ q5
theorem WAt.next {w W W' : World} {d T M c p g q2 q5 k m cc : Nat} {s : Dk} {L LR : List (Nat × Obj)} {next stop : Int} {r : List UInt8} {A : Option Addr} (h : WAt w d T M c p g s L LR next stop q2 q5 r k A m cc W) (hb : Below W.heap.size W W') : WAt w d T M c p g s L LR next stop q2 q5 r k A m cc W' :=
  ⟨h.ok, h.dat.next hb, h.row.kept (fun b hb' hlt => ⟨hb', hb.block b hlt⟩), h.sl, h.ne⟩
theorem WAt.book {w W : World} {d T M c p g q2 q5 k m cc : Nat} {s : Dk} {L LR : List (Nat × Obj)} {next stop : Int} {r : List UInt8} {A : Option Addr} (h : WAt w d T M c p g s L LR next stop q2 q5 r k A m cc W) : W.heap[g]? = some (bookOf d M (c : Int) next stop false) :=
  h.dat.get (q := g) (.tail _ (.tail _ (.head _)))
theorem rd_rd {P : Nat → Prop} {w : World} {A : Option Addr} {n : Nat} {bs : List UInt8} (h : Rd P w A n bs) : Oct.Rd w A n bs := ⟨h.1, fun hn => let ⟨b, o, e, hlt, _, hc⟩ := h.2 hn; ⟨b, o, e, hlt, hc⟩⟩
theorem rd_cut {P : Nat → Prop} {w : World} {A : Option Addr} {n c k : Nat} {all : List UInt8} (h : Rd P w A n all) (hk : k ≤ n) (hc : n ≤ c) : Rd P w (if c = k then A else A.map (·.add k)) (n - k) (all.drop k) := by
  refine ⟨by rw [List.length_drop, h.1], fun hn => ?_⟩
  obtain ⟨b, o, rfl, hb, hp, hcell⟩ := h.2 (by omega)
  rw [if_neg (by omega)]
  refine ⟨b, o + k, by simp [Addr.add_lit], hb, hp, fun j u hu => ?_⟩
  rw [Nat.add_assoc]
  exact hcell _ u (by rw [← hu, List.getElem?_drop])
/-- A page is made. -/
theorem WAt.page {w W : World} {d T M c p g q2 q5 k m cc : Nat} {s : Dk} {L LR : List (Nat × Obj)} {next stop : Int} {r : List UInt8} {A : Option Addr} (h : WAt w d T M c p g s L LR next stop q2 q5 r k A m cc W) (hp : p = pagesN r.length) (hr : r.length ≤ 4096) (hk : k < p) :
    Calls Try.prog 67 #[.pointer (some ⟨q2, 0, none⟩), .pointer (some ⟨q5, 0, none⟩)] W fun E W' => E = .returned (.agg (u8s (pageF M (c + 1) r k)).toArray) ∧ ∃ A' m' cc', Hid (Dat w d (T + k) (wrs s next (pageF M (c + 1) r) k).1 ((q2, .cells (headV (M, c + 1, k + 1, p)).toArray 94 (0, 0)) :: (q5, .cells #[.slice A' m' cc'] 29 (0, 0)) :: (g, bookOf d M (c : Int) next stop false) :: (LR ++ L)) W' ∧
      Rd (Stay w LR) W' A' m' ((recRow r).drop (108 * (k + 1))) ∧ Oct.Sl A' m' cc') := by
  have hm : m ≤ 5000 := by
    have h1 := h.row.1
    have h2 := recRow_length r
    rw [List.length_drop] at h1
    omega
  have hpl := pagesN_le r.length hr
  refine (pager_b M (c + 1) k p q2 q5 m cc (min 108 m) A ((recRow r).drop (108 * k)) W (h.dat.get (q := q2) (.head _)) (h.dat.get (q := q5) (.tail _ (.head _))) (rd_rd h.row) h.sl (by omega) hm rfl).mono fun E W' ⟨e, ht, h2, h5⟩ => ?_
  refine ⟨by rw [e, pageF, pageB, partB, hp], _, _, _, Lib.hid ⟨h.dat.two h.ne ht h2 h5, ?_, h.sl.cut (k := min 108 m) (m := m - min 108 m) (by omega)⟩⟩
  rw [← rec_next r k m h.row.1]
  have hne : ∀ b, Stay w LR b → b ≠ q2 ∧ b ≠ q5 := by
    rintro b (hb | ⟨o, ho⟩)
    · obtain ⟨S, _, _, k3⟩ := h.dat
      have a2 := (k3 _ (.head _)).1
      have a5 := (k3 _ (.tail _ (.head _))).1
      simp only at a2 a5
      omega
    · exact h.ne (b, o) (.tail _ (List.mem_append_left _ ho))
  exact (rd_cut h.row (by omega) h.sl.2.1).kept fun b hb hlt => ⟨hb, ht.block b hlt (fun e => e.elim (hne b hb).1 (hne b hb).2)⟩

set_option maxHeartbeats 8000000 in
theorem write_b {w wr : World} {d T g M c : Nat} {s : Dk} {L : List (Nat × Obj)} {next stop : Int} (h : Dat w d T s ((g, bookOf d M (c : Int) next stop false) :: L) wr) (hne : ∀ x ∈ L, x.1 ≠ g) (hT : T < 10000000) (A : Option Addr) (n cc : Nat) (r : List UInt8) (hr : Oct.Rd wr A n r) (hs : Oct.Sl A n cc) (hn : n ≤ 4096) (p : Nat) (hp : p = pagesN r.length)
    (h1 : 0 ≤ next) (h2 : next + p ≤ 32768) (hc : c + 1 < 1000000000) :
    Calls Try.prog 32 #[.pointer (some ⟨g, 0, none⟩), .slice A n cc, .int .i64 (p : Int)] wr fun E w' => E = .returned (.int .i64 (appendD s next M (c + 1) r).2) ∧ Hid (Dat w d (T + p) (appendD s next M (c + 1) r).1 ((g, bookOf d M (c : Int) next stop false) :: L) w') := by
  have hrl : r.length ≤ 4096 := by rw [hr.1]; exact hn
  have hpl := pagesN_le r.length hrl
  have hp38 : p ≤ 38 := by rw [hp]; exact hpl
  have HP := Lib.hid hp
  have HD := Lib.hid h
  have HNE := Lib.hid hne
  have HR := Lib.hid hr
  have HS := Lib.hid hs
  obtain ⟨-, k1, -, -, -, -⟩ := bookOf_cells (h.get (q := g) (.head _))
  clear h hr hs hp hpl hne
  go_enter Try.func32, Try.ntmps32
  go_wp2_with fail
  refine (first_b c (HD.out.get (q := g) (.head _)) M p hc).mono ?_
  rintro E w1 ⟨rfl, hb1⟩
  have B1 := Lib.hid hb1
  clear hb1 k1
  go_wp2_with fail
  refine (paged_b M (c + 1) 0 p A n cc r w1 (HR.out.below B1.out) HS.out hn).mono ?_
  rintro E w2 ⟨q2, q5, A1, c1, rfl, hb2, g1, g2, g3, g4, g5, g6⟩
  have B2 : Hid (Below wr.heap.size wr w2) := Lib.hid (B1.out.trans (hb2.mono B1.out.size))
  have HQ : Hid (wr.heap.size ≤ q2 ∧ q2 < q5) := Lib.hid ⟨Nat.le_trans B1.out.size g1, g2⟩
  obtain ⟨LR, hLR⟩ : ∃ LR, LR = (freshOf wr w2).filter fun x => decide (x.1 ≠ q2 ∧ x.1 ≠ q5) := ⟨_, rfl⟩
  have hmem : ∀ x, x ∈ LR ↔ x ∈ freshOf wr w2 ∧ x.1 ≠ q2 ∧ x.1 ≠ q5 := fun x => by rw [hLR, List.mem_filter]; simp
  have HA : Hid (WAt w d T M c p g s L LR next stop q2 q5 r 0 A1 (2 + n) c1 w2) := Lib.hid (by
    refine ⟨rfl, (HD.out.wide0 B2.out).sub fun x hx => ?_, ?_, g6, fun x hx => ?_⟩
    · simp only [List.mem_cons, List.mem_append] at hx ⊢
      rcases hx with rfl | rfl | rfl | hx | hx
      · exact .inl (mem_freshOf.2 ⟨HQ.out.1, g3⟩)
      · exact .inl (mem_freshOf.2 ⟨by have := HQ.out; omega, g4⟩)
      · exact .inr (.inl rfl)
      · exact .inl ((hmem x).1 hx).1
      · exact .inr (.inr hx)
    · rw [Nat.mul_zero, List.drop_zero]
      refine (own_typed g5).kept fun b hb hlt => ⟨.inr ⟨w2.heap[b], (hmem _).2 ⟨mem_freshOf.2 ⟨by have := HQ.out; omega, Array.getElem?_eq_getElem hlt⟩, ?_, ?_⟩⟩, rfl⟩
      · intro e
        have := hb.1
        simp only at e
        omega
      · intro e
        simp only at e
        subst e
        obtain ⟨C, hC⟩ := hb.2
        rw [g4] at hC
        injection hC with hC
        injection hC with _ hC
        exact absurd hC (by decide)
    · rcases List.mem_cons.1 hx with rfl | hx
      · have := HD.out.lt (q := g) (.head _)
        have := HQ.out
        simp only
        omega
      · rcases List.mem_append.1 hx with hx | hx
        · exact ((hmem x).1 hx).2
        · have := keeps_dat.toKeep.lt HD.out (.tail _ hx)
          have := HQ.out
          omega)
  clear hb2 g1 g2 g3 g4 g5 g6 hmem hLR B1 HR HS HQ B2 HD
  go_wp2_with fail
  go_loopw [21] (fun v21 wr => ∃ k : Nat, k ≤ p ∧ v21 = .int .i64 (k : Int) ∧ ∃ A1 m1 c1, Hid (WAt w d T M c p g s L LR next stop q2 q5 r k A1 m1 c1 wr)) (fun v21 _ => p - (intOf v21).toNat)
  case atStart => exact ⟨0, by omega, rfl, A1, 2 + n, c1, HA⟩
  case round =>
    clear HA
    obtain ⟨k, hk, rfl, A1, m1, c1, HA⟩ := hrel
    by_cases hkk : k < p
    · go_wp2_with fail
      try simp only [Act.put, List.setIfInBounds_toArray, List.set_cons_zero, List.set_cons_succ]
      refine wp_region_any (by kernel_rfl) ?_
      change wpAny _ _ _ _ _ _ _ (wr.drewN 1)
      have A1 : Hid (WAt w d T M c p g s L LR next stop q2 q5 r k A1 m1 c1 (wr.drewN 1)) := Lib.hid (HA.out.next ⟨rfl, rfl, rfl, Nat.le_refl _, fun _ _ => rfl⟩)
      clear HA
      generalize wr.drewN 1 = w1 at A1 ⊢
      have hS1 := A1.out.book
      have HWN : Hid (IntKind.i64.wrap (next + (k : Int)) = next + (k : Int)) := Lib.hid (by rw [IntKind.wrap_i64]; omega)
      have HWX : Hid ((wrs s next (pageF M (c + 1) r) k).1.write (next + (k : Int)) (pageF M (c + 1) r k) = wrs s next (pageF M (c + 1) r) (k + 1)) := Lib.hid (wrs_next A1.out.ok).symm
      have HPL : Hid ((pageF M (c + 1) r k).length = 128) := Lib.hid (pageB_length _ _ _ _ _)
      have HN1 := Lib.hid A1.out.ne
      refine wpAny_of_held (S := fun W => W.heap[g]? = some (bookOf d M (c : Int) next stop false)) _ _ _ _ ?_
      refine wpAnyH_take (i := 0) (oi := { dst := some 24, op := Op.move (Operand.tmp 0), type := 33, pos := "book.go:212", after := #[], guard := none }) (v := .pointer (some ⟨g, 0, none⟩)) rfl (by kernel_rfl) (by kernel_rfl) (by kernel_rfl) (fun _ _ _ h => h) (Or.inl ⟨by kernel_rfl, fun W hSW => by go_simp⟩) (hS1) ?_
      simp only [Act.put, List.setIfInBounds_toArray, List.set_cons_zero, List.set_cons_succ]
      refine wpAnyH_take (i := 1) (oi := { dst := some 25, op := Op.nilCheck (Operand.tmp 24), type := 0, pos := "book.go:212", after := #[{ on := 0, ground := Ground.data }], guard := none }) (v := .pointer (some ⟨g, 0, none⟩)) rfl (by kernel_rfl) (by kernel_rfl) (by kernel_rfl) (fun _ _ _ h => h) (Or.inl ⟨by kernel_rfl, fun W hSW => by go_simp⟩) (hS1) ?_
      simp only [Act.put, List.setIfInBounds_toArray, List.set_cons_zero, List.set_cons_succ]
      refine wpAnyH_take (i := 2) (oi := { dst := some 26, op := Op.fieldAddr 68 (Operand.tmp 25) 0, type := 0, pos := "book.go:212", after := #[{ on := 1, ground := Ground.data }], guard := none }) (v := .pointer (some ⟨g, 0, none⟩)) rfl (by kernel_rfl) (by kernel_rfl) (by kernel_rfl) (fun _ _ _ h => h) (Or.inl ⟨by kernel_rfl, fun W hSW => by go_simp⟩) (hS1) ?_
      simp only [Act.put, List.setIfInBounds_toArray, List.set_cons_zero, List.set_cons_succ]
      refine wpAnyH_take (i := 3) (oi := { dst := some 27, op := Op.load 24 (Operand.tmp 26), type := 24, pos := "book.go:212", after := #[{ on := 2, ground := Ground.data }], guard := none }) (v := .pointer (some ⟨d, 0, none⟩)) rfl (by kernel_rfl) (by kernel_rfl) (by kernel_rfl) (fun _ _ _ h => h) (Or.inl ⟨by kernel_rfl, fun W hSW => by obtain ⟨k0, -, -, k3, -, -⟩ := bookOf_cells hSW; go_simp⟩) (hS1) ?_
      simp only [Act.put, List.setIfInBounds_toArray, List.set_cons_zero, List.set_cons_succ]
      refine wpAnyH_take (i := 4) (oi := { dst := some 28, op := Op.move (Operand.tmp 0), type := 33, pos := "book.go:212", after := #[], guard := none }) (v := .pointer (some ⟨g, 0, none⟩)) rfl (by kernel_rfl) (by kernel_rfl) (by kernel_rfl) (fun _ _ _ h => h) (Or.inl ⟨by kernel_rfl, fun W hSW => by go_simp⟩) (hS1) ?_
      simp only [Act.put, List.setIfInBounds_toArray, List.set_cons_zero, List.set_cons_succ]
      refine wpAnyH_take (i := 5) (oi := { dst := some 29, op := Op.nilCheck (Operand.tmp 28), type := 0, pos := "book.go:212", after := #[{ on := 4, ground := Ground.data }], guard := none }) (v := .pointer (some ⟨g, 0, none⟩)) rfl (by kernel_rfl) (by kernel_rfl) (by kernel_rfl) (fun _ _ _ h => h) (Or.inl ⟨by kernel_rfl, fun W hSW => by go_simp⟩) (hS1) ?_
      simp only [Act.put, List.setIfInBounds_toArray, List.set_cons_zero, List.set_cons_succ]
      refine wpAnyH_take (i := 6) (oi := { dst := some 30, op := Op.fieldAddr 68 (Operand.tmp 29) 3, type := 0, pos := "book.go:212", after := #[{ on := 5, ground := Ground.data }], guard := none }) (v := .pointer (some ⟨g, 3, none⟩)) rfl (by kernel_rfl) (by kernel_rfl) (by kernel_rfl) (fun _ _ _ h => h) (Or.inl ⟨by kernel_rfl, fun W hSW => by go_simp⟩) (hS1) ?_
      simp only [Act.put, List.setIfInBounds_toArray, List.set_cons_zero, List.set_cons_succ]
      refine wpAnyH_take (i := 7) (oi := { dst := some 31, op := Op.load 3 (Operand.tmp 30), type := 3, pos := "book.go:212", after := #[{ on := 6, ground := Ground.data }], guard := none }) (v := .int .i64 next) rfl (by kernel_rfl) (by kernel_rfl) (by kernel_rfl) (fun _ _ _ h => h) (Or.inl ⟨by kernel_rfl, fun W hSW => by obtain ⟨k0, -, -, k3, -, -⟩ := bookOf_cells hSW; go_simp⟩) (hS1) ?_
      simp only [Act.put, List.setIfInBounds_toArray, List.set_cons_zero, List.set_cons_succ]
      refine wpAnyH_take (i := 8) (oi := { dst := some 32, op := Op.move (Operand.tmp 8), type := 3, pos := "book.go:212", after := #[], guard := none }) (v := .int .i64 (k : Int)) rfl (by kernel_rfl) (by kernel_rfl) (by kernel_rfl) (fun _ _ _ h => h) (Or.inl ⟨by kernel_rfl, fun W hSW => by go_simp⟩) (hS1) ?_
      simp only [Act.put, List.setIfInBounds_toArray, List.set_cons_zero, List.set_cons_succ]
      refine wpAnyH_take (i := 9) (oi := { dst := some 33, op := Op.binOp BinOp.add 3 (Operand.tmp 31) (Operand.tmp 32) 3, type := 3, pos := "book.go:212", after := #[{ on := 7, ground := Ground.data }, { on := 8, ground := Ground.data }], guard := none }) (v := .int .i64 (next + (k : Int))) rfl (by kernel_rfl) (by kernel_rfl) (by kernel_rfl) (fun _ _ _ h => h) (Or.inl ⟨by kernel_rfl, fun W hSW => by go_simp; exact HWN.out⟩) (hS1) ?_
      simp only [Act.put, List.setIfInBounds_toArray, List.set_cons_zero, List.set_cons_succ]
      refine wpAnyH_take (i := 10) (oi := { dst := some 34, op := Op.move (Operand.tmp 7), type := 99, pos := "book.go:212", after := #[], guard := none }) (v := .func (.func 67) #[] #[.pointer (some ⟨q2, 0, none⟩), .pointer (some ⟨q5, 0, none⟩)]) rfl (by kernel_rfl) (by kernel_rfl) (by kernel_rfl) (fun _ _ _ h => h) (Or.inl ⟨by kernel_rfl, fun W hSW => by go_simp⟩) (hS1) ?_
      simp only [Act.put, List.setIfInBounds_toArray, List.set_cons_zero, List.set_cons_succ]
      refine wpAnyH_ready (rs := [11]) (by kernel_rfl) (by simp) ?_
      refine AllReadyH.cons (o := { dst := some 35, op := Op.call { callee := Callee.value (Operand.tmp 34), args := #[], argTypes := #[] }, type := 43, pos := "book.go:212", after := #[{ on := 10, ground := Ground.data }], guard := none }) rfl (fun K' hK' => ?_) AllReadyH.nil
      go_simp
      go_at_call 67
      refine (A1.out.page HP.out hrl hkk).mono ?_
      rintro E w2 ⟨rfl, A3, m3, c3, H2⟩
      have S2 : w2.heap[g]? = some (bookOf d M (c : Int) next stop false) := H2.out.1.get (q := g) (.tail _ (.tail _ (.head _)))
      refine hK'.out _ _ S2 (fun _ => ?_)
      clear hK' K'
      refine wpAnyH_ready (rs := [12]) (by kernel_rfl) (by simp) ?_
      refine AllReadyH.cons (o := { dst := some 36, op := Op.call { callee := Callee.value (Operand.func 21), args := #[Operand.tmp 27, Operand.tmp 33, Operand.tmp 35], argTypes := #[24, 3, 43] }, type := 26, pos := "book.go:212", after := #[{ on := 3, ground := Ground.data }, { on := 9, ground := Ground.data }, { on := 11, ground := Ground.data }, { on := 11, ground := Ground.chain }], guard := none }) rfl (fun K' hK' => ?_) AllReadyH.nil
      go_simp
      go_at_call 21
      refine (dat_write H2.out.1 (next + (k : Int)) (pageF M (c + 1) r k) HPL.out (by omega)).mono ?_
      rw [HWX.out]
      rintro E w3 ⟨rfl, h3⟩
      have H3 := Lib.hid h3
      have R3 : Hid (Rd (Stay w LR) w3 A3 m3 ((recRow r).drop (108 * (k + 1)))) := Lib.hid (H2.out.2.1.kept (Stay.kept (H2.out.1.sub (L' := LR) fun x hx => .tail _ (.tail _ (.tail _ (List.mem_append_left _ hx)))) (h3.sub (L' := LR) fun x hx => .tail _ (.tail _ (.tail _ (List.mem_append_left _ hx)))) fun _ h => h))
      have S3 : w3.heap[g]? = some (bookOf d M (c : Int) next stop false) := h3.get (q := g) (.tail _ (.tail _ (.head _)))
      have HSL := Lib.hid H2.out.2.2
      refine hK'.out _ _ S3 (fun _ => ?_)
      clear hK' K' h3 H2 A1 S2 HWX HPL
      refine wpAnyH_take (i := 13) (oi := { dst := some 9, op := Op.assign (Operand.tmp 36), type := 26, pos := "book.go:212", after := #[{ on := 12, ground := Ground.data }, { on := 12, ground := Ground.chain }, { on := 0, ground := Ground.phase }, { on := 1, ground := Ground.phase }, { on := 2, ground := Ground.phase }, { on := 3, ground := Ground.phase }, { on := 4, ground := Ground.phase }, { on := 5, ground := Ground.phase }, { on := 6, ground := Ground.phase }, { on := 7, ground := Ground.phase }, { on := 8, ground := Ground.phase }, { on := 9, ground := Ground.phase }, { on := 10, ground := Ground.phase }, { on := 11, ground := Ground.phase }, { on := 12, ground := Ground.phase }], guard := none }) (v := .int .i64 (wrs s next (pageF M (c + 1) r) (k + 1)).2) rfl (by kernel_rfl) (by kernel_rfl) (by kernel_rfl) (fun _ _ _ h => h) (Or.inl ⟨by kernel_rfl, fun W hSW => by go_simp⟩) (S3) ?_
      simp only [Act.put, List.setIfInBounds_toArray, List.set_cons_zero, List.set_cons_succ]
      refine wpAnyH_done (by kernel_rfl) ?_ _
      obtain ⟨e1, he1⟩ : ∃ e1, e1 = (wrs s next (pageF M (c + 1) r) (k + 1)).2 := ⟨_, rfl⟩
      rw [← he1]
      have HE := Lib.hid he1
      clear he1 S3 hS1
      by_cases he : e1 = 0
      · subst he
        go_wp2_with fail
        go_roundw
        case measure => simp [intOf]; omega
        case rel => exact ⟨k + 1, by omega, by go_num, A3, m3, c3, Lib.hid ⟨HE.out.symm, H3.out, R3.out, HSL.out, fun x hx => HN1.out x hx⟩⟩
      · have HST : Hid (appendD s next M (c + 1) r = wrs s next (pageF M (c + 1) r) (k + 1)) := Lib.hid (by
          have h1 := wrs_stuck (s := s) (x := next) (f := pageF M (c + 1) r) (k := k + 1) (by rw [← HE.out]; exact he) (p - (k + 1))
          rw [show k + 1 + (p - (k + 1)) = p by omega, HP.out] at h1
          rw [appendD, h1, if_pos (by rw [← HE.out]; exact he)])
        go_wp2_with fail
        go_ret
        rw [HST.out, ← HE.out]
        exact ⟨rfl, Lib.hid ((H3.out.more (by omega)).sub fun x hx => (List.mem_cons.1 hx).elim (fun e => e ▸ .tail _ (.tail _ (.head _))) (fun h => .tail _ (.tail _ (.tail _ (List.mem_append_right _ h)))))⟩
    · obtain rfl : k = p := by omega
      have HST : Hid (appendD s next M (c + 1) r = (wrs s next (pageF M (c + 1) r) k).1.sync) := Lib.hid (by
        have h1 := HA.out.ok
        rw [appendD, ← HP.out, if_neg (by rw [h1]; simp)])
      have HSY := Lib.hid (dat_sync HA.out.dat (by omega))
      rw [← HST.out] at HSY
      obtain ⟨b0, -, -, -, -, -⟩ := bookOf_cells HA.out.book
      clear HA
      go_wp2_with fail
      refine HSY.out.mono ?_
      rintro E w3 ⟨rfl, h3⟩
      have H3 := Lib.hid h3
      clear h3 HSY b0
      go_wp2_with fail
      go_ret
      exact ⟨rfl, Lib.hid (H3.out.sub fun x hx => (List.mem_cons.1 hx).elim (fun e => e ▸ .tail _ (.tail _ (.head _))) (fun h => .tail _ (.tail _ (.tail _ (List.mem_append_right _ h)))))⟩
end Go.Proofs.Ytfegffdhlkhjbaa
