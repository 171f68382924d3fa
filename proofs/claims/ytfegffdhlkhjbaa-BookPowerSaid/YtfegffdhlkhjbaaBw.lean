/-
  What is proved: the walk of BookPower for whatever comes in. Conditions as stated.
-/
import Derived.Test.YtfegffdhlkhjbaaBv
namespace Go.Proofs.Ytfegffdhlkhjbaa
open Go.RowKit
set_option maxRecDepth 100000

/-- One more slice that came in, beside other own blocks. -/
theorem wpList_was2 {w W : World} {d T : Nat} {s : Dk} {L L0 : List (Nat × Obj)} {ops : Array Oper} {rest : List Oper} {o : Oper} {a : Act} {Q : Exit → Act → World → Prop} (hgd : o.guard = none) (sv x : Operand)
    (ho : o.op = Op.call { callee := Callee.builtin Builtin.append, args := #[sv, x], argTypes := #[28, 28] })
    (v : Value) (rs : List (List UInt8)) (A : Option Addr) (m c : Nat) (r : List UInt8) (hs : a.eval sv = v) (hx : a.eval x = .slice (some ⟨W.heap.size, 0, none⟩) 1 1)
    (hD : Dat w d T s (L ++ L0) W) (hsep : ∀ p ∈ L0, ∀ x ∈ L, p.1 ≠ x.1) (hw : Was w L v rs W) (hr : Rd (fun b => b < w.heap.size) W A m r) (hsl : Sl A m c) (hm : rs.length < 1000000)
    (h : ∀ A' c' W' L', Hid (Dat w d T s (L' ++ L0) W' ∧ Was w L' (.slice A' (rs.length + 1) c') (rs ++ [r]) W' ∧ ∀ p ∈ L0, ∀ x ∈ L', p.1 ≠ x.1) → wpList Try.prog ops Q rest (a.put o.dst (.slice A' (rs.length + 1) c')) W') :
    wpList Try.prog ops Q (o :: rest) a (W.alloc (.cells #[.slice A m c] 29)) := by
  obtain ⟨i0, hi, hz0, hz1, hz2⟩ := info_parts Try.info29
  obtain ⟨⟨vs, h1, h2⟩, h3⟩ := hw
  obtain ⟨v', W', hrun, hv', hg', _, hat⟩ := run_append_own_at (P := Try.prog) (W.alloc (.cells #[.slice A m c] 29)) w.heap.size 28 o.type 29 i0 (.slice none 0 0) 1 24 Try.underlying28 hi hz0 hz1 hz2 rfl (by decide) v rs.length vs (h1.alloc _) ⟨W.heap.size, 0, none⟩ 1 1 [.slice A m c] rfl (cell_one_new _ _ _) (by intro u hu; simp at hu; subst hu; rfl) (by unfold maxLen; omega) (by omega) (by have := hD.below.size; simp; omega)
  have hgo : W.grownBy W' v.ownBlock := ⟨hg'.os, hg'.tape, hg'.output, Nat.le_trans (by simp) hg'.size, fun k hk hn => (hg'.block k (by simp; omega) hn).trans (heap_alloc_old W _ hk)⟩
  have hvl : vs.length = rs.length := by have := h1.1; omega
  have hrm : r.length = m := hr.1
  have hge : ∀ g, v.ownBlock = some g → w.heap.size ≤ g := fun g e => (own_lt h1 g e).1
  have hold : ∀ b, b < w.heap.size → b < W.heap.size → b < w.heap.size ∧ W'.heap[b]? = W.heap[b]? := fun b hb hlt => ⟨hb, hgo.block b hlt fun e => by have := hge b e.symm; omega⟩
  obtain ⟨A', c', rfl, _⟩ := row_shape (e := 29) hv'
  have hrow : ∃ vs', W'.ownsRow w.heap.size 29 1 (.slice A' (rs.length + 1) c') (rs ++ [r]).length vs' ∧ ∀ (j : Nat) (q : List UInt8), (rs ++ [r])[j]? = some q → ∃ Aj cj, vs'[j]? = some (.slice Aj q.length cj) ∧ Rd (fun b => b < w.heap.size) W' Aj q.length q ∧ Sl Aj q.length cj := by
    refine ⟨vs ++ [.slice A m c], by rw [List.length_append]; exact hv', fun j q hq => ?_⟩
    by_cases hj : j < rs.length
    · rw [List.getElem?_append_left hj] at hq
      obtain ⟨Aj, cj, k1, k2, k3⟩ := h2 j q hq
      exact ⟨Aj, cj, by rw [List.getElem?_append_left (by omega)]; exact k1, k2.kept hold, k3⟩
    · have hj' : j = rs.length := by
        have := (List.getElem?_eq_some_iff.1 hq).1
        simp at this
        omega
      subst hj'
      rw [List.getElem?_append_right (Nat.le_refl _), Nat.sub_self] at hq
      simp only [List.getElem?_cons_zero, Option.some.injEq] at hq
      subst hq
      refine ⟨A, c, ?_, ?_, ?_⟩
      · rw [← hvl, List.getElem?_append_right (Nat.le_refl _), Nat.sub_self, hrm]
        rfl
      · rw [hrm]; exact hr.kept hold
      · rw [hrm]; exact hsl
  have hD' : ∃ L', Dat w d T s (L' ++ L0) W' ∧ (((Value.slice A' (rs.length + 1) c').ownBlock = none ∧ L' = []) ∨ ∃ g o, (Value.slice A' (rs.length + 1) c').ownBlock = some g ∧ L' = [(g, o)]) ∧ ∀ p ∈ L0, ∀ x ∈ L', p.1 ≠ x.1 := by
    have key : ∃ L', Dat w d T s (L' ++ L0) W' ∧ ∀ g, (Value.slice A' (rs.length + 1) c').ownBlock = some g → (∃ o, (g, o) ∈ L') ∧ ∀ p ∈ L0, p.1 ≠ g := by
      have hfr : ∀ p ∈ L0, p.1 < W.heap.size := fun p hp => keeps_dat.toKeep.lt hD (List.mem_append_right _ hp)
      rcases h3 with ⟨h0, rfl⟩ | ⟨g, o, e, rfl⟩
      · have hb : Below W.heap.size W W' := by
          rw [h0] at hgo
          exact ⟨hgo.os, hgo.tape, hgo.output, hgo.size, fun k hk => hgo.block k hk (by simp)⟩
        refine ⟨_, Dat.wide0 (L := L0) hD hb, fun g e => ?_⟩
        rcases hat with hat | hat
        · rw [h0] at hat
          rw [hat] at e
          cases e
        · rw [hat] at e
          injection e with e
          have hlt := (own_lt hv' g (by rw [hat, e])).2
          have hsz : W.heap.size ≤ g := by rw [← e]; simp
          exact ⟨⟨W'.heap[g], mem_freshOf.2 ⟨hsz, Array.getElem?_eq_getElem hlt⟩⟩, fun p hp => by have := hfr p hp; omega⟩
      · have hlt : g < W'.heap.size := Nat.lt_of_lt_of_le (hD.lt (q := g) (.head _)) hgo.size
        have ht : Turns (· = g) W W' := by
          rw [e] at hgo
          exact ⟨hgo.os, hgo.tape, hgo.output, hgo.size, fun k hk hn => hgo.block k hk (fun x => by injection x with x; exact hn x)⟩
        have hsg : ∀ p ∈ L0, p.1 ≠ g := fun p hp => hsep p hp (g, o) (.head _)
        have hw := Dat.wide (L := L0) hD hsg ht (Array.getElem?_eq_getElem hlt)
        refine ⟨(g, W'.heap[g]) :: freshOf W W', hw, fun g' e' => ?_⟩
        rcases hat with hat | hat
        · rw [hat, e] at e'
          injection e' with e'
          subst e'
          exact ⟨⟨_, .head _⟩, hsg⟩
        · have hlt' := (own_lt hv' g' e').2
          rw [hat] at e'
          injection e' with e'
          have hsz : W.heap.size ≤ g' := by rw [← e']; simp
          exact ⟨⟨W'.heap[g'], .tail _ (mem_freshOf.2 ⟨hsz, Array.getElem?_eq_getElem hlt'⟩)⟩, fun p hp => by have := hfr p hp; omega⟩
    obtain ⟨L', k1, k2⟩ := key
    cases hq : (Value.slice A' (rs.length + 1) c').ownBlock with
    | none => exact ⟨[], k1.sub (fun p hp => List.mem_append_right _ hp), .inl ⟨rfl, rfl⟩, fun _ _ _ hx => by cases hx⟩
    | some g =>
      obtain ⟨⟨o, ho⟩, hne⟩ := k2 g hq
      refine ⟨[(g, o)], k1.sub (fun p hp => ?_), .inr ⟨g, o, rfl, rfl⟩, fun p hp x hx => ?_⟩
      · rcases List.mem_append.1 hp with hp | hp
        · simp only [List.mem_singleton] at hp
          subst hp
          exact List.mem_append_left _ ho
        · exact List.mem_append_right _ hp
      · simp only [List.mem_singleton] at hx
        subst hx
        exact hne p hp
  obtain ⟨L', k1, k2, k3⟩ := hD'
  refine wpList_plain hgd fun K hK => ?_
  unfold Oper.wp execOp
  simp only [ho, resolve, invoke, builtin, Sem.run_bind, Sem.run_pure, Result.andThen_ok, List.map_toArray, List.map_cons, List.map_nil, hs, hx, hrun]
  exact hK _ _ (h A' c' W' L' (Lib.hid ⟨k1, ⟨hrow, k2⟩, k3⟩))

/-- Behind i crashes. -/
structure PwAt (w : World) (d i : Nat) (L : List (Nat × Obj)) (v : Value) (q : List (Nat × List UInt8)) (s : Dk) (W : World) : Prop where
  dat : Dat w d (20 + 130 * i) s L W
  was : Was w L v (recsOf q) W
  calm : Calm s
  loose : s.loose = []
  book : ∃ M K a na C, BookIs s 0 4000 M K q a na C ∧ K ≤ M ∧ M ≤ 2 * i ∧ C ≤ 2 + 2 * i
  cnt : q.length ≤ 10 * i
  fin : endOf (0 + 20) q ≤ 20 + 10 * (q.length : Int)
/-- Within one, k records are appended. -/
structure PiAt (w : World) (d i k g : Nat) (L LF : List (Nat × Obj)) (v : Value) (q : List (Nat × List UInt8)) (M K a na C : Nat) (s : Dk) (W : World) : Prop where
  dat : Dat w d (30 + 130 * i + 10 * k) s (L ++ ((g, bookOf d M (q.length : Int) (endOf (0 + 20) q) 4000 false) :: LF)) W
  ne : ∀ p ∈ LF, p.1 ≠ g
  sep : ∀ p ∈ (g, bookOf d M (q.length : Int) (endOf (0 + 20) q) 4000 false) :: LF, ∀ x ∈ L, p.1 ≠ x.1
  was : Was w L v (recsOf q) W
  off : s.off = false
  loose : s.loose = []
  book : BookIs s 0 4000 M K q a na C
  low : K < M
  life : M ≤ 2 * i + 1
  count : C ≤ 3 + 2 * i
  cnt : q.length ≤ 10 * i + k
  fin : endOf (0 + 20) q ≤ 20 + 10 * (q.length : Int)
/-- Ahead of the power's going. -/
structure PeAt (w : World) (d i : Nat) (L : List (Nat × Obj)) (v : Value) (q : List (Nat × List UInt8)) (last : Option (List UInt8)) (s : Dk) (W : World) : Prop where
  dat : Dat w d (140 + 130 * i) s L W
  was : Was w L v (recsOf q) W
  rdy : Rdy s 4000 q last (2 * i + 1) (3 + 2 * i)
  cnt : q.length + (if last.isSome then 1 else 0) ≤ 10 * i + 10
  fin : endOf (0 + 20) q ≤ 20 + 10 * (q.length : Int)
theorem PiAt.ready {w W : World} {d i k g M K a na C : Nat} {L LF : List (Nat × Obj)} {v : Value} {q : List (Nat × List UInt8)} {s : Dk} (h : PiAt w d i k g L LF v q M K a na C s W) (hk : k ≤ 10) : PeAt w d i L v q none s W :=
  ⟨(h.dat.sub fun p hp => List.mem_append_left _ hp).more (by omega), h.was, h.book.rdy (by omega) h.off h.loose (Nat.le_of_lt h.low) h.life h.count, by have := h.cnt; simp; omega, h.fin⟩
theorem PiAt.book' {w W : World} {d i k g M K a na C : Nat} {L LF : List (Nat × Obj)} {v : Value} {q : List (Nat × List UInt8)} {s : Dk} (h : PiAt w d i k g L LF v q M K a na C s W) :
    Dat w d (30 + 130 * i + 10 * k) s ((g, bookOf d M (q.length : Int) (endOf (0 + 20) q) 4000 false) :: (LF ++ L)) W ∧ ∀ p ∈ LF ++ L, p.1 ≠ g :=
  ⟨h.dat.sub fun p hp => by
    simp only [List.mem_cons, List.mem_append] at hp ⊢
    rcases hp with rfl | hp | hp
    · exact .inr (.inl rfl)
    · exact .inr (.inr hp)
    · exact .inl hp, fun p hp => (List.mem_append.1 hp).elim (h.ne p) (fun hx e => h.sep _ (.head _) p hx e.symm)⟩
theorem BookIs.fuse {s : Dk} {E : Int} {M K a na C : Nat} {q : List (Nat × List UInt8)} (h : BookIs s 0 E M K q a na C) (m : Int) : BookIs (s.fuseAt m) 0 E M K q a na C :=
  h.reopen (h.cell.congr (fun _ _ => rfl) (Nat.le_refl _) h.cell.small) (Nat.le_refl _) h.life fun _ _ _ => rfl

theorem Opened.next {w W W' : World} {d T g life n c : Nat} {s : Dk} {L LF : List (Nat × Obj)} {y stop : Int} {rs : List (List UInt8)} {A : Option Addr} (h : Opened w d T s L g life y stop rs A n c LF W) (hb : Below W.heap.size W W') : Opened w d T s L g life y stop rs A n c LF W' :=
  ⟨h.dat.next hb, h.row.kept fun b hb' hlt => ⟨hb', hb.block b hlt⟩, h.sl, h.new, h.old⟩
theorem PiAt.next {w W W' : World} {d i k g M K a na C : Nat} {L LF : List (Nat × Obj)} {v : Value} {q : List (Nat × List UInt8)} {s : Dk} (h : PiAt w d i k g L LF v q M K a na C s W) (hb : Below W.heap.size W W') : PiAt w d i k g L LF v q M K a na C s W' :=
  have hD := h.dat.next hb
  ⟨hD, h.ne, h.sep, h.was.go (h.dat.sub fun _ hp => List.mem_append_left _ hp) (hD.sub fun _ hp => List.mem_append_left _ hp), h.off, h.loose, h.book, h.low, h.life, h.count, h.cnt, h.fin⟩
theorem Rdy.mono {s : Dk} {E : Int} {q : List (Nat × List UInt8)} {last : Option (List UInt8)} {Mb Cb Mb' Cb' : Nat} (h : Rdy s E q last Mb Cb) (hM : Mb ≤ Mb') (hC : Cb ≤ Cb') : Rdy s E q last Mb' Cb' := fun picks =>
  let ⟨s2, M2, K2, q2, a, na, C, h1, h2, h3, h4, h5, h6, h7, h8⟩ := h picks
  ⟨s2, M2, K2, q2, a, na, C, h1, h2, h3, h4, h5, Nat.le_trans h6 hM, Nat.le_trans h7 hC, h8⟩
theorem pages_1000 {n : Nat} (h : n ≤ 1000) : pagesN n ≤ 10 := by unfold pagesN; omega

set_option maxHeartbeats 40000000 in
theorem bookPower_by (hW : Works) (A : Option Addr) (n c : Nat) (xs : List Crs) (w : World) (hx : Crss w A n xs) (hs : Sl A n c) :
    Calls Try.prog 3 #[.slice A n c] w fun E w' => E = .returned (.bool true) ∧ Below w.heap.size w w' := by
  have HW := Lib.hid hW
  have HX := Lib.hid hx
  have hsc := hs.2
  clear hW hx hs
  by_cases hn : n ≤ 20
  · go_enter Try.func3, Try.ntmps3
    go_wp2_with fail
    refine (dat_new (Below.refl _ w)).mono ?_
    rintro E w1 ⟨d, rfl, h1, -⟩
    have D1 := Lib.hid h1
    clear h1
    go_wp2_with fail
    refine (book_format D1.out (by omega) (x := 0) 4000 (by omega) (by omega)).mono ?_
    rintro E w2 ⟨rfl, s2, H2⟩
    clear D1
    go_wp2_with fail
    go_loopw [4, 5] (fun v4 v5 wr => ∃ k : Nat, k ≤ n ∧ v5 = .int .i64 (k : Int) ∧ ∃ L q s, Hid (PwAt w d k L v4 q s wr)) (fun _ v5 _ => n - (intOf v5).toNat)
    case atStart => exact ⟨0, Nat.zero_le _, rfl, [], [], s2, Lib.hid ⟨H2.out.1, Was.nil _ _, H2.out.2.1, H2.out.2.2.1, ⟨0, 0, 0, 2, 2, H2.out.2.2.2.1, Nat.le_refl _, Nat.le_refl _, by omega⟩, Nat.le_refl _, by decide⟩⟩
    case round =>
      clear H2
      obtain ⟨k, hk, rfl, L, q, s, HD⟩ := hrel
      by_cases hkk : k < n
      · obtain ⟨x, hx⟩ : ∃ x, xs[k]? = some x := ⟨_, List.getElem?_eq_getElem (by have := HX.out.1; omega)⟩
        obtain ⟨b, o, rfl, hb0, hcx⟩ := HX.out.2 (by omega)
        obtain ⟨hcx, hrb, hsb, hrp, hsp⟩ := hcx k x hx
        have HCB : Hid (∀ W, Below w.heap.size w W → W.cell? ⟨b, o + k * 3, none⟩ = some (.slice x.adr x.ls.length x.room)) := Lib.hid fun W hb => (hb.cell (p := ⟨b, o + k * 3, none⟩) hb0).trans (hcx 0 _ rfl)
        have HCN : Hid (∀ W, Below w.heap.size w W → W.cell? ⟨b, o + k * 3 + 1, none⟩ = some (.int .u8 (x.num.toNat : Int))) := Lib.hid fun W hb => (hb.cell (p := ⟨b, o + k * 3 + 1, none⟩) hb0).trans (hcx 1 _ rfl)
        have HCP : Hid (∀ W, Below w.heap.size w W → W.cell? ⟨b, o + k * 3 + 2, none⟩ = some (.slice x.padr x.picks.length x.proom)) := Lib.hid fun W hb => (hb.cell (p := ⟨b, o + k * 3 + 2, none⟩) hb0).trans (hcx 2 _ rfl)
        have HRB : Hid (∀ W, Below w.heap.size w W → Rows (fun b => b < w.heap.size) W x.adr x.ls.length x.ls) := Lib.hid fun W hb => hrb.kept fun b hb' _ => ⟨hb', hb.block b hb'⟩
        have HRP : Hid (∀ W, Below w.heap.size w W → Rd (fun b => b < w.heap.size) W x.padr x.picks.length x.picks) := Lib.hid fun W hb => rd_low hrp hb
        have HSB := Lib.hid hsb
        have HSP := Lib.hid hsp
        obtain ⟨x16, hx16⟩ : ∃ m, m = x.num.toNat % 64 := ⟨_, rfl⟩
        have htm : ((x.num.toNat : Int)).tmod 64 = (x16 : Int) := by rw [Int.tmod_eq_emod_of_nonneg (by omega)]; omega
        have hxl : x16 < 64 := by omega
        have hxz : (x.num.toNat : Int) % 64 = (x16 : Int) := by omega
        have hwn : RowKit.wrap64 (x.num.toNat : Int) = (x.num.toNat : Int) := by unfold RowKit.wrap64; have := x.num.toNat_lt; omega
        clear hcx hx hrb hsb hrp hsp hx16
        have cb := HCB.out _ HD.out.dat.below
        have cp := HCP.out _ HD.out.dat.below
        have cn := HCN.out _ HD.out.dat.below
        obtain ⟨m, hm⟩ : ∃ m, m = x.ls.length := ⟨_, rfl⟩
        obtain ⟨pm, hpm⟩ : ∃ m, m = x.picks.length := ⟨_, rfl⟩
        have HM := Lib.hid hm
        rw [← hm] at HCB HRB HSB cb
        rw [← hpm] at HCP HRP HSP cp
        have hmc := HSB.out.2
        clear hm hpm
        obtain ⟨A4, c4, rfl, hr4, hs4⟩ := HD.out.was.rows HD.out.dat
        have HR4 := Lib.hid hr4
        have HS4 := Lib.hid hs4
        clear hr4 hs4
        by_cases hok : pm ≤ 200 ∧ m ≤ 10
        · obtain ⟨hpm, hml⟩ := hok
          go_wp2_with fail
          refine (dat_fuse HD.out.dat (x16 : Int) (by omega)).mono ?_
          rintro E w3 ⟨rfl, h3⟩
          have D3 := Lib.hid h3
          clear h3 cb cp cn
          obtain ⟨M, K, a, na, C, hB, hKM, hM, hC⟩ := HD.out.book
          have HO := Lib.hid (book_open_fused D3.out HD.out.calm.1 HD.out.loose (by omega) (hB.fuse (x16 : Int)) hKM (by omega) (by omega) (by omega) (by omega))
          clear hB
          go_wp2_with fail
          refine HO.out.mono ?_
          rintro E w4 (⟨rfl, s4, H4⟩ | ⟨g, A5, n5, c5, rfl, s4, LF, H4⟩)
          · have D4 : Hid (Dat w d (140 + 130 * k) s4 L w4) := Lib.hid (H4.out.1.more (by omega))
            have PE : Hid (PeAt w d k L (.slice A4 (recsOf q).length c4) q none s4 w4) := Lib.hid ⟨D4.out, HD.out.was.go HD.out.dat D4.out, H4.out.2.mono (by omega) (by omega), by have := HD.out.cnt; simp; omega, HD.out.fin⟩
            clear D4 H4 HD HO D3 HR4 HS4
            have cb := HCB.out _ PE.out.dat.below
            go_wp2_with fail
            go_loopw [4, 8, 9, 10, 11] (fun v4 v8 v9 v10 v11 wr => v8 = .int .i64 8 ∧ v9 = .slice none 0 0 ∧ v10 = .bool false ∧ v11 = .int .i64 0 ∧ Hid (PeAt w d k L v4 q none s4 wr)) (fun _ _ _ _ _ _ => 0)
            case atStart => exact ⟨rfl, rfl, rfl, rfl, PE⟩
            case round =>
              clear PE cb
              obtain ⟨rfl, rfl, rfl, rfl, PE⟩ := hrel
              have cb := HCB.out _ PE.out.dat.below
              by_cases h0m : 0 < m
              · obtain h0d : (0 : Int) < (m : Int) := by omega
                obtain ⟨A6, c6, rfl, hr6, hs6⟩ := PE.out.was.rows PE.out.dat
                clear hr6 hs6
                have cp := HCP.out _ PE.out.dat.below
                have cb := HCB.out _ PE.out.dat.below
                go_wp2_with fail
                refine (dat_off PE.out.dat).mono ?_
                rintro E w7 ⟨rfl, h7⟩
                have D7 := Lib.hid h7
                clear h7 cp cb
                have cp := HCP.out _ D7.out.below
                obtain ⟨s9, M9, K9, q9, a9, na9, C9, hon, hcalm, hloose, hB9, hK9, hM9, hC9, hq9⟩ := PE.out.rdy x.picks
                have HON2 := Lib.hid (dat_on D7.out (by omega) x.padr pm x.proom x.picks (HRP.out _ D7.out.below) HSP.out)
                rw [hon] at HON2
                have HC9 := Lib.hid hcalm
                have HB9 := Lib.hid hB9
                have HQ9 := Lib.hid hq9
                clear hon hcalm hloose hB9 hq9
                go_wp2_with fail
                refine HON2.out.mono ?_
                rintro E w8 ⟨rfl, h8⟩
                have D8 := Lib.hid h8
                clear h8 cp D7 HON2
                go_wp2_with fail
                refine (book_open D8.out HC9.out (by omega) HB9.out 4000 (by omega) (by omega) (by omega) (by omega) (by omega) (by omega)).mono ?_
                rintro E w9 ⟨g9, A9, n9, c9, rfl, s10, LF10, H10⟩
                have O9 := Lib.hid H10.out.1
                have HB10 := Lib.hid H10.out.2
                clear H10 D8
                have W9 := Lib.hid (PE.out.was.go PE.out.dat (O9.out.dat.sub (L' := L) fun p hp => .tail _ (List.mem_append_right _ hp)))
                have hcnt := PE.out.cnt
                have hfin := PE.out.fin
                obtain rfl : q9 = q := by
                  rcases HQ9.out with e | ⟨_, _, e, _⟩
                  · exact e
                  · cases e
                simp only [Option.isSome_none, Bool.false_eq_true, if_false, Nat.add_zero] at hcnt
                clear PE
                go_wp2_with fail
                go_quiet (fail)
                have O11 := Lib.hid (O9.out.next (W' := w9.drewN nq) ⟨rfl, rfl, rfl, Nat.le_refl _, fun _ _ => rfl⟩)
                have W11 := Lib.hid (W9.out.go (O9.out.dat.sub (L' := L) fun p hp => .tail _ (List.mem_append_right _ hp)) (O11.out.dat.sub (L' := L) fun p hp => .tail _ (List.mem_append_right _ hp)))
                clear O9 W9
                generalize w9.drewN nq = w11 at O11 W11 ⊢
                obtain ⟨A12, c12, e12, hr12, hs12⟩ := W11.out.rows (O11.out.dat.sub (L' := L) fun p hp => .tail _ (List.mem_append_right _ hp))
                injection e12 with e1 e2 e3
                subst e1 e3
                have HSM := Lib.hid (same_b O11.out.row hr12 O11.out.sl hs12)
                clear hr12 hs12
                rw [show decide (recsOf q9 = recsOf q9) = true by simp] at HSM
                go_wp2_with fail
                refine HSM.out.mono ?_
                rintro E w12 ⟨rfl, hb12⟩
                have D12 : Hid (Dat w d (140 + 130 * k + 10) s10 L w12) := Lib.hid ((O11.out.next hb12).dat.sub fun p hp => .tail _ (List.mem_append_right _ hp))
                have HNW : Hid (PwAt w d (k + 1) L (.slice A6 (recsOf q9).length c6) q9 s10 w12) := Lib.hid ⟨D12.out.more (by omega), W11.out.go (O11.out.dat.sub fun p hp => .tail _ (List.mem_append_right _ hp)) D12.out, HB10.out.1, HB10.out.2.1, ⟨M9 + 1, K9, _, _, _, HB10.out.2.2.1, by omega, by omega, by omega⟩, by omega, by omega⟩
                clear HB10 HSM D12 O11 W11
                go_wp2_with fail
                exact ⟨⟨k + 1, by omega, by go_num, L, q9, s10, HNW⟩, by simp [intOf]; omega⟩
              · obtain h0d : ¬ (0 : Int) < (m : Int) := by omega
                obtain ⟨A6, c6, rfl, hr6, hs6⟩ := PE.out.was.rows PE.out.dat
                clear hr6 hs6
                have cp := HCP.out _ PE.out.dat.below
                have cb := HCB.out _ PE.out.dat.below
                go_wp2_with fail
                refine (dat_off PE.out.dat).mono ?_
                rintro E w7 ⟨rfl, h7⟩
                have D7 := Lib.hid h7
                clear h7 cp cb
                have cp := HCP.out _ D7.out.below
                obtain ⟨s9, M9, K9, q9, a9, na9, C9, hon, hcalm, hloose, hB9, hK9, hM9, hC9, hq9⟩ := PE.out.rdy x.picks
                have HON2 := Lib.hid (dat_on D7.out (by omega) x.padr pm x.proom x.picks (HRP.out _ D7.out.below) HSP.out)
                rw [hon] at HON2
                have HC9 := Lib.hid hcalm
                have HB9 := Lib.hid hB9
                have HQ9 := Lib.hid hq9
                clear hon hcalm hloose hB9 hq9
                go_wp2_with fail
                refine HON2.out.mono ?_
                rintro E w8 ⟨rfl, h8⟩
                have D8 := Lib.hid h8
                clear h8 cp D7 HON2
                go_wp2_with fail
                refine (book_open D8.out HC9.out (by omega) HB9.out 4000 (by omega) (by omega) (by omega) (by omega) (by omega) (by omega)).mono ?_
                rintro E w9 ⟨g9, A9, n9, c9, rfl, s10, LF10, H10⟩
                have O9 := Lib.hid H10.out.1
                have HB10 := Lib.hid H10.out.2
                clear H10 D8
                have W9 := Lib.hid (PE.out.was.go PE.out.dat (O9.out.dat.sub (L' := L) fun p hp => .tail _ (List.mem_append_right _ hp)))
                have hcnt := PE.out.cnt
                have hfin := PE.out.fin
                obtain rfl : q9 = q := by
                  rcases HQ9.out with e | ⟨_, _, e, _⟩
                  · exact e
                  · cases e
                simp only [Option.isSome_none, Bool.false_eq_true, if_false, Nat.add_zero] at hcnt
                clear PE
                go_wp2_with fail
                go_quiet (fail)
                have O11 := Lib.hid (O9.out.next (W' := w9.drewN nq) ⟨rfl, rfl, rfl, Nat.le_refl _, fun _ _ => rfl⟩)
                have W11 := Lib.hid (W9.out.go (O9.out.dat.sub (L' := L) fun p hp => .tail _ (List.mem_append_right _ hp)) (O11.out.dat.sub (L' := L) fun p hp => .tail _ (List.mem_append_right _ hp)))
                clear O9 W9
                generalize w9.drewN nq = w11 at O11 W11 ⊢
                obtain ⟨A12, c12, e12, hr12, hs12⟩ := W11.out.rows (O11.out.dat.sub (L' := L) fun p hp => .tail _ (List.mem_append_right _ hp))
                injection e12 with e1 e2 e3
                subst e1 e3
                have HSM := Lib.hid (same_b O11.out.row hr12 O11.out.sl hs12)
                clear hr12 hs12
                rw [show decide (recsOf q9 = recsOf q9) = true by simp] at HSM
                go_wp2_with fail
                refine HSM.out.mono ?_
                rintro E w12 ⟨rfl, hb12⟩
                have D12 : Hid (Dat w d (140 + 130 * k + 10) s10 L w12) := Lib.hid ((O11.out.next hb12).dat.sub fun p hp => .tail _ (List.mem_append_right _ hp))
                have HNW : Hid (PwAt w d (k + 1) L (.slice A6 (recsOf q9).length c6) q9 s10 w12) := Lib.hid ⟨D12.out.more (by omega), W11.out.go (O11.out.dat.sub fun p hp => .tail _ (List.mem_append_right _ hp)) D12.out, HB10.out.1, HB10.out.2.1, ⟨M9 + 1, K9, _, _, _, HB10.out.2.2.1, by omega, by omega, by omega⟩, by omega, by omega⟩
                clear HB10 HSM D12 O11 W11
                go_wp2_with fail
                exact ⟨⟨k + 1, by omega, by go_num, L, q9, s10, HNW⟩, by simp [intOf]; omega⟩
          · have hKL : K < M + 1 := by omega
            obtain ⟨a1, na1, hB1⟩ := H4.out.2.2.2
            have P4 : Hid (PiAt w d k 0 g L LF (.slice A4 (recsOf q).length c4) q (M + 1) K a1 na1 (C + 1) s4 w4) := Lib.hid (by
              have hDL : Dat w d (20 + 130 * k + 10) s4 L w4 := H4.out.1.dat.sub fun p hp => .tail _ (List.mem_append_right _ hp)
              refine ⟨(H4.out.1.book.sub fun p hp => ?_).more (by omega), fun p hp => (H4.out.1.new p hp).1, fun p hp x hx => ?_, HD.out.was.go HD.out.dat hDL, H4.out.2.1, H4.out.2.2.1, hB1, hKL, by omega, by omega, by have := HD.out.cnt; omega, HD.out.fin⟩
              · simp only [List.mem_cons, List.mem_append] at hp ⊢
                rcases hp with hp | hp | hp
                · exact .inr (.inr hp)
                · exact .inl hp
                · exact .inr (.inl hp)
              · rcases List.mem_cons.1 hp with rfl | hp
                · exact fun e => H4.out.1.old x hx e.symm
                · exact (H4.out.1.new p hp).2 x hx)
            have HRW := Lib.hid (HR4.out.go HD.out.dat (H4.out.1.dat.sub (L' := L) fun p hp => .tail _ (List.mem_append_right _ hp)) (fun _ h => h))
            have HSM := Lib.hid (same_b H4.out.1.row HRW.out H4.out.1.sl HS4.out)
            rw [show decide (recsOf q = recsOf q) = true by simp] at HSM
            clear HRW HR4 HD HO D3 H4 hB1
            go_wp2_with fail
            refine HSM.out.mono ?_
            rintro E w5 ⟨rfl, hb5⟩
            have P5 := Lib.hid (P4.out.next hb5)
            clear hb5 P4 HSM
            have cb := HCB.out _ P5.out.dat.below
            go_wp2_with fail
            go_loopw [4, 8, 9, 10, 11] (fun v4 v8 v9 v10 v11 wr => (∃ j : Nat, j ≤ m ∧ v11 = .int .i64 (j : Int) ∧ v8 = .int .i64 0 ∧ v9 = .slice none 0 0 ∧ v10 = .bool false ∧ ∃ L q s, Hid (PiAt w d k j g L LF v4 q (M + 1) K a1 na1 (C + 1) s wr)) ∨ (∃ j : Nat, j ≤ m ∧ v11 = .int .i64 (j : Int) ∧ v8 = .int .i64 8 ∧ v10 = .bool true ∧ ∃ L q s r Ar cr, v9 = .slice Ar r.length cr ∧ r.length ≤ 1000 ∧ Hid ((∀ W, Below w.heap.size w W → Rd (fun b => b < w.heap.size) W Ar r.length r) ∧ Sl Ar r.length cr) ∧ Hid (PeAt w d k L v4 q (some r) s wr))) (fun _ _ _ _ v11 _ => m - (intOf v11).toNat)
            case atStart => exact .inl ⟨0, Nat.zero_le _, rfl, rfl, rfl, rfl, L, q, s4, P5⟩
            case round =>
              clear P5 cb HS4
              rcases hrel with ⟨j, hj, rfl, rfl, rfl, rfl, L, q, s5, P5⟩ | ⟨j, hj, rfl, rfl, rfl, L, q, s5, r, Ar, cr, rfl, hrl1, HRR, PE⟩
              · by_cases hjm : j < m
                · obtain ⟨r, hr⟩ : ∃ r, x.ls[j]? = some r := ⟨_, List.getElem?_eq_getElem (by have := HM.out; omega)⟩
                  obtain ⟨b2, o2, Aj, cj, hadr, hb2, -, hcr, hrd, hsj⟩ := (HRB.out _ (Below.refl _ w)).at hr
                  have HC2 : Hid (∀ W, Below w.heap.size w W → W.cell? ⟨b2, o2 + j, none⟩ = some (.slice Aj r.length cj)) := Lib.hid fun W hb => (hb.cell (p := ⟨b2, o2 + j, none⟩) hb2).trans hcr
                  have HRR : Hid ((∀ W, Below w.heap.size w W → Rd (fun b => b < w.heap.size) W Aj r.length r) ∧ Sl Aj r.length cj) := Lib.hid ⟨fun W hb => hrd.kept fun b hb' _ => ⟨hb', hb.block b hb'⟩, hsj⟩
                  have HCX := Lib.hid (fun W hb => by have := HCB.out W hb; rw [hadr] at this; exact this)
                  obtain ⟨rl, hrl⟩ : ∃ rl, rl = r.length := ⟨_, rfl⟩
                  rw [← hrl] at HC2 HRR
                  have HRL := Lib.hid hrl
                  have hrc := HRR.out.2.2
                  have hxr := HSB.out.2
                  clear hcr hrd hsj hr hrl hadr
                  have cb := HCX.out _ P5.out.dat.below
                  have c2 := HC2.out _ P5.out.dat.below
                  by_cases hl1 : rl ≤ 1000
                  · have hp10 := pages_1000 hl1
                    obtain ⟨hDb, hNb⟩ := P5.out.book'
                    have hcn5 := P5.out.cnt
                    have hfin5 := P5.out.fin
                    have HAP := Lib.hid (book_append_fused hDb hNb P5.out.off P5.out.loose (by omega) P5.out.book P5.out.low (by omega) (by omega) Aj rl cj r (rd_rd (HRR.out.1 _ P5.out.dat.below)) HRR.out.2 (by omega) (by omega))
                    clear hDb hNb
                    go_wp2_with fail
                    refine HAP.out.mono ?_
                    rintro E w6 (⟨rfl, s6, H6⟩ | ⟨rfl, s6, H6⟩)
                    · have D6 : Hid (Dat w d (30 + 130 * k + 10 * j + pagesN rl) s6 (L ++ ((g, bookOf d (M + 1) ((q ++ [(M + 1, r)]).length : Int) (endOf (0 + 20) (q ++ [(M + 1, r)])) 4000 false) :: LF)) w6) := Lib.hid (H6.out.1.sub fun p hp => by
                        simp only [List.mem_cons, List.mem_append] at hp ⊢
                        rcases hp with hp | hp | hp
                        · exact .inr (.inr hp)
                        · exact .inl hp
                        · exact .inr (.inl hp))
                      have W6 := Lib.hid (P5.out.was.go (P5.out.dat.sub fun p hp => List.mem_append_left _ hp) (D6.out.sub fun p hp => List.mem_append_left _ hp))
                      have HSEP : Hid (∀ p ∈ (g, bookOf d (M + 1) ((q ++ [(M + 1, r)]).length : Int) (endOf (0 + 20) (q ++ [(M + 1, r)])) 4000 false) :: LF, ∀ x ∈ L, p.1 ≠ x.1) := Lib.hid (fun p hp x hx => (List.mem_cons.1 hp).elim (fun e => by subst e; exact P5.out.sep _ (.head _) x hx) (fun hp => P5.out.sep p (.tail _ hp) x hx))
                      have HP5 : Hid ((∀ p ∈ LF, p.1 ≠ g) ∧ K < M + 1 ∧ M + 1 ≤ 2 * k + 1 ∧ C + 1 ≤ 3 + 2 * k) := Lib.hid ⟨P5.out.ne, P5.out.low, P5.out.life, P5.out.count⟩
                      have H6X := Lib.hid H6.out.2
                      have R6 := Lib.hid (HRR.out.1 _ D6.out.below)
                      clear P5 H6 HAP cb c2
                      have cb := HCX.out _ D6.out.below
                      have c2 := HC2.out _ D6.out.below
                      have hql : (recsOf q).length < 1000000 := by rw [recsOf_length]; omega
                      rename_i v4
                      have hv4 := W6
                      go_wp2_with (first
                        | (at_builtin; go_must (refine wpList_was2 rfl (.tmp 118) (.tmp 127) rfl _ (recsOf q) Aj rl cj r rfl rfl D6.out HSEP.out W6.out R6.out HRR.out.2 hql ?_); intro A9 c9 w9 L9 H9)
                        | fail)
                      refine ⟨.inl ⟨j + 1, by omega, by go_num, rfl, rfl, rfl, L9, q ++ [(M + 1, r)], s6, Lib.hid ⟨H9.out.1.more (by omega), HP5.out.1, H9.out.2.2, by rw [recsOf_snoc]; exact H9.out.2.1, H6X.out.1, H6X.out.2.1, H6X.out.2.2, HP5.out.2.1, HP5.out.2.2.1, HP5.out.2.2.2, by simp; omega, by rw [endOf_snoc, ← HRL.out, List.length_append, List.length_singleton]; omega⟩⟩, by simp [intOf]; omega⟩
                    · have D6 : Hid (Dat w d (140 + 130 * k) s6 L w6) := Lib.hid ((H6.out.1.sub fun p hp => .tail _ (List.mem_append_right _ hp)).more (by omega))
                      have PE : Hid (PeAt w d k L _ q (some r) s6 w6) := Lib.hid ⟨D6.out, P5.out.was.go (P5.out.dat.sub fun p hp => List.mem_append_left _ hp) D6.out, H6.out.2.mono (by have := P5.out.life; omega) (by have := P5.out.count; omega), by simp; omega, hfin5⟩
                      have HAF := Lib.hid (append_failed (H6.out.1.get (q := g) (.head _)) none 0 0 (by omega))
                      clear P5 H6 HAP cb c2 D6
                      have cb := HCX.out _ PE.out.dat.below
                      have c2 := HC2.out _ PE.out.dat.below
                      go_wp2_with fail
                      refine HAF.out.mono ?_
                      rintro E w7 ⟨rfl, rfl⟩
                      clear HAF
                      go_wp2_with fail
                      exact ⟨.inr ⟨j + 1, by omega, by go_num, rfl, rfl, L, q, s6, r, Aj, cj, by rw [HRL.out], by rw [← HRL.out]; exact hl1, by rw [← HRL.out]; exact HRR, PE⟩, by simp [intOf]; omega⟩
                  · go_wp2_with (first | (go_at_call 8; refine (HW.out _).mono ?_; rintro E wz ⟨rfl, hbz⟩) | fail)
                    go_ret
                    exact ⟨rfl, P5.out.dat.below.trans (hbz.mono P5.out.dat.below.size)⟩
                · obtain rfl : j = m := by omega
                  have PE := Lib.hid (P5.out.ready hml)
                  clear P5
                  obtain ⟨A6, c6, rfl, hr6, hs6⟩ := PE.out.was.rows PE.out.dat
                  clear hr6 hs6
                  have cp := HCP.out _ PE.out.dat.below
                  have cb := HCB.out _ PE.out.dat.below
                  go_wp2_with fail
                  refine (dat_off PE.out.dat).mono ?_
                  rintro E w7 ⟨rfl, h7⟩
                  have D7 := Lib.hid h7
                  clear h7 cp cb
                  have cp := HCP.out _ D7.out.below
                  obtain ⟨s9, M9, K9, q9, a9, na9, C9, hon, hcalm, hloose, hB9, hK9, hM9, hC9, hq9⟩ := PE.out.rdy x.picks
                  have HON2 := Lib.hid (dat_on D7.out (by omega) x.padr pm x.proom x.picks (HRP.out _ D7.out.below) HSP.out)
                  rw [hon] at HON2
                  have HC9 := Lib.hid hcalm
                  have HB9 := Lib.hid hB9
                  have HQ9 := Lib.hid hq9
                  clear hon hcalm hloose hB9 hq9
                  go_wp2_with fail
                  refine HON2.out.mono ?_
                  rintro E w8 ⟨rfl, h8⟩
                  have D8 := Lib.hid h8
                  clear h8 cp D7 HON2
                  go_wp2_with fail
                  refine (book_open D8.out HC9.out (by omega) HB9.out 4000 (by omega) (by omega) (by omega) (by omega) (by omega) (by omega)).mono ?_
                  rintro E w9 ⟨g9, A9, n9, c9, rfl, s10, LF10, H10⟩
                  have O9 := Lib.hid H10.out.1
                  have HB10 := Lib.hid H10.out.2
                  clear H10 D8
                  have W9 := Lib.hid (PE.out.was.go PE.out.dat (O9.out.dat.sub (L' := L) fun p hp => .tail _ (List.mem_append_right _ hp)))
                  have hcnt := PE.out.cnt
                  have hfin := PE.out.fin
                  obtain rfl : q9 = q := by
                    rcases HQ9.out with e | ⟨_, _, e, _⟩
                    · exact e
                    · cases e
                  simp only [Option.isSome_none, Bool.false_eq_true, if_false, Nat.add_zero] at hcnt
                  clear PE
                  go_wp2_with fail
                  go_quiet (fail)
                  have O11 := Lib.hid (O9.out.next (W' := w9.drewN nq) ⟨rfl, rfl, rfl, Nat.le_refl _, fun _ _ => rfl⟩)
                  have W11 := Lib.hid (W9.out.go (O9.out.dat.sub (L' := L) fun p hp => .tail _ (List.mem_append_right _ hp)) (O11.out.dat.sub (L' := L) fun p hp => .tail _ (List.mem_append_right _ hp)))
                  clear O9 W9
                  generalize w9.drewN nq = w11 at O11 W11 ⊢
                  obtain ⟨A12, c12, e12, hr12, hs12⟩ := W11.out.rows (O11.out.dat.sub (L' := L) fun p hp => .tail _ (List.mem_append_right _ hp))
                  injection e12 with e1 e2 e3
                  subst e1 e3
                  have HSM := Lib.hid (same_b O11.out.row hr12 O11.out.sl hs12)
                  clear hr12 hs12
                  rw [show decide (recsOf q9 = recsOf q9) = true by simp] at HSM
                  go_wp2_with fail
                  refine HSM.out.mono ?_
                  rintro E w12 ⟨rfl, hb12⟩
                  have D12 : Hid (Dat w d (140 + 130 * k + 10) s10 L w12) := Lib.hid ((O11.out.next hb12).dat.sub fun p hp => .tail _ (List.mem_append_right _ hp))
                  have HNW : Hid (PwAt w d (k + 1) L (.slice A6 (recsOf q9).length c6) q9 s10 w12) := Lib.hid ⟨D12.out.more (by omega), W11.out.go (O11.out.dat.sub fun p hp => .tail _ (List.mem_append_right _ hp)) D12.out, HB10.out.1, HB10.out.2.1, ⟨M9 + 1, K9, _, _, _, HB10.out.2.2.1, by omega, by omega, by omega⟩, by omega, by omega⟩
                  clear HB10 HSM D12 O11 W11
                  go_wp2_with fail
                  exact ⟨⟨k + 1, by omega, by go_num, L, q9, s10, HNW⟩, by simp [intOf]; omega⟩
              · by_cases hjm : j < m
                · obtain ⟨A6, c6, rfl, hr6, hs6⟩ := PE.out.was.rows PE.out.dat
                  clear hr6 hs6
                  have cp := HCP.out _ PE.out.dat.below
                  have cb := HCB.out _ PE.out.dat.below
                  go_wp2_with fail
                  refine (dat_off PE.out.dat).mono ?_
                  rintro E w7 ⟨rfl, h7⟩
                  have D7 := Lib.hid h7
                  clear h7 cp cb
                  have cp := HCP.out _ D7.out.below
                  obtain ⟨s9, M9, K9, q9, a9, na9, C9, hon, hcalm, hloose, hB9, hK9, hM9, hC9, hq9⟩ := PE.out.rdy x.picks
                  have HON2 := Lib.hid (dat_on D7.out (by omega) x.padr pm x.proom x.picks (HRP.out _ D7.out.below) HSP.out)
                  rw [hon] at HON2
                  have HC9 := Lib.hid hcalm
                  have HB9 := Lib.hid hB9
                  have HQ9 := Lib.hid hq9
                  clear hon hcalm hloose hB9 hq9
                  go_wp2_with fail
                  refine HON2.out.mono ?_
                  rintro E w8 ⟨rfl, h8⟩
                  have D8 := Lib.hid h8
                  clear h8 cp D7 HON2
                  go_wp2_with fail
                  refine (book_open D8.out HC9.out (by omega) HB9.out 4000 (by omega) (by omega) (by omega) (by omega) (by omega) (by omega)).mono ?_
                  rintro E w9 ⟨g9, A9, n9, c9, rfl, s10, LF10, H10⟩
                  have O9 := Lib.hid H10.out.1
                  have HB10 := Lib.hid H10.out.2
                  clear H10 D8
                  have W9 := Lib.hid (PE.out.was.go PE.out.dat (O9.out.dat.sub (L' := L) fun p hp => .tail _ (List.mem_append_right _ hp)))
                  have hcnt := PE.out.cnt
                  have hfin := PE.out.fin
                  simp only [Option.isSome_some, if_true] at hcnt
                  rcases HQ9.out with hq9 | ⟨l, r', he, hq9⟩
                  · subst hq9
                    clear PE
                    obtain ⟨ln, hln⟩ : ∃ ln, ln = (recsOf q9).length := ⟨_, rfl⟩
                    have hn9 : n9 = ln := by rw [hln]; exact O9.out.row.1.symm
                    have hlb : ln < 1000000 := by rw [hln, recsOf_length]; omega
                    have HLN := Lib.hid hln
                    rw [← hln] at W9 ⊢
                    subst hn9
                    clear hln
                    have hd1 : ¬ (n9 : Int) = (n9 : Int) + 1 := by omega
                    have hd2 : decide ((n9 : Int) = (n9 : Int) + 1) = false := decide_eq_false hd1
                    have hd3 : ((n9 : Int) == (n9 : Int) + 1) = false := by rw [beq_eq_false_iff_ne]; exact hd1
                    have hsum : IntKind.i64.wrap ((n9 : Int) + 1) = (n9 : Int) + 1 := Go.IntWalk.i64_in _ (by omega)
                    go_wp2_with fail
                    go_quiet (fail)
                    have O11 := Lib.hid (O9.out.next (W' := w9.drewN nq) ⟨rfl, rfl, rfl, Nat.le_refl _, fun _ _ => rfl⟩)
                    have W11 := Lib.hid (W9.out.go (O9.out.dat.sub (L' := L) fun p hp => .tail _ (List.mem_append_right _ hp)) (O11.out.dat.sub (L' := L) fun p hp => .tail _ (List.mem_append_right _ hp)))
                    clear O9 W9
                    generalize w9.drewN nq = w11 at O11 W11 ⊢
                    clear hd1 hd2 hd3 hsum
                    rw [HLN.out] at W11 O11 ⊢
                    obtain ⟨A12, c12, e12, hr12, hs12⟩ := W11.out.rows (O11.out.dat.sub (L' := L) fun p hp => .tail _ (List.mem_append_right _ hp))
                    injection e12 with e1 e2 e3
                    subst e1 e3
                    have HSM := Lib.hid (same_b O11.out.row hr12 O11.out.sl hs12)
                    clear hr12 hs12
                    rw [show decide (recsOf q9 = recsOf q9) = true by simp] at HSM
                    go_wp2_with fail
                    refine HSM.out.mono ?_
                    rintro E w12 ⟨rfl, hb12⟩
                    have D12 : Hid (Dat w d (140 + 130 * k + 10) s10 L w12) := Lib.hid ((O11.out.next hb12).dat.sub fun p hp => .tail _ (List.mem_append_right _ hp))
                    have HNW : Hid (PwAt w d (k + 1) L (.slice A6 (recsOf q9).length c6) q9 s10 w12) := Lib.hid ⟨D12.out.more (by omega), W11.out.go (O11.out.dat.sub fun p hp => .tail _ (List.mem_append_right _ hp)) D12.out, HB10.out.1, HB10.out.2.1, ⟨M9 + 1, K9, _, _, _, HB10.out.2.2.1, by omega, by omega, by omega⟩, by omega, by omega⟩
                    clear HB10 HSM D12 O11 W11
                    go_wp2_with fail
                    exact ⟨⟨k + 1, by omega, by go_num, L, q9, s10, HNW⟩, by simp [intOf]; omega⟩
                  · injection he with he
                    subst he
                    subst hq9
                    obtain ⟨ln, hln⟩ : ∃ ln, ln = (recsOf q).length := ⟨_, rfl⟩
                    obtain rfl : n9 = ln + 1 := by rw [← O9.out.row.1, recsOf_snoc, List.length_append, hln]; rfl
                    have hlb : ln < 1000000 := by rw [hln, recsOf_length]; omega
                    obtain ⟨b9, o9, Aj, cj, rfl, -, -, hc9, hr9, -⟩ := O9.out.row.at (j := ln) (r := r) (by rw [recsOf_snoc, hln, List.getElem?_append_right (Nat.le_refl _), Nat.sub_self]; rfl)
                    obtain ⟨S, hS⟩ : ∃ S, S = Oct.str r := ⟨_, rfl⟩
                    have hrun := fun i => run_str cj (rd_any hr9 i)
                    have hrun2 := fun i => run_str cr (rd_any (HRR.out.1 w9 O9.out.dat.below) i)
                    rw [← hS] at hrun hrun2
                    clear hS hr9
                    obtain ⟨rl, hrl⟩ : ∃ rl, rl = r.length := ⟨_, rfl⟩
                    rw [← hrl] at hc9 hrun hrun2 HRR ⊢
                    have HRL := Lib.hid hrl
                    clear hrl
                    rw [← hln] at W9 ⊢
                    have HLN := Lib.hid hln
                    clear PE hln
                    have hd0 : (ln : Int) < ((ln + 1 : Nat) : Int) := by omega
                    have hd1 : ((ln + 1 : Nat) : Int) = (ln : Int) + 1 := by omega
                    have hd2 : decide (((ln + 1 : Nat) : Int) = (ln : Int) + 1) = true := decide_eq_true hd1
                    have hd3 : (((ln + 1 : Nat) : Int) == (ln : Int) + 1) = true := by rw [beq_iff_eq]; exact hd1
                    have hsum : IntKind.i64.wrap ((ln : Int) + 1) = (ln : Int) + 1 := Go.IntWalk.i64_in _ (by omega)
                    have hd4 : (ln : Int) < (ln : Int) + 1 := by omega
                    have hd5 : (0 : Int) ≤ (ln : Int) := by omega
                    have hd6 : ((ln : Int)).toNat = ln := by omega
                    have hd7 : ln < ln + 1 := by omega
                    go_wp2_with fail
                    go_quiet (fail)
                    have O11 := Lib.hid (O9.out.next (W' := w9.drewN nq) ⟨rfl, rfl, rfl, Nat.le_refl _, fun _ _ => rfl⟩)
                    have W11 := Lib.hid (W9.out.go (O9.out.dat.sub (L' := L) fun p hp => .tail _ (List.mem_append_right _ hp)) (O11.out.dat.sub (L' := L) fun p hp => .tail _ (List.mem_append_right _ hp)))
                    clear O9 W9
                    generalize w9.drewN nq = w11 at O11 W11 ⊢
                    clear hrun hrun2 hc9 hd0 hd1 hd2 hd3 hd4 hd5 hd6 hd7 hsum
                    have hql : (recsOf q).length < 1000000 := by rw [recsOf_length]; omega
                    rw [HLN.out] at W11 ⊢
                    have R11 := Lib.hid (HRR.out.1 w11 O11.out.dat.below)
                    have D11 : Hid (Dat w d (140 + 130 * k + 10) s10 (L ++ ((g9, bookOf d (M9 + 1) ((recsOf (q ++ [(l, r)])).length : Int) (endOf (0 + 20) (q ++ [(l, r)])) 4000 false) :: LF10)) w11) := Lib.hid (O11.out.dat.sub fun p hp => by
                      simp only [List.mem_cons, List.mem_append] at hp ⊢
                      rcases hp with hp | hp | hp
                      · exact .inr (.inr hp)
                      · exact .inl hp
                      · exact .inr (.inl hp))
                    have HSEP : Hid (∀ p ∈ (g9, bookOf d (M9 + 1) ((recsOf (q ++ [(l, r)])).length : Int) (endOf (0 + 20) (q ++ [(l, r)])) 4000 false) :: LF10, ∀ x ∈ L, p.1 ≠ x.1) := Lib.hid (fun p hp x hx => (List.mem_cons.1 hp).elim (fun e => by subst e; exact fun e => O11.out.old x hx e.symm) (fun hp => (O11.out.new p hp).2 x hx))
                    go_wp2_with (first
                      | (at_builtin; go_must (refine wpList_was2 rfl (.tmp 182) (.tmp 184) rfl (.slice A6 (recsOf q).length c6) (recsOf q) Ar rl cr r rfl rfl D11.out HSEP.out W11.out R11.out HRR.out.2 hql ?_); intro A14 c14 w14 L14 H14)
                      | fail)
                    have RW : Hid (Rows (Stay w LF10) w14 (some ⟨b9, o9, none⟩) ((recsOf q).length + 1) (recsOf (q ++ [(l, r)])) ∧ Sl (some ⟨b9, o9, none⟩) ((recsOf q).length + 1) c9) := Lib.hid (by rw [← HLN.out]; exact ⟨O11.out.row.go (O11.out.dat.sub (L' := LF10) fun p hp => .tail _ (List.mem_append_left _ hp)) (H14.out.1.sub (L' := LF10) fun p hp => List.mem_append_right _ (.tail _ hp)) (fun _ h => h), O11.out.sl⟩)
                    have W14 : Hid (Was w L14 (.slice A14 ((recsOf q).length + 1) c14) (recsOf (q ++ [(l, r)])) w14) := Lib.hid (by rw [recsOf_snoc]; exact H14.out.2.1)
                    obtain ⟨A12, c12, e12, hr12, hs12⟩ := W14.out.rows (H14.out.1.sub fun p hp => List.mem_append_left _ hp)
                    injection e12 with e1 e2 e3
                    subst e1 e3
                    have HSM := Lib.hid (same_b RW.out.1 hr12 RW.out.2 hs12)
                    clear hr12 hs12
                    rw [show decide (recsOf (q ++ [(l, r)]) = recsOf (q ++ [(l, r)])) = true by simp] at HSM
                    rw [← e2] at HSM
                    clear e2
                    refine HSM.out.mono ?_
                    rintro E w12 ⟨rfl, hb12⟩
                    have D14 : Hid (Dat w d (140 + 130 * k + 10) s10 L14 w14) := Lib.hid (H14.out.1.sub fun p hp => List.mem_append_left _ hp)
                    have D12 := Lib.hid (D14.out.next hb12)
                    have hpr := endOf_snoc l r q (0 + 20)
                    have hp10 : pagesN r.length ≤ 10 := pages_1000 hrl1
                    have HNW : Hid (PwAt w d (k + 1) L14 (.slice A14 ((recsOf q).length + 1) c14) (q ++ [(l, r)]) s10 w12) := Lib.hid ⟨D12.out.more (by omega), W14.out.go D14.out D12.out, HB10.out.1, HB10.out.2.1, ⟨M9 + 1, K9, _, _, _, HB10.out.2.2.1, by omega, by omega, by omega⟩, by rw [List.length_append, List.length_singleton]; omega, by rw [hpr, List.length_append, List.length_singleton]; omega⟩
                    clear HB10 HSM D12 D14 W14 O11
                    go_wp2_with fail
                    exact ⟨⟨k + 1, by omega, by go_num, L14, q ++ [(l, r)], s10, HNW⟩, by simp [intOf]; omega⟩
                · obtain ⟨A6, c6, rfl, hr6, hs6⟩ := PE.out.was.rows PE.out.dat
                  clear hr6 hs6
                  have cp := HCP.out _ PE.out.dat.below
                  have cb := HCB.out _ PE.out.dat.below
                  go_wp2_with fail
                  refine (dat_off PE.out.dat).mono ?_
                  rintro E w7 ⟨rfl, h7⟩
                  have D7 := Lib.hid h7
                  clear h7 cp cb
                  have cp := HCP.out _ D7.out.below
                  obtain ⟨s9, M9, K9, q9, a9, na9, C9, hon, hcalm, hloose, hB9, hK9, hM9, hC9, hq9⟩ := PE.out.rdy x.picks
                  have HON2 := Lib.hid (dat_on D7.out (by omega) x.padr pm x.proom x.picks (HRP.out _ D7.out.below) HSP.out)
                  rw [hon] at HON2
                  have HC9 := Lib.hid hcalm
                  have HB9 := Lib.hid hB9
                  have HQ9 := Lib.hid hq9
                  clear hon hcalm hloose hB9 hq9
                  go_wp2_with fail
                  refine HON2.out.mono ?_
                  rintro E w8 ⟨rfl, h8⟩
                  have D8 := Lib.hid h8
                  clear h8 cp D7 HON2
                  go_wp2_with fail
                  refine (book_open D8.out HC9.out (by omega) HB9.out 4000 (by omega) (by omega) (by omega) (by omega) (by omega) (by omega)).mono ?_
                  rintro E w9 ⟨g9, A9, n9, c9, rfl, s10, LF10, H10⟩
                  have O9 := Lib.hid H10.out.1
                  have HB10 := Lib.hid H10.out.2
                  clear H10 D8
                  have W9 := Lib.hid (PE.out.was.go PE.out.dat (O9.out.dat.sub (L' := L) fun p hp => .tail _ (List.mem_append_right _ hp)))
                  have hcnt := PE.out.cnt
                  have hfin := PE.out.fin
                  simp only [Option.isSome_some, if_true] at hcnt
                  rcases HQ9.out with hq9 | ⟨l, r', he, hq9⟩
                  · subst hq9
                    clear PE
                    obtain ⟨ln, hln⟩ : ∃ ln, ln = (recsOf q9).length := ⟨_, rfl⟩
                    have hn9 : n9 = ln := by rw [hln]; exact O9.out.row.1.symm
                    have hlb : ln < 1000000 := by rw [hln, recsOf_length]; omega
                    have HLN := Lib.hid hln
                    rw [← hln] at W9 ⊢
                    subst hn9
                    clear hln
                    have hd1 : ¬ (n9 : Int) = (n9 : Int) + 1 := by omega
                    have hd2 : decide ((n9 : Int) = (n9 : Int) + 1) = false := decide_eq_false hd1
                    have hd3 : ((n9 : Int) == (n9 : Int) + 1) = false := by rw [beq_eq_false_iff_ne]; exact hd1
                    have hsum : IntKind.i64.wrap ((n9 : Int) + 1) = (n9 : Int) + 1 := Go.IntWalk.i64_in _ (by omega)
                    go_wp2_with fail
                    go_quiet (fail)
                    have O11 := Lib.hid (O9.out.next (W' := w9.drewN nq) ⟨rfl, rfl, rfl, Nat.le_refl _, fun _ _ => rfl⟩)
                    have W11 := Lib.hid (W9.out.go (O9.out.dat.sub (L' := L) fun p hp => .tail _ (List.mem_append_right _ hp)) (O11.out.dat.sub (L' := L) fun p hp => .tail _ (List.mem_append_right _ hp)))
                    clear O9 W9
                    generalize w9.drewN nq = w11 at O11 W11 ⊢
                    clear hd1 hd2 hd3 hsum
                    rw [HLN.out] at W11 O11 ⊢
                    obtain ⟨A12, c12, e12, hr12, hs12⟩ := W11.out.rows (O11.out.dat.sub (L' := L) fun p hp => .tail _ (List.mem_append_right _ hp))
                    injection e12 with e1 e2 e3
                    subst e1 e3
                    have HSM := Lib.hid (same_b O11.out.row hr12 O11.out.sl hs12)
                    clear hr12 hs12
                    rw [show decide (recsOf q9 = recsOf q9) = true by simp] at HSM
                    go_wp2_with fail
                    refine HSM.out.mono ?_
                    rintro E w12 ⟨rfl, hb12⟩
                    have D12 : Hid (Dat w d (140 + 130 * k + 10) s10 L w12) := Lib.hid ((O11.out.next hb12).dat.sub fun p hp => .tail _ (List.mem_append_right _ hp))
                    have HNW : Hid (PwAt w d (k + 1) L (.slice A6 (recsOf q9).length c6) q9 s10 w12) := Lib.hid ⟨D12.out.more (by omega), W11.out.go (O11.out.dat.sub fun p hp => .tail _ (List.mem_append_right _ hp)) D12.out, HB10.out.1, HB10.out.2.1, ⟨M9 + 1, K9, _, _, _, HB10.out.2.2.1, by omega, by omega, by omega⟩, by omega, by omega⟩
                    clear HB10 HSM D12 O11 W11
                    go_wp2_with fail
                    exact ⟨⟨k + 1, by omega, by go_num, L, q9, s10, HNW⟩, by simp [intOf]; omega⟩
                  · injection he with he
                    subst he
                    subst hq9
                    obtain ⟨ln, hln⟩ : ∃ ln, ln = (recsOf q).length := ⟨_, rfl⟩
                    obtain rfl : n9 = ln + 1 := by rw [← O9.out.row.1, recsOf_snoc, List.length_append, hln]; rfl
                    have hlb : ln < 1000000 := by rw [hln, recsOf_length]; omega
                    obtain ⟨b9, o9, Aj, cj, rfl, -, -, hc9, hr9, -⟩ := O9.out.row.at (j := ln) (r := r) (by rw [recsOf_snoc, hln, List.getElem?_append_right (Nat.le_refl _), Nat.sub_self]; rfl)
                    obtain ⟨S, hS⟩ : ∃ S, S = Oct.str r := ⟨_, rfl⟩
                    have hrun := fun i => run_str cj (rd_any hr9 i)
                    have hrun2 := fun i => run_str cr (rd_any (HRR.out.1 w9 O9.out.dat.below) i)
                    rw [← hS] at hrun hrun2
                    clear hS hr9
                    obtain ⟨rl, hrl⟩ : ∃ rl, rl = r.length := ⟨_, rfl⟩
                    rw [← hrl] at hc9 hrun hrun2 HRR ⊢
                    have HRL := Lib.hid hrl
                    clear hrl
                    rw [← hln] at W9 ⊢
                    have HLN := Lib.hid hln
                    clear PE hln
                    have hd0 : (ln : Int) < ((ln + 1 : Nat) : Int) := by omega
                    have hd1 : ((ln + 1 : Nat) : Int) = (ln : Int) + 1 := by omega
                    have hd2 : decide (((ln + 1 : Nat) : Int) = (ln : Int) + 1) = true := decide_eq_true hd1
                    have hd3 : (((ln + 1 : Nat) : Int) == (ln : Int) + 1) = true := by rw [beq_iff_eq]; exact hd1
                    have hsum : IntKind.i64.wrap ((ln : Int) + 1) = (ln : Int) + 1 := Go.IntWalk.i64_in _ (by omega)
                    have hd4 : (ln : Int) < (ln : Int) + 1 := by omega
                    have hd5 : (0 : Int) ≤ (ln : Int) := by omega
                    have hd6 : ((ln : Int)).toNat = ln := by omega
                    have hd7 : ln < ln + 1 := by omega
                    go_wp2_with fail
                    go_quiet (fail)
                    have O11 := Lib.hid (O9.out.next (W' := w9.drewN nq) ⟨rfl, rfl, rfl, Nat.le_refl _, fun _ _ => rfl⟩)
                    have W11 := Lib.hid (W9.out.go (O9.out.dat.sub (L' := L) fun p hp => .tail _ (List.mem_append_right _ hp)) (O11.out.dat.sub (L' := L) fun p hp => .tail _ (List.mem_append_right _ hp)))
                    clear O9 W9
                    generalize w9.drewN nq = w11 at O11 W11 ⊢
                    clear hrun hrun2 hc9 hd0 hd1 hd2 hd3 hd4 hd5 hd6 hd7 hsum
                    have hql : (recsOf q).length < 1000000 := by rw [recsOf_length]; omega
                    rw [HLN.out] at W11 ⊢
                    have R11 := Lib.hid (HRR.out.1 w11 O11.out.dat.below)
                    have D11 : Hid (Dat w d (140 + 130 * k + 10) s10 (L ++ ((g9, bookOf d (M9 + 1) ((recsOf (q ++ [(l, r)])).length : Int) (endOf (0 + 20) (q ++ [(l, r)])) 4000 false) :: LF10)) w11) := Lib.hid (O11.out.dat.sub fun p hp => by
                      simp only [List.mem_cons, List.mem_append] at hp ⊢
                      rcases hp with hp | hp | hp
                      · exact .inr (.inr hp)
                      · exact .inl hp
                      · exact .inr (.inl hp))
                    have HSEP : Hid (∀ p ∈ (g9, bookOf d (M9 + 1) ((recsOf (q ++ [(l, r)])).length : Int) (endOf (0 + 20) (q ++ [(l, r)])) 4000 false) :: LF10, ∀ x ∈ L, p.1 ≠ x.1) := Lib.hid (fun p hp x hx => (List.mem_cons.1 hp).elim (fun e => by subst e; exact fun e => O11.out.old x hx e.symm) (fun hp => (O11.out.new p hp).2 x hx))
                    go_wp2_with (first
                      | (at_builtin; go_must (refine wpList_was2 rfl (.tmp 182) (.tmp 184) rfl (.slice A6 (recsOf q).length c6) (recsOf q) Ar rl cr r rfl rfl D11.out HSEP.out W11.out R11.out HRR.out.2 hql ?_); intro A14 c14 w14 L14 H14)
                      | fail)
                    have RW : Hid (Rows (Stay w LF10) w14 (some ⟨b9, o9, none⟩) ((recsOf q).length + 1) (recsOf (q ++ [(l, r)])) ∧ Sl (some ⟨b9, o9, none⟩) ((recsOf q).length + 1) c9) := Lib.hid (by rw [← HLN.out]; exact ⟨O11.out.row.go (O11.out.dat.sub (L' := LF10) fun p hp => .tail _ (List.mem_append_left _ hp)) (H14.out.1.sub (L' := LF10) fun p hp => List.mem_append_right _ (.tail _ hp)) (fun _ h => h), O11.out.sl⟩)
                    have W14 : Hid (Was w L14 (.slice A14 ((recsOf q).length + 1) c14) (recsOf (q ++ [(l, r)])) w14) := Lib.hid (by rw [recsOf_snoc]; exact H14.out.2.1)
                    obtain ⟨A12, c12, e12, hr12, hs12⟩ := W14.out.rows (H14.out.1.sub fun p hp => List.mem_append_left _ hp)
                    injection e12 with e1 e2 e3
                    subst e1 e3
                    have HSM := Lib.hid (same_b RW.out.1 hr12 RW.out.2 hs12)
                    clear hr12 hs12
                    rw [show decide (recsOf (q ++ [(l, r)]) = recsOf (q ++ [(l, r)])) = true by simp] at HSM
                    rw [← e2] at HSM
                    clear e2
                    refine HSM.out.mono ?_
                    rintro E w12 ⟨rfl, hb12⟩
                    have D14 : Hid (Dat w d (140 + 130 * k + 10) s10 L14 w14) := Lib.hid (H14.out.1.sub fun p hp => List.mem_append_left _ hp)
                    have D12 := Lib.hid (D14.out.next hb12)
                    have hpr := endOf_snoc l r q (0 + 20)
                    have hp10 : pagesN r.length ≤ 10 := pages_1000 hrl1
                    have HNW : Hid (PwAt w d (k + 1) L14 (.slice A14 ((recsOf q).length + 1) c14) (q ++ [(l, r)]) s10 w12) := Lib.hid ⟨D12.out.more (by omega), W14.out.go D14.out D12.out, HB10.out.1, HB10.out.2.1, ⟨M9 + 1, K9, _, _, _, HB10.out.2.2.1, by omega, by omega, by omega⟩, by rw [List.length_append, List.length_singleton]; omega, by rw [hpr, List.length_append, List.length_singleton]; omega⟩
                    clear HB10 HSM D12 D14 W14 O11
                    go_wp2_with fail
                    exact ⟨⟨k + 1, by omega, by go_num, L14, q ++ [(l, r)], s10, HNW⟩, by simp [intOf]; omega⟩
        · go_wp2_with (first | (go_at_call 8; refine (HW.out _).mono ?_; rintro E wz ⟨rfl, hbz⟩))
          all_goals (go_ret; exact ⟨rfl, HD.out.dat.below.trans (hbz.mono HD.out.dat.below.size)⟩)
      · have HBB := Lib.hid HD.out.dat.below
        clear HD
        go_wp2_with fail
        refine (HW.out _).mono ?_
        rintro E wz ⟨rfl, hbz⟩
        go_wp2_with fail
        go_ret
        exact ⟨rfl, HBB.out.trans (hbz.mono HBB.out.size)⟩
  · go_enter Try.func3, Try.ntmps3
    go_wp2_with (first | (go_at_call 8; refine (HW.out _).mono ?_; rintro E wz ⟨rfl, hb⟩))
    go_ret
    exact ⟨rfl, hb⟩
theorem bookPower_walk (w : World) (A : Option Addr) (n c : Nat) (h : ∃ xs, Crss w A n xs ∧ Sl A n c) :
    Calls Try.prog 3 #[.slice A n c] w fun E w' => E = .returned (.bool true) ∧ Below w.heap.size w w' :=
  let ⟨xs, h1, h2⟩ := h; bookPower_by works_any A n c xs w h1 h2
end Go.Proofs.Ytfegffdhlkhjbaa
