/-
  What is proved: two counters on one disk; a slice of turns that came in reads as such. Conditions as stated.
-/
import Derived.Test.YtepjfkmbmcfnoaaDoorGi
namespace Go.Proofs.YtepjfkmbmcfnoaaDoor
open Go.RowKit Go.ChangeShapes Go.WideShapes Go.Deep
set_option maxRecDepth 100000

/-- Two cells. -/
def TwoAt (w : World) (d T : Nat) (s : Dk) (L : List (Nat × Obj)) (x1 : Int) (g1 : Nat) (b1 : List UInt8) (l1 : Int) (x2 : Int) (g2 : Nat) (b2 : List UInt8) (l2 : Int) (W : World) : Prop :=
  ∃ A n c LR, OpAt w d T s x1 ((g2, cellOf d x2 A n c l2 false) :: (LR ++ L)) g1 b1 l1 W ∧ Src w LR A n b2 ∧ Oct.Sl A n c ∧ n ≤ 1100 ∧ (∀ p ∈ LR, p.1 ≠ g2 ∧ ∀ q ∈ L, p.1 ≠ q.1) ∧ ∀ q ∈ L, q.1 ≠ g2
section
variable {w wr W : World} {d T : Nat} {s : Dk} {L : List (Nat × Obj)} {x1 x2 : Int} {g1 g2 : Nat} {b1 b2 : List UInt8} {l1 l2 : Int}
theorem TwoAt.swap (h : TwoAt w d T s L x1 g1 b1 l1 x2 g2 b2 l2 W) : TwoAt w d T s L x2 g2 b2 l2 x1 g1 b1 l1 W := by
  obtain ⟨A2, n2, c2, LR2, ⟨A1, n1, c1, LR1, h1, h2, h3, h4, h5, h6⟩, k2, k3, k4, k5, k6⟩ := h
  refine ⟨A1, n1, c1, LR1, ⟨A2, n2, c2, LR2, h1.sub fun p hp => ?_, k2, k3, k4, fun p hp => ⟨(k5 p hp).1, fun q hq => ?_⟩, fun q hq => ?_⟩, h2, h3, h4, fun p hp => ⟨(h5 p hp).1, fun q hq => (h5 p hp).2 q (.tail _ (List.mem_append_right _ hq))⟩, fun q hq => h6 q (.tail _ (List.mem_append_right _ hq))⟩
  · simp only [List.mem_cons, List.mem_append] at hp ⊢
    rcases hp with rfl | hp | rfl | hp | hp
    · exact .inr (.inr (.inl rfl))
    · exact .inr (.inr (.inr (.inl hp)))
    · exact .inl rfl
    · exact .inr (.inl hp)
    · exact .inr (.inr (.inr (.inr hp)))
  · rcases List.mem_cons.1 hq with rfl | hq
    · exact h6 p (.tail _ (List.mem_append_left _ hp))
    · rcases List.mem_append.1 hq with hq | hq
      · exact fun e => (h5 q hq).2 p (.tail _ (List.mem_append_left _ hp)) e.symm
      · exact (k5 p hp).2 q hq
  · rcases List.mem_cons.1 hq with rfl | hq
    · exact fun e => h6 _ (.head _) e.symm
    · rcases List.mem_append.1 hq with hq | hq
      · exact (h5 q hq).2 _ (.head _)
      · exact k6 q hq
theorem TwoAt.next (h : TwoAt w d T s L x1 g1 b1 l1 x2 g2 b2 l2 W) {W' : World} (hb : Below W.heap.size W W') : TwoAt w d T s L x1 g1 b1 l1 x2 g2 b2 l2 W' := let ⟨A, n, c, LR, h1, h2⟩ := h; ⟨A, n, c, LR, h1.next hb, h2⟩
theorem TwoAt.dat (h : TwoAt w d T s L x1 g1 b1 l1 x2 g2 b2 l2 W) : Dat w d T s L W := let ⟨_, _, _, _, h1, _⟩ := h; h1.dat.sub fun _ hp => .tail _ (List.mem_append_right _ hp)
theorem TwoAt.lit (h : TwoAt w d T s L x1 g1 b1 l1 x2 g2 b2 l2 W) (o : Obj) : TwoAt w d T s ((W.heap.size, o) :: L) x1 g1 b1 l1 x2 g2 b2 l2 (W.alloc o) := by
  obtain ⟨A, n, c, LR, h1, h2, h3, h4, h5, h6⟩ := h
  have hd := h1.dat
  refine ⟨A, n, c, LR, (h1.lit o).sub fun p hp => ?_, h2, h3, h4, fun p hp => ⟨(h5 p hp).1, fun q hq => ?_⟩, fun q hq => ?_⟩
  · simp only [List.mem_cons, List.mem_append] at hp ⊢
    rcases hp with rfl | hp | rfl | hp
    · exact .inr (.inl rfl)
    · exact .inr (.inr (.inl hp))
    · exact .inl rfl
    · exact .inr (.inr (.inr hp))
  · rcases List.mem_cons.1 hq with rfl | hq
    · have := keeps_dat.toKeep.lt hd (.tail _ (List.mem_append_left _ hp))
      simp only
      omega
    · exact (h5 p hp).2 q hq
  · rcases List.mem_cons.1 hq with rfl | hq
    · have := hd.lt (q := g2) (.head _)
      simp only
      omega
    · exact h6 q hq
theorem TwoAt.sub {L' : List (Nat × Obj)} (h : TwoAt w d T s L x1 g1 b1 l1 x2 g2 b2 l2 W) (hs : ∀ p ∈ L', p ∈ L) : TwoAt w d T s L' x1 g1 b1 l1 x2 g2 b2 l2 W := by
  obtain ⟨A, n, c, LR, h1, h2, h3, h4, h5, h6⟩ := h
  refine ⟨A, n, c, LR, h1.sub fun p hp => ?_, h2, h3, h4, fun p hp => ⟨(h5 p hp).1, fun q hq => (h5 p hp).2 q (hs q hq)⟩, fun q hq => h6 q (hs q hq)⟩
  simp only [List.mem_cons, List.mem_append] at hp ⊢
  rcases hp with rfl | hp | hp
  · exact .inl rfl
  · exact .inr (.inl hp)
  · exact .inr (.inr (hs p hp))
/-- One of the call's own blocks is written. -/
theorem TwoAt.upd {q : Nat} {o o' : Obj} {W' : World} (h : TwoAt w d T s ((q, o) :: L) x1 g1 b1 l1 x2 g2 b2 l2 W) (hne : ∀ p ∈ L, p.1 ≠ q) (ho : W'.heap[q]? = some o') (hg : W.grownBy W' (some q)) : TwoAt w d T s ((q, o') :: L) x1 g1 b1 l1 x2 g2 b2 l2 W' := by
  obtain ⟨A2, n2, c2, LR2, ⟨A1, n1, c1, LR1, h1, h2, h3, h4, h5, h6⟩, k2, k3, k4, k5, k6⟩ := h
  have hD : Dat w d T s ((q, o) :: ((g1, cellOf d x1 A1 n1 c1 l1 false) :: (g2, cellOf d x2 A2 n2 c2 l2 false) :: (LR1 ++ LR2 ++ L))) W := h1.sub fun p hp => by
    simp only [List.mem_cons, List.mem_append] at hp ⊢
    rcases hp with rfl | rfl | rfl | (hp | hp) | hp
    · exact .inr (.inr (.inr (.inr (.inl rfl))))
    · exact .inl rfl
    · exact .inr (.inr (.inl rfl))
    · exact .inr (.inl hp)
    · exact .inr (.inr (.inr (.inl hp)))
    · exact .inr (.inr (.inr (.inr (.inr hp))))
  have hD' := hD.upd (fun p hp => ?_) ho hg
  · refine ⟨A2, n2, c2, LR2, ⟨A1, n1, c1, LR1, hD'.sub fun p hp => ?_, h2, h3, h4, fun p hp => ⟨(h5 p hp).1, fun r hr => ?_⟩, fun r hr => ?_⟩, k2, k3, k4, fun p hp => ⟨(k5 p hp).1, fun r hr => ?_⟩, fun r hr => ?_⟩
    · simp only [List.mem_cons, List.mem_append] at hp ⊢
      rcases hp with rfl | hp | rfl | hp | rfl | hp
      · exact .inr (.inl rfl)
      · exact .inr (.inr (.inr (.inl (.inl hp))))
      · exact .inr (.inr (.inl rfl))
      · exact .inr (.inr (.inr (.inl (.inr hp))))
      · exact .inl rfl
      · exact .inr (.inr (.inr (.inr hp)))
    · have h5' := (h5 p hp).2
      simp only [List.mem_cons, List.mem_append] at hr
      rcases hr with rfl | hr | rfl | hr
      · exact h5' _ (.head _)
      · exact h5' _ (.tail _ (List.mem_append_left _ hr))
      · exact h5' (q, o) (by simp)
      · exact h5' _ (by simp [hr])
    · simp only [List.mem_cons, List.mem_append] at hr
      rcases hr with rfl | hr | rfl | hr
      · exact h6 _ (.head _)
      · exact h6 _ (.tail _ (List.mem_append_left _ hr))
      · exact h6 (q, o) (by simp)
      · exact h6 _ (by simp [hr])
    · rcases List.mem_cons.1 hr with rfl | hr
      · exact (k5 p hp).2 (q, o) (by simp)
      · exact (k5 p hp).2 r (by simp [hr])
    · rcases List.mem_cons.1 hr with rfl | hr
      · exact k6 (q, o) (by simp)
      · exact k6 r (by simp [hr])
  · simp only [List.mem_cons, List.mem_append] at hp
    rcases hp with rfl | rfl | (hp | hp) | hp
    · exact fun e => h6 (q, o) (by simp) e.symm
    · exact fun e => k6 (q, o) (by simp) e.symm
    · exact (h5 p hp).2 (q, o) (by simp)
    · exact (k5 p hp).2 (q, o) (by simp)
    · exact hne p hp
end
section
variable {w wr w0 w1 : World} {d T : Nat} {s s' : Dk} {L : List (Nat × Obj)} {x : Int} {a na C g u : Nat} {bs b : List UInt8} {slot e : Int}
/-- New, over a cell that opens: the counter's own two cells are new. -/
theorem us_new_fresh (i : Int) (hi : isRep i = true) (hso : soundB bs = true) (hk : Sh.KIs w) (h0 : 0 < w.heap.size)
    (HC : Calls Tryd.prog 21 #[.pointer (some ⟨d, 0, none⟩), .int .i64 x] wr fun E w' => ∃ g, E = .returned (.tuple #[.pointer (some ⟨g, 0, none⟩), .int .i64 0]) ∧ Hid (OpAt w d T s x L g bs slot w')) :
    Calls Tryd.prog 12 #[.int .i64 i, .pointer (some ⟨d, 0, none⟩), .int .i64 x] wr fun E w' => ∃ u g, E = .returned (.tuple #[.pointer (some ⟨u, 0, none⟩), .int .i64 0]) ∧ Hid (OpAt w d T s x ((u, usOf g i) :: L) g bs slot w' ∧ ∀ q ∈ L, q.1 ≠ u) := by
  have HO := Lib.hid HC
  have HK : Hid (∀ W g, OpAt w d T s x L g bs slot W → ∀ W', Below W.heap.size W W' → Calls Tryd.prog 27 #[.int .i64 i] W' fun E w' => E = .returned (.bool true) ∧ Below W'.heap.size W' w') := Lib.hid fun W g h W' hb => by
    obtain ⟨k1, k2⟩ := (h.next hb).kis hk h0
    have := isReplica_any i W' k1 k2
    rwa [hi] at this
  have HS : Hid (∀ g W, OpAt w d T s x L g bs slot W → Calls Tryd.prog 28 #[.agg #[.pointer (some ⟨g, 0, none⟩), .int .i64 i]] W fun E w' => E = .returned (.bool true) ∧ Hid (Below W.heap.size W w')) := Lib.hid fun g W h => by
    have := sound_any h i
    rwa [hso] at this
  clear HC hi hso hk
  go_enter Tryd.func12, Tryd.ntmps12
  go_wp2_with fail
  refine HO.out.mono ?_
  rintro E w1 ⟨g, rfl, O1⟩
  have O2 : Hid (OpAt w d T s x ((w1.heap.size, .cells #[.pointer (some ⟨g, 0, none⟩), .int .i64 i] 71 (0, 0)) :: L) g bs slot (w1.alloc (.cells #[.pointer (some ⟨g, 0, none⟩), .int .i64 i] 71 (0, 0)))) := Lib.hid (O1.out.lit _)
  go_wp2_with fail
  refine (HK.out _ _ (O2.out.sub fun p hp => .tail _ hp) _ (Below.refl _ _)).mono ?_
  rintro E w2 ⟨rfl, hb2⟩
  have O3 : Hid (OpAt w d T s x ((w1.heap.size, .cells #[.pointer (some ⟨g, 0, none⟩), .int .i64 i] 71 (0, 0)) :: L) g bs slot w2) := Lib.hid (O2.out.next hb2)
  have c0 : w2.cell? ⟨w1.heap.size, 0, none⟩ = some (.pointer (some ⟨g, 0, none⟩)) := block_cell (C := [.pointer (some ⟨g, 0, none⟩), .int .i64 i]) (O3.out.get (.head _)) 0 _ rfl
  have c1 : w2.cell? ⟨w1.heap.size, 1, none⟩ = some (.int .i64 i) := block_cell (C := [.pointer (some ⟨g, 0, none⟩), .int .i64 i]) (O3.out.get (.head _)) 1 _ rfl
  clear hb2 HK O2
  go_wp2_with fail
  refine (HS.out g w2 (O3.out.sub fun p hp => .tail _ hp)).mono ?_
  rintro E w3 ⟨rfl, HB3⟩
  have O4 : Hid (OpAt w d T s x ((w1.heap.size, .cells #[.pointer (some ⟨g, 0, none⟩), .int .i64 i] 71 (0, 0)) :: L) g bs slot w3) := Lib.hid (O3.out.next HB3.out)
  have c0 : w3.cell? ⟨w1.heap.size, 0, none⟩ = some (.pointer (some ⟨g, 0, none⟩)) := block_cell (C := [.pointer (some ⟨g, 0, none⟩), .int .i64 i]) (O4.out.get (.head _)) 0 _ rfl
  have c1 : w3.cell? ⟨w1.heap.size, 1, none⟩ = some (.int .i64 i) := block_cell (C := [.pointer (some ⟨g, 0, none⟩), .int .i64 i]) (O4.out.get (.head _)) 1 _ rfl
  clear HS O3
  go_wp2_with fail
  go_ret2
  exact ⟨w3.heap.size, g, rfl, Lib.hid ⟨(O4.out.sub fun p hp => .tail _ hp).lit (usOf g i), fun q hq => by have := O4.out.dat.lt (q := q.1) (o := q.2) (.tail _ hq); omega⟩⟩

end
section
variable {w wr W : World} {d T : Nat} {s : Dk} {L : List (Nat × Obj)} {x1 x2 : Int} {g1 g2 u u1 u2 : Nat} {b1 b2 b : List UInt8} {l1 l2 : Int}
theorem two_next {a na C : Nat} (h : TwoAt w d T s L x1 g1 b1 (a : Int) x2 g2 b2 l2 wr) (i : Int) (hu : (u, usOf g1 i) ∈ L) (hk : Sh.KIs w) (h0 : 0 < w.heap.size) (hc : Calm s) (hT : T < 10000000) (hx : 0 ≤ x1 ∧ x1 ≤ 32748) (hI : CellIs s x1 a na b1 C) (hC : C + 1 < 4611686018427387904)
    {A : Option Addr} {m c : Nat} (hb : ∀ W, Below w.heap.size w W → Oct.Rd W A m b) (hs : Oct.Sl A m c) (hm : m ≤ 1024) (hbl : b.length = m) (num : Nat) (hnum : sealN b1 = num) (hn : num < 65536) :
    Calls Tryd.prog 16 #[.pointer (some ⟨u, 0, none⟩), .slice A m c] wr fun E w' => E = .returned (.tuple #[.int .u64 ((num + 1 : Nat) : Int), tagV (Sh.numTag i (num + 1) b), .int .i64 0]) ∧
      ∃ s', Hid (TwoAt w d (T + 10) s' L x1 g1 (Oct.be 8 (num + 1) ++ b) ((1 - a : Nat) : Int) x2 g2 b2 l2 w' ∧ Calm s' ∧ CellIs s' x1 (1 - a) (topGo s x1 20 + 1) (Oct.be 8 (num + 1) ++ b) (C + 1) ∧ ∀ y, 0 ≤ y ∧ y < 32768 → ¬ (x1 ≤ y ∧ y < x1 + 20) → s'.read y = s.read y) := by
  obtain ⟨A2, n2, c2, LR, h1, h2⟩ := h
  exact (next_calm h1 i (.tail _ (List.mem_append_right _ hu)) hk h0 hc hT hx hI hC (fun W hW _ => hb W hW) hs hm hbl num hnum hn).mono fun E w' ⟨e, s', H⟩ => ⟨e, s', ⟨A2, n2, c2, LR, H.out.1, h2⟩, H.out.2.1, H.out.2.2.2.1, H.out.2.2.2.2.2⟩
theorem two_last (h : TwoAt w d T s L x1 g1 b1 l1 x2 g2 b2 l2 wr) (i : Int) (hu : (u, usOf g1 i) ∈ L) (hk : Sh.KIs w) (h0 : 0 < w.heap.size) (num : Nat) (hnum : sealN b1 = num) :
    Calls Tryd.prog 13 #[.pointer (some ⟨u, 0, none⟩)] wr fun E w' => ∃ A m c, E = .returned (.tuple #[.int .u64 (num : Int), .slice A m c, tagV (lastT i b1)]) ∧ Hid (TwoAt w d T s L x1 g1 b1 l1 x2 g2 b2 l2 w') := by
  obtain ⟨A2, n2, c2, LR, h1, h2⟩ := h
  have := last_us h1 i (.tail _ (List.mem_append_right _ hu)) hk h0
  rw [hnum] at this
  exact this.mono fun E w' ⟨A, c, e, _, hb⟩ => ⟨A, _, c, e, ⟨A2, n2, c2, LR, h1.next hb.out, h2⟩⟩
/-- The second one is made. -/
theorem two_new {a na C : Nat} (h : OpAt w d T s x1 [(u1, usOf g1 1)] g1 b1 l1 wr) (hso : soundB b2 = true) (hk : Sh.KIs w) (h0 : 0 < w.heap.size) (ho : s.off = false) (hx : 0 ≤ x2 ∧ x2 ≤ 32748) (hc : CellIs s x2 a na b2 C) :
    Calls Tryd.prog 12 #[.int .i64 2, .pointer (some ⟨d, 0, none⟩), .int .i64 x2] wr fun E w' => ∃ u g, E = .returned (.tuple #[.pointer (some ⟨u, 0, none⟩), .int .i64 0]) ∧ Hid (TwoAt w d T s [(u1, usOf g1 1), (u, usOf g 2)] x1 g1 b1 l1 x2 g b2 (a : Int) w') := by
  obtain ⟨A, n, c, LR, h1, h2, h3, h4, h5, h6⟩ := h
  refine (us_new_fresh 2 rfl hso hk h0 (cell_open h1 ho hx hc)).mono fun E w' ⟨u, g, e, H⟩ => ⟨u, g, e, Lib.hid (TwoAt.swap ⟨A, n, c, LR, H.out.1.sub fun p hp => ?_, h2, h3, h4, fun p hp => ⟨(h5 p hp).1, fun q hq => ?_⟩, fun q hq => ?_⟩)⟩
  · simp only [List.mem_cons, List.mem_append, List.not_mem_nil, or_false] at hp ⊢
    rcases hp with rfl | hp | rfl | rfl
    · exact .inr (.inl rfl)
    · exact .inr (.inr (.inl hp))
    · exact .inr (.inr (.inr rfl))
    · exact .inl rfl
  · rcases List.mem_cons.1 hq with rfl | hq
    · exact (h5 p hp).2 _ (.head _)
    · simp only [List.mem_singleton] at hq
      subst hq
      exact H.out.2 p (.tail _ (List.mem_append_left _ hp))
  · rcases List.mem_cons.1 hq with rfl | hq
    · exact h6 _ (.head _)
    · simp only [List.mem_singleton] at hq
      subst hq
      exact fun e => H.out.2 _ (.head _) e.symm
end

theorem add_plain2 (b o i j : Nat) : (((⟨b, o, none⟩ : Addr).add i).add j) = ⟨b, o + i + j, none⟩ := by rw [Addr.add_lit, Addr.add_lit]
/-- A turn of the law's: is it the second one's, and its bytes. -/
structure Trn where
  snd : Bool
  adr : Option Addr
  room : Nat
  bs : List UInt8
instance : Inhabited Trn := ⟨⟨false, none, 0, []⟩⟩
def Trn.cells (x : Trn) : List Value := [.bool x.snd, .slice x.adr x.bs.length x.room]
def Trn.ok (w : World) (x : Trn) : Prop := Rd (fun _ => True) w x.adr x.bs.length x.bs ∧ Sl x.adr x.bs.length x.room
def Trns (w : World) (A : Option Addr) (n : Nat) (xs : List Trn) : Prop :=
  xs.length = n ∧ (0 < n → ∃ b o, A = some ⟨b, o, none⟩ ∧ b < w.heap.size ∧ ∀ (j : Nat) (x : Trn), xs[j]? = some x → w.rangeAt b (o + j * 2) x.cells ∧ x.ok w)
theorem Tryd.cells57 : Tryd.prog.cellsOf 57 = 2 := by kernel_rfl
theorem Tryd.cells4 : Tryd.prog.cellsOf 4 = 1 := by kernel_rfl
theorem turn_of {H : Type} {enc : TypeId × Value → H} {W : World} {base : Nat} {spare : Nat → Bool} {held : Bool} {n : Nat} {cs : List Value} {y : DataW H × List MemPlace}
    (h : DataW.trod enc Tryd.prog W base spare held n 57 cs = some y) : ∃ x : Trn, cs = x.cells ∧ x.ok W := by
  obtain ⟨ys, m, _, _, hlen, hys, hf⟩ := DataW.trod_struct Tryd.underlying57 h
  rw [Tryd.cells57] at hlen
  obtain ⟨c0, c1, rfl⟩ : ∃ c0 c1, cs = [c0, c1] := by
    match cs, hlen with
    | [c0, c1], _ => exact ⟨c0, c1, rfl⟩
  have hy2 : ys.length = 2 := hys
  have e0 : DataW.trod enc Tryd.prog W base spare held m 4 (([c0, c1].drop 0).take (Tryd.prog.cellsOf 4)) = ys[0]? := hf 0 _ rfl
  have e1 : DataW.trod enc Tryd.prog W base spare held m 29 (([c0, c1].drop 1).take (Tryd.prog.cellsOf 29)) = ys[1]? := hf 1 _ rfl
  rw [Tryd.cells4, List.getElem?_eq_getElem (by omega)] at e0
  rw [Tryd.cells29, List.getElem?_eq_getElem (by omega)] at e1
  obtain ⟨k0, q0, _⟩ := DataW.trod_bool Tryd.underlying4 e0
  simp only [List.drop_zero, List.drop_succ_cons, List.take_succ_cons, List.take_zero, List.cons.injEq, and_true] at q0 e1
  subst q0
  have hV : ∃ A' n' c', c1 = .slice A' n' c' := by
    rcases open_ints Tryd.underlying29 Tryd.underlying5 (by kernel_rfl) e1 with ⟨hcs, _⟩ | ⟨x, l, cap, zs, hcs, _⟩
    · exact ⟨_, _, _, List.head_eq_of_cons_eq hcs⟩
    · exact ⟨_, _, _, List.head_eq_of_cons_eq hcs⟩
  obtain ⟨A2, n2, c2', rfl⟩ := hV
  obtain ⟨bs, hr, hs⟩ := bytes_of (A := A2) (n := n2) (c := c2') ⟨_, e1⟩
  obtain rfl : bs.length = n2 := hr.1
  exact ⟨⟨k0, A2, c2', bs⟩, rfl, hr, hs⟩
theorem turns_of {H : Type} {enc : TypeId × Value → H} {W : World} {base : Nat} {spare : Nat → Bool} {held : Bool} {A : Option Addr} {n c : Nat} {d : DataW H} {p : List MemPlace}
    (h : DataW.Trod enc Tryd.prog W base spare held 54 (.slice A n c) d p) : ∃ xs, Trns W A n xs ∧ Sl A n c := by
  obtain ⟨fuel, hf⟩ := h
  rcases open_slice Tryd.underlying54 hf with ⟨hcs, _⟩ | ⟨a, len, cap, m, k, D, Pl, hcs, _, hlc, hcm, hm, _, hx⟩
  · simp [Value.cells] at hcs
    obtain ⟨rfl, rfl, rfl⟩ := hcs
    exact ⟨[], ⟨rfl, fun h => absurd h (by omega)⟩, ⟨fun _ => ⟨rfl, rfl⟩, Nat.le_refl _, by omega⟩⟩
  · simp [Value.cells] at hcs
    obtain ⟨rfl, rfl, rfl⟩ := hcs
    rw [Tryd.cells57] at hx
    have hnm : n ≤ m := by rw [hm]; split <;> omega
    have hx' : ∀ i, i < n → ∃ x : Trn, (∀ j v, x.cells[j]? = some v → W.cell? ((a.add (i * 2)).add j) = some v) ∧ x.ok W := by
      intro i hi
      obtain ⟨cs', hc, ht⟩ := hx i (by omega)
      obtain ⟨hl, _, hcell⟩ := World.cells?_some hc
      obtain ⟨x, rfl, hok⟩ := turn_of ht
      refine ⟨x, fun j v hv => ?_, hok⟩
      have hj : j < 2 := (List.getElem?_eq_some_iff.1 hv).1
      rw [hcell j hj]
      exact hv
    obtain ⟨F, hF⟩ := choose_lt (α := Trn) (p := fun i x => (∀ j v, x.cells[j]? = some v → W.cell? ((a.add (i * 2)).add j) = some v) ∧ x.ok W) hx'
    refine ⟨(List.range n).map F, ⟨by simp, fun hp => ?_⟩, ⟨(fun h => by cases h), hlc, by unfold maxLen at hcm; omega⟩⟩
    obtain ⟨b, off, spot⟩ := a
    have h00 := (hF 0 hp).1 0 _ rfl
    have hspot : spot = none := by simpa [Addr.add] using World.cell?_spot h00
    subst hspot
    refine ⟨b, off, rfl, ?_, fun j u hu => ?_⟩
    · rw [add_plain2] at h00
      exact World.block_lt_of_cell? W _ h00
    · rw [List.getElem?_map] at hu
      obtain ⟨z, hz1, rfl⟩ := Option.map_eq_some_iff.1 hu
      obtain ⟨hj, rfl⟩ := List.getElem?_eq_some_iff.1 hz1
      simp at hj
      obtain ⟨h1, h2⟩ := hF j hj
      simp
      refine ⟨fun i v hv => ?_, h2⟩
      have := h1 i v hv
      rwa [add_plain2] at this
end Go.Proofs.YtepjfkmbmcfnoaaDoor
