/-
  What is proved: two cells on one disk; a slice of Besides that came in reads as such. Conditions as stated.
-/
import Derived.Test.YtiphfeefbiiolaaCw
namespace Go.Proofs.Ytiphfeefbiiolaa
open Go.RowKit Go.ChangeShapes Go.WideShapes Go.Deep
set_option maxRecDepth 100000

theorem CellIs.congr {s s' : Dk} {x : Int} {a na C C' : Nat} {bs : List UInt8} (h : CellIs s x a na bs C) (hr : ∀ i : Nat, i < 20 → s'.read (x + i) = s.read (x + i)) (hC : C ≤ C') (hC' : C' < 4611686018427387904) : CellIs s' x a na bs C' := by
  have ha := h.slot
  refine ⟨h.slot, fun i hi => ?_, h.pos, Nat.le_trans h.top hC, h.len, ?_, fun i hi he => ?_, hC'⟩
  · have := hr (a * 10 + i) (by omega)
    rw [show x + ((a * 10 + i : Nat) : Int) = x + a * 10 + i by omega] at this
    rw [this]
    exact h.has i hi
  · rw [slotRes_congr (s := s) fun i hi => ?_]
    · exact h.elder
    · have := hr ((1 - a) * 10 + i) (by omega)
      rw [show x + (((1 - a) * 10 + i : Nat) : Int) = x + (1 - a : Nat) * 10 + i by omega] at this
      exact this
  · rw [hr i hi] at he ⊢
    exact Nat.le_trans (h.all i hi he) hC
/-- What is written beside a cell. -/
theorem write_beside {s : Dk} (hc : Calm s) {y : Int} (hy : 0 ≤ y ∧ y < 32768) (b : List UInt8) : (s.write y b).2 = 0 ∧ Calm (s.write y b).1 ∧ ∀ z, 0 ≤ z ∧ z < 32768 → z ≠ y → (s.write y b).1.read z = s.read z := by
  rw [write_ok hc.1 hc.2 hy]
  refine ⟨rfl, hc, fun z hz hne => ?_⟩
  rw [read_on (s := { s with loose := s.loose ++ [(y, b)] }) hc.1 hz, read_on hc.1 hz]
  simp only [lastW_append]
  have : lastW [(y, b)] z = none := by
    simp [lastW]
    omega
  rw [this]

/-- Two cells. -/
def TwoAt (w : World) (d T : Nat) (s : Dk) (L : List (Nat × Obj)) (x1 : Int) (g1 : Nat) (b1 : List UInt8) (l1 : Int) (x2 : Int) (g2 : Nat) (b2 : List UInt8) (l2 : Int) (W : World) : Prop :=
  ∃ A n c LR, OpAt w d T s x1 ((g2, cellOf d x2 A n c l2 false) :: (LR ++ L)) g1 b1 l1 W ∧ Src w LR A n b2 ∧ Oct.Sl A n c ∧ n ≤ 1100 ∧ (∀ p ∈ LR, p.1 ≠ g2 ∧ ∀ q ∈ L, p.1 ≠ q.1) ∧ ∀ q ∈ L, q.1 ≠ g2
section
variable {w wr W : World} {d T : Nat} {s : Dk} {L : List (Nat × Obj)} {x1 x2 : Int} {g1 g2 : Nat} {b1 b2 : List UInt8} {l1 l2 : Int}
theorem TwoAt.swap (h : TwoAt w d T s L x1 g1 b1 l1 x2 g2 b2 l2 W) : TwoAt w d T s L x2 g2 b2 l2 x1 g1 b1 l1 W := by
  obtain ⟨A2, n2, c2, LR2, ⟨A1, n1, c1, LR1, h1, h2, h3, h4, h5, h6⟩, k2, k3, k4, k5, k6⟩ := h
  refine ⟨A1, n1, c1, LR1, ⟨A2, n2, c2, LR2, h1.sub fun p hp => ?_, k2, k3, k4, fun p hp => ⟨(k5 p hp).1, fun q hq => ?_⟩, fun q hq => ?_⟩, h2, h3, h4, fun p hp => ⟨(h5 p hp).1, fun q hq => (h5 p hp).2 q (.tail _ (List.mem_append_right _ hq))⟩, fun q hq => h6 q (.tail _ (List.mem_append_right _ hq))⟩
  · simp only [List.mem_cons, List.mem_append] at hp ⊢
    rcases hp with rfl | hp | rfl | hp | hp
    · exact .inr (.inr (.inl rfl))
    · exact .inr (.inr (.inr (.inl hp)))
    · exact .inl rfl
    · exact .inr (.inl hp)
    · exact .inr (.inr (.inr (.inr hp)))
  · rcases List.mem_cons.1 hq with rfl | hq
    · exact h6 p (.tail _ (List.mem_append_left _ hp))
    · rcases List.mem_append.1 hq with hq | hq
      · exact fun e => (h5 q hq).2 p (.tail _ (List.mem_append_left _ hp)) e.symm
      · exact (k5 p hp).2 q hq
  · rcases List.mem_cons.1 hq with rfl | hq
    · exact fun e => h6 _ (.head _) e.symm
    · rcases List.mem_append.1 hq with hq | hq
      · exact (h5 q hq).2 _ (.head _)
      · exact k6 q hq
theorem TwoAt.next (h : TwoAt w d T s L x1 g1 b1 l1 x2 g2 b2 l2 W) {W' : World} (hb : Below W.heap.size W W') : TwoAt w d T s L x1 g1 b1 l1 x2 g2 b2 l2 W' := let ⟨A, n, c, LR, h1, h2⟩ := h; ⟨A, n, c, LR, h1.next hb, h2⟩
theorem TwoAt.dat (h : TwoAt w d T s L x1 g1 b1 l1 x2 g2 b2 l2 W) : Dat w d T s L W := let ⟨_, _, _, _, h1, _⟩ := h; h1.dat.sub fun _ hp => .tail _ (List.mem_append_right _ hp)
theorem TwoAt.lit (h : TwoAt w d T s L x1 g1 b1 l1 x2 g2 b2 l2 W) (o : Obj) : TwoAt w d T s ((W.heap.size, o) :: L) x1 g1 b1 l1 x2 g2 b2 l2 (W.alloc o) := by
  obtain ⟨A, n, c, LR, h1, h2, h3, h4, h5, h6⟩ := h
  have hd := h1.dat
  refine ⟨A, n, c, LR, (h1.lit o).sub fun p hp => ?_, h2, h3, h4, fun p hp => ⟨(h5 p hp).1, fun q hq => ?_⟩, fun q hq => ?_⟩
  · simp only [List.mem_cons, List.mem_append] at hp ⊢
    rcases hp with rfl | hp | rfl | hp
    · exact .inr (.inl rfl)
    · exact .inr (.inr (.inl hp))
    · exact .inl rfl
    · exact .inr (.inr (.inr hp))
  · rcases List.mem_cons.1 hq with rfl | hq
    · have := keeps_dat.toKeep.lt hd (.tail _ (List.mem_append_left _ hp))
      simp only
      omega
    · exact (h5 p hp).2 q hq
  · rcases List.mem_cons.1 hq with rfl | hq
    · have := hd.lt (q := g2) (.head _)
      simp only
      omega
    · exact h6 q hq
theorem TwoAt.sub {L' : List (Nat × Obj)} (h : TwoAt w d T s L x1 g1 b1 l1 x2 g2 b2 l2 W) (hs : ∀ p ∈ L', p ∈ L) : TwoAt w d T s L' x1 g1 b1 l1 x2 g2 b2 l2 W := by
  obtain ⟨A, n, c, LR, h1, h2, h3, h4, h5, h6⟩ := h
  refine ⟨A, n, c, LR, h1.sub fun p hp => ?_, h2, h3, h4, fun p hp => ⟨(h5 p hp).1, fun q hq => (h5 p hp).2 q (hs q hq)⟩, fun q hq => h6 q (hs q hq)⟩
  simp only [List.mem_cons, List.mem_append] at hp ⊢
  rcases hp with rfl | hp | hp
  · exact .inl rfl
  · exact .inr (.inl hp)
  · exact .inr (.inr (hs p hp))
/-- One of the call's own blocks is written. -/
theorem TwoAt.upd {q : Nat} {o o' : Obj} {W' : World} (h : TwoAt w d T s ((q, o) :: L) x1 g1 b1 l1 x2 g2 b2 l2 W) (hne : ∀ p ∈ L, p.1 ≠ q) (ho : W'.heap[q]? = some o') (hg : W.grownBy W' (some q)) : TwoAt w d T s ((q, o') :: L) x1 g1 b1 l1 x2 g2 b2 l2 W' := by
  obtain ⟨A2, n2, c2, LR2, ⟨A1, n1, c1, LR1, h1, h2, h3, h4, h5, h6⟩, k2, k3, k4, k5, k6⟩ := h
  have hD : Dat w d T s ((q, o) :: ((g1, cellOf d x1 A1 n1 c1 l1 false) :: (g2, cellOf d x2 A2 n2 c2 l2 false) :: (LR1 ++ LR2 ++ L))) W := h1.sub fun p hp => by
    simp only [List.mem_cons, List.mem_append] at hp ⊢
    rcases hp with rfl | rfl | rfl | (hp | hp) | hp
    · exact .inr (.inr (.inr (.inr (.inl rfl))))
    · exact .inl rfl
    · exact .inr (.inr (.inl rfl))
    · exact .inr (.inl hp)
    · exact .inr (.inr (.inr (.inl hp)))
    · exact .inr (.inr (.inr (.inr (.inr hp))))
  have hD' := hD.upd (fun p hp => ?_) ho hg
  · refine ⟨A2, n2, c2, LR2, ⟨A1, n1, c1, LR1, hD'.sub fun p hp => ?_, h2, h3, h4, fun p hp => ⟨(h5 p hp).1, fun r hr => ?_⟩, fun r hr => ?_⟩, k2, k3, k4, fun p hp => ⟨(k5 p hp).1, fun r hr => ?_⟩, fun r hr => ?_⟩
    · simp only [List.mem_cons, List.mem_append] at hp ⊢
      rcases hp with rfl | hp | rfl | hp | rfl | hp
      · exact .inr (.inl rfl)
      · exact .inr (.inr (.inr (.inl (.inl hp))))
      · exact .inr (.inr (.inl rfl))
      · exact .inr (.inr (.inr (.inl (.inr hp))))
      · exact .inl rfl
      · exact .inr (.inr (.inr (.inr hp)))
    · have h5' := (h5 p hp).2
      simp only [List.mem_cons, List.mem_append] at hr
      rcases hr with rfl | hr | rfl | hr
      · exact h5' _ (.head _)
      · exact h5' _ (.tail _ (List.mem_append_left _ hr))
      · exact h5' (q, o) (by simp)
      · exact h5' _ (by simp [hr])
    · simp only [List.mem_cons, List.mem_append] at hr
      rcases hr with rfl | hr | rfl | hr
      · exact h6 _ (.head _)
      · exact h6 _ (.tail _ (List.mem_append_left _ hr))
      · exact h6 (q, o) (by simp)
      · exact h6 _ (by simp [hr])
    · rcases List.mem_cons.1 hr with rfl | hr
      · exact (k5 p hp).2 (q, o) (by simp)
      · exact (k5 p hp).2 r (by simp [hr])
    · rcases List.mem_cons.1 hr with rfl | hr
      · exact k6 (q, o) (by simp)
      · exact k6 r (by simp [hr])
  · simp only [List.mem_cons, List.mem_append] at hp
    rcases hp with rfl | rfl | (hp | hp) | hp
    · exact fun e => h6 (q, o) (by simp) e.symm
    · exact fun e => k6 (q, o) (by simp) e.symm
    · exact (h5 p hp).2 (q, o) (by simp)
    · exact (k5 p hp).2 (q, o) (by simp)
    · exact hne p hp
theorem two_gets (h : TwoAt w d T s L x1 g1 b1 l1 x2 g2 b2 l2 wr) :
    Calls Try.prog 11 #[.pointer (some ⟨g1, 0, none⟩)] wr fun E w' => ∃ A n c, E = .returned (.slice A n c) ∧ Hid (TwoAt w d T s L x1 g1 b1 l1 x2 g2 b2 l2 w' ∧ Oct.Rd w' A n b1 ∧ Below wr.heap.size wr w') := by
  obtain ⟨A, n, c, LR, h1, h2⟩ := h
  exact (cell_gets h1).mono fun E w' ⟨A', n', c', e, H⟩ => ⟨A', n', c', e, ⟨A, n, c, LR, H.out.1, h2⟩, H.out.2⟩
theorem two_put {a na C : Nat} (h : TwoAt w d T s L x1 g1 b1 (a : Int) x2 g2 b2 l2 wr) (hc : Calm s) (hT : T < 10000000) (hx : 0 ≤ x1 ∧ x1 ≤ 32748) (hI : CellIs s x1 a na b1 C) (hC : C + 1 < 4611686018427387904) {A : Option Addr} {n c : Nat} {b : List UInt8} (hb : ∀ W, Below w.heap.size w W → Oct.Rd W A n b) (hs : Oct.Sl A n c) (hn : n ≤ 1100) (hbl : b.length = n) :
    Calls Try.prog 13 #[.pointer (some ⟨g1, 0, none⟩), .slice A n c] wr fun E w' => E = .returned (.int .i64 0) ∧ ∃ s', Hid (TwoAt w d (T + 10) s' L x1 g1 b ((1 - a : Nat) : Int) x2 g2 b2 l2 w' ∧ Calm s' ∧ CellIs s' x1 (1 - a) (topGo s x1 20 + 1) b (C + 1) ∧
      ∀ y, 0 ≤ y ∧ y < 32768 → ¬ (x1 ≤ y ∧ y < x1 + 20) → s'.read y = s.read y) := by
  obtain ⟨A2, n2, c2, LR, h1, h2⟩ := h
  exact (cell_put h1 hc hT hx hI hC (fun W hW _ => hb W hW) hs hn hbl).mono fun E w' ⟨e, s', H⟩ => ⟨e, s', ⟨A2, n2, c2, LR, H.out.1, h2⟩, H.out.2.1, H.out.2.2.2.1, H.out.2.2.2.2.2⟩
theorem two_write (h : TwoAt w d T s L x1 g1 b1 l1 x2 g2 b2 l2 wr) (hT : T < 1000000) (y : Int) (b : List UInt8) (hb : b.length = 128) :
    Calls Try.prog 16 #[.pointer (some ⟨d, 0, none⟩), .int .i64 y, .agg (u8s b).toArray] wr fun E w' => E = .returned (.int .i64 (s.write y b).2) ∧ Hid (TwoAt w d (T + 10) (s.write y b).1 L x1 g1 b1 l1 x2 g2 b2 l2 w') := by
  obtain ⟨A2, n2, c2, LR, h1, h2⟩ := h
  obtain ⟨Lc, hL, hback⟩ := h1.split
  exact (dat_write hL y b hb (by omega)).mono fun E w' ⟨e, h3⟩ => ⟨e, A2, n2, c2, LR, hback _ _ _ (h3.more (by omega)), h2⟩
/-- The second one is opened. -/
theorem two_open {a na C : Nat} (h : OpAt w d T s x1 L g1 b1 l1 wr) (ho : s.off = false) (hx : 0 ≤ x2 ∧ x2 ≤ 32748) (hc : CellIs s x2 a na b2 C) :
    Calls Try.prog 10 #[.pointer (some ⟨d, 0, none⟩), .int .i64 x2] wr fun E w' => ∃ g, E = .returned (.tuple #[.pointer (some ⟨g, 0, none⟩), .int .i64 0]) ∧ Hid (TwoAt w d T s L x1 g1 b1 l1 x2 g b2 (a : Int) w') := by
  obtain ⟨A, n, c, LR, h1, h2, h3, h4, h5, h6⟩ := h
  exact (cell_open h1 ho hx hc).mono fun E w' ⟨g, e, H⟩ => ⟨g, e, TwoAt.swap ⟨A, n, c, LR, H.out, h2, h3, h4, h5, h6⟩⟩
end

/-- A Beside of the law's. -/
structure Bsd where
  out : Bool
  second : Bool
  adr : Option Addr
  room : Nat
  bs : List UInt8
  at' : UInt8
  byte : UInt8
instance : Inhabited Bsd := ⟨⟨false, false, none, 0, [], 0, 0⟩⟩
def Bsd.cells (x : Bsd) : List Value := [.bool x.out, .bool x.second, .slice x.adr x.bs.length x.room, .int .u8 (x.at'.toNat : Int), .int .u8 (x.byte.toNat : Int)]
theorem Bsd.cells_one (x : Bsd) : ∀ v ∈ x.cells, v.oneCell' = true := by intro v hv; simp [Bsd.cells] at hv; rcases hv with rfl | rfl | rfl | rfl | rfl <;> rfl
def Bsd.ok (w : World) (x : Bsd) : Prop := Rd (fun _ => True) w x.adr x.bs.length x.bs ∧ Sl x.adr x.bs.length x.room
def Bsds (w : World) (A : Option Addr) (n : Nat) (xs : List Bsd) : Prop :=
  xs.length = n ∧ (0 < n → ∃ b o, A = some ⟨b, o, none⟩ ∧ b < w.heap.size ∧ ∀ (j : Nat) (x : Bsd), xs[j]? = some x → w.rangeAt b (o + j * 5) x.cells ∧ x.ok w)
theorem Try.cells43 : Try.prog.cellsOf 43 = 5 := by kernel_rfl
theorem Try.cells4 : Try.prog.cellsOf 4 = 1 := by kernel_rfl
theorem beside_of {H : Type} {enc : TypeId × Value → H} {W : World} {base : Nat} {spare : Nat → Bool} {held : Bool} {n : Nat} {cs : List Value} {y : DataW H × List MemPlace}
    (h : DataW.trod enc Try.prog W base spare held n 43 cs = some y) : ∃ x : Bsd, cs = x.cells ∧ x.ok W := by
  obtain ⟨ys, m, _, _, hlen, hys, hf⟩ := DataW.trod_struct Try.underlying43 h
  rw [Try.cells43] at hlen
  obtain ⟨c0, c1, c2, c3, c4, rfl⟩ : ∃ c0 c1 c2 c3 c4, cs = [c0, c1, c2, c3, c4] := by
    match cs, hlen with
    | [c0, c1, c2, c3, c4], _ => exact ⟨c0, c1, c2, c3, c4, rfl⟩
  have hy5 : ys.length = 5 := hys
  have e0 : DataW.trod enc Try.prog W base spare held m 4 (([c0, c1, c2, c3, c4].drop 0).take (Try.prog.cellsOf 4)) = ys[0]? := hf 0 _ rfl
  have e1 : DataW.trod enc Try.prog W base spare held m 4 (([c0, c1, c2, c3, c4].drop 1).take (Try.prog.cellsOf 4)) = ys[1]? := hf 1 _ rfl
  have e2 : DataW.trod enc Try.prog W base spare held m 28 (([c0, c1, c2, c3, c4].drop 2).take (Try.prog.cellsOf 28)) = ys[2]? := hf 2 _ rfl
  have e3 : DataW.trod enc Try.prog W base spare held m 5 (([c0, c1, c2, c3, c4].drop 3).take (Try.prog.cellsOf 5)) = ys[3]? := hf 3 _ rfl
  have e4 : DataW.trod enc Try.prog W base spare held m 5 (([c0, c1, c2, c3, c4].drop 4).take (Try.prog.cellsOf 5)) = ys[4]? := hf 4 _ rfl
  rw [Try.cells4, List.getElem?_eq_getElem (by omega)] at e0 e1
  rw [Try.cells28, List.getElem?_eq_getElem (by omega)] at e2
  rw [Try.cells5, List.getElem?_eq_getElem (by omega)] at e3 e4
  obtain ⟨k0, q0, _⟩ := DataW.trod_bool Try.underlying4 e0
  obtain ⟨k1, q1, _⟩ := DataW.trod_bool Try.underlying4 e1
  obtain ⟨k3, q3, _, w3⟩ := DataW.trod_int Try.underlying5 e3
  obtain ⟨k4, q4, _, w4⟩ := DataW.trod_int Try.underlying5 e4
  simp only [List.drop_zero, List.drop_succ_cons, List.take_succ_cons, List.take_zero, List.cons.injEq, and_true] at q0 q1 q3 q4 e2
  subst q0 q1 q3 q4
  have hV : ∃ A' n' c', c2 = .slice A' n' c' := by
    rcases open_ints Try.underlying28 Try.underlying5 (by kernel_rfl) e2 with ⟨hcs, _⟩ | ⟨x, l, cap, zs, hcs, _⟩
    · exact ⟨_, _, _, List.head_eq_of_cons_eq hcs⟩
    · exact ⟨_, _, _, List.head_eq_of_cons_eq hcs⟩
  obtain ⟨A2, n2, c2', rfl⟩ := hV
  obtain ⟨bs, hr, hs⟩ := bytes_of (A := A2) (n := n2) (c := c2') ⟨_, e2⟩
  obtain rfl : bs.length = n2 := hr.1
  exact ⟨⟨k0, k1, A2, c2', bs, UInt8.ofNat k3.toNat, UInt8.ofNat k4.toNat⟩, by unfold Bsd.cells; rw [← u8_of w3, ← u8_of w4], hr, hs⟩
theorem besides_of {H : Type} {enc : TypeId × Value → H} {W : World} {base : Nat} {spare : Nat → Bool} {held : Bool} {A : Option Addr} {n c : Nat} {d : DataW H} {p : List MemPlace}
    (h : DataW.Trod enc Try.prog W base spare held 40 (.slice A n c) d p) : ∃ xs, Bsds W A n xs ∧ Sl A n c := by
  obtain ⟨fuel, hf⟩ := h
  rcases open_slice Try.underlying40 hf with ⟨hcs, _⟩ | ⟨a, len, cap, m, k, D, Pl, hcs, _, hlc, hcm, hm, _, hx⟩
  · simp [Value.cells] at hcs
    obtain ⟨rfl, rfl, rfl⟩ := hcs
    exact ⟨[], ⟨rfl, fun h => absurd h (by omega)⟩, ⟨fun _ => ⟨rfl, rfl⟩, Nat.le_refl _, by omega⟩⟩
  · simp [Value.cells] at hcs
    obtain ⟨rfl, rfl, rfl⟩ := hcs
    rw [Try.cells43] at hx
    have hnm : n ≤ m := by rw [hm]; split <;> omega
    have hx' : ∀ i, i < n → ∃ x : Bsd, (∀ j v, x.cells[j]? = some v → W.cell? ((a.add (i * 5)).add j) = some v) ∧ x.ok W := by
      intro i hi
      obtain ⟨cs', hc, ht⟩ := hx i (by omega)
      obtain ⟨hl, _, hcell⟩ := World.cells?_some hc
      obtain ⟨x, rfl, hok⟩ := beside_of ht
      refine ⟨x, fun j v hv => ?_, hok⟩
      have hj : j < 5 := (List.getElem?_eq_some_iff.1 hv).1
      rw [hcell j hj]
      exact hv
    obtain ⟨F, hF⟩ := choose_lt (α := Bsd) (p := fun i x => (∀ j v, x.cells[j]? = some v → W.cell? ((a.add (i * 5)).add j) = some v) ∧ x.ok W) hx'
    refine ⟨(List.range n).map F, ⟨by simp, fun hp => ?_⟩, ⟨(fun h => by cases h), hlc, by unfold maxLen at hcm; omega⟩⟩
    obtain ⟨b, off, spot⟩ := a
    have h00 := (hF 0 hp).1 0 _ rfl
    have hspot : spot = none := by simpa [Addr.add] using World.cell?_spot h00
    subst hspot
    refine ⟨b, off, rfl, ?_, fun j u hu => ?_⟩
    · rw [add_plain2] at h00
      exact World.block_lt_of_cell? W _ h00
    · rw [List.getElem?_map] at hu
      obtain ⟨z, hz1, rfl⟩ := Option.map_eq_some_iff.1 hu
      obtain ⟨hj, rfl⟩ := List.getElem?_eq_some_iff.1 hz1
      simp at hj
      obtain ⟨h1, h2⟩ := hF j hj
      simp
      refine ⟨fun i v hv => ?_, h2⟩
      have := h1 i v hv
      rwa [add_plain2] at this
theorem cellApart_zero43 (w : World) : (zeroValue 43).run Try.prog w = .ok (.agg ([.bool false, .bool false, .slice none 0 0, .int .u8 0, .int .u8 0] : List Value).toArray) w := by kernel_rfl
theorem Try.size43 : (Try.prog.info? 43).map (·.size) = some 5 := by kernel_rfl
/-- The numbers of CellApart. -/
theorem ap_mod (u : UInt8) : ∃ m : Nat, m < 30 ∧ ((u.toNat : Int)).tmod 30 = (m : Int) ∧ (u.toNat : Int) % 30 = (m : Int) ∧ Go.RowKit.wrap64 (u.toNat : Int) = (u.toNat : Int) := by
  have := u.toNat_lt
  refine ⟨u.toNat % 30, by omega, ?_, by omega, by unfold Go.RowKit.wrap64; omega⟩
  rw [Int.tmod_eq_emod_of_nonneg (by omega)]
  omega
theorem ap_wrap {u : Nat} (h : u < 256) : IntKind.i64.wrap (u : Int) = (u : Int) := Go.IntWalk.i64_in _ (by omega)
theorem ap_sum {m : Nat} (h : m < 30) : IntKind.i64.wrap (20 + (m : Int) + 20) = 40 + (m : Int) := by rw [Go.IntWalk.i64_in _ (by omega)]; omega
theorem ap_sum2 {m u : Nat} (h : m < 30) (hu : u < 256) : IntKind.i64.wrap (40 + (m : Int) + (u : Int)) = 40 + (m : Int) + (u : Int) := Go.IntWalk.i64_in _ (by omega)
theorem ap_at {m u : Nat} (h : m < 30) (hu : u < 256) : 0 ≤ 40 + (m : Int) + (u : Int) ∧ 40 + (m : Int) + (u : Int) < 32768 := by omega
end Go.Proofs.Ytiphfeefbiiolaa
