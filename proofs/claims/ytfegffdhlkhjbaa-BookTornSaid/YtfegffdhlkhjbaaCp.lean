/-
  What is proved: the cell's calls as a law meets them; the chapter's example (works). Conditions as stated.
-/
import Derived.Test.YtfegffdhlkhjbaaCo
import Derived.Lib.SlBytesConst
namespace Go.Proofs.Ytfegffdhlkhjbaa
open Go.RowKit
set_option maxRecDepth 100000

/-- A disk that is on, with no fuse. -/
def Calm (s : Dk) : Prop := s.off = false ∧ s.fuse = none
section
variable {w wr : World} {d T : Nat} {s : Dk} {L : List (Nat × Obj)} {x : Int} {a na C g : Nat} {bs : List UInt8}
theorem cell_format (h : Dat w d T s L wr) (hc : Calm s) (hT : T < 10000000) (hx : 0 ≤ x ∧ x ≤ 32748) :
    Calls Try.prog 24 #[.pointer (some ⟨d, 0, none⟩), .int .i64 x] wr fun E w' => E = .returned (.int .i64 0) ∧ ∃ s', Hid (Dat w d (T + 20) s' L w' ∧ Calm s' ∧ s'.loose = [] ∧ CellIs s' x 0 2 [] 2 ∧
      ∀ y, 0 ≤ y ∧ y < 32768 → s'.read y = if x ≤ y ∧ y < x + 10 then (sect 2 [] (y - x).toNat, 0) else if x + 10 ≤ y ∧ y < x + 20 then (sect 1 [] (y - (x + 10)).toNat, 0) else s.read y) := by
  obtain ⟨s1, s2, s3, h1, h2, h3, k1, k2, k3, k4⟩ := format_ok hc.1 hc.2 hx
  exact (format_any h hT x hx h1 h2 h3).mono fun E w' ⟨e, hD⟩ => ⟨e, s3, hD, ⟨k1, k2⟩, k3, cell_new hx k4, k4⟩
theorem cell_open (h : Dat w d T s L wr) (ho : s.off = false) (hx : 0 ≤ x ∧ x ≤ 32748) (hc : CellIs s x a na bs C) :
    Calls Try.prog 22 #[.pointer (some ⟨d, 0, none⟩), .int .i64 x] wr fun E w' => ∃ g, E = .returned (.tuple #[.pointer (some ⟨g, 0, none⟩), .int .i64 0]) ∧ Hid (OpAt w d T s x L g bs (a : Int) w') := by
  have e := hc.open
  have hp := hc.pos
  refine (open_any h ho x hx).mono fun E w' hE => ?_
  rcases hE with ⟨h0, _⟩ | ⟨_, g, h1, h2⟩
  · rw [e] at h0
    simp only at h0
    omega
  · rw [e] at h2
    exact ⟨g, h1, h2⟩
theorem cell_lost (h : Dat w d T s L wr) (ho : s.off = false) (hx : 0 ≤ x ∧ x ≤ 32748) (h0 : (slotRes s x).1 = 0) (h1 : (slotRes s (x + 10)).1 = 0) :
    Calls Try.prog 22 #[.pointer (some ⟨d, 0, none⟩), .int .i64 x] wr fun E w' => E = .returned (.tuple #[.pointer none, .int .i64 9]) ∧ Hid (Dat w d T s L w') := by
  have e : (openD s x).1 = 0 := by rw [openD, if_neg (by omega)]; exact h0
  refine (open_any h ho x hx).mono fun E w' hE => ?_
  rcases hE with ⟨_, h2, h3⟩ | ⟨h2, _⟩
  · exact ⟨h2, h3⟩
  · exact absurd e h2
theorem cell_get (h : OpAt w d T s x L g bs (a : Int) wr) :
    Calls Try.prog 23 #[.pointer (some ⟨g, 0, none⟩)] wr fun E w' => ∃ A n c, E = .returned (.slice A n c) ∧ Hid (OpAt w d T s x L g bs (a : Int) w' ∧ Oct.Rd w' A n bs ∧ Below wr.heap.size wr w') := by
  obtain ⟨A, n, c, hg, hr, hs, hn⟩ := h.cells
  exact (get_any hg bs hr hs hn).mono fun E w' ⟨A', c', e, ho, _, hb⟩ => ⟨A', n, c', e, h.next hb, Oct.Rd.of_own ho, hb⟩
theorem OpAt.lit {slot : Int} (h : OpAt w d T s x L g bs slot wr) (o : Obj) : OpAt w d T s x ((wr.heap.size, o) :: L) g bs slot (wr.alloc o) := by
  obtain ⟨A, n, c, LR, h1, h2, h3, h4, h5, h6⟩ := h
  have hg := h1.lt (q := g) (.head _)
  refine ⟨A, n, c, LR, (h1.alloc o).sub fun p hp => ?_, h2, h3, h4, fun p hp => ⟨(h5 p hp).1, fun q hq => ?_⟩, fun q hq => ?_⟩
  · simp only [List.mem_cons, List.mem_append] at hp ⊢
    rcases hp with rfl | hp | rfl | hp
    · exact .inr (.inl rfl)
    · exact .inr (.inr (.inl hp))
    · exact .inl rfl
    · exact .inr (.inr (.inr hp))
  · rcases List.mem_cons.1 hq with rfl | hq
    · have := keeps_dat.toKeep.lt h1 (.tail _ (List.mem_append_left _ hp))
      simp only
      omega
    · exact (h5 p hp).2 q hq
  · rcases List.mem_cons.1 hq with rfl | hq
    · simp only
      omega
    · exact h6 q hq
theorem cell_put_end {s' : Dk} {slot e : Int} {A : Option Addr} {n c : Nat} {b : List UInt8} (h : OpAt w d T s x L g bs slot wr) (ho : s.off = false) (hT : T < 10000000) (hx : 0 ≤ x ∧ x ≤ 32748) (hsl : 0 ≤ slot ∧ slot ≤ 1) (htop : topGo s x 20 < 9223372036854775808)
    (hb : Src w L A n b) (hs : Oct.Sl A n c) (hn : n ≤ 1100) (he : renewD s x (1 - slot) b = (s', e)) :
    Calls Try.prog 26 #[.pointer (some ⟨g, 0, none⟩), .slice A n c] wr fun E w' => E = .returned (.int .i64 e) ∧
      Hid ((e ≠ 0 ∧ (∃ A0 n0 c0 sl0, w'.heap[g]? = some (cellOf d x A0 n0 c0 sl0 true)) ∧ Dat w d (T + 10) s' L w' ∧ (∀ q ∈ L, q.1 ≠ g)) ∨ (e = 0 ∧ OpAt w d (T + 10) s' x L g b (1 - slot) w')) := by
  obtain ⟨A0, n0, c0, LR, h1, -, -, -, h5, h6⟩ := h
  refine (put_any h1 (fun p hp => (List.mem_append.1 hp).elim (fun hp => (h5 p hp).1) (fun hp => h6 p hp)) ho hT hx hsl htop A n c b (fun W hb1 hb2 => hb W hb1 (fun q hq => hb2 q (List.mem_append_right _ hq))) hs hn e he).mono fun E w' ⟨h7, h8⟩ => ⟨h7, ?_⟩
  rcases h8 with ⟨h9, hD⟩ | ⟨h9, A2, c2, LR2, hD, k1, k2, k3⟩
  · exact .inl ⟨h9, ⟨A0, n0, c0, slot, hD.get (q := g) (.head _)⟩, hD.sub fun p hp => .tail _ (List.mem_append_right _ hp), h6⟩
  · refine .inr ⟨h9, A2, n, c2, LR2, hD.sub fun p hp => ?_, k1, k2, hn, fun p hp => ⟨(k3 p hp).1, fun q hq => (k3 p hp).2 q (List.mem_append_right _ hq)⟩, h6⟩
    simp only [List.mem_cons, List.mem_append] at hp ⊢
    rcases hp with rfl | hp | hp
    · exact .inl rfl
    · exact .inr (.inl hp)
    · exact .inr (.inr (.inr hp))
theorem cell_put (h : OpAt w d T s x L g bs (a : Int) wr) (hc : Calm s) (hT : T < 10000000) (hx : 0 ≤ x ∧ x ≤ 32748) (hI : CellIs s x a na bs C) (hC : C + 1 < 4611686018427387904) {A : Option Addr} {n c : Nat} {b : List UInt8} (hb : Src w L A n b) (hs : Oct.Sl A n c) (hn : n ≤ 1100) (hbl : b.length = n) :
    Calls Try.prog 26 #[.pointer (some ⟨g, 0, none⟩), .slice A n c] wr fun E w' => E = .returned (.int .i64 0) ∧ ∃ s', Hid (OpAt w d (T + 10) s' x L g b ((1 - a : Nat) : Int) w' ∧ Calm s' ∧ s'.loose = [] ∧ CellIs s' x (1 - a) (topGo s x 20 + 1) b (C + 1) ∧ SlotIs s' (x + a * 10) na bs ∧
      ∀ y, 0 ≤ y ∧ y < 32768 → ¬ (x ≤ y ∧ y < x + 20) → s'.read y = s.read y) := by
  have ha := hI.slot
  obtain ⟨t1, t2⟩ := hI.top_le
  obtain ⟨s', k1, k2, k3, k4, k5⟩ := renew_ok (s := s) (at' := x) (slot := 1 - (a : Int)) (bs := b) hc.1 hc.2 (by omega)
  have e1 : x + (1 - (a : Int)) * 10 = x + ((1 - a : Nat) : Int) * 10 := by omega
  obtain ⟨i1, i2⟩ := hI.put (s' := s') hx hC b (by omega) (fun y hy => by rw [k5 y hy, e1])
  refine (cell_put_end h hc.1 hT hx (by omega) (by omega) hb hs hn k1).mono fun E w' ⟨h7, h8⟩ => ⟨h7, s', ?_⟩
  rcases h8.out with ⟨h9, _⟩ | ⟨_, hO⟩
  · exact absurd rfl h9
  · rw [show (1 - (a : Int)) = ((1 - a : Nat) : Int) by omega] at hO
    exact ⟨hO, ⟨k2, k3⟩, k4, i1, i2, fun y hy hny => by rw [k5 y hy, if_neg (by omega)]⟩
end

theorem new_calm : Calm Dk.new := ⟨rfl, rfl⟩
theorem run_str {w : World} {A : Option Addr} {n : Nat} {bs : List UInt8} (c : Nat) (h : Oct.Rd w A n bs) : (convert 29 9 (.slice A n c)).run Try.prog w = .ok (.string (Oct.str bs)) w := Oct.run_string h
/-- On a disk that is new no cell stands. -/
theorem new_lost (x : Int) (hx : 0 ≤ x ∧ x + 10 ≤ 32768) : (slotRes Dk.new x).1 = 0 := by
  refine Classical.byContradiction fun h => ?_
  have h0 := (slotRes_all h 0 (by omega)).2
  have e : Dk.new.read (x + ((0 : Nat) : Int)) = (zeros, 0) := by rw [read_on rfl (by omega)]; rfl
  rw [e] at h0
  exact h h0.symm
/-- A slice of bytes that was laid as a literal. -/
theorem src_lit {w : World} {q : Nat} (bs : List UInt8) (fr : Nat × Nat) : Src w [(q, .cells (u8s bs).toArray 5 fr)] (some ⟨q, 0, none⟩) bs.length bs := fun W _ hL =>
  ⟨rfl, fun _ => ⟨q, 0, rfl, (Array.getElem?_eq_some_iff.1 (hL _ (.head _))).1, fun j u hu => by
    rw [Nat.zero_add, cell_of_row W q j _ 5 fr (hL _ (.head _))]
    simp [u8s, hu]⟩⟩
end Go.Proofs.Ytfegffdhlkhjbaa
