/-
  What is proved: what Open of a book does on a disk that is on. Conditions as stated.
-/
import Derived.Test.YtfegffdhlkhjbaaBg
namespace Go.Proofs.Ytfegffdhlkhjbaa
open Go.RowKit
set_option maxRecDepth 100000

theorem own_stay {w wr w1 : World} {A : Option Addr} {n c : Nat} {bs : List UInt8} (h : w1.ownsRow wr.heap.size 5 1 (.slice A n c) n (u8s bs)) : Rd (Stay w (freshOf wr w1)) w1 A n bs :=
  (own_typed h).kept fun b hb hlt => ⟨.inr ⟨w1.heap[b], mem_freshOf.2 ⟨hb.1, Array.getElem?_eq_getElem hlt⟩⟩, rfl⟩
/-- A cell that is open, and all that is new. -/
theorem OpAt.wide {w wr w1 : World} {d T g : Nat} {s : Dk} {L : List (Nat × Obj)} {x slot : Int} {bs : List UInt8} (h : OpAt w d T s x L g bs slot wr) (hb : Below wr.heap.size wr w1) : OpAt w d T s x (freshOf wr w1 ++ L) g bs slot w1 := by
  obtain ⟨A, n, c, LR, h1, h2, h3, h4, h5, h6⟩ := h
  have hlt := fun p hp => keeps_dat.toKeep.lt h1 (p := p) hp
  refine ⟨A, n, c, LR, (h1.wide0 hb).sub fun p hp => ?_, h2, h3, h4, fun p hp => ⟨(h5 p hp).1, fun q hq => ?_⟩, fun q hq => ?_⟩
  · simp only [List.mem_cons, List.mem_append] at hp ⊢
    rcases hp with rfl | hp | hp | hp
    · exact .inr (.inl rfl)
    · exact .inr (.inr (.inl hp))
    · exact .inl hp
    · exact .inr (.inr (.inr hp))
  · rcases List.mem_append.1 hq with hq | hq
    · have a := (mem_freshOf (k := q.1) (o := q.2)).1 hq
      have := hlt p (.tail _ (List.mem_append_left _ hp))
      omega
    · exact (h5 p hp).2 q hq
  · rcases List.mem_append.1 hq with hq | hq
    · have a := (mem_freshOf (k := q.1) (o := q.2)).1 hq
      have := hlt _ (.head _)
      simp only at this
      omega
    · exact h6 q hq
theorem cell_get2 {w wr : World} {d T g : Nat} {s : Dk} {L : List (Nat × Obj)} {x slot : Int} {bs : List UInt8} (h : OpAt w d T s x L g bs slot wr) :
    Calls Try.prog 23 #[.pointer (some ⟨g, 0, none⟩)] wr fun E w' => ∃ A n c, E = .returned (.slice A n c) ∧ Hid (OpAt w d T s x L g bs slot w' ∧ Oct.Rd w' A n bs ∧ Oct.Sl A n c ∧ n ≤ 1100) := by
  obtain ⟨A, n, c, hg, hr, hs, hn⟩ := h.cells
  exact (get_any hg bs hr hs hn).mono fun E w' ⟨A', c', e, ho, hsl, hb⟩ => ⟨A', n, c', e, h.next hb, Oct.Rd.of_own ho, hsl, hn⟩
theorem openD_slot (s : Dk) (x : Int) : 0 ≤ (openD s x).2.2 ∧ (openD s x).2.2 ≤ 1 := by
  unfold openD
  split <;> simp

/-- May the cell's bytes be no life? -/
def lifeBad (bs : List UInt8) : Prop := bs.length ≠ 0 ∧ bs.length ≠ 8
theorem bookBad_false {x size : Int} (h : bookBad x size = false) : 20 < size ∧ 0 ≤ x ∧ x ≤ 32768 - size := by
  simp [bookBad] at h
  omega
theorem word_life {bs : List UInt8} (h : ¬ lifeBad bs) : Oct.num (Oct.tkOut bs false 8) = Oct.num bs := by
  unfold lifeBad at h
  by_cases h0 : bs.length = 0
  · have : bs = [] := List.eq_nil_of_length_eq_zero h0
    subst this
    rfl
  · have h8 : bs.length = 8 := by omega
    rw [show (8 : Int) = ((8 : Nat) : Int) from rfl, (tk_nat (k := 8) (by omega)).1, List.take_of_length_le (by omega)]

set_option maxHeartbeats 4000000 in
theorem lived_b {w wo : World} {d T : Nat} {s : Dk} {L : List (Nat × Obj)} (h : Dat w d T s L wo) (hoff : s.off = false) (x size : Int) (hbad : bookBad x size = false) (bs : List UInt8) (slot : Int) (count : Nat) (hop : openD s x = (count, bs, slot)) :
    Calls Try.prog 25 #[.pointer (some ⟨d, 0, none⟩), .int .i64 x, .int .i64 size] wo fun E w' =>
      ((count = 0 ∨ lifeBad bs) ∧ E = .returned (.tuple #[.pointer none, .int .u64 0, .int .i64 9]) ∧ Hid (Dat w d T s L w')) ∨
      (count ≠ 0 ∧ ¬ lifeBad bs ∧ ∃ g, E = .returned (.tuple #[.pointer (some ⟨g, 0, none⟩), .int .u64 (Oct.num bs : Int), .int .i64 0]) ∧ Hid (OpAt w d T s x L g bs slot w')) := by
  obtain ⟨hz1, hx1, hx2⟩ := bookBad_false hbad
  have HBF : Hid (∀ wx, Calls Try.prog 44 #[.pointer (some ⟨d, 0, none⟩), .int .i64 x, .int .i64 size] wx fun E w' => E = .returned (.int .i64 0) ∧ wx = w') := Lib.hid fun wx => by
    have := brefuses_any (w := wx) d x size (by omega)
    rw [hbad] at this
    exact this
  have HOP : Hid (Calls Try.prog 22 #[.pointer (some ⟨d, 0, none⟩), .int .i64 x] wo fun E w' => (count = 0 ∧ E = .returned (.tuple #[.pointer none, .int .i64 9]) ∧ Dat w d T s L w') ∨ (count ≠ 0 ∧ ∃ g, E = .returned (.tuple #[.pointer (some ⟨g, 0, none⟩), .int .i64 0]) ∧ OpAt w d T s x L g bs slot w')) := Lib.hid (by
    have := open_any h hoff x (by omega)
    unfold OpenEnd at this
    rw [hop] at this
    exact this)
  clear h hop hbad
  go_enter Try.func25, Try.ntmps25
  go_wp2_with (first | (go_at_call 44; refine (HBF.out _).mono ?_; rintro E w1 ⟨rfl, rfl⟩) | fail)
  refine HOP.out.mono ?_
  rintro E w1 (⟨h0, rfl, hD⟩ | ⟨h0, g, rfl, hO⟩)
  · have D1 := Lib.hid hD
    clear hD HOP
    subst h0
    go_wp2_with fail
    go_ret3
    exact ⟨rfl, D1⟩
  · have O1 := Lib.hid hO
    clear hO HOP
    have HC0 := Lib.hid h0
    clear h0
    go_wp2_with fail
    refine (cell_get2 O1.out).mono ?_
    rintro E w2 ⟨A, n, c, rfl, H2⟩
    have hl := H2.out.2.1.1
    have hn := H2.out.2.2.2
    clear O1
    by_cases hb : lifeBad bs
    · have HLB := Lib.hid hb
      unfold lifeBad at hb
      rw [hl] at hb
      obtain ⟨hb1, hb2⟩ := hb
      have hb1' : ((n : Int) != 0) = true := by simp; omega
      have hb2' : ((n : Int) != 8) = true := by simp; omega
      clear hl
      go_wp2_with fail
      go_ret3
      exact .inl ⟨.inr HLB.out, rfl, Lib.hid H2.out.1.dat⟩
    · have HWL := Lib.hid (word_life hb)
      have HLB := Lib.hid hb
      unfold lifeBad at hb
      rw [hl] at hb
      have HN := Lib.hid (Oct.new_any A n c bs w2 H2.out.2.1 H2.out.2.2.1 (by omega))
      clear hl
      by_cases h00 : n = 0
      · subst h00
        go_wp2_with fail
        refine HN.out.mono ?_
        rintro E w3 ⟨g3, rfl, hg3, hcut, hb3⟩
        have B3 := Lib.hid hb3
        have HG3 := Lib.hid hg3
        have HCT := Lib.hid hcut
        clear hg3 hcut hb3 HN
        go_wp2_with fail
        refine (Oct.word_cut g3 bs false w3 HCT.out).mono ?_
        rw [HWL.out]
        rintro E w4 ⟨rfl, -, hg4⟩
        have B4 : Hid (Below w2.heap.size w2 w4) := Lib.hid (below_gb' B3.out hg4 HG3.out B3.out.size)
        clear hg4
        go_wp2_with fail
        go_ret3
        exact .inr ⟨HC0.out, HLB.out, g, rfl, Lib.hid (H2.out.1.next B4.out)⟩
      · obtain rfl : n = 8 := by omega
        go_wp2_with fail
        refine HN.out.mono ?_
        rintro E w3 ⟨g3, rfl, hg3, hcut, hb3⟩
        have B3 := Lib.hid hb3
        have HG3 := Lib.hid hg3
        have HCT := Lib.hid hcut
        clear hg3 hcut hb3 HN
        go_wp2_with fail
        refine (Oct.word_cut g3 bs false w3 HCT.out).mono ?_
        rw [HWL.out]
        rintro E w4 ⟨rfl, -, hg4⟩
        have B4 : Hid (Below w2.heap.size w2 w4) := Lib.hid (below_gb' B3.out hg4 HG3.out B3.out.size)
        clear hg4
        go_wp2_with fail
        go_ret3
        exact .inr ⟨HC0.out, HLB.out, g, rfl, Lib.hid (H2.out.1.next B4.out)⟩

/-- A book that is open. -/
structure Opened (w : World) (d T : Nat) (s : Dk) (L : List (Nat × Obj)) (g life : Nat) (y stop : Int) (rs : List (List UInt8)) (A : Option Addr) (n c : Nat) (LF : List (Nat × Obj)) (W : World) : Prop where
  dat : Dat w d T s ((g, bookOf d life (rs.length : Int) y stop false) :: (LF ++ L)) W
  row : Rows (Stay w LF) W A n rs
  sl : Sl A n c
  new : ∀ p ∈ LF, p.1 ≠ g ∧ ∀ q ∈ L, p.1 ≠ q.1
  old : ∀ q ∈ L, q.1 ≠ g

set_option maxHeartbeats 4000000 in
theorem open_b {w wo : World} {d T : Nat} {s s' : Dk} {L : List (Nat × Obj)} (h : Dat w d T s L wo) (hoff : s.off = false) (hT : T < 10000000) (x size : Int) (hbad : bookBad x size = false) (bs : List UInt8) (slot e : Int) (count life : Nat) (hop : openD s x = (count, bs, slot)) (htop : topGo s x 20 < 9223372036854775808)
    (hc : count ≠ 0) (hlb : ¬ lifeBad bs) (hlife : IntKind.u64.wrap ((Oct.num bs : Int) + 1) = (life : Int)) (he : renewD s x (1 - slot) (Oct.be 8 life) = (s', e)) :
    Calls Try.prog 12 #[.pointer (some ⟨d, 0, none⟩), .int .i64 x, .int .i64 size] wo fun E w' =>
      (e ≠ 0 ∧ E = .returned (.tuple #[.pointer none, .slice none 0 0, .int .i64 e]) ∧ Hid (Dat w d (T + 10) s' L w')) ∨
      (e = 0 ∧ ∃ g A n c, E = .returned (.tuple #[.pointer (some ⟨g, 0, none⟩), .slice A n c, .int .i64 0]) ∧ ∃ LF, Hid (Opened w d (T + 10) s' L g life (readAll s' (x + 20) (x + size) life).1 (x + size) (readAll s' (x + 20) (x + size) life).2 A n c LF w')) := by
  obtain ⟨hz1, hx1, hx2⟩ := bookBad_false hbad
  have HLV : Hid (Calls Try.prog 25 #[.pointer (some ⟨d, 0, none⟩), .int .i64 x, .int .i64 size] wo fun E w' => ∃ g, E = .returned (.tuple #[.pointer (some ⟨g, 0, none⟩), .int .u64 (Oct.num bs : Int), .int .i64 0]) ∧ Hid (OpAt w d T s x L g bs slot w')) := Lib.hid ((lived_b h hoff x size hbad bs slot count hop).mono fun E w' hE => by
    rcases hE with ⟨h0 | h0, _⟩ | ⟨_, _, hE⟩
    · exact absurd h0 hc
    · exact absurd h0 hlb
    · exact hE)
  have HRN := Lib.hid he
  have HSL : Hid (0 ≤ slot ∧ slot ≤ 1) := Lib.hid (by have := openD_slot s x; rw [hop] at this; exact this)
  have HTP := Lib.hid htop
  have HOF := Lib.hid hoff
  obtain ⟨old, hold⟩ : ∃ old, old = Oct.num bs := ⟨_, rfl⟩
  rw [← hold] at hlife HLV
  clear h hop hbad he hold htop hc hlb hoff
  go_enter Try.func12, Try.ntmps12
  go_wp2_with fail
  refine HLV.out.mono ?_
  rintro E w1 ⟨g, rfl, O1⟩
  clear HLV
  go_wp2_with fail
  refine (Oct.word_any none 0 0 [] life w1 ⟨rfl, fun h => absurd h (by omega)⟩ (by omega)).mono ?_
  rintro E w2 ⟨g2, c2, rfl, ho2, hb2⟩
  simp only [Nat.zero_add, List.nil_append] at ho2 ⊢
  have O2 := Lib.hid (O1.out.wide hb2)
  have RD2 : Hid (Rd (Stay w (freshOf w1 w2)) w2 (some ⟨g2, 0, none⟩) 8 (Oct.be 8 life)) := Lib.hid (own_stay ho2)
  have SL2 : Hid (Oct.Sl (some ⟨g2, 0, none⟩) 8 c2) := Lib.hid (by
    obtain ⟨A, c, e1, e2⟩ := Oct.own_shape ho2
    injection e1 with e1 _ e3
    rw [e1, e3]
    exact e2)
  have SRC : Hid (Src w (freshOf w1 w2 ++ L) (some ⟨g2, 0, none⟩) 8 (Oct.be 8 life)) := Lib.hid (by
    have hs := Rd.src RD2.out (O2.out.dat.sub (L' := freshOf w1 w2) fun p hp => List.mem_append_left _ hp)
    exact fun W hb hL => hs W hb fun p hp => hL p (List.mem_append_left _ hp))
  clear ho2 hb2 O1 RD2
  have hsl := HSL.out
  have HPT := Lib.hid (cell_put_end (n := 8) (c := c2) (b := Oct.be 8 life) O2.out HOF.out hT (x := x) (by omega) hsl HTP.out SRC.out SL2.out (by omega) HRN.out)
  clear O2 SRC SL2 HTP
  go_wp2_with fail
  refine HPT.out.mono ?_
  rintro E w3 ⟨rfl, H3⟩
  clear HPT
  by_cases he : e = 0
  · subst he
    have D3 : Hid (Dat w d (T + 10) s' L w3) := Lib.hid (by
      rcases H3.out with ⟨h, _⟩ | ⟨_, h⟩
      · exact absurd rfl h
      · exact h.dat.sub fun p hp => List.mem_append_right _ hp)
    clear H3
    go_wp2_with fail
    refine (begun_any d x size life (by omega) (by omega)).mono ?_
    rintro E w4 ⟨rfl, rfl⟩
    have D4 := Lib.hid (D3.out.alloc (bookOf d life 0 (x + 20) (x + size) false))
    have HNE : Hid (∀ p ∈ L, p.1 ≠ w3.heap.size) := Lib.hid fun p hp => by have := keeps_dat.toKeep.lt D3.out hp; omega
    have HG : Hid (w3.heap.size < (w3.alloc (bookOf d life 0 (x + 20) (x + size) false)).heap.size) := Lib.hid (by simp)
    clear D3
    generalize w3.alloc (bookOf d life 0 (x + 20) (x + size) false) = w5 at D4 HG ⊢
    generalize w3.heap.size = g5 at D4 HNE HG ⊢
    go_wp2_with fail
    refine (read_b (w := w) D4.out HNE.out (by omega) (by omega)).mono ?_
    rintro E w6 ⟨A6, n6, c6, rfl, H6⟩
    have HOP : Hid (Opened w d (T + 10) s' L g5 life (readAll s' (x + 20) (x + size) life).1 (x + size) (readAll s' (x + 20) (x + size) life).2 A6 n6 c6 (freshOf w5 w6) w6) := Lib.hid ⟨H6.out.1, H6.out.2.1.kept fun b hb hlt => ⟨.inr ⟨w6.heap[b], mem_freshOf.2 ⟨hb, Array.getElem?_eq_getElem hlt⟩⟩, rfl⟩, H6.out.2.2, fun p hp => by
      have a := (mem_freshOf (k := p.1) (o := p.2)).1 hp
      refine ⟨by have := HG.out; omega, fun q hq => ?_⟩
      have := keeps_dat.toKeep.lt D4.out (.tail _ hq)
      omega, HNE.out⟩
    clear H6 D4
    go_wp2_with fail
    go_ret3
    exact ⟨g5, A6, n6, c6, rfl, _, HOP⟩
  · have D3 : Hid (Dat w d (T + 10) s' L w3) := Lib.hid (by
      rcases H3.out with ⟨_, _, h, _⟩ | ⟨h, _⟩
      · exact h.sub fun p hp => List.mem_append_right _ hp
      · exact absurd h he)
    have HE := Lib.hid he
    clear H3
    go_wp2_with fail
    go_ret3
    exact .inl ⟨HE.out, rfl, D3⟩
end Go.Proofs.Ytfegffdhlkhjbaa
