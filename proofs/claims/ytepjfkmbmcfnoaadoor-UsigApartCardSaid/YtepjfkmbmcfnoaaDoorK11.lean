/-
  What is proved: what is there when the power has gone in a Put, whatever is picked. Conditions as stated.
  What is proved: the walk of CellPower for whatever comes in. Conditions as stated.
  What is proved: a slice of slices of bytes that came in reads as such; what Open finds where one slot alone is whole. Conditions as stated.
-/
import Derived.Test.YtepjfkmbmcfnoaaDoorK10

namespace Go.Proofs.YtepjfkmbmcfnoaaDoor
open Go.RowKit
set_option maxRecDepth 100000

/-- The loose writes of the first j sectors of a slot. -/
def slotW (x : Int) (f : Nat → List UInt8) (j : Nat) : List (Int × List UInt8) := (List.range j).map fun (i : Nat) => (x + (i : Int), f i)
theorem slotW_succ (x : Int) (f : Nat → List UInt8) (j : Nat) : slotW x f (j + 1) = slotW x f j ++ [(x + (j : Int), f j)] := by simp [slotW, List.range_succ]

theorem burn_end (s : Dk) (ho : s.off = false) : (s.burn.2 = 0 ∧ s.burn.1.off = false ∧ s.burn.1.loose = s.loose ∧ s.burn.1.sure = s.sure) ∨ (s.burn.2 = 8 ∧ s.burn.1.off = true ∧ s.burn.1.loose = s.loose ∧ s.burn.1.sure = s.sure) := by
  unfold Dk.burn
  split
  · exact .inl ⟨rfl, ho, rfl, rfl⟩
  · exact .inr ⟨rfl, rfl, rfl, rfl⟩
  · exact .inl ⟨rfl, ho, rfl, rfl⟩

/-- How far the writes have come. -/
theorem wrs_end {s : Dk} {x : Int} {f : Nat → List UInt8} (ho : s.off = false) (hl : s.loose = []) (hx : 0 ≤ x ∧ x + 10 ≤ 32768) : ∀ k, k ≤ 10 →
    ∃ j, j ≤ k ∧ (wrs s x f k).1.sure = s.sure ∧ (wrs s x f k).1.loose = slotW x f j ∧ (((wrs s x f k).2 = 0 ∧ (wrs s x f k).1.off = false ∧ j = k) ∨ ((wrs s x f k).2 = 8 ∧ (wrs s x f k).1.off = true))
  | 0, _ => ⟨0, Nat.le_refl _, rfl, by simp [wrs, hl, slotW], .inl ⟨rfl, ho, rfl⟩⟩
  | k + 1, hk => by
    obtain ⟨j, hj, h1, h2, h3⟩ := wrs_end (f := f) ho hl hx k (by omega)
    rcases h3 with ⟨h3, h4, rfl⟩ | ⟨h3, h4⟩
    · rw [wrs_next h3]
      have hr : (wrs s x f j).1.refuses (x + j) = 0 := by unfold Dk.refuses; rw [h4]; simp; omega
      have hw : (wrs s x f j).1.write (x + j) (f j) = Dk.burn { (wrs s x f j).1 with loose := (wrs s x f j).1.loose ++ [(x + (j : Int), f j)] } := by
        unfold Dk.write
        rw [if_neg (by simp [hr])]
      rw [hw]
      rcases burn_end { (wrs s x f j).1 with loose := (wrs s x f j).1.loose ++ [(x + (j : Int), f j)] } h4 with ⟨k1, k2, k3, k4⟩ | ⟨k1, k2, k3, k4⟩
      · exact ⟨j + 1, Nat.le_refl _, by rw [k4]; exact h1, by rw [k3, slotW_succ, ← h2], .inl ⟨k1, k2, rfl⟩⟩
      · exact ⟨j + 1, Nat.le_refl _, by rw [k4]; exact h1, by rw [k3, slotW_succ, ← h2], .inr ⟨k1, k2⟩⟩
    · refine ⟨j, by omega, ?_⟩
      have := wrs_stuck (s := s) (x := x) (f := f) (k := k) (by rw [h3]; decide) 1
      rw [this]
      exact ⟨h1, h2, .inr ⟨h3, h4⟩⟩

/-- What a sector may have become. -/
def Became (s s' : Dk) (x : Int) (f : Nat → List UInt8) : Prop := ∀ y, s'.sure y = s.sure y ∨ ∃ i : Nat, i < 10 ∧ y = x + i ∧ (s'.sure y = none ∨ s'.sure y = some (f i))
theorem settled_slot (t : Nat → Nat) (g : Int → Option (List UInt8)) (x : Int) (f : Nat → List UInt8) : ∀ j y, settled t 0 g (slotW x f j) y = g y ∨ ∃ i : Nat, i < j ∧ y = x + i ∧ (settled t 0 g (slotW x f j) y = none ∨ settled t 0 g (slotW x f j) y = some (f i))
  | 0, y => .inl rfl
  | j + 1, y => by
    rw [slotW_succ, settled_snoc]
    have ih := settled_slot t g x f j y
    generalize settled t 0 g (slotW x f j) = G at ih ⊢
    generalize t (0 + (slotW x f j).length) = pk
    have old : G y = g y ∨ ∃ i : Nat, i < j + 1 ∧ y = x + i ∧ (G y = none ∨ G y = some (f i)) := ih.imp id fun ⟨i, h1, h2⟩ => ⟨i, by omega, h2⟩
    unfold done
    split
    · exact old
    · split
      · by_cases hy : y = x + j
        · exact .inr ⟨j, by omega, hy, .inl (by simp only; rw [hy, upd_same])⟩
        · simp only
          rw [upd_other _ _ hy]
          exact old
      · by_cases hy : y = x + j
        · exact .inr ⟨j, by omega, hy, .inr (by simp only; rw [hy, upd_same])⟩
        · simp only
          rw [upd_other _ _ hy]
          exact old

theorem on_offed (s : Dk) (picks : List UInt8) : s.offed.on picks = (Dk.settle { s.offed with off := false, fuse := none } fun i => (picks.getD i 0).toNat, 0) := by
  unfold Dk.on
  exact if_pos (show s.offed.off = true from rfl)
/-- A Put, with the power going anywhere; then off, and on again, whatever is picked. -/
theorem renew_crash {s : Dk} {at' slot : Int} {bs : List UInt8} (ho : s.off = false) (hl : s.loose = []) (hx : 0 ≤ at' + slot * 10 ∧ at' + slot * 10 + 10 ≤ 32768) :
    ∃ s' e, renewD s at' slot bs = (s', e) ∧ (e = 0 ∨ e = 8) ∧ ∀ picks, ∃ s2, s'.offed.on picks = (s2, 0) ∧ s2.off = false ∧ s2.fuse = none ∧ s2.loose = [] ∧ Became s s2 (at' + slot * 10) (sect (topGo s at' 20 + 1) bs) ∧
      (e = 0 → ∀ i : Nat, i < 10 → s2.sure (at' + slot * 10 + i) = some (sect (topGo s at' 20 + 1) bs i)) := by
  obtain ⟨x, hxx⟩ : ∃ x, x = at' + slot * 10 := ⟨_, rfl⟩
  obtain ⟨f, hff⟩ : ∃ f, f = sect (topGo s at' 20 + 1) bs := ⟨_, rfl⟩
  rw [← hxx] at hx
  have hrn : renewD s at' slot bs = if (wrs s x f 10).2 ≠ 0 then wrs s x f 10 else (wrs s x f 10).1.sync := by rw [renewD, ← hxx, ← hff]
  rw [← hxx, ← hff, hrn]
  clear hrn hxx hff
  obtain ⟨j, hj, h1, h2, h3⟩ := wrs_end (f := f) ho hl hx 10 (Nat.le_refl _)
  generalize wrs s x f 10 = p at h1 h2 h3 ⊢
  -- off and on again, where the writes are loose
  have crash : ∀ s' : Dk, s'.sure = s.sure → s'.loose = slotW x f j → ∀ picks, ∃ s2, s'.offed.on picks = (s2, 0) ∧ s2.off = false ∧ s2.fuse = none ∧ s2.loose = [] ∧ Became s s2 x f := fun s' k1 k2 picks => by
    refine ⟨Dk.settle { s'.offed with off := false, fuse := none } fun i => (picks.getD i 0).toNat, ?_, rfl, rfl, rfl, fun y => ?_⟩
    · exact on_offed s' picks
    · have := settled_slot (fun i => (picks.getD i 0).toNat) s.sure x f j y
      have e : (Dk.settle { s'.offed with off := false, fuse := none } fun i => (picks.getD i 0).toNat).sure y = settled (fun i => (picks.getD i 0).toNat) 0 s.sure (slotW x f j) y := by
        show settled _ 0 s'.sure s'.loose y = _
        rw [k1, k2]
      rw [e]
      exact this.imp id fun ⟨i, a, b⟩ => ⟨i, by omega, b⟩
  rcases h3 with ⟨h3, h4, rfl⟩ | ⟨h3, h4⟩
  · rw [if_neg (by simp [h3])]
    rcases burn_end p.1 h4 with ⟨k1, k2, k3, k4⟩ | ⟨k1, k2, k3, k4⟩
    · have e : p.1.sync = (p.1.burn.1.settle fun _ => 1, 0) := by
        unfold Dk.sync
        rw [if_neg (by simp [h4]), if_neg (by simp [k1])]
      refine ⟨_, _, e, .inl rfl, fun picks => ?_⟩
      have hs : ∀ y, (p.1.burn.1.settle fun _ => 1).sure y = if x ≤ y ∧ y < x + 10 then some (f (y - x).toNat) else s.sure y := fun y => by
        show settled (fun _ => 1) 0 p.1.burn.1.sure p.1.burn.1.loose y = _
        rw [settled_sync, k3, k4, h1, h2, slotW, lastW_slot]
        by_cases hy : x ≤ y ∧ y < x + 10
        · rw [if_pos hy, if_pos (by omega)]
        · rw [if_neg hy, if_neg (by omega)]
      refine ⟨Dk.settle { (p.1.burn.1.settle fun _ => 1).offed with off := false, fuse := none } fun i => (picks.getD i 0).toNat, on_offed _ picks, rfl, rfl, rfl, fun y => ?_, fun _ i hi => ?_⟩
      · show (p.1.burn.1.settle fun _ => 1).sure y = _ ∨ _
        by_cases hy : x ≤ y ∧ y < x + 10
        · refine .inr ⟨(y - x).toNat, by omega, by omega, .inr ?_⟩
          show (p.1.burn.1.settle fun _ => 1).sure y = _
          rw [hs, if_pos hy]
        · exact .inl (by rw [hs, if_neg hy])
      · show (p.1.burn.1.settle fun _ => 1).sure _ = _
        rw [hs, if_pos (by omega)]
        congr 2
        omega
    · have e : p.1.sync = p.1.burn := by
        unfold Dk.sync
        rw [if_neg (by simp [h4]), if_pos (by simp [k1])]
      refine ⟨p.1.burn.1, 8, by rw [e]; exact Prod.ext rfl k1, .inr rfl, fun picks => ?_⟩
      obtain ⟨s2, c1, c2, c3, c4, c5⟩ := crash p.1.burn.1 (by rw [k4, h1]) (by rw [k3, h2]) picks
      exact ⟨s2, c1, c2, c3, c4, c5, fun h => absurd h (by decide)⟩
  · rw [if_pos (by simp [h3])]
    refine ⟨p.1, 8, Prod.ext rfl h3, .inr rfl, fun picks => ?_⟩
    obtain ⟨s2, c1, c2, c3, c4, c5⟩ := crash p.1 h1 h2 picks
    exact ⟨s2, c1, c2, c3, c4, c5, fun h => absurd h (by decide)⟩

/-- The cell then has what it had, or what was put, whole. -/
theorem CellIs.crash {s s2 : Dk} {x : Int} {a na C : Nat} {bs : List UInt8} (h : CellIs s x a na bs C) (hx : 0 ≤ x ∧ x ≤ 32748) (hC : C + 1 < 4611686018427387904) (b : List UInt8) (hb : b.length ≤ 1100) (ho : s.off = false) (hl : s.loose = []) (ho2 : s2.off = false) (hl2 : s2.loose = [])
    (hB : Became s s2 (x + ((1 - a : Nat) : Int) * 10) (sect (topGo s x 20 + 1) b)) :
    CellIs s2 x (1 - a) (topGo s x 20 + 1) b (C + 1) ∨ (CellIs s2 x a na bs (C + 1) ∧ ∃ i : Nat, i < 10 ∧ s2.sure (x + ((1 - a : Nat) : Int) * 10 + i) ≠ some (sect (topGo s x 20 + 1) b i)) := by
  have ha := h.slot
  obtain ⟨t1, t2⟩ := h.top_le
  have hc : na < 18446744073709551616 := by omega
  have hr : ∀ y, 0 ≤ y ∧ y < 32768 → s2.read y = match s2.sure y with | some b => (b, 0) | none => (zeros, 9) := fun y hy => by rw [read_on ho2 hy, hl2]; rfl
  have hro : ∀ y, 0 ≤ y ∧ y < 32768 → s.read y = match s.sure y with | some b => (b, 0) | none => (zeros, 9) := fun y hy => by rw [read_on ho hy, hl]; rfl
  have hsame : ∀ y, 0 ≤ y ∧ y < 32768 → s2.sure y = s.sure y → s2.read y = s.read y := fun y hy e => by rw [hr y hy, hro y hy, e]
  have hA : SlotIs s2 (x + a * 10) na bs := fun i hi => by
    rw [← h.has i hi]
    refine hsame _ (by omega) ?_
    rcases hB (x + a * 10 + i) with e | ⟨k, hk, e, _⟩
    · exact e
    · omega
  -- each sector of the other slot: as it was, new, or lost
  have hsec : ∀ i : Nat, i < 10 → s2.read (x + ((1 - a : Nat) : Int) * 10 + i) = s.read (x + ((1 - a : Nat) : Int) * 10 + i) ∨ s2.sure (x + ((1 - a : Nat) : Int) * 10 + i) = none ∨ s2.sure (x + ((1 - a : Nat) : Int) * 10 + i) = some (sect (topGo s x 20 + 1) b i) := fun i hi => by
    rcases hB (x + ((1 - a : Nat) : Int) * 10 + i) with e | ⟨k, hk, e, e2⟩
    · exact .inl (hsame _ (by omega) e)
    · obtain rfl : k = i := by omega
      exact .inr e2
  have hall : ∀ i : Nat, i < 20 → (s2.read (x + i)).2 = 0 → cnt (s2.read (x + i)).1 ≤ C + 1 := fun i hi he => by
    rcases hB (x + i) with e | ⟨k, hk, e, e2 | e2⟩
    · rw [hsame _ (by omega) e] at he ⊢
      have := h.all i hi he
      omega
    · rw [hr _ (by omega), e2] at he
      exact absurd he (by decide)
    · rw [hr _ (by omega), e2]
      simp only
      rw [cnt_sect _ _ _ (by omega)]
      omega
  by_cases hnew : ∀ i : Nat, i < 10 → s2.sure (x + ((1 - a : Nat) : Int) * 10 + i) = some (sect (topGo s x 20 + 1) b i)
  · refine .inl ⟨by omega, fun i hi => by rw [hr _ (by omega), hnew i hi], by omega, by omega, hb, ?_, hall, hC⟩
    rw [show 1 - (1 - a) = a by omega, slotRes_is hA hc h.len]
    simp only
    omega
  · obtain ⟨i0, hi0⟩ := Classical.not_forall.1 hnew
    obtain ⟨hi10, hi1⟩ : i0 < 10 ∧ s2.sure (x + ((1 - a : Nat) : Int) * 10 + i0) ≠ some (sect (topGo s x 20 + 1) b i0) := ⟨Classical.byContradiction fun hh => hi0 fun h => absurd h hh, fun e => hi0 fun _ => e⟩
    refine .inr ⟨⟨ha, hA, h.pos, by omega, h.len, ?_, hall, hC⟩, i0, hi10, hi1⟩
    refine Classical.byContradiction fun hn => ?_
    have hp := h.pos
    have hF := slotRes_all (s := s2) (x := x + ((1 - a : Nat) : Int) * 10) (by omega)
    generalize hFF : (slotRes s2 (x + ((1 - a : Nat) : Int) * 10)).1 = F at hn hF
    -- the sector that is not new is as it was
    have hle : F ≤ topGo s x 20 := by
      obtain ⟨k1, k2⟩ := hF i0 hi10
      rcases hsec i0 hi10 with e | e | e
      · rw [e] at k1 k2
        have := topGo_ge (s := s) (x := x) (n := 20) ((1 - a) * 10 + i0) (by omega) (by rw [show x + (((1 - a) * 10 + i0 : Nat) : Int) = x + ((1 - a : Nat) : Int) * 10 + i0 by omega]; exact k1)
        rw [show x + (((1 - a) * 10 + i0 : Nat) : Int) = x + ((1 - a : Nat) : Int) * 10 + i0 by omega, k2] at this
        exact this
      · rw [hr _ (by omega), e] at k1
        exact absurd k1 (by decide)
      · exact absurd e hi1
    have hold : ∀ i : Nat, i < 10 → s2.read (x + ((1 - a : Nat) : Int) * 10 + i) = s.read (x + ((1 - a : Nat) : Int) * 10 + i) := fun i hi => by
      obtain ⟨k1, k2⟩ := hF i hi
      rcases hsec i hi with e | e | e
      · exact e
      · rw [hr _ (by omega), e] at k1
        exact absurd k1 (by decide)
      · rw [hr _ (by omega), e] at k2
        simp only at k2
        rw [cnt_sect _ _ _ (by omega)] at k2
        omega
    rw [slotRes_congr hold] at hFF
    have := h.elder
    omega
end Go.Proofs.YtepjfkmbmcfnoaaDoor

namespace Go.Proofs.YtepjfkmbmcfnoaaDoor
open Go.RowKit
set_option maxRecDepth 100000

theorem wpAnyH_mono {P : Program} {md : Region.Mode} {ops : Array Oper} {Q : Exit → Act → World → Prop} {S S' : World → Prop} (hS : ∀ w, S' w → S w) : ∀ (fuel : Nat) (listed : Array Bool) (a : Act) (w : World), wpAnyH P md ops Q S' fuel listed a w → wpAnyH P md ops Q S fuel listed a w
  | 0, _, _, _, h => h
  | fuel + 1, _, _, _, h => ⟨h.1, fun i hi => wpOp_mono (fun a' w' h' => ⟨hS _ h'.1, wpAnyH_mono hS fuel _ a' w' h'.2⟩) (h.2 i hi)⟩
/-- From here on all memory that there is stays as it is. -/
theorem wpAnyH_next {P : Program} {md : Region.Mode} {ops : Array Oper} {Q : Exit → Act → World → Prop} {w0 w1 : World} (hb : Below w0.heap.size w0 w1) {fuel : Nat} {listed : Array Bool} {a : Act}
    (h : wpAnyH P md ops Q (fun W => Below w1.heap.size w1 W) fuel listed a w1) : wpAnyH P md ops Q (fun W => Below w0.heap.size w0 W) fuel listed a w1 :=
  wpAnyH_mono (fun _ h => hb.trans (h.mono hb.size)) _ _ _ _ h

section
variable {w wr : World} {d T : Nat} {s : Dk} {L : List (Nat × Obj)} {x : Int} {g : Nat} {bs : List UInt8} {slot : Int}
theorem cell_fuse (h : OpAt w d T s x L g bs slot wr) (m : Int) (hm : m < 9223372036854775808) : Calls Tryd.prog 15 #[.pointer (some ⟨d, 0, none⟩), .int .i64 m] wr fun E w' => E = .returned (.tuple #[]) ∧ Hid (OpAt w d T (s.fuseAt m) x L g bs slot w') := by
  obtain ⟨A, n, c, LR, h1, h2⟩ := h
  exact (dat_fuse h1 m hm).mono fun E w' ⟨e, h3⟩ => ⟨e, A, n, c, LR, h3, h2⟩
theorem cell_gets (h : OpAt w d T s x L g bs slot wr) :
    Calls Tryd.prog 52 #[.pointer (some ⟨g, 0, none⟩)] wr fun E w' => ∃ A n c, E = .returned (.slice A n c) ∧ Hid (OpAt w d T s x L g bs slot w' ∧ Oct.Rd w' A n bs ∧ Below wr.heap.size wr w') := by
  obtain ⟨A, n, c, hg, hr, hs, hn⟩ := h.cells
  exact (get_any hg bs hr hs hn).mono fun E w' ⟨A', c', e, ho, _, hb⟩ => ⟨A', n, c', e, h.next hb, Oct.Rd.of_own ho, hb⟩
end
theorem rd_oct {w W : World} {A : Option Addr} {n : Nat} {bs : List UInt8} (h : Rd (fun _ => True) w A n bs) (hb : Below w.heap.size w W) : Oct.Rd W A n bs :=
  ⟨h.1, fun hn => let ⟨b, o, e, hlt, _, hc⟩ := h.2 hn; ⟨b, o, e, Nat.lt_of_lt_of_le hlt hb.size, fun j u hu => (hb.cell (p := ⟨b, o + j, none⟩) hlt).trans (hc j u hu)⟩⟩
theorem rd_low {w W : World} {A : Option Addr} {n : Nat} {bs : List UInt8} (h : Rd (fun _ => True) w A n bs) (hb : Below w.heap.size w W) : Rd (fun b => b < w.heap.size) W A n bs :=
  ⟨h.1, fun hn => let ⟨b, o, e, hlt, _, hc⟩ := h.2 hn; ⟨b, o, e, Nat.lt_of_lt_of_le hlt hb.size, hlt, fun j u hu => (hb.cell (p := ⟨b, o + j, none⟩) hlt).trans (hc j u hu)⟩⟩
end Go.Proofs.YtepjfkmbmcfnoaaDoor

namespace Go.Proofs.YtepjfkmbmcfnoaaDoor
open Go.RowKit Go.ChangeShapes Go.WideShapes Go.Deep
set_option maxRecDepth 100000

theorem Tryd.cells29 : Tryd.prog.cellsOf 29 = 1 := by kernel_rfl
/-- Slices of bytes in memory: where each lies, its room, its bytes. -/
def Lists (w : World) (A : Option Addr) (n : Nat) (xs : List (Option Addr × Nat × List UInt8)) : Prop :=
  xs.length = n ∧ (0 < n → ∃ b o, A = some ⟨b, o, none⟩ ∧ b < w.heap.size ∧ ∀ (j : Nat) (x : Option Addr × Nat × List UInt8), xs[j]? = some x → w.cell? ⟨b, o + j, none⟩ = some (.slice x.1 x.2.2.length x.2.1) ∧ Rd (fun _ => True) w x.1 x.2.2.length x.2.2 ∧ Sl x.1 x.2.2.length x.2.1)
theorem lists_of {H : Type} {enc : TypeId × Value → H} {W : World} {base : Nat} {spare : Nat → Bool} {held : Bool} {A : Option Addr} {n c : Nat} {d : DataW H} {p : List MemPlace}
    (h : DataW.Trod enc Tryd.prog W base spare held 59 (.slice A n c) d p) : ∃ xs, Lists W A n xs ∧ Sl A n c := by
  obtain ⟨fuel, hf⟩ := h
  rcases open_slice1 Tryd.underlying59 Tryd.cells29 hf with ⟨hcs, _⟩ | ⟨a, len, cap, m, k, V, D, Pl, hcs, _, hlc, hcm, hm, _, hx⟩
  · simp [Value.cells] at hcs
    obtain ⟨rfl, rfl, rfl⟩ := hcs
    exact ⟨[], ⟨rfl, fun h => absurd h (by omega)⟩, ⟨fun _ => ⟨rfl, rfl⟩, Nat.le_refl _, by omega⟩⟩
  · simp [Value.cells] at hcs
    obtain ⟨rfl, rfl, rfl⟩ := hcs
    have hnm : n ≤ m := by rw [hm]; split <;> omega
    have hx' : ∀ i, i < n → ∃ x : Option Addr × Nat × List UInt8, W.cell? (a.add i) = some (.slice x.1 x.2.2.length x.2.1) ∧ Rd (fun _ => True) W x.1 x.2.2.length x.2.2 ∧ Sl x.1 x.2.2.length x.2.1 := by
      intro i hi
      obtain ⟨hc, ht⟩ := hx i (by omega)
      have hV : ∃ A' n' c', V i = .slice A' n' c' := by
        rcases open_ints Tryd.underlying29 Tryd.underlying5 (by kernel_rfl) ht with ⟨hcs, _⟩ | ⟨x, l, cap, zs, hcs, _⟩
        · exact ⟨_, _, _, List.head_eq_of_cons_eq hcs⟩
        · exact ⟨_, _, _, List.head_eq_of_cons_eq hcs⟩
      obtain ⟨A', n', c', hV⟩ := hV
      rw [hV] at hc ht
      obtain ⟨bs, hr, hs⟩ := bytes_of (A := A') (n := n') (c := c') ⟨_, ht⟩
      obtain rfl : bs.length = n' := hr.1
      exact ⟨(A', c', bs), hc, hr, hs⟩
    obtain ⟨X, hX⟩ := choose_lt (α := Option Addr × Nat × List UInt8) (p := fun i (x : Option Addr × Nat × List UInt8) => W.cell? (a.add i) = some (.slice x.1 x.2.2.length x.2.1) ∧ Rd (fun _ => True) W x.1 x.2.2.length x.2.2 ∧ Sl x.1 x.2.2.length x.2.1) hx'
    refine ⟨(List.range n).map X, ⟨by simp, fun hp => ?_⟩, ⟨(fun h => (by cases h)), hlc, by unfold maxLen at hcm; omega⟩⟩
    have h0 := (hX 0 hp).1
    have hs : a.spot = none := by simpa [Addr.add] using World.cell?_spot h0
    obtain ⟨b, o, spot⟩ := a
    simp only at hs
    subst hs
    refine ⟨b, o, rfl, ?_, fun j x hj => ?_⟩
    · exact World.block_lt_of_cell? W _ h0
    · have hjn : j < n := by have := (List.getElem?_eq_some_iff.1 hj).1; simpa using this
      rw [List.getElem?_map, List.getElem?_range hjn] at hj
      cases hj
      obtain ⟨q0, q1, q2⟩ := hX j hjn
      rw [Addr.add_lit] at q0
      exact ⟨q0, q1, q2⟩

theorem openD_one {s : Dk} {x : Int} {b nb : Nat} {bs : List UInt8} (hb : b ≤ 1) (h : slotRes s (x + b * 10) = (nb, bs)) (hn : 1 ≤ nb) (h0 : (slotRes s (x + ((1 - b : Nat) : Int) * 10)).1 = 0) : openD s x = (nb, bs, (b : Int)) := by
  unfold openD
  rcases (show b = 0 ∨ b = 1 by omega) with rfl | rfl
  · rw [show x + ((0 : Nat) : Int) * 10 = x by omega] at h
    rw [show x + ((1 - 0 : Nat) : Int) * 10 = x + 10 by omega] at h0
    rw [h, if_neg (by simp only; omega), if_pos (by simp only; omega)]
    rfl
  · rw [show x + ((1 : Nat) : Int) * 10 = x + 10 by omega] at h
    rw [show x + ((1 - 1 : Nat) : Int) * 10 = x by omega] at h0
    rw [h, if_pos (by simp only; omega)]
    rfl
section
variable {w wr : World} {d T : Nat} {s : Dk} {L : List (Nat × Obj)} {x : Int} {g : Nat} {bs : List UInt8} {slot : Int}
theorem cell_open_one (h : Dat w d T s L wr) (ho : s.off = false) (hx : 0 ≤ x ∧ x ≤ 32748) {nb : Nat} (e : openD s x = (nb, bs, slot)) (hn : 1 ≤ nb) :
    Calls Tryd.prog 21 #[.pointer (some ⟨d, 0, none⟩), .int .i64 x] wr fun E w' => ∃ g, E = .returned (.tuple #[.pointer (some ⟨g, 0, none⟩), .int .i64 0]) ∧ Hid (OpAt w d T s x L g bs slot w') := by
  refine (open_any h ho x hx).mono fun E w' hE => ?_
  rcases hE with ⟨h0, _⟩ | ⟨_, g, h1, h2⟩
  · rw [e] at h0
    simp only at h0
    omega
  · rw [e] at h2
    exact ⟨g, h1, h2⟩
/-- A cell stays while its blocks do. -/
theorem OpAt.split (h : OpAt w d T s x L g bs slot wr) : ∃ Lc, Dat w d T s Lc wr ∧ ∀ T' s' W, Dat w d T' s' Lc W → OpAt w d T' s' x L g bs slot W := by
  obtain ⟨A, n, c, LR, h1, h2⟩ := h
  exact ⟨_, h1, fun T' s' W hW => ⟨A, n, c, LR, hW, h2⟩⟩
end
theorem CellIs.congr {s s' : Dk} {x : Int} {a na C C' : Nat} {bs : List UInt8} (h : CellIs s x a na bs C) (hr : ∀ i : Nat, i < 20 → s'.read (x + i) = s.read (x + i)) (hC : C ≤ C') (hC' : C' < 4611686018427387904) : CellIs s' x a na bs C' := by
  have ha := h.slot
  refine ⟨h.slot, fun i hi => ?_, h.pos, Nat.le_trans h.top hC, h.len, ?_, fun i hi he => ?_, hC'⟩
  · have := hr (a * 10 + i) (by omega)
    rw [show x + ((a * 10 + i : Nat) : Int) = x + a * 10 + i by omega] at this
    rw [this]
    exact h.has i hi
  · rw [slotRes_congr (s := s) fun i hi => ?_]
    · exact h.elder
    · have := hr ((1 - a) * 10 + i) (by omega)
      rw [show x + (((1 - a) * 10 + i : Nat) : Int) = x + (1 - a : Nat) * 10 + i by omega] at this
      exact this
  · rw [hr i hi] at he ⊢
    exact Nat.le_trans (h.all i hi he) hC
/-- What is written beside a cell. -/
theorem write_beside {s : Dk} (hc : Calm s) {y : Int} (hy : 0 ≤ y ∧ y < 32768) (b : List UInt8) : (s.write y b).2 = 0 ∧ Calm (s.write y b).1 ∧ ∀ z, 0 ≤ z ∧ z < 32768 → z ≠ y → (s.write y b).1.read z = s.read z := by
  rw [write_ok hc.1 hc.2 hy]
  refine ⟨rfl, hc, fun z hz hne => ?_⟩
  rw [read_on (s := { s with loose := s.loose ++ [(y, b)] }) hc.1 hz, read_on hc.1 hz]
  simp only [lastW_append]
  have : lastW [(y, b)] z = none := by
    simp [lastW]
    omega
  rw [this]
end Go.Proofs.YtepjfkmbmcfnoaaDoor
