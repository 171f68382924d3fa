/-
  What is proved: what renew and Put do. Conditions as stated.
  What is proved: what Put does. Conditions as stated.
  What is proved: what Open does. Conditions as stated.
-/
import Derived.Test.YtepjfkmbmcfnoaaDoorK8

namespace Go.Proofs.YtepjfkmbmcfnoaaDoor
open Go.RowKit
set_option maxRecDepth 100000

/-- A slot is written anew, and synced. -/
def renewD (s : Dk) (at' slot : Int) (bs : List UInt8) : Dk × Int :=
  if (wrs s (at' + slot * 10) (sect (topGo s at' 20 + 1) bs) 10).2 ≠ 0 then wrs s (at' + slot * 10) (sect (topGo s at' 20 + 1) bs) 10 else (wrs s (at' + slot * 10) (sect (topGo s at' 20 + 1) bs) 10).1.sync

theorem renew_any {w wr : World} {d T : Nat} {s : Dk} {L : List (Nat × Obj)} (h : Dat w d T s L wr) (hoff : s.off = false) (hT : T < 10000000) (at' slot : Int) (hat : 0 ≤ at' ∧ at' ≤ 32748) (hsl : 0 ≤ slot ∧ slot ≤ 1) (htop : topGo s at' 20 < 9223372036854775808)
    (A : Option Addr) (n c : Nat) (bs : List UInt8) (hb : Src w L A n bs) (hs : Oct.Sl A n c) (hn : n ≤ 1100) :
    Calls Tryd.prog 43 #[.agg #[.pointer (some ⟨d, 0, none⟩), .int .i64 at'], .int .i64 slot, .slice A n c] wr fun E w' => E = .returned (.int .i64 (renewD s at' slot bs).2) ∧ Dat w d (T + 10) (renewD s at' slot bs).1 L w' := by
  obtain ⟨tk, htk⟩ : ∃ tk, tk = topGo s at' 20 := ⟨_, rfl⟩
  have HD : Hid (Dat w d T s ((wr.heap.size, .cells #[.pointer (some ⟨d, 0, none⟩), .int .i64 at'] 86 (0, 0)) :: L) (wr.alloc (.cells #[.pointer (some ⟨d, 0, none⟩), .int .i64 at'] 86))) := Lib.hid (h.alloc _)
  have HGR := Lib.hid (greatest_any HD.out hoff at' hat)
  rw [← htk] at HGR
  obtain ⟨p, hp⟩ : ∃ p, p = wrs s (at' + slot * 10) (sect (tk + 1) bs) 10 := ⟨_, rfl⟩
  have HRD : Hid (renewD s at' slot bs = if p.2 ≠ 0 then p else p.1.sync) := Lib.hid (by rw [renewD, ← htk, ← hp])
  have hcast : ((tk + 1 : Nat) : Int) = (tk : Int) + 1 := by omega
  obtain ⟨Lq, hLq⟩ : ∃ Lq, Lq = (wr.heap.size, Obj.cells #[.pointer (some ⟨d, 0, none⟩), .int .i64 at'] 86 (0, 0)) :: L := ⟨_, rfl⟩
  rw [← hLq] at HD
  have HWR : Hid (∀ W, Dat w d T s Lq W → Calls Tryd.prog 49 #[.agg #[.pointer (some ⟨d, 0, none⟩), .int .i64 at'], .int .i64 slot, .int .u64 ((tk : Int) + 1), .slice A n c] W fun E w' => E = .returned (.int .i64 p.2) ∧ Dat w d (T + 10) p.1 Lq w') := Lib.hid fun W hW => by
    have := slot_write hW (by omega) at' slot hat hsl (tk + 1) A n c bs (fun W hb1 hb2 => hb W hb1 (fun q hq => hb2 q (by rw [hLq]; exact .tail _ hq))) hs hn
    rw [hcast, ← hp] at this
    exact this
  have HC : Hid (∀ (T' : Nat) (s' : Dk) W, Dat w d T' s' Lq W → W.cell? ⟨wr.heap.size, 0, none⟩ = some (.pointer (some ⟨d, 0, none⟩)) ∧ W.cell? ⟨wr.heap.size, 1, none⟩ = some (.int .i64 at')) := Lib.hid fun T' s' W hW => by
    have hg := hW.get (q := wr.heap.size) (o := .cells #[.pointer (some ⟨d, 0, none⟩), .int .i64 at'] 86 (0, 0)) (by rw [hLq]; exact .head _)
    exact ⟨block_cell (C := [.pointer (some ⟨d, 0, none⟩), .int .i64 at']) hg 0 _ rfl, block_cell (C := [.pointer (some ⟨d, 0, none⟩), .int .i64 at']) hg 1 _ rfl⟩
  have HSUB : Hid (∀ (T' : Nat) (s' : Dk) W, Dat w d T' s' Lq W → Dat w d T' s' L W) := Lib.hid fun T' s' W hW => by rw [hLq] at hW; exact hW.drop
  rw [← htk] at htop
  clear h hb hs htk hp hLq hcast
  go_enter Tryd.func43, Tryd.ntmps43
  go_wp2_with fail
  refine HGR.out.mono ?_
  rintro E w1 ⟨rfl, hb1⟩
  have D1 := Lib.hid (HD.out.next hb1)
  obtain ⟨c0, c1⟩ := HC.out _ _ _ D1.out
  clear hb1 HD HGR
  go_wp2_with fail
  refine (HWR.out _ D1.out).mono ?_
  rintro E w2 ⟨rfl, h2⟩
  have D2 := Lib.hid h2
  obtain ⟨k0, k1⟩ := HC.out _ _ _ D2.out
  clear h2 D1 HWR c0 c1
  by_cases hp0 : p.2 = 0
  · have HR2 : Hid (renewD s at' slot bs = p.1.sync) := Lib.hid (by rw [HRD.out, if_neg (by simp [hp0])])
    have HS := Lib.hid (dat_sync D2.out (by omega))
    generalize p.2 = e0 at hp0 ⊢
    subst hp0
    go_wp2_with (first | (go_at_call 50; refine HS.out.mono ?_; rintro E w3 ⟨rfl, h3⟩))
    go_ret
    rw [HR2.out]
    exact ⟨rfl, HSUB.out _ _ _ h3⟩
  · have HR2 : Hid (renewD s at' slot bs = p) := Lib.hid (by rw [HRD.out, if_pos hp0])
    generalize hp2 : p.2 = e0 at hp0 ⊢
    have HP2 := Lib.hid hp2
    clear hp2
    go_wp2_with fail
    go_ret
    rw [HR2.out, HP2.out]
    exact ⟨rfl, HSUB.out _ _ _ D2.out⟩

/-- A row that was made just now is the call's own. -/
theorem own_src {w w0 w1 : World} {d T : Nat} {s : Dk} {L : List (Nat × Obj)} (h : Dat w d T s L w0) (hb : Below w0.heap.size w0 w1) {A : Option Addr} {n c B : Nat} {bs : List UInt8} (ho : w1.ownsRow B 5 1 (.slice A n c) n (u8s bs)) (hB : w0.heap.size ≤ B) :
    ∃ LR, Dat w d T s (LR ++ L) w1 ∧ Src w LR A n bs ∧ ∀ p ∈ LR, w0.heap.size ≤ p.1 := by
  rcases Nat.eq_zero_or_pos n with rfl | hp
  · have hl : bs.length = 0 := (Oct.Rd.of_own ho).1
    exact ⟨[], h.next hb, fun W _ _ => ⟨hl, fun h => absurd h (by omega)⟩, fun p hp => by cases hp⟩
  · obtain ⟨g, cap, cur, hv, hBg, _, _, hg, hr⟩ := own_block ho hp
    injection hv with hv1 hv2 hv3
    subst hv1
    exact ⟨[(g, .cells cur 5 (0, 0))], keeps_dat.toKeep.fresh h hb (by omega) hg, fun W _ hL => hr W (hL _ (.head _)), fun p hp => by simp only [List.mem_singleton] at hp; subst hp; exact Nat.le_trans hB hBg⟩
end Go.Proofs.YtepjfkmbmcfnoaaDoor

namespace Go.Proofs.YtepjfkmbmcfnoaaDoor
open Go.RowKit
set_option maxRecDepth 100000

theorem cellOf_free {w : World} {g d : Nat} {at' : Int} {A : Option Addr} {n c : Nat} {slot : Int} {failed : Bool} (h : w.heap[g]? = some (cellOf d at' A n c slot failed)) (k : Nat) : w.frozen? ⟨g, k, none⟩ = false :=
  free_block (C := #[.pointer (some ⟨d, 0, none⟩), .int .i64 at', .slice A n c, .int .i64 slot, .bool failed]) h k
theorem cellOf_fail {w : World} {g d : Nat} {at' : Int} {A : Option Addr} {n c : Nat} {slot : Int} {failed : Bool} (h : w.heap[g]? = some (cellOf d at' A n c slot failed)) (b : Bool) :
    (w.setCell ⟨g, 4, none⟩ (.bool b)).heap[g]? = some (cellOf d at' A n c slot b) :=
  heap_set (C := [.pointer (some ⟨d, 0, none⟩), .int .i64 at', .slice A n c, .int .i64 slot, .bool failed]) (k := 4) h _
theorem cellOf_put {w : World} {g d : Nat} {at' : Int} {A : Option Addr} {n c : Nat} {slot : Int} {failed : Bool} (h : w.heap[g]? = some (cellOf d at' A n c slot failed)) (A2 : Option Addr) (n2 c2 : Nat) (slot2 : Int) :
    ((w.setCell ⟨g, 2, none⟩ (.slice A2 n2 c2)).setCell ⟨g, 3, none⟩ (.int .i64 slot2)).heap[g]? = some (cellOf d at' A2 n2 c2 slot2 failed) :=
  heap_set (C := [.pointer (some ⟨d, 0, none⟩), .int .i64 at', .slice A2 n2 c2, .int .i64 slot, .bool failed]) (k := 3) (heap_set (C := [.pointer (some ⟨d, 0, none⟩), .int .i64 at', .slice A n c, .int .i64 slot, .bool failed]) (k := 2) h _) _

/-- A Put behind one that had an error. -/
theorem put_failed {w : World} {g d : Nat} {at' : Int} {A0 : Option Addr} {n0 c0 : Nat} {slot : Int} (h : w.heap[g]? = some (cellOf d at' A0 n0 c0 slot true)) (A : Option Addr) (n c : Nat) (hn : n ≤ 1100) :
    Calls Tryd.prog 22 #[.pointer (some ⟨g, 0, none⟩), .slice A n c] w fun E w' => E = .returned (.int .i64 8) ∧ w = w' := by
  obtain ⟨k0, k1, k2, k3, k4⟩ := cellOf_cells h
  clear h
  go_enter Tryd.func22, Tryd.ntmps22
  go_wp2
  go_ret
  exact ⟨rfl, rfl⟩

/-- How a Put ends: it has an error, and the cell fails from now on; or the cell has the bytes. -/
def PutEnd (w : World) (d T : Nat) (s' : Dk) (L : List (Nat × Obj)) (g : Nat) (at' : Int) (A0 : Option Addr) (n0 c0 : Nat) (slot : Int) (n : Nat) (bs : List UInt8) (e : Int) (w' : World) : Prop :=
  (e ≠ 0 ∧ Dat w d (T + 10) s' ((g, cellOf d at' A0 n0 c0 slot true) :: L) w') ∨
  (e = 0 ∧ ∃ A2 c2 LR, Dat w d (T + 10) s' ((g, cellOf d at' A2 n c2 (1 - slot) false) :: (LR ++ L)) w' ∧ Src w LR A2 n bs ∧ Oct.Sl A2 n c2 ∧ ∀ p ∈ LR, p.1 ≠ g ∧ ∀ q ∈ L, p.1 ≠ q.1)

set_option maxHeartbeats 2000000 in
theorem put_any {w wr : World} {d T : Nat} {s s' : Dk} {L : List (Nat × Obj)} {g : Nat} {at' : Int} {A0 : Option Addr} {n0 c0 : Nat} {slot : Int} (h : Dat w d T s ((g, cellOf d at' A0 n0 c0 slot false) :: L) wr) (hne : ∀ p ∈ L, p.1 ≠ g) (hoff : s.off = false) (hT : T < 10000000)
    (hat : 0 ≤ at' ∧ at' ≤ 32748) (hsl : 0 ≤ slot ∧ slot ≤ 1) (htop : topGo s at' 20 < 9223372036854775808)
    (A : Option Addr) (n c : Nat) (bs : List UInt8) (hb : Src w L A n bs) (hs : Oct.Sl A n c) (hn : n ≤ 1100) (e : Int) (he : renewD s at' (1 - slot) bs = (s', e)) :
    Calls Tryd.prog 22 #[.pointer (some ⟨g, 0, none⟩), .slice A n c] wr fun E w' => E = .returned (.int .i64 e) ∧ PutEnd w d T s' L g at' A0 n0 c0 slot n bs e w' := by
  obtain ⟨k0, k1, k2, k3, k4⟩ := cellOf_cells (h.get (q := g) (.head _))
  have HNE := Lib.hid hne
  have HRN := Lib.hid (renew_any h hoff hT at' (1 - slot) hat (by omega) htop A n c bs (fun W hb1 hb2 => hb W hb1 (fun q hq => hb2 q (.tail _ hq))) hs hn)
  rw [he] at HRN
  have HB := Lib.hid hb
  have HS := Lib.hid hs
  clear h hb hs hne htop he
  go_enter Tryd.func22, Tryd.ntmps22
  go_wp2_with fail
  refine HRN.out.mono ?_
  rintro E w2 ⟨rfl, h2⟩
  have D2 := Lib.hid h2
  clear h2 HRN k0 k1 k2 k3 k4
  by_cases he0 : e = 0
  · subst he0
    have HCL := Lib.hid (Oct.clone_any A n c bs w2 (HB.out.rd D2.out (fun q hq => .tail _ hq)) HS.out (by omega))
    go_wp2_with fail
    refine HCL.out.mono ?_
    rintro E w3 ⟨A2, c2, rfl, ho, hsl2, hb3⟩
    obtain ⟨LR, h3, hsrc, hfr⟩ := own_src D2.out hb3 ho (Nat.le_refl _)
    have D3 : Hid (Dat w d (T + 10) s' ((g, cellOf d at' A0 n0 c0 slot false) :: (LR ++ L)) w3) := Lib.hid (h3.sub fun p hp => by
      simp only [List.mem_cons, List.mem_append] at hp ⊢
      rcases hp with rfl | hp | hp
      · exact .inr (.inl rfl)
      · exact .inl hp
      · exact .inr (.inr hp))
    have g3 := D3.out.get (q := g) (.head _)
    have k2 := (cellOf_cells g3).2.2.1
    have k3 := (cellOf_cells g3).2.2.2.1
    have f2 := cellOf_free g3 2
    have f3 := cellOf_free g3 3
    have G3 := Lib.hid g3
    have HX : Hid (Src w LR A2 n bs ∧ Oct.Sl A2 n c2 ∧ ∀ p ∈ LR, p.1 ≠ g ∧ ∀ q ∈ L, p.1 ≠ q.1) := Lib.hid ⟨hsrc, hsl2, fun p hp => ⟨by have := hfr p hp; have := D2.out.lt (q := g) (.head _); omega, fun q hq => by have := hfr p hp; have := keeps_dat.toKeep.lt D2.out (.tail _ hq); omega⟩⟩
    have HN2 : Hid (∀ p ∈ LR ++ L, p.1 ≠ g) := Lib.hid fun p hp => by
      rcases List.mem_append.1 hp with hp | hp
      · exact (HX.out.2.2 p hp).1
      · exact HNE.out p hp
    clear g3 h3 hsrc hfr hsl2 ho hb3 HCL
    go_wp2_with fail
    go_ret
    refine ⟨rfl, .inr ⟨rfl, A2, c2, LR, ?_, HX.out⟩⟩
    exact D3.out.upd HN2.out (cellOf_put G3.out A2 n c2 (1 - slot)) (Oct.grownBy_trans (Oct.grownBy_set _ _ _ _) (Oct.grownBy_set _ _ _ _))
  · have g2 := D2.out.get (q := g) (.head _)
    have k4 := (cellOf_cells g2).2.2.2.2
    have f4 := cellOf_free g2 4
    have G2 := Lib.hid g2
    clear g2
    go_wp2_with fail
    go_ret
    exact ⟨rfl, .inl ⟨he0, D2.out.upd HNE.out (cellOf_fail G2.out true) (Oct.grownBy_set _ _ _ _)⟩⟩
end Go.Proofs.YtepjfkmbmcfnoaaDoor

namespace Go.Proofs.YtepjfkmbmcfnoaaDoor
open Go.RowKit
set_option maxRecDepth 100000

/-- What Open finds: the count, the bytes, the slot; the count 0: no slot is whole. -/
def openD (s : Dk) (at' : Int) : Nat × List UInt8 × Int :=
  if (slotRes s at').1 < (slotRes s (at' + 10)).1 then ((slotRes s (at' + 10)).1, (slotRes s (at' + 10)).2, 1) else ((slotRes s at').1, if 0 < (slotRes s at').1 then (slotRes s at').2 else [], 0)
theorem contentOf_len {all b : List UInt8} (h : contentOf all = some b) : b.length ≤ 1100 := by
  unfold contentOf at h
  split at h
  · cases h
  · split at h
    · injection h with h
      rw [← h, List.length_take]
      omega
    · cases h
theorem slotRes_len (s : Dk) (x : Int) : (slotRes s x).2.length ≤ 1100 := by
  unfold slotRes
  split
  · simp
  · split
    · simp
    · rename_i h
      exact contentOf_len h

/-- A cell lies at g: it has these bytes, in this slot; its row is the call's own. -/
def OpAt (w : World) (d T : Nat) (s : Dk) (at' : Int) (L : List (Nat × Obj)) (g : Nat) (bs : List UInt8) (slot : Int) (wx : World) : Prop :=
  ∃ A n c LR, Dat w d T s ((g, cellOf d at' A n c slot false) :: (LR ++ L)) wx ∧ Src w LR A n bs ∧ Oct.Sl A n c ∧ n ≤ 1100 ∧ (∀ p ∈ LR, p.1 ≠ g ∧ ∀ q ∈ L, p.1 ≠ q.1) ∧ ∀ q ∈ L, q.1 ≠ g
section
variable {w wx w3 : World} {d T : Nat} {s : Dk} {at' : Int} {L : List (Nat × Obj)} {g : Nat} {bs : List UInt8} {slot : Int}
theorem OpAt.next (h : OpAt w d T s at' L g bs slot wx) (hb : Below wx.heap.size wx w3) : OpAt w d T s at' L g bs slot w3 := let ⟨A, n, c, LR, h1, h2⟩ := h; ⟨A, n, c, LR, h1.next hb, h2⟩
theorem OpAt.dat (h : OpAt w d T s at' L g bs slot wx) : Dat w d T s L wx := let ⟨_, _, _, _, h1, _⟩ := h; h1.sub fun _ hp => .tail _ (List.mem_append_right _ hp)
theorem OpAt.sub {L' : List (Nat × Obj)} (h : OpAt w d T s at' L g bs slot wx) (hs : ∀ p ∈ L', p ∈ L) : OpAt w d T s at' L' g bs slot wx := by
  obtain ⟨A, n, c, LR, h1, h2, h3, h4, h5, h6⟩ := h
  refine ⟨A, n, c, LR, h1.sub fun p hp => ?_, h2, h3, h4, fun p hp => ⟨(h5 p hp).1, fun q hq => (h5 p hp).2 q (hs q hq)⟩, fun q hq => h6 q (hs q hq)⟩
  simp only [List.mem_cons, List.mem_append] at hp ⊢
  rcases hp with rfl | hp | hp
  · exact .inl rfl
  · exact .inr (.inl hp)
  · exact .inr (.inr (hs p hp))
theorem OpAt.cells (h : OpAt w d T s at' L g bs slot wx) : ∃ A n c, wx.heap[g]? = some (cellOf d at' A n c slot false) ∧ Oct.Rd wx A n bs ∧ Oct.Sl A n c ∧ n ≤ 1100 := by
  obtain ⟨A, n, c, LR, h1, h2, h3, h4, _⟩ := h
  exact ⟨A, n, c, h1.get (q := g) (.head _), h2.rd h1 (fun p hp => .tail _ (List.mem_append_left _ hp)), h3, h4⟩
/-- Other bytes are stored, that were made just now. -/
theorem OpAt.put (h : OpAt w d T s at' L g bs slot wx) (hb : Below wx.heap.size wx w3) {A : Option Addr} {n c B : Nat} {bs2 : List UInt8} (ho : w3.ownsRow B 5 1 (.slice A n c) n (u8s bs2)) (hB : wx.heap.size ≤ B) (hs : Oct.Sl A n c) (hn : n ≤ 1100) (slot2 : Int) :
    OpAt w d T s at' L g bs2 slot2 ((w3.setCell ⟨g, 2, none⟩ (.slice A n c)).setCell ⟨g, 3, none⟩ (.int .i64 slot2)) := by
  obtain ⟨A0, n0, c0, LR0, h1, -, -, -, h5, h6⟩ := h
  obtain ⟨LR, h3, hsrc, hfr⟩ := own_src h1 hb ho hB
  have hfr2 : ∀ p ∈ LR, p.1 ≠ g ∧ ∀ q ∈ L, p.1 ≠ q.1 := fun p hp => ⟨by have := hfr p hp; have := h1.lt (q := g) (.head _); omega, fun q hq => by have := hfr p hp; have := keeps_dat.toKeep.lt h1 (.tail _ (List.mem_append_right _ hq)); omega⟩
  have h4 : Dat w d T s ((g, cellOf d at' A0 n0 c0 slot false) :: (LR ++ L)) w3 := h3.sub fun p hp => by
    simp only [List.mem_cons, List.mem_append] at hp ⊢
    rcases hp with rfl | hp | hp
    · exact .inr (.inl rfl)
    · exact .inl hp
    · exact .inr (.inr (.inr hp))
  refine ⟨A, n, c, LR, h4.upd (fun p hp => ?_) (cellOf_put (h4.get (q := g) (.head _)) A n c slot2) (Oct.grownBy_trans (Oct.grownBy_set _ _ _ _) (Oct.grownBy_set _ _ _ _)), hsrc, hs, hn, hfr2, h6⟩
  rcases List.mem_append.1 hp with hp | hp
  · exact (hfr2 p hp).1
  · exact h6 p hp
end

/-- How Open ends. -/
def OpenEnd (w : World) (d T : Nat) (s : Dk) (at' : Int) (L : List (Nat × Obj)) (E : Ending) (w' : World) : Prop :=
  ((openD s at').1 = 0 ∧ E = .returned (.tuple #[.pointer none, .int .i64 9]) ∧ Dat w d T s L w') ∨
  ((openD s at').1 ≠ 0 ∧ ∃ g, E = .returned (.tuple #[.pointer (some ⟨g, 0, none⟩), .int .i64 0]) ∧ OpAt w d T s at' L g (openD s at').2.1 (openD s at').2.2 w')

set_option maxHeartbeats 4000000 in
theorem open_any {w wo : World} {d T : Nat} {s : Dk} {L : List (Nat × Obj)} (h : Dat w d T s L wo) (hoff : s.off = false) (at' : Int) (hat : 0 ≤ at' ∧ at' ≤ 32748) :
    Calls Tryd.prog 21 #[.pointer (some ⟨d, 0, none⟩), .int .i64 at'] wo (OpenEnd w d T s at' L) := by
  obtain ⟨p0, hp0⟩ : ∃ p, p = slotRes s at' := ⟨_, rfl⟩
  obtain ⟨p1, hp1⟩ : ∃ p, p = slotRes s (at' + 10) := ⟨_, rfl⟩
  have HL0 : Hid (p0.2.length ≤ 1100) := Lib.hid (by rw [hp0]; exact slotRes_len _ _)
  have HL1 : Hid (p1.2.length ≤ 1100) := Lib.hid (by rw [hp1]; exact slotRes_len _ _)
  have HO : Hid (openD s at' = if p0.1 < p1.1 then (p1.1, p1.2, 1) else (p0.1, if 0 < p0.1 then p0.2 else [], 0)) := Lib.hid (by rw [openD, ← hp0, ← hp1])
  have HD : Hid (Dat w d T s ((wo.heap.size, .cells #[.pointer (some ⟨d, 0, none⟩), .int .i64 at'] 86 (0, 0)) :: L) (wo.alloc (.cells #[.pointer (some ⟨d, 0, none⟩), .int .i64 at'] 86))) := Lib.hid (h.alloc _)
  have HRF := Lib.hid (fun wx => refuses_cell (w := wx) d at' hat)
  obtain ⟨Lq, hLq⟩ : ∃ Lq, Lq = (wo.heap.size, Obj.cells #[.pointer (some ⟨d, 0, none⟩), .int .i64 at'] 86 (0, 0)) :: L := ⟨_, rfl⟩
  rw [← hLq] at HD
  have HC : Hid (∀ W, Dat w d T s Lq W → W.cell? ⟨wo.heap.size, 0, none⟩ = some (.pointer (some ⟨d, 0, none⟩)) ∧ W.cell? ⟨wo.heap.size, 1, none⟩ = some (.int .i64 at')) := Lib.hid fun W hW => by
    have hg := hW.get (q := wo.heap.size) (o := .cells #[.pointer (some ⟨d, 0, none⟩), .int .i64 at'] 86 (0, 0)) (by rw [hLq]; exact .head _)
    exact ⟨block_cell (C := [.pointer (some ⟨d, 0, none⟩), .int .i64 at']) hg 0 _ rfl, block_cell (C := [.pointer (some ⟨d, 0, none⟩), .int .i64 at']) hg 1 _ rfl⟩
  have HSUB : Hid (∀ p ∈ L, p ∈ Lq) := Lib.hid fun p hp => by rw [hLq]; exact .tail _ hp
  have HR0 : Hid (∀ W, Dat w d T s Lq W → Calls Tryd.prog 42 #[.agg #[.pointer (some ⟨d, 0, none⟩), .int .i64 at'], .int .i64 0] W fun E w' => ∃ A m c, E = .returned (.tuple #[.int .u64 (p0.1 : Int), .slice A m c, .int .i64 0]) ∧ Below W.heap.size W w' ∧ Oct.Sl A m c ∧ w'.ownsRow W.heap.size 5 1 (.slice A m c) m (u8s p0.2)) := Lib.hid fun W hW => by
    have := slot_read hW hoff at' 0 hat (by omega)
    rwa [show at' + 0 * 10 = at' by omega, ← hp0] at this
  have HR1 : Hid (∀ W, Dat w d T s Lq W → Calls Tryd.prog 42 #[.agg #[.pointer (some ⟨d, 0, none⟩), .int .i64 at'], .int .i64 1] W fun E w' => ∃ A m c, E = .returned (.tuple #[.int .u64 (p1.1 : Int), .slice A m c, .int .i64 0]) ∧ Below W.heap.size W w' ∧ Oct.Sl A m c ∧ w'.ownsRow W.heap.size 5 1 (.slice A m c) m (u8s p1.2)) := Lib.hid fun W hW => by
    have := slot_read hW hoff at' 1 hat (by omega)
    rwa [show at' + 1 * 10 = at' + 10 by omega, ← hp1] at this
  clear h hp0 hp1 hLq
  go_enter Tryd.func21, Tryd.ntmps21
  go_wp2_with fail
  refine (HRF.out _).mono ?_
  rintro E w1 ⟨rfl, hb⟩
  have D1 := Lib.hid (HD.out.next hb)
  obtain ⟨c0, c1⟩ := HC.out _ D1.out
  clear hb HD HRF
  go_wp2_with fail
  have O1 : Hid (OpAt w d T s at' Lq w1.heap.size [] 0 (w1.alloc (.cells #[.pointer (some ⟨d, 0, none⟩), .int .i64 at', .slice none 0 0, .int .i64 0, .bool false] 89))) := Lib.hid
    ⟨none, 0, 0, [], D1.out.alloc _, src_nil _ _, sl_nil, by omega, fun p hp => (by cases hp), fun q hq => by have := keeps_dat.toKeep.lt D1.out hq; omega⟩
  generalize w1.alloc (.cells #[.pointer (some ⟨d, 0, none⟩), .int .i64 at', .slice none 0 0, .int .i64 0, .bool false] 89) = w2 at O1 ⊢
  clear D1 c0 c1
  generalize w1.heap.size = gc at O1 ⊢
  go_loopw [9, 24] (fun v9 v24 wr => (v24 = .int .i64 0 ∧ v9 = .int .u64 0 ∧ Hid (OpAt w d T s at' Lq gc [] 0 wr)) ∨ (v24 = .int .i64 1 ∧ v9 = .int .u64 (p0.1 : Int) ∧ Hid (OpAt w d T s at' Lq gc (if 0 < p0.1 then p0.2 else []) 0 wr)) ∨
      (v24 = .int .i64 2 ∧ v9 = .int .u64 ((openD s at').1 : Int) ∧ Hid (OpAt w d T s at' Lq gc (openD s at').2.1 (openD s at').2.2 wr))) (fun _ v24 _ => 2 - (intOf v24).toNat)
  case atStart => exact .inl ⟨rfl, rfl, O1⟩
  case round =>
    clear O1
    rcases hrel with ⟨rfl, rfl, OA⟩ | ⟨rfl, rfl, OA⟩ | ⟨rfl, rfl, OA⟩
    · skip
      obtain ⟨c0, c1⟩ := HC.out _ OA.out.dat
      go_wp2_with fail
      refine (HR0.out _ OA.out.dat).mono ?_
      rintro E w2 ⟨A, m, c, rfl, hb2, hs2, ho2⟩
      have O2 := Lib.hid (OA.out.next hb2)
      obtain ⟨A0, n0, cc0, hg0, -⟩ := O2.out.cells
      have k2 := (cellOf_cells hg0).2.2.1
      have k3 := (cellOf_cells hg0).2.2.2.1
      have f2 := cellOf_free hg0 2
      have f3 := cellOf_free hg0 3
      have HM : Hid (m ≤ 1100) := Lib.hid (by have := (Oct.Rd.of_own ho2).1; rw [← this]; exact HL0.out)
      have HB2 := Lib.hid hb2
      have HS2 := Lib.hid hs2
      have HO2 := Lib.hid ho2
      clear hb2 hs2 ho2 hg0 c0 c1
      by_cases h0 : 0 < p0.1
      · go_wp2_with fail
        go_roundw
        case measure => simp [intOf]
        case rel => exact by have h1 := (OA.out.put HB2.out HO2.out (Nat.le_refl _) HS2.out HM.out 0); have e1 : (if 0 < p0.1 then p0.2 else []) = p0.2 := if_pos h0; rw [e1]; exact .inr (.inl ⟨rfl, rfl, h1⟩)
      · have h00 : p0.1 = 0 := by omega
        go_wp2_with fail
        go_roundw
        case measure => simp [intOf]
        case rel => exact by have e1 : (if 0 < p0.1 then p0.2 else []) = [] := if_neg h0; rw [e1]; exact .inr (.inl ⟨rfl, by rw [h00]; rfl, O2⟩)
    · skip
      obtain ⟨c0, c1⟩ := HC.out _ OA.out.dat
      go_wp2_with fail
      refine (HR1.out _ OA.out.dat).mono ?_
      rintro E w2 ⟨A, m, c, rfl, hb2, hs2, ho2⟩
      have O2 := Lib.hid (OA.out.next hb2)
      obtain ⟨A0, n0, cc0, hg0, -⟩ := O2.out.cells
      have k2 := (cellOf_cells hg0).2.2.1
      have k3 := (cellOf_cells hg0).2.2.2.1
      have f2 := cellOf_free hg0 2
      have f3 := cellOf_free hg0 3
      have HM : Hid (m ≤ 1100) := Lib.hid (by have := (Oct.Rd.of_own ho2).1; rw [← this]; exact HL1.out)
      have HB2 := Lib.hid hb2
      have HS2 := Lib.hid hs2
      have HO2 := Lib.hid ho2
      clear hb2 hs2 ho2 hg0 c0 c1
      by_cases h0 : p0.1 < p1.1
      · go_wp2_with fail
        go_roundw
        case measure => simp [intOf]
        case rel => exact by have h1 := (OA.out.put HB2.out HO2.out (Nat.le_refl _) HS2.out HM.out 1); rw [HO.out, if_pos h0]; exact .inr (.inr ⟨rfl, rfl, h1⟩)
      · go_wp2_with fail
        go_roundw
        case measure => simp [intOf]
        case rel => exact by rw [HO.out, if_neg h0]; exact .inr (.inr ⟨rfl, rfl, O2⟩)
    · obtain ⟨m, hm⟩ : ∃ m, m = (openD s at').1 := ⟨_, rfl⟩
      rw [← hm]
      have HMM := Lib.hid hm
      clear hm
      by_cases hm0 : m = 0
      · subst hm0
        go_wp2_with fail
        go_ret2
        exact .inl ⟨HMM.out.symm, rfl, OA.out.dat.sub HSUB.out⟩
      · go_wp2_with fail
        go_ret2
        exact .inr ⟨by rw [← HMM.out]; exact hm0, gc, rfl, OA.out.sub HSUB.out⟩
end Go.Proofs.YtepjfkmbmcfnoaaDoor
