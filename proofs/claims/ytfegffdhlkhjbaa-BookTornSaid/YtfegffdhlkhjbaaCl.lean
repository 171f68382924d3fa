/-
  What is proved: what Put does. Conditions as stated.
-/
import Derived.Test.YtfegffdhlkhjbaaCk
namespace Go.Proofs.Ytfegffdhlkhjbaa
open Go.RowKit
set_option maxRecDepth 100000

theorem cellOf_free {w : World} {g d : Nat} {at' : Int} {A : Option Addr} {n c : Nat} {slot : Int} {failed : Bool} (h : w.heap[g]? = some (cellOf d at' A n c slot failed)) (k : Nat) : w.frozen? ⟨g, k, none⟩ = false :=
  free_block (C := #[.pointer (some ⟨d, 0, none⟩), .int .i64 at', .slice A n c, .int .i64 slot, .bool failed]) h k
theorem cellOf_fail {w : World} {g d : Nat} {at' : Int} {A : Option Addr} {n c : Nat} {slot : Int} {failed : Bool} (h : w.heap[g]? = some (cellOf d at' A n c slot failed)) (b : Bool) :
    (w.setCell ⟨g, 4, none⟩ (.bool b)).heap[g]? = some (cellOf d at' A n c slot b) :=
  heap_set (C := [.pointer (some ⟨d, 0, none⟩), .int .i64 at', .slice A n c, .int .i64 slot, .bool failed]) (k := 4) h _
theorem cellOf_put {w : World} {g d : Nat} {at' : Int} {A : Option Addr} {n c : Nat} {slot : Int} {failed : Bool} (h : w.heap[g]? = some (cellOf d at' A n c slot failed)) (A2 : Option Addr) (n2 c2 : Nat) (slot2 : Int) :
    ((w.setCell ⟨g, 2, none⟩ (.slice A2 n2 c2)).setCell ⟨g, 3, none⟩ (.int .i64 slot2)).heap[g]? = some (cellOf d at' A2 n2 c2 slot2 failed) :=
  heap_set (C := [.pointer (some ⟨d, 0, none⟩), .int .i64 at', .slice A2 n2 c2, .int .i64 slot, .bool failed]) (k := 3) (heap_set (C := [.pointer (some ⟨d, 0, none⟩), .int .i64 at', .slice A n c, .int .i64 slot, .bool failed]) (k := 2) h _) _

/-- A Put behind one that had an error. -/
theorem put_failed {w : World} {g d : Nat} {at' : Int} {A0 : Option Addr} {n0 c0 : Nat} {slot : Int} (h : w.heap[g]? = some (cellOf d at' A0 n0 c0 slot true)) (A : Option Addr) (n c : Nat) (hn : n ≤ 1100) :
    Calls Try.prog 26 #[.pointer (some ⟨g, 0, none⟩), .slice A n c] w fun E w' => E = .returned (.int .i64 8) ∧ w = w' := by
  obtain ⟨k0, k1, k2, k3, k4⟩ := cellOf_cells h
  clear h
  go_enter Try.func26, Try.ntmps26
  go_wp2
  go_ret
  exact ⟨rfl, rfl⟩

/-- How a Put ends: it has an error, and the cell fails from now on; or the cell has the bytes. -/
def PutEnd (w : World) (d T : Nat) (s' : Dk) (L : List (Nat × Obj)) (g : Nat) (at' : Int) (A0 : Option Addr) (n0 c0 : Nat) (slot : Int) (n : Nat) (bs : List UInt8) (e : Int) (w' : World) : Prop :=
  (e ≠ 0 ∧ Dat w d (T + 10) s' ((g, cellOf d at' A0 n0 c0 slot true) :: L) w') ∨
  (e = 0 ∧ ∃ A2 c2 LR, Dat w d (T + 10) s' ((g, cellOf d at' A2 n c2 (1 - slot) false) :: (LR ++ L)) w' ∧ Src w LR A2 n bs ∧ Oct.Sl A2 n c2 ∧ ∀ p ∈ LR, p.1 ≠ g ∧ ∀ q ∈ L, p.1 ≠ q.1)

set_option maxHeartbeats 2000000 in
theorem put_any {w wr : World} {d T : Nat} {s s' : Dk} {L : List (Nat × Obj)} {g : Nat} {at' : Int} {A0 : Option Addr} {n0 c0 : Nat} {slot : Int} (h : Dat w d T s ((g, cellOf d at' A0 n0 c0 slot false) :: L) wr) (hne : ∀ p ∈ L, p.1 ≠ g) (hoff : s.off = false) (hT : T < 10000000)
    (hat : 0 ≤ at' ∧ at' ≤ 32748) (hsl : 0 ≤ slot ∧ slot ≤ 1) (htop : topGo s at' 20 < 9223372036854775808)
    (A : Option Addr) (n c : Nat) (bs : List UInt8) (hb : Src w L A n bs) (hs : Oct.Sl A n c) (hn : n ≤ 1100) (e : Int) (he : renewD s at' (1 - slot) bs = (s', e)) :
    Calls Try.prog 26 #[.pointer (some ⟨g, 0, none⟩), .slice A n c] wr fun E w' => E = .returned (.int .i64 e) ∧ PutEnd w d T s' L g at' A0 n0 c0 slot n bs e w' := by
  obtain ⟨k0, k1, k2, k3, k4⟩ := cellOf_cells (h.get (q := g) (.head _))
  have HNE := Lib.hid hne
  have HRN := Lib.hid (renew_any h hoff hT at' (1 - slot) hat (by omega) htop A n c bs (fun W hb1 hb2 => hb W hb1 (fun q hq => hb2 q (.tail _ hq))) hs hn)
  rw [he] at HRN
  have HB := Lib.hid hb
  have HS := Lib.hid hs
  clear h hb hs hne htop he
  go_enter Try.func26, Try.ntmps26
  go_wp2_with fail
  refine HRN.out.mono ?_
  rintro E w2 ⟨rfl, h2⟩
  have D2 := Lib.hid h2
  clear h2 HRN k0 k1 k2 k3 k4
  by_cases he0 : e = 0
  · subst he0
    have HCL := Lib.hid (Oct.clone_any A n c bs w2 (HB.out.rd D2.out (fun q hq => .tail _ hq)) HS.out (by omega))
    go_wp2_with fail
    refine HCL.out.mono ?_
    rintro E w3 ⟨A2, c2, rfl, ho, hsl2, hb3⟩
    obtain ⟨LR, h3, hsrc, hfr⟩ := own_src D2.out hb3 ho (Nat.le_refl _)
    have D3 : Hid (Dat w d (T + 10) s' ((g, cellOf d at' A0 n0 c0 slot false) :: (LR ++ L)) w3) := Lib.hid (h3.sub fun p hp => by
      simp only [List.mem_cons, List.mem_append] at hp ⊢
      rcases hp with rfl | hp | hp
      · exact .inr (.inl rfl)
      · exact .inl hp
      · exact .inr (.inr hp))
    have g3 := D3.out.get (q := g) (.head _)
    have k2 := (cellOf_cells g3).2.2.1
    have k3 := (cellOf_cells g3).2.2.2.1
    have f2 := cellOf_free g3 2
    have f3 := cellOf_free g3 3
    have G3 := Lib.hid g3
    have HX : Hid (Src w LR A2 n bs ∧ Oct.Sl A2 n c2 ∧ ∀ p ∈ LR, p.1 ≠ g ∧ ∀ q ∈ L, p.1 ≠ q.1) := Lib.hid ⟨hsrc, hsl2, fun p hp => ⟨by have := hfr p hp; have := D2.out.lt (q := g) (.head _); omega, fun q hq => by have := hfr p hp; have := keeps_dat.toKeep.lt D2.out (.tail _ hq); omega⟩⟩
    have HN2 : Hid (∀ p ∈ LR ++ L, p.1 ≠ g) := Lib.hid fun p hp => by
      rcases List.mem_append.1 hp with hp | hp
      · exact (HX.out.2.2 p hp).1
      · exact HNE.out p hp
    clear g3 h3 hsrc hfr hsl2 ho hb3 HCL
    go_wp2_with fail
    go_ret
    refine ⟨rfl, .inr ⟨rfl, A2, c2, LR, ?_, HX.out⟩⟩
    exact D3.out.upd HN2.out (cellOf_put G3.out A2 n c2 (1 - slot)) (Oct.grownBy_trans (Oct.grownBy_set _ _ _ _) (Oct.grownBy_set _ _ _ _))
  · have g2 := D2.out.get (q := g) (.head _)
    have k4 := (cellOf_cells g2).2.2.2.2
    have f4 := cellOf_free g2 4
    have G2 := Lib.hid g2
    clear g2
    go_wp2_with fail
    go_ret
    exact ⟨rfl, .inl ⟨he0, D2.out.upd HNE.out (cellOf_fail G2.out true) (Oct.grownBy_set _ _ _ _)⟩⟩
end Go.Proofs.Ytfegffdhlkhjbaa
