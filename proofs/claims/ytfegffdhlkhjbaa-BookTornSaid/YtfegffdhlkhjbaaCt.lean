/-
  What is proved: the walk of CellPower for whatever comes in. Conditions as stated.
-/
import Derived.Test.YtfegffdhlkhjbaaCr
namespace Go.Proofs.Ytfegffdhlkhjbaa
open Go.RowKit
set_option maxRecDepth 100000

theorem wpAnyH_mono {P : Program} {md : Region.Mode} {ops : Array Oper} {Q : Exit → Act → World → Prop} {S S' : World → Prop} (hS : ∀ w, S' w → S w) : ∀ (fuel : Nat) (listed : Array Bool) (a : Act) (w : World), wpAnyH P md ops Q S' fuel listed a w → wpAnyH P md ops Q S fuel listed a w
  | 0, _, _, _, h => h
  | fuel + 1, _, _, _, h => ⟨h.1, fun i hi => wpOp_mono (fun a' w' h' => ⟨hS _ h'.1, wpAnyH_mono hS fuel _ a' w' h'.2⟩) (h.2 i hi)⟩
/-- From here on all memory that there is stays as it is. -/
theorem wpAnyH_next {P : Program} {md : Region.Mode} {ops : Array Oper} {Q : Exit → Act → World → Prop} {w0 w1 : World} (hb : Below w0.heap.size w0 w1) {fuel : Nat} {listed : Array Bool} {a : Act}
    (h : wpAnyH P md ops Q (fun W => Below w1.heap.size w1 W) fuel listed a w1) : wpAnyH P md ops Q (fun W => Below w0.heap.size w0 W) fuel listed a w1 :=
  wpAnyH_mono (fun _ h => hb.trans (h.mono hb.size)) _ _ _ _ h

section
variable {w wr : World} {d T : Nat} {s : Dk} {L : List (Nat × Obj)} {x : Int} {g : Nat} {bs : List UInt8} {slot : Int}
theorem cell_fuse (h : OpAt w d T s x L g bs slot wr) (m : Int) (hm : m < 9223372036854775808) : Calls Try.prog 11 #[.pointer (some ⟨d, 0, none⟩), .int .i64 m] wr fun E w' => E = .returned (.tuple #[]) ∧ Hid (OpAt w d T (s.fuseAt m) x L g bs slot w') := by
  obtain ⟨A, n, c, LR, h1, h2⟩ := h
  exact (dat_fuse h1 m hm).mono fun E w' ⟨e, h3⟩ => ⟨e, A, n, c, LR, h3, h2⟩
theorem cell_gets (h : OpAt w d T s x L g bs slot wr) :
    Calls Try.prog 23 #[.pointer (some ⟨g, 0, none⟩)] wr fun E w' => ∃ A n c, E = .returned (.slice A n c) ∧ Hid (OpAt w d T s x L g bs slot w' ∧ Oct.Rd w' A n bs ∧ Below wr.heap.size wr w') := by
  obtain ⟨A, n, c, hg, hr, hs, hn⟩ := h.cells
  exact (get_any hg bs hr hs hn).mono fun E w' ⟨A', c', e, ho, _, hb⟩ => ⟨A', n, c', e, h.next hb, Oct.Rd.of_own ho, hb⟩
end
theorem rd_oct {w W : World} {A : Option Addr} {n : Nat} {bs : List UInt8} (h : Rd (fun _ => True) w A n bs) (hb : Below w.heap.size w W) : Oct.Rd W A n bs :=
  ⟨h.1, fun hn => let ⟨b, o, e, hlt, _, hc⟩ := h.2 hn; ⟨b, o, e, Nat.lt_of_lt_of_le hlt hb.size, fun j u hu => (hb.cell (p := ⟨b, o + j, none⟩) hlt).trans (hc j u hu)⟩⟩
theorem rd_low {w W : World} {A : Option Addr} {n : Nat} {bs : List UInt8} (h : Rd (fun _ => True) w A n bs) (hb : Below w.heap.size w W) : Rd (fun b => b < w.heap.size) W A n bs :=
  ⟨h.1, fun hn => let ⟨b, o, e, hlt, _, hc⟩ := h.2 hn; ⟨b, o, e, Nat.lt_of_lt_of_le hlt hb.size, hlt, fun j u hu => (hb.cell (p := ⟨b, o + j, none⟩) hlt).trans (hc j u hu)⟩⟩
end Go.Proofs.Ytfegffdhlkhjbaa
