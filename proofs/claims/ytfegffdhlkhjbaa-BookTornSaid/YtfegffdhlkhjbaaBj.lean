/-
  What is proved: what makes a record's pages is laid. Conditions as stated.
-/
import Derived.Test.YtfegffdhlkhjbaaBi
namespace Go.Proofs.Ytfegffdhlkhjbaa
open Go.RowKit
set_option maxRecDepth 100000

set_option maxHeartbeats 4000000 in
theorem paged_b (l n0 k p : Nat) (A : Option Addr) (n c : Nat) (r : List UInt8) (w : World) (hr : Oct.Rd w A n r) (hs : Oct.Sl A n c) (hn : n ≤ 4096) :
    Calls Try.prog 51 #[.agg #[.int .u64 (l : Int), .int .u64 (n0 : Int), .int .u16 (k : Int), .int .u16 (p : Int)], .slice A n c] w fun E w' => ∃ q2 q5 A' c', E = .returned (.func (.func 67) #[] #[.pointer (some ⟨q2, 0, none⟩), .pointer (some ⟨q5, 0, none⟩)]) ∧ Below w.heap.size w w' ∧ w.heap.size ≤ q2 ∧ q2 < q5 ∧
      w'.heap[q2]? = some (.cells (headV (l, n0, k, p)).toArray 94 (0, 0)) ∧ w'.heap[q5]? = some (.cells #[.slice A' (2 + n) c'] 29 (0, 0)) ∧ w'.ownsRow (q2 + 1) 5 1 (.slice A' (2 + n) c') (2 + n) (u8s (recRow r)) ∧ Oct.Sl A' (2 + n) c' := by
  have Q1 : Hid ((w.alloc (.cells #[.int .u64 (l : Int), .int .u64 (n0 : Int), .int .u16 (k : Int), .int .u16 (p : Int)] 94)).heap[w.heap.size]? = some (.cells (headV (l, n0, k, p)).toArray 94 (0, 0))) := Lib.hid (heap_alloc_new w _)
  have B1 : Hid (Below w.heap.size w (w.alloc (.cells #[.int .u64 (l : Int), .int .u64 (n0 : Int), .int .u16 (k : Int), .int .u16 (p : Int)] 94))) := Lib.hid ((Below.refl _ _).alloc (Nat.le_refl _) _)
  have HL : Hid (r.length = n) := Lib.hid hr.1
  have HR := Lib.hid hr
  have HS := Lib.hid hs
  have HZ : Hid (w.heap.size + 1 ≤ (w.alloc (.cells #[.int .u64 (l : Int), .int .u64 (n0 : Int), .int .u16 (k : Int), .int .u16 (p : Int)] 94)).heap.size) := Lib.hid (by simp)
  generalize hw1 : w.alloc (.cells #[.int .u64 (l : Int), .int .u64 (n0 : Int), .int .u16 (k : Int), .int .u16 (p : Int)] 94) = w1 at Q1 B1 HZ
  have HW1 := Lib.hid hw1
  have hsc := hs.2
  clear hw1 hr hs
  go_enter Try.func51, Try.ntmps51
  go_wp2_with fail
  rw [HW1.out]
  clear HW1
  refine (Oct.half_any none 0 0 [] n w1 ⟨rfl, fun h => absurd h (by omega)⟩ (by omega)).mono ?_
  rintro E w2 ⟨g2, c2, rfl, ho2, hb2⟩
  simp only [Nat.zero_add, List.nil_append] at ho2 ⊢
  have O2 : Hid (w2.ownsRow (w.heap.size + 1) 5 1 (.slice (some ⟨g2, 0, none⟩) 2 c2) 2 (u8s (Oct.be 2 n))) := Lib.hid (own_base ho2 HZ.out)
  have B2 : Hid (Below w.heap.size w w2) := Lib.hid (B1.out.trans (hb2.mono B1.out.size))
  have Q2 : Hid (w2.heap[w.heap.size]? = some (.cells (headV (l, n0, k, p)).toArray 94 (0, 0))) := Lib.hid ((hb2.block _ (Array.getElem?_eq_some_iff.1 Q1.out).1).trans Q1.out)
  have R2 := Lib.hid (HR.out.below B2.out)
  have HZ2 : Hid (w.heap.size + 1 ≤ w2.heap.size) := Lib.hid (Nat.le_trans HZ.out hb2.size)
  clear ho2 hb2 Q1 B1 HZ HR
  go_wp2_with (first
    | (at_builtin; go_must (refine wpList_append_oct rfl (.tmp 9) (.tmp 10) rfl (w.heap.size + 1) 2 n c (.slice (some ⟨g2, 0, none⟩) 2 c2) A (Oct.be 2 n) r rfl rfl O2.out R2.out HS.out HZ2.out (by omega) ?_); intro A3 c3 w3 h3 hg3)
    | fail)
  have B3 : Hid (Below w.heap.size w w3) := Lib.hid (B2.out.grown hg3.out B2.out.size (fun g e => by have := (own_lt O2.out g e).1; omega))
  have Q3 : Hid (w3.heap[w.heap.size]? = some (.cells (headV (l, n0, k, p)).toArray 94 (0, 0))) := Lib.hid ((hg3.out.block _ (by have := HZ2.out; omega) (fun e => by have := (own_lt O2.out _ e.symm).1; omega)).trans Q2.out)
  have HZ3 : Hid (w.heap.size < w3.heap.size) := Lib.hid (Array.getElem?_eq_some_iff.1 Q3.out).1
  have hrr : Oct.be 2 n ++ r = recRow r := by rw [recRow, HL.out]
  go_ret
  refine ⟨w.heap.size, w3.heap.size, A3, c3, rfl, B3.out.alloc B3.out.size _, Nat.le_refl _, HZ3.out, (heap_alloc_old w3 _ HZ3.out).trans Q3.out, heap_alloc_new w3 _, ?_, h3.out.2⟩
  rw [← hrr]
  exact h3.out.1.alloc _
end Go.Proofs.Ytfegffdhlkhjbaa
