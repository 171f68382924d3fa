/-
  What is proved: the chapter's examples hold; what ShaNil answers. Conditions as stated.
-/
import Derived.Lib.SlBytesConst
import Derived.Great.BuildSlice
import Derived.Test.YtflbhicjaaeegaaDoorN
namespace Go.Proofs.YtflbhicjaaeegaaDoor
open Go.RowKit

/-- Sum of bytes that lie at the head of a block. -/
theorem sum_lit (bs : List UInt8) (g : Nat) (w : World) (hg : g < w.heap.size) (h : w.rangeAt g 0 (u8s bs)) (hL : bs.length < 1000000) (hk : KIs w) (h0 : 0 < w.heap.size) :
    Calls Tryd.prog 12 #[.slice (some ⟨g, 0, none⟩) bs.length bs.length] w fun E w' => E = .returned (.agg (u8s (sumOf bs)).toArray) ∧ Below w.heap.size w w' :=
  sum_any bs _ _ w (Rd.of_range h hg trivial (fun _ _ h => h) rfl) ⟨fun e => (by cases e), Nat.le_refl _, by omega⟩ (by omega) hk h0
theorem sum_none (w : World) (hk : KIs w) (h0 : 0 < w.heap.size) :
    Calls Tryd.prog 12 #[.slice none 0 0] w fun E w' => E = .returned (.agg (u8s (sumOf [])).toArray) ∧ Below w.heap.size w w' :=
  sum_any [] none 0 w (Rd.nil _ _ _) ⟨fun _ => ⟨rfl, rfl⟩, Nat.le_refl _, by omega⟩ (by simp) hk h0

theorem range_mark (w : World) (cs : List Value) (t : TypeId) (fr : Nat × Nat) : (w.alloc (.cells cs.toArray t fr)).rangeAt w.heap.size 0 cs := fun j v hv => by
  rw [Nat.zero_add, cell_of_row _ _ j cs.toArray t fr (heap_alloc_new w _)]
  simpa using hv

theorem Tryd.zero5 : ((Tryd.prog.info? 5).bind (·.zero)).isSome = true := by kernel_rfl

/-- A text's bytes that were just laid. -/
theorem wpList_text {ops : Array Oper} {rest : List Oper} {op : Oper} {a : Act} {w : World} {Q : Exit → Act → World → Prop} (hgd : op.guard = none) (x : Operand) (ho : op.op = .convert 28 28 x)
    (bs : List UInt8) (C : Array Value) (n : Nat) (hC : C = (u8s bs).toArray) (hx : a.eval x = .slice (some ⟨w.heap.size, 0, none⟩) n n)
    (h : ∀ w2, Hid (Below w.heap.size w w2 ∧ w2.rangeAt w.heap.size 0 (u8s bs) ∧ w.heap.size < w2.heap.size) → wpList Tryd.prog ops Q rest (a.put op.dst (.slice (some ⟨w.heap.size, 0, none⟩) n n)) w2) : wpList Tryd.prog ops Q (op :: rest) a (w.alloc (.cells C 5)) := by
  subst hC
  have hrun := Lib.run_convert_bytes_const (P := Tryd.prog) w 28 5 (u8s bs).toArray n n Tryd.underlying28 Tryd.underlying5
  refine wpList_plain hgd fun K hK => ?_
  unfold Oper.wp execOp
  simp only [ho, hx, Sem.run_bind, Sem.run_pure, Result.andThen_ok, hrun]
  exact hK _ _ (h _ (Lib.hid ⟨(Below.refl _ _).alloc (Nat.le_refl _) _, range_mark w _ _ _, by simp⟩))

set_option maxHeartbeats 400000 in
theorem works_by (z0 z1 z2 : Int) (e0 : (z0 == 16406829232276289621) = true) (e1 : (z1 == 13436514501914531245) = true) (e2 : (z2 == 2633878322359764673) = true) (d0 d1 d2 : List UInt8) (hs : List UInt32) (w : World) (hk : KIs w) (h0 : 0 < w.heap.size) (hh : hs.length = 8)
    (s0 : ∀ w : World, KIs w → 0 < w.heap.size → Calls Tryd.prog 12 #[.slice none 0 0] w fun E w' => E = .returned (.agg (u8s d0).toArray) ∧ Below w.heap.size w w')
    (s1 : ∀ (g : Nat) (w : World), g < w.heap.size → w.rangeAt g 0 (u8s txtAbc) → KIs w → 0 < w.heap.size → Calls Tryd.prog 12 #[.slice (some ⟨g, 0, none⟩) 3 3] w fun E w' => E = .returned (.agg (u8s d1).toArray) ∧ Below w.heap.size w w')
    (s2 : ∀ (g : Nat) (w : World), g < w.heap.size → w.rangeAt g 0 (u8s txtLong) → KIs w → 0 < w.heap.size → Calls Tryd.prog 12 #[.slice (some ⟨g, 0, none⟩) 56 56] w fun E w' => E = .returned (.agg (u8s d2).toArray) ∧ Below w.heap.size w w')
    (f0 : ∀ w : World, Calls Tryd.prog 23 #[.agg (u8s d0).toArray] w fun E w' => E = .returned (.int .u64 z0) ∧ Below w.heap.size w w')
    (f1 : ∀ w : World, Calls Tryd.prog 23 #[.agg (u8s d1).toArray] w fun E w' => E = .returned (.int .u64 z1) ∧ Below w.heap.size w w')
    (f2 : ∀ w : World, Calls Tryd.prog 23 #[.agg (u8s d2).toArray] w fun E w' => E = .returned (.int .u64 z2) ∧ Below w.heap.size w w')
    (b1 : ∀ w : World, Calls Tryd.prog 24 #[] w fun E w' => E = .returned (.agg (u32s hs).toArray) ∧ Below w.heap.size w w')
    (b2 : ∀ w : World, Calls Tryd.prog 25 #[] w fun E w' => E = .returned (.agg (u32s hs).toArray) ∧ Below w.heap.size w w') :
    Calls Tryd.prog 11 #[] w fun E w' => E = .returned (.bool true) ∧ Below w.heap.size w w' := by
  have HK := Lib.hid hk
  have S0 := Lib.hid s0
  have S1 := Lib.hid s1
  have S2 := Lib.hid s2
  have F0 := Lib.hid f0
  have F1 := Lib.hid f1
  have F2 := Lib.hid f2
  have B1 := Lib.hid b1
  have B2 := Lib.hid b2
  have heq := eq_nums hs hh
  have hgd := Tryd.guard23
  clear s0 s1 s2 f0 f1 f2 b1 b2 hk
  go_enter Tryd.func11, Tryd.ntmps11
  have hcv := fun (w : World) (C : Array Value) (n c : Nat) => Lib.run_convert_bytes_const (P := Tryd.prog) w 28 5 C n c Tryd.underlying28 Tryd.underlying5
  go_wp2_with (first
    | (refine wpList_buildFlat rfl 28 5 56 _ rfl .u8 (txtLong.map fun b => (b.toNat : Int)) Tryd.underlying28 Tryd.size5 Tryd.zero5 rfl (by decide) (by decide) (by kernel_rfl) ?_)
    | (refine wpList_text rfl (.tmp 2) rfl txtLong _ 56 rfl rfl ?_; intro w0 HB0)
    | (go_at_call_of 12 (Value.slice none 0 0); refine (S0.out w0 (HK.out.below HB0.out.1 h0) (by have := HB0.out.2.2; omega)).mono ?_; rintro E w1 ⟨rfl, hb1⟩; have HB1 : Hid (Below w.heap.size w w1 ∧ w1.rangeAt w.heap.size 0 (u8s txtLong) ∧ w.heap.size < w1.heap.size) := Lib.hid ⟨HB0.out.1.trans (hb1.mono HB0.out.1.size), rangeAt_below HB0.out.2.1 hb1 HB0.out.2.2, Nat.lt_of_lt_of_le HB0.out.2.2 hb1.size⟩; clear hb1)
    | (go_at_call_of 23 (Value.agg (u8s d0).toArray); refine (F0.out w1).mono ?_; rintro E w2 ⟨rfl, hb2⟩; have HB2 : Hid (Below w.heap.size w w2 ∧ w2.rangeAt w.heap.size 0 (u8s txtLong) ∧ w.heap.size < w2.heap.size) := Lib.hid ⟨HB1.out.1.trans (hb2.mono HB1.out.1.size), rangeAt_below HB1.out.2.1 hb2 HB1.out.2.2, Nat.lt_of_lt_of_le HB1.out.2.2 hb2.size⟩; clear hb2)
    | (go_at_call_of 12 (Value.slice (some ⟨w2.heap.size, 0, none⟩) 3 3); refine (S1.out w2.heap.size _ (by simp) (range_mark w2 (u8s txtAbc) 5 (3, 4)) (HK.out.below (HB2.out.1.alloc HB2.out.1.size _) h0) (by simp)).mono ?_; rintro E w3 ⟨rfl, hc3⟩; have hb3 : Below w2.heap.size w2 w3 := ((Below.refl _ _).alloc (Nat.le_refl _) _).trans (hc3.mono (by simp)); clear hc3; have HB3 : Hid (Below w.heap.size w w3 ∧ w3.rangeAt w.heap.size 0 (u8s txtLong) ∧ w.heap.size < w3.heap.size) := Lib.hid ⟨HB2.out.1.trans (hb3.mono HB2.out.1.size), rangeAt_below HB2.out.2.1 hb3 HB2.out.2.2, Nat.lt_of_lt_of_le HB2.out.2.2 hb3.size⟩; clear hb3)
    | (go_at_call_of 23 (Value.agg (u8s d1).toArray); refine (F1.out w3).mono ?_; rintro E w4 ⟨rfl, hb4⟩; have HB4 : Hid (Below w.heap.size w w4 ∧ w4.rangeAt w.heap.size 0 (u8s txtLong) ∧ w.heap.size < w4.heap.size) := Lib.hid ⟨HB3.out.1.trans (hb4.mono HB3.out.1.size), rangeAt_below HB3.out.2.1 hb4 HB3.out.2.2, Nat.lt_of_lt_of_le HB3.out.2.2 hb4.size⟩; clear hb4)
    | (go_at_call_of 12 (Value.slice (some ⟨w.heap.size, 0, none⟩) 56 56); refine (S2.out w.heap.size w4 HB4.out.2.2 HB4.out.2.1 (HK.out.below HB4.out.1 h0) (by have := HB4.out.2.2; omega)).mono ?_; rintro E w5 ⟨rfl, hb5⟩; have HB5 : Hid (Below w.heap.size w w5 ∧ w5.rangeAt w.heap.size 0 (u8s txtLong) ∧ w.heap.size < w5.heap.size) := Lib.hid ⟨HB4.out.1.trans (hb5.mono HB4.out.1.size), rangeAt_below HB4.out.2.1 hb5 HB4.out.2.2, Nat.lt_of_lt_of_le HB4.out.2.2 hb5.size⟩; clear hb5)
    | (go_at_call_of 23 (Value.agg (u8s d2).toArray); refine (F2.out w5).mono ?_; rintro E w6 ⟨rfl, hb6⟩; have HB6 : Hid (Below w.heap.size w w6 ∧ w6.rangeAt w.heap.size 0 (u8s txtLong) ∧ w.heap.size < w6.heap.size) := Lib.hid ⟨HB5.out.1.trans (hb6.mono HB5.out.1.size), rangeAt_below HB5.out.2.1 hb6 HB5.out.2.2, Nat.lt_of_lt_of_le HB5.out.2.2 hb6.size⟩; clear hb6)
    | (go_at_call 24; refine (B1.out w6).mono ?_; rintro E w7 ⟨rfl, hb7⟩; have HB7 : Hid (Below w.heap.size w w7 ∧ w7.rangeAt w.heap.size 0 (u8s txtLong) ∧ w.heap.size < w7.heap.size) := Lib.hid ⟨HB6.out.1.trans (hb7.mono HB6.out.1.size), rangeAt_below HB6.out.2.1 hb7 HB6.out.2.2, Nat.lt_of_lt_of_le HB6.out.2.2 hb7.size⟩; clear hb7)
    | (go_at_call 25; refine (B2.out w7).mono ?_; rintro E w8 ⟨rfl, hb8⟩; have HB8 : Hid (Below w.heap.size w w8 ∧ w8.rangeAt w.heap.size 0 (u8s txtLong) ∧ w.heap.size < w8.heap.size) := Lib.hid ⟨HB7.out.1.trans (hb8.mono HB7.out.1.size), rangeAt_below HB7.out.2.1 hb8 HB7.out.2.2, Nat.lt_of_lt_of_le HB7.out.2.2 hb8.size⟩; clear hb8))
  go_ret
  exact ⟨rfl, HB8.out.1⟩

theorem works_any : Works := fun w hk h0 =>
  works_by 16406829232276289621 13436514501914531245 2633878322359764673 (beq_self_eq_true _) (beq_self_eq_true _) (beq_self_eq_true _) (sumOf []) (sumOf txtAbc) (sumOf txtLong) H0 w hk h0 rfl
    sum_none (fun g w hg hr hk h0 => sum_lit txtAbc g w hg hr (by decide) hk h0) (fun g w hg hr hk h0 => sum_lit txtLong g w hg hr (by decide) hk h0)
    (fun w => by have := first_any (sumOf []) w (sumOf_length _); rw [first_nil] at this; exact this)
    (fun w => by have := first_any (sumOf txtAbc) w (sumOf_length _); rw [first_abc] at this; exact this)
    (fun w => by have := first_any (sumOf txtLong) w (sumOf_length _); rw [first_long] at this; exact this)
    start_any startRef_any
end Go.Proofs.YtflbhicjaaeegaaDoor
