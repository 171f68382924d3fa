/-
  What is proved: the walk of TagSame for whatever comes in. Conditions as stated.
-/
import Derived.Test.YtfmmldpemdodkaaDoorWa
import Derived.Deep.Cut
namespace Go.Proofs.YtfmmldpemdodkaaDoor
open Go.RowKit

theorem there_setc {w : World} {g g' n k : Nat} {v : Value} (h : w.there g 0 n) : (w.setCell ⟨g', k, none⟩ v).there g 0 n := there_set h k v

theorem getD_set_self {A : Type} (l : List A) (j : Nat) (x z : A) (h : j < l.length) : (l.set j x).getD j z = x := by simp [List.getD_eq_getElem?_getD, h]

/-- A load of an array under a guard that lets it be made. -/
theorem wpList_load_midG {P : Program} {ops : Array Oper} {rest : List Oper} {op : Oper} {a : Act} {w : World} {Q : Exit → Act → World → Prop} (hw : Region.wanted op (yielded ops a.tmps) = true) (ty : TypeId) (x : Operand) (ho : op.op = .load ty x)
    (b o : Nat) (hx : a.eval x = .pointer (some ⟨b, o, none⟩)) (cs : List Value) (d : TypeDesc) (hc : w.rangeAt b o cs)
    (hu : P.underlying ty = some d) (hd : d.isRow = true) (hi : (P.info? ty).map (·.size) = some cs.length)
    (h : wpList P ops Q rest (a.put op.dst (.agg cs.toArray)) w) : wpList P ops Q (op :: rest) a w :=
  wpList_step fun K hK => by
    rw [if_pos hw]
    exact wp_load_mid ty x ho b o hx cs d hc hu hd hi (hK _ _ h)

/-- Two arrays of the call's own lie there. -/
def BothAt (l l' : List UInt8) (g g' : Nat) (w wr : World) : Prop := Below w.heap.size w wr ∧ wr.rangeAt g 0 (u8s l) ∧ wr.rangeAt g' 0 (u8s l') ∧ g < wr.heap.size ∧ g' < wr.heap.size
theorem BothAt.next {l l' : List UInt8} {g g' : Nat} {w wr w' : World} (H : BothAt l l' g g' w wr) (hb : Below wr.heap.size wr w') : BothAt l l' g g' w w' :=
  ⟨H.1.trans (hb.mono H.1.size), rangeAt_below H.2.1 hb H.2.2.2.1, rangeAt_below H.2.2.1 hb H.2.2.2.2, Nat.lt_of_lt_of_le H.2.2.2.1 hb.size, Nat.lt_of_lt_of_le H.2.2.2.2 hb.size⟩

set_option maxHeartbeats 1000000 in
theorem tagSame_by (l l' : List UInt8) (t x : UInt8) (sb : Bool) (w : World) (hl : l.length = 32) (hl' : l' = l.set (t.toNat % 32) (l.getD (t.toNat % 32) 0 ^^^ x)) (hsb : (((x.toNat : Int)) == 0) = sb) (hW : Works) (hk : KIs w) (h0 : 0 < w.heap.size)
    (S1 : ∀ w : World, Calls Tryd.prog 17 #[.agg (u8s l).toArray, .agg (u8s l').toArray] w fun E w' => E = .returned (.bool sb) ∧ Below w.heap.size w w')
    (S2 : ∀ w : World, Calls Tryd.prog 17 #[.agg (u8s l').toArray, .agg (u8s l).toArray] w fun E w' => E = .returned (.bool sb) ∧ Below w.heap.size w w')
    (S3 : ∀ w : World, Calls Tryd.prog 17 #[.agg (u8s l).toArray, .agg (u8s l).toArray] w fun E w' => E = .returned (.bool true) ∧ Below w.heap.size w w') :
    Calls Tryd.prog 4 #[.agg (u8s l).toArray, .int .u8 (t.toNat : Int), .int .u8 (x.toNat : Int)] w fun E w' => E = .returned (.bool true) ∧ Below w.heap.size w w' := by
  have HK := Lib.hid hk
  have HW := Lib.hid hW
  have HL := Lib.hid hl
  have HL' := Lib.hid hl'
  have SA := Lib.hid S1
  have SB := Lib.hid S2
  have SC := Lib.hid S3
  have HSB := Lib.hid hsb
  have HIL : Hid ((Tryd.prog.info? 25).map (·.size) = some (u8s l).length) := Lib.hid (by rw [u8s_length, hl]; exact Tryd.size25)
  have HIL' : Hid ((Tryd.prog.info? 25).map (·.size) = some (u8s l').length) := Lib.hid (by rw [u8s_length, hl', List.length_set, hl]; exact Tryd.size25)
  clear hk hW hl hl' S1 S2 S3 hsb
  have ht := t.toNat_lt
  have hi : t.toNat % 32 < 32 := Nat.mod_lt _ (by omega)
  go_enter Tryd.func4, Tryd.ntmps4
  go_upto_region 2 with (first
    | ((with_reducible refine wpList_load_mid ?_ 25 (.tmp 3) ?_ w.heap.size 0 ?_ (u8s l) _ ?_ Tryd.underlying25 ?_ ?_ ?_); (· rfl); (· rfl); (· rfl); (· exact range_new w (u8s l) _); (· rfl); (· exact HIL.out))
    | ((with_reducible refine wpList_store_fresh ?_ 25 (.tmp 7) (.tmp 8) ?_ (u8s l) ?_ ?_ ?_ ?_ ?_ ?_); (· rfl); (· rfl); (· (show Value.pointer (some ⟨w.heap.size + 1, 0, none⟩) = _; simp)); (· rfl); (· rw [u8s_length, HL.out]; rfl); (· exact HIL.out); (· exact u8s_one _); intro w2 H2))
  have hc := rangeAt_u8 H2.out.2.1 (t.toNat % 32) (by rw [HL.out]; exact hi)
  have hf := there_cell H2.out.2.2.1 (t.toNat % 32) (by rw [u8s_length, HL.out]; exact hi)
  rw [show (w.alloc (.cells (u8s l).toArray 25)).heap.size = w.heap.size + 1 by simp] at hc hf
  generalize hy : l.getD (t.toNat % 32) 0 = y at hc
  go_upto_region 3 with (fail)
  have HB3 : Hid (BothAt l l' w.heap.size (w.heap.size + 1) w (w2.setCell ⟨w.heap.size + 1, t.toNat % 32, none⟩ (.int .u8 (bits .xor .u8 (y.toNat : Int) (x.toNat : Int))))) := Lib.hid (by
    have h1 := H2.out
    rw [show (w.alloc (.cells (u8s l).toArray 25)).heap.size = w.heap.size + 1 by simp] at h1
    have hr := rangeAt_set h1.2.1 (t.toNat % 32) (by rw [u8s_length, HL.out]; exact hi) (.int .u8 ((y ^^^ x).toNat : Int))
    rw [b8_xor]
    rw [u8s_set, ← hy, ← HL'.out, hy] at hr
    have hs : w2.heap.size = (w2.setCell ⟨w.heap.size + 1, t.toNat % 32, none⟩ (.int .u8 ((y ^^^ x).toNat : Int))).heap.size := by simp [World.setCell]
    refine ⟨(((Below.refl _ _).alloc (Nat.le_refl _) _).trans (h1.1.mono (by omega))).setCell (by simp) _, rangeAt_set_other (rangeAt_below (range_new w (u8s l) _) h1.1 (by omega)) (by omega) _ _, hr, ?_, ?_⟩
    · rw [← hs]; have := h1.2.2.2; omega
    · rw [← hs]; exact h1.2.2.2)
  generalize w2.setCell ⟨w.heap.size + 1, t.toNat % 32, none⟩ (.int .u8 (bits .xor .u8 (y.toNat : Int) (x.toNat : Int))) = w3 at HB3 ⊢
  clear hc hf hy H2 hi ht
  have hsb := HSB.out
  go_wp2_with (first
    | (go_at_call 17; (with_reducible refine (SA.out w3).mono ?_); rintro E w4 ⟨rfl, hb4⟩; have HB4 := Lib.hid (HB3.out.next hb4); clear hb4)
    | (go_at_call 17; (with_reducible refine (SB.out w4).mono ?_); rintro E w5 ⟨rfl, hb5⟩; have HB5 := Lib.hid (HB4.out.next hb5); clear hb5)
    | (go_at_call 17; (with_reducible refine (SC.out w5).mono ?_); rintro E w6 ⟨rfl, hb6⟩; have HB6 := Lib.hid (HB5.out.next hb6); clear hb6)
    | ((with_reducible refine wpList_load_midG ?_ 25 (.tmp 3) ?_ w.heap.size 0 ?_ (u8s l) _ ?_ Tryd.underlying25 ?_ ?_ ?_); (· rfl); (· rfl); (· rfl); (· first | exact HB5.out.2.1 | exact HB4.out.2.1 | exact HB3.out.2.1); (· rfl); (· exact HIL.out))
    | ((with_reducible refine wpList_load_midG ?_ 25 (.tmp 7) ?_ (w.heap.size + 1) 0 ?_ (u8s l') _ ?_ Tryd.underlying25 ?_ ?_ ?_); (· rfl); (· rfl); (· rfl); (· first | exact HB5.out.2.2.1 | exact HB4.out.2.2.1 | exact HB3.out.2.2.1); (· rfl); (· exact HIL'.out))
    | (go_at_call 8; refine (HW.out w6 (HK.out.below HB6.out.1 h0) (Nat.lt_of_lt_of_le h0 HB6.out.1.size)).mono ?_; rintro E w7 ⟨rfl, hb7⟩; have HB7 := Lib.hid (HB6.out.1.trans (hb7.mono HB6.out.1.size)); clear hb7)
    | ((with_reducible refine wpList_load_mid ?_ 25 (.tmp 3) ?_ w.heap.size 0 ?_ (u8s l) _ ?_ Tryd.underlying25 ?_ ?_ ?_); (· rfl); (· rfl); (· rfl); (· first | exact HB5.out.2.1 | exact HB4.out.2.1 | exact HB3.out.2.1); (· rfl); (· exact HIL.out))
    | ((with_reducible refine wpList_load_mid ?_ 25 (.tmp 7) ?_ (w.heap.size + 1) 0 ?_ (u8s l') _ ?_ Tryd.underlying25 ?_ ?_ ?_); (· rfl); (· rfl); (· rfl); (· first | exact HB5.out.2.2.1 | exact HB4.out.2.2.1 | exact HB3.out.2.2.1); (· rfl); (· exact HIL'.out)))
  go_ret
  exact ⟨rfl, HB7.out⟩

theorem tagSame_walk (l : List UInt8) (t x : UInt8) (w : World) (hl : l.length = 32) (hW : Works) (hk : KIs w) (h0 : 0 < w.heap.size) :
    Calls Tryd.prog 4 #[.agg (u8s l).toArray, .int .u8 (t.toNat : Int), .int .u8 (x.toNat : Int)] w fun E w' => E = .returned (.bool true) ∧ Below w.heap.size w w' := by
  have hi : t.toNat % 32 < l.length := by rw [hl]; exact Nat.mod_lt _ (by omega)
  by_cases hx : x = 0
  · subst hx
    have e : l.set (t.toNat % 32) (l.getD (t.toNat % 32) 0 ^^^ 0) = l := by
      rw [UInt8.xor_zero, List.getD_eq_getElem?_getD, List.getElem?_eq_getElem hi]
      exact List.set_getElem_self hi
    exact tagSame_by l l t 0 true w hl e.symm rfl hW hk h0 (fun w => same_yes l w hl) (fun w => same_yes l w hl) (fun w => same_yes l w hl)
  · have hne : l ≠ l.set (t.toNat % 32) (l.getD (t.toNat % 32) 0 ^^^ x) := fun e => hx (by
      have : l.getD (t.toNat % 32) 0 = (l.set (t.toNat % 32) (l.getD (t.toNat % 32) 0 ^^^ x)).getD (t.toNat % 32) 0 := congrArg (fun m => m.getD (t.toNat % 32) 0) e
      rw [getD_set_self _ _ _ _ hi] at this
      have h2 := congrArg (fun z => l.getD (t.toNat % 32) 0 ^^^ z) this
      simp only [UInt8.xor_self, ← UInt8.xor_assoc, UInt8.zero_xor] at h2
      exact h2.symm)
    have hz : ((x.toNat : Int) == 0) = false := by
      rw [beq_eq_false_iff_ne]
      intro e
      exact hx (UInt8.toNat_inj.1 (by have : x.toNat = 0 := by omega
                                      exact this))
    have hl' : (l.set (t.toNat % 32) (l.getD (t.toNat % 32) 0 ^^^ x)).length = 32 := by rw [List.length_set, hl]
    exact tagSame_by l _ t x false w hl rfl hz hW hk h0 (fun w => same_no _ _ w hl hl' hne) (fun w => same_no _ _ w hl' hl (Ne.symm hne)) (fun w => same_yes l w hl)
end Go.Proofs.YtfmmldpemdodkaaDoor
