/-
  What is proved: what Get reads of any bytes. Conditions as stated.
-/
import Derived.Test.YtghjogneogkpoaaGreatDoorGdc
namespace Go.Proofs.YtghjogneogkpoaaGreatDoor.Sh
open Go.RowKit
set_option maxRecDepth 100000


theorem same_at (k x : Nat) : Instr.sameNow (.int .u8) (.int .u8 (k : Int)) (.int .u8 (x : Int)) = some (decide (k = x)) := by
  have : (((k : Int) == (x : Int)) : Bool) = decide (k = x) := by rw [Bool.eq_iff_iff, beq_iff_eq, decide_eq_true_iff]; omega
  simp [Instr.sameNow]
  exact this
theorem find_none (k : Nat) (h1 : k ≠ 1) (h2 : k ≠ 2) (h3 : k ≠ 3) (h4 : k ≠ 4) (h5 : k ≠ 5) (h6 : k ≠ 6) : Instr.findNow (.int .u8) (.int .u8 (k : Int)) rdE.toList 0 = some none := by
  have e := same_at k
  simp only [rdE, Instr.findNow]
  rw [show (Value.int .u8 1) = .int .u8 ((1 : Nat) : Int) from rfl, show (Value.int .u8 2) = .int .u8 ((2 : Nat) : Int) from rfl, show (Value.int .u8 3) = .int .u8 ((3 : Nat) : Int) from rfl, show (Value.int .u8 4) = .int .u8 ((4 : Nat) : Int) from rfl, show (Value.int .u8 5) = .int .u8 ((5 : Nat) : Int) from rfl, show (Value.int .u8 6) = .int .u8 ((6 : Nat) : Int) from rfl]
  simp only [e, decide_eq_false h1, decide_eq_false h2, decide_eq_false h3, decide_eq_false h4, decide_eq_false h5, decide_eq_false h6]
/-- The body of a Kind. -/
def rdBody (k : Nat) (s : Cst) : MBody × Cst :=
  if k = 1 then rdPrepare s else if k = 2 then rdCommit s else if k = 3 ∨ k = 5 then rdView s else if k = 4 then rdNewView s else if k = 6 then rdCheck s else (zeroBody, s)
/-- What is tagged of a message. -/
def rdMsg (s : Cst) : MMsg × Cst :=
  let a := cByte s; let l := cDeps 11 a.2; let k := cByte l.2; let b := rdBody k.1 k.2
  ({ depM (a.1 : Int) l.1 with body := { b.1 with kind := UInt8.ofNat k.1 } }, b.2)
/-- With pairs that lie at A. -/
def wq (M : MMsg) (A : Option Addr) (c : Nat) : MMsg := { M with body := { M.body with qa := A, qc := c } }
theorem cutTagged_ms {w : World} {lo g : Nat} {s : Cst} (h : CtS w lo g s) :
    Calls Tryz.prog 45 #[.pointer (some ⟨g, 0, none⟩)] w fun E w' => ∃ A c, E = .returned (.agg (msgC (wq (rdMsg s).1 A c)).toArray) ∧ QOw w.heap.size w' A c (rdMsg s).1.body.qs ∧ CtS w' lo g (rdMsg s).2 ∧ Hid (w.grownBy w' (some g)) := by
  have key : ∀ (rd : Cst → MBody × Cst), rdBody (cByte (cDeps 11 (cByte s).2).2).1 (cByte (cDeps 11 (cByte s).2).2).2 = rd (cByte (cDeps 11 (cByte s).2).2).2 →
      (Calls Tryz.prog 45 #[.pointer (some ⟨g, 0, none⟩)] w fun E w' => ∃ A7 c7, E = .returned (.agg (msgC ({ depM (((cByte s).1 : Nat) : Int) (cDeps 11 (cByte s).2).1 with body := { (rd (cByte (cDeps 11 (cByte s).2).2).2).1 with qa := A7, qc := c7, kind := UInt8.ofNat (cByte (cDeps 11 (cByte s).2).2).1 } })).toArray) ∧ QOw w.heap.size w' A7 c7 (rd (cByte (cDeps 11 (cByte s).2).2).2).1.qs ∧ CtS w' lo g (rd (cByte (cDeps 11 (cByte s).2).2).2).2 ∧ Hid (w.grownBy w' (some g))) →
      Calls Tryz.prog 45 #[.pointer (some ⟨g, 0, none⟩)] w fun E w' => ∃ A c, E = .returned (.agg (msgC (wq (rdMsg s).1 A c)).toArray) ∧ QOw w.heap.size w' A c (rdMsg s).1.body.qs ∧ CtS w' lo g (rdMsg s).2 ∧ Hid (w.grownBy w' (some g)) := fun rd he hc => by
    have e1 : (rdMsg s).1 = { depM (((cByte s).1 : Nat) : Int) (cDeps 11 (cByte s).2).1 with body := { (rd (cByte (cDeps 11 (cByte s).2).2).2).1 with kind := UInt8.ofNat (cByte (cDeps 11 (cByte s).2).2).1 } } := by rw [← he]; rfl
    have e2 : (rdMsg s).2 = (rd (cByte (cDeps 11 (cByte s).2).2).2).2 := by rw [← he]; rfl
    rw [e1, e2]
    exact hc
  have rf : ∀ {k n : Nat} {i f : Nat}, k = n → Instr.findNow (.int .u8) (.int .u8 (n : Int)) rdE.toList 0 = some (some (i, .func (.func f) #[] #[])) → Instr.findNow (.int .u8) (.int .u8 (k : Int)) rdE.toList 0 = some (some (i, .func (.func f) #[] #[])) := fun e h => by rw [e]; exact h
  by_cases h1 : (cByte (cDeps 11 (cByte s).2).2).1 = 1
  · exact key rdPrepare (by simp [rdBody, h1]) (cutTaggedG_102 _ _ 0 _ _ _ _ h rfl rfl rfl (rf h1 (by kernel_rfl)) rdPrepare cutPrepare_ms ⟨cTag_len _, rfl⟩)
  by_cases h2 : (cByte (cDeps 11 (cByte s).2).2).1 = 2
  · exact key rdCommit (by simp [rdBody, h2]) (cutTaggedG_103 _ _ 1 _ _ _ _ h rfl rfl rfl (rf h2 (by kernel_rfl)) rdCommit cutCommit_g ⟨rfl, rfl⟩)
  by_cases h3 : (cByte (cDeps 11 (cByte s).2).2).1 = 3
  · exact key rdView (by simp [rdBody, h3]) (cutTaggedG_104 _ _ 2 _ _ _ _ h rfl rfl rfl (rf h3 (by kernel_rfl)) rdView cutView_g ⟨rfl, rfl⟩)
  by_cases h4 : (cByte (cDeps 11 (cByte s).2).2).1 = 4
  · exact key rdNewView (by simp [rdBody, h4]) (cutTaggedG_105 _ _ 3 _ _ _ _ h rfl rfl rfl (rf h4 (by kernel_rfl)) rdNewView cutNewView_ms ⟨rfl, rfl⟩)
  by_cases h5 : (cByte (cDeps 11 (cByte s).2).2).1 = 5
  · exact key rdView (by simp [rdBody, h5]) (cutTaggedG_104 _ _ 4 _ _ _ _ h rfl rfl rfl (rf h5 (by kernel_rfl)) rdView cutView_g ⟨rfl, rfl⟩)
  by_cases h6 : (cByte (cDeps 11 (cByte s).2).2).1 = 6
  · exact key rdCheck (by simp [rdBody, h6]) (cutTaggedG_106 _ _ 5 _ _ _ _ h rfl rfl rfl (rf h6 (by kernel_rfl)) rdCheck cutCheck_ms ⟨rfl, cTag_len _⟩)
  · refine key (fun s => (zeroBody, s)) (by simp [rdBody, h1, h2, h3, h4, h5, h6]) ?_
    exact (cutTagged_x _ _ _ _ _ _ h rfl rfl rfl (find_none _ h1 h2 h3 h4 h5 h6)).mono fun _ _ ⟨he, h7, h8⟩ => ⟨none, 0, he, QOw.nil _ _, h7, h8⟩
theorem wholeM_wf {m : MMsg} (h : m.Wf) (s : Cst) : (wholeM m s).1.Wf := by
  unfold wholeM
  split
  · exact h
  · exact zeroM_wf
set_option maxHeartbeats 8000000 in
theorem get_gen (A : Option Addr) (N c : Nat) (bs : List UInt8) (w : World) (n : Nat) (M : MMsg) (t : List UInt8) (s1 s2 s3 : Cst) (hr : Oct.Rd w A N bs) (hs : Oct.Sl A N c) (hN : N ≤ 140737488355328)
    (e1 : cWord (bs, false) = (n, s1)) (e3 : cTag s2 = (t, s3)) (hM : M.Wf)
    (hct : ∀ (W : World) (lo g : Nat), CtS W lo g s1 → Calls Tryz.prog 45 #[.pointer (some ⟨g, 0, none⟩)] W fun E w' => ∃ A7 c7, E = .returned (.agg (msgC (wq M A7 c7)).toArray) ∧ QOw W.heap.size w' A7 c7 M.body.qs ∧ CtS w' lo g s2 ∧ Hid (W.grownBy w' (some g)))
    (hwh : ∀ (A7 : Option Addr) (c7 : Nat) (W : World) (lo g : Nat), CtS W lo g s3 → ∀ {B : Nat}, QOw B W A7 c7 M.body.qs → Calls Tryz.prog 47 #[.agg (msgC (gotM n (wq M A7 c7) t)).toArray, .pointer (some ⟨g, 0, none⟩)] W fun E w' => E = .returned (.tuple #[.agg (msgC (wholeM (gotM n (wq M A7 c7) t) s3).1).toArray, .int .i64 (wholeM (gotM n (wq M A7 c7) t) s3).2]) ∧ Hid (Below W.heap.size W w')) :
    Calls Tryz.prog 21 #[.slice A N c] w fun E w' => ∃ A7 c7, E = .returned (.tuple #[.agg (msgC (wholeM (gotM n (wq M A7 c7) t) s3).1).toArray, .int .i64 (wholeM (gotM n (wq M A7 c7) t) s3).2]) ∧ QOw w.heap.size w' A7 c7 M.body.qs ∧ Hid (Below w.heap.size w w') := by
  have ht : t.length = 32 := by have := cTag_len s2; rw [e3] at this; exact this
  have hzw : zeroMsg.Wf := ⟨rfl, zero_wf, rfl⟩
  have hzl : (msgC zeroMsg).length = 121 := msgC_length hzw
  have hzm : ∀ w, (zeroValue 34).run Tryz.prog w = .ok (.agg (msgC zeroMsg).toArray) w := zero_msg
  have ok : ∀ X : MMsg, X.Wf → 0 + (msgC X).length ≤ (msgC zeroMsg).length ∧ setAll (msgC zeroMsg) 0 (msgC X) = msgC X ∧ (Tryz.prog.info? 34).map (·.size) = some (msgC X).length := fun X hX =>
    ⟨by rw [msgC_length hX]; omega, setAll_all (hzl.trans (msgC_length hX).symm), by rw [msgC_length hX]; exact Tryz.is34⟩
  have HM := Lib.hid (fun A7 c7 => ok (wq M A7 c7) hM)
  have hgm : ∀ A7 c7, (gotM n (wq M A7 c7) t).Wf := fun _ _ => ⟨hM.1, hM.2.1, ht⟩
  have HR := Lib.hid (fun A7 c7 => ok (wholeM (gotM n (wq M A7 c7) t) s3).1 (wholeM_wf (hgm A7 c7) s3))
  have HG' := Lib.hid (fun A7 c7 => (ok (gotM n (wq M A7 c7) t) (hgm A7 c7)).2.2)
  have HJ : Hid ((Tryz.prog.info? 27).map (·.size) = some (u8s t).length) := Lib.hid (by rw [u8s_length, ht]; exact Tryz.size27)
  have HS1 : Hid (∀ A7 c7, (msgC (wq M A7 c7)).set 1 (.int .u64 (n : Int)) = msgC { wq M A7 c7 with number := n } ∧ (msgC (wq M A7 c7))[1]? = some (.int .u64 ((wq M A7 c7).number : Int))) := Lib.hid fun _ _ => ⟨rfl, rfl⟩
  have HS2 : Hid (∀ A7 c7, 89 + (u8s t).length ≤ (msgC { wq M A7 c7 with number := n }).length ∧ setAll (msgC { wq M A7 c7 with number := n }) 89 (u8s t) = msgC (gotM n (wq M A7 c7) t)) := Lib.hid fun A7 c7 => ⟨by rw [u8s_length, ht, msgC_length (m := { wq M A7 c7 with number := n }) hM]; omega, set_tag { wq M A7 c7 with number := n } t hM ht⟩
  have HCT := Lib.hid hct
  have HWH : Hid (∀ (A7 : Option Addr) (c7 : Nat) (W : World) (lo g : Nat), CtS W lo g s3 → ∀ {B : Nat}, QOw B W A7 c7 M.body.qs → Calls Tryz.prog 47 #[.agg (msgC (gotM n (wq M A7 c7) t)).toArray, .pointer (some ⟨g, 0, none⟩)] W fun E w' => E = .returned (.tuple #[.agg (msgC (wholeM (gotM n (wq M A7 c7) t) s3).1).toArray, .int .i64 (wholeM (gotM n (wq M A7 c7) t) s3).2]) ∧ Hid (Below W.heap.size W w')) := Lib.hid hwh
  have HZ0 : Hid ((w.alloc (.cells (msgC zeroMsg).toArray 34)).heap[w.heap.size]? = some (.cells (msgC zeroMsg).toArray 34 (0, 0))) := Lib.hid (heap_alloc_new w _)
  have HNW := Lib.hid (Oct.new_any A N c bs (w.alloc (.cells (msgC zeroMsg).toArray 34)) (hr.below ((Below.refl _ _).alloc (Nat.le_refl _) _)) hs hN)
  have HWD : Hid (∀ (W : World) (lo g : Nat), CtS W lo g (bs, false) → Calls Tryz.prog 44 #[.pointer (some ⟨g, 0, none⟩)] W fun E w' => E = .returned (.int .u64 (n : Int)) ∧ CtS w' lo g s1 ∧ Hid (W.grownBy w' (some g))) := Lib.hid fun W lo g h => by have := word_s h; rw [e1] at this; exact this
  have HTG : Hid (∀ (W : World) (lo g : Nat), CtS W lo g s2 → Calls Tryz.prog 46 #[.pointer (some ⟨g, 0, none⟩)] W fun E w' => E = .returned (.agg (u8s t).toArray) ∧ CtS w' lo g s3 ∧ Hid (W.grownBy w' (some g))) := Lib.hid fun W lo g h => by have := cutTag_ms h; rw [e3] at this; exact this
  clear hr hs e1 e3 hM hct hwh ht hzw hzl ok hgm
  go_enter Tryz.func21, Tryz.ntmps21
  go_wp2_with (first | (go_at_call 43; refine HNW.out.mono ?_; rintro E w1 ⟨g, rfl, hg, hc, hb⟩; have C1 : Hid (CtS w1 (w.alloc (.cells (msgC zeroMsg).toArray 34)).heap.size g (bs, false)) := Lib.hid hc; have D1 : Hid (Below w.heap.size w w1 ∧ w1.heap[w.heap.size]? = some (.cells (msgC zeroMsg).toArray 34 (0, 0)) ∧ w.heap.size < g ∧ g < w1.heap.size) := Lib.hid ⟨((Below.refl _ _).alloc (Nat.le_refl _) _).trans (hb.mono (by simp)), (hb.block _ (by simp)).trans HZ0.out, Nat.lt_of_lt_of_le (by simp) hg, C1.out.lt⟩; clear hg hc hb) | (go_at_call 44; refine (HWD.out w1 _ g C1.out).mono ?_; rintro E w2 ⟨rfl, hc2, hg2⟩; have C2 := Lib.hid hc2; have D2 : Hid (Below w.heap.size w w2 ∧ w2.heap[w.heap.size]? = some (.cells (msgC zeroMsg).toArray 34 (0, 0)) ∧ w.heap.size < g ∧ g < w2.heap.size) := Lib.hid ⟨D1.out.1.grown hg2.out D1.out.1.size (fun k hk => by injection hk with hk; have := D1.out.2.2.1; omega), (hg2.out.block _ (by have := D1.out.2.2; omega) (fun e => by injection e with e; have := D1.out.2.2.1; omega)).trans D1.out.2.1, D1.out.2.2.1, Nat.lt_of_lt_of_le D1.out.2.2.2 hg2.out.size⟩; clear hc2 hg2) | (go_at_call 45; refine (HCT.out w2 _ g C2.out).mono ?_; rintro E w3 ⟨A7, c7, rfl, hq3, hc3, hg3⟩; have Q3 := Lib.hid hq3; clear hq3; have C3 := Lib.hid hc3; have D3 : Hid (Below w.heap.size w w3 ∧ w3.heap[w.heap.size]? = some (.cells (msgC zeroMsg).toArray 34 (0, 0)) ∧ w.heap.size < g ∧ g < w3.heap.size) := Lib.hid ⟨D2.out.1.grown hg3.out D2.out.1.size (fun k hk => by injection hk with hk; have := D2.out.2.2.1; omega), (hg3.out.block _ (by have := D2.out.2.2; omega) (fun e => by injection e with e; have := D2.out.2.2.1; omega)).trans D2.out.2.1, D2.out.2.2.1, Nat.lt_of_lt_of_le D2.out.2.2.2 hg3.out.size⟩; clear hc3 hg3; have HN3 : Hid ((w3.alloc (.cells (msgC zeroMsg).toArray 34)).heap[w3.heap.size]? = some (.cells (msgC zeroMsg).toArray 34 (0, 0))) := Lib.hid (heap_alloc_new w3 _)) | (refine wpList_store_part rfl 34 (.tmp 6) (.tmp 12) rfl w3.heap.size 0 (msgC zeroMsg) (msgC (wq M A7 c7)) (msgC (wq M A7 c7)) 34 HN3.out (HM.out A7 c7).1 (HM.out A7 c7).2.1 rfl rfl (HM.out A7 c7).2.2 (one_msgC _) ?_; intro w4 G4; have B4 : Hid (Below w3.heap.size w3 w4) := Lib.hid (((Below.refl _ _).alloc (Nat.le_refl _) _).grown G4.out.2 (by simp) (fun k hk => by injection hk with hk; omega)); have C4 := Lib.hid (C3.out.below B4.out); have D4 : Hid (Below w.heap.size w w4 ∧ w4.heap[w.heap.size]? = some (.cells (msgC zeroMsg).toArray 34 (0, 0)) ∧ w.heap.size < g ∧ g < w3.heap.size ∧ w3.heap.size < w4.heap.size) := Lib.hid ⟨D3.out.1.trans (B4.out.mono D3.out.1.size), (B4.out.block _ (by have := D3.out.2.2; omega)).trans D3.out.2.1, D3.out.2.2.1, D3.out.2.2.2, (Array.getElem?_eq_some_iff.1 G4.out.1).1⟩) | (go_at_call 46; refine (HTG.out w4 _ g C4.out).mono ?_; rintro E w5 ⟨rfl, hc5, hg5⟩; have C5 := Lib.hid hc5; have D5 : Hid (Below w.heap.size w w5 ∧ w5.heap[w.heap.size]? = some (.cells (msgC zeroMsg).toArray 34 (0, 0)) ∧ w5.heap[w3.heap.size]? = some (.cells (msgC (wq M A7 c7)).toArray 34 (0, 0)) ∧ w.heap.size < g ∧ g < w3.heap.size) := Lib.hid ⟨D4.out.1.grown hg5.out D4.out.1.size (fun k hk => by injection hk with hk; have := D4.out.2.2.1; omega), (hg5.out.block _ (by have := D4.out.2.2; omega) (fun e => by injection e with e; have := D4.out.2.2.1; omega)).trans D4.out.2.1, (hg5.out.block _ D4.out.2.2.2.2 (fun e => by injection e with e; have := D4.out.2.2.2.1; omega)).trans G4.out.1, D4.out.2.2.1, D4.out.2.2.2.1⟩; clear hc5; have cn : w5.cell? ⟨w3.heap.size, 1, none⟩ = some (.int .u64 ((wq M A7 c7).number : Int)) := range_of D5.out.2.2.1 1 _ (HS1.out A7 c7).2; have hf := fun k => free_block D5.out.2.2.1 k; have HH6 : Hid ((w5.setCell ⟨w3.heap.size, 1, none⟩ (.int .u64 (n : Int))).heap[w3.heap.size]? = some (.cells (msgC { wq M A7 c7 with number := n }).toArray 34 (0, 0))) := Lib.hid ((heap_set D5.out.2.2.1 (.int .u64 (n : Int)) (k := 1)).trans (congrArg (fun C : List Value => some (Obj.cells C.toArray 34 (0, 0))) (HS1.out A7 c7).1)); have GG6 := Lib.hid (gb_set w5 w3.heap.size 1 (.int .u64 (n : Int)))) | (refine wpList_store_part rfl 27 (.tmp 17) (.tmp 15) rfl w3.heap.size 89 (msgC { wq M A7 c7 with number := n }) (msgC (gotM n (wq M A7 c7) t)) (u8s t) 34 HH6.out (HS2.out A7 c7).1 (HS2.out A7 c7).2 rfl rfl HJ.out (u8s_one _) ?_; intro w7 G7; have GG7 := Lib.hid (gb_trans GG6.out G7.out.2); have C7 : Hid (CtS w7 (w.alloc (.cells (msgC zeroMsg).toArray 34)).heap.size g s3) := Lib.hid (C5.out.far GG7.out D5.out.2.2.2.2); have hs5 : w3.heap.size < w5.heap.size := (Array.getElem?_eq_some_iff.1 D5.out.2.2.1).1; have D7 : Hid (Below w.heap.size w w7 ∧ w7.heap[w.heap.size]? = some (.cells (msgC zeroMsg).toArray 34 (0, 0)) ∧ w7.heap[w3.heap.size]? = some (.cells (msgC (gotM n (wq M A7 c7) t)).toArray 34 (0, 0)) ∧ w.heap.size < w3.heap.size) := Lib.hid ⟨D5.out.1.grown GG7.out D5.out.1.size (fun k hk => by injection hk with hk; have := D5.out.2.2.2; omega), (GG7.out.block _ (by have := D5.out.2.2.2; omega) (fun e => by injection e with e; have := D5.out.2.2.2; omega)).trans D5.out.2.1, G7.out.1, by have := D5.out.2.2.2; omega⟩; have Q7 : Hid (QOw w2.heap.size w7 A7 c7 M.body.qs) := Lib.hid (Q3.out.keep fun gq h1 h2 => (GG7.out.block gq (by have := B4.out.size; have := hg5.out.size; omega) (fun e => by injection e with e; omega)).trans ((hg5.out.block gq (by have := B4.out.size; omega) (fun e => by injection e with e; have := D2.out.2.2.2; omega)).trans (B4.out.block gq h2)))) | ((with_reducible refine wpList_load_midG ?_ 34 (.tmp 6) ?_ w3.heap.size 0 ?_ (msgC (gotM n (wq M A7 c7) t)) _ ?_ Tryz.underlying34 ?_ ?_ ?_); (· rfl); (· rfl); (· rfl); (· exact range_of D7.out.2.2.1); (· rfl); (· exact (HG'.out A7 c7))) | (go_at_call 47; refine (HWH.out A7 c7 w7 _ g C7.out Q7.out).mono ?_; rintro E w8 ⟨rfl, hb8⟩; have D8 : Hid (Below w.heap.size w w8 ∧ w8.heap[w.heap.size]? = some (.cells (msgC zeroMsg).toArray 34 (0, 0))) := Lib.hid ⟨D7.out.1.trans (hb8.out.mono D7.out.1.size), (hb8.out.block _ ((Array.getElem?_eq_some_iff.1 D7.out.2.1).1)).trans D7.out.2.1⟩) | (refine wpList_store_part rfl 34 (.tmp 2) (.tmp 21) rfl w.heap.size 0 (msgC zeroMsg) (msgC (wholeM (gotM n (wq M A7 c7) t) s3).1) (msgC (wholeM (gotM n (wq M A7 c7) t) s3).1) 34 D8.out.2 (HR.out A7 c7).1 (HR.out A7 c7).2.1 rfl rfl (HR.out A7 c7).2.2 (one_msgC _) ?_; intro w9 G9))
  exact bodyPost_ret (ret_range2 (cs := msgC (wholeM (gotM n (wq M A7 c7) t) s3).1) rfl rfl rfl (range_of G9.out.1) Tryz.underlying34 rfl (HR.out A7 c7).2.2) rfl ⟨A7, c7, rfl, ((Q7.out.below hb8.out).far G9.out.2 (by have := D2.out.2.2; omega)).low (by have := D2.out.2.2; omega), Lib.hid (D8.out.1.grown G9.out.2 D8.out.1.size (fun k hk => by injection hk with hk; omega))⟩
end Go.Proofs.YtghjogneogkpoaaGreatDoor.Sh
