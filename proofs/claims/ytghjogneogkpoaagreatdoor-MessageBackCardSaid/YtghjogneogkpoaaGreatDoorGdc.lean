/-
  What is proved: what a cut is read as: a message of each Kind. Conditions as stated.
-/
import Derived.Test.YtghjogneogkpoaaGreatDoorGcc
import Derived.Test.YtghjogneogkpoaaGreatDoorVAc
namespace Go.Proofs.YtghjogneogkpoaaGreatDoor.Sh
open Go.RowKit
set_option maxRecDepth 100000

set_option maxHeartbeats 8000000 in
theorem cutTaggedG_102 {w : World} {lo g : Nat} {s : Cst} (o k : Nat) (i : Nat) (l : List Nat) (s1 s2 s3 : Cst) (h : CtS w lo g s) (e1 : cByte s = (o, s1)) (e2 : cDeps 11 s1 = (l, s2)) (e3 : cByte s2 = (k, s3)) (hk : Instr.findNow (.int .u8) (.int .u8 (k : Int)) rdE.toList 0 = some (some (i, .func (.func 102) #[] #[]))) (rd : Cst → MBody × Cst) (hr : CutsG 102 rd) (hw : (rd s3).1.Wf) :
    Calls Tryz.prog 45 #[.pointer (some ⟨g, 0, none⟩)] w fun E w' => ∃ A7 c7, E = .returned (.agg (msgC ({ depM (o : Int) l with body := { (rd s3).1 with qa := A7, qc := c7, kind := UInt8.ofNat k } })).toArray) ∧ QOw w.heap.size w' A7 c7 (rd s3).1.qs ∧ CtS w' lo g (rd s3).2 ∧ Hid (w.grownBy w' (some g)) := by
  have HG := Lib.hid h.lt
  have hk256 : k < 256 := by have := cByte_lt s2; rw [e3] at this; exact this
  have ho256 : o < 256 := by have := cByte_lt s; rw [e1] at this; exact this
  have hcv : IntKind.i64.wrap (o : Int) = (o : Int) := by rw [IntKind.wrap_i64]; omega
  have hcv2 : RowKit.wrap64 (o : Int) = (o : Int) := by unfold RowKit.wrap64; omega
  have hl11 : l.length = 11 := by have := cDeps_len 11 s1; rw [e2] at this; exact this
  have HKT : Hid (((UInt8.ofNat k).toNat : Int) = (k : Int)) := Lib.hid (by simp; omega)
  have HKF := Lib.hid hk
  have HE := Lib.hid e2
  have HLL := Lib.hid hl11
  have HDL := Lib.hid (fun j => cDeps_len j s1)
  have hzm : ∀ w, (zeroValue 34).run Tryz.prog w = .ok (.agg (msgC zeroMsg).toArray) w := zero_msg
  have HZ0 : Hid ((w.alloc (.cells (msgC zeroMsg).toArray 34)).heap[w.heap.size]? = some (.cells (msgC zeroMsg).toArray 34 (0, 0))) := Lib.hid (heap_alloc_new w _)
  have HC0 := Lib.hid (h.below ((Below.refl _ _).alloc (Nat.le_refl _) (.cells (msgC zeroMsg).toArray 34)))
  have HB1 : Hid (Calls Tryz.prog 75 #[.pointer (some ⟨g, 0, none⟩)] (w.alloc (.cells (msgC zeroMsg).toArray 34)) fun E w' => E = .returned (.int .u8 (o : Int)) ∧ CtS w' lo g s1 ∧ Hid ((w.alloc (.cells (msgC zeroMsg).toArray 34)).grownBy w' (some g))) := Lib.hid (by have := byte_s HC0.out; rw [e1] at this; exact this)
  have HB2 : Hid (∀ W, CtS W lo g s2 → Calls Tryz.prog 75 #[.pointer (some ⟨g, 0, none⟩)] W fun E w' => E = .returned (.int .u8 (k : Int)) ∧ CtS w' lo g s3 ∧ Hid (W.grownBy w' (some g))) := Lib.hid (fun W hW => by have := byte_s hW; rw [e3] at this; exact this)
  have HL0 : Hid (0 + (msgC (depM (o : Int) [])).length ≤ (msgC zeroMsg).length ∧ setAll (msgC zeroMsg) 0 (msgC (depM (o : Int) [])) = msgC (depM (o : Int) []) ∧ (Tryz.prog.info? 34).map (·.size) = some (msgC (depM (o : Int) [])).length) := Lib.hid (by
    have h1 : (msgC zeroMsg).length = 121 := msgC_length ⟨rfl, zero_wf, rfl⟩
    have h2 : (msgC (depM (o : Int) [])).length = 121 := msgC_length (depM_wf (by simp))
    exact ⟨by omega, setAll_all (by rw [h1, h2]), by rw [h2]; exact Tryz.is34⟩)
  have HRD := Lib.hid hr
  have HWF : Hid (∀ A7 c7, ({ depM (o : Int) l with body := { (rd s3).1 with qa := A7, qc := c7, kind := UInt8.ofNat k } } : MMsg).Wf ∧ ({ (rd s3).1 with qa := A7, qc := c7 } : MBody).Wf) := Lib.hid fun A7 c7 => ⟨⟨(depM_wf (o := (o : Int)) (by omega)).1, hw, rfl⟩, hw⟩
  have HLM : Hid (∀ A7 c7, 0 + (msgC ({ depM (o : Int) l with body := { (rd s3).1 with qa := A7, qc := c7, kind := UInt8.ofNat k } })).length ≤ (msgC zeroMsg).length ∧ setAll (msgC zeroMsg) 0 (msgC ({ depM (o : Int) l with body := { (rd s3).1 with qa := A7, qc := c7, kind := UInt8.ofNat k } })) = msgC ({ depM (o : Int) l with body := { (rd s3).1 with qa := A7, qc := c7, kind := UInt8.ofNat k } }) ∧ (Tryz.prog.info? 34).map (·.size) = some (msgC ({ depM (o : Int) l with body := { (rd s3).1 with qa := A7, qc := c7, kind := UInt8.ofNat k } })).length) := Lib.hid fun A7 c7 => by
    have h1 : (msgC zeroMsg).length = 121 := msgC_length ⟨rfl, zero_wf, rfl⟩
    have h2 := msgC_length (HWF.out A7 c7).1
    exact ⟨by omega, setAll_all (by rw [h1, h2]), by rw [h2]; exact Tryz.is34⟩
  have HSB : Hid (∀ A7 c7, 13 + (bodyC { (rd s3).1 with qa := A7, qc := c7 }).length ≤ (msgC (depM (o : Int) l)).length ∧ setAll (msgC (depM (o : Int) l)) 13 (bodyC { (rd s3).1 with qa := A7, qc := c7 }) = msgC { depM (o : Int) l with body := { (rd s3).1 with qa := A7, qc := c7 } } ∧ (Tryz.prog.info? 32).map (·.size) = some (bodyC { (rd s3).1 with qa := A7, qc := c7 }).length) := Lib.hid fun A7 c7 => ⟨by rw [bodyC_length (HWF.out A7 c7).2, msgC_length (depM_wf (by omega))]; omega, set_body _ _ (depM_wf (by omega)) (HWF.out A7 c7).2, by rw [bodyC_length (HWF.out A7 c7).2]; exact Tryz.is32⟩
  have HSK : Hid (∀ A7 c7, (msgC { depM (o : Int) l with body := { (rd s3).1 with qa := A7, qc := c7 } }).set 13 (.int .u8 (k : Int)) = msgC ({ depM (o : Int) l with body := { (rd s3).1 with qa := A7, qc := c7, kind := UInt8.ofNat k } }) ∧ (msgC { depM (o : Int) l with body := { (rd s3).1 with qa := A7, qc := c7 } })[13]? = some (.int .u8 ((rd s3).1.kind.toNat : Int))) := Lib.hid fun A7 c7 => ⟨by rw [← HKT.out]; exact set_kind { depM (o : Int) l with body := { (rd s3).1 with qa := A7, qc := c7 } } _ ⟨(depM_wf (o := (o : Int)) (by omega)).1, (HWF.out A7 c7).2, rfl⟩, by simp [msgC, depM, u64s_length, hl11, bodyC]⟩
  clear h e1 e2 e3 hk HC0 hr hw
  go_enter Tryz.func45, Tryz.ntmps45
  go_wp2_with (first | (go_at_call 75; refine HB1.out.mono ?_; rintro E w1 ⟨rfl, hc1, hg1⟩; have C1 := Lib.hid hc1; clear hc1; have S1 : Hid (w.heap.size < w1.heap.size) := Lib.hid (Nat.lt_of_lt_of_le (by simp) hg1.out.size); have D1 : Hid (CtM w lo g w1.heap.size s1 zeroMsg (w1.alloc (.cells (msgC zeroMsg).toArray 34))) := Lib.hid ⟨C1.out.below ((Below.refl _ _).alloc (Nat.le_refl _) _), gb_new (gb_trans (World.grownBy_alloc w _ _) hg1.out) (World.grownBy_alloc w1 _ (some w.heap.size)) (Nat.le_refl _), (((Below.refl _ _).alloc (Nat.le_refl _) (.cells (msgC zeroMsg).toArray 34) : Below w1.heap.size _ _).block _ S1.out).trans ((hg1.out.block _ (by simp) (fun e => by injection e with e; have := HG.out; omega)).trans HZ0.out), heap_alloc_new w1 _, S1.out, HG.out⟩) | (refine wpList_store_part rfl 34 (.tmp 3) (.tmp 11) rfl w1.heap.size 0 (msgC zeroMsg) (msgC (depM (o : Int) [])) (msgC (depM (o : Int) [])) 34 D1.out.msg HL0.out.1 HL0.out.2.1 rfl rfl HL0.out.2.2 (one_msgC _) ?_; intro w2 G2; have D2 := Lib.hid (D1.out.put G2.out)))
  clear D1 G2 hg1 C1 S1
  have D3 : Hid (CtM w lo g w1.heap.size (cDeps 0 s1).2 (depM (o : Int) (cDeps 0 s1).1) w2) := D2
  clear D2
  generalize w1.heap.size = gm at D3 ⊢
  go_loopw [12] (fun v12 wr => ∃ j : Nat, j ≤ 11 ∧ v12 = .int .i64 (j : Int) ∧ Hid (CtM w lo g gm (cDeps j s1).2 (depM (o : Int) (cDeps j s1).1) wr)) (fun v12 _ => 11 - (intOf v12).toNat)
  case atStart => exact ⟨0, by omega, rfl, D3⟩
  case round =>
    clear D3
    obtain ⟨j, hj, rfl, D⟩ := hrel
    by_cases hjj : j < 11
    · have hib : ¬ (11 ≤ (j : Int)) := by omega
      have HW := Lib.hid (word_s D.out.cut)
      have HN : Hid ((msgC (depM (o : Int) (cDeps j s1).1)).set (2 + j) (.int .u64 ((cWord (cDeps j s1).2).1 : Int)) = msgC (depM (o : Int) (cDeps (j + 1) s1).1) ∧ (msgC (depM (o : Int) (cDeps j s1).1))[2 + j]? = some (.int .u64 0)) := Lib.hid ⟨by
        have := set_dep (o := (o : Int)) (l := (cDeps j s1).1) (by rw [HDL.out]; exact hjj) (cWord (cDeps j s1).2).1
        rw [HDL.out] at this
        exact this, by
        have hlen := HDL.out j
        have e : 11 - (cDeps j s1).1.length = (11 - (j + 1)) + 1 := by omega
        simp only [msgC, depM, u64s, List.map_append, List.map_replicate]
        rw [e, List.replicate_succ, show 2 + j = j + 1 + 1 by omega, List.getElem?_cons_succ, List.getElem?_cons_succ, List.append_assoc, List.getElem?_append_right (by simp [hlen])]
        simp [hlen]⟩
      generalize (cWord (cDeps j s1).2).1 = x at HW HN
      go_wp2_with (go_at_call 44; refine HW.out.mono ?_; rintro E w5 ⟨rfl, hc5, hg5⟩; have D5 := Lib.hid (D.out.turn hg5.out hc5); clear hc5 hg5; have cx : w5.cell? ⟨gm, 2 + j, none⟩ = some (.int .u64 0) := D5.out.cell _ _ HN.out.2; have hf := fun k => free_block D5.out.msg k)
      go_roundw
      case measure => simp [intOf] <;> omega
      case rel => exact ⟨j + 1, by omega, by go_num, Lib.hid (D5.out.set _ _ HN.out.1)⟩
    · obtain rfl : j = 11 := by omega
      have D4 : Hid (CtM w lo g gm s2 (depM (o : Int) l) wr) := Lib.hid (by have := D.out; rwa [HE.out] at this)
      have HB3 := Lib.hid (HB2.out _ D4.out.cut)
      go_wp2_with (first | (go_at_call 75; refine HB3.out.mono ?_; rintro E w5 ⟨rfl, hc5, hg5⟩; have D5 := Lib.hid (D4.out.turn hg5.out hc5); clear hc5 hg5) | (go_at_call 76; refine (readers_ms w5).mono ?_; rintro E w6 ⟨rfl, hm6, hb6⟩; have D6 := Lib.hid (D5.out.below hb6); have M6 := Lib.hid hm6; clear hm6 hb6) | (refine wpList_look_at rfl (.tmp 24) (.tmp 25) 99 5 _ .u8 rfl Tryz.underlying99 Tryz.underlying5 w5.heap.size rdE 6 (k : Int) _ i rfl M6.out rfl HKF.out ?_) | (go_at_call 102; refine (HRD.out w6 lo g s3 D6.out.cut).mono ?_; rintro E w7 ⟨A7, c7, rfl, hq7, hc7, hg7⟩; have hlt6 := D6.out.ltm; have D7 := Lib.hid (D6.out.turn hg7.out hc7); clear hc7 hg7) | ((with_reducible refine wpList_store_part ?_ 32 (.tmp 33) (.tmp 32) ?_ gm 13 (msgC (depM (o : Int) l)) (msgC { depM (o : Int) l with body := { (rd s3).1 with qa := A7, qc := c7 } }) (bodyC { (rd s3).1 with qa := A7, qc := c7 }) 34 ?_ ?_ ?_ ?_ ?_ ?_ ?_ ?_); (· rfl); (· rfl); (· exact D7.out.msg); (· exact (HSB.out A7 c7).1); (· exact (HSB.out A7 c7).2.1); (· rfl); (· rfl); (· exact (HSB.out A7 c7).2.2); (· exact one_bodyC _); intro w8 G8; have D8' := Lib.hid (D7.out.put G8.out); have ck : w8.cell? ⟨gm, 13, none⟩ = some (.int .u8 ((rd s3).1.kind.toNat : Int)) := D8'.out.cell _ _ (HSK.out A7 c7).2; have hf := fun j => free_block D8'.out.msg j; have D8 := Lib.hid (D8'.out.set 13 (.int .u8 (k : Int)) (HSK.out A7 c7).1); have Q8 : Hid (QOw (gm + 1) (w8.setCell ⟨gm, 13, none⟩ (.int .u8 (k : Int))) A7 c7 (rd s3).1.qs) := Lib.hid (((hq7.low (by omega)).far G8.out.2 (by omega)).far (gb_set _ _ _ _) (by omega))) | ((with_reducible refine wpList_load_midG ?_ 34 (.tmp 3) ?_ gm 0 ?_ (msgC ({ depM (o : Int) l with body := { (rd s3).1 with qa := A7, qc := c7, kind := UInt8.ofNat k } })) _ ?_ Tryz.underlying34 ?_ ?_ ?_); (· rfl); (· rfl); (· rfl); (· exact range_of D8.out.msg); (· rfl); (· exact (HLM.out A7 c7).2.2)) | ((with_reducible refine wpList_store_part ?_ 34 (.tmp 2) (.tmp 37) ?_ w.heap.size 0 (msgC zeroMsg) (msgC ({ depM (o : Int) l with body := { (rd s3).1 with qa := A7, qc := c7, kind := UInt8.ofNat k } })) (msgC ({ depM (o : Int) l with body := { (rd s3).1 with qa := A7, qc := c7, kind := UInt8.ofNat k } })) 34 ?_ ?_ ?_ ?_ ?_ ?_ ?_ ?_); (· rfl); (· rfl); (· exact D8.out.res); (· exact (HLM.out A7 c7).1); (· exact (HLM.out A7 c7).2.1); (· rfl); (· rfl); (· exact (HLM.out A7 c7).2.2); (· exact one_msgC _); intro w9 G9))
      exact bodyPost_ret (ret_range (cs := msgC ({ depM (o : Int) l with body := { (rd s3).1 with qa := A7, qc := c7, kind := UInt8.ofNat k } })) rfl rfl (range_of G9.out.1) Tryz.underlying34 rfl (HLM.out A7 c7).2.2) rfl ⟨A7, c7, rfl, (Q8.out.far G9.out.2 (by have := D8.out.lt; omega)).low (by have := D8.out.lt; omega), D8.out.cut.far G9.out.2 HG.out, Lib.hid (gb_new D8.out.gb G9.out.2 (Nat.le_refl _))⟩
set_option maxHeartbeats 8000000 in
theorem cutTaggedG_103 {w : World} {lo g : Nat} {s : Cst} (o k : Nat) (i : Nat) (l : List Nat) (s1 s2 s3 : Cst) (h : CtS w lo g s) (e1 : cByte s = (o, s1)) (e2 : cDeps 11 s1 = (l, s2)) (e3 : cByte s2 = (k, s3)) (hk : Instr.findNow (.int .u8) (.int .u8 (k : Int)) rdE.toList 0 = some (some (i, .func (.func 103) #[] #[]))) (rd : Cst → MBody × Cst) (hr : CutsG 103 rd) (hw : (rd s3).1.Wf) :
    Calls Tryz.prog 45 #[.pointer (some ⟨g, 0, none⟩)] w fun E w' => ∃ A7 c7, E = .returned (.agg (msgC ({ depM (o : Int) l with body := { (rd s3).1 with qa := A7, qc := c7, kind := UInt8.ofNat k } })).toArray) ∧ QOw w.heap.size w' A7 c7 (rd s3).1.qs ∧ CtS w' lo g (rd s3).2 ∧ Hid (w.grownBy w' (some g)) := by
  have HG := Lib.hid h.lt
  have hk256 : k < 256 := by have := cByte_lt s2; rw [e3] at this; exact this
  have ho256 : o < 256 := by have := cByte_lt s; rw [e1] at this; exact this
  have hcv : IntKind.i64.wrap (o : Int) = (o : Int) := by rw [IntKind.wrap_i64]; omega
  have hcv2 : RowKit.wrap64 (o : Int) = (o : Int) := by unfold RowKit.wrap64; omega
  have hl11 : l.length = 11 := by have := cDeps_len 11 s1; rw [e2] at this; exact this
  have HKT : Hid (((UInt8.ofNat k).toNat : Int) = (k : Int)) := Lib.hid (by simp; omega)
  have HKF := Lib.hid hk
  have HE := Lib.hid e2
  have HLL := Lib.hid hl11
  have HDL := Lib.hid (fun j => cDeps_len j s1)
  have hzm : ∀ w, (zeroValue 34).run Tryz.prog w = .ok (.agg (msgC zeroMsg).toArray) w := zero_msg
  have HZ0 : Hid ((w.alloc (.cells (msgC zeroMsg).toArray 34)).heap[w.heap.size]? = some (.cells (msgC zeroMsg).toArray 34 (0, 0))) := Lib.hid (heap_alloc_new w _)
  have HC0 := Lib.hid (h.below ((Below.refl _ _).alloc (Nat.le_refl _) (.cells (msgC zeroMsg).toArray 34)))
  have HB1 : Hid (Calls Tryz.prog 75 #[.pointer (some ⟨g, 0, none⟩)] (w.alloc (.cells (msgC zeroMsg).toArray 34)) fun E w' => E = .returned (.int .u8 (o : Int)) ∧ CtS w' lo g s1 ∧ Hid ((w.alloc (.cells (msgC zeroMsg).toArray 34)).grownBy w' (some g))) := Lib.hid (by have := byte_s HC0.out; rw [e1] at this; exact this)
  have HB2 : Hid (∀ W, CtS W lo g s2 → Calls Tryz.prog 75 #[.pointer (some ⟨g, 0, none⟩)] W fun E w' => E = .returned (.int .u8 (k : Int)) ∧ CtS w' lo g s3 ∧ Hid (W.grownBy w' (some g))) := Lib.hid (fun W hW => by have := byte_s hW; rw [e3] at this; exact this)
  have HL0 : Hid (0 + (msgC (depM (o : Int) [])).length ≤ (msgC zeroMsg).length ∧ setAll (msgC zeroMsg) 0 (msgC (depM (o : Int) [])) = msgC (depM (o : Int) []) ∧ (Tryz.prog.info? 34).map (·.size) = some (msgC (depM (o : Int) [])).length) := Lib.hid (by
    have h1 : (msgC zeroMsg).length = 121 := msgC_length ⟨rfl, zero_wf, rfl⟩
    have h2 : (msgC (depM (o : Int) [])).length = 121 := msgC_length (depM_wf (by simp))
    exact ⟨by omega, setAll_all (by rw [h1, h2]), by rw [h2]; exact Tryz.is34⟩)
  have HRD := Lib.hid hr
  have HWF : Hid (∀ A7 c7, ({ depM (o : Int) l with body := { (rd s3).1 with qa := A7, qc := c7, kind := UInt8.ofNat k } } : MMsg).Wf ∧ ({ (rd s3).1 with qa := A7, qc := c7 } : MBody).Wf) := Lib.hid fun A7 c7 => ⟨⟨(depM_wf (o := (o : Int)) (by omega)).1, hw, rfl⟩, hw⟩
  have HLM : Hid (∀ A7 c7, 0 + (msgC ({ depM (o : Int) l with body := { (rd s3).1 with qa := A7, qc := c7, kind := UInt8.ofNat k } })).length ≤ (msgC zeroMsg).length ∧ setAll (msgC zeroMsg) 0 (msgC ({ depM (o : Int) l with body := { (rd s3).1 with qa := A7, qc := c7, kind := UInt8.ofNat k } })) = msgC ({ depM (o : Int) l with body := { (rd s3).1 with qa := A7, qc := c7, kind := UInt8.ofNat k } }) ∧ (Tryz.prog.info? 34).map (·.size) = some (msgC ({ depM (o : Int) l with body := { (rd s3).1 with qa := A7, qc := c7, kind := UInt8.ofNat k } })).length) := Lib.hid fun A7 c7 => by
    have h1 : (msgC zeroMsg).length = 121 := msgC_length ⟨rfl, zero_wf, rfl⟩
    have h2 := msgC_length (HWF.out A7 c7).1
    exact ⟨by omega, setAll_all (by rw [h1, h2]), by rw [h2]; exact Tryz.is34⟩
  have HSB : Hid (∀ A7 c7, 13 + (bodyC { (rd s3).1 with qa := A7, qc := c7 }).length ≤ (msgC (depM (o : Int) l)).length ∧ setAll (msgC (depM (o : Int) l)) 13 (bodyC { (rd s3).1 with qa := A7, qc := c7 }) = msgC { depM (o : Int) l with body := { (rd s3).1 with qa := A7, qc := c7 } } ∧ (Tryz.prog.info? 32).map (·.size) = some (bodyC { (rd s3).1 with qa := A7, qc := c7 }).length) := Lib.hid fun A7 c7 => ⟨by rw [bodyC_length (HWF.out A7 c7).2, msgC_length (depM_wf (by omega))]; omega, set_body _ _ (depM_wf (by omega)) (HWF.out A7 c7).2, by rw [bodyC_length (HWF.out A7 c7).2]; exact Tryz.is32⟩
  have HSK : Hid (∀ A7 c7, (msgC { depM (o : Int) l with body := { (rd s3).1 with qa := A7, qc := c7 } }).set 13 (.int .u8 (k : Int)) = msgC ({ depM (o : Int) l with body := { (rd s3).1 with qa := A7, qc := c7, kind := UInt8.ofNat k } }) ∧ (msgC { depM (o : Int) l with body := { (rd s3).1 with qa := A7, qc := c7 } })[13]? = some (.int .u8 ((rd s3).1.kind.toNat : Int))) := Lib.hid fun A7 c7 => ⟨by rw [← HKT.out]; exact set_kind { depM (o : Int) l with body := { (rd s3).1 with qa := A7, qc := c7 } } _ ⟨(depM_wf (o := (o : Int)) (by omega)).1, (HWF.out A7 c7).2, rfl⟩, by simp [msgC, depM, u64s_length, hl11, bodyC]⟩
  clear h e1 e2 e3 hk HC0 hr hw
  go_enter Tryz.func45, Tryz.ntmps45
  go_wp2_with (first | (go_at_call 75; refine HB1.out.mono ?_; rintro E w1 ⟨rfl, hc1, hg1⟩; have C1 := Lib.hid hc1; clear hc1; have S1 : Hid (w.heap.size < w1.heap.size) := Lib.hid (Nat.lt_of_lt_of_le (by simp) hg1.out.size); have D1 : Hid (CtM w lo g w1.heap.size s1 zeroMsg (w1.alloc (.cells (msgC zeroMsg).toArray 34))) := Lib.hid ⟨C1.out.below ((Below.refl _ _).alloc (Nat.le_refl _) _), gb_new (gb_trans (World.grownBy_alloc w _ _) hg1.out) (World.grownBy_alloc w1 _ (some w.heap.size)) (Nat.le_refl _), (((Below.refl _ _).alloc (Nat.le_refl _) (.cells (msgC zeroMsg).toArray 34) : Below w1.heap.size _ _).block _ S1.out).trans ((hg1.out.block _ (by simp) (fun e => by injection e with e; have := HG.out; omega)).trans HZ0.out), heap_alloc_new w1 _, S1.out, HG.out⟩) | (refine wpList_store_part rfl 34 (.tmp 3) (.tmp 11) rfl w1.heap.size 0 (msgC zeroMsg) (msgC (depM (o : Int) [])) (msgC (depM (o : Int) [])) 34 D1.out.msg HL0.out.1 HL0.out.2.1 rfl rfl HL0.out.2.2 (one_msgC _) ?_; intro w2 G2; have D2 := Lib.hid (D1.out.put G2.out)))
  clear D1 G2 hg1 C1 S1
  have D3 : Hid (CtM w lo g w1.heap.size (cDeps 0 s1).2 (depM (o : Int) (cDeps 0 s1).1) w2) := D2
  clear D2
  generalize w1.heap.size = gm at D3 ⊢
  go_loopw [12] (fun v12 wr => ∃ j : Nat, j ≤ 11 ∧ v12 = .int .i64 (j : Int) ∧ Hid (CtM w lo g gm (cDeps j s1).2 (depM (o : Int) (cDeps j s1).1) wr)) (fun v12 _ => 11 - (intOf v12).toNat)
  case atStart => exact ⟨0, by omega, rfl, D3⟩
  case round =>
    clear D3
    obtain ⟨j, hj, rfl, D⟩ := hrel
    by_cases hjj : j < 11
    · have hib : ¬ (11 ≤ (j : Int)) := by omega
      have HW := Lib.hid (word_s D.out.cut)
      have HN : Hid ((msgC (depM (o : Int) (cDeps j s1).1)).set (2 + j) (.int .u64 ((cWord (cDeps j s1).2).1 : Int)) = msgC (depM (o : Int) (cDeps (j + 1) s1).1) ∧ (msgC (depM (o : Int) (cDeps j s1).1))[2 + j]? = some (.int .u64 0)) := Lib.hid ⟨by
        have := set_dep (o := (o : Int)) (l := (cDeps j s1).1) (by rw [HDL.out]; exact hjj) (cWord (cDeps j s1).2).1
        rw [HDL.out] at this
        exact this, by
        have hlen := HDL.out j
        have e : 11 - (cDeps j s1).1.length = (11 - (j + 1)) + 1 := by omega
        simp only [msgC, depM, u64s, List.map_append, List.map_replicate]
        rw [e, List.replicate_succ, show 2 + j = j + 1 + 1 by omega, List.getElem?_cons_succ, List.getElem?_cons_succ, List.append_assoc, List.getElem?_append_right (by simp [hlen])]
        simp [hlen]⟩
      generalize (cWord (cDeps j s1).2).1 = x at HW HN
      go_wp2_with (go_at_call 44; refine HW.out.mono ?_; rintro E w5 ⟨rfl, hc5, hg5⟩; have D5 := Lib.hid (D.out.turn hg5.out hc5); clear hc5 hg5; have cx : w5.cell? ⟨gm, 2 + j, none⟩ = some (.int .u64 0) := D5.out.cell _ _ HN.out.2; have hf := fun k => free_block D5.out.msg k)
      go_roundw
      case measure => simp [intOf] <;> omega
      case rel => exact ⟨j + 1, by omega, by go_num, Lib.hid (D5.out.set _ _ HN.out.1)⟩
    · obtain rfl : j = 11 := by omega
      have D4 : Hid (CtM w lo g gm s2 (depM (o : Int) l) wr) := Lib.hid (by have := D.out; rwa [HE.out] at this)
      have HB3 := Lib.hid (HB2.out _ D4.out.cut)
      go_wp2_with (first | (go_at_call 75; refine HB3.out.mono ?_; rintro E w5 ⟨rfl, hc5, hg5⟩; have D5 := Lib.hid (D4.out.turn hg5.out hc5); clear hc5 hg5) | (go_at_call 76; refine (readers_ms w5).mono ?_; rintro E w6 ⟨rfl, hm6, hb6⟩; have D6 := Lib.hid (D5.out.below hb6); have M6 := Lib.hid hm6; clear hm6 hb6) | (refine wpList_look_at rfl (.tmp 24) (.tmp 25) 99 5 _ .u8 rfl Tryz.underlying99 Tryz.underlying5 w5.heap.size rdE 6 (k : Int) _ i rfl M6.out rfl HKF.out ?_) | (go_at_call 103; refine (HRD.out w6 lo g s3 D6.out.cut).mono ?_; rintro E w7 ⟨A7, c7, rfl, hq7, hc7, hg7⟩; have hlt6 := D6.out.ltm; have D7 := Lib.hid (D6.out.turn hg7.out hc7); clear hc7 hg7) | ((with_reducible refine wpList_store_part ?_ 32 (.tmp 33) (.tmp 32) ?_ gm 13 (msgC (depM (o : Int) l)) (msgC { depM (o : Int) l with body := { (rd s3).1 with qa := A7, qc := c7 } }) (bodyC { (rd s3).1 with qa := A7, qc := c7 }) 34 ?_ ?_ ?_ ?_ ?_ ?_ ?_ ?_); (· rfl); (· rfl); (· exact D7.out.msg); (· exact (HSB.out A7 c7).1); (· exact (HSB.out A7 c7).2.1); (· rfl); (· rfl); (· exact (HSB.out A7 c7).2.2); (· exact one_bodyC _); intro w8 G8; have D8' := Lib.hid (D7.out.put G8.out); have ck : w8.cell? ⟨gm, 13, none⟩ = some (.int .u8 ((rd s3).1.kind.toNat : Int)) := D8'.out.cell _ _ (HSK.out A7 c7).2; have hf := fun j => free_block D8'.out.msg j; have D8 := Lib.hid (D8'.out.set 13 (.int .u8 (k : Int)) (HSK.out A7 c7).1); have Q8 : Hid (QOw (gm + 1) (w8.setCell ⟨gm, 13, none⟩ (.int .u8 (k : Int))) A7 c7 (rd s3).1.qs) := Lib.hid (((hq7.low (by omega)).far G8.out.2 (by omega)).far (gb_set _ _ _ _) (by omega))) | ((with_reducible refine wpList_load_midG ?_ 34 (.tmp 3) ?_ gm 0 ?_ (msgC ({ depM (o : Int) l with body := { (rd s3).1 with qa := A7, qc := c7, kind := UInt8.ofNat k } })) _ ?_ Tryz.underlying34 ?_ ?_ ?_); (· rfl); (· rfl); (· rfl); (· exact range_of D8.out.msg); (· rfl); (· exact (HLM.out A7 c7).2.2)) | ((with_reducible refine wpList_store_part ?_ 34 (.tmp 2) (.tmp 37) ?_ w.heap.size 0 (msgC zeroMsg) (msgC ({ depM (o : Int) l with body := { (rd s3).1 with qa := A7, qc := c7, kind := UInt8.ofNat k } })) (msgC ({ depM (o : Int) l with body := { (rd s3).1 with qa := A7, qc := c7, kind := UInt8.ofNat k } })) 34 ?_ ?_ ?_ ?_ ?_ ?_ ?_ ?_); (· rfl); (· rfl); (· exact D8.out.res); (· exact (HLM.out A7 c7).1); (· exact (HLM.out A7 c7).2.1); (· rfl); (· rfl); (· exact (HLM.out A7 c7).2.2); (· exact one_msgC _); intro w9 G9))
      exact bodyPost_ret (ret_range (cs := msgC ({ depM (o : Int) l with body := { (rd s3).1 with qa := A7, qc := c7, kind := UInt8.ofNat k } })) rfl rfl (range_of G9.out.1) Tryz.underlying34 rfl (HLM.out A7 c7).2.2) rfl ⟨A7, c7, rfl, (Q8.out.far G9.out.2 (by have := D8.out.lt; omega)).low (by have := D8.out.lt; omega), D8.out.cut.far G9.out.2 HG.out, Lib.hid (gb_new D8.out.gb G9.out.2 (Nat.le_refl _))⟩
set_option maxHeartbeats 8000000 in
theorem cutTaggedG_104 {w : World} {lo g : Nat} {s : Cst} (o k : Nat) (i : Nat) (l : List Nat) (s1 s2 s3 : Cst) (h : CtS w lo g s) (e1 : cByte s = (o, s1)) (e2 : cDeps 11 s1 = (l, s2)) (e3 : cByte s2 = (k, s3)) (hk : Instr.findNow (.int .u8) (.int .u8 (k : Int)) rdE.toList 0 = some (some (i, .func (.func 104) #[] #[]))) (rd : Cst → MBody × Cst) (hr : CutsG 104 rd) (hw : (rd s3).1.Wf) :
    Calls Tryz.prog 45 #[.pointer (some ⟨g, 0, none⟩)] w fun E w' => ∃ A7 c7, E = .returned (.agg (msgC ({ depM (o : Int) l with body := { (rd s3).1 with qa := A7, qc := c7, kind := UInt8.ofNat k } })).toArray) ∧ QOw w.heap.size w' A7 c7 (rd s3).1.qs ∧ CtS w' lo g (rd s3).2 ∧ Hid (w.grownBy w' (some g)) := by
  have HG := Lib.hid h.lt
  have hk256 : k < 256 := by have := cByte_lt s2; rw [e3] at this; exact this
  have ho256 : o < 256 := by have := cByte_lt s; rw [e1] at this; exact this
  have hcv : IntKind.i64.wrap (o : Int) = (o : Int) := by rw [IntKind.wrap_i64]; omega
  have hcv2 : RowKit.wrap64 (o : Int) = (o : Int) := by unfold RowKit.wrap64; omega
  have hl11 : l.length = 11 := by have := cDeps_len 11 s1; rw [e2] at this; exact this
  have HKT : Hid (((UInt8.ofNat k).toNat : Int) = (k : Int)) := Lib.hid (by simp; omega)
  have HKF := Lib.hid hk
  have HE := Lib.hid e2
  have HLL := Lib.hid hl11
  have HDL := Lib.hid (fun j => cDeps_len j s1)
  have hzm : ∀ w, (zeroValue 34).run Tryz.prog w = .ok (.agg (msgC zeroMsg).toArray) w := zero_msg
  have HZ0 : Hid ((w.alloc (.cells (msgC zeroMsg).toArray 34)).heap[w.heap.size]? = some (.cells (msgC zeroMsg).toArray 34 (0, 0))) := Lib.hid (heap_alloc_new w _)
  have HC0 := Lib.hid (h.below ((Below.refl _ _).alloc (Nat.le_refl _) (.cells (msgC zeroMsg).toArray 34)))
  have HB1 : Hid (Calls Tryz.prog 75 #[.pointer (some ⟨g, 0, none⟩)] (w.alloc (.cells (msgC zeroMsg).toArray 34)) fun E w' => E = .returned (.int .u8 (o : Int)) ∧ CtS w' lo g s1 ∧ Hid ((w.alloc (.cells (msgC zeroMsg).toArray 34)).grownBy w' (some g))) := Lib.hid (by have := byte_s HC0.out; rw [e1] at this; exact this)
  have HB2 : Hid (∀ W, CtS W lo g s2 → Calls Tryz.prog 75 #[.pointer (some ⟨g, 0, none⟩)] W fun E w' => E = .returned (.int .u8 (k : Int)) ∧ CtS w' lo g s3 ∧ Hid (W.grownBy w' (some g))) := Lib.hid (fun W hW => by have := byte_s hW; rw [e3] at this; exact this)
  have HL0 : Hid (0 + (msgC (depM (o : Int) [])).length ≤ (msgC zeroMsg).length ∧ setAll (msgC zeroMsg) 0 (msgC (depM (o : Int) [])) = msgC (depM (o : Int) []) ∧ (Tryz.prog.info? 34).map (·.size) = some (msgC (depM (o : Int) [])).length) := Lib.hid (by
    have h1 : (msgC zeroMsg).length = 121 := msgC_length ⟨rfl, zero_wf, rfl⟩
    have h2 : (msgC (depM (o : Int) [])).length = 121 := msgC_length (depM_wf (by simp))
    exact ⟨by omega, setAll_all (by rw [h1, h2]), by rw [h2]; exact Tryz.is34⟩)
  have HRD := Lib.hid hr
  have HWF : Hid (∀ A7 c7, ({ depM (o : Int) l with body := { (rd s3).1 with qa := A7, qc := c7, kind := UInt8.ofNat k } } : MMsg).Wf ∧ ({ (rd s3).1 with qa := A7, qc := c7 } : MBody).Wf) := Lib.hid fun A7 c7 => ⟨⟨(depM_wf (o := (o : Int)) (by omega)).1, hw, rfl⟩, hw⟩
  have HLM : Hid (∀ A7 c7, 0 + (msgC ({ depM (o : Int) l with body := { (rd s3).1 with qa := A7, qc := c7, kind := UInt8.ofNat k } })).length ≤ (msgC zeroMsg).length ∧ setAll (msgC zeroMsg) 0 (msgC ({ depM (o : Int) l with body := { (rd s3).1 with qa := A7, qc := c7, kind := UInt8.ofNat k } })) = msgC ({ depM (o : Int) l with body := { (rd s3).1 with qa := A7, qc := c7, kind := UInt8.ofNat k } }) ∧ (Tryz.prog.info? 34).map (·.size) = some (msgC ({ depM (o : Int) l with body := { (rd s3).1 with qa := A7, qc := c7, kind := UInt8.ofNat k } })).length) := Lib.hid fun A7 c7 => by
    have h1 : (msgC zeroMsg).length = 121 := msgC_length ⟨rfl, zero_wf, rfl⟩
    have h2 := msgC_length (HWF.out A7 c7).1
    exact ⟨by omega, setAll_all (by rw [h1, h2]), by rw [h2]; exact Tryz.is34⟩
  have HSB : Hid (∀ A7 c7, 13 + (bodyC { (rd s3).1 with qa := A7, qc := c7 }).length ≤ (msgC (depM (o : Int) l)).length ∧ setAll (msgC (depM (o : Int) l)) 13 (bodyC { (rd s3).1 with qa := A7, qc := c7 }) = msgC { depM (o : Int) l with body := { (rd s3).1 with qa := A7, qc := c7 } } ∧ (Tryz.prog.info? 32).map (·.size) = some (bodyC { (rd s3).1 with qa := A7, qc := c7 }).length) := Lib.hid fun A7 c7 => ⟨by rw [bodyC_length (HWF.out A7 c7).2, msgC_length (depM_wf (by omega))]; omega, set_body _ _ (depM_wf (by omega)) (HWF.out A7 c7).2, by rw [bodyC_length (HWF.out A7 c7).2]; exact Tryz.is32⟩
  have HSK : Hid (∀ A7 c7, (msgC { depM (o : Int) l with body := { (rd s3).1 with qa := A7, qc := c7 } }).set 13 (.int .u8 (k : Int)) = msgC ({ depM (o : Int) l with body := { (rd s3).1 with qa := A7, qc := c7, kind := UInt8.ofNat k } }) ∧ (msgC { depM (o : Int) l with body := { (rd s3).1 with qa := A7, qc := c7 } })[13]? = some (.int .u8 ((rd s3).1.kind.toNat : Int))) := Lib.hid fun A7 c7 => ⟨by rw [← HKT.out]; exact set_kind { depM (o : Int) l with body := { (rd s3).1 with qa := A7, qc := c7 } } _ ⟨(depM_wf (o := (o : Int)) (by omega)).1, (HWF.out A7 c7).2, rfl⟩, by simp [msgC, depM, u64s_length, hl11, bodyC]⟩
  clear h e1 e2 e3 hk HC0 hr hw
  go_enter Tryz.func45, Tryz.ntmps45
  go_wp2_with (first | (go_at_call 75; refine HB1.out.mono ?_; rintro E w1 ⟨rfl, hc1, hg1⟩; have C1 := Lib.hid hc1; clear hc1; have S1 : Hid (w.heap.size < w1.heap.size) := Lib.hid (Nat.lt_of_lt_of_le (by simp) hg1.out.size); have D1 : Hid (CtM w lo g w1.heap.size s1 zeroMsg (w1.alloc (.cells (msgC zeroMsg).toArray 34))) := Lib.hid ⟨C1.out.below ((Below.refl _ _).alloc (Nat.le_refl _) _), gb_new (gb_trans (World.grownBy_alloc w _ _) hg1.out) (World.grownBy_alloc w1 _ (some w.heap.size)) (Nat.le_refl _), (((Below.refl _ _).alloc (Nat.le_refl _) (.cells (msgC zeroMsg).toArray 34) : Below w1.heap.size _ _).block _ S1.out).trans ((hg1.out.block _ (by simp) (fun e => by injection e with e; have := HG.out; omega)).trans HZ0.out), heap_alloc_new w1 _, S1.out, HG.out⟩) | (refine wpList_store_part rfl 34 (.tmp 3) (.tmp 11) rfl w1.heap.size 0 (msgC zeroMsg) (msgC (depM (o : Int) [])) (msgC (depM (o : Int) [])) 34 D1.out.msg HL0.out.1 HL0.out.2.1 rfl rfl HL0.out.2.2 (one_msgC _) ?_; intro w2 G2; have D2 := Lib.hid (D1.out.put G2.out)))
  clear D1 G2 hg1 C1 S1
  have D3 : Hid (CtM w lo g w1.heap.size (cDeps 0 s1).2 (depM (o : Int) (cDeps 0 s1).1) w2) := D2
  clear D2
  generalize w1.heap.size = gm at D3 ⊢
  go_loopw [12] (fun v12 wr => ∃ j : Nat, j ≤ 11 ∧ v12 = .int .i64 (j : Int) ∧ Hid (CtM w lo g gm (cDeps j s1).2 (depM (o : Int) (cDeps j s1).1) wr)) (fun v12 _ => 11 - (intOf v12).toNat)
  case atStart => exact ⟨0, by omega, rfl, D3⟩
  case round =>
    clear D3
    obtain ⟨j, hj, rfl, D⟩ := hrel
    by_cases hjj : j < 11
    · have hib : ¬ (11 ≤ (j : Int)) := by omega
      have HW := Lib.hid (word_s D.out.cut)
      have HN : Hid ((msgC (depM (o : Int) (cDeps j s1).1)).set (2 + j) (.int .u64 ((cWord (cDeps j s1).2).1 : Int)) = msgC (depM (o : Int) (cDeps (j + 1) s1).1) ∧ (msgC (depM (o : Int) (cDeps j s1).1))[2 + j]? = some (.int .u64 0)) := Lib.hid ⟨by
        have := set_dep (o := (o : Int)) (l := (cDeps j s1).1) (by rw [HDL.out]; exact hjj) (cWord (cDeps j s1).2).1
        rw [HDL.out] at this
        exact this, by
        have hlen := HDL.out j
        have e : 11 - (cDeps j s1).1.length = (11 - (j + 1)) + 1 := by omega
        simp only [msgC, depM, u64s, List.map_append, List.map_replicate]
        rw [e, List.replicate_succ, show 2 + j = j + 1 + 1 by omega, List.getElem?_cons_succ, List.getElem?_cons_succ, List.append_assoc, List.getElem?_append_right (by simp [hlen])]
        simp [hlen]⟩
      generalize (cWord (cDeps j s1).2).1 = x at HW HN
      go_wp2_with (go_at_call 44; refine HW.out.mono ?_; rintro E w5 ⟨rfl, hc5, hg5⟩; have D5 := Lib.hid (D.out.turn hg5.out hc5); clear hc5 hg5; have cx : w5.cell? ⟨gm, 2 + j, none⟩ = some (.int .u64 0) := D5.out.cell _ _ HN.out.2; have hf := fun k => free_block D5.out.msg k)
      go_roundw
      case measure => simp [intOf] <;> omega
      case rel => exact ⟨j + 1, by omega, by go_num, Lib.hid (D5.out.set _ _ HN.out.1)⟩
    · obtain rfl : j = 11 := by omega
      have D4 : Hid (CtM w lo g gm s2 (depM (o : Int) l) wr) := Lib.hid (by have := D.out; rwa [HE.out] at this)
      have HB3 := Lib.hid (HB2.out _ D4.out.cut)
      go_wp2_with (first | (go_at_call 75; refine HB3.out.mono ?_; rintro E w5 ⟨rfl, hc5, hg5⟩; have D5 := Lib.hid (D4.out.turn hg5.out hc5); clear hc5 hg5) | (go_at_call 76; refine (readers_ms w5).mono ?_; rintro E w6 ⟨rfl, hm6, hb6⟩; have D6 := Lib.hid (D5.out.below hb6); have M6 := Lib.hid hm6; clear hm6 hb6) | (refine wpList_look_at rfl (.tmp 24) (.tmp 25) 99 5 _ .u8 rfl Tryz.underlying99 Tryz.underlying5 w5.heap.size rdE 6 (k : Int) _ i rfl M6.out rfl HKF.out ?_) | (go_at_call 104; refine (HRD.out w6 lo g s3 D6.out.cut).mono ?_; rintro E w7 ⟨A7, c7, rfl, hq7, hc7, hg7⟩; have hlt6 := D6.out.ltm; have D7 := Lib.hid (D6.out.turn hg7.out hc7); clear hc7 hg7) | ((with_reducible refine wpList_store_part ?_ 32 (.tmp 33) (.tmp 32) ?_ gm 13 (msgC (depM (o : Int) l)) (msgC { depM (o : Int) l with body := { (rd s3).1 with qa := A7, qc := c7 } }) (bodyC { (rd s3).1 with qa := A7, qc := c7 }) 34 ?_ ?_ ?_ ?_ ?_ ?_ ?_ ?_); (· rfl); (· rfl); (· exact D7.out.msg); (· exact (HSB.out A7 c7).1); (· exact (HSB.out A7 c7).2.1); (· rfl); (· rfl); (· exact (HSB.out A7 c7).2.2); (· exact one_bodyC _); intro w8 G8; have D8' := Lib.hid (D7.out.put G8.out); have ck : w8.cell? ⟨gm, 13, none⟩ = some (.int .u8 ((rd s3).1.kind.toNat : Int)) := D8'.out.cell _ _ (HSK.out A7 c7).2; have hf := fun j => free_block D8'.out.msg j; have D8 := Lib.hid (D8'.out.set 13 (.int .u8 (k : Int)) (HSK.out A7 c7).1); have Q8 : Hid (QOw (gm + 1) (w8.setCell ⟨gm, 13, none⟩ (.int .u8 (k : Int))) A7 c7 (rd s3).1.qs) := Lib.hid (((hq7.low (by omega)).far G8.out.2 (by omega)).far (gb_set _ _ _ _) (by omega))) | ((with_reducible refine wpList_load_midG ?_ 34 (.tmp 3) ?_ gm 0 ?_ (msgC ({ depM (o : Int) l with body := { (rd s3).1 with qa := A7, qc := c7, kind := UInt8.ofNat k } })) _ ?_ Tryz.underlying34 ?_ ?_ ?_); (· rfl); (· rfl); (· rfl); (· exact range_of D8.out.msg); (· rfl); (· exact (HLM.out A7 c7).2.2)) | ((with_reducible refine wpList_store_part ?_ 34 (.tmp 2) (.tmp 37) ?_ w.heap.size 0 (msgC zeroMsg) (msgC ({ depM (o : Int) l with body := { (rd s3).1 with qa := A7, qc := c7, kind := UInt8.ofNat k } })) (msgC ({ depM (o : Int) l with body := { (rd s3).1 with qa := A7, qc := c7, kind := UInt8.ofNat k } })) 34 ?_ ?_ ?_ ?_ ?_ ?_ ?_ ?_); (· rfl); (· rfl); (· exact D8.out.res); (· exact (HLM.out A7 c7).1); (· exact (HLM.out A7 c7).2.1); (· rfl); (· rfl); (· exact (HLM.out A7 c7).2.2); (· exact one_msgC _); intro w9 G9))
      exact bodyPost_ret (ret_range (cs := msgC ({ depM (o : Int) l with body := { (rd s3).1 with qa := A7, qc := c7, kind := UInt8.ofNat k } })) rfl rfl (range_of G9.out.1) Tryz.underlying34 rfl (HLM.out A7 c7).2.2) rfl ⟨A7, c7, rfl, (Q8.out.far G9.out.2 (by have := D8.out.lt; omega)).low (by have := D8.out.lt; omega), D8.out.cut.far G9.out.2 HG.out, Lib.hid (gb_new D8.out.gb G9.out.2 (Nat.le_refl _))⟩
set_option maxHeartbeats 8000000 in
theorem cutTaggedG_105 {w : World} {lo g : Nat} {s : Cst} (o k : Nat) (i : Nat) (l : List Nat) (s1 s2 s3 : Cst) (h : CtS w lo g s) (e1 : cByte s = (o, s1)) (e2 : cDeps 11 s1 = (l, s2)) (e3 : cByte s2 = (k, s3)) (hk : Instr.findNow (.int .u8) (.int .u8 (k : Int)) rdE.toList 0 = some (some (i, .func (.func 105) #[] #[]))) (rd : Cst → MBody × Cst) (hr : CutsG 105 rd) (hw : (rd s3).1.Wf) :
    Calls Tryz.prog 45 #[.pointer (some ⟨g, 0, none⟩)] w fun E w' => ∃ A7 c7, E = .returned (.agg (msgC ({ depM (o : Int) l with body := { (rd s3).1 with qa := A7, qc := c7, kind := UInt8.ofNat k } })).toArray) ∧ QOw w.heap.size w' A7 c7 (rd s3).1.qs ∧ CtS w' lo g (rd s3).2 ∧ Hid (w.grownBy w' (some g)) := by
  have HG := Lib.hid h.lt
  have hk256 : k < 256 := by have := cByte_lt s2; rw [e3] at this; exact this
  have ho256 : o < 256 := by have := cByte_lt s; rw [e1] at this; exact this
  have hcv : IntKind.i64.wrap (o : Int) = (o : Int) := by rw [IntKind.wrap_i64]; omega
  have hcv2 : RowKit.wrap64 (o : Int) = (o : Int) := by unfold RowKit.wrap64; omega
  have hl11 : l.length = 11 := by have := cDeps_len 11 s1; rw [e2] at this; exact this
  have HKT : Hid (((UInt8.ofNat k).toNat : Int) = (k : Int)) := Lib.hid (by simp; omega)
  have HKF := Lib.hid hk
  have HE := Lib.hid e2
  have HLL := Lib.hid hl11
  have HDL := Lib.hid (fun j => cDeps_len j s1)
  have hzm : ∀ w, (zeroValue 34).run Tryz.prog w = .ok (.agg (msgC zeroMsg).toArray) w := zero_msg
  have HZ0 : Hid ((w.alloc (.cells (msgC zeroMsg).toArray 34)).heap[w.heap.size]? = some (.cells (msgC zeroMsg).toArray 34 (0, 0))) := Lib.hid (heap_alloc_new w _)
  have HC0 := Lib.hid (h.below ((Below.refl _ _).alloc (Nat.le_refl _) (.cells (msgC zeroMsg).toArray 34)))
  have HB1 : Hid (Calls Tryz.prog 75 #[.pointer (some ⟨g, 0, none⟩)] (w.alloc (.cells (msgC zeroMsg).toArray 34)) fun E w' => E = .returned (.int .u8 (o : Int)) ∧ CtS w' lo g s1 ∧ Hid ((w.alloc (.cells (msgC zeroMsg).toArray 34)).grownBy w' (some g))) := Lib.hid (by have := byte_s HC0.out; rw [e1] at this; exact this)
  have HB2 : Hid (∀ W, CtS W lo g s2 → Calls Tryz.prog 75 #[.pointer (some ⟨g, 0, none⟩)] W fun E w' => E = .returned (.int .u8 (k : Int)) ∧ CtS w' lo g s3 ∧ Hid (W.grownBy w' (some g))) := Lib.hid (fun W hW => by have := byte_s hW; rw [e3] at this; exact this)
  have HL0 : Hid (0 + (msgC (depM (o : Int) [])).length ≤ (msgC zeroMsg).length ∧ setAll (msgC zeroMsg) 0 (msgC (depM (o : Int) [])) = msgC (depM (o : Int) []) ∧ (Tryz.prog.info? 34).map (·.size) = some (msgC (depM (o : Int) [])).length) := Lib.hid (by
    have h1 : (msgC zeroMsg).length = 121 := msgC_length ⟨rfl, zero_wf, rfl⟩
    have h2 : (msgC (depM (o : Int) [])).length = 121 := msgC_length (depM_wf (by simp))
    exact ⟨by omega, setAll_all (by rw [h1, h2]), by rw [h2]; exact Tryz.is34⟩)
  have HRD := Lib.hid hr
  have HWF : Hid (∀ A7 c7, ({ depM (o : Int) l with body := { (rd s3).1 with qa := A7, qc := c7, kind := UInt8.ofNat k } } : MMsg).Wf ∧ ({ (rd s3).1 with qa := A7, qc := c7 } : MBody).Wf) := Lib.hid fun A7 c7 => ⟨⟨(depM_wf (o := (o : Int)) (by omega)).1, hw, rfl⟩, hw⟩
  have HLM : Hid (∀ A7 c7, 0 + (msgC ({ depM (o : Int) l with body := { (rd s3).1 with qa := A7, qc := c7, kind := UInt8.ofNat k } })).length ≤ (msgC zeroMsg).length ∧ setAll (msgC zeroMsg) 0 (msgC ({ depM (o : Int) l with body := { (rd s3).1 with qa := A7, qc := c7, kind := UInt8.ofNat k } })) = msgC ({ depM (o : Int) l with body := { (rd s3).1 with qa := A7, qc := c7, kind := UInt8.ofNat k } }) ∧ (Tryz.prog.info? 34).map (·.size) = some (msgC ({ depM (o : Int) l with body := { (rd s3).1 with qa := A7, qc := c7, kind := UInt8.ofNat k } })).length) := Lib.hid fun A7 c7 => by
    have h1 : (msgC zeroMsg).length = 121 := msgC_length ⟨rfl, zero_wf, rfl⟩
    have h2 := msgC_length (HWF.out A7 c7).1
    exact ⟨by omega, setAll_all (by rw [h1, h2]), by rw [h2]; exact Tryz.is34⟩
  have HSB : Hid (∀ A7 c7, 13 + (bodyC { (rd s3).1 with qa := A7, qc := c7 }).length ≤ (msgC (depM (o : Int) l)).length ∧ setAll (msgC (depM (o : Int) l)) 13 (bodyC { (rd s3).1 with qa := A7, qc := c7 }) = msgC { depM (o : Int) l with body := { (rd s3).1 with qa := A7, qc := c7 } } ∧ (Tryz.prog.info? 32).map (·.size) = some (bodyC { (rd s3).1 with qa := A7, qc := c7 }).length) := Lib.hid fun A7 c7 => ⟨by rw [bodyC_length (HWF.out A7 c7).2, msgC_length (depM_wf (by omega))]; omega, set_body _ _ (depM_wf (by omega)) (HWF.out A7 c7).2, by rw [bodyC_length (HWF.out A7 c7).2]; exact Tryz.is32⟩
  have HSK : Hid (∀ A7 c7, (msgC { depM (o : Int) l with body := { (rd s3).1 with qa := A7, qc := c7 } }).set 13 (.int .u8 (k : Int)) = msgC ({ depM (o : Int) l with body := { (rd s3).1 with qa := A7, qc := c7, kind := UInt8.ofNat k } }) ∧ (msgC { depM (o : Int) l with body := { (rd s3).1 with qa := A7, qc := c7 } })[13]? = some (.int .u8 ((rd s3).1.kind.toNat : Int))) := Lib.hid fun A7 c7 => ⟨by rw [← HKT.out]; exact set_kind { depM (o : Int) l with body := { (rd s3).1 with qa := A7, qc := c7 } } _ ⟨(depM_wf (o := (o : Int)) (by omega)).1, (HWF.out A7 c7).2, rfl⟩, by simp [msgC, depM, u64s_length, hl11, bodyC]⟩
  clear h e1 e2 e3 hk HC0 hr hw
  go_enter Tryz.func45, Tryz.ntmps45
  go_wp2_with (first | (go_at_call 75; refine HB1.out.mono ?_; rintro E w1 ⟨rfl, hc1, hg1⟩; have C1 := Lib.hid hc1; clear hc1; have S1 : Hid (w.heap.size < w1.heap.size) := Lib.hid (Nat.lt_of_lt_of_le (by simp) hg1.out.size); have D1 : Hid (CtM w lo g w1.heap.size s1 zeroMsg (w1.alloc (.cells (msgC zeroMsg).toArray 34))) := Lib.hid ⟨C1.out.below ((Below.refl _ _).alloc (Nat.le_refl _) _), gb_new (gb_trans (World.grownBy_alloc w _ _) hg1.out) (World.grownBy_alloc w1 _ (some w.heap.size)) (Nat.le_refl _), (((Below.refl _ _).alloc (Nat.le_refl _) (.cells (msgC zeroMsg).toArray 34) : Below w1.heap.size _ _).block _ S1.out).trans ((hg1.out.block _ (by simp) (fun e => by injection e with e; have := HG.out; omega)).trans HZ0.out), heap_alloc_new w1 _, S1.out, HG.out⟩) | (refine wpList_store_part rfl 34 (.tmp 3) (.tmp 11) rfl w1.heap.size 0 (msgC zeroMsg) (msgC (depM (o : Int) [])) (msgC (depM (o : Int) [])) 34 D1.out.msg HL0.out.1 HL0.out.2.1 rfl rfl HL0.out.2.2 (one_msgC _) ?_; intro w2 G2; have D2 := Lib.hid (D1.out.put G2.out)))
  clear D1 G2 hg1 C1 S1
  have D3 : Hid (CtM w lo g w1.heap.size (cDeps 0 s1).2 (depM (o : Int) (cDeps 0 s1).1) w2) := D2
  clear D2
  generalize w1.heap.size = gm at D3 ⊢
  go_loopw [12] (fun v12 wr => ∃ j : Nat, j ≤ 11 ∧ v12 = .int .i64 (j : Int) ∧ Hid (CtM w lo g gm (cDeps j s1).2 (depM (o : Int) (cDeps j s1).1) wr)) (fun v12 _ => 11 - (intOf v12).toNat)
  case atStart => exact ⟨0, by omega, rfl, D3⟩
  case round =>
    clear D3
    obtain ⟨j, hj, rfl, D⟩ := hrel
    by_cases hjj : j < 11
    · have hib : ¬ (11 ≤ (j : Int)) := by omega
      have HW := Lib.hid (word_s D.out.cut)
      have HN : Hid ((msgC (depM (o : Int) (cDeps j s1).1)).set (2 + j) (.int .u64 ((cWord (cDeps j s1).2).1 : Int)) = msgC (depM (o : Int) (cDeps (j + 1) s1).1) ∧ (msgC (depM (o : Int) (cDeps j s1).1))[2 + j]? = some (.int .u64 0)) := Lib.hid ⟨by
        have := set_dep (o := (o : Int)) (l := (cDeps j s1).1) (by rw [HDL.out]; exact hjj) (cWord (cDeps j s1).2).1
        rw [HDL.out] at this
        exact this, by
        have hlen := HDL.out j
        have e : 11 - (cDeps j s1).1.length = (11 - (j + 1)) + 1 := by omega
        simp only [msgC, depM, u64s, List.map_append, List.map_replicate]
        rw [e, List.replicate_succ, show 2 + j = j + 1 + 1 by omega, List.getElem?_cons_succ, List.getElem?_cons_succ, List.append_assoc, List.getElem?_append_right (by simp [hlen])]
        simp [hlen]⟩
      generalize (cWord (cDeps j s1).2).1 = x at HW HN
      go_wp2_with (go_at_call 44; refine HW.out.mono ?_; rintro E w5 ⟨rfl, hc5, hg5⟩; have D5 := Lib.hid (D.out.turn hg5.out hc5); clear hc5 hg5; have cx : w5.cell? ⟨gm, 2 + j, none⟩ = some (.int .u64 0) := D5.out.cell _ _ HN.out.2; have hf := fun k => free_block D5.out.msg k)
      go_roundw
      case measure => simp [intOf] <;> omega
      case rel => exact ⟨j + 1, by omega, by go_num, Lib.hid (D5.out.set _ _ HN.out.1)⟩
    · obtain rfl : j = 11 := by omega
      have D4 : Hid (CtM w lo g gm s2 (depM (o : Int) l) wr) := Lib.hid (by have := D.out; rwa [HE.out] at this)
      have HB3 := Lib.hid (HB2.out _ D4.out.cut)
      go_wp2_with (first | (go_at_call 75; refine HB3.out.mono ?_; rintro E w5 ⟨rfl, hc5, hg5⟩; have D5 := Lib.hid (D4.out.turn hg5.out hc5); clear hc5 hg5) | (go_at_call 76; refine (readers_ms w5).mono ?_; rintro E w6 ⟨rfl, hm6, hb6⟩; have D6 := Lib.hid (D5.out.below hb6); have M6 := Lib.hid hm6; clear hm6 hb6) | (refine wpList_look_at rfl (.tmp 24) (.tmp 25) 99 5 _ .u8 rfl Tryz.underlying99 Tryz.underlying5 w5.heap.size rdE 6 (k : Int) _ i rfl M6.out rfl HKF.out ?_) | (go_at_call 105; refine (HRD.out w6 lo g s3 D6.out.cut).mono ?_; rintro E w7 ⟨A7, c7, rfl, hq7, hc7, hg7⟩; have hlt6 := D6.out.ltm; have D7 := Lib.hid (D6.out.turn hg7.out hc7); clear hc7 hg7) | ((with_reducible refine wpList_store_part ?_ 32 (.tmp 33) (.tmp 32) ?_ gm 13 (msgC (depM (o : Int) l)) (msgC { depM (o : Int) l with body := { (rd s3).1 with qa := A7, qc := c7 } }) (bodyC { (rd s3).1 with qa := A7, qc := c7 }) 34 ?_ ?_ ?_ ?_ ?_ ?_ ?_ ?_); (· rfl); (· rfl); (· exact D7.out.msg); (· exact (HSB.out A7 c7).1); (· exact (HSB.out A7 c7).2.1); (· rfl); (· rfl); (· exact (HSB.out A7 c7).2.2); (· exact one_bodyC _); intro w8 G8; have D8' := Lib.hid (D7.out.put G8.out); have ck : w8.cell? ⟨gm, 13, none⟩ = some (.int .u8 ((rd s3).1.kind.toNat : Int)) := D8'.out.cell _ _ (HSK.out A7 c7).2; have hf := fun j => free_block D8'.out.msg j; have D8 := Lib.hid (D8'.out.set 13 (.int .u8 (k : Int)) (HSK.out A7 c7).1); have Q8 : Hid (QOw (gm + 1) (w8.setCell ⟨gm, 13, none⟩ (.int .u8 (k : Int))) A7 c7 (rd s3).1.qs) := Lib.hid (((hq7.low (by omega)).far G8.out.2 (by omega)).far (gb_set _ _ _ _) (by omega))) | ((with_reducible refine wpList_load_midG ?_ 34 (.tmp 3) ?_ gm 0 ?_ (msgC ({ depM (o : Int) l with body := { (rd s3).1 with qa := A7, qc := c7, kind := UInt8.ofNat k } })) _ ?_ Tryz.underlying34 ?_ ?_ ?_); (· rfl); (· rfl); (· rfl); (· exact range_of D8.out.msg); (· rfl); (· exact (HLM.out A7 c7).2.2)) | ((with_reducible refine wpList_store_part ?_ 34 (.tmp 2) (.tmp 37) ?_ w.heap.size 0 (msgC zeroMsg) (msgC ({ depM (o : Int) l with body := { (rd s3).1 with qa := A7, qc := c7, kind := UInt8.ofNat k } })) (msgC ({ depM (o : Int) l with body := { (rd s3).1 with qa := A7, qc := c7, kind := UInt8.ofNat k } })) 34 ?_ ?_ ?_ ?_ ?_ ?_ ?_ ?_); (· rfl); (· rfl); (· exact D8.out.res); (· exact (HLM.out A7 c7).1); (· exact (HLM.out A7 c7).2.1); (· rfl); (· rfl); (· exact (HLM.out A7 c7).2.2); (· exact one_msgC _); intro w9 G9))
      exact bodyPost_ret (ret_range (cs := msgC ({ depM (o : Int) l with body := { (rd s3).1 with qa := A7, qc := c7, kind := UInt8.ofNat k } })) rfl rfl (range_of G9.out.1) Tryz.underlying34 rfl (HLM.out A7 c7).2.2) rfl ⟨A7, c7, rfl, (Q8.out.far G9.out.2 (by have := D8.out.lt; omega)).low (by have := D8.out.lt; omega), D8.out.cut.far G9.out.2 HG.out, Lib.hid (gb_new D8.out.gb G9.out.2 (Nat.le_refl _))⟩
set_option maxHeartbeats 8000000 in
theorem cutTaggedG_106 {w : World} {lo g : Nat} {s : Cst} (o k : Nat) (i : Nat) (l : List Nat) (s1 s2 s3 : Cst) (h : CtS w lo g s) (e1 : cByte s = (o, s1)) (e2 : cDeps 11 s1 = (l, s2)) (e3 : cByte s2 = (k, s3)) (hk : Instr.findNow (.int .u8) (.int .u8 (k : Int)) rdE.toList 0 = some (some (i, .func (.func 106) #[] #[]))) (rd : Cst → MBody × Cst) (hr : CutsG 106 rd) (hw : (rd s3).1.Wf) :
    Calls Tryz.prog 45 #[.pointer (some ⟨g, 0, none⟩)] w fun E w' => ∃ A7 c7, E = .returned (.agg (msgC ({ depM (o : Int) l with body := { (rd s3).1 with qa := A7, qc := c7, kind := UInt8.ofNat k } })).toArray) ∧ QOw w.heap.size w' A7 c7 (rd s3).1.qs ∧ CtS w' lo g (rd s3).2 ∧ Hid (w.grownBy w' (some g)) := by
  have HG := Lib.hid h.lt
  have hk256 : k < 256 := by have := cByte_lt s2; rw [e3] at this; exact this
  have ho256 : o < 256 := by have := cByte_lt s; rw [e1] at this; exact this
  have hcv : IntKind.i64.wrap (o : Int) = (o : Int) := by rw [IntKind.wrap_i64]; omega
  have hcv2 : RowKit.wrap64 (o : Int) = (o : Int) := by unfold RowKit.wrap64; omega
  have hl11 : l.length = 11 := by have := cDeps_len 11 s1; rw [e2] at this; exact this
  have HKT : Hid (((UInt8.ofNat k).toNat : Int) = (k : Int)) := Lib.hid (by simp; omega)
  have HKF := Lib.hid hk
  have HE := Lib.hid e2
  have HLL := Lib.hid hl11
  have HDL := Lib.hid (fun j => cDeps_len j s1)
  have hzm : ∀ w, (zeroValue 34).run Tryz.prog w = .ok (.agg (msgC zeroMsg).toArray) w := zero_msg
  have HZ0 : Hid ((w.alloc (.cells (msgC zeroMsg).toArray 34)).heap[w.heap.size]? = some (.cells (msgC zeroMsg).toArray 34 (0, 0))) := Lib.hid (heap_alloc_new w _)
  have HC0 := Lib.hid (h.below ((Below.refl _ _).alloc (Nat.le_refl _) (.cells (msgC zeroMsg).toArray 34)))
  have HB1 : Hid (Calls Tryz.prog 75 #[.pointer (some ⟨g, 0, none⟩)] (w.alloc (.cells (msgC zeroMsg).toArray 34)) fun E w' => E = .returned (.int .u8 (o : Int)) ∧ CtS w' lo g s1 ∧ Hid ((w.alloc (.cells (msgC zeroMsg).toArray 34)).grownBy w' (some g))) := Lib.hid (by have := byte_s HC0.out; rw [e1] at this; exact this)
  have HB2 : Hid (∀ W, CtS W lo g s2 → Calls Tryz.prog 75 #[.pointer (some ⟨g, 0, none⟩)] W fun E w' => E = .returned (.int .u8 (k : Int)) ∧ CtS w' lo g s3 ∧ Hid (W.grownBy w' (some g))) := Lib.hid (fun W hW => by have := byte_s hW; rw [e3] at this; exact this)
  have HL0 : Hid (0 + (msgC (depM (o : Int) [])).length ≤ (msgC zeroMsg).length ∧ setAll (msgC zeroMsg) 0 (msgC (depM (o : Int) [])) = msgC (depM (o : Int) []) ∧ (Tryz.prog.info? 34).map (·.size) = some (msgC (depM (o : Int) [])).length) := Lib.hid (by
    have h1 : (msgC zeroMsg).length = 121 := msgC_length ⟨rfl, zero_wf, rfl⟩
    have h2 : (msgC (depM (o : Int) [])).length = 121 := msgC_length (depM_wf (by simp))
    exact ⟨by omega, setAll_all (by rw [h1, h2]), by rw [h2]; exact Tryz.is34⟩)
  have HRD := Lib.hid hr
  have HWF : Hid (∀ A7 c7, ({ depM (o : Int) l with body := { (rd s3).1 with qa := A7, qc := c7, kind := UInt8.ofNat k } } : MMsg).Wf ∧ ({ (rd s3).1 with qa := A7, qc := c7 } : MBody).Wf) := Lib.hid fun A7 c7 => ⟨⟨(depM_wf (o := (o : Int)) (by omega)).1, hw, rfl⟩, hw⟩
  have HLM : Hid (∀ A7 c7, 0 + (msgC ({ depM (o : Int) l with body := { (rd s3).1 with qa := A7, qc := c7, kind := UInt8.ofNat k } })).length ≤ (msgC zeroMsg).length ∧ setAll (msgC zeroMsg) 0 (msgC ({ depM (o : Int) l with body := { (rd s3).1 with qa := A7, qc := c7, kind := UInt8.ofNat k } })) = msgC ({ depM (o : Int) l with body := { (rd s3).1 with qa := A7, qc := c7, kind := UInt8.ofNat k } }) ∧ (Tryz.prog.info? 34).map (·.size) = some (msgC ({ depM (o : Int) l with body := { (rd s3).1 with qa := A7, qc := c7, kind := UInt8.ofNat k } })).length) := Lib.hid fun A7 c7 => by
    have h1 : (msgC zeroMsg).length = 121 := msgC_length ⟨rfl, zero_wf, rfl⟩
    have h2 := msgC_length (HWF.out A7 c7).1
    exact ⟨by omega, setAll_all (by rw [h1, h2]), by rw [h2]; exact Tryz.is34⟩
  have HSB : Hid (∀ A7 c7, 13 + (bodyC { (rd s3).1 with qa := A7, qc := c7 }).length ≤ (msgC (depM (o : Int) l)).length ∧ setAll (msgC (depM (o : Int) l)) 13 (bodyC { (rd s3).1 with qa := A7, qc := c7 }) = msgC { depM (o : Int) l with body := { (rd s3).1 with qa := A7, qc := c7 } } ∧ (Tryz.prog.info? 32).map (·.size) = some (bodyC { (rd s3).1 with qa := A7, qc := c7 }).length) := Lib.hid fun A7 c7 => ⟨by rw [bodyC_length (HWF.out A7 c7).2, msgC_length (depM_wf (by omega))]; omega, set_body _ _ (depM_wf (by omega)) (HWF.out A7 c7).2, by rw [bodyC_length (HWF.out A7 c7).2]; exact Tryz.is32⟩
  have HSK : Hid (∀ A7 c7, (msgC { depM (o : Int) l with body := { (rd s3).1 with qa := A7, qc := c7 } }).set 13 (.int .u8 (k : Int)) = msgC ({ depM (o : Int) l with body := { (rd s3).1 with qa := A7, qc := c7, kind := UInt8.ofNat k } }) ∧ (msgC { depM (o : Int) l with body := { (rd s3).1 with qa := A7, qc := c7 } })[13]? = some (.int .u8 ((rd s3).1.kind.toNat : Int))) := Lib.hid fun A7 c7 => ⟨by rw [← HKT.out]; exact set_kind { depM (o : Int) l with body := { (rd s3).1 with qa := A7, qc := c7 } } _ ⟨(depM_wf (o := (o : Int)) (by omega)).1, (HWF.out A7 c7).2, rfl⟩, by simp [msgC, depM, u64s_length, hl11, bodyC]⟩
  clear h e1 e2 e3 hk HC0 hr hw
  go_enter Tryz.func45, Tryz.ntmps45
  go_wp2_with (first | (go_at_call 75; refine HB1.out.mono ?_; rintro E w1 ⟨rfl, hc1, hg1⟩; have C1 := Lib.hid hc1; clear hc1; have S1 : Hid (w.heap.size < w1.heap.size) := Lib.hid (Nat.lt_of_lt_of_le (by simp) hg1.out.size); have D1 : Hid (CtM w lo g w1.heap.size s1 zeroMsg (w1.alloc (.cells (msgC zeroMsg).toArray 34))) := Lib.hid ⟨C1.out.below ((Below.refl _ _).alloc (Nat.le_refl _) _), gb_new (gb_trans (World.grownBy_alloc w _ _) hg1.out) (World.grownBy_alloc w1 _ (some w.heap.size)) (Nat.le_refl _), (((Below.refl _ _).alloc (Nat.le_refl _) (.cells (msgC zeroMsg).toArray 34) : Below w1.heap.size _ _).block _ S1.out).trans ((hg1.out.block _ (by simp) (fun e => by injection e with e; have := HG.out; omega)).trans HZ0.out), heap_alloc_new w1 _, S1.out, HG.out⟩) | (refine wpList_store_part rfl 34 (.tmp 3) (.tmp 11) rfl w1.heap.size 0 (msgC zeroMsg) (msgC (depM (o : Int) [])) (msgC (depM (o : Int) [])) 34 D1.out.msg HL0.out.1 HL0.out.2.1 rfl rfl HL0.out.2.2 (one_msgC _) ?_; intro w2 G2; have D2 := Lib.hid (D1.out.put G2.out)))
  clear D1 G2 hg1 C1 S1
  have D3 : Hid (CtM w lo g w1.heap.size (cDeps 0 s1).2 (depM (o : Int) (cDeps 0 s1).1) w2) := D2
  clear D2
  generalize w1.heap.size = gm at D3 ⊢
  go_loopw [12] (fun v12 wr => ∃ j : Nat, j ≤ 11 ∧ v12 = .int .i64 (j : Int) ∧ Hid (CtM w lo g gm (cDeps j s1).2 (depM (o : Int) (cDeps j s1).1) wr)) (fun v12 _ => 11 - (intOf v12).toNat)
  case atStart => exact ⟨0, by omega, rfl, D3⟩
  case round =>
    clear D3
    obtain ⟨j, hj, rfl, D⟩ := hrel
    by_cases hjj : j < 11
    · have hib : ¬ (11 ≤ (j : Int)) := by omega
      have HW := Lib.hid (word_s D.out.cut)
      have HN : Hid ((msgC (depM (o : Int) (cDeps j s1).1)).set (2 + j) (.int .u64 ((cWord (cDeps j s1).2).1 : Int)) = msgC (depM (o : Int) (cDeps (j + 1) s1).1) ∧ (msgC (depM (o : Int) (cDeps j s1).1))[2 + j]? = some (.int .u64 0)) := Lib.hid ⟨by
        have := set_dep (o := (o : Int)) (l := (cDeps j s1).1) (by rw [HDL.out]; exact hjj) (cWord (cDeps j s1).2).1
        rw [HDL.out] at this
        exact this, by
        have hlen := HDL.out j
        have e : 11 - (cDeps j s1).1.length = (11 - (j + 1)) + 1 := by omega
        simp only [msgC, depM, u64s, List.map_append, List.map_replicate]
        rw [e, List.replicate_succ, show 2 + j = j + 1 + 1 by omega, List.getElem?_cons_succ, List.getElem?_cons_succ, List.append_assoc, List.getElem?_append_right (by simp [hlen])]
        simp [hlen]⟩
      generalize (cWord (cDeps j s1).2).1 = x at HW HN
      go_wp2_with (go_at_call 44; refine HW.out.mono ?_; rintro E w5 ⟨rfl, hc5, hg5⟩; have D5 := Lib.hid (D.out.turn hg5.out hc5); clear hc5 hg5; have cx : w5.cell? ⟨gm, 2 + j, none⟩ = some (.int .u64 0) := D5.out.cell _ _ HN.out.2; have hf := fun k => free_block D5.out.msg k)
      go_roundw
      case measure => simp [intOf] <;> omega
      case rel => exact ⟨j + 1, by omega, by go_num, Lib.hid (D5.out.set _ _ HN.out.1)⟩
    · obtain rfl : j = 11 := by omega
      have D4 : Hid (CtM w lo g gm s2 (depM (o : Int) l) wr) := Lib.hid (by have := D.out; rwa [HE.out] at this)
      have HB3 := Lib.hid (HB2.out _ D4.out.cut)
      go_wp2_with (first | (go_at_call 75; refine HB3.out.mono ?_; rintro E w5 ⟨rfl, hc5, hg5⟩; have D5 := Lib.hid (D4.out.turn hg5.out hc5); clear hc5 hg5) | (go_at_call 76; refine (readers_ms w5).mono ?_; rintro E w6 ⟨rfl, hm6, hb6⟩; have D6 := Lib.hid (D5.out.below hb6); have M6 := Lib.hid hm6; clear hm6 hb6) | (refine wpList_look_at rfl (.tmp 24) (.tmp 25) 99 5 _ .u8 rfl Tryz.underlying99 Tryz.underlying5 w5.heap.size rdE 6 (k : Int) _ i rfl M6.out rfl HKF.out ?_) | (go_at_call 106; refine (HRD.out w6 lo g s3 D6.out.cut).mono ?_; rintro E w7 ⟨A7, c7, rfl, hq7, hc7, hg7⟩; have hlt6 := D6.out.ltm; have D7 := Lib.hid (D6.out.turn hg7.out hc7); clear hc7 hg7) | ((with_reducible refine wpList_store_part ?_ 32 (.tmp 33) (.tmp 32) ?_ gm 13 (msgC (depM (o : Int) l)) (msgC { depM (o : Int) l with body := { (rd s3).1 with qa := A7, qc := c7 } }) (bodyC { (rd s3).1 with qa := A7, qc := c7 }) 34 ?_ ?_ ?_ ?_ ?_ ?_ ?_ ?_); (· rfl); (· rfl); (· exact D7.out.msg); (· exact (HSB.out A7 c7).1); (· exact (HSB.out A7 c7).2.1); (· rfl); (· rfl); (· exact (HSB.out A7 c7).2.2); (· exact one_bodyC _); intro w8 G8; have D8' := Lib.hid (D7.out.put G8.out); have ck : w8.cell? ⟨gm, 13, none⟩ = some (.int .u8 ((rd s3).1.kind.toNat : Int)) := D8'.out.cell _ _ (HSK.out A7 c7).2; have hf := fun j => free_block D8'.out.msg j; have D8 := Lib.hid (D8'.out.set 13 (.int .u8 (k : Int)) (HSK.out A7 c7).1); have Q8 : Hid (QOw (gm + 1) (w8.setCell ⟨gm, 13, none⟩ (.int .u8 (k : Int))) A7 c7 (rd s3).1.qs) := Lib.hid (((hq7.low (by omega)).far G8.out.2 (by omega)).far (gb_set _ _ _ _) (by omega))) | ((with_reducible refine wpList_load_midG ?_ 34 (.tmp 3) ?_ gm 0 ?_ (msgC ({ depM (o : Int) l with body := { (rd s3).1 with qa := A7, qc := c7, kind := UInt8.ofNat k } })) _ ?_ Tryz.underlying34 ?_ ?_ ?_); (· rfl); (· rfl); (· rfl); (· exact range_of D8.out.msg); (· rfl); (· exact (HLM.out A7 c7).2.2)) | ((with_reducible refine wpList_store_part ?_ 34 (.tmp 2) (.tmp 37) ?_ w.heap.size 0 (msgC zeroMsg) (msgC ({ depM (o : Int) l with body := { (rd s3).1 with qa := A7, qc := c7, kind := UInt8.ofNat k } })) (msgC ({ depM (o : Int) l with body := { (rd s3).1 with qa := A7, qc := c7, kind := UInt8.ofNat k } })) 34 ?_ ?_ ?_ ?_ ?_ ?_ ?_ ?_); (· rfl); (· rfl); (· exact D8.out.res); (· exact (HLM.out A7 c7).1); (· exact (HLM.out A7 c7).2.1); (· rfl); (· rfl); (· exact (HLM.out A7 c7).2.2); (· exact one_msgC _); intro w9 G9))
      exact bodyPost_ret (ret_range (cs := msgC ({ depM (o : Int) l with body := { (rd s3).1 with qa := A7, qc := c7, kind := UInt8.ofNat k } })) rfl rfl (range_of G9.out.1) Tryz.underlying34 rfl (HLM.out A7 c7).2.2) rfl ⟨A7, c7, rfl, (Q8.out.far G9.out.2 (by have := D8.out.lt; omega)).low (by have := D8.out.lt; omega), D8.out.cut.far G9.out.2 HG.out, Lib.hid (gb_new D8.out.gb G9.out.2 (Nat.le_refl _))⟩
end Go.Proofs.YtghjogneogkpoaaGreatDoor.Sh
