/- Laws and walks. -/
import Derived.Test.YtknpcmadghkaaaaGreatDoorV9w
set_option maxHeartbeats 16000000
set_option maxRecDepth 100000
namespace Go.Proofs.YtknpcmadghkaaaaGreatDoor.Sh
open Go.RowKit
def lastOf (qs : List (Int × Nat)) (j : Nat) : Int := match j with | 0 => 0 | i + 1 => (qs.getD i (0, 0)).1
theorem prsGo_step {qs : List (Int × Nat)} {j : Nat} {p : Int × Nat} (h : qs[j]? = some p) : prsGo (lastOf qs j) (qs.drop j) = (decide (lastOf qs j < p.1) && (isRepl p.1 && (isNum p.2 && prsGo (lastOf qs (j + 1)) (qs.drop (j + 1))))) := by
 obtain ⟨hj, rfl⟩ := List.getElem?_eq_some_iff.1 h
 rw [List.drop_eq_getElem_cons hj, prsGo]
 simp [lastOf, List.getD, hj]
theorem bodyr_4 (x : MBody) (w : World) (hx : x.Wf) (HKI : Hid (x.kind = 4)) (hq : Prs w x.qa x.qs) (qs : List (Int × Nat)) (hqg : x.qs = qs) (m : Nat) (hm : m = qs.length) (hm48 : m <= 140737488355328)
  (HV : ¬ ((x.view : Int) >= 1073741824)) (HV2 : ¬ (1073741824 <= x.view))
  (HO : Hid (∀ W, Below w.heap.size w W -> Calls Tryz.prog 109 #[.agg (bodyC x).toArray] W fun E w' => E = .returned (.agg (bodyC (ownR x)).toArray) /\ Hid (Below W.heap.size W w')))
  (HS : Hid (∀ W, Below w.heap.size w W -> Calls Tryz.prog 108 #[.agg (bodyC (ownR x)).toArray, .agg (bodyC x).toArray] W fun E w' => E = .returned (.bool true) /\ Hid (Below W.heap.size W w'))) :
  Calls Tryz.prog 70 #[.agg (bodyC x).toArray] w fun E w' => E = .returned (.bool (decide (1 <= x.view) && prsMay qs)) /\ Hid (Below w.heap.size w w') := by
 have HB := iq (body_lies (range_box w (bodyC x) 35) hx)
 have HX := iq hx
 have HI : Hid ((Tryz.prog.info? 35).map (·.size) = some (bodyC x).length) := iq (by rw [bodyC_length hx]; exact Tryz.is35)
 have HL : Hid (RqAt w.heap.size w (bodyC x) (w.alloc (.cells (bodyC x).toArray 35))) := iq ⟨bl.alloc (Nat.le_refl _) _, by simp, range_box w (bodyC x) 35⟩
 have HQP := iq hq
 have HQG := iq hqg
 have HMQ := iq hm
 clear hx hq hqg hm
 go_enter Tryz.func70, Tryz.ntmps70
 go_wp2_with fail
 refine wp_region_any (by kernel_rfl) ?_
 have H3 := iq (HL.out.drewN 1)
 change wpAny _ _ _ _ _ _ _ ((w.alloc (.cells (bodyC x).toArray 35)).drewN 1)
 generalize (w.alloc (.cells (bodyC x).toArray 35)).drewN 1 = w3 at H3 ⊢
 clear HL HB
 refine wpAny_of_held (S := fun W => W.rangeAt w.heap.size 0 (bodyC x)) _ _ _ _ ?_
 refine tk 0 ⟨some 5, .load 35 (.tmp 1), _, _, _, none⟩ (.agg (bodyC x).toArray) rfl (by kernel_rfl) (fun _ _ _ => id) (H3.out.src) (fun W hSW => exec_load_mid 35 (.tmp 1) rfl w.heap.size 0 rfl (bodyC x) _ (hSW) Tryz.underlying35 rfl (HI.out)) ?_
 try simp only [Act.put, l0, l1, l2]
 refine tk 2 ⟨some 7, .load 35 (.tmp 1), _, _, _, none⟩ (.agg (bodyC x).toArray) rfl (by kernel_rfl) (fun _ _ _ => id) (H3.out.src) (fun W hSW => exec_load_mid 35 (.tmp 1) rfl w.heap.size 0 rfl (bodyC x) _ (hSW) Tryz.underlying35 rfl (HI.out)) ?_
 try simp only [pu, l0, l1, l2]
 refine rd1 1 ⟨some 6, .call { callee := .value (.func 109), args := #[.tmp 5], argTypes := #[35] }, _, _, _, none⟩ (by kernel_rfl) rfl fun K' hK' => ?_
 go_simp
 go_at_call 109
 refine (HO.out w3 H3.out.bel).mono ?_
 rintro E w4 ⟨rfl, b4⟩
 have H4 := iq (H3.out.next (Nat.le_refl _) b4.out)
 refine hK'.out _ _ (H4.out.src) (fun _ => ?_)
 clear hK' K'
 try simp only [Act.put, l0, l1, l2]
 refine rd1 3 ⟨some 8, .call { callee := .value (.func 108), args := #[.tmp 6, .tmp 7], argTypes := #[35, 35] }, _, _, _, none⟩ (by kernel_rfl) rfl fun K' hK' => ?_
 go_simp
 go_at_call 108
 refine (HS.out w4 H4.out.bel).mono ?_
 rintro E w5 ⟨rfl, b5⟩
 have H5 := iq (H4.out.next (Nat.le_refl _) b5.out)
 refine hK'.out _ _ (H5.out.src) (fun _ => ?_)
 clear hK' K'
 try simp only [Act.put, l0, l1, l2]
 refine tk 4 ⟨some 9, .unOp .not 4 (.tmp 8), _, _, _, none⟩ (.bool false) rfl (by kernel_rfl) (fun _ _ _ => id) (H5.out.src) (fun W hSW => by go_simp) ?_
 try simp only [pu, l0, l1, l2]
 refine tk 5 ⟨some 10, .move (.tmp 9), _, _, _, none⟩ (.bool false) rfl (by kernel_rfl) (fun _ _ _ => id) (H5.out.src) (fun W hSW => by go_simp) ?_
 try simp only [pu, l0, l1, l2]
 refine tk 6 ⟨some 11, .fieldAddr 35 (.tmp 1) 1, _, _, _, some (5, false)⟩ (.pointer (some ⟨w.heap.size, 1, none⟩)) rfl (by kernel_rfl) (fun _ _ _ => id) (H5.out.src) (fun W hSW => by go_simp) ?_
 try simp only [pu, l0, l1, l2]
 refine tk 7 ⟨some 12, .load 25 (.tmp 11), _, _, _, some (5, false)⟩ (.int .u64 (x.view : Int)) rfl (by kernel_rfl) (fun _ _ _ => id) (H5.out.src) (fun W hSW => by have hv := (body_lies hSW HX.out).view; go_simp) ?_
 try simp only [pu, l0, l1, l2]
 refine tk 8 ⟨some 13, .binOp .geq 25 (.tmp 12) (.const (.int .u64 1073741824)) 25, _, _, _, some (5, false)⟩ (.bool false) rfl (by kernel_rfl) (fun _ _ _ => id) (H5.out.src) (fun W hSW => by have hv := HV; have hv2 := HV2; go_simp) ?_
 try simp only [pu, l0, l1, l2]
 refine tk 9 ⟨some 14, .pick (.tmp 10) (.const (.bool true)) (.tmp 13), _, _, _, none⟩ (.bool false) rfl (by kernel_rfl) (fun _ _ _ => id) (H5.out.src) (fun W hSW => by go_simp) ?_
 try simp only [pu, l0, l1, l2]
 refine wpAnyH_done (by kernel_rfl) ?_ _
 have k0 : w5.cell? ⟨w.heap.size, 0, none⟩ = some (.int .u8 4) := (body_lies H5.out.src HX.out).kind.trans (by rw [HKI.out]; rfl)
 clear HV HV2 HO HS b4 b5 H3 H4
 go_wp2_with fail
 clear k0
 have HZ : Hid (x.qv = .slice x.qa m x.qc) := iq (by rw [MBody.qv, HQG.out, <- HMQ.out])
 have D5 : Hid (RqAt w.heap.size w (bodyC x) w5 /\ prsGo 0 qs = prsGo (lastOf qs 0) (qs.drop 0)) := iq ⟨H5.out, by simp [lastOf]⟩
 clear H5
 go_loopw [3] (fun v3 wr => ∃ j : Nat, j <= m /\ v3 = .int .i64 (j : Int) /\ Hid (RqAt w.heap.size w (bodyC x) wr /\ prsGo 0 qs = prsGo (lastOf qs j) (qs.drop j))) (fun v3 _ => m - (intOf v3).toNat)
 case atStart => exact ⟨0, by omega, rfl, D5⟩
 case round =>
  clear D5
  obtain ⟨j, hj, rfl, D⟩ := hrel
  have q43 : wr.cell? ⟨w.heap.size, 43, none⟩ = some (.slice x.qa m x.qc) := ((body_lies D.out.1.src HX.out).q).trans (by rw [HZ.out])
  have v1 : wr.cell? ⟨w.heap.size, 1, none⟩ = some (.int .u64 (x.view : Int)) := (body_lies D.out.1.src HX.out).view
  by_cases hjj : j < m
  ·obtain ⟨p, hp⟩ : ∃ p, qs[j]? = some p := ⟨_, List.getElem?_eq_getElem (by rw [<- HMQ.out]; exact hjj)⟩
   obtain ⟨bq, oq, hqa, hbq, hcq⟩ := HQP.out (by rw [HQG.out, <- HMQ.out]; omega)
   rw [HQG.out] at hcq
   have p0 : wr.cell? ⟨bq, oq + j * 2, none⟩ = some (.int .i64 p.1) := (D.out.1.bel.cell (p := ⟨bq, oq + j * 2, none⟩) hbq).trans (hcq j p hp).1
   have p1 : wr.cell? ⟨bq, oq + j * 2 + 1, none⟩ = some (.int .u64 (p.2 : Int)) := (D.out.1.bel.cell (p := ⟨bq, oq + j * 2 + 1, none⟩) hbq).trans (hcq j p hp).2
   have HP := iq hp
   have HST := iq (prsGo_step hp)
   obtain ⟨px, py⟩ := p
   rw [hqa] at q43
   clear hp
   dsimp only at p0 p1 HST
   go_wp2_with fail
   have D8 : Hid (RqAt w.heap.size w (bodyC x) (wr.alloc (.cells #[.int .i64 px, .int .u64 (py : Int)] 78)) /\ Below wr.heap.size wr (wr.alloc (.cells #[.int .i64 px, .int .u64 (py : Int)] 78))) := iq ⟨D.out.1.next (Nat.le_refl _) (bl.alloc (Nat.le_refl _) _), bl.alloc (Nat.le_refl _) _⟩
   have c0 : (wr.alloc (.cells #[.int .i64 px, .int .u64 (py : Int)] 78)).cell? ⟨wr.heap.size, 0, none⟩ = some (.int .i64 px) := range_box wr [.int .i64 px, .int .u64 (py : Int)] 78 0 _ rfl
   have c1 : (wr.alloc (.cells #[.int .i64 px, .int .u64 (py : Int)] 78)).cell? ⟨wr.heap.size, 1, none⟩ = some (.int .u64 (py : Int)) := range_box wr [.int .i64 px, .int .u64 (py : Int)] 78 1 _ rfl
   have c43 : (wr.alloc (.cells #[.int .i64 px, .int .u64 (py : Int)] 78)).cell? ⟨w.heap.size, 43, none⟩ = some (.slice (some ⟨bq, oq, none⟩) m x.qc) := (D8.out.2.cell (p := ⟨w.heap.size, 43, none⟩) D.out.1.lt).trans q43
   have HCQ : Hid (∀ (i : Nat) (p : Int × Nat), qs[i]? = some p -> (wr.alloc (.cells #[.int .i64 px, .int .u64 (py : Int)] 78)).cell? ⟨bq, oq + i * 2, none⟩ = some (.int .i64 p.1)) := iq fun i p hi => (D8.out.2.cell (p := ⟨bq, oq + i * 2, none⟩) (Nat.lt_of_lt_of_le hbq D.out.1.bel.size)).trans ((D.out.1.bel.cell (p := ⟨bq, oq + i * 2, none⟩) hbq).trans (hcq i p hi).1)
   clear p0 p1 q43 v1 hcq
   generalize wr.alloc (.cells #[.int .i64 px, .int .u64 (py : Int)] 78) = w8 at D8 c0 c1 c43 HCQ ⊢
   have NO : Hid ((decide (lastOf qs j < px) && (isRepl px && isNum py)) = false -> false = (decide (1 <= x.view) && prsMay qs)) := iq (fun h => by
    have e := D.out.2
    rw [HST.out] at e
    have : prsGo 0 qs = false := by
     rw [e]
     revert h
     cases decide (lastOf qs j < px) <;> cases isRepl px <;> cases isNum py <;> simp
    simp [prsMay, this])
   by_cases x1 : px < 1
   ·have t5862 : decide (px < 1) = true := decide_eq_true (by omega)
    go_quiet (fail)
    go_wp2_with fail
    go_ret
    refine ⟨ret_bool (NO.out (by simp [isRepl]; omega)), iq ?_⟩
    exact below_drewN D8.out.1.bel _
   ·have t5862 : decide (px < 1) = false := decide_eq_false (by omega)
    by_cases x2 : px > 11
    ·have t4081 : decide (px > 11) = true := decide_eq_true (by omega)
     have t7316 : decide (11 < px) = true := decide_eq_true (by omega)
     go_quiet (fail)
     go_wp2_with fail
     go_ret
     refine ⟨ret_bool (NO.out (by simp [isRepl]; omega)), iq ?_⟩
     exact below_drewN D8.out.1.bel _
    ·have t4081 : decide (px > 11) = false := decide_eq_false (by omega)
     have t7316 : decide (11 < px) = false := decide_eq_false (by omega)
     have HXR : Hid (isRepl px = true) := iq (by simp [isRepl]; omega)
     clear x1 x2
     cases j with
     | zero =>
      have HLA : Hid (decide (lastOf qs 0 < px) = true) := iq (by have := HXR.out; simp [isRepl] at this; exact decide_eq_true (show (0 : Int) < px by omega))
      by_cases y1 : (py : Int) < 1
      ·have t8813 : decide ((py : Int) < 1) = true := decide_eq_true (by omega)
       go_quiet (fail)
       go_wp2_with fail
       go_ret
       refine ⟨ret_bool (NO.out (by rw [show isNum py = false from decide_eq_false (by omega)]; simp)), iq ?_⟩
       exact below_drewN D8.out.1.bel _
      ·have t8813 : decide ((py : Int) < 1) = false := decide_eq_false (by omega)
       by_cases y2 : (py : Int) > 65536
       ·have t2979 : decide ((py : Int) > 65536) = true := decide_eq_true (by omega)
        have t5886 : decide (65536 < (py : Int)) = true := decide_eq_true (by omega)
        go_quiet (fail)
        go_wp2_with fail
        go_ret
        refine ⟨ret_bool (NO.out (by rw [show isNum py = false from decide_eq_false (by omega)]; simp)), iq ?_⟩
        exact below_drewN D8.out.1.bel _
       ·have t2979 : decide ((py : Int) > 65536) = false := decide_eq_false (by omega)
        have t5886 : decide (65536 < (py : Int)) = false := decide_eq_false (by omega)
        have HYN : Hid (isNum py = true) := iq (by simp [isNum]; omega)
        go_quiet (fail)
        go_wp2_with fail
        go_roundw
        case measure => simp [intOf] <;> omega
        case rel => exact ⟨0 + 1, by omega, by go_num, iq ⟨D8.out.1.drewN _, by rw [D.out.2, HST.out, HXR.out, HYN.out, HLA.out]; rfl⟩⟩
     | succ i =>
      obtain ⟨⟨qx, qy⟩, hqi⟩ : ∃ q, qs[i]? = some q := ⟨_, List.getElem?_eq_getElem (by rw [<- HMQ.out]; omega)⟩
      have cq := HCQ.out i _ hqi
      dsimp only at cq
      have HLI : Hid (lastOf qs (i + 1) = qx) := iq (by simp [lastOf, List.getD, hqi])
      clear hqi
      have w1 : IntKind.i64.wrap ((i : Int) + 1 - 1) = (i : Int) := by rw [IntKind.wrap_i64]; omega
      have w2 : (0 : Int) <= (i : Int) := by omega
      have w3 : (i : Int) < (m : Int) := by omega
      have w4 : ((i : Int) + 1) > 0 := by omega
      have w5 : decide ((i : Int) + 1 > 0) = true := by simp only [decide_eq_true_eq]; omega
      by_cases xq : px <= qx
      ·have t9959 : decide (px <= qx) = true := decide_eq_true (by omega)
       go_quiet (fail)
       go_wp2_with fail
       go_ret
       refine ⟨ret_bool (NO.out (by rw [HLI.out, show decide (qx < px) = false from decide_eq_false (by omega)]; simp)), iq ?_⟩
       exact below_drewN D8.out.1.bel _
      ·have t9959 : decide (px <= qx) = false := decide_eq_false (by omega)
       have HLA : Hid (decide (lastOf qs (i + 1) < px) = true) := iq (by rw [HLI.out]; exact decide_eq_true (by omega))
       by_cases y1 : (py : Int) < 1
       ·have t8813 : decide ((py : Int) < 1) = true := decide_eq_true (by omega)
        go_quiet (fail)
        go_wp2_with fail
        go_ret
        refine ⟨ret_bool (NO.out (by rw [show isNum py = false from decide_eq_false (by omega)]; simp)), iq ?_⟩
        exact below_drewN D8.out.1.bel _
       ·have t8813 : decide ((py : Int) < 1) = false := decide_eq_false (by omega)
        by_cases y2 : (py : Int) > 65536
        ·have t2979 : decide ((py : Int) > 65536) = true := decide_eq_true (by omega)
         have t5886 : decide (65536 < (py : Int)) = true := decide_eq_true (by omega)
         go_quiet (fail)
         go_wp2_with fail
         go_ret
         refine ⟨ret_bool (NO.out (by rw [show isNum py = false from decide_eq_false (by omega)]; simp)), iq ?_⟩
         exact below_drewN D8.out.1.bel _
        ·have t2979 : decide ((py : Int) > 65536) = false := decide_eq_false (by omega)
         have t5886 : decide (65536 < (py : Int)) = false := decide_eq_false (by omega)
         have HYN : Hid (isNum py = true) := iq (by simp [isNum]; omega)
         go_quiet (fail)
         go_wp2_with fail
         go_roundw
         case measure => simp [intOf] <;> omega
         case rel => exact ⟨(i + 1) + 1, by omega, by go_num, iq ⟨D8.out.1.drewN _, by rw [D.out.2, HST.out, HXR.out, HYN.out, HLA.out]; rfl⟩⟩
  ·obtain rfl : j = m := by omega
   have HE : Hid (prsGo 0 qs = true) := iq (by rw [D.out.2, List.drop_of_length_le (by rw [<- HMQ.out]; exact Nat.le_refl _), prsGo])
   by_cases hv : (1 : Int) <= (x.view : Int)
   ·have hv2 : 1 <= x.view := by omega
    by_cases hz : (1 : Int) <= (j : Int)
    ·go_wp2_with fail
     go_ret
     exact ⟨ret_bool (by simp [prsMay, HE.out, hv2, <- HMQ.out]; omega), iq D.out.1.bel⟩
    ·go_wp2_with fail
     go_ret
     exact ⟨ret_bool (by simp [prsMay, HE.out, <- HMQ.out]; omega), iq D.out.1.bel⟩
   ·have hv2 : ¬ (1 <= x.view) := by omega
    go_wp2_with fail
    go_ret
    exact ⟨ret_bool (by simp), iq D.out.1.bel⟩
open Classical in
theorem body_rfx (x : MBody) (w : World) (hx : x.Wf) (hq : Prs w x.qa x.qs) (hn : x.qs.length <= 140737488355328) :
  Calls Tryz.prog 70 #[.agg (bodyC x).toArray] w fun E w' => E = .returned (.bool (decide x.may)) /\ Hid (Below w.heap.size w w') := by
 refine body_rf x w hx hq hn fun e hv hs => ?_
 rw [show kindMay x = (decide (1 <= x.view) && prsMay x.qs) by simp [kindMay, e]]
 exact bodyr_4 x w hx (iq e) hq x.qs rfl _ rfl hn (by omega) (by omega) (iq fun W _ => own_rf x W hx)
  (iq fun W h => (sameBody_rf (ownR x) x W (ownR_wf hx) hx (ownR_prs (hq.below h)) (hq.below h) (Nat.le_trans (ownR_len x) hn) hn).mono fun _ _ hE => ⟨bool_of hE.1 hs, iq hE.2⟩)
open Classical in
theorem may_rf (m : MMsg) (w : World) (hm : m.Wf) (hq : Prs w m.body.qa m.body.qs) (hn : m.body.qs.length <= 140737488355328) :
  Calls Tryz.prog 41 #[.agg (msgC m).toArray] w fun E w' => E = .returned (.bool (decide m.may)) /\ Hid (Below w.heap.size w w') :=
 may_rf_by m w hm (iq fun W h => body_rfx m.body W hm.2.1 (hq.below h) hn)
end Go.Proofs.YtknpcmadghkaaaaGreatDoor.Sh
