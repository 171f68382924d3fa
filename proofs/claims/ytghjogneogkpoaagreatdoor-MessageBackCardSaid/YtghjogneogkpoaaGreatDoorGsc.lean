/-
  What is proved: what Of answers. Conditions as stated.
-/
import Derived.Test.YtghjogneogkpoaaGreatDoorGrc
import Derived.Test.YtghjogneogkpoaaGreatDoorQac
namespace Go.Proofs.YtghjogneogkpoaaGreatDoor.Sh
open Go.RowKit
set_option maxRecDepth 100000


theorem BxR.far {w : World} {C Z : List Value} {t u : TypeId} {wr w' : World} {k : Nat} (H : BxR w C Z t u wr) (hg : wr.grownBy w' (some k)) (hk : w.heap.size + 1 < k) : BxR w C Z t u w' :=
  ⟨H.bel.grown hg H.bel.size (fun j hj => by injection hj with hj; omega), Nat.lt_of_lt_of_le H.lt hg.size, (hg.block _ H.lt0 (fun e => by injection e with e; omega)).trans H.box, (hg.block _ H.lt (fun e => by injection e with e; omega)).trans H.res⟩
theorem BxR.fin {w : World} {C Z : List Value} {t u : TypeId} {wr w' : World} (H : BxR w C Z t u wr) (hg : wr.grownBy w' (some (w.heap.size + 1))) : Below w.heap.size w w' := H.bel.grown hg H.bel.size (fun j hj => by injection hj with hj; omega)
set_option maxHeartbeats 8000000 in
theorem of_ne (A : Option Addr) (N c : Nat) (bs : List UInt8) (i : Int) (n : Nat) (t : List UInt8) (w : World) (X : MMsg) (s2 : Cst) (hr : Oct.Rd w A N bs) (hs : Oct.Sl A N c) (hN : N ≤ 140737488355328) (hX : X.Wf)
    (hct : ∀ (W : World) (lo g : Nat), CtS W lo g (bs, false) → Calls Tryz.prog 45 #[.pointer (some ⟨g, 0, none⟩)] W fun E w' => ∃ A7 c7, E = .returned (.agg (msgC (wq X A7 c7)).toArray) ∧ QOw W.heap.size w' A7 c7 X.body.qs ∧ CtS w' lo g s2 ∧ Hid (W.grownBy w' (some g))) (hoi : ¬ X.origin = i) :
    Calls Tryz.prog 23 #[.int .i64 i, .int .u64 (n : Int), .slice A N c, .agg (u8s t).toArray] w fun E w' => E = .returned (.tuple #[.agg (msgC zeroMsg).toArray, .int .i64 5]) ∧ Hid (Below w.heap.size w w') := by
  have HX := Lib.hid hX
  have hzl : (msgC zeroMsg).length = 121 := msgC_length zeroM_wf
  have ok : ∀ Y : MMsg, Y.Wf → 0 + (msgC Y).length ≤ (msgC zeroMsg).length ∧ setAll (msgC zeroMsg) 0 (msgC Y) = msgC Y ∧ (Tryz.prog.info? 34).map (·.size) = some (msgC Y).length := fun Y hY =>
    ⟨by rw [msgC_length hY]; omega, setAll_all (hzl.trans (msgC_length hY).symm), by rw [msgC_length hY]; exact Tryz.is34⟩
  have HM := Lib.hid (fun A7 c7 => ok (wq X A7 c7) hX)
  have hz : ∀ w, (zeroValue 34).run Tryz.prog w = .ok (.agg (msgC zeroMsg).toArray) w := zero_msg
  have hbz : ∀ w, (Instr.build 34 #[]).run Tryz.prog w = .ok (.agg (msgC zeroMsg).toArray) w := fun w => by kernel_rfl
  have H0 := Lib.hid (BxR.start w (u8s t) (msgC zeroMsg) 27 34)
  have HNW := Lib.hid (Oct.new_any A N c bs ((w.alloc (.cells (u8s t).toArray 27)).alloc (.cells (msgC zeroMsg).toArray 34)) (hr.below (((Below.refl _ _).alloc (Nat.le_refl _) _).alloc (by simp) _)) hs hN)
  have HCT : Hid (∀ (W : World) (lo g : Nat), CtS W lo g (bs, false) → Calls Tryz.prog 45 #[.pointer (some ⟨g, 0, none⟩)] W fun E w' => ∃ A7 c7, E = .returned (.agg (msgC (wq X A7 c7)).toArray) ∧ QOw W.heap.size w' A7 c7 X.body.qs ∧ CtS w' lo g s2 ∧ Hid (W.grownBy w' (some g))) := Lib.hid hct
  have HZM := Lib.hid (ok zeroMsg zeroM_wf)
  clear hr hs hct hX ok hzl
  go_enter Tryz.func23, Tryz.ntmps23
  go_wp2_with (first | (go_at_call 43; refine HNW.out.mono ?_; rintro E w1 ⟨g, rfl, hg, hc, hb⟩; have C1 : Hid (CtS w1 ((w.alloc (.cells (u8s t).toArray 27)).alloc (.cells (msgC zeroMsg).toArray 34)).heap.size g (bs, false)) := Lib.hid hc; have H1 := Lib.hid (H0.out.next hb); have G1 : Hid (w.heap.size + 1 < g) := Lib.hid (Nat.lt_of_lt_of_le H0.out.lt hg)) | (go_at_call 45; (with_reducible refine (HCT.out _ _ _ C1.out).mono ?_); rintro E w2 ⟨A7, c7, rfl, Q2, hc2, hg2⟩; have H2 := Lib.hid (H1.out.far hg2.out G1.out); have L1 := Lib.hid C1.out.lt) | ((with_reducible refine wpList_store_part ?_ 34 (.tmp 11) (.tmp 15) ?_ w2.heap.size 0 (msgC zeroMsg) (msgC (wq X A7 c7)) (msgC (wq X A7 c7)) 34 ?_ ?_ ?_ ?_ ?_ ?_ ?_ ?_); (· rfl); (· rfl); (· exact heap_alloc_new w2 _); (· exact (HM.out A7 c7).1); (· exact (HM.out A7 c7).2.1); (· rfl); (· rfl); (· exact (HM.out A7 c7).2.2); (· exact one_msgC _); intro w3 G3; have b3 := Lib.hid (below_made G3.out.2); have H3 := Lib.hid (H2.out.next b3.out); have M3 : Hid (Bk w3 w2.heap.size (msgC (wq X A7 c7)) 34) := Lib.hid G3.out.1; have C3 := Lib.hid (CtS.below hc2 b3.out); have o3 : w3.cell? ⟨w2.heap.size, 0, none⟩ = some (.int .i64 X.origin) := (msg_lies M3.out.src HX.out).origin) | ((with_reducible refine wpList_store_part ?_ 34 (.tmp 8) (.tmp 20) ?_ (w.heap.size + 1) 0 (msgC zeroMsg) (msgC zeroMsg) (msgC zeroMsg) 34 ?_ ?_ ?_ ?_ ?_ ?_ ?_ ?_); (· rfl); (· rfl); (· exact H3.out.res); (· exact HZM.out.1); (· exact HZM.out.2.1); (· rfl); (· rfl); (· exact HZM.out.2.2); (· exact one_msgC _); intro w9 G9))
  exact bodyPost_ret (ret_range2 (cs := msgC zeroMsg) rfl rfl rfl (range_of G9.out.1) Tryz.underlying34 rfl HZM.out.2.2) rfl ⟨rfl, Lib.hid (H3.out.fin G9.out.2)⟩
set_option maxHeartbeats 8000000 in
theorem of_eq (A : Option Addr) (N c : Nat) (bs : List UInt8) (i : Int) (n : Nat) (t : List UInt8) (w : World) (X : MMsg) (s2 : Cst) (hr : Oct.Rd w A N bs) (hs : Oct.Sl A N c) (hN : N ≤ 140737488355328) (ht : t.length = 32) (hX : X.Wf)
    (hct : ∀ (W : World) (lo g : Nat), CtS W lo g (bs, false) → Calls Tryz.prog 45 #[.pointer (some ⟨g, 0, none⟩)] W fun E w' => ∃ A7 c7, E = .returned (.agg (msgC (wq X A7 c7)).toArray) ∧ QOw W.heap.size w' A7 c7 X.body.qs ∧ CtS w' lo g s2 ∧ Hid (W.grownBy w' (some g))) (hoi : X.origin = i) (hl : X.body.qs.length ≤ 140737488355328) :
    Calls Tryz.prog 23 #[.int .i64 i, .int .u64 (n : Int), .slice A N c, .agg (u8s t).toArray] w fun E w' => ∃ A7 c7, E = .returned (.tuple #[.agg (msgC (wholeM (gotM n (wq X A7 c7) t) s2).1).toArray, .int .i64 (wholeM (gotM n (wq X A7 c7) t) s2).2]) ∧ QOw w.heap.size w' A7 c7 X.body.qs ∧ Hid (Below w.heap.size w w') := by
  have HX := Lib.hid hX
  have hzl : (msgC zeroMsg).length = 121 := msgC_length zeroM_wf
  have ok : ∀ Y : MMsg, Y.Wf → 0 + (msgC Y).length ≤ (msgC zeroMsg).length ∧ setAll (msgC zeroMsg) 0 (msgC Y) = msgC Y ∧ (Tryz.prog.info? 34).map (·.size) = some (msgC Y).length := fun Y hY =>
    ⟨by rw [msgC_length hY]; omega, setAll_all (hzl.trans (msgC_length hY).symm), by rw [msgC_length hY]; exact Tryz.is34⟩
  have HM := Lib.hid (fun A7 c7 => ok (wq X A7 c7) hX)
  have hz : ∀ w, (zeroValue 34).run Tryz.prog w = .ok (.agg (msgC zeroMsg).toArray) w := zero_msg
  have hbz : ∀ w, (Instr.build 34 #[]).run Tryz.prog w = .ok (.agg (msgC zeroMsg).toArray) w := fun w => by kernel_rfl
  have H0 := Lib.hid (BxR.start w (u8s t) (msgC zeroMsg) 27 34)
  have HNW := Lib.hid (Oct.new_any A N c bs ((w.alloc (.cells (u8s t).toArray 27)).alloc (.cells (msgC zeroMsg).toArray 34)) (hr.below (((Below.refl _ _).alloc (Nat.le_refl _) _).alloc (by simp) _)) hs hN)
  have HCT : Hid (∀ (W : World) (lo g : Nat), CtS W lo g (bs, false) → Calls Tryz.prog 45 #[.pointer (some ⟨g, 0, none⟩)] W fun E w' => ∃ A7 c7, E = .returned (.agg (msgC (wq X A7 c7)).toArray) ∧ QOw W.heap.size w' A7 c7 X.body.qs ∧ CtS w' lo g s2 ∧ Hid (W.grownBy w' (some g))) := Lib.hid hct
  have hgm : ∀ A7 c7, (gotM n (wq X A7 c7) t).Wf := fun _ _ => ⟨hX.1, hX.2.1, ht⟩
  have HR := Lib.hid (fun A7 c7 => ok (wholeM (gotM n (wq X A7 c7) t) s2).1 (wholeM_wf (hgm A7 c7) s2))
  have HG' := Lib.hid (fun A7 c7 => (ok (gotM n (wq X A7 c7) t) (hgm A7 c7)).2.2)
  have HJ : Hid ((Tryz.prog.info? 27).map (·.size) = some (u8s t).length) := Lib.hid (by rw [u8s_length, ht]; exact Tryz.size27)
  have HS2 : Hid (∀ A7 c7, 89 + (u8s t).length ≤ (msgC { wq X A7 c7 with number := n }).length ∧ setAll (msgC { wq X A7 c7 with number := n }) 89 (u8s t) = msgC (gotM n (wq X A7 c7) t)) := Lib.hid fun A7 c7 => ⟨by rw [u8s_length, ht, msgC_length (m := { wq X A7 c7 with number := n }) hX]; omega, set_tag { wq X A7 c7 with number := n } t hX ht⟩
  have HWH : Hid (∀ (A7 : Option Addr) (c7 : Nat) (W : World) (lo g : Nat), CtS W lo g s2 → ∀ {B : Nat}, QOw B W A7 c7 X.body.qs → Calls Tryz.prog 47 #[.agg (msgC (gotM n (wq X A7 c7) t)).toArray, .pointer (some ⟨g, 0, none⟩)] W fun E w' => E = .returned (.tuple #[.agg (msgC (wholeM (gotM n (wq X A7 c7) t) s2).1).toArray, .int .i64 (wholeM (gotM n (wq X A7 c7) t) s2).2]) ∧ Hid (Below W.heap.size W w')) :=
    Lib.hid fun A7 c7 W lo g h B hq => whole_ms (gotM n (wq X A7 c7) t) s2 h (hgm A7 c7) hq.prs hl
  clear hr hs hct hX ok hzl ht hgm
  go_enter Tryz.func23, Tryz.ntmps23
  go_wp2_with (first | (go_at_call 43; refine HNW.out.mono ?_; rintro E w1 ⟨g, rfl, hg, hc, hb⟩; have C1 : Hid (CtS w1 ((w.alloc (.cells (u8s t).toArray 27)).alloc (.cells (msgC zeroMsg).toArray 34)).heap.size g (bs, false)) := Lib.hid hc; have H1 := Lib.hid (H0.out.next hb); have G1 : Hid (w.heap.size + 1 < g) := Lib.hid (Nat.lt_of_lt_of_le H0.out.lt hg)) | (go_at_call 45; (with_reducible refine (HCT.out _ _ _ C1.out).mono ?_); rintro E w2 ⟨A7, c7, rfl, Q2, hc2, hg2⟩; have H2 := Lib.hid (H1.out.far hg2.out G1.out); have L1 := Lib.hid C1.out.lt) | ((with_reducible refine wpList_store_part ?_ 34 (.tmp 11) (.tmp 15) ?_ w2.heap.size 0 (msgC zeroMsg) (msgC (wq X A7 c7)) (msgC (wq X A7 c7)) 34 ?_ ?_ ?_ ?_ ?_ ?_ ?_ ?_); (· rfl); (· rfl); (· exact heap_alloc_new w2 _); (· exact (HM.out A7 c7).1); (· exact (HM.out A7 c7).2.1); (· rfl); (· rfl); (· exact (HM.out A7 c7).2.2); (· exact one_msgC _); intro w3 G3; have b3 := Lib.hid (below_made G3.out.2); have H3 := Lib.hid (H2.out.next b3.out); have M3 : Hid (Bk w3 w2.heap.size (msgC (wq X A7 c7)) 34) := Lib.hid G3.out.1; have C3 := Lib.hid (CtS.below hc2 b3.out); have o3 : w3.cell? ⟨w2.heap.size, 0, none⟩ = some (.int .i64 X.origin) := (msg_lies M3.out.src HX.out).origin))
  have L2 : Hid (w.heap.size + 1 < w2.heap.size) := Lib.hid (Nat.lt_of_lt_of_le (Nat.lt_trans G1.out L1.out) hg2.out.size)
  have L3 : Hid (g < w2.heap.size) := Lib.hid (Nat.lt_of_lt_of_le L1.out hg2.out.size)
  refine wp_region_any (by kernel_rfl) ?_
  have H4 := Lib.hid (H3.out.drewN 1)
  have HW4 : Hid (∀ gq : Nat, (w3.drewN 1).heap[gq]? = w3.heap[gq]?) := Lib.hid fun _ => rfl
  have HW5 : Hid ((w3.drewN 1).heap.size = w3.heap.size) := Lib.hid rfl
  have M4 : Hid (Bk (w3.drewN 1) w2.heap.size (msgC (wq X A7 c7)) 34) := Lib.hid M3.out
  have C4 := Lib.hid (C3.out.below (below_drewN (Below.refl _ _) 1))
  have Q4 := Lib.hid ((Q2.below b3.out).below (below_drewN (Below.refl _ _) 1))
  clear H3 M3 C3 o3
  change wpAny _ _ _ _ _ _ _ (w3.drewN 1)
  generalize w3.drewN 1 = w4 at H4 M4 C4 Q4 HW4 HW5 ⊢
  refine wpAny_of_held (S := fun W => W.rangeAt w.heap.size 0 (u8s t)) _ _ _ _ ?_
  refine tk 0 ⟨some 21, .move (.tmp 1), _, _, _, none⟩ (.int .u64 (n : Int)) rfl (by kernel_rfl) (fun _ _ _ h => h) (range_of H4.out.box) (fun W hSW => by go_simp) ?_
  try simp only [Act.put, l0, l1, l2]
  refine tk 1 ⟨some 22, .load 27 (.tmp 7), _, _, _, none⟩ (.agg (u8s t).toArray) rfl (by kernel_rfl) (fun _ _ _ h => h) (range_of H4.out.box) (fun W hSW => exec_load_mid 27 (.tmp 7) rfl w.heap.size 0 rfl (u8s t) _ (hSW) Tryz.underlying27 rfl (HJ.out)) ?_
  try simp only [Act.put, l0, l1, l2]
  refine tk 2 ⟨some 23, .fieldAddr 34 (.tmp 11) 1, _, _, _, none⟩ (.pointer (some ⟨w2.heap.size, 1, none⟩)) rfl (by kernel_rfl) (fun _ _ _ h => h) (range_of H4.out.box) (fun W hSW => by go_simp) ?_
  try simp only [Act.put, l0, l1, l2]
  refine rdy [3] (by kernel_rfl) ?_
  refine AllReadyH.cons (o := ⟨none, .store 22 (.tmp 23) (.tmp 21), _, _, _, none⟩) rfl (fun K' hK' => ?_) AllReadyH.nil
  have u1 : w4.cell? ⟨w2.heap.size, 1, none⟩ = some (.int .u64 (X.number : Int)) := (msg_lies M4.out.src HX.out).number
  have uf1 := free_block M4.out 1
  go_simp
  have H5 : Hid (BxR w (u8s t) (msgC zeroMsg) 27 34 (w4.setCell ⟨w2.heap.size, 1, none⟩ (.int .u64 (n : Int)))) := Lib.hid (H4.out.far (gb_set _ _ _ _) L2.out)
  have M5 : Hid (Bk (w4.setCell ⟨w2.heap.size, 1, none⟩ (.int .u64 (n : Int))) w2.heap.size (msgC { wq X A7 c7 with number := n }) 34) := Lib.hid (heap_set M4.out _)
  refine hK'.out _ _ (range_of H5.out.box) (fun _ => ?_)
  clear hK' K'
  try simp only [Act.put, l0, l1, l2]
  refine tk 4 ⟨some 24, .fieldAddr 34 (.tmp 11) 4, _, _, _, none⟩ (.pointer (some ⟨w2.heap.size, 89, none⟩)) rfl (by kernel_rfl) (fun _ _ _ h => h) (range_of H5.out.box) (fun W hSW => by go_simp) ?_
  try simp only [Act.put, l0, l1, l2]
  refine rdy [5] (by kernel_rfl) ?_
  refine AllReadyH.cons (o := ⟨none, .store 27 (.tmp 24) (.tmp 22), _, _, _, none⟩) rfl (fun K' hK' => ?_) AllReadyH.nil
  refine step_store_cells rfl 27 (.tmp 24) (.tmp 22) rfl w2.heap.size 89 (u8s t) rfl rfl (there_block M5.out 89 _ (HS2.out A7 c7).1) HJ.out (u8s_one _) ?_
  have M6 := Lib.hid (put_part M5.out (HS2.out A7 c7).2)
  have H6 := Lib.hid (H5.out.far M6.out.2 L2.out)
  refine hK'.out _ _ (range_of H6.out.box) (fun _ => ?_)
  clear hK' K'
  refine wpAnyH_done (by kernel_rfl) ?_ _
  have M7 : Hid (Bk ((w4.setCell ⟨w2.heap.size, 1, none⟩ (.int .u64 (n : Int))).setCells w2.heap.size 89 (u8s t)) w2.heap.size (msgC (gotM n (wq X A7 c7) t)) 34) := Lib.hid M6.out.1
  have C7 := Lib.hid ((C4.out.far (gb_set w4 w2.heap.size 1 (.int .u64 (n : Int))) L3.out).far M6.out.2 L3.out)
  have Q7 : Hid (QOw w1.heap.size ((w4.setCell ⟨w2.heap.size, 1, none⟩ (.int .u64 (n : Int))).setCells w2.heap.size 89 (u8s t)) A7 c7 X.body.qs) := Lib.hid (Q2.keep fun gq h1 h2 => by
    have e3 := b3.out.block gq h2
    have e4 : w4.heap[gq]? = w3.heap[gq]? := HW4.out gq
    exact (M6.out.2.block gq (by have := (gb_set w4 w2.heap.size 1 (.int .u64 (n : Int))).size; have := b3.out.size; have := HW5.out; omega) (fun e => by injection e with e; omega)).trans (((gb_set w4 w2.heap.size 1 (.int .u64 (n : Int))).block gq (by have := b3.out.size; have := HW5.out; omega) (fun e => by injection e with e; omega)).trans (e4.trans e3)))
  have H1s := Lib.hid H1.out.lt
  clear M6 M5 H5 C4 M4 H4
  generalize (w4.setCell ⟨w2.heap.size, 1, none⟩ (.int .u64 (n : Int))).setCells w2.heap.size 89 (u8s t) = w7 at H6 M7 C7 Q7 ⊢
  go_wp2_with (first | ((with_reducible refine wpList_load_midG ?_ 34 (.tmp 11) ?_ w2.heap.size 0 ?_ (msgC (gotM n (wq X A7 c7) t)) _ ?_ Tryz.underlying34 ?_ ?_ ?_); (· rfl); (· rfl); (· rfl); (· exact M7.out.src); (· rfl); (· exact HG'.out A7 c7)) | (go_at_call 47; (with_reducible refine (HWH.out A7 c7 _ _ _ C7.out Q7.out).mono ?_); rintro E w8 ⟨rfl, b8⟩; have H8 := Lib.hid (H6.out.next b8.out)) | ((with_reducible refine wpList_store_part ?_ 34 (.tmp 8) (.tmp 28) ?_ (w.heap.size + 1) 0 (msgC zeroMsg) (msgC (wholeM (gotM n (wq X A7 c7) t) s2).1) (msgC (wholeM (gotM n (wq X A7 c7) t) s2).1) 34 ?_ ?_ ?_ ?_ ?_ ?_ ?_ ?_); (· rfl); (· rfl); (· exact H8.out.res); (· exact (HR.out A7 c7).1); (· exact (HR.out A7 c7).2.1); (· rfl); (· rfl); (· exact (HR.out A7 c7).2.2); (· exact one_msgC _); intro w9 G9))
  exact bodyPost_ret (ret_range2 (cs := msgC (wholeM (gotM n (wq X A7 c7) t) s2).1) rfl rfl rfl (range_of G9.out.1) Tryz.underlying34 rfl (HR.out A7 c7).2.2) rfl ⟨A7, c7, rfl, ((Q7.out.below b8.out).far G9.out.2 (by have := H1s.out; omega)).low (by have := H1s.out; omega), Lib.hid (H8.out.fin G9.out.2)⟩

/-- What Of answers of any bytes. -/
theorem of_hit (A : Option Addr) (N c : Nat) (bs : List UInt8) (i : Int) (n : Nat) (t : List UInt8) (w : World) (hr : Oct.Rd w A N bs) (hs : Oct.Sl A N c) (hN : N ≤ 140737488355328) (ht : t.length = 32) (ho : (rdMsg (bs, false)).1.origin = i) :
    Calls Tryz.prog 23 #[.int .i64 i, .int .u64 (n : Int), .slice A N c, .agg (u8s t).toArray] w fun E w' => ∃ A7 c7, E = .returned (.tuple #[.agg (msgC (wholeM (gotM n (wq (rdMsg (bs, false)).1 A7 c7) t) (rdMsg (bs, false)).2).1).toArray, .int .i64 (wholeM (gotM n (wq (rdMsg (bs, false)).1 A7 c7) t) (rdMsg (bs, false)).2).2]) ∧ QOw w.heap.size w' A7 c7 (rdMsg (bs, false)).1.body.qs ∧ Hid (Below w.heap.size w w') :=
  of_eq A N c bs i n t w _ _ hr hs hN ht (rdMsg_ok (bs, false)).1 (fun _ _ _ h => cutTagged_ms h) ho (by have := (rdMsg_ok (bs, false)).2; omega)
theorem of_miss (A : Option Addr) (N c : Nat) (bs : List UInt8) (i : Int) (n : Nat) (t : List UInt8) (w : World) (hr : Oct.Rd w A N bs) (hs : Oct.Sl A N c) (hN : N ≤ 140737488355328) (ho : ¬ (rdMsg (bs, false)).1.origin = i) :
    Calls Tryz.prog 23 #[.int .i64 i, .int .u64 (n : Int), .slice A N c, .agg (u8s t).toArray] w fun E w' => E = .returned (.tuple #[.agg (msgC zeroMsg).toArray, .int .i64 5]) ∧ Hid (Below w.heap.size w w') :=
  of_ne A N c bs i n t w _ _ hr hs hN (rdMsg_ok (bs, false)).1 (fun _ _ _ h => cutTagged_ms h) ho
/-- Of what is tagged of a message, Of answers the message. -/
theorem of_own (m : MMsg) (A : Option Addr) (N c : Nat) (w : World) (hm : m.Wf) (hmay : m.may) (ha : m.body.req.op.amount < 18446744073709551616) (hr : Oct.Rd w A N (msgB m)) (hs : Oct.Sl A N c) (hN : N ≤ 140737488355328) :
    Calls Tryz.prog 23 #[.int .i64 m.origin, .int .u64 (m.number : Int), .slice A N c, .agg (u8s m.tag).toArray] w fun E w' => ∃ A7 c7, E = .returned (.tuple #[.agg (msgC (wq m A7 c7)).toArray, .int .i64 0]) ∧ QOw w.heap.size w' A7 c7 m.body.qs ∧ Hid (Below w.heap.size w w') := by
  obtain ⟨h1, h2⟩ := rdMsg_put m [] hm hmay ha
  rw [List.append_nil] at h1 h2
  have h3' := congrArg (fun x : MMsg => x.origin) h1
  have h4' := congrArg (fun x : MMsg => x.body.qs) h1
  have h3 : (rdMsg (msgB m, false)).1.origin = m.origin := h3'
  have h4 : (rdMsg (msgB m, false)).1.body.qs = m.body.qs := h4'
  refine (of_hit A N c (msgB m) m.origin m.number m.tag w hr hs hN hm.2.2 h3).mono fun E w' ⟨A7, c7, he, hq, hb⟩ => ⟨A7, c7, ?_, ?_, hb⟩
  · have h5 : gotM m.number (wq (rdMsg (msgB m, false)).1 A7 c7) m.tag = wq m A7 c7 := by
      have : wq (rdMsg (msgB m, false)).1 A7 c7 = wq { m with number := 0, tag := noTag } A7 c7 := by rw [← h1]; rfl
      rw [this]
      rfl
    rw [he, h5, h2, wholeM, if_pos ⟨rfl, rfl, (may_wq m A7 c7).2 hmay⟩]
  · rwa [h4] at hq
end Go.Proofs.YtghjogneogkpoaaGreatDoor.Sh
