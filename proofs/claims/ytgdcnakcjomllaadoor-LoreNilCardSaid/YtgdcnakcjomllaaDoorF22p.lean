/-
  What is proved: LoreNil: its walk. Conditions as stated.
-/
import Derived.Test.YtgdcnakcjomllaaDoorF21p
namespace Go.Proofs.YtgdcnakcjomllaaDoor.Sh
open Go.RowKit
set_option maxRecDepth 100000


set_option maxHeartbeats 8000000 in
theorem nil_walk {w : World} (hk : KIs w) (h0 : 0 < w.heap.size) (m : MMsg) (hm : m.Wf) (_hq : Prs w m.body.qa m.body.qs) :
    Calls Tryd.prog 3 #[.agg (msgC m).toArray] w fun E w' => E = .returned (.bool true) ∧ Below w.heap.size w w' := by
  have HW : Hid (∀ W os, Fr w W os → Calls Tryd.prog 5 #[] W fun E w' => E = .returned (.bool true) ∧ Below W.heap.size W w') := Lib.hid fun W os H => works_any W H.ksW H.posW
  have HI := Lib.hid (info_msg hm)
  have H1 := Lib.hid ((Fr.start hk h0).box (msgC m).toArray 34)
  have HB7 := Lib.hid (fun W => buildSl_msg m hm W)
  have HFew : Hid (∀ W g, W.heap[g]? = some (.cells (msgC m).toArray 34 (0, 0)) → Calls Tryd.prog 4 #[.slice (some ⟨g, 0, none⟩) 1 1] W fun E w' => ∃ z, E = .returned (.bool z) ∧ w' = W) := Lib.hid fun W g hg => by
    have hl : g < W.heap.size := (Array.getElem?_eq_some_iff.1 hg).1
    refine (fewM_any (some ⟨g, 0, none⟩) 1 [m] W ⟨fun x hx => by rw [List.mem_singleton.1 hx]; exact hm, fun _ => ⟨g, 0, rfl, hl, fun j x hj => ?_⟩⟩ (by simp)).mono fun E w' hx => ?_
    · match j, hj with
      | 0, hj => simp at hj; subst hj; simpa using range_of hg
      | j + 1, hj => simp at hj
    · obtain ⟨z, e, _, hw⟩ := hx
      exact ⟨z, e, hw.symm⟩
  have HG := Lib.hid (fun (W : World) (o : Int) (k : Nat) (h1 : KIs W) (h2 : 0 < W.heap.size) => get_none o k W h1 h2)
  have HCk := Lib.hid (fun W => check_none m W)
  have HAd := Lib.hid (fun W => add_none m hm W)
  have HKn := Lib.hid (fun (W : World) (h1 : KIs W) (h2 : 0 < W.heap.size) => knowns_none W h1 h2)
  have HC := Lib.hid (fun (W : World) (hb : W.heap[w.heap.size]? = some (.cells (msgC m).toArray 34 (0, 0))) => (show W.cell? ⟨w.heap.size, 0, none⟩ = some (.int .i64 m.origin) ∧ W.cell? ⟨w.heap.size, 1, none⟩ = some (.int .u64 (m.number : Int)) from ⟨(msg_lies (range_of hb) hm).origin, (msg_lies (range_of hb) hm).number⟩))
  have HSn : Hid (∀ W X, X = (u64s z11).toArray → Calls Tryd.prog 10 #[.pointer none, .agg X, .int .i64 5] W fun E w' => E = .returned (.slice none 0 0) ∧ Below W.heap.size W w') := Lib.hid fun W X hX => by subst hX; exact since_none z11 5 W
  have gv := Tryd.guard24
  have ev : ∀ W, (Op.equalIn 10000 24 (.agg (u64s z11).toArray) (.agg #[.int .u64 0, .int .u64 0, .int .u64 0, .int .u64 0, .int .u64 0, .int .u64 0, .int .u64 0, .int .u64 0, .int .u64 0, .int .u64 0, .int .u64 0])).run Tryd.prog W = .ok true W := fun W => eq_deps_of (d := 9998) z11 z11 rfl rfl (by simp) W
  have hz := zero_msg
  have hzl := msgC_length zeroMsg_wf
  have hzn : ¬ (msgC zeroMsg = []) := fun e => by rw [e] at hzl; cases hzl
  have HIz := Lib.hid (info_msg zeroMsg_wf)
  have HOz := Lib.hid (one_msgC zeroMsg)
  obtain ⟨Z, hZ⟩ : ∃ Z, Z = msgC zeroMsg := ⟨_, rfl⟩
  rw [← hZ] at hz hzl hzn HG HIz HOz
  clear hZ
  have HLE : Hid (0 + Z.length ≤ Z.length ∧ setAll Z 0 Z = Z) := Lib.hid ⟨by omega, setAll_all rfl⟩
  obtain ⟨U, hU⟩ : ∃ U, U = u64s z11 := ⟨_, rfl⟩
  have HUe := Lib.hid hU
  rw [← hU] at ev HKn HSn
  clear hU hk h0 hm
  go_enter Tryd.func3, Tryd.ntmps3
  go_wp2_with (first | ((with_reducible refine wpList_load_midG ?_ 34 (.tmp 1) ?_ w.heap.size 0 ?_ (msgC m) _ ?_ Tryd.underlying34 ?_ ?_ ?_); rotate_left; (· rfl); (· rfl); (· exact (by first | exact range_of H5.out.pop.hd2 | exact range_of H3.out.hd2 | exact range_of H1.out.hd | exact range_of H6.out.pop.hd2 | exact range_of H7.out.pop.hd2)); (· rfl); (· exact HI.out); rotate_left; (· rfl)) | (refine wpList_buildSl rfl 36 34 (.tmp 6) rfl (msgC m) rfl (HB7.out _) ?_; have H2 := Lib.hid (H1.out.box' (k := w.heap.size + 1) (by simp) (msgC m).toArray 34)) | (go_at_call 4; refine (HFew.out _ _ H2.out.hd).mono ?_; rintro E w3 ⟨z, rfl, rfl⟩; have H3 := Lib.hid H2.out; have cc := HC.out _ H3.out.hd2; have cc0 := cc.1; have cc1 := cc.2; clear cc H1 H2 HFew HB7) | (go_at_call 6; refine (HG.out _ m.origin m.number H3.out.ksW H3.out.posW).mono ?_; rintro E w4 ⟨rfl, b4⟩; have H4 := Lib.hid ((H3.out.below b4).box Z.toArray 34); clear b4 H3 cc0 cc1) | (refine wpList_store_part rfl 34 (.tmp 4) (.tmp 18) rfl w4.heap.size 0 Z Z Z 34 H4.out.hd HLE.out.1 HLE.out.2 rfl rfl HIz.out HOz.out ?_; intro w5 G5; have H5 := Lib.hid (H4.out.turn (o' := blkT w4.heap.size Z.toArray 34) (own_grown G5.out.2 rfl) G5.out.1 (blkT_ok _ _ _)); clear G5 H4) | ((with_reducible refine wpList_load_midG ?_ 34 (.tmp 1) ?_ w.heap.size 0 ?_ (msgC m) _ ?_ Tryd.underlying34 ?_ ?_ ?_); rotate_left; (· rfl); (· rfl); (· exact (by first | exact range_of H5.out.pop.hd2 | exact range_of H3.out.hd2 | exact range_of H1.out.hd | exact range_of H6.out.pop.hd2 | exact range_of H7.out.pop.hd2)); (· rfl); (· exact HI.out); rotate_left; (· rfl)) | (go_at_call 7; refine (HCk.out _).mono ?_; rintro E w6 ⟨rfl, b6⟩; have H6 := Lib.hid (H5.out.below b6); clear b6 H5) | (go_at_call 8; refine (HAd.out _).mono ?_; rintro E w7 ⟨rfl, b7⟩; have H7 := Lib.hid (H6.out.below b7); clear b7 H6) | (go_at_call 9; refine (HKn.out _ H7.out.ksW H7.out.posW).mono ?_; rintro E w8 ⟨rfl, b8⟩; have H8 := Lib.hid (H7.out.below b8); clear b8 H7) | (go_at_call 10; refine (HSn.out _ _ (by rw [HUe.out]; rfl)).mono ?_; rintro E w9 ⟨rfl, b9⟩; have H9 := Lib.hid (H8.out.below b9); clear b9 H8) | (go_at_call 11; refine (len_none _).mono ?_; rintro E w10 ⟨rfl, rfl⟩) | (go_at_call 5; refine (HW.out _ _ H9.out).mono ?_; rintro E w11 ⟨rfl, b11⟩; have H11 := Lib.hid (H9.out.below b11); clear b11) | (go_at_call 5; refine (HW.out _ _ H3.out).mono ?_; rintro E w4 ⟨rfl, b4⟩; have H11 := Lib.hid (H3.out.below b4); clear b4))
  all_goals
    go_ret
    exact ⟨rfl, H11.out.bel⟩
end Go.Proofs.YtgdcnakcjomllaaDoor.Sh
