/- Laws and walks. -/
import Derived.Test.YtknpcmadghkaaaaGreatDoorUcw
import Derived.Test.YtknpcmadghkaaaaGreatDoorV6w
set_option maxHeartbeats 16000000
set_option maxRecDepth 100000
namespace Go.Proofs.YtknpcmadghkaaaaGreatDoor.Sh
open Go.RowKit
theorem tagged_no (m : MMsg) (w : World) (hm : m.Wf) (HM : Hid (∀ W, Below w.heap.size w W -> Calls Tryz.prog 41 #[.agg (msgC m).toArray] W fun E w' => E = .returned (.bool false) /\ Hid (Below W.heap.size W w'))) :
  Calls Tryz.prog 28 #[.agg (msgC m).toArray] w fun E w' => E = .returned (.agg (msgC m).toArray) /\ Hid (Below w.heap.size w w') := by
 have HI : Hid ((Tryz.prog.info? 39).map (·.size) = some (msgC m).length) := iq (by rw [msgC_length hm]; exact Tryz.is39)
 have HLE : Hid (0 + (msgC m).length <= (msgC zeroMsg).length /\ setAll (msgC zeroMsg) 0 (msgC m) = msgC m) := iq ⟨by rw [msgC_length (⟨rfl, zero_wf, rfl⟩ : zeroMsg.Wf), msgC_length hm]; omega, setAll_all (by rw [msgC_length (⟨rfl, zero_wf, rfl⟩ : zeroMsg.Wf), msgC_length hm])⟩
 have hz : ∀ w, (zeroValue 39).run Tryz.prog w = .ok (.agg (msgC zeroMsg).toArray) w := zero_msg
 have H0 := iq (BxR.start w (msgC m) (msgC zeroMsg) 39 39)
 clear hm
 go_enter Tryz.func28, Tryz.ntmps28
 go_wp2_with (first | ((with_reducible refine wpList_load_midG ?_ 39 (.tmp 1) ?_ w.heap.size 0 ?_ (msgC m) _ ?_ Tryz.underlying39 ?_ ?_ ?_); rfl; rfl; rfl; exact range_of H0.out.box; rfl; exact HI.out) | (go_at_call 41; (with_reducible refine (HM.out _ H0.out.bel).mono ?_); rintro E w1 ⟨rfl, hb1⟩; have H1 := iq (H0.out.next hb1.out)) | ((with_reducible refine wpList_load_midG ?_ 39 (.tmp 1) ?_ w.heap.size 0 ?_ (msgC m) _ ?_ Tryz.underlying39 ?_ ?_ ?_); rfl; rfl; rfl; exact range_of H1.out.box; rfl; exact HI.out) | (refine wpList_store_part rfl 39 (.tmp 2) (.tmp 13) rfl (w.heap.size + 1) 0 (msgC zeroMsg) (msgC m) (msgC m) 39 H1.out.res HLE.out.1 HLE.out.2 rfl rfl HI.out (one_msgC _) ?_; intro w9 G9))
 exact bodyPost_ret (ret_range (cs := msgC m) rfl rfl (range_of G9.out.1) Tryz.underlying39 rfl HI.out) rfl ⟨rfl, iq (H1.out.bel.grown G9.out.2 H1.out.bel.size (fun k hk => by injection hk with hk; omega))⟩
theorem msgB_of {m : MMsg} {z : List UInt8} (h : bodyB m.body = z) : msgB m = byteOf m.origin :: (depsB m.deps ++ (m.body.kind :: z)) := by rw [msgB, h]
open Classical in
theorem bytesr_yes (m : MMsg) (w : World) (hm : m.Wf) (hq : Prs w m.body.qa m.body.qs) (hn : m.body.qs.length <= 140737488355328) (hmay : m.may) :
  Calls Tryz.prog 55 #[.agg (msgC m).toArray] w fun E w' => ∃ A' n' c', E = .returned (.slice A' n' c') /\ Ow w.heap.size w' A' n' c' (msgB m) /\ Hid (Below w.heap.size w w') := by
 have HM : Hid (∀ W, Below w.heap.size w W -> Calls Tryz.prog 41 #[.agg (msgC m).toArray] W fun E w' => E = .returned (.bool true) /\ Hid (Below W.heap.size W w')) :=
  iq fun W h => (may_rf m W hm (hq.below h) hn).mono fun _ _ hE => ⟨hE.1.trans (ret_bool (decide_eq_true hmay)), hE.2⟩
 have ho := hmay.1
 rcases kinds_of hmay.2.2.1 with ⟨e, hr⟩ | e | e | e | ⟨e, hp⟩ | e
 ·rw [msgB_of (z := be 8 m.body.view ++ (reqB m.body.req ++ m.body.req.tag)) (by simp [bodyB, e])]
  exact bytesr_1 m w hm ho (iq e) hr HM
 ·rw [msgB_of (z := be 8 m.body.view ++ be 8 m.body.k) (by simp [bodyB, e])]
  exact bytesr_2 m w hm ho (iq e) HM
 ·rw [msgB_of (z := be 8 m.body.view) (by simp [bodyB, e])]
  exact bytesr_3 m w hm ho (iq e) HM
 ·rw [msgB_of (z := be 8 m.body.view) (by simp [bodyB, e])]
  exact bytesr_5 m w hm ho (iq e) HM
 ·rw [msgB_of (z := be 8 m.body.view ++ (byteOf (m.body.qs.length : Int) :: pairsB m.body.qs)) (by simp [bodyB, e])]
  exact bytesr_4 m w hm ho (iq e) (prs_all hp).2 (fun p hp' => ⟨((prs_all hp).1 p hp').1, ((prs_all hp).1 p hp').2.1⟩) hq HM
 ·rw [msgB_of (z := be 8 m.body.k ++ m.body.dig) (by simp [bodyB, e])]
  exact bytesr_6 m w hm ho (iq e) HM
open Classical in
noncomputable def tagM (m : MMsg) : MMsg := if m.may then { m with tag := numTag m.origin m.number (msgB m) } else m
open Classical in
theorem tagged_any (m : MMsg) (w : World) (hm : m.Wf) (hq : Prs w m.body.qa m.body.qs) (hn : m.body.qs.length <= 140737488355328) (hk : KIs w) (h0 : 0 < w.heap.size) :
  Calls Tryz.prog 28 #[.agg (msgC m).toArray] w fun E w' => E = .returned (.agg (msgC (tagM m)).toArray) /\ Hid (Below w.heap.size w w') := by
 by_cases h : m.may
 ·rw [tagM, if_pos h]
  refine tagged_rf m (numTag m.origin m.number (msgB m)) w hm (numTag_length _ _ _) (iq fun W hb => (may_rf m W hm (hq.below hb) hn).mono fun _ _ hE => ⟨hE.1.trans (ret_bool (decide_eq_true h)), hE.2⟩) (iq fun W hb => bytesr_yes m W hm (hq.below hb) hn h) (iq fun W A n c hb ho => ?_)
  have hl := ho.len
  have hml := msgB_len hm h
  exact (refNumbered_any m.origin m.number (msgB m) A n c W ho.rd ho.2 (by omega) (hk.below hb h0) (Nat.lt_of_lt_of_le h0 hb.size)).mono fun _ _ hE => ⟨hE.1, hE.2⟩
 ·rw [tagM, if_neg h]
  exact tagged_no m w hm (iq fun W hb => (may_rf m W hm (hq.below hb) hn).mono fun _ _ hE => ⟨hE.1.trans (ret_bool (decide_eq_false h)), hE.2⟩)
end Go.Proofs.YtknpcmadghkaaaaGreatDoor.Sh
