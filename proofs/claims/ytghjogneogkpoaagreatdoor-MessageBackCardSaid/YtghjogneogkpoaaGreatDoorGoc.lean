/-
  What is proved: a message that was got has memory of its own (MessageOwn). Conditions as stated.
-/
import Derived.Test.YtghjogneogkpoaaGreatDoorGnc
import Derived.Test.YtghjogneogkpoaaGreatDoorBkc
import Derived.Test.YtghjogneogkpoaaGreatDoorFwc
import Derived.Test.YtghjogneogkpoaaGreatDoorFbc
namespace Go.Proofs.YtghjogneogkpoaaGreatDoor.Sh
open Go.RowKit
set_option maxRecDepth 100000

set_option maxHeartbeats 8000000 in
theorem own_no (m : MMsg) (w : World) (hm : m.Wf)
    (HP : Hid (m.body.qs.length ≤ 40 → ∀ W, Below w.heap.size w W → Calls Tryz.prog 17 #[.agg (msgC m).toArray] W fun E w' => ∃ A c, E = .returned (.slice A 0 c) ∧ Hid (Oct.Sl A 0 c) ∧ Hid (Below W.heap.size W w')))
    (HF0 : Hid (∀ W, Below w.heap.size w W → Calls Tryz.prog 10 #[.agg (msgC m).toArray] W fun E w' => (∃ z, E = .returned (.bool z) ∧ (z = true → m.body.qs.length ≤ 40)) ∧ Hid (Below W.heap.size W w')))
    (HW : Hid (∀ W, Below w.heap.size w W → Calls Tryz.prog 11 #[] W fun E w' => E = .returned (.bool true) ∧ Hid (Below W.heap.size W w'))) :
    Calls Tryz.prog 9 #[.agg (msgC m).toArray] w fun E w' => E = .returned (.bool true) ∧ Below w.heap.size w w' := by
  have HGN : Hid (∀ A c W, Oct.Sl A 0 c → Calls Tryz.prog 21 #[.slice A 0 c] W fun E w' => E = .returned (.tuple #[.agg (msgC zeroMsg).toArray, .int .i64 5]) ∧ Hid (Below W.heap.size W w')) := Lib.hid fun A c W hs => get_none A c W hs
  have HI : Hid ((Tryz.prog.info? 34).map (·.size) = some (msgC m).length) := Lib.hid (by rw [msgC_length hm]; exact Tryz.is34)
  have HX : Hid (∀ x : MMsg, x.Wf → 0 + (msgC x).length ≤ (msgC zeroMsg).length ∧ setAll (msgC zeroMsg) 0 (msgC x) = msgC x ∧ (Tryz.prog.info? 34).map (·.size) = some (msgC x).length) := Lib.hid fun x hx => ⟨by rw [msgC_length zeroM_wf, msgC_length hx]; omega, setAll_all (by rw [msgC_length zeroM_wf, msgC_length hx]), by rw [msgC_length hx]; exact Tryz.is34⟩
  have hz : ∀ w, (zeroValue 34).run Tryz.prog w = .ok (.agg (msgC zeroMsg).toArray) w := zero_msg
  have H0 : Hid (RqAt w.heap.size w (msgC m) (w.alloc (.cells (msgC m).toArray 34))) := Lib.hid ⟨(Below.refl _ _).alloc (Nat.le_refl _) _, by simp, range_box w (msgC m) 34⟩
  have HMW := Lib.hid hm
  clear hm
  go_enter Tryz.func9, Tryz.ntmps9
  go_wp2_with (((with_reducible refine wpList_load_midG ?_ 34 (.tmp 1) ?_ w.heap.size 0 ?_ (msgC m) _ ?_ Tryz.underlying34 ?_ ?_ ?_); (· rfl); (· rfl); (· rfl); (· exact H0.out.src); (· rfl); (· exact HI.out)))
  go_at_call 10
  with_reducible refine (HF0.out _ H0.out.bel).mono ?_
  rintro E w1 ⟨⟨z, rfl, hz1⟩, b1⟩
  have H1 := Lib.hid (H0.out.next (Nat.le_refl _) b1.out)
  cases z
  · go_wp2_with ((go_at_call 11; (with_reducible refine (HW.out _ H1.out.bel).mono ?_); rintro E w7 ⟨rfl, b7⟩; have H7 := Lib.hid (H1.out.next (Nat.le_refl _) b7.out)))
    go_ret
    exact ⟨rfl, H7.out.bel⟩
  · have HZ := Lib.hid (hz1 rfl)
    clear hz1
    go_wp2_with (first | ((with_reducible refine wpList_load_midG ?_ 34 (.tmp 1) ?_ w.heap.size 0 ?_ (msgC m) _ ?_ Tryz.underlying34 ?_ ?_ ?_); (· rfl); (· rfl); (· rfl); (· exact H1.out.src); (· rfl); (· exact HI.out)) | (go_at_call 17; (with_reducible refine (HP.out HZ.out _ H1.out.bel).mono ?_); rintro E w2 ⟨A2, c2, rfl, S2, b2⟩; have H2 := Lib.hid (H1.out.next (Nat.le_refl _) b2.out)) | (go_at_call 21; (with_reducible refine (HGN.out _ _ _ S2.out).mono ?_); rintro E w3 ⟨rfl, b3⟩; have H3 := Lib.hid (H2.out.next (Nat.le_refl _) b3.out)) | ((with_reducible refine wpList_store_part ?_ 34 (.tmp 4) (.tmp 20) ?_ w3.heap.size 0 (msgC zeroMsg) (msgC zeroMsg) (msgC zeroMsg) 34 ?_ ?_ ?_ ?_ ?_ ?_ ?_ ?_); (· rfl); (· rfl); (· exact heap_alloc_new w3 _); (· exact (HX.out _ (by first | exact HMW.out | exact zeroM_wf)).1); (· exact (HX.out _ (by first | exact HMW.out | exact zeroM_wf)).2.1); (· rfl); (· rfl); (· exact (HX.out _ (by first | exact HMW.out | exact zeroM_wf)).2.2); (· exact one_msgC _); intro w4 G4; have b4 := Lib.hid (below_made G4.out.2); have H4 := Lib.hid (H3.out.next (Nat.le_refl _) b4.out)) | (go_at_call 11; (with_reducible refine (HW.out _ H4.out.bel).mono ?_); rintro E w5 ⟨rfl, b5⟩; have H5 := Lib.hid (H4.out.next (Nat.le_refl _) b5.out)))
    go_ret
    exact ⟨rfl, H5.out.bel⟩
end Go.Proofs.YtghjogneogkpoaaGreatDoor.Sh
