/-
  What is proved: what is told of no lore. Conditions as stated.
-/
import Derived.Test.YtgdcnakcjomllaaDoorF20p
namespace Go.Proofs.YtgdcnakcjomllaaDoor.Sh
open Go.RowKit
set_option maxRecDepth 100000

theorem len_none (w : World) : Calls Tryd.prog 11 #[.pointer none] w fun E w' => E = .returned (.int .i64 0) ∧ w = w' := by
  go_enter Tryd.func11, Tryd.ntmps11
  go_wp2
  go_ret
  exact ⟨rfl, rfl⟩
theorem since_none (v : List Nat) (most : Int) (w : World) : Calls Tryd.prog 10 #[.pointer none, .agg (u64s v).toArray, .int .i64 most] w fun E w' => E = .returned (.slice none 0 0) ∧ Below w.heap.size w w' := by
  have HB : Hid (Below w.heap.size w (w.alloc (.cells (u64s v).toArray 24))) := Lib.hid ((Below.refl _ _).alloc (Nat.le_refl _) _)
  go_enter Tryd.func10, Tryd.ntmps10
  go_wp2_with fail
  go_ret
  exact ⟨rfl, HB.out⟩
theorem check_none (m : MMsg) (w : World) : Calls Tryd.prog 7 #[.pointer none, .agg (msgC m).toArray] w fun E w' => E = .returned (.int .i64 2) ∧ Below w.heap.size w w' := by
  have HB : Hid (Below w.heap.size w (w.alloc (.cells (msgC m).toArray 34))) := Lib.hid ((Below.refl _ _).alloc (Nat.le_refl _) _)
  go_enter Tryd.func7, Tryd.ntmps7
  go_wp2_with fail
  go_ret
  exact ⟨rfl, HB.out⟩
theorem add_none (m : MMsg) (hm : m.Wf) (w : World) : Calls Tryd.prog 8 #[.pointer none, .agg (msgC m).toArray] w fun E w' => E = .returned (.int .i64 2) ∧ Below w.heap.size w w' := by
  have HB : Hid (Below w.heap.size w (w.alloc (.cells (msgC m).toArray 34))) := Lib.hid ((Below.refl _ _).alloc (Nat.le_refl _) _)
  have HR := Lib.hid (range_box w (msgC m) 34)
  have HI := Lib.hid (info_msg hm)
  clear hm
  go_enter Tryd.func8, Tryd.ntmps8
  go_wp2_with (first | ((with_reducible refine wpList_load_midG ?_ 34 (.tmp 3) ?_ w.heap.size 0 ?_ (msgC m) _ ?_ Tryd.underlying34 ?_ ?_ ?_); rotate_left; (· rfl); (· rfl); (· exact HR.out); (· rfl); (· exact HI.out); rotate_left; (· rfl)) | (go_at_call 7; refine (check_none m _).mono ?_; rintro E w2 ⟨rfl, hb⟩; have HB2 := Lib.hid (HB.out.trans (hb.mono HB.out.size)); clear hb))
  go_ret
  exact ⟨rfl, HB2.out⟩
set_option maxHeartbeats 1000000 in
theorem get_none (o : Int) (k : Nat) (w : World) (hk : KIs w) (h0 : 0 < w.heap.size) : Calls Tryd.prog 6 #[.pointer none, .int .i64 o, .int .u64 (k : Int)] w fun E w' => E = .returned (.tuple #[.agg (msgC zeroMsg).toArray, .bool false]) ∧ Below w.heap.size w w' := by
  have hz := zero_msg
  have hbz := build_zeroMsg
  have hzl := msgC_length zeroMsg_wf
  have hzn : ¬ (msgC zeroMsg = []) := fun e => by rw [e] at hzl; cases hzl
  have H0 := Lib.hid ((Fr.start hk h0).box (msgC zeroMsg).toArray 34)
  have HIz := Lib.hid (info_msg zeroMsg_wf)
  have HOz := Lib.hid (one_msgC zeroMsg)
  obtain ⟨Z, hZ⟩ : ∃ Z, Z = msgC zeroMsg := ⟨_, rfl⟩
  rw [← hZ] at hz hbz hzl hzn H0 HIz HOz
  have HZ := Lib.hid hZ
  have HLE : Hid (0 + Z.length ≤ Z.length ∧ setAll Z 0 Z = Z) := Lib.hid ⟨by omega, setAll_all rfl⟩
  clear hk h0 hZ
  go_enter Tryd.func6, Tryd.ntmps6
  go_wp2_with (refine wpList_store_part rfl 34 (.tmp 6) (.tmp 33) rfl w.heap.size 0 Z Z Z 34 H0.out.hd HLE.out.1 HLE.out.2 rfl rfl HIz.out HOz.out ?_; intro w9 G9; have H9 : Hid (Fr w w9 [blkT w.heap.size Z.toArray 34]) := Lib.hid (H0.out.turn (own_grown G9.out.2 rfl) G9.out.1 (blkT_ok _ _ _)))
  exact bodyPost_ret (ret_range2 (cs := Z) rfl rfl rfl (range_of G9.out.1) Tryd.underlying34 rfl HIz.out) rfl ⟨by rw [HZ.out]; rfl, H9.out.bel⟩
set_option maxHeartbeats 1000000 in
theorem knowns_none (w : World) (hk : KIs w) (h0 : 0 < w.heap.size) : Calls Tryd.prog 9 #[.pointer none] w fun E w' => E = .returned (.agg (u64s z11).toArray) ∧ Below w.heap.size w w' := by
  have hz := zero_vec
  have hzl : (u64s z11).length = 11 := rfl
  have hzn : ¬ (u64s z11 = []) := by decide
  have H2 := Lib.hid (((Fr.start hk h0).box (u64s z11).toArray 24).box' (k := w.heap.size + 1) (by simp) (u64s z11).toArray 24)
  have HI := Lib.hid (info_vec (l := z11) rfl)
  have HO := Lib.hid (one_u64s z11)
  obtain ⟨Z, hZ⟩ : ∃ Z, Z = u64s z11 := ⟨_, rfl⟩
  rw [← hZ] at hz hzl hzn H2 HI HO ⊢
  have HLE : Hid (0 + Z.length ≤ Z.length ∧ setAll Z 0 Z = Z) := Lib.hid ⟨by omega, setAll_all rfl⟩
  clear hk h0 hZ
  go_enter Tryd.func9, Tryd.ntmps9
  go_wp2_with (first | ((with_reducible refine wpList_load_midG ?_ 24 (.tmp 3) ?_ (w.heap.size + 1) 0 ?_ Z _ ?_ Tryd.underlying24 ?_ ?_ ?_); rotate_left; (· rfl); (· rfl); (· exact range_of H2.out.hd); (· rfl); (· exact HI.out); rotate_left; (· rfl)) | (refine wpList_store_part rfl 24 (.tmp 2) (.tmp 7) rfl w.heap.size 0 Z Z Z 24 H2.out.hd2 HLE.out.1 HLE.out.2 rfl rfl HI.out HO.out ?_; intro w9 G9; have H9 := Lib.hid (H2.out.swap.turn (o' := blkT w.heap.size Z.toArray 24) (own_grown G9.out.2 rfl) G9.out.1 (blkT_ok _ _ _))))
  exact bodyPost_ret (ret_range (cs := Z) rfl rfl (range_of G9.out.1) Tryd.underlying24 rfl HI.out) rfl ⟨rfl, H9.out.bel⟩
end Go.Proofs.YtgdcnakcjomllaaDoor.Sh
