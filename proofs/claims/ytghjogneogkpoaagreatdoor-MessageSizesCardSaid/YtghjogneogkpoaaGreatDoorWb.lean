/-
  What is proved: the example of the law (works). Conditions as stated.
-/
import Derived.Test.YtghjogneogkpoaaGreatDoorWa
import Derived.Test.YtghjogneogkpoaaGreatDoorS9
namespace Go.Proofs.YtghjogneogkpoaaGreatDoor.Sh
open Go.RowKit
set_option maxRecDepth 100000


def m1 : MMsg := { m0 with tag := numTag 2 1 (msgB m0) }
theorem m1_wf : m1.Wf := ⟨rfl, ⟨rfl, rfl⟩, numTag_length _ _ _⟩
theorem m1_right : m1.right := ⟨m0_may, rfl⟩
theorem m0_wrong : ¬ m0.right := fun h => tag_m0 h.2.symm
theorem m0_same : m0.same m0 := ⟨rfl, rfl, rfl, ⟨rfl, rfl, rfl, rfl, rfl, rfl⟩, rfl⟩
open Classical in
theorem may_m0 (w : World) : Calls Tryz.prog 14 #[.agg (msgC m0).toArray] w fun E w' => E = .returned (.bool true) ∧ Hid (Below w.heap.size w w') :=
  (may_rf_by m0 w m0_wf (Lib.hid fun W _ => body_rf m0.body W m0_wf.2.1 (m0_prs W) (by decide) (fun h => absurd h (by decide)))).mono fun E w' hE => ⟨hE.1.trans (ret_bool (decide_eq_true m0_may)), hE.2⟩
theorem bytes_m0 (w : World) : Calls Tryz.prog 16 #[.agg (msgC m0).toArray] w fun E w' => ∃ A' n' c', E = .returned (.slice A' n' c') ∧ Ow w.heap.size w' A' n' c' (msgB m0) ∧ Hid (Below w.heap.size w w') := by
  have := bytesr_2 m0 w m0_wf (by decide) (Lib.hid rfl) (Lib.hid fun W _ => may_m0 W)
  exact this
theorem tagged_m0 (w : World) (hk : KIs w) (h0 : 0 < w.heap.size) : Calls Tryz.prog 12 #[.agg (msgC m0).toArray] w fun E w' => E = .returned (.agg (msgC m1).toArray) ∧ Hid (Below w.heap.size w w') := by
  refine tagged_rf m0 (numTag 2 1 (msgB m0)) w m0_wf (numTag_length _ _ _) (Lib.hid fun W _ => may_m0 W) (Lib.hid fun W _ => bytes_m0 W) (Lib.hid fun W A n c hb ho => ?_)
  have hl := ho.len
  have hml := msgB_len m0_wf m0_may
  exact (refNumbered_any 2 1 (msgB m0) A n c W ho.rd ho.2 (by omega) (hk.below hb h0) (Nat.lt_of_lt_of_le h0 hb.size)).mono fun E w' hE => ⟨hE.1, hE.2⟩
theorem P0_at {w : World} {A : Option Addr} {n c B : Nat} (h : Ow B w A n c (putM m0)) : Ow B w A n c P0 ∧ n = 146 := by
  rw [putM0] at h
  exact ⟨h, by rw [← h.len, P0_length]⟩
theorem built_m0 : Array.foldl (fun (cs : Array Value) (x : Value × Nat) => cs.setIfInBounds (13 + x.snd) x.fst) (((msgC zeroMsg).set 0 (Value.int IntKind.i64 2)).set 1 (Value.int IntKind.u64 1)).toArray ((Tryz.zeroCells32.setIfInBounds 0 (Value.int IntKind.u8 2)).setIfInBounds 2 (Value.int IntKind.u64 1)).zipIdx 0 76 = (msgC m0).toArray := by kernel_rfl
theorem build_b0 (w : World) : (Instr.build 32 #[(0, .int .u8 2), (2, .int .u64 1)]).run Tryz.prog w = .ok (.agg (bodyC b0).toArray) w := by kernel_rfl
theorem build_m0 (w : World) : (Instr.build 34 #[(0, .int .i64 2), (1, .int .u64 1), (3, .agg (bodyC b0).toArray)]).run Tryz.prog w = .ok (.agg (msgC m0).toArray) w := by kernel_rfl
/-- While the example runs: the message lies in the block w.heap.size. -/
structure WkAt (w wr : World) : Prop where
  bel : Below w.heap.size w wr
  box : wr.heap[w.heap.size]? = some (.cells (msgC m0).toArray 34 (0, 0))
theorem WkAt.next {w wr w' : World} (H : WkAt w wr) (hb : Below wr.heap.size wr w') : WkAt w w' :=
  ⟨H.bel.trans (hb.mono H.bel.size), (hb.block _ (Array.getElem?_eq_some_iff.1 H.box).1).trans H.box⟩
open Classical in
set_option maxHeartbeats 8000000 in
theorem works_any (w : World) (hk : KIs w) (h0 : 0 < w.heap.size) : Calls Tryz.prog 11 #[] w fun E w' => E = .returned (.bool true) ∧ Hid (Below w.heap.size w w') := by
  have HI : Hid ((Tryz.prog.info? 34).map (·.size) = some (msgC m0).length) := Lib.hid (by rw [msgC_length m0_wf]; exact Tryz.is34)
  have HIZ : Hid ((Tryz.prog.info? 34).map (·.size) = some (msgC zeroMsg).length) := Lib.hid (by rw [msgC_length zeroM_wf]; exact Tryz.is34)
  have HL : Hid (0 + (msgC m0).length ≤ (msgC zeroMsg).length ∧ setAll (msgC zeroMsg) 0 (msgC m0) = msgC m0) := Lib.hid ⟨by rw [msgC_length m0_wf, msgC_length zeroM_wf]; omega, setAll_all (by rw [msgC_length m0_wf, msgC_length zeroM_wf])⟩
  have HLZ : Hid (0 + (msgC zeroMsg).length ≤ (msgC zeroMsg).length ∧ setAll (msgC zeroMsg) 0 (msgC zeroMsg) = msgC zeroMsg) := Lib.hid ⟨by omega, setAll_all rfl⟩
  have hzm : ∀ w, (zeroValue 34).run Tryz.prog w = .ok (.agg (msgC zeroMsg).toArray) w := zero_msg
  have hb1 := build_b0
  have hb2 := build_m0
  have HZ0 : Hid ((w.alloc (.cells (msgC zeroMsg).toArray 34)).heap[w.heap.size]? = some (.cells (msgC zeroMsg).toArray 34 (0, 0))) := Lib.hid (heap_alloc_new w _)
  have HPUT := Lib.hid (fun W => (put_ms m0 W m0_wf (m0_prs W) (by decide)))
  have HGET := Lib.hid (fun (A : Option Addr) (n c B : Nat) W h => get_m0 A n c B W h)
  have HNIL := Lib.hid (fun W => get_nil W)
  have HMAY := Lib.hid (fun W => (may_ms m0 W m0_wf (m0_prs W) (by decide)).mono fun E w' hE => (⟨hE.1.trans (ret_bool (decide_eq_true m0_may)), hE.2⟩ : E = .returned (.bool true) ∧ Hid (Below W.heap.size W w')))
  have HSM := Lib.hid (fun W => (same_rf m0 m0 W m0_wf m0_wf (m0_prs W) (m0_prs W) (by decide) (by decide)).mono fun E w' hE => (⟨bool_of hE.1 m0_same, hE.2⟩ : E = .returned (.bool true) ∧ Below W.heap.size W w'))
  have HTG := Lib.hid (fun W (h : Below w.heap.size w W) => tagged_m0 W (hk.below h h0) (Nat.lt_of_lt_of_le h0 h.size))
  have HR1 := Lib.hid (fun W (h : Below w.heap.size w W) => (right_ms m1 W m1_wf (m0_prs W) (by decide) (hk.below h h0) (Nat.lt_of_lt_of_le h0 h.size)).mono fun E w' hE => (⟨hE.1.trans (ret_bool (decide_eq_true m1_right)), hE.2⟩ : E = .returned (.bool true) ∧ Hid (Below W.heap.size W w')))
  have HR0 := Lib.hid (fun W (h : Below w.heap.size w W) => (right_ms m0 W m0_wf (m0_prs W) (by decide) (hk.below h h0) (Nat.lt_of_lt_of_le h0 h.size)).mono fun E w' hE => (⟨hE.1.trans (ret_bool (decide_eq_false m0_wrong)), hE.2⟩ : E = .returned (.bool false) ∧ Hid (Below W.heap.size W w')))
  clear hk h0
  have HONE : Hid (∀ v ∈ msgC m0, v.oneCell' = true) := Lib.hid (one_msgC _)
  have HK0 : Hid (∀ w wr w' : World, WkAt w wr → Below wr.heap.size wr w' → WkAt w w') := Lib.hid fun _ _ _ h hb => h.next hb
  have HKM : Hid (∀ w w1 : World, Below w.heap.size w w1 → w1.heap[w.heap.size]? = some (.cells (msgC m0).toArray 34 (0, 0)) → WkAt w w1) := Lib.hid fun _ _ h1 h2 => ⟨h1, h2⟩
  have HKB : Hid (∀ w wr : World, WkAt w wr → wr.heap[w.heap.size]? = some (.cells (msgC m0).toArray 34 (0, 0))) := Lib.hid fun _ _ h => h.box
  have HBV := Lib.hid built_m0
  clear hb1 hb2
  generalize hM1 : msgC m1 = M1 at HTG HR1
  generalize hM0 : msgC m0 = M0 at HI HL HBV HPUT HGET HMAY HSM HTG HR0 HONE HKM HKB
  clear hM1 hM0
  go_enter Tryz.func11, Tryz.ntmps11
  go_wp2_with (first | (refine wpList_store_part rfl 34 (.tmp 1) (.tmp 8) rfl w.heap.size 0 (msgC zeroMsg) M0 M0 34 HZ0.out HL.out.1 HL.out.2 rfl (congrArg Value.agg HBV.out) HI.out HONE.out ?_; intro w1 Gw1; have Kw1 : Hid (WkAt w w1) := Lib.hid (HKM.out _ _ (((Below.refl _ _).alloc (Nat.le_refl _) _).grown Gw1.out.2 (by simp) (fun k hk => by injection hk with hk; omega)) Gw1.out.1)) | ((with_reducible refine wpList_load_midG ?_ 34 (.tmp 1) ?_ w.heap.size 0 ?_ M0 _ ?_ Tryz.underlying34 ?_ ?_ ?_); (· rfl); (· rfl); (· rfl); (· exact range_of (HKB.out _ _ Kw1.out)); (· rfl); (· exact HI.out)) | (go_at_call 17; with_reducible refine (HPUT.out _).mono ?_; rintro E w2 ⟨A2, n2, c2, rfl, H2, hb2⟩; obtain ⟨o2, rfl⟩ := P0_at H2; have O2 := Lib.hid o2; clear o2 H2; have Kw2 := Lib.hid (Kw1.out.next hb2.out)) | (go_at_call 21; with_reducible refine (HGET.out A2 146 c2 _ w2 O2.out).mono ?_; rintro E w3 ⟨rfl, hb3⟩; have Kw3 := Lib.hid (Kw2.out.next hb3.out); have Nw3 : Hid ((w3.alloc (.cells (msgC zeroMsg).toArray 34)).heap[w3.heap.size]? = some (.cells (msgC zeroMsg).toArray 34 (0, 0))) := Lib.hid (heap_alloc_new w3 _)) | (refine wpList_store_part rfl 34 (.tmp 3) (.tmp 14) rfl w3.heap.size 0 (msgC zeroMsg) M0 M0 34 Nw3.out HL.out.1 HL.out.2 rfl rfl HI.out HONE.out ?_; intro w4 Gw4; have BBw4 : Hid (Below w3.heap.size w3 w4) := Lib.hid (((Below.refl _ _).alloc (Nat.le_refl _) _).grown Gw4.out.2 (by simp) (fun k hk => by injection hk with hk; omega)); have Kw4 := Lib.hid (Kw3.out.next BBw4.out)) | (go_at_call 21; with_reducible refine (HNIL.out w4).mono ?_; rintro E w5 ⟨rfl, hb5⟩; have Kw5 := Lib.hid (Kw4.out.next hb5.out); have Nw5 : Hid ((w5.alloc (.cells (msgC zeroMsg).toArray 34)).heap[w5.heap.size]? = some (.cells (msgC zeroMsg).toArray 34 (0, 0))) := Lib.hid (heap_alloc_new w5 _)) | (refine wpList_store_part rfl 34 (.tmp 5) (.tmp 18) rfl w5.heap.size 0 (msgC zeroMsg) (msgC zeroMsg) (msgC zeroMsg) 34 Nw5.out HLZ.out.1 HLZ.out.2 rfl rfl HIZ.out (one_msgC _) ?_; intro w6 Gw6; have BBw6 : Hid (Below w5.heap.size w5 w6) := Lib.hid (((Below.refl _ _).alloc (Nat.le_refl _) _).grown Gw6.out.2 (by simp) (fun k hk => by injection hk with hk; omega)); have Kw6 := Lib.hid (Kw5.out.next BBw6.out)) | ((with_reducible refine wpList_load_midG ?_ 34 (.tmp 1) ?_ w.heap.size 0 ?_ M0 _ ?_ Tryz.underlying34 ?_ ?_ ?_); (· rfl); (· rfl); (· rfl); (· exact range_of (HKB.out _ _ Kw6.out)); (· rfl); (· exact HI.out)) | (go_at_call 13; with_reducible refine (HMAY.out _).mono ?_; rintro E w7 ⟨rfl, hb7⟩; have Kw7 := Lib.hid (Kw6.out.next hb7.out); have X7 : Hid (w7.heap[w3.heap.size]? = some (.cells M0.toArray 34 (0, 0))) := Lib.hid ((((hb5.out.trans (BBw6.out.mono hb5.out.size)).trans (hb7.out.mono (Nat.le_trans hb5.out.size BBw6.out.size))).block _ (Array.getElem?_eq_some_iff.1 Gw4.out.1).1).trans Gw4.out.1)) | ((with_reducible refine wpList_load_midG ?_ 34 (.tmp 3) ?_ w3.heap.size 0 ?_ M0 _ ?_ Tryz.underlying34 ?_ ?_ ?_); (· rfl); (· rfl); (· rfl); (· exact range_of X7.out); (· rfl); (· exact HI.out)) | ((with_reducible refine wpList_load_midG ?_ 34 (.tmp 1) ?_ w.heap.size 0 ?_ M0 _ ?_ Tryz.underlying34 ?_ ?_ ?_); (· rfl); (· rfl); (· rfl); (· exact range_of (HKB.out _ _ Kw7.out)); (· rfl); (· exact HI.out)) | (go_at_call 25; with_reducible refine (HSM.out _).mono ?_; rintro E w8 ⟨rfl, hb8⟩; have Kw8 := Lib.hid (Kw7.out.next hb8)) | ((with_reducible refine wpList_load_midG ?_ 34 (.tmp 1) ?_ w.heap.size 0 ?_ M0 _ ?_ Tryz.underlying34 ?_ ?_ ?_); (· rfl); (· rfl); (· rfl); (· exact range_of (HKB.out _ _ Kw8.out)); (· rfl); (· exact HI.out)) | (go_at_call 12; with_reducible refine (HTG.out _ Kw8.out.bel).mono ?_; rintro E w9 ⟨rfl, hb9⟩; have Kw9 := Lib.hid (Kw8.out.next hb9.out)) | (go_at_call 19; with_reducible refine (HR1.out _ Kw9.out.bel).mono ?_; rintro E w10 ⟨rfl, hb10⟩; have Kw10 := Lib.hid (Kw9.out.next hb10.out)) | ((with_reducible refine wpList_load_midG ?_ 34 (.tmp 1) ?_ w.heap.size 0 ?_ M0 _ ?_ Tryz.underlying34 ?_ ?_ ?_); (· rfl); (· rfl); (· rfl); (· exact range_of (HKB.out _ _ Kw10.out)); (· rfl); (· exact HI.out)) | (go_at_call 19; with_reducible refine (HR0.out _ Kw10.out.bel).mono ?_; rintro E w11 ⟨rfl, hb11⟩; have Kw11 := Lib.hid (Kw10.out.next hb11.out)))
  go_ret
  exact ⟨rfl, Lib.hid Kw11.out.bel⟩
end Go.Proofs.YtghjogneogkpoaaGreatDoor.Sh
