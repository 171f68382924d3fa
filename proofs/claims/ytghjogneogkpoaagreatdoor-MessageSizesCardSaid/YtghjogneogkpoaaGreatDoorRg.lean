/-
  What is proved: a message with the tag that it must have, by the document's own answers (Tagged). Conditions as stated.
-/
import Derived.Test.YtghjogneogkpoaaGreatDoorRf
namespace Go.Proofs.YtghjogneogkpoaaGreatDoor.Sh
open Go.RowKit
set_option maxRecDepth 100000


theorem step_load_mid {P : Program} {ops : Array Oper} {o : Oper} {a : Act} {w : World} {K : Act → World → Prop} {Q : Exit → Act → World → Prop} {E : Prop} (hgd : o.guard = none) (ty : TypeId) (x : Operand) (ho : o.op = .load ty x)
    (b off : Nat) (hx : a.eval x = .pointer (some ⟨b, off, none⟩)) (cs : List Value) (d : TypeDesc) (hc : w.rangeAt b off cs) (hu : P.underlying ty = some d) (hd : d.isRow = true) (hi : (P.info? ty).map (·.size) = some cs.length)
    (h : K (a.put o.dst (.agg cs.toArray)) w) : if Region.wanted o (yielded ops a.tmps) = true then Oper.wp P o a w K Q else E := by
  have hw : Region.wanted o (yielded ops a.tmps) = true := by simp [Region.wanted, hgd]
  rw [if_pos hw]
  exact wp_load_mid ty x ho b off hx cs d hc hu hd hi h
theorem set_tag (m : MMsg) (t : List UInt8) (hm : m.Wf) (ht : t.length = 32) : setAll (msgC m) 89 (u8s t) = msgC { m with tag := t } := by
  have e : msgC m = (.int .i64 m.origin :: .int .u64 (m.number : Int) :: (u64s m.deps ++ bodyC m.body)) ++ (u8s m.tag ++ []) := by simp [msgC]
  have := setAll_mid (u8s t) (.int .i64 m.origin :: .int .u64 (m.number : Int) :: (u64s m.deps ++ bodyC m.body)) (u8s m.tag) [] (by rw [u8s_length, u8s_length, hm.2.2, ht])
  rw [← e] at this
  rw [show (.int .i64 m.origin :: .int .u64 (m.number : Int) :: (u64s m.deps ++ bodyC m.body) : List Value).length = 89 by simp [u64s_length, hm.1, bodyC_length hm.2.1]] at this
  rw [this]
  simp [msgC]
/-- While a message is tagged: it lies in the block w.heap.size, the result in the one behind. -/
structure TgM (w : World) (m : MMsg) (wr : World) : Prop where
  bel : Below w.heap.size w wr
  lt : w.heap.size + 1 < wr.heap.size
  box : wr.heap[w.heap.size]? = some (.cells (msgC m).toArray 34 (0, 0))
  res : wr.heap[w.heap.size + 1]? = some (.cells (msgC zeroMsg).toArray 34 (0, 0))
theorem TgM.next {w : World} {m : MMsg} {wr w' : World} (H : TgM w m wr) (hb : Below wr.heap.size wr w') : TgM w m w' :=
  ⟨H.bel.trans (hb.mono H.bel.size), Nat.lt_of_lt_of_le H.lt hb.size, (hb.block _ (by have := H.lt; omega)).trans H.box, (hb.block _ H.lt).trans H.res⟩
theorem TgM.drewN {w : World} {m : MMsg} {wr : World} (H : TgM w m wr) (q : Nat) : TgM w m (wr.drewN q) := ⟨below_drewN H.bel q, H.lt, H.box, H.res⟩
theorem TgM.tagged {w : World} {m : MMsg} {wr : World} (H : TgM w m wr) (t : List UInt8) (hm : m.Wf) (ht : t.length = 32) : TgM w { m with tag := t } (wr.setCells w.heap.size 89 (u8s t)) := by
  have hg := gb_setCells w.heap.size (u8s t) 89 wr
  exact ⟨H.bel.grown hg H.bel.size (fun k hk => by injection hk with hk; omega), Nat.lt_of_lt_of_le H.lt hg.size, by rw [heap_setCells _ _ _ _ H.box, set_tag m t hm ht], (hg.block _ H.lt (by simp)).trans H.res⟩
set_option maxHeartbeats 8000000 in
theorem tagged_rf (m : MMsg) (tg : List UInt8) (w : World) (hm : m.Wf) (ht : tg.length = 32)
    (HM : Hid (∀ W, Below w.heap.size w W → Calls Tryz.prog 14 #[.agg (msgC m).toArray] W fun E w' => E = .returned (.bool true) ∧ Hid (Below W.heap.size W w')))
    (HB : Hid (∀ W, Below w.heap.size w W → Calls Tryz.prog 16 #[.agg (msgC m).toArray] W fun E w' => ∃ A' n' c', E = .returned (.slice A' n' c') ∧ Ow W.heap.size w' A' n' c' (msgB m) ∧ Hid (Below W.heap.size W w')))
    (HN : Hid (∀ (W : World) (A : Option Addr) (n c : Nat), Below w.heap.size w W → Ow 0 W A n c (msgB m) → Calls Tryz.prog 32 #[.int .i64 m.origin, .int .u64 (m.number : Int), .slice A n c] W fun E w' => E = .returned (.agg (u8s tg).toArray) ∧ Hid (Below W.heap.size W w'))) :
    Calls Tryz.prog 12 #[.agg (msgC m).toArray] w fun E w' => E = .returned (.agg (msgC { m with tag := tg }).toArray) ∧ Hid (Below w.heap.size w w') := by
  have HMW := Lib.hid hm
  have hm2 : ({ m with tag := tg } : MMsg).Wf := ⟨hm.1, hm.2.1, ht⟩
  have hzw : zeroMsg.Wf := ⟨rfl, zero_wf, rfl⟩
  have HI : Hid ((Tryz.prog.info? 34).map (·.size) = some (msgC m).length) := Lib.hid (by rw [msgC_length hm]; exact Tryz.is34)
  have HI2 : Hid ((Tryz.prog.info? 34).map (·.size) = some (msgC { m with tag := tg }).length) := Lib.hid (by rw [msgC_length hm2]; exact Tryz.is34)
  have HJ : Hid ((Tryz.prog.info? 27).map (·.size) = some (u8s tg).length) := Lib.hid (by rw [u8s_length, ht]; exact Tryz.size27)
  have HTL : Hid (tg.length = 32 ∧ 89 + (u8s tg).length ≤ (msgC m).length) := Lib.hid ⟨ht, by rw [u8s_length, ht, msgC_length hm]; omega⟩
  have HLE : Hid (0 + (msgC { m with tag := tg }).length ≤ (msgC zeroMsg).length ∧ setAll (msgC zeroMsg) 0 (msgC { m with tag := tg }) = msgC { m with tag := tg }) := Lib.hid ⟨by rw [msgC_length hzw, msgC_length hm2]; omega, setAll_all (by rw [msgC_length hzw, msgC_length hm2])⟩
  have hz : ∀ w, (zeroValue 34).run Tryz.prog w = .ok (.agg (msgC zeroMsg).toArray) w := zero_msg
  have H0 : Hid (TgM w m ((w.alloc (.cells (msgC m).toArray 34)).alloc (.cells (msgC zeroMsg).toArray 34))) := Lib.hid ⟨((Below.refl _ _).alloc (Nat.le_refl _) _).alloc (by simp) _, by simp, by
    have h1 := heap_alloc_new w (.cells (msgC m).toArray 34)
    exact (((Below.refl _ _).alloc (Nat.le_refl _) (.cells (msgC zeroMsg).toArray 34) : Below (w.alloc (.cells (msgC m).toArray 34)).heap.size _ _).block w.heap.size (by simp)).trans h1, by simpa using heap_alloc_new (w.alloc (.cells (msgC m).toArray 34)) (.cells (msgC zeroMsg).toArray 34)⟩
  clear hm hm2 hzw ht
  go_enter Tryz.func12, Tryz.ntmps12
  go_wp2_with (first | ((with_reducible refine wpList_load_midG ?_ 34 (.tmp 1) ?_ w.heap.size 0 ?_ (msgC m) _ ?_ Tryz.underlying34 ?_ ?_ ?_); (· rfl); (· rfl); (· rfl); (· exact range_of H0.out.box); (· rfl); (· exact HI.out)) | (go_at_call 14; refine (HM.out _ H0.out.bel).mono ?_; rintro E w1 ⟨rfl, hb1⟩; have H1 := Lib.hid (H0.out.next hb1.out)))
  refine wp_region_any (by kernel_rfl) ?_
  have H3 := Lib.hid (H1.out.drewN 1)
  change wpAny _ _ _ _ _ _ _ (w1.drewN 1)
  generalize w1.drewN 1 = w3 at H3 ⊢
  refine wpAny_of_held (S := fun W => ∃ t : List UInt8, t.length = 32 ∧ W.rangeAt w.heap.size 0 (msgC { m with tag := t })) _ _ _ _ ?_
  refine wpAnyH_take (i := 0) (oi := { dst := some 5, op := Op.fieldAddr 34 (Operand.tmp 1) 0, type := 0, pos := "ref.go:244", after := #[], guard := none }) (v := .pointer (some ⟨w.heap.size, 0, none⟩)) rfl (by kernel_rfl) (by kernel_rfl) (by kernel_rfl) (fun _ _ _ h => h) (Or.inl ⟨by kernel_rfl, fun W hSW => by go_simp⟩) (⟨m.tag, HMW.out.2.2, range_of H3.out.box⟩) ?_
  try simp only [Act.put, List.setIfInBounds_toArray, List.set_cons_zero, List.set_cons_succ]
  refine wpAnyH_take (i := 1) (oi := { dst := some 6, op := Op.load 3 (Operand.tmp 5), type := 3, pos := "ref.go:244", after := #[{ on := 0, ground := Ground.data }], guard := none }) (v := .int .i64 m.origin) rfl (by kernel_rfl) (by kernel_rfl) (by kernel_rfl) (fun _ _ _ h => h) (Or.inl ⟨by kernel_rfl, fun W hSW => by obtain ⟨t, ht, hr⟩ := hSW; have hv := (msg_lies (m := { m with tag := t }) hr ⟨HMW.out.1, HMW.out.2.1, ht⟩).origin; go_simp⟩) (⟨m.tag, HMW.out.2.2, range_of H3.out.box⟩) ?_
  try simp only [Act.put, List.setIfInBounds_toArray, List.set_cons_zero, List.set_cons_succ]
  refine wpAnyH_take (i := 2) (oi := { dst := some 7, op := Op.fieldAddr 34 (Operand.tmp 1) 1, type := 0, pos := "ref.go:244", after := #[], guard := none }) (v := .pointer (some ⟨w.heap.size, 1, none⟩)) rfl (by kernel_rfl) (by kernel_rfl) (by kernel_rfl) (fun _ _ _ h => h) (Or.inl ⟨by kernel_rfl, fun W hSW => by go_simp⟩) (⟨m.tag, HMW.out.2.2, range_of H3.out.box⟩) ?_
  try simp only [Act.put, List.setIfInBounds_toArray, List.set_cons_zero, List.set_cons_succ]
  refine wpAnyH_take (i := 3) (oi := { dst := some 8, op := Op.load 22 (Operand.tmp 7), type := 22, pos := "ref.go:244", after := #[{ on := 2, ground := Ground.data }], guard := none }) (v := .int .u64 (m.number : Int)) rfl (by kernel_rfl) (by kernel_rfl) (by kernel_rfl) (fun _ _ _ h => h) (Or.inl ⟨by kernel_rfl, fun W hSW => by obtain ⟨t, ht, hr⟩ := hSW; have hv := (msg_lies (m := { m with tag := t }) hr ⟨HMW.out.1, HMW.out.2.1, ht⟩).number; go_simp⟩) (⟨m.tag, HMW.out.2.2, range_of H3.out.box⟩) ?_
  try simp only [Act.put, List.setIfInBounds_toArray, List.set_cons_zero, List.set_cons_succ]
  refine wpAnyH_ready (rs := [4]) (by kernel_rfl) (by simp) ?_
  refine AllReadyH.cons (o := { dst := some 9, op := Op.load 34 (Operand.tmp 1), type := 34, pos := "ref.go:244", after := #[], guard := none }) rfl (fun K' hK' => ?_) AllReadyH.nil
  refine step_load_mid rfl 34 (.tmp 1) rfl w.heap.size 0 rfl (msgC m) _ (range_of H3.out.box) Tryz.underlying34 rfl HI.out ?_
  refine hK'.out _ _ ⟨m.tag, HMW.out.2.2, range_of H3.out.box⟩ (fun _ => ?_)
  clear hK' K'
  try simp only [Act.put, List.setIfInBounds_toArray, List.set_cons_zero, List.set_cons_succ]
  refine wpAnyH_ready (rs := [5]) (by kernel_rfl) (by simp) ?_
  refine AllReadyH.cons (o := { dst := some 10, op := Op.call { callee := Callee.value (Operand.func 16), args := #[Operand.tmp 9], argTypes := #[34] }, type := 38, pos := "ref.go:244", after := #[{ on := 4, ground := Ground.data }], guard := none }) rfl (fun K' hK' => ?_) AllReadyH.nil
  go_simp
  go_at_call 16
  refine (HB.out _ H3.out.bel).mono ?_
  rintro E w4 ⟨A4, n4, c4, rfl, Hx4, hb4⟩
  have O4 := Lib.hid Hx4
  clear Hx4
  have H4 := Lib.hid (H3.out.next hb4.out)
  refine hK'.out _ _ ⟨m.tag, HMW.out.2.2, range_of H4.out.box⟩ (fun _ => ?_)
  clear hK' K'
  try simp only [Act.put, List.setIfInBounds_toArray, List.set_cons_zero, List.set_cons_succ]
  refine wpAnyH_ready (rs := [6]) (by kernel_rfl) (by simp) ?_
  refine AllReadyH.cons (o := { dst := some 11, op := Op.call { callee := Callee.value (Operand.func 32), args := #[Operand.tmp 6, Operand.tmp 8, Operand.tmp 10], argTypes := #[3, 22, 38] }, type := 27, pos := "ref.go:244", after := #[{ on := 1, ground := Ground.data }, { on := 3, ground := Ground.data }, { on := 5, ground := Ground.data }, { on := 5, ground := Ground.chain }], guard := none }) rfl (fun K' hK' => ?_) AllReadyH.nil
  go_simp
  go_at_call 32
  refine (HN.out w4 A4 n4 c4 H4.out.bel (O4.out.low (B' := 0) (Nat.zero_le _))).mono ?_
  rintro E w5 ⟨rfl, hb5⟩
  have H5 := Lib.hid (H4.out.next hb5.out)
  refine hK'.out _ _ ⟨m.tag, HMW.out.2.2, range_of H5.out.box⟩ (fun _ => ?_)
  clear hK' K'
  try simp only [Act.put, List.setIfInBounds_toArray, List.set_cons_zero, List.set_cons_succ]
  refine wpAnyH_take (i := 7) (oi := { dst := some 12, op := Op.fieldAddr 34 (Operand.tmp 1) 4, type := 0, pos := "ref.go:244", after := #[{ on := 0, ground := Ground.phase }, { on := 1, ground := Ground.phase }, { on := 2, ground := Ground.phase }, { on := 3, ground := Ground.phase }, { on := 4, ground := Ground.phase }, { on := 5, ground := Ground.phase }, { on := 6, ground := Ground.phase }], guard := none }) (v := .pointer (some ⟨w.heap.size, 89, none⟩)) rfl (by kernel_rfl) (by kernel_rfl) (by kernel_rfl) (fun _ _ _ h => h) (Or.inl ⟨by kernel_rfl, fun W hSW => by go_simp⟩) (⟨m.tag, HMW.out.2.2, range_of H5.out.box⟩) ?_
  try simp only [Act.put, List.setIfInBounds_toArray, List.set_cons_zero, List.set_cons_succ]
  refine wpAnyH_ready (rs := [8]) (by kernel_rfl) (by simp) ?_
  refine AllReadyH.cons (o := { dst := none, op := Op.store 27 (Operand.tmp 12) (Operand.tmp 11), type := 0, pos := "ref.go:244", after := #[{ on := 7, ground := Ground.data }, { on := 6, ground := Ground.data }, { on := 6, ground := Ground.chain }, { on := 0, ground := Ground.phase }, { on := 1, ground := Ground.phase }, { on := 2, ground := Ground.phase }, { on := 3, ground := Ground.phase }, { on := 4, ground := Ground.phase }, { on := 5, ground := Ground.phase }, { on := 6, ground := Ground.phase }], guard := none }) rfl (fun K' hK' => ?_) AllReadyH.nil
  refine step_store_cells rfl 27 (.tmp 12) (.tmp 11) rfl w.heap.size 89 (u8s tg) rfl rfl (there_block H5.out.box 89 _ HTL.out.2) HJ.out (u8s_one _) ?_
  have H6 := Lib.hid (H5.out.tagged tg HMW.out HTL.out.1)
  refine hK'.out _ _ ⟨tg, HTL.out.1, range_of H6.out.box⟩ (fun _ => ?_)
  clear hK' K'
  refine wpAnyH_done (by kernel_rfl) ?_ _
  generalize w5.setCells w.heap.size 89 (u8s tg) = w6 at H6 ⊢
  go_wp2_with (first | ((with_reducible refine wpList_load_midG ?_ 34 (.tmp 1) ?_ w.heap.size 0 ?_ (msgC { m with tag := tg }) _ ?_ Tryz.underlying34 ?_ ?_ ?_); (· rfl); (· rfl); (· rfl); (· exact range_of H6.out.box); (· rfl); (· exact HI2.out)) | (refine wpList_store_part rfl 34 (.tmp 2) (.tmp 13) rfl (w.heap.size + 1) 0 (msgC zeroMsg) (msgC { m with tag := tg }) (msgC { m with tag := tg }) 34 H6.out.res HLE.out.1 HLE.out.2 rfl rfl HI2.out (one_msgC _) ?_; intro w9 G9))
  exact bodyPost_ret (ret_range (cs := msgC { m with tag := tg }) rfl rfl (range_of G9.out.1) Tryz.underlying34 rfl HI2.out) rfl ⟨rfl, Lib.hid (H6.out.bel.grown G9.out.2 H6.out.bel.size (fun k hk => by injection hk with hk; omega))⟩
end Go.Proofs.YtghjogneogkpoaaGreatDoor.Sh
