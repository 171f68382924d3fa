/-
  What is proved: a body's bytes, kind by kind: Prepare and NewView. Conditions as stated.
-/
import Derived.Test.YtghjogneogkpoaaGreatDoorMn
namespace Go.Proofs.YtghjogneogkpoaaGreatDoor.Sh
open Go.RowKit
set_option maxRecDepth 100000

theorem reqB_len {r : MReq} (h : reqMay r = true) : (reqB r).length ≤ 400 := by
  simp only [reqMay, opMay, Bool.and_eq_true, decide_eq_true_eq] at h
  simp only [reqB, List.length_cons, List.length_append, be_length, txtB_len]
  omega
set_option maxHeartbeats 4000000 in
theorem putPrepare_ms (b : MBody) (hb : b.Wf) (hr : reqMay b.req = true) : Puts 92 b (be 8 b.view ++ (reqB b.req ++ b.req.tag)) := by
  intro B n c w A bs h hn
  have HBD := Lib.hid hb
  have hl := h.len
  have HQ : Hid (BodyLies ((w.alloc (.cells (bodyC b).toArray 32)).drewN 1) w.heap.size 0 b ∧ Below w.heap.size w ((w.alloc (.cells (bodyC b).toArray 32)).drewN 1) ∧ w.heap.size < ((w.alloc (.cells (bodyC b).toArray 32)).drewN 1).heap.size ∧ Ow B ((w.alloc (.cells (bodyC b).toArray 32)).drewN 1) A n c bs) :=
    Lib.hid ⟨body_lies (range_box w (bodyC b) 32) hb, below_drewN ((Below.refl _ _).alloc (Nat.le_refl _) _) 1, by simp, h.below (below_drewN ((Below.refl _ _).alloc (Nat.le_refl _) _) 1)⟩
  have HIR : Hid ((Tryz.prog.info? 29).map (·.size) = some (reqC b.req).length) := Lib.hid (by rw [reqC_length hb.1]; exact Tryz.is29)
  have HRM := Lib.hid hr
  have hlr := reqB_len hr
  clear hb h hr
  go_enter Tryz.func92, Tryz.ntmps92
  go_wp2_with fail
  refine wp_region_any (by kernel_rfl) ?_
  change wpAny _ _ _ _ _ _ _ ((w.alloc (.cells (bodyC b).toArray 32)).drewN 1)
  generalize (w.alloc (.cells (bodyC b).toArray 32)).drewN 1 = w3 at HQ ⊢
  refine wpAny_of_held (S := fun W => Below w3.heap.size w3 W) _ _ _ _ ?_
  refine wpAnyH_take (i := 0) (oi := { dst := some 5, op := Op.move (Operand.tmp 0), type := 38, pos := "message.go:169", after := #[], guard := none }) (v := .slice A n c) rfl (by kernel_rfl) (by kernel_rfl) (by kernel_rfl) (fun _ _ _ h => h) (Or.inl ⟨by kernel_rfl, fun W hSW => by go_simp⟩) (Below.refl _ _) ?_
  try simp only [Act.put, List.setIfInBounds_toArray, List.set_cons_zero, List.set_cons_succ]
  refine wpAnyH_take (i := 1) (oi := { dst := some 6, op := Op.fieldAddr 32 (Operand.tmp 3) 1, type := 0, pos := "message.go:169", after := #[], guard := none }) (v := .pointer (some ⟨w.heap.size, 1, none⟩)) rfl (by kernel_rfl) (by kernel_rfl) (by kernel_rfl) (fun _ _ _ h => h) (Or.inl ⟨by kernel_rfl, fun W hSW => by go_simp⟩) (Below.refl _ _) ?_
  try simp only [Act.put, List.setIfInBounds_toArray, List.set_cons_zero, List.set_cons_succ]
  refine wpAnyH_take (i := 2) (oi := { dst := some 7, op := Op.load 22 (Operand.tmp 6), type := 22, pos := "message.go:169", after := #[{ on := 1, ground := Ground.data }], guard := none }) (v := .int .u64 (b.view : Int)) rfl (by kernel_rfl) (by kernel_rfl) (by kernel_rfl) (fun _ _ _ h => h) (Or.inl ⟨by kernel_rfl, fun W hSW => by have hv := (hSW.cell (p := ⟨w.heap.size, 1, none⟩) HQ.out.2.2.1).trans HQ.out.1.view; go_simp⟩) (Below.refl _ _) ?_
  try simp only [Act.put, List.setIfInBounds_toArray, List.set_cons_zero, List.set_cons_succ]
  refine wpAnyH_take (i := 4) (oi := { dst := some 9, op := Op.fieldAddr 32 (Operand.tmp 3) 3, type := 0, pos := "message.go:169", after := #[], guard := none }) (v := .pointer (some ⟨w.heap.size, 3, none⟩)) rfl (by kernel_rfl) (by kernel_rfl) (by kernel_rfl) (fun _ _ _ h => h) (Or.inl ⟨by kernel_rfl, fun W hSW => by go_simp⟩) (Below.refl _ _) ?_
  try simp only [Act.put, List.setIfInBounds_toArray, List.set_cons_zero, List.set_cons_succ]
  refine wpAnyH_take (i := 5) (oi := { dst := some 10, op := Op.load 29 (Operand.tmp 9), type := 29, pos := "message.go:169", after := #[{ on := 4, ground := Ground.data }], guard := none }) (v := .agg (reqC b.req).toArray) rfl (by kernel_rfl) (by kernel_rfl) (by kernel_rfl) (fun _ _ _ h => h) (Or.inl ⟨by kernel_rfl, fun W hSW => exec_load_mid 29 (.tmp 9) rfl w.heap.size 3 rfl (reqC b.req) _ (rangeAt_below HQ.out.1.req.all hSW HQ.out.2.2.1) Tryz.underlying29 rfl (HIR.out)⟩) (Below.refl _ _) ?_
  try simp only [Act.put, List.setIfInBounds_toArray, List.set_cons_zero, List.set_cons_succ]
  refine wpAnyH_ready (rs := [3]) (by kernel_rfl) (by simp) ?_
  refine AllReadyH.cons (o := { dst := some 8, op := Op.call { callee := Callee.value (Operand.func 40), args := #[Operand.tmp 5, Operand.tmp 7], argTypes := #[38, 22] }, type := 38, pos := "message.go:169", after := #[{ on := 0, ground := Ground.data }, { on := 2, ground := Ground.data }], guard := none }) rfl (fun K' hK' => ?_) AllReadyH.nil
  go_simp
  go_at_call 40
  refine (word_ow b.view HQ.out.2.2.2 (by omega)).mono ?_
  rintro E w4 ⟨Aw4, nw4, cw4, rfl, H4, hb4⟩
  have lw4 := H4.len
  have Ow4 := Lib.hid H4
  clear H4
  simp only [List.length_append, be_length] at lw4
  refine hK'.out _ _ hb4.out (fun _ => ?_)
  clear hK' K'
  try simp only [Act.put, List.setIfInBounds_toArray, List.set_cons_zero, List.set_cons_succ]
  refine wpAnyH_ready (rs := [6]) (by kernel_rfl) (by simp) ?_
  refine AllReadyH.cons (o := { dst := some 11, op := Op.call { callee := Callee.value (Operand.func 89), args := #[Operand.tmp 8, Operand.tmp 10], argTypes := #[38, 29] }, type := 38, pos := "message.go:169", after := #[{ on := 3, ground := Ground.data }, { on := 5, ground := Ground.data }, { on := 3, ground := Ground.chain }], guard := none }) rfl (fun K' hK' => ?_) AllReadyH.nil
  go_simp
  go_at_call 89
  refine (putRequest_ms b.req w3.heap.size nw4 cw4 w4 Aw4 (bs ++ be 8 b.view) Ow4.out hb4.out.size (by omega) HRM.out).mono ?_
  rintro E w5 ⟨Aw5, nw5, cw5, rfl, H5, hb5⟩
  have lw5 := H5.len
  have Ow5 := Lib.hid H5
  clear H5
  simp only [List.length_append, be_length] at lw5
  have hb35 := Lib.hid (hb4.out.trans hb5.out)
  refine hK'.out _ _ hb35.out (fun _ => ?_)
  clear hK' K'
  try simp only [Act.put, List.setIfInBounds_toArray, List.set_cons_zero, List.set_cons_succ]
  refine wpAnyH_take (i := 7) (oi := { dst := some 0, op := Op.assign (Operand.tmp 11), type := 38, pos := "message.go:169", after := #[{ on := 6, ground := Ground.data }, { on := 6, ground := Ground.chain }, { on := 0, ground := Ground.phase }, { on := 1, ground := Ground.phase }, { on := 2, ground := Ground.phase }, { on := 3, ground := Ground.phase }, { on := 4, ground := Ground.phase }, { on := 5, ground := Ground.phase }, { on := 6, ground := Ground.phase }], guard := none }) (v := .slice Aw5 nw5 cw5) rfl (by kernel_rfl) (by kernel_rfl) (by kernel_rfl) (fun _ _ _ h => h) (Or.inl ⟨by kernel_rfl, fun W hSW => by go_simp⟩) (hb35.out) ?_
  try simp only [Act.put, List.setIfInBounds_toArray, List.set_cons_zero]
  refine wpAnyH_done (by kernel_rfl) ?_ _
  have HD := Lib.hid (rd_of_range (rangeAt_below HQ.out.1.req.tag hb35.out HQ.out.2.2.1) HBD.out.1 (Nat.lt_of_lt_of_le HQ.out.2.2.1 hb35.out.size))
  go_wp2_with (at_builtin; go_must (refine wpList_append_gb rfl (.tmp 12) (.tmp 15) rfl w3.heap.size nw5 32 32 (.slice Aw5 nw5 cw5) (some ⟨w.heap.size, 11, none⟩) (bs ++ be 8 b.view ++ reqB b.req) b.req.tag rfl rfl (Ow5.out.low hb4.out.size).1 HD.out sl_32 hb35.out.size (by have := hlr; omega) ?_); intro A6 c6 w6 H6 G6)
  have hb6 := Lib.hid (hb35.out.grown G6.out hb35.out.size (fun k hk => ((Ow5.out.low hb4.out.size).1.lt k hk).1))
  go_ret
  exact ⟨_, _, _, rfl, ⟨by have := own_low H6.out.1 HQ.out.2.1.size; simpa [List.append_assoc] using this, H6.out.2⟩, Lib.hid (HQ.out.2.1.trans (hb6.out.mono HQ.out.2.1.size))⟩
end Go.Proofs.YtghjogneogkpoaaGreatDoor.Sh
