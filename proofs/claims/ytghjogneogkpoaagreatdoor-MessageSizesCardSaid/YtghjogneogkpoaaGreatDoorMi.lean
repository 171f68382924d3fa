/-
  What is proved: ownOf of a body that checks. Conditions as stated.
-/
import Derived.Test.YtghjogneogkpoaaGreatDoorMh
namespace Go.Proofs.YtghjogneogkpoaaGreatDoor.Sh
open Go.RowKit
set_option maxRecDepth 100000

set_option maxHeartbeats 4000000 in
theorem own_6 (x : MBody) (w : World) (hx : x.Wf) (HKI : Hid (x.kind = 6)) :
    Calls Tryz.prog 62 #[.agg (bodyC x).toArray] w fun E w' => E = .returned (.tuple #[.agg (bodyC ({ zeroBody with kind := 6, k := x.k, dig := x.dig })).toArray, .bool (isCnt x.k)]) ∧ Hid (Below w.heap.size w w') := by
  have HK : Hid (∀ o : MBody, o.Wf → (Tryz.prog.info? 32).map (·.size) = some (bodyC o).length) := Lib.hid fun o h => by rw [bodyC_length h]; exact Tryz.is32
  have HX := Lib.hid hx
  have hz : ∀ w, (zeroValue 32).run Tryz.prog w = .ok (.agg (bodyC zeroBody).toArray) w := zero_body
  have R := body_lies (World.rangeAt_alloc (range_box w (bodyC x) 32) (.cells (bodyC zeroBody).toArray 32)) hx
  have x0 : ((w.alloc (.cells (bodyC x).toArray 32)).alloc (.cells (bodyC zeroBody).toArray 32)).cell? ⟨w.heap.size, 0, none⟩ = some (.int .u8 6) := R.kind.trans (by rw [HKI.out]; rfl)
  have x1 : ((w.alloc (.cells (bodyC x).toArray 32)).alloc (.cells (bodyC zeroBody).toArray 32)).cell? ⟨w.heap.size, 1, none⟩ = some (.int .u64 (x.view : Int)) := R.view
  have HZ : Hid (OwAt w x zeroBody ((w.alloc (.cells (bodyC x).toArray 32)).alloc (.cells (bodyC zeroBody).toArray 32))) := Lib.hid ⟨((Below.refl _ _).alloc (Nat.le_refl _) _).alloc (by simp) _, by simp, World.rangeAt_alloc (range_box w (bodyC x) 32) _, by simpa using heap_alloc_new (w.alloc (.cells (bodyC x).toArray 32)) (.cells (bodyC zeroBody).toArray 32)⟩
  have HLE : Hid (0 + (bodyC { zeroBody with kind := 6, view := x.view }).length ≤ (bodyC zeroBody).length ∧ setAll (bodyC zeroBody) 0 (bodyC { zeroBody with kind := 6, view := x.view }) = bodyC { zeroBody with kind := 6, view := x.view }) := Lib.hid ⟨by rw [bodyC_length zero_wf, bodyC_length ⟨rfl, rfl⟩]; omega, setAll_all (by rw [bodyC_length zero_wf, bodyC_length ⟨rfl, rfl⟩])⟩
  have HA := Lib.hid (isCount_ms x.k)
  have HIR : Hid ((Tryz.prog.info? 27).map (·.size) = some (u8s x.dig).length) := Lib.hid (by rw [u8s_length, hx.2]; exact Tryz.size27)
  have HSD : Hid (44 + (u8s x.dig).length ≤ (bodyC ({ zeroBody with kind := 6, k := x.k })).length ∧ setAll (bodyC ({ zeroBody with kind := 6, k := x.k })) 44 (u8s x.dig) = bodyC ({ zeroBody with kind := 6, k := x.k, dig := x.dig })) := Lib.hid ⟨by rw [u8s_length, hx.2, bodyC_length ⟨rfl, rfl⟩]; decide, set_dig ({ zeroBody with kind := 6, k := x.k }) x.dig rfl rfl hx.2⟩
  clear R hx
  go_enter Tryz.func62, Tryz.ntmps62
  go_wp2_with ((refine wpList_store_part rfl 32 (.tmp 2) (.tmp 8) rfl (w.heap.size + 1) 0 (bodyC zeroBody) (bodyC { zeroBody with kind := 6, view := x.view }) (bodyC { zeroBody with kind := 6, view := x.view }) 32 HZ.out.own (HLE.out.1) (HLE.out.2) rfl rfl (HK.out _ ⟨rfl, rfl⟩) (one_bodyC _) ?_; intro w1 G1; have H1 := Lib.hid (HZ.out.grown G1.out); clear G1 HZ x0 x1; have y0 : w1.cell? ⟨w.heap.size, 0, none⟩ = some (.int .u8 6) := (body_lies H1.out.src HX.out).kind.trans (by rw [HKI.out]; rfl); have y1 : w1.cell? ⟨w.heap.size, 1, none⟩ = some (.int .u64 (x.view : Int)) := (body_lies H1.out.src HX.out).view; have y2 : w1.cell? ⟨w.heap.size, 2, none⟩ = some (.int .u64 (x.k : Int)) := (body_lies H1.out.src HX.out).k; have y43 : w1.cell? ⟨w.heap.size, 43, none⟩ = some (.slice x.qa x.qs.length x.qc) := (body_lies H1.out.src HX.out).q; have z2 : w1.cell? ⟨w.heap.size + 1, 2, none⟩ = some (.int .u64 0) := H1.out.cell 2 _ rfl; have z43 : w1.cell? ⟨w.heap.size + 1, 43, none⟩ = some (.slice none 0 0) := H1.out.cell 43 _ rfl; have hf := fun k => free_block H1.out.own k))
  refine wp_region_any (by kernel_rfl) ?_
  have H3 := Lib.hid (H1.out.drewN 1)
  clear H1 y0 y1 y2 y43 z2 z43 hf
  change wpAny _ _ _ _ _ _ _ (w1.drewN 1)
  generalize w1.drewN 1 = w3 at H3 ⊢
  refine wpAny_of_held (S := fun W => ∃ o, OwAt w x o W) _ _ _ _ ?_
  refine wpAnyH_take (i := 0) (oi := { dst := some 52, op := Op.fieldAddr 32 (Operand.tmp 1) 2, type := 0, pos := "message.go:121", after := #[{ on := 5, ground := Ground.gcOnly Departure.lateStores }], guard := none }) (v := .pointer (some ⟨w.heap.size, 2, none⟩)) rfl (by kernel_rfl) (by kernel_rfl) (by kernel_rfl) (fun _ _ _ h => h) (Or.inl ⟨by kernel_rfl, fun W hSW => by go_simp⟩) (⟨_, H3.out⟩) ?_
  try simp only [Act.put, List.setIfInBounds_toArray, List.set_cons_zero, List.set_cons_succ]
  refine wpAnyH_take (i := 1) (oi := { dst := some 53, op := Op.load 22 (Operand.tmp 52), type := 22, pos := "message.go:121", after := #[{ on := 0, ground := Ground.data }, { on := 5, ground := Ground.gcOnly Departure.lateStores }], guard := none }) (v := .int .u64 (x.k : Int)) rfl (by kernel_rfl) (by kernel_rfl) (by kernel_rfl) (fun _ _ _ h => h) (Or.inl ⟨by kernel_rfl, fun W hSW => by obtain ⟨o, hSW⟩ := hSW; have hv := (body_lies hSW.src HX.out).k; go_simp⟩) (⟨_, H3.out⟩) ?_
  try simp only [Act.put, List.setIfInBounds_toArray, List.set_cons_zero, List.set_cons_succ]
  refine wpAnyH_take (i := 2) (oi := { dst := some 54, op := Op.fieldAddr 32 (Operand.tmp 1) 5, type := 0, pos := "message.go:121", after := #[{ on := 7, ground := Ground.gcOnly Departure.lateStores }], guard := none }) (v := .pointer (some ⟨w.heap.size, 44, none⟩)) rfl (by kernel_rfl) (by kernel_rfl) (by kernel_rfl) (fun _ _ _ h => h) (Or.inl ⟨by kernel_rfl, fun W hSW => by go_simp⟩) (⟨_, H3.out⟩) ?_
  try simp only [Act.put, List.setIfInBounds_toArray, List.set_cons_zero, List.set_cons_succ]
  refine wpAnyH_take (i := 3) (oi := { dst := some 55, op := Op.load 27 (Operand.tmp 54), type := 27, pos := "message.go:121", after := #[{ on := 2, ground := Ground.data }, { on := 7, ground := Ground.gcOnly Departure.lateStores }], guard := none }) (v := .agg (u8s x.dig).toArray) rfl (by kernel_rfl) (by kernel_rfl) (by kernel_rfl) (fun _ _ _ h => h) (Or.inl ⟨by kernel_rfl, fun W hSW => exec_load_mid 27 (.tmp 54) rfl w.heap.size 44 rfl (u8s x.dig) _ ((body_lies (hSW.elim fun _ h => h.src) HX.out).dig) Tryz.underlying27 rfl (HIR.out)⟩) (⟨_, H3.out⟩) ?_
  try simp only [Act.put, List.setIfInBounds_toArray, List.set_cons_zero, List.set_cons_succ]
  refine wpAnyH_take (i := 4) (oi := { dst := some 56, op := Op.fieldAddr 32 (Operand.tmp 2) 1, type := 0, pos := "message.go:121", after := #[{ on := 0, ground := Ground.textOnly Departure.lateStores }, { on := 1, ground := Ground.textOnly Departure.lateStores }, { on := 2, ground := Ground.textOnly Departure.lateStores }, { on := 3, ground := Ground.textOnly Departure.lateStores }], guard := none }) (v := .pointer (some ⟨w.heap.size + 1, 1, none⟩)) rfl (by kernel_rfl) (by kernel_rfl) (by kernel_rfl) (fun _ _ _ h => h) (Or.inl ⟨by kernel_rfl, fun W hSW => by go_simp⟩) (⟨_, H3.out⟩) ?_
  try simp only [Act.put, List.setIfInBounds_toArray, List.set_cons_zero, List.set_cons_succ]
  have u1 : w3.cell? ⟨w.heap.size + 1, 1, none⟩ = some (.int .u64 (x.view : Int)) := H3.out.cell 1 _ rfl
  have uf1 := free_block H3.out.own 1
  refine wpAnyH_ready (rs := [5]) (by kernel_rfl) (by simp) ?_
  refine AllReadyH.cons (o := { dst := none, op := Op.store 22 (Operand.tmp 56) (Operand.const (Value.int IntKind.u64 0)), type := 0, pos := "message.go:121", after := #[{ on := 4, ground := Ground.data }, { on := 0, ground := Ground.textOnly Departure.lateStores }, { on := 1, ground := Ground.textOnly Departure.lateStores }, { on := 2, ground := Ground.textOnly Departure.lateStores }, { on := 3, ground := Ground.textOnly Departure.lateStores }], guard := none }) rfl (fun K' hK' => ?_) AllReadyH.nil
  go_simp
  have H4 := Lib.hid (H3.out.set 1 (.int .u64 0) (o' := { zeroBody with kind := 6 }) rfl)
  refine hK'.out _ _ ⟨_, H4.out⟩ (fun _ => ?_)
  clear hK' K'
  clear u1 uf1
  generalize w3.setCell ⟨w.heap.size + 1, 1, none⟩ (.int .u64 0) = w4 at H4 ⊢
  refine wpAnyH_take (i := 6) (oi := { dst := some 57, op := Op.fieldAddr 32 (Operand.tmp 2) 2, type := 0, pos := "message.go:121", after := #[{ on := 0, ground := Ground.phase }, { on := 1, ground := Ground.phase }, { on := 2, ground := Ground.textOnly Departure.lateStores }, { on := 3, ground := Ground.textOnly Departure.lateStores }, { on := 4, ground := Ground.phase }, { on := 5, ground := Ground.phase }], guard := none }) (v := .pointer (some ⟨w.heap.size + 1, 2, none⟩)) rfl (by kernel_rfl) (by kernel_rfl) (by kernel_rfl) (fun _ _ _ h => h) (Or.inl ⟨by kernel_rfl, fun W hSW => by go_simp⟩) (⟨_, H4.out⟩) ?_
  try simp only [Act.put, List.setIfInBounds_toArray, List.set_cons_zero, List.set_cons_succ]
  have u2 : w4.cell? ⟨w.heap.size + 1, 2, none⟩ = some (.int .u64 0) := H4.out.cell 2 _ rfl
  have uf2 := free_block H4.out.own 2
  refine wpAnyH_ready (rs := [7]) (by kernel_rfl) (by simp) ?_
  refine AllReadyH.cons (o := { dst := none, op := Op.store 22 (Operand.tmp 57) (Operand.tmp 53), type := 0, pos := "message.go:121", after := #[{ on := 6, ground := Ground.data }, { on := 1, ground := Ground.data }, { on := 5, ground := Ground.chain }, { on := 0, ground := Ground.phase }, { on := 1, ground := Ground.phase }, { on := 2, ground := Ground.textOnly Departure.lateStores }, { on := 3, ground := Ground.textOnly Departure.lateStores }, { on := 4, ground := Ground.phase }, { on := 5, ground := Ground.phase }], guard := none }) rfl (fun K' hK' => ?_) AllReadyH.nil
  go_simp
  have H5 := Lib.hid (H4.out.set 2 (.int .u64 (x.k : Int)) (o' := { zeroBody with kind := 6, k := x.k }) rfl)
  refine hK'.out _ _ ⟨_, H5.out⟩ (fun _ => ?_)
  clear hK' K'
  clear u2 uf2
  generalize w4.setCell ⟨w.heap.size + 1, 2, none⟩ (.int .u64 (x.k : Int)) = w5 at H5 ⊢
  refine wpAnyH_take (i := 8) (oi := { dst := some 58, op := Op.fieldAddr 32 (Operand.tmp 2) 5, type := 0, pos := "message.go:121", after := #[{ on := 0, ground := Ground.phase }, { on := 1, ground := Ground.phase }, { on := 2, ground := Ground.phase }, { on := 3, ground := Ground.phase }, { on := 4, ground := Ground.phase }, { on := 5, ground := Ground.phase }, { on := 6, ground := Ground.phase }, { on := 7, ground := Ground.phase }], guard := none }) (v := .pointer (some ⟨w.heap.size + 1, 44, none⟩)) rfl (by kernel_rfl) (by kernel_rfl) (by kernel_rfl) (fun _ _ _ h => h) (Or.inl ⟨by kernel_rfl, fun W hSW => by go_simp⟩) (⟨_, H5.out⟩) ?_
  try simp only [Act.put, List.setIfInBounds_toArray, List.set_cons_zero, List.set_cons_succ]
  refine wpAnyH_ready (rs := [9]) (by kernel_rfl) (by simp) ?_
  refine AllReadyH.cons (o := { dst := none, op := Op.store 27 (Operand.tmp 58) (Operand.tmp 55), type := 0, pos := "message.go:121", after := #[{ on := 8, ground := Ground.data }, { on := 3, ground := Ground.data }, { on := 7, ground := Ground.chain }, { on := 0, ground := Ground.phase }, { on := 1, ground := Ground.phase }, { on := 2, ground := Ground.phase }, { on := 3, ground := Ground.phase }, { on := 4, ground := Ground.phase }, { on := 5, ground := Ground.phase }, { on := 6, ground := Ground.phase }, { on := 7, ground := Ground.phase }], guard := none }) rfl (fun K' hK' => ?_) AllReadyH.nil
  refine step_store_cells rfl 27 (.tmp 58) (.tmp 55) rfl (w.heap.size + 1) 44 (u8s x.dig) rfl rfl (there_block H5.out.own 44 _ HSD.out.1) HIR.out (u8s_one _) ?_
  have H6 : Hid (OwAt w x ({ zeroBody with kind := 6, k := x.k, dig := x.dig }) (w5.setCells (w.heap.size + 1) 44 (u8s x.dig))) := Lib.hid (H5.out.grown ⟨by rw [heap_setCells _ _ _ _ H5.out.own, HSD.out.2], gb_setCells _ _ _ _⟩)
  refine hK'.out _ _ ⟨_, H6.out⟩ (fun _ => ?_)
  clear hK' K'
  generalize w5.setCells (w.heap.size + 1) 44 (u8s x.dig) = w6 at H6 ⊢
  refine wpAnyH_done (by kernel_rfl) ?_ _
  go_wp2_with fail
  refine wp_region_any (by kernel_rfl) ?_
  have K3 := Lib.hid (H6.out.drewN 1)
  change wpAny _ _ _ _ _ _ _ (w6.drewN 1)
  generalize w6.drewN 1 = w8 at K3 ⊢
  refine wpAny_of_held (S := fun W => OwAt w x ({ zeroBody with kind := 6, k := x.k, dig := x.dig }) W) _ _ _ _ ?_
  refine wpAnyH_take (i := 0) (oi := { dst := some 59, op := Op.load 32 (Operand.tmp 2), type := 32, pos := "message.go:122", after := #[], guard := none }) (v := .agg (bodyC ({ zeroBody with kind := 6, k := x.k, dig := x.dig })).toArray) rfl (by kernel_rfl) (by kernel_rfl) (by kernel_rfl) (fun _ _ _ h => h) (Or.inl ⟨by kernel_rfl, fun W hSW => exec_load_mid 32 (.tmp 2) rfl (w.heap.size + 1) 0 rfl (bodyC ({ zeroBody with kind := 6, k := x.k, dig := x.dig })) _ (range_of hSW.own) Tryz.underlying32 rfl (HK.out _ ⟨rfl, HX.out.2⟩)⟩) (K3.out) ?_
  try simp only [Act.put, List.setIfInBounds_toArray, List.set_cons_zero, List.set_cons_succ]
  refine wpAnyH_take (i := 1) (oi := { dst := some 60, op := Op.fieldAddr 32 (Operand.tmp 1) 2, type := 0, pos := "message.go:122", after := #[], guard := none }) (v := .pointer (some ⟨w.heap.size, 2, none⟩)) rfl (by kernel_rfl) (by kernel_rfl) (by kernel_rfl) (fun _ _ _ h => h) (Or.inl ⟨by kernel_rfl, fun W hSW => by go_simp⟩) (K3.out) ?_
  try simp only [Act.put, List.setIfInBounds_toArray, List.set_cons_zero, List.set_cons_succ]
  refine wpAnyH_take (i := 2) (oi := { dst := some 61, op := Op.load 22 (Operand.tmp 60), type := 22, pos := "message.go:122", after := #[{ on := 1, ground := Ground.data }], guard := none }) (v := .int .u64 (x.k : Int)) rfl (by kernel_rfl) (by kernel_rfl) (by kernel_rfl) (fun _ _ _ h => h) (Or.inl ⟨by kernel_rfl, fun W hSW => by have hv := (body_lies hSW.src HX.out).k; go_simp⟩) (K3.out) ?_
  try simp only [Act.put, List.setIfInBounds_toArray, List.set_cons_zero, List.set_cons_succ]
  refine wpAnyH_ready (rs := [3]) (by kernel_rfl) (by simp) ?_
  refine AllReadyH.cons (o := { dst := some 62, op := Op.call { callee := Callee.value (Operand.func 55), args := #[Operand.tmp 61], argTypes := #[22] }, type := 4, pos := "message.go:122", after := #[{ on := 2, ground := Ground.data }], guard := none }) rfl (fun K' hK' => ?_) AllReadyH.nil
  go_simp
  go_at_call 55
  refine (HA.out w8).mono ?_
  rintro E w9 ⟨rfl, rfl⟩
  have K4 := K3
  skip
  refine hK'.out _ _ K4.out (fun _ => ?_)
  clear hK' K'
  try simp only [Act.put, List.setIfInBounds_toArray, List.set_cons_zero, List.set_cons_succ]
  refine wpAnyH_ready (rs := [4]) (by kernel_rfl) (by simp) ?_
  refine AllReadyH.cons (o := { dst := none, op := Op.store 32 (Operand.tmp 2) (Operand.tmp 59), type := 0, pos := "message.go:122", after := #[{ on := 0, ground := Ground.data }, { on := 3, ground := Ground.chain }, { on := 0, ground := Ground.phase }, { on := 1, ground := Ground.textOnly Departure.lateStores }, { on := 2, ground := Ground.textOnly Departure.lateStores }, { on := 3, ground := Ground.textOnly Departure.lateStoresUnsure }], guard := none }) rfl (fun K' hK' => ?_) AllReadyH.nil
  refine step_store_cells rfl 32 (.tmp 2) (.tmp 59) rfl (w.heap.size + 1) 0 (bodyC ({ zeroBody with kind := 6, k := x.k, dig := x.dig })) rfl rfl (there_block K4.out.own 0 _ (by rw [Nat.zero_add]; exact Nat.le_refl _)) (HK.out _ ⟨rfl, HX.out.2⟩) (one_bodyC _) ?_
  have K5 := Lib.hid (K4.out.same)
  refine hK'.out _ _ K5.out (fun _ => ?_)
  clear hK' K'
  refine wpAnyH_take (i := 5) (oi := { dst := some 3, op := Op.assign (Operand.tmp 62), type := 4, pos := "message.go:122", after := #[{ on := 3, ground := Ground.data }, { on := 4, ground := Ground.chain }, { on := 0, ground := Ground.phase }, { on := 1, ground := Ground.phase }, { on := 2, ground := Ground.phase }, { on := 3, ground := Ground.phase }, { on := 4, ground := Ground.phase }], guard := none }) (v := .bool (isCnt x.k)) rfl (by kernel_rfl) (by kernel_rfl) (by kernel_rfl) (fun _ _ _ h => h) (Or.inl ⟨by kernel_rfl, fun W hSW => by go_simp⟩) (K5.out) ?_
  try simp only [Act.put, List.setIfInBounds_toArray, List.set_cons_zero, List.set_cons_succ]
  refine wpAnyH_done (by kernel_rfl) ?_ _
  go_wp2_with fail
  exact bodyPost_ret (K5.out.res ⟨rfl, HX.out.2⟩ rfl rfl) rfl ⟨rfl, Lib.hid K5.out.bel⟩
end Go.Proofs.YtghjogneogkpoaaGreatDoor.Sh
