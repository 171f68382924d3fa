/-
  What is proved: whether a body may be, by the document's own answers (body), but for NewView. Conditions as stated.
-/
import Derived.Test.YtghjogneogkpoaaGreatDoorRb
namespace Go.Proofs.YtghjogneogkpoaaGreatDoor.Sh
open Go.RowKit
set_option maxRecDepth 100000

set_option maxHeartbeats 8000000 in
theorem bodyr_n (x : MBody) (w : World) (hx : x.Wf)  (HO : Hid (∀ W, Below w.heap.size w W → Calls Tryz.prog 64 #[.agg (bodyC x).toArray] W fun E w' => E = .returned (.agg (bodyC (ownR x)).toArray) ∧ Hid (Below W.heap.size W w')))
    (HS : Hid (∀ W, Below w.heap.size w W → Calls Tryz.prog 52 #[.agg (bodyC (ownR x)).toArray, .agg (bodyC x).toArray] W fun E w' => E = .returned (.bool false) ∧ Hid (Below W.heap.size W w'))) :
    Calls Tryz.prog 36 #[.agg (bodyC x).toArray] w fun E w' => E = .returned (.bool (false)) ∧ Hid (Below w.heap.size w w') := by
  have HB := Lib.hid (body_lies (range_box w (bodyC x) 32) hx)
  have HX := Lib.hid hx
  have HI : Hid ((Tryz.prog.info? 32).map (·.size) = some (bodyC x).length) := Lib.hid (by rw [bodyC_length hx]; exact Tryz.is32)
  have HL : Hid (RqAt w.heap.size w (bodyC x) (w.alloc (.cells (bodyC x).toArray 32))) := Lib.hid ⟨(Below.refl _ _).alloc (Nat.le_refl _) _, by simp, range_box w (bodyC x) 32⟩
  clear hx
  go_enter Tryz.func36, Tryz.ntmps36
  go_wp2_with fail
  refine wp_region_any (by kernel_rfl) ?_
  have H3 := Lib.hid (HL.out.drewN 1)
  change wpAny _ _ _ _ _ _ _ ((w.alloc (.cells (bodyC x).toArray 32)).drewN 1)
  generalize (w.alloc (.cells (bodyC x).toArray 32)).drewN 1 = w3 at H3 ⊢
  clear HL HB
  refine wpAny_of_held (S := fun W => W.rangeAt w.heap.size 0 (bodyC x)) _ _ _ _ ?_
  refine wpAnyH_take (i := 0) (oi := { dst := some 5, op := Op.load 32 (Operand.tmp 1), type := 32, pos := "ref.go:92", after := #[], guard := none }) (v := .agg (bodyC x).toArray) rfl (by kernel_rfl) (by kernel_rfl) (by kernel_rfl) (fun _ _ _ h => h) (Or.inl ⟨by kernel_rfl, fun W hSW => exec_load_mid 32 (.tmp 1) rfl w.heap.size 0 rfl (bodyC x) _ (hSW) Tryz.underlying32 rfl (HI.out)⟩) (H3.out.src) ?_
  try simp only [Act.put, List.setIfInBounds_toArray, List.set_cons_zero, List.set_cons_succ]
  refine wpAnyH_take (i := 2) (oi := { dst := some 7, op := Op.load 32 (Operand.tmp 1), type := 32, pos := "ref.go:92", after := #[], guard := none }) (v := .agg (bodyC x).toArray) rfl (by kernel_rfl) (by kernel_rfl) (by kernel_rfl) (fun _ _ _ h => h) (Or.inl ⟨by kernel_rfl, fun W hSW => exec_load_mid 32 (.tmp 1) rfl w.heap.size 0 rfl (bodyC x) _ (hSW) Tryz.underlying32 rfl (HI.out)⟩) (H3.out.src) ?_
  try simp only [Act.put, List.setIfInBounds_toArray, List.set_cons_zero, List.set_cons_succ]
  refine wpAnyH_ready (rs := [1]) (by kernel_rfl) (by simp) ?_
  refine AllReadyH.cons (o := { dst := some 6, op := Op.call { callee := Callee.value (Operand.func 64), args := #[Operand.tmp 5], argTypes := #[32] }, type := 32, pos := "ref.go:92", after := #[{ on := 0, ground := Ground.data }], guard := none }) rfl (fun K' hK' => ?_) AllReadyH.nil
  go_simp
  go_at_call 64
  refine (HO.out _ H3.out.bel).mono ?_
  rintro E w4 ⟨rfl, hb4⟩
  have H4 := Lib.hid (H3.out.next (Nat.le_refl _) hb4.out)
  refine hK'.out _ _ H4.out.src (fun _ => ?_)
  clear hK' K'
  try simp only [Act.put, List.setIfInBounds_toArray, List.set_cons_zero, List.set_cons_succ]
  refine wpAnyH_ready (rs := [3]) (by kernel_rfl) (by simp) ?_
  refine AllReadyH.cons (o := { dst := some 8, op := Op.call { callee := Callee.value (Operand.func 52), args := #[Operand.tmp 6, Operand.tmp 7], argTypes := #[32, 32] }, type := 4, pos := "ref.go:92", after := #[{ on := 1, ground := Ground.data }, { on := 2, ground := Ground.data }, { on := 1, ground := Ground.chain }], guard := none }) rfl (fun K' hK' => ?_) AllReadyH.nil
  go_simp
  go_at_call 52
  refine (HS.out _ H4.out.bel).mono ?_
  rintro E w5 ⟨rfl, hb5⟩
  have H5 := Lib.hid (H4.out.next (Nat.le_refl _) hb5.out)
  refine hK'.out _ _ H5.out.src (fun _ => ?_)
  clear hK' K'
  try simp only [Act.put, List.setIfInBounds_toArray, List.set_cons_zero, List.set_cons_succ]
  refine wpAnyH_take (i := 4) (oi := { dst := some 9, op := Op.unOp UnOp.not 4 (Operand.tmp 8), type := 4, pos := "ref.go:92", after := #[{ on := 3, ground := Ground.data }], guard := none }) (v := .bool true) rfl (by kernel_rfl) (by kernel_rfl) (by kernel_rfl) (fun _ _ _ h => h) (Or.inl ⟨by kernel_rfl, fun W hSW => by go_simp⟩) (H5.out.src) ?_
  try simp only [Act.put, List.setIfInBounds_toArray, List.set_cons_zero, List.set_cons_succ]
  refine wpAnyH_take (i := 5) (oi := { dst := some 10, op := Op.move (Operand.tmp 9), type := 4, pos := "ref.go:92", after := #[{ on := 4, ground := Ground.data }, { on := 3, ground := Ground.chain }], guard := none }) (v := .bool true) rfl (by kernel_rfl) (by kernel_rfl) (by kernel_rfl) (fun _ _ _ h => h) (Or.inl ⟨by kernel_rfl, fun W hSW => by go_simp⟩) (H5.out.src) ?_
  try simp only [Act.put, List.setIfInBounds_toArray, List.set_cons_zero, List.set_cons_succ]
  refine wpAnyH_take (i := 6) (oi := { dst := some 11, op := Op.fieldAddr 32 (Operand.tmp 1) 1, type := 0, pos := "ref.go:92", after := #[{ on := 5, ground := Ground.guard }], guard := some (5, false) }) (v := undef) rfl (by kernel_rfl) (by kernel_rfl) (by kernel_rfl) (fun _ _ _ h => h) (Or.inr ⟨by kernel_rfl, rfl⟩) (H5.out.src) ?_
  try simp only [Act.put, List.setIfInBounds_toArray, List.set_cons_zero, List.set_cons_succ]
  refine wpAnyH_take (i := 7) (oi := { dst := some 12, op := Op.load 22 (Operand.tmp 11), type := 22, pos := "ref.go:92", after := #[{ on := 6, ground := Ground.data }, { on := 5, ground := Ground.guard }], guard := some (5, false) }) (v := undef) rfl (by kernel_rfl) (by kernel_rfl) (by kernel_rfl) (fun _ _ _ h => h) (Or.inr ⟨by kernel_rfl, rfl⟩) (H5.out.src) ?_
  try simp only [Act.put, List.setIfInBounds_toArray, List.set_cons_zero, List.set_cons_succ]
  refine wpAnyH_take (i := 8) (oi := { dst := some 13, op := Op.binOp BinOp.geq 22 (Operand.tmp 12) (Operand.const (Value.int IntKind.u64 1073741824)) 22, type := 4, pos := "ref.go:92", after := #[{ on := 7, ground := Ground.data }, { on := 5, ground := Ground.guard }], guard := some (5, false) }) (v := undef) rfl (by kernel_rfl) (by kernel_rfl) (by kernel_rfl) (fun _ _ _ h => h) (Or.inr ⟨by kernel_rfl, rfl⟩) (H5.out.src) ?_
  try simp only [Act.put, List.setIfInBounds_toArray, List.set_cons_zero, List.set_cons_succ]
  refine wpAnyH_take (i := 9) (oi := { dst := some 14, op := Op.pick (Operand.tmp 10) (Operand.const (Value.bool true)) (Operand.tmp 13), type := 4, pos := "ref.go:92", after := #[{ on := 5, ground := Ground.data }, { on := 8, ground := Ground.data }], guard := none }) (v := .bool true) rfl (by kernel_rfl) (by kernel_rfl) (by kernel_rfl) (fun _ _ _ h => h) (Or.inl ⟨by kernel_rfl, fun W hSW => by go_simp⟩) (H5.out.src) ?_
  try simp only [Act.put, List.setIfInBounds_toArray, List.set_cons_zero, List.set_cons_succ]
  refine wpAnyH_done (by kernel_rfl) ?_ _
  go_wp2_with fail
  go_ret
  exact ⟨rfl, Lib.hid H5.out.bel⟩
set_option maxHeartbeats 8000000 in
theorem bodyr_v (x : MBody) (w : World) (hx : x.Wf) (HV : (x.view : Int) ≥ 1073741824) (HV2 : 1073741824 ≤ x.view) (HO : Hid (∀ W, Below w.heap.size w W → Calls Tryz.prog 64 #[.agg (bodyC x).toArray] W fun E w' => E = .returned (.agg (bodyC (ownR x)).toArray) ∧ Hid (Below W.heap.size W w')))
    (HS : Hid (∀ W, Below w.heap.size w W → Calls Tryz.prog 52 #[.agg (bodyC (ownR x)).toArray, .agg (bodyC x).toArray] W fun E w' => E = .returned (.bool true) ∧ Hid (Below W.heap.size W w'))) :
    Calls Tryz.prog 36 #[.agg (bodyC x).toArray] w fun E w' => E = .returned (.bool (false)) ∧ Hid (Below w.heap.size w w') := by
  have HB := Lib.hid (body_lies (range_box w (bodyC x) 32) hx)
  have HX := Lib.hid hx
  have HI : Hid ((Tryz.prog.info? 32).map (·.size) = some (bodyC x).length) := Lib.hid (by rw [bodyC_length hx]; exact Tryz.is32)
  have HL : Hid (RqAt w.heap.size w (bodyC x) (w.alloc (.cells (bodyC x).toArray 32))) := Lib.hid ⟨(Below.refl _ _).alloc (Nat.le_refl _) _, by simp, range_box w (bodyC x) 32⟩
  clear hx
  go_enter Tryz.func36, Tryz.ntmps36
  go_wp2_with fail
  refine wp_region_any (by kernel_rfl) ?_
  have H3 := Lib.hid (HL.out.drewN 1)
  change wpAny _ _ _ _ _ _ _ ((w.alloc (.cells (bodyC x).toArray 32)).drewN 1)
  generalize (w.alloc (.cells (bodyC x).toArray 32)).drewN 1 = w3 at H3 ⊢
  clear HL HB
  refine wpAny_of_held (S := fun W => W.rangeAt w.heap.size 0 (bodyC x)) _ _ _ _ ?_
  refine wpAnyH_take (i := 0) (oi := { dst := some 5, op := Op.load 32 (Operand.tmp 1), type := 32, pos := "ref.go:92", after := #[], guard := none }) (v := .agg (bodyC x).toArray) rfl (by kernel_rfl) (by kernel_rfl) (by kernel_rfl) (fun _ _ _ h => h) (Or.inl ⟨by kernel_rfl, fun W hSW => exec_load_mid 32 (.tmp 1) rfl w.heap.size 0 rfl (bodyC x) _ (hSW) Tryz.underlying32 rfl (HI.out)⟩) (H3.out.src) ?_
  try simp only [Act.put, List.setIfInBounds_toArray, List.set_cons_zero, List.set_cons_succ]
  refine wpAnyH_take (i := 2) (oi := { dst := some 7, op := Op.load 32 (Operand.tmp 1), type := 32, pos := "ref.go:92", after := #[], guard := none }) (v := .agg (bodyC x).toArray) rfl (by kernel_rfl) (by kernel_rfl) (by kernel_rfl) (fun _ _ _ h => h) (Or.inl ⟨by kernel_rfl, fun W hSW => exec_load_mid 32 (.tmp 1) rfl w.heap.size 0 rfl (bodyC x) _ (hSW) Tryz.underlying32 rfl (HI.out)⟩) (H3.out.src) ?_
  try simp only [Act.put, List.setIfInBounds_toArray, List.set_cons_zero, List.set_cons_succ]
  refine wpAnyH_ready (rs := [1]) (by kernel_rfl) (by simp) ?_
  refine AllReadyH.cons (o := { dst := some 6, op := Op.call { callee := Callee.value (Operand.func 64), args := #[Operand.tmp 5], argTypes := #[32] }, type := 32, pos := "ref.go:92", after := #[{ on := 0, ground := Ground.data }], guard := none }) rfl (fun K' hK' => ?_) AllReadyH.nil
  go_simp
  go_at_call 64
  refine (HO.out _ H3.out.bel).mono ?_
  rintro E w4 ⟨rfl, hb4⟩
  have H4 := Lib.hid (H3.out.next (Nat.le_refl _) hb4.out)
  refine hK'.out _ _ H4.out.src (fun _ => ?_)
  clear hK' K'
  try simp only [Act.put, List.setIfInBounds_toArray, List.set_cons_zero, List.set_cons_succ]
  refine wpAnyH_ready (rs := [3]) (by kernel_rfl) (by simp) ?_
  refine AllReadyH.cons (o := { dst := some 8, op := Op.call { callee := Callee.value (Operand.func 52), args := #[Operand.tmp 6, Operand.tmp 7], argTypes := #[32, 32] }, type := 4, pos := "ref.go:92", after := #[{ on := 1, ground := Ground.data }, { on := 2, ground := Ground.data }, { on := 1, ground := Ground.chain }], guard := none }) rfl (fun K' hK' => ?_) AllReadyH.nil
  go_simp
  go_at_call 52
  refine (HS.out _ H4.out.bel).mono ?_
  rintro E w5 ⟨rfl, hb5⟩
  have H5 := Lib.hid (H4.out.next (Nat.le_refl _) hb5.out)
  refine hK'.out _ _ H5.out.src (fun _ => ?_)
  clear hK' K'
  try simp only [Act.put, List.setIfInBounds_toArray, List.set_cons_zero, List.set_cons_succ]
  refine wpAnyH_take (i := 4) (oi := { dst := some 9, op := Op.unOp UnOp.not 4 (Operand.tmp 8), type := 4, pos := "ref.go:92", after := #[{ on := 3, ground := Ground.data }], guard := none }) (v := .bool false) rfl (by kernel_rfl) (by kernel_rfl) (by kernel_rfl) (fun _ _ _ h => h) (Or.inl ⟨by kernel_rfl, fun W hSW => by go_simp⟩) (H5.out.src) ?_
  try simp only [Act.put, List.setIfInBounds_toArray, List.set_cons_zero, List.set_cons_succ]
  refine wpAnyH_take (i := 5) (oi := { dst := some 10, op := Op.move (Operand.tmp 9), type := 4, pos := "ref.go:92", after := #[{ on := 4, ground := Ground.data }, { on := 3, ground := Ground.chain }], guard := none }) (v := .bool false) rfl (by kernel_rfl) (by kernel_rfl) (by kernel_rfl) (fun _ _ _ h => h) (Or.inl ⟨by kernel_rfl, fun W hSW => by go_simp⟩) (H5.out.src) ?_
  try simp only [Act.put, List.setIfInBounds_toArray, List.set_cons_zero, List.set_cons_succ]
  refine wpAnyH_take (i := 6) (oi := { dst := some 11, op := Op.fieldAddr 32 (Operand.tmp 1) 1, type := 0, pos := "ref.go:92", after := #[{ on := 5, ground := Ground.guard }], guard := some (5, false) }) (v := .pointer (some ⟨w.heap.size, 1, none⟩)) rfl (by kernel_rfl) (by kernel_rfl) (by kernel_rfl) (fun _ _ _ h => h) (Or.inl ⟨by kernel_rfl, fun W hSW => by go_simp⟩) (H5.out.src) ?_
  try simp only [Act.put, List.setIfInBounds_toArray, List.set_cons_zero, List.set_cons_succ]
  refine wpAnyH_take (i := 7) (oi := { dst := some 12, op := Op.load 22 (Operand.tmp 11), type := 22, pos := "ref.go:92", after := #[{ on := 6, ground := Ground.data }, { on := 5, ground := Ground.guard }], guard := some (5, false) }) (v := .int .u64 (x.view : Int)) rfl (by kernel_rfl) (by kernel_rfl) (by kernel_rfl) (fun _ _ _ h => h) (Or.inl ⟨by kernel_rfl, fun W hSW => by have hv := (body_lies hSW HX.out).view; go_simp⟩) (H5.out.src) ?_
  try simp only [Act.put, List.setIfInBounds_toArray, List.set_cons_zero, List.set_cons_succ]
  refine wpAnyH_take (i := 8) (oi := { dst := some 13, op := Op.binOp BinOp.geq 22 (Operand.tmp 12) (Operand.const (Value.int IntKind.u64 1073741824)) 22, type := 4, pos := "ref.go:92", after := #[{ on := 7, ground := Ground.data }, { on := 5, ground := Ground.guard }], guard := some (5, false) }) (v := .bool true) rfl (by kernel_rfl) (by kernel_rfl) (by kernel_rfl) (fun _ _ _ h => h) (Or.inl ⟨by kernel_rfl, fun W hSW => by have hv := HV; have hv2 := HV2; go_simp⟩) (H5.out.src) ?_
  try simp only [Act.put, List.setIfInBounds_toArray, List.set_cons_zero, List.set_cons_succ]
  refine wpAnyH_take (i := 9) (oi := { dst := some 14, op := Op.pick (Operand.tmp 10) (Operand.const (Value.bool true)) (Operand.tmp 13), type := 4, pos := "ref.go:92", after := #[{ on := 5, ground := Ground.data }, { on := 8, ground := Ground.data }], guard := none }) (v := .bool true) rfl (by kernel_rfl) (by kernel_rfl) (by kernel_rfl) (fun _ _ _ h => h) (Or.inl ⟨by kernel_rfl, fun W hSW => by go_simp⟩) (H5.out.src) ?_
  try simp only [Act.put, List.setIfInBounds_toArray, List.set_cons_zero, List.set_cons_succ]
  refine wpAnyH_done (by kernel_rfl) ?_ _
  go_wp2_with fail
  go_ret
  exact ⟨rfl, Lib.hid H5.out.bel⟩
set_option maxHeartbeats 8000000 in
theorem bodyr_2 (x : MBody) (w : World) (hx : x.Wf) (HKI : Hid (x.kind = 2)) (h1 : (1 : Int) ≤ (x.k : Int)) (HV : ¬ ((x.view : Int) ≥ 1073741824)) (HV2 : ¬ (1073741824 ≤ x.view)) (HO : Hid (∀ W, Below w.heap.size w W → Calls Tryz.prog 64 #[.agg (bodyC x).toArray] W fun E w' => E = .returned (.agg (bodyC (ownR x)).toArray) ∧ Hid (Below W.heap.size W w')))
    (HS : Hid (∀ W, Below w.heap.size w W → Calls Tryz.prog 52 #[.agg (bodyC (ownR x)).toArray, .agg (bodyC x).toArray] W fun E w' => E = .returned (.bool true) ∧ Hid (Below W.heap.size W w'))) :
    Calls Tryz.prog 36 #[.agg (bodyC x).toArray] w fun E w' => E = .returned (.bool (decide ((x.k : Int) ≤ 4611686018427387904))) ∧ Hid (Below w.heap.size w w') := by
  have HB := Lib.hid (body_lies (range_box w (bodyC x) 32) hx)
  have HX := Lib.hid hx
  have HI : Hid ((Tryz.prog.info? 32).map (·.size) = some (bodyC x).length) := Lib.hid (by rw [bodyC_length hx]; exact Tryz.is32)
  have HL : Hid (RqAt w.heap.size w (bodyC x) (w.alloc (.cells (bodyC x).toArray 32))) := Lib.hid ⟨(Below.refl _ _).alloc (Nat.le_refl _) _, by simp, range_box w (bodyC x) 32⟩
  clear hx
  go_enter Tryz.func36, Tryz.ntmps36
  go_wp2_with fail
  refine wp_region_any (by kernel_rfl) ?_
  have H3 := Lib.hid (HL.out.drewN 1)
  change wpAny _ _ _ _ _ _ _ ((w.alloc (.cells (bodyC x).toArray 32)).drewN 1)
  generalize (w.alloc (.cells (bodyC x).toArray 32)).drewN 1 = w3 at H3 ⊢
  clear HL HB
  refine wpAny_of_held (S := fun W => W.rangeAt w.heap.size 0 (bodyC x)) _ _ _ _ ?_
  refine wpAnyH_take (i := 0) (oi := { dst := some 5, op := Op.load 32 (Operand.tmp 1), type := 32, pos := "ref.go:92", after := #[], guard := none }) (v := .agg (bodyC x).toArray) rfl (by kernel_rfl) (by kernel_rfl) (by kernel_rfl) (fun _ _ _ h => h) (Or.inl ⟨by kernel_rfl, fun W hSW => exec_load_mid 32 (.tmp 1) rfl w.heap.size 0 rfl (bodyC x) _ (hSW) Tryz.underlying32 rfl (HI.out)⟩) (H3.out.src) ?_
  try simp only [Act.put, List.setIfInBounds_toArray, List.set_cons_zero, List.set_cons_succ]
  refine wpAnyH_take (i := 2) (oi := { dst := some 7, op := Op.load 32 (Operand.tmp 1), type := 32, pos := "ref.go:92", after := #[], guard := none }) (v := .agg (bodyC x).toArray) rfl (by kernel_rfl) (by kernel_rfl) (by kernel_rfl) (fun _ _ _ h => h) (Or.inl ⟨by kernel_rfl, fun W hSW => exec_load_mid 32 (.tmp 1) rfl w.heap.size 0 rfl (bodyC x) _ (hSW) Tryz.underlying32 rfl (HI.out)⟩) (H3.out.src) ?_
  try simp only [Act.put, List.setIfInBounds_toArray, List.set_cons_zero, List.set_cons_succ]
  refine wpAnyH_ready (rs := [1]) (by kernel_rfl) (by simp) ?_
  refine AllReadyH.cons (o := { dst := some 6, op := Op.call { callee := Callee.value (Operand.func 64), args := #[Operand.tmp 5], argTypes := #[32] }, type := 32, pos := "ref.go:92", after := #[{ on := 0, ground := Ground.data }], guard := none }) rfl (fun K' hK' => ?_) AllReadyH.nil
  go_simp
  go_at_call 64
  refine (HO.out _ H3.out.bel).mono ?_
  rintro E w4 ⟨rfl, hb4⟩
  have H4 := Lib.hid (H3.out.next (Nat.le_refl _) hb4.out)
  refine hK'.out _ _ H4.out.src (fun _ => ?_)
  clear hK' K'
  try simp only [Act.put, List.setIfInBounds_toArray, List.set_cons_zero, List.set_cons_succ]
  refine wpAnyH_ready (rs := [3]) (by kernel_rfl) (by simp) ?_
  refine AllReadyH.cons (o := { dst := some 8, op := Op.call { callee := Callee.value (Operand.func 52), args := #[Operand.tmp 6, Operand.tmp 7], argTypes := #[32, 32] }, type := 4, pos := "ref.go:92", after := #[{ on := 1, ground := Ground.data }, { on := 2, ground := Ground.data }, { on := 1, ground := Ground.chain }], guard := none }) rfl (fun K' hK' => ?_) AllReadyH.nil
  go_simp
  go_at_call 52
  refine (HS.out _ H4.out.bel).mono ?_
  rintro E w5 ⟨rfl, hb5⟩
  have H5 := Lib.hid (H4.out.next (Nat.le_refl _) hb5.out)
  refine hK'.out _ _ H5.out.src (fun _ => ?_)
  clear hK' K'
  try simp only [Act.put, List.setIfInBounds_toArray, List.set_cons_zero, List.set_cons_succ]
  refine wpAnyH_take (i := 4) (oi := { dst := some 9, op := Op.unOp UnOp.not 4 (Operand.tmp 8), type := 4, pos := "ref.go:92", after := #[{ on := 3, ground := Ground.data }], guard := none }) (v := .bool false) rfl (by kernel_rfl) (by kernel_rfl) (by kernel_rfl) (fun _ _ _ h => h) (Or.inl ⟨by kernel_rfl, fun W hSW => by go_simp⟩) (H5.out.src) ?_
  try simp only [Act.put, List.setIfInBounds_toArray, List.set_cons_zero, List.set_cons_succ]
  refine wpAnyH_take (i := 5) (oi := { dst := some 10, op := Op.move (Operand.tmp 9), type := 4, pos := "ref.go:92", after := #[{ on := 4, ground := Ground.data }, { on := 3, ground := Ground.chain }], guard := none }) (v := .bool false) rfl (by kernel_rfl) (by kernel_rfl) (by kernel_rfl) (fun _ _ _ h => h) (Or.inl ⟨by kernel_rfl, fun W hSW => by go_simp⟩) (H5.out.src) ?_
  try simp only [Act.put, List.setIfInBounds_toArray, List.set_cons_zero, List.set_cons_succ]
  refine wpAnyH_take (i := 6) (oi := { dst := some 11, op := Op.fieldAddr 32 (Operand.tmp 1) 1, type := 0, pos := "ref.go:92", after := #[{ on := 5, ground := Ground.guard }], guard := some (5, false) }) (v := .pointer (some ⟨w.heap.size, 1, none⟩)) rfl (by kernel_rfl) (by kernel_rfl) (by kernel_rfl) (fun _ _ _ h => h) (Or.inl ⟨by kernel_rfl, fun W hSW => by go_simp⟩) (H5.out.src) ?_
  try simp only [Act.put, List.setIfInBounds_toArray, List.set_cons_zero, List.set_cons_succ]
  refine wpAnyH_take (i := 7) (oi := { dst := some 12, op := Op.load 22 (Operand.tmp 11), type := 22, pos := "ref.go:92", after := #[{ on := 6, ground := Ground.data }, { on := 5, ground := Ground.guard }], guard := some (5, false) }) (v := .int .u64 (x.view : Int)) rfl (by kernel_rfl) (by kernel_rfl) (by kernel_rfl) (fun _ _ _ h => h) (Or.inl ⟨by kernel_rfl, fun W hSW => by have hv := (body_lies hSW HX.out).view; go_simp⟩) (H5.out.src) ?_
  try simp only [Act.put, List.setIfInBounds_toArray, List.set_cons_zero, List.set_cons_succ]
  refine wpAnyH_take (i := 8) (oi := { dst := some 13, op := Op.binOp BinOp.geq 22 (Operand.tmp 12) (Operand.const (Value.int IntKind.u64 1073741824)) 22, type := 4, pos := "ref.go:92", after := #[{ on := 7, ground := Ground.data }, { on := 5, ground := Ground.guard }], guard := some (5, false) }) (v := .bool false) rfl (by kernel_rfl) (by kernel_rfl) (by kernel_rfl) (fun _ _ _ h => h) (Or.inl ⟨by kernel_rfl, fun W hSW => by have hv := HV; have hv2 := HV2; go_simp⟩) (H5.out.src) ?_
  try simp only [Act.put, List.setIfInBounds_toArray, List.set_cons_zero, List.set_cons_succ]
  refine wpAnyH_take (i := 9) (oi := { dst := some 14, op := Op.pick (Operand.tmp 10) (Operand.const (Value.bool true)) (Operand.tmp 13), type := 4, pos := "ref.go:92", after := #[{ on := 5, ground := Ground.data }, { on := 8, ground := Ground.data }], guard := none }) (v := .bool false) rfl (by kernel_rfl) (by kernel_rfl) (by kernel_rfl) (fun _ _ _ h => h) (Or.inl ⟨by kernel_rfl, fun W hSW => by go_simp⟩) (H5.out.src) ?_
  try simp only [Act.put, List.setIfInBounds_toArray, List.set_cons_zero, List.set_cons_succ]
  refine wpAnyH_done (by kernel_rfl) ?_ _
  clear HV HV2
  have k0 : w5.cell? ⟨w.heap.size, 0, none⟩ = some (.int .u8 2) := (body_lies H5.out.src HX.out).kind.trans (by rw [HKI.out]; rfl)
  have k1 : w5.cell? ⟨w.heap.size, 1, none⟩ = some (.int .u64 (x.view : Int)) := (body_lies H5.out.src HX.out).view
  have k2 : w5.cell? ⟨w.heap.size, 2, none⟩ = some (.int .u64 (x.k : Int)) := (body_lies H5.out.src HX.out).k
  have n1 : 1 ≤ x.k := by omega
  go_wp2_with fail
  go_ret
  exact ⟨ret_bool (by first | rfl | (rw [Bool.eq_iff_iff]; simp only [decide_eq_true_eq] <;> omega)), Lib.hid H5.out.bel⟩
set_option maxHeartbeats 8000000 in
theorem bodyr_2n (x : MBody) (w : World) (hx : x.Wf) (HKI : Hid (x.kind = 2)) (h1 : ¬ ((1 : Int) ≤ (x.k : Int))) (HV : ¬ ((x.view : Int) ≥ 1073741824)) (HV2 : ¬ (1073741824 ≤ x.view)) (HO : Hid (∀ W, Below w.heap.size w W → Calls Tryz.prog 64 #[.agg (bodyC x).toArray] W fun E w' => E = .returned (.agg (bodyC (ownR x)).toArray) ∧ Hid (Below W.heap.size W w')))
    (HS : Hid (∀ W, Below w.heap.size w W → Calls Tryz.prog 52 #[.agg (bodyC (ownR x)).toArray, .agg (bodyC x).toArray] W fun E w' => E = .returned (.bool true) ∧ Hid (Below W.heap.size W w'))) :
    Calls Tryz.prog 36 #[.agg (bodyC x).toArray] w fun E w' => E = .returned (.bool (false)) ∧ Hid (Below w.heap.size w w') := by
  have HB := Lib.hid (body_lies (range_box w (bodyC x) 32) hx)
  have HX := Lib.hid hx
  have HI : Hid ((Tryz.prog.info? 32).map (·.size) = some (bodyC x).length) := Lib.hid (by rw [bodyC_length hx]; exact Tryz.is32)
  have HL : Hid (RqAt w.heap.size w (bodyC x) (w.alloc (.cells (bodyC x).toArray 32))) := Lib.hid ⟨(Below.refl _ _).alloc (Nat.le_refl _) _, by simp, range_box w (bodyC x) 32⟩
  clear hx
  go_enter Tryz.func36, Tryz.ntmps36
  go_wp2_with fail
  refine wp_region_any (by kernel_rfl) ?_
  have H3 := Lib.hid (HL.out.drewN 1)
  change wpAny _ _ _ _ _ _ _ ((w.alloc (.cells (bodyC x).toArray 32)).drewN 1)
  generalize (w.alloc (.cells (bodyC x).toArray 32)).drewN 1 = w3 at H3 ⊢
  clear HL HB
  refine wpAny_of_held (S := fun W => W.rangeAt w.heap.size 0 (bodyC x)) _ _ _ _ ?_
  refine wpAnyH_take (i := 0) (oi := { dst := some 5, op := Op.load 32 (Operand.tmp 1), type := 32, pos := "ref.go:92", after := #[], guard := none }) (v := .agg (bodyC x).toArray) rfl (by kernel_rfl) (by kernel_rfl) (by kernel_rfl) (fun _ _ _ h => h) (Or.inl ⟨by kernel_rfl, fun W hSW => exec_load_mid 32 (.tmp 1) rfl w.heap.size 0 rfl (bodyC x) _ (hSW) Tryz.underlying32 rfl (HI.out)⟩) (H3.out.src) ?_
  try simp only [Act.put, List.setIfInBounds_toArray, List.set_cons_zero, List.set_cons_succ]
  refine wpAnyH_take (i := 2) (oi := { dst := some 7, op := Op.load 32 (Operand.tmp 1), type := 32, pos := "ref.go:92", after := #[], guard := none }) (v := .agg (bodyC x).toArray) rfl (by kernel_rfl) (by kernel_rfl) (by kernel_rfl) (fun _ _ _ h => h) (Or.inl ⟨by kernel_rfl, fun W hSW => exec_load_mid 32 (.tmp 1) rfl w.heap.size 0 rfl (bodyC x) _ (hSW) Tryz.underlying32 rfl (HI.out)⟩) (H3.out.src) ?_
  try simp only [Act.put, List.setIfInBounds_toArray, List.set_cons_zero, List.set_cons_succ]
  refine wpAnyH_ready (rs := [1]) (by kernel_rfl) (by simp) ?_
  refine AllReadyH.cons (o := { dst := some 6, op := Op.call { callee := Callee.value (Operand.func 64), args := #[Operand.tmp 5], argTypes := #[32] }, type := 32, pos := "ref.go:92", after := #[{ on := 0, ground := Ground.data }], guard := none }) rfl (fun K' hK' => ?_) AllReadyH.nil
  go_simp
  go_at_call 64
  refine (HO.out _ H3.out.bel).mono ?_
  rintro E w4 ⟨rfl, hb4⟩
  have H4 := Lib.hid (H3.out.next (Nat.le_refl _) hb4.out)
  refine hK'.out _ _ H4.out.src (fun _ => ?_)
  clear hK' K'
  try simp only [Act.put, List.setIfInBounds_toArray, List.set_cons_zero, List.set_cons_succ]
  refine wpAnyH_ready (rs := [3]) (by kernel_rfl) (by simp) ?_
  refine AllReadyH.cons (o := { dst := some 8, op := Op.call { callee := Callee.value (Operand.func 52), args := #[Operand.tmp 6, Operand.tmp 7], argTypes := #[32, 32] }, type := 4, pos := "ref.go:92", after := #[{ on := 1, ground := Ground.data }, { on := 2, ground := Ground.data }, { on := 1, ground := Ground.chain }], guard := none }) rfl (fun K' hK' => ?_) AllReadyH.nil
  go_simp
  go_at_call 52
  refine (HS.out _ H4.out.bel).mono ?_
  rintro E w5 ⟨rfl, hb5⟩
  have H5 := Lib.hid (H4.out.next (Nat.le_refl _) hb5.out)
  refine hK'.out _ _ H5.out.src (fun _ => ?_)
  clear hK' K'
  try simp only [Act.put, List.setIfInBounds_toArray, List.set_cons_zero, List.set_cons_succ]
  refine wpAnyH_take (i := 4) (oi := { dst := some 9, op := Op.unOp UnOp.not 4 (Operand.tmp 8), type := 4, pos := "ref.go:92", after := #[{ on := 3, ground := Ground.data }], guard := none }) (v := .bool false) rfl (by kernel_rfl) (by kernel_rfl) (by kernel_rfl) (fun _ _ _ h => h) (Or.inl ⟨by kernel_rfl, fun W hSW => by go_simp⟩) (H5.out.src) ?_
  try simp only [Act.put, List.setIfInBounds_toArray, List.set_cons_zero, List.set_cons_succ]
  refine wpAnyH_take (i := 5) (oi := { dst := some 10, op := Op.move (Operand.tmp 9), type := 4, pos := "ref.go:92", after := #[{ on := 4, ground := Ground.data }, { on := 3, ground := Ground.chain }], guard := none }) (v := .bool false) rfl (by kernel_rfl) (by kernel_rfl) (by kernel_rfl) (fun _ _ _ h => h) (Or.inl ⟨by kernel_rfl, fun W hSW => by go_simp⟩) (H5.out.src) ?_
  try simp only [Act.put, List.setIfInBounds_toArray, List.set_cons_zero, List.set_cons_succ]
  refine wpAnyH_take (i := 6) (oi := { dst := some 11, op := Op.fieldAddr 32 (Operand.tmp 1) 1, type := 0, pos := "ref.go:92", after := #[{ on := 5, ground := Ground.guard }], guard := some (5, false) }) (v := .pointer (some ⟨w.heap.size, 1, none⟩)) rfl (by kernel_rfl) (by kernel_rfl) (by kernel_rfl) (fun _ _ _ h => h) (Or.inl ⟨by kernel_rfl, fun W hSW => by go_simp⟩) (H5.out.src) ?_
  try simp only [Act.put, List.setIfInBounds_toArray, List.set_cons_zero, List.set_cons_succ]
  refine wpAnyH_take (i := 7) (oi := { dst := some 12, op := Op.load 22 (Operand.tmp 11), type := 22, pos := "ref.go:92", after := #[{ on := 6, ground := Ground.data }, { on := 5, ground := Ground.guard }], guard := some (5, false) }) (v := .int .u64 (x.view : Int)) rfl (by kernel_rfl) (by kernel_rfl) (by kernel_rfl) (fun _ _ _ h => h) (Or.inl ⟨by kernel_rfl, fun W hSW => by have hv := (body_lies hSW HX.out).view; go_simp⟩) (H5.out.src) ?_
  try simp only [Act.put, List.setIfInBounds_toArray, List.set_cons_zero, List.set_cons_succ]
  refine wpAnyH_take (i := 8) (oi := { dst := some 13, op := Op.binOp BinOp.geq 22 (Operand.tmp 12) (Operand.const (Value.int IntKind.u64 1073741824)) 22, type := 4, pos := "ref.go:92", after := #[{ on := 7, ground := Ground.data }, { on := 5, ground := Ground.guard }], guard := some (5, false) }) (v := .bool false) rfl (by kernel_rfl) (by kernel_rfl) (by kernel_rfl) (fun _ _ _ h => h) (Or.inl ⟨by kernel_rfl, fun W hSW => by have hv := HV; have hv2 := HV2; go_simp⟩) (H5.out.src) ?_
  try simp only [Act.put, List.setIfInBounds_toArray, List.set_cons_zero, List.set_cons_succ]
  refine wpAnyH_take (i := 9) (oi := { dst := some 14, op := Op.pick (Operand.tmp 10) (Operand.const (Value.bool true)) (Operand.tmp 13), type := 4, pos := "ref.go:92", after := #[{ on := 5, ground := Ground.data }, { on := 8, ground := Ground.data }], guard := none }) (v := .bool false) rfl (by kernel_rfl) (by kernel_rfl) (by kernel_rfl) (fun _ _ _ h => h) (Or.inl ⟨by kernel_rfl, fun W hSW => by go_simp⟩) (H5.out.src) ?_
  try simp only [Act.put, List.setIfInBounds_toArray, List.set_cons_zero, List.set_cons_succ]
  refine wpAnyH_done (by kernel_rfl) ?_ _
  clear HV HV2
  have k0 : w5.cell? ⟨w.heap.size, 0, none⟩ = some (.int .u8 2) := (body_lies H5.out.src HX.out).kind.trans (by rw [HKI.out]; rfl)
  have k1 : w5.cell? ⟨w.heap.size, 1, none⟩ = some (.int .u64 (x.view : Int)) := (body_lies H5.out.src HX.out).view
  have k2 : w5.cell? ⟨w.heap.size, 2, none⟩ = some (.int .u64 (x.k : Int)) := (body_lies H5.out.src HX.out).k
  have n1 : ¬ (1 ≤ x.k) := by omega
  go_wp2_with fail
  go_ret
  exact ⟨rfl, Lib.hid H5.out.bel⟩
set_option maxHeartbeats 8000000 in
theorem bodyr_6 (x : MBody) (w : World) (hx : x.Wf) (HKI : Hid (x.kind = 6)) (h1 : (1 : Int) ≤ (x.k : Int)) (HV : ¬ ((x.view : Int) ≥ 1073741824)) (HV2 : ¬ (1073741824 ≤ x.view)) (HO : Hid (∀ W, Below w.heap.size w W → Calls Tryz.prog 64 #[.agg (bodyC x).toArray] W fun E w' => E = .returned (.agg (bodyC (ownR x)).toArray) ∧ Hid (Below W.heap.size W w')))
    (HS : Hid (∀ W, Below w.heap.size w W → Calls Tryz.prog 52 #[.agg (bodyC (ownR x)).toArray, .agg (bodyC x).toArray] W fun E w' => E = .returned (.bool true) ∧ Hid (Below W.heap.size W w'))) :
    Calls Tryz.prog 36 #[.agg (bodyC x).toArray] w fun E w' => E = .returned (.bool (decide ((x.k : Int) ≤ 4611686018427387904))) ∧ Hid (Below w.heap.size w w') := by
  have HB := Lib.hid (body_lies (range_box w (bodyC x) 32) hx)
  have HX := Lib.hid hx
  have HI : Hid ((Tryz.prog.info? 32).map (·.size) = some (bodyC x).length) := Lib.hid (by rw [bodyC_length hx]; exact Tryz.is32)
  have HL : Hid (RqAt w.heap.size w (bodyC x) (w.alloc (.cells (bodyC x).toArray 32))) := Lib.hid ⟨(Below.refl _ _).alloc (Nat.le_refl _) _, by simp, range_box w (bodyC x) 32⟩
  clear hx
  go_enter Tryz.func36, Tryz.ntmps36
  go_wp2_with fail
  refine wp_region_any (by kernel_rfl) ?_
  have H3 := Lib.hid (HL.out.drewN 1)
  change wpAny _ _ _ _ _ _ _ ((w.alloc (.cells (bodyC x).toArray 32)).drewN 1)
  generalize (w.alloc (.cells (bodyC x).toArray 32)).drewN 1 = w3 at H3 ⊢
  clear HL HB
  refine wpAny_of_held (S := fun W => W.rangeAt w.heap.size 0 (bodyC x)) _ _ _ _ ?_
  refine wpAnyH_take (i := 0) (oi := { dst := some 5, op := Op.load 32 (Operand.tmp 1), type := 32, pos := "ref.go:92", after := #[], guard := none }) (v := .agg (bodyC x).toArray) rfl (by kernel_rfl) (by kernel_rfl) (by kernel_rfl) (fun _ _ _ h => h) (Or.inl ⟨by kernel_rfl, fun W hSW => exec_load_mid 32 (.tmp 1) rfl w.heap.size 0 rfl (bodyC x) _ (hSW) Tryz.underlying32 rfl (HI.out)⟩) (H3.out.src) ?_
  try simp only [Act.put, List.setIfInBounds_toArray, List.set_cons_zero, List.set_cons_succ]
  refine wpAnyH_take (i := 2) (oi := { dst := some 7, op := Op.load 32 (Operand.tmp 1), type := 32, pos := "ref.go:92", after := #[], guard := none }) (v := .agg (bodyC x).toArray) rfl (by kernel_rfl) (by kernel_rfl) (by kernel_rfl) (fun _ _ _ h => h) (Or.inl ⟨by kernel_rfl, fun W hSW => exec_load_mid 32 (.tmp 1) rfl w.heap.size 0 rfl (bodyC x) _ (hSW) Tryz.underlying32 rfl (HI.out)⟩) (H3.out.src) ?_
  try simp only [Act.put, List.setIfInBounds_toArray, List.set_cons_zero, List.set_cons_succ]
  refine wpAnyH_ready (rs := [1]) (by kernel_rfl) (by simp) ?_
  refine AllReadyH.cons (o := { dst := some 6, op := Op.call { callee := Callee.value (Operand.func 64), args := #[Operand.tmp 5], argTypes := #[32] }, type := 32, pos := "ref.go:92", after := #[{ on := 0, ground := Ground.data }], guard := none }) rfl (fun K' hK' => ?_) AllReadyH.nil
  go_simp
  go_at_call 64
  refine (HO.out _ H3.out.bel).mono ?_
  rintro E w4 ⟨rfl, hb4⟩
  have H4 := Lib.hid (H3.out.next (Nat.le_refl _) hb4.out)
  refine hK'.out _ _ H4.out.src (fun _ => ?_)
  clear hK' K'
  try simp only [Act.put, List.setIfInBounds_toArray, List.set_cons_zero, List.set_cons_succ]
  refine wpAnyH_ready (rs := [3]) (by kernel_rfl) (by simp) ?_
  refine AllReadyH.cons (o := { dst := some 8, op := Op.call { callee := Callee.value (Operand.func 52), args := #[Operand.tmp 6, Operand.tmp 7], argTypes := #[32, 32] }, type := 4, pos := "ref.go:92", after := #[{ on := 1, ground := Ground.data }, { on := 2, ground := Ground.data }, { on := 1, ground := Ground.chain }], guard := none }) rfl (fun K' hK' => ?_) AllReadyH.nil
  go_simp
  go_at_call 52
  refine (HS.out _ H4.out.bel).mono ?_
  rintro E w5 ⟨rfl, hb5⟩
  have H5 := Lib.hid (H4.out.next (Nat.le_refl _) hb5.out)
  refine hK'.out _ _ H5.out.src (fun _ => ?_)
  clear hK' K'
  try simp only [Act.put, List.setIfInBounds_toArray, List.set_cons_zero, List.set_cons_succ]
  refine wpAnyH_take (i := 4) (oi := { dst := some 9, op := Op.unOp UnOp.not 4 (Operand.tmp 8), type := 4, pos := "ref.go:92", after := #[{ on := 3, ground := Ground.data }], guard := none }) (v := .bool false) rfl (by kernel_rfl) (by kernel_rfl) (by kernel_rfl) (fun _ _ _ h => h) (Or.inl ⟨by kernel_rfl, fun W hSW => by go_simp⟩) (H5.out.src) ?_
  try simp only [Act.put, List.setIfInBounds_toArray, List.set_cons_zero, List.set_cons_succ]
  refine wpAnyH_take (i := 5) (oi := { dst := some 10, op := Op.move (Operand.tmp 9), type := 4, pos := "ref.go:92", after := #[{ on := 4, ground := Ground.data }, { on := 3, ground := Ground.chain }], guard := none }) (v := .bool false) rfl (by kernel_rfl) (by kernel_rfl) (by kernel_rfl) (fun _ _ _ h => h) (Or.inl ⟨by kernel_rfl, fun W hSW => by go_simp⟩) (H5.out.src) ?_
  try simp only [Act.put, List.setIfInBounds_toArray, List.set_cons_zero, List.set_cons_succ]
  refine wpAnyH_take (i := 6) (oi := { dst := some 11, op := Op.fieldAddr 32 (Operand.tmp 1) 1, type := 0, pos := "ref.go:92", after := #[{ on := 5, ground := Ground.guard }], guard := some (5, false) }) (v := .pointer (some ⟨w.heap.size, 1, none⟩)) rfl (by kernel_rfl) (by kernel_rfl) (by kernel_rfl) (fun _ _ _ h => h) (Or.inl ⟨by kernel_rfl, fun W hSW => by go_simp⟩) (H5.out.src) ?_
  try simp only [Act.put, List.setIfInBounds_toArray, List.set_cons_zero, List.set_cons_succ]
  refine wpAnyH_take (i := 7) (oi := { dst := some 12, op := Op.load 22 (Operand.tmp 11), type := 22, pos := "ref.go:92", after := #[{ on := 6, ground := Ground.data }, { on := 5, ground := Ground.guard }], guard := some (5, false) }) (v := .int .u64 (x.view : Int)) rfl (by kernel_rfl) (by kernel_rfl) (by kernel_rfl) (fun _ _ _ h => h) (Or.inl ⟨by kernel_rfl, fun W hSW => by have hv := (body_lies hSW HX.out).view; go_simp⟩) (H5.out.src) ?_
  try simp only [Act.put, List.setIfInBounds_toArray, List.set_cons_zero, List.set_cons_succ]
  refine wpAnyH_take (i := 8) (oi := { dst := some 13, op := Op.binOp BinOp.geq 22 (Operand.tmp 12) (Operand.const (Value.int IntKind.u64 1073741824)) 22, type := 4, pos := "ref.go:92", after := #[{ on := 7, ground := Ground.data }, { on := 5, ground := Ground.guard }], guard := some (5, false) }) (v := .bool false) rfl (by kernel_rfl) (by kernel_rfl) (by kernel_rfl) (fun _ _ _ h => h) (Or.inl ⟨by kernel_rfl, fun W hSW => by have hv := HV; have hv2 := HV2; go_simp⟩) (H5.out.src) ?_
  try simp only [Act.put, List.setIfInBounds_toArray, List.set_cons_zero, List.set_cons_succ]
  refine wpAnyH_take (i := 9) (oi := { dst := some 14, op := Op.pick (Operand.tmp 10) (Operand.const (Value.bool true)) (Operand.tmp 13), type := 4, pos := "ref.go:92", after := #[{ on := 5, ground := Ground.data }, { on := 8, ground := Ground.data }], guard := none }) (v := .bool false) rfl (by kernel_rfl) (by kernel_rfl) (by kernel_rfl) (fun _ _ _ h => h) (Or.inl ⟨by kernel_rfl, fun W hSW => by go_simp⟩) (H5.out.src) ?_
  try simp only [Act.put, List.setIfInBounds_toArray, List.set_cons_zero, List.set_cons_succ]
  refine wpAnyH_done (by kernel_rfl) ?_ _
  clear HV HV2
  have k0 : w5.cell? ⟨w.heap.size, 0, none⟩ = some (.int .u8 6) := (body_lies H5.out.src HX.out).kind.trans (by rw [HKI.out]; rfl)
  have k1 : w5.cell? ⟨w.heap.size, 1, none⟩ = some (.int .u64 (x.view : Int)) := (body_lies H5.out.src HX.out).view
  have k2 : w5.cell? ⟨w.heap.size, 2, none⟩ = some (.int .u64 (x.k : Int)) := (body_lies H5.out.src HX.out).k
  have n1 : 1 ≤ x.k := by omega
  go_wp2_with fail
  go_ret
  exact ⟨ret_bool (by first | rfl | (rw [Bool.eq_iff_iff]; simp only [decide_eq_true_eq] <;> omega)), Lib.hid H5.out.bel⟩
set_option maxHeartbeats 8000000 in
theorem bodyr_6n (x : MBody) (w : World) (hx : x.Wf) (HKI : Hid (x.kind = 6)) (h1 : ¬ ((1 : Int) ≤ (x.k : Int))) (HV : ¬ ((x.view : Int) ≥ 1073741824)) (HV2 : ¬ (1073741824 ≤ x.view)) (HO : Hid (∀ W, Below w.heap.size w W → Calls Tryz.prog 64 #[.agg (bodyC x).toArray] W fun E w' => E = .returned (.agg (bodyC (ownR x)).toArray) ∧ Hid (Below W.heap.size W w')))
    (HS : Hid (∀ W, Below w.heap.size w W → Calls Tryz.prog 52 #[.agg (bodyC (ownR x)).toArray, .agg (bodyC x).toArray] W fun E w' => E = .returned (.bool true) ∧ Hid (Below W.heap.size W w'))) :
    Calls Tryz.prog 36 #[.agg (bodyC x).toArray] w fun E w' => E = .returned (.bool (false)) ∧ Hid (Below w.heap.size w w') := by
  have HB := Lib.hid (body_lies (range_box w (bodyC x) 32) hx)
  have HX := Lib.hid hx
  have HI : Hid ((Tryz.prog.info? 32).map (·.size) = some (bodyC x).length) := Lib.hid (by rw [bodyC_length hx]; exact Tryz.is32)
  have HL : Hid (RqAt w.heap.size w (bodyC x) (w.alloc (.cells (bodyC x).toArray 32))) := Lib.hid ⟨(Below.refl _ _).alloc (Nat.le_refl _) _, by simp, range_box w (bodyC x) 32⟩
  clear hx
  go_enter Tryz.func36, Tryz.ntmps36
  go_wp2_with fail
  refine wp_region_any (by kernel_rfl) ?_
  have H3 := Lib.hid (HL.out.drewN 1)
  change wpAny _ _ _ _ _ _ _ ((w.alloc (.cells (bodyC x).toArray 32)).drewN 1)
  generalize (w.alloc (.cells (bodyC x).toArray 32)).drewN 1 = w3 at H3 ⊢
  clear HL HB
  refine wpAny_of_held (S := fun W => W.rangeAt w.heap.size 0 (bodyC x)) _ _ _ _ ?_
  refine wpAnyH_take (i := 0) (oi := { dst := some 5, op := Op.load 32 (Operand.tmp 1), type := 32, pos := "ref.go:92", after := #[], guard := none }) (v := .agg (bodyC x).toArray) rfl (by kernel_rfl) (by kernel_rfl) (by kernel_rfl) (fun _ _ _ h => h) (Or.inl ⟨by kernel_rfl, fun W hSW => exec_load_mid 32 (.tmp 1) rfl w.heap.size 0 rfl (bodyC x) _ (hSW) Tryz.underlying32 rfl (HI.out)⟩) (H3.out.src) ?_
  try simp only [Act.put, List.setIfInBounds_toArray, List.set_cons_zero, List.set_cons_succ]
  refine wpAnyH_take (i := 2) (oi := { dst := some 7, op := Op.load 32 (Operand.tmp 1), type := 32, pos := "ref.go:92", after := #[], guard := none }) (v := .agg (bodyC x).toArray) rfl (by kernel_rfl) (by kernel_rfl) (by kernel_rfl) (fun _ _ _ h => h) (Or.inl ⟨by kernel_rfl, fun W hSW => exec_load_mid 32 (.tmp 1) rfl w.heap.size 0 rfl (bodyC x) _ (hSW) Tryz.underlying32 rfl (HI.out)⟩) (H3.out.src) ?_
  try simp only [Act.put, List.setIfInBounds_toArray, List.set_cons_zero, List.set_cons_succ]
  refine wpAnyH_ready (rs := [1]) (by kernel_rfl) (by simp) ?_
  refine AllReadyH.cons (o := { dst := some 6, op := Op.call { callee := Callee.value (Operand.func 64), args := #[Operand.tmp 5], argTypes := #[32] }, type := 32, pos := "ref.go:92", after := #[{ on := 0, ground := Ground.data }], guard := none }) rfl (fun K' hK' => ?_) AllReadyH.nil
  go_simp
  go_at_call 64
  refine (HO.out _ H3.out.bel).mono ?_
  rintro E w4 ⟨rfl, hb4⟩
  have H4 := Lib.hid (H3.out.next (Nat.le_refl _) hb4.out)
  refine hK'.out _ _ H4.out.src (fun _ => ?_)
  clear hK' K'
  try simp only [Act.put, List.setIfInBounds_toArray, List.set_cons_zero, List.set_cons_succ]
  refine wpAnyH_ready (rs := [3]) (by kernel_rfl) (by simp) ?_
  refine AllReadyH.cons (o := { dst := some 8, op := Op.call { callee := Callee.value (Operand.func 52), args := #[Operand.tmp 6, Operand.tmp 7], argTypes := #[32, 32] }, type := 4, pos := "ref.go:92", after := #[{ on := 1, ground := Ground.data }, { on := 2, ground := Ground.data }, { on := 1, ground := Ground.chain }], guard := none }) rfl (fun K' hK' => ?_) AllReadyH.nil
  go_simp
  go_at_call 52
  refine (HS.out _ H4.out.bel).mono ?_
  rintro E w5 ⟨rfl, hb5⟩
  have H5 := Lib.hid (H4.out.next (Nat.le_refl _) hb5.out)
  refine hK'.out _ _ H5.out.src (fun _ => ?_)
  clear hK' K'
  try simp only [Act.put, List.setIfInBounds_toArray, List.set_cons_zero, List.set_cons_succ]
  refine wpAnyH_take (i := 4) (oi := { dst := some 9, op := Op.unOp UnOp.not 4 (Operand.tmp 8), type := 4, pos := "ref.go:92", after := #[{ on := 3, ground := Ground.data }], guard := none }) (v := .bool false) rfl (by kernel_rfl) (by kernel_rfl) (by kernel_rfl) (fun _ _ _ h => h) (Or.inl ⟨by kernel_rfl, fun W hSW => by go_simp⟩) (H5.out.src) ?_
  try simp only [Act.put, List.setIfInBounds_toArray, List.set_cons_zero, List.set_cons_succ]
  refine wpAnyH_take (i := 5) (oi := { dst := some 10, op := Op.move (Operand.tmp 9), type := 4, pos := "ref.go:92", after := #[{ on := 4, ground := Ground.data }, { on := 3, ground := Ground.chain }], guard := none }) (v := .bool false) rfl (by kernel_rfl) (by kernel_rfl) (by kernel_rfl) (fun _ _ _ h => h) (Or.inl ⟨by kernel_rfl, fun W hSW => by go_simp⟩) (H5.out.src) ?_
  try simp only [Act.put, List.setIfInBounds_toArray, List.set_cons_zero, List.set_cons_succ]
  refine wpAnyH_take (i := 6) (oi := { dst := some 11, op := Op.fieldAddr 32 (Operand.tmp 1) 1, type := 0, pos := "ref.go:92", after := #[{ on := 5, ground := Ground.guard }], guard := some (5, false) }) (v := .pointer (some ⟨w.heap.size, 1, none⟩)) rfl (by kernel_rfl) (by kernel_rfl) (by kernel_rfl) (fun _ _ _ h => h) (Or.inl ⟨by kernel_rfl, fun W hSW => by go_simp⟩) (H5.out.src) ?_
  try simp only [Act.put, List.setIfInBounds_toArray, List.set_cons_zero, List.set_cons_succ]
  refine wpAnyH_take (i := 7) (oi := { dst := some 12, op := Op.load 22 (Operand.tmp 11), type := 22, pos := "ref.go:92", after := #[{ on := 6, ground := Ground.data }, { on := 5, ground := Ground.guard }], guard := some (5, false) }) (v := .int .u64 (x.view : Int)) rfl (by kernel_rfl) (by kernel_rfl) (by kernel_rfl) (fun _ _ _ h => h) (Or.inl ⟨by kernel_rfl, fun W hSW => by have hv := (body_lies hSW HX.out).view; go_simp⟩) (H5.out.src) ?_
  try simp only [Act.put, List.setIfInBounds_toArray, List.set_cons_zero, List.set_cons_succ]
  refine wpAnyH_take (i := 8) (oi := { dst := some 13, op := Op.binOp BinOp.geq 22 (Operand.tmp 12) (Operand.const (Value.int IntKind.u64 1073741824)) 22, type := 4, pos := "ref.go:92", after := #[{ on := 7, ground := Ground.data }, { on := 5, ground := Ground.guard }], guard := some (5, false) }) (v := .bool false) rfl (by kernel_rfl) (by kernel_rfl) (by kernel_rfl) (fun _ _ _ h => h) (Or.inl ⟨by kernel_rfl, fun W hSW => by have hv := HV; have hv2 := HV2; go_simp⟩) (H5.out.src) ?_
  try simp only [Act.put, List.setIfInBounds_toArray, List.set_cons_zero, List.set_cons_succ]
  refine wpAnyH_take (i := 9) (oi := { dst := some 14, op := Op.pick (Operand.tmp 10) (Operand.const (Value.bool true)) (Operand.tmp 13), type := 4, pos := "ref.go:92", after := #[{ on := 5, ground := Ground.data }, { on := 8, ground := Ground.data }], guard := none }) (v := .bool false) rfl (by kernel_rfl) (by kernel_rfl) (by kernel_rfl) (fun _ _ _ h => h) (Or.inl ⟨by kernel_rfl, fun W hSW => by go_simp⟩) (H5.out.src) ?_
  try simp only [Act.put, List.setIfInBounds_toArray, List.set_cons_zero, List.set_cons_succ]
  refine wpAnyH_done (by kernel_rfl) ?_ _
  clear HV HV2
  have k0 : w5.cell? ⟨w.heap.size, 0, none⟩ = some (.int .u8 6) := (body_lies H5.out.src HX.out).kind.trans (by rw [HKI.out]; rfl)
  have k1 : w5.cell? ⟨w.heap.size, 1, none⟩ = some (.int .u64 (x.view : Int)) := (body_lies H5.out.src HX.out).view
  have k2 : w5.cell? ⟨w.heap.size, 2, none⟩ = some (.int .u64 (x.k : Int)) := (body_lies H5.out.src HX.out).k
  have n1 : ¬ (1 ≤ x.k) := by omega
  go_wp2_with fail
  go_ret
  exact ⟨rfl, Lib.hid H5.out.bel⟩
set_option maxHeartbeats 8000000 in
theorem bodyr_3 (x : MBody) (w : World) (hx : x.Wf) (HKI : Hid (x.kind = 3)) (HV : ¬ ((x.view : Int) ≥ 1073741824)) (HV2 : ¬ (1073741824 ≤ x.view)) (HO : Hid (∀ W, Below w.heap.size w W → Calls Tryz.prog 64 #[.agg (bodyC x).toArray] W fun E w' => E = .returned (.agg (bodyC (ownR x)).toArray) ∧ Hid (Below W.heap.size W w')))
    (HS : Hid (∀ W, Below w.heap.size w W → Calls Tryz.prog 52 #[.agg (bodyC (ownR x)).toArray, .agg (bodyC x).toArray] W fun E w' => E = .returned (.bool true) ∧ Hid (Below W.heap.size W w'))) :
    Calls Tryz.prog 36 #[.agg (bodyC x).toArray] w fun E w' => E = .returned (.bool (decide (1 ≤ x.view))) ∧ Hid (Below w.heap.size w w') := by
  have HB := Lib.hid (body_lies (range_box w (bodyC x) 32) hx)
  have HX := Lib.hid hx
  have HI : Hid ((Tryz.prog.info? 32).map (·.size) = some (bodyC x).length) := Lib.hid (by rw [bodyC_length hx]; exact Tryz.is32)
  have HL : Hid (RqAt w.heap.size w (bodyC x) (w.alloc (.cells (bodyC x).toArray 32))) := Lib.hid ⟨(Below.refl _ _).alloc (Nat.le_refl _) _, by simp, range_box w (bodyC x) 32⟩
  clear hx
  go_enter Tryz.func36, Tryz.ntmps36
  go_wp2_with fail
  refine wp_region_any (by kernel_rfl) ?_
  have H3 := Lib.hid (HL.out.drewN 1)
  change wpAny _ _ _ _ _ _ _ ((w.alloc (.cells (bodyC x).toArray 32)).drewN 1)
  generalize (w.alloc (.cells (bodyC x).toArray 32)).drewN 1 = w3 at H3 ⊢
  clear HL HB
  refine wpAny_of_held (S := fun W => W.rangeAt w.heap.size 0 (bodyC x)) _ _ _ _ ?_
  refine wpAnyH_take (i := 0) (oi := { dst := some 5, op := Op.load 32 (Operand.tmp 1), type := 32, pos := "ref.go:92", after := #[], guard := none }) (v := .agg (bodyC x).toArray) rfl (by kernel_rfl) (by kernel_rfl) (by kernel_rfl) (fun _ _ _ h => h) (Or.inl ⟨by kernel_rfl, fun W hSW => exec_load_mid 32 (.tmp 1) rfl w.heap.size 0 rfl (bodyC x) _ (hSW) Tryz.underlying32 rfl (HI.out)⟩) (H3.out.src) ?_
  try simp only [Act.put, List.setIfInBounds_toArray, List.set_cons_zero, List.set_cons_succ]
  refine wpAnyH_take (i := 2) (oi := { dst := some 7, op := Op.load 32 (Operand.tmp 1), type := 32, pos := "ref.go:92", after := #[], guard := none }) (v := .agg (bodyC x).toArray) rfl (by kernel_rfl) (by kernel_rfl) (by kernel_rfl) (fun _ _ _ h => h) (Or.inl ⟨by kernel_rfl, fun W hSW => exec_load_mid 32 (.tmp 1) rfl w.heap.size 0 rfl (bodyC x) _ (hSW) Tryz.underlying32 rfl (HI.out)⟩) (H3.out.src) ?_
  try simp only [Act.put, List.setIfInBounds_toArray, List.set_cons_zero, List.set_cons_succ]
  refine wpAnyH_ready (rs := [1]) (by kernel_rfl) (by simp) ?_
  refine AllReadyH.cons (o := { dst := some 6, op := Op.call { callee := Callee.value (Operand.func 64), args := #[Operand.tmp 5], argTypes := #[32] }, type := 32, pos := "ref.go:92", after := #[{ on := 0, ground := Ground.data }], guard := none }) rfl (fun K' hK' => ?_) AllReadyH.nil
  go_simp
  go_at_call 64
  refine (HO.out _ H3.out.bel).mono ?_
  rintro E w4 ⟨rfl, hb4⟩
  have H4 := Lib.hid (H3.out.next (Nat.le_refl _) hb4.out)
  refine hK'.out _ _ H4.out.src (fun _ => ?_)
  clear hK' K'
  try simp only [Act.put, List.setIfInBounds_toArray, List.set_cons_zero, List.set_cons_succ]
  refine wpAnyH_ready (rs := [3]) (by kernel_rfl) (by simp) ?_
  refine AllReadyH.cons (o := { dst := some 8, op := Op.call { callee := Callee.value (Operand.func 52), args := #[Operand.tmp 6, Operand.tmp 7], argTypes := #[32, 32] }, type := 4, pos := "ref.go:92", after := #[{ on := 1, ground := Ground.data }, { on := 2, ground := Ground.data }, { on := 1, ground := Ground.chain }], guard := none }) rfl (fun K' hK' => ?_) AllReadyH.nil
  go_simp
  go_at_call 52
  refine (HS.out _ H4.out.bel).mono ?_
  rintro E w5 ⟨rfl, hb5⟩
  have H5 := Lib.hid (H4.out.next (Nat.le_refl _) hb5.out)
  refine hK'.out _ _ H5.out.src (fun _ => ?_)
  clear hK' K'
  try simp only [Act.put, List.setIfInBounds_toArray, List.set_cons_zero, List.set_cons_succ]
  refine wpAnyH_take (i := 4) (oi := { dst := some 9, op := Op.unOp UnOp.not 4 (Operand.tmp 8), type := 4, pos := "ref.go:92", after := #[{ on := 3, ground := Ground.data }], guard := none }) (v := .bool false) rfl (by kernel_rfl) (by kernel_rfl) (by kernel_rfl) (fun _ _ _ h => h) (Or.inl ⟨by kernel_rfl, fun W hSW => by go_simp⟩) (H5.out.src) ?_
  try simp only [Act.put, List.setIfInBounds_toArray, List.set_cons_zero, List.set_cons_succ]
  refine wpAnyH_take (i := 5) (oi := { dst := some 10, op := Op.move (Operand.tmp 9), type := 4, pos := "ref.go:92", after := #[{ on := 4, ground := Ground.data }, { on := 3, ground := Ground.chain }], guard := none }) (v := .bool false) rfl (by kernel_rfl) (by kernel_rfl) (by kernel_rfl) (fun _ _ _ h => h) (Or.inl ⟨by kernel_rfl, fun W hSW => by go_simp⟩) (H5.out.src) ?_
  try simp only [Act.put, List.setIfInBounds_toArray, List.set_cons_zero, List.set_cons_succ]
  refine wpAnyH_take (i := 6) (oi := { dst := some 11, op := Op.fieldAddr 32 (Operand.tmp 1) 1, type := 0, pos := "ref.go:92", after := #[{ on := 5, ground := Ground.guard }], guard := some (5, false) }) (v := .pointer (some ⟨w.heap.size, 1, none⟩)) rfl (by kernel_rfl) (by kernel_rfl) (by kernel_rfl) (fun _ _ _ h => h) (Or.inl ⟨by kernel_rfl, fun W hSW => by go_simp⟩) (H5.out.src) ?_
  try simp only [Act.put, List.setIfInBounds_toArray, List.set_cons_zero, List.set_cons_succ]
  refine wpAnyH_take (i := 7) (oi := { dst := some 12, op := Op.load 22 (Operand.tmp 11), type := 22, pos := "ref.go:92", after := #[{ on := 6, ground := Ground.data }, { on := 5, ground := Ground.guard }], guard := some (5, false) }) (v := .int .u64 (x.view : Int)) rfl (by kernel_rfl) (by kernel_rfl) (by kernel_rfl) (fun _ _ _ h => h) (Or.inl ⟨by kernel_rfl, fun W hSW => by have hv := (body_lies hSW HX.out).view; go_simp⟩) (H5.out.src) ?_
  try simp only [Act.put, List.setIfInBounds_toArray, List.set_cons_zero, List.set_cons_succ]
  refine wpAnyH_take (i := 8) (oi := { dst := some 13, op := Op.binOp BinOp.geq 22 (Operand.tmp 12) (Operand.const (Value.int IntKind.u64 1073741824)) 22, type := 4, pos := "ref.go:92", after := #[{ on := 7, ground := Ground.data }, { on := 5, ground := Ground.guard }], guard := some (5, false) }) (v := .bool false) rfl (by kernel_rfl) (by kernel_rfl) (by kernel_rfl) (fun _ _ _ h => h) (Or.inl ⟨by kernel_rfl, fun W hSW => by have hv := HV; have hv2 := HV2; go_simp⟩) (H5.out.src) ?_
  try simp only [Act.put, List.setIfInBounds_toArray, List.set_cons_zero, List.set_cons_succ]
  refine wpAnyH_take (i := 9) (oi := { dst := some 14, op := Op.pick (Operand.tmp 10) (Operand.const (Value.bool true)) (Operand.tmp 13), type := 4, pos := "ref.go:92", after := #[{ on := 5, ground := Ground.data }, { on := 8, ground := Ground.data }], guard := none }) (v := .bool false) rfl (by kernel_rfl) (by kernel_rfl) (by kernel_rfl) (fun _ _ _ h => h) (Or.inl ⟨by kernel_rfl, fun W hSW => by go_simp⟩) (H5.out.src) ?_
  try simp only [Act.put, List.setIfInBounds_toArray, List.set_cons_zero, List.set_cons_succ]
  refine wpAnyH_done (by kernel_rfl) ?_ _
  clear HV HV2
  have k0 : w5.cell? ⟨w.heap.size, 0, none⟩ = some (.int .u8 3) := (body_lies H5.out.src HX.out).kind.trans (by rw [HKI.out]; rfl)
  have k1 : w5.cell? ⟨w.heap.size, 1, none⟩ = some (.int .u64 (x.view : Int)) := (body_lies H5.out.src HX.out).view
  have k2 : w5.cell? ⟨w.heap.size, 2, none⟩ = some (.int .u64 (x.k : Int)) := (body_lies H5.out.src HX.out).k
  go_wp2_with fail
  go_ret
  exact ⟨ret_bool (by first | rfl | (rw [Bool.eq_iff_iff]; simp only [decide_eq_true_eq] <;> omega)), Lib.hid H5.out.bel⟩
set_option maxHeartbeats 8000000 in
theorem bodyr_5 (x : MBody) (w : World) (hx : x.Wf) (HKI : Hid (x.kind = 5)) (HV : ¬ ((x.view : Int) ≥ 1073741824)) (HV2 : ¬ (1073741824 ≤ x.view)) (HO : Hid (∀ W, Below w.heap.size w W → Calls Tryz.prog 64 #[.agg (bodyC x).toArray] W fun E w' => E = .returned (.agg (bodyC (ownR x)).toArray) ∧ Hid (Below W.heap.size W w')))
    (HS : Hid (∀ W, Below w.heap.size w W → Calls Tryz.prog 52 #[.agg (bodyC (ownR x)).toArray, .agg (bodyC x).toArray] W fun E w' => E = .returned (.bool true) ∧ Hid (Below W.heap.size W w'))) :
    Calls Tryz.prog 36 #[.agg (bodyC x).toArray] w fun E w' => E = .returned (.bool (decide (1 ≤ x.view))) ∧ Hid (Below w.heap.size w w') := by
  have HB := Lib.hid (body_lies (range_box w (bodyC x) 32) hx)
  have HX := Lib.hid hx
  have HI : Hid ((Tryz.prog.info? 32).map (·.size) = some (bodyC x).length) := Lib.hid (by rw [bodyC_length hx]; exact Tryz.is32)
  have HL : Hid (RqAt w.heap.size w (bodyC x) (w.alloc (.cells (bodyC x).toArray 32))) := Lib.hid ⟨(Below.refl _ _).alloc (Nat.le_refl _) _, by simp, range_box w (bodyC x) 32⟩
  clear hx
  go_enter Tryz.func36, Tryz.ntmps36
  go_wp2_with fail
  refine wp_region_any (by kernel_rfl) ?_
  have H3 := Lib.hid (HL.out.drewN 1)
  change wpAny _ _ _ _ _ _ _ ((w.alloc (.cells (bodyC x).toArray 32)).drewN 1)
  generalize (w.alloc (.cells (bodyC x).toArray 32)).drewN 1 = w3 at H3 ⊢
  clear HL HB
  refine wpAny_of_held (S := fun W => W.rangeAt w.heap.size 0 (bodyC x)) _ _ _ _ ?_
  refine wpAnyH_take (i := 0) (oi := { dst := some 5, op := Op.load 32 (Operand.tmp 1), type := 32, pos := "ref.go:92", after := #[], guard := none }) (v := .agg (bodyC x).toArray) rfl (by kernel_rfl) (by kernel_rfl) (by kernel_rfl) (fun _ _ _ h => h) (Or.inl ⟨by kernel_rfl, fun W hSW => exec_load_mid 32 (.tmp 1) rfl w.heap.size 0 rfl (bodyC x) _ (hSW) Tryz.underlying32 rfl (HI.out)⟩) (H3.out.src) ?_
  try simp only [Act.put, List.setIfInBounds_toArray, List.set_cons_zero, List.set_cons_succ]
  refine wpAnyH_take (i := 2) (oi := { dst := some 7, op := Op.load 32 (Operand.tmp 1), type := 32, pos := "ref.go:92", after := #[], guard := none }) (v := .agg (bodyC x).toArray) rfl (by kernel_rfl) (by kernel_rfl) (by kernel_rfl) (fun _ _ _ h => h) (Or.inl ⟨by kernel_rfl, fun W hSW => exec_load_mid 32 (.tmp 1) rfl w.heap.size 0 rfl (bodyC x) _ (hSW) Tryz.underlying32 rfl (HI.out)⟩) (H3.out.src) ?_
  try simp only [Act.put, List.setIfInBounds_toArray, List.set_cons_zero, List.set_cons_succ]
  refine wpAnyH_ready (rs := [1]) (by kernel_rfl) (by simp) ?_
  refine AllReadyH.cons (o := { dst := some 6, op := Op.call { callee := Callee.value (Operand.func 64), args := #[Operand.tmp 5], argTypes := #[32] }, type := 32, pos := "ref.go:92", after := #[{ on := 0, ground := Ground.data }], guard := none }) rfl (fun K' hK' => ?_) AllReadyH.nil
  go_simp
  go_at_call 64
  refine (HO.out _ H3.out.bel).mono ?_
  rintro E w4 ⟨rfl, hb4⟩
  have H4 := Lib.hid (H3.out.next (Nat.le_refl _) hb4.out)
  refine hK'.out _ _ H4.out.src (fun _ => ?_)
  clear hK' K'
  try simp only [Act.put, List.setIfInBounds_toArray, List.set_cons_zero, List.set_cons_succ]
  refine wpAnyH_ready (rs := [3]) (by kernel_rfl) (by simp) ?_
  refine AllReadyH.cons (o := { dst := some 8, op := Op.call { callee := Callee.value (Operand.func 52), args := #[Operand.tmp 6, Operand.tmp 7], argTypes := #[32, 32] }, type := 4, pos := "ref.go:92", after := #[{ on := 1, ground := Ground.data }, { on := 2, ground := Ground.data }, { on := 1, ground := Ground.chain }], guard := none }) rfl (fun K' hK' => ?_) AllReadyH.nil
  go_simp
  go_at_call 52
  refine (HS.out _ H4.out.bel).mono ?_
  rintro E w5 ⟨rfl, hb5⟩
  have H5 := Lib.hid (H4.out.next (Nat.le_refl _) hb5.out)
  refine hK'.out _ _ H5.out.src (fun _ => ?_)
  clear hK' K'
  try simp only [Act.put, List.setIfInBounds_toArray, List.set_cons_zero, List.set_cons_succ]
  refine wpAnyH_take (i := 4) (oi := { dst := some 9, op := Op.unOp UnOp.not 4 (Operand.tmp 8), type := 4, pos := "ref.go:92", after := #[{ on := 3, ground := Ground.data }], guard := none }) (v := .bool false) rfl (by kernel_rfl) (by kernel_rfl) (by kernel_rfl) (fun _ _ _ h => h) (Or.inl ⟨by kernel_rfl, fun W hSW => by go_simp⟩) (H5.out.src) ?_
  try simp only [Act.put, List.setIfInBounds_toArray, List.set_cons_zero, List.set_cons_succ]
  refine wpAnyH_take (i := 5) (oi := { dst := some 10, op := Op.move (Operand.tmp 9), type := 4, pos := "ref.go:92", after := #[{ on := 4, ground := Ground.data }, { on := 3, ground := Ground.chain }], guard := none }) (v := .bool false) rfl (by kernel_rfl) (by kernel_rfl) (by kernel_rfl) (fun _ _ _ h => h) (Or.inl ⟨by kernel_rfl, fun W hSW => by go_simp⟩) (H5.out.src) ?_
  try simp only [Act.put, List.setIfInBounds_toArray, List.set_cons_zero, List.set_cons_succ]
  refine wpAnyH_take (i := 6) (oi := { dst := some 11, op := Op.fieldAddr 32 (Operand.tmp 1) 1, type := 0, pos := "ref.go:92", after := #[{ on := 5, ground := Ground.guard }], guard := some (5, false) }) (v := .pointer (some ⟨w.heap.size, 1, none⟩)) rfl (by kernel_rfl) (by kernel_rfl) (by kernel_rfl) (fun _ _ _ h => h) (Or.inl ⟨by kernel_rfl, fun W hSW => by go_simp⟩) (H5.out.src) ?_
  try simp only [Act.put, List.setIfInBounds_toArray, List.set_cons_zero, List.set_cons_succ]
  refine wpAnyH_take (i := 7) (oi := { dst := some 12, op := Op.load 22 (Operand.tmp 11), type := 22, pos := "ref.go:92", after := #[{ on := 6, ground := Ground.data }, { on := 5, ground := Ground.guard }], guard := some (5, false) }) (v := .int .u64 (x.view : Int)) rfl (by kernel_rfl) (by kernel_rfl) (by kernel_rfl) (fun _ _ _ h => h) (Or.inl ⟨by kernel_rfl, fun W hSW => by have hv := (body_lies hSW HX.out).view; go_simp⟩) (H5.out.src) ?_
  try simp only [Act.put, List.setIfInBounds_toArray, List.set_cons_zero, List.set_cons_succ]
  refine wpAnyH_take (i := 8) (oi := { dst := some 13, op := Op.binOp BinOp.geq 22 (Operand.tmp 12) (Operand.const (Value.int IntKind.u64 1073741824)) 22, type := 4, pos := "ref.go:92", after := #[{ on := 7, ground := Ground.data }, { on := 5, ground := Ground.guard }], guard := some (5, false) }) (v := .bool false) rfl (by kernel_rfl) (by kernel_rfl) (by kernel_rfl) (fun _ _ _ h => h) (Or.inl ⟨by kernel_rfl, fun W hSW => by have hv := HV; have hv2 := HV2; go_simp⟩) (H5.out.src) ?_
  try simp only [Act.put, List.setIfInBounds_toArray, List.set_cons_zero, List.set_cons_succ]
  refine wpAnyH_take (i := 9) (oi := { dst := some 14, op := Op.pick (Operand.tmp 10) (Operand.const (Value.bool true)) (Operand.tmp 13), type := 4, pos := "ref.go:92", after := #[{ on := 5, ground := Ground.data }, { on := 8, ground := Ground.data }], guard := none }) (v := .bool false) rfl (by kernel_rfl) (by kernel_rfl) (by kernel_rfl) (fun _ _ _ h => h) (Or.inl ⟨by kernel_rfl, fun W hSW => by go_simp⟩) (H5.out.src) ?_
  try simp only [Act.put, List.setIfInBounds_toArray, List.set_cons_zero, List.set_cons_succ]
  refine wpAnyH_done (by kernel_rfl) ?_ _
  clear HV HV2
  have k0 : w5.cell? ⟨w.heap.size, 0, none⟩ = some (.int .u8 5) := (body_lies H5.out.src HX.out).kind.trans (by rw [HKI.out]; rfl)
  have k1 : w5.cell? ⟨w.heap.size, 1, none⟩ = some (.int .u64 (x.view : Int)) := (body_lies H5.out.src HX.out).view
  have k2 : w5.cell? ⟨w.heap.size, 2, none⟩ = some (.int .u64 (x.k : Int)) := (body_lies H5.out.src HX.out).k
  go_wp2_with fail
  go_ret
  exact ⟨ret_bool (by first | rfl | (rw [Bool.eq_iff_iff]; simp only [decide_eq_true_eq] <;> omega)), Lib.hid H5.out.bel⟩
set_option maxHeartbeats 8000000 in
theorem bodyr_1 (x : MBody) (w : World) (hx : x.Wf) (HKI : Hid (x.kind = 1)) (HA : Hid (∀ W, Calls Tryz.prog 28 #[.agg (reqC x.req).toArray] W fun E w' => E = .returned (.bool (reqMay x.req)) ∧ Below W.heap.size W w')) (HV : ¬ ((x.view : Int) ≥ 1073741824)) (HV2 : ¬ (1073741824 ≤ x.view)) (HO : Hid (∀ W, Below w.heap.size w W → Calls Tryz.prog 64 #[.agg (bodyC x).toArray] W fun E w' => E = .returned (.agg (bodyC (ownR x)).toArray) ∧ Hid (Below W.heap.size W w')))
    (HS : Hid (∀ W, Below w.heap.size w W → Calls Tryz.prog 52 #[.agg (bodyC (ownR x)).toArray, .agg (bodyC x).toArray] W fun E w' => E = .returned (.bool true) ∧ Hid (Below W.heap.size W w'))) :
    Calls Tryz.prog 36 #[.agg (bodyC x).toArray] w fun E w' => E = .returned (.bool (reqMay x.req)) ∧ Hid (Below w.heap.size w w') := by
  have HJ : Hid ((Tryz.prog.info? 29).map (·.size) = some (reqC x.req).length) := Lib.hid (by rw [reqC_length hx.1]; exact Tryz.is29)
  have HB := Lib.hid (body_lies (range_box w (bodyC x) 32) hx)
  have HX := Lib.hid hx
  have HI : Hid ((Tryz.prog.info? 32).map (·.size) = some (bodyC x).length) := Lib.hid (by rw [bodyC_length hx]; exact Tryz.is32)
  have HL : Hid (RqAt w.heap.size w (bodyC x) (w.alloc (.cells (bodyC x).toArray 32))) := Lib.hid ⟨(Below.refl _ _).alloc (Nat.le_refl _) _, by simp, range_box w (bodyC x) 32⟩
  clear hx
  go_enter Tryz.func36, Tryz.ntmps36
  go_wp2_with fail
  refine wp_region_any (by kernel_rfl) ?_
  have H3 := Lib.hid (HL.out.drewN 1)
  change wpAny _ _ _ _ _ _ _ ((w.alloc (.cells (bodyC x).toArray 32)).drewN 1)
  generalize (w.alloc (.cells (bodyC x).toArray 32)).drewN 1 = w3 at H3 ⊢
  clear HL HB
  refine wpAny_of_held (S := fun W => W.rangeAt w.heap.size 0 (bodyC x)) _ _ _ _ ?_
  refine wpAnyH_take (i := 0) (oi := { dst := some 5, op := Op.load 32 (Operand.tmp 1), type := 32, pos := "ref.go:92", after := #[], guard := none }) (v := .agg (bodyC x).toArray) rfl (by kernel_rfl) (by kernel_rfl) (by kernel_rfl) (fun _ _ _ h => h) (Or.inl ⟨by kernel_rfl, fun W hSW => exec_load_mid 32 (.tmp 1) rfl w.heap.size 0 rfl (bodyC x) _ (hSW) Tryz.underlying32 rfl (HI.out)⟩) (H3.out.src) ?_
  try simp only [Act.put, List.setIfInBounds_toArray, List.set_cons_zero, List.set_cons_succ]
  refine wpAnyH_take (i := 2) (oi := { dst := some 7, op := Op.load 32 (Operand.tmp 1), type := 32, pos := "ref.go:92", after := #[], guard := none }) (v := .agg (bodyC x).toArray) rfl (by kernel_rfl) (by kernel_rfl) (by kernel_rfl) (fun _ _ _ h => h) (Or.inl ⟨by kernel_rfl, fun W hSW => exec_load_mid 32 (.tmp 1) rfl w.heap.size 0 rfl (bodyC x) _ (hSW) Tryz.underlying32 rfl (HI.out)⟩) (H3.out.src) ?_
  try simp only [Act.put, List.setIfInBounds_toArray, List.set_cons_zero, List.set_cons_succ]
  refine wpAnyH_ready (rs := [1]) (by kernel_rfl) (by simp) ?_
  refine AllReadyH.cons (o := { dst := some 6, op := Op.call { callee := Callee.value (Operand.func 64), args := #[Operand.tmp 5], argTypes := #[32] }, type := 32, pos := "ref.go:92", after := #[{ on := 0, ground := Ground.data }], guard := none }) rfl (fun K' hK' => ?_) AllReadyH.nil
  go_simp
  go_at_call 64
  refine (HO.out _ H3.out.bel).mono ?_
  rintro E w4 ⟨rfl, hb4⟩
  have H4 := Lib.hid (H3.out.next (Nat.le_refl _) hb4.out)
  refine hK'.out _ _ H4.out.src (fun _ => ?_)
  clear hK' K'
  try simp only [Act.put, List.setIfInBounds_toArray, List.set_cons_zero, List.set_cons_succ]
  refine wpAnyH_ready (rs := [3]) (by kernel_rfl) (by simp) ?_
  refine AllReadyH.cons (o := { dst := some 8, op := Op.call { callee := Callee.value (Operand.func 52), args := #[Operand.tmp 6, Operand.tmp 7], argTypes := #[32, 32] }, type := 4, pos := "ref.go:92", after := #[{ on := 1, ground := Ground.data }, { on := 2, ground := Ground.data }, { on := 1, ground := Ground.chain }], guard := none }) rfl (fun K' hK' => ?_) AllReadyH.nil
  go_simp
  go_at_call 52
  refine (HS.out _ H4.out.bel).mono ?_
  rintro E w5 ⟨rfl, hb5⟩
  have H5 := Lib.hid (H4.out.next (Nat.le_refl _) hb5.out)
  refine hK'.out _ _ H5.out.src (fun _ => ?_)
  clear hK' K'
  try simp only [Act.put, List.setIfInBounds_toArray, List.set_cons_zero, List.set_cons_succ]
  refine wpAnyH_take (i := 4) (oi := { dst := some 9, op := Op.unOp UnOp.not 4 (Operand.tmp 8), type := 4, pos := "ref.go:92", after := #[{ on := 3, ground := Ground.data }], guard := none }) (v := .bool false) rfl (by kernel_rfl) (by kernel_rfl) (by kernel_rfl) (fun _ _ _ h => h) (Or.inl ⟨by kernel_rfl, fun W hSW => by go_simp⟩) (H5.out.src) ?_
  try simp only [Act.put, List.setIfInBounds_toArray, List.set_cons_zero, List.set_cons_succ]
  refine wpAnyH_take (i := 5) (oi := { dst := some 10, op := Op.move (Operand.tmp 9), type := 4, pos := "ref.go:92", after := #[{ on := 4, ground := Ground.data }, { on := 3, ground := Ground.chain }], guard := none }) (v := .bool false) rfl (by kernel_rfl) (by kernel_rfl) (by kernel_rfl) (fun _ _ _ h => h) (Or.inl ⟨by kernel_rfl, fun W hSW => by go_simp⟩) (H5.out.src) ?_
  try simp only [Act.put, List.setIfInBounds_toArray, List.set_cons_zero, List.set_cons_succ]
  refine wpAnyH_take (i := 6) (oi := { dst := some 11, op := Op.fieldAddr 32 (Operand.tmp 1) 1, type := 0, pos := "ref.go:92", after := #[{ on := 5, ground := Ground.guard }], guard := some (5, false) }) (v := .pointer (some ⟨w.heap.size, 1, none⟩)) rfl (by kernel_rfl) (by kernel_rfl) (by kernel_rfl) (fun _ _ _ h => h) (Or.inl ⟨by kernel_rfl, fun W hSW => by go_simp⟩) (H5.out.src) ?_
  try simp only [Act.put, List.setIfInBounds_toArray, List.set_cons_zero, List.set_cons_succ]
  refine wpAnyH_take (i := 7) (oi := { dst := some 12, op := Op.load 22 (Operand.tmp 11), type := 22, pos := "ref.go:92", after := #[{ on := 6, ground := Ground.data }, { on := 5, ground := Ground.guard }], guard := some (5, false) }) (v := .int .u64 (x.view : Int)) rfl (by kernel_rfl) (by kernel_rfl) (by kernel_rfl) (fun _ _ _ h => h) (Or.inl ⟨by kernel_rfl, fun W hSW => by have hv := (body_lies hSW HX.out).view; go_simp⟩) (H5.out.src) ?_
  try simp only [Act.put, List.setIfInBounds_toArray, List.set_cons_zero, List.set_cons_succ]
  refine wpAnyH_take (i := 8) (oi := { dst := some 13, op := Op.binOp BinOp.geq 22 (Operand.tmp 12) (Operand.const (Value.int IntKind.u64 1073741824)) 22, type := 4, pos := "ref.go:92", after := #[{ on := 7, ground := Ground.data }, { on := 5, ground := Ground.guard }], guard := some (5, false) }) (v := .bool false) rfl (by kernel_rfl) (by kernel_rfl) (by kernel_rfl) (fun _ _ _ h => h) (Or.inl ⟨by kernel_rfl, fun W hSW => by have hv := HV; have hv2 := HV2; go_simp⟩) (H5.out.src) ?_
  try simp only [Act.put, List.setIfInBounds_toArray, List.set_cons_zero, List.set_cons_succ]
  refine wpAnyH_take (i := 9) (oi := { dst := some 14, op := Op.pick (Operand.tmp 10) (Operand.const (Value.bool true)) (Operand.tmp 13), type := 4, pos := "ref.go:92", after := #[{ on := 5, ground := Ground.data }, { on := 8, ground := Ground.data }], guard := none }) (v := .bool false) rfl (by kernel_rfl) (by kernel_rfl) (by kernel_rfl) (fun _ _ _ h => h) (Or.inl ⟨by kernel_rfl, fun W hSW => by go_simp⟩) (H5.out.src) ?_
  try simp only [Act.put, List.setIfInBounds_toArray, List.set_cons_zero, List.set_cons_succ]
  refine wpAnyH_done (by kernel_rfl) ?_ _
  clear HV HV2
  have k0 : w5.cell? ⟨w.heap.size, 0, none⟩ = some (.int .u8 1) := (body_lies H5.out.src HX.out).kind.trans (by rw [HKI.out]; rfl)
  have k1 : w5.cell? ⟨w.heap.size, 1, none⟩ = some (.int .u64 (x.view : Int)) := (body_lies H5.out.src HX.out).view
  have k2 : w5.cell? ⟨w.heap.size, 2, none⟩ = some (.int .u64 (x.k : Int)) := (body_lies H5.out.src HX.out).k
  go_wp2_with (first | ((with_reducible refine wpList_load_midG ?_ 29 (.tmp 19) ?_ w.heap.size 3 ?_ (reqC x.req) _ ?_ Tryz.underlying29 ?_ ?_ ?_); (· rfl); (· rfl); (· rfl); (· exact (body_lies H5.out.src HX.out).req.all); (· rfl); (· exact HJ.out)) | (go_at_call 28; refine (HA.out _).mono ?_; rintro E w6 ⟨rfl, hb6⟩))
  go_ret
  exact ⟨rfl, Lib.hid (H5.out.next (Nat.le_refl _) hb6).bel⟩
set_option maxHeartbeats 8000000 in
theorem bodyr_x (x : MBody) (w : World) (hx : x.Wf) (h1 : ¬ ((x.kind.toNat : Int) = 1)) (h2 : ¬ ((x.kind.toNat : Int) = 2)) (h3 : ¬ ((x.kind.toNat : Int) = 3)) (h4 : ¬ ((x.kind.toNat : Int) = 4)) (h5 : ¬ ((x.kind.toNat : Int) = 5)) (h6 : ¬ ((x.kind.toNat : Int) = 6)) (HV : ¬ ((x.view : Int) ≥ 1073741824)) (HV2 : ¬ (1073741824 ≤ x.view)) (HO : Hid (∀ W, Below w.heap.size w W → Calls Tryz.prog 64 #[.agg (bodyC x).toArray] W fun E w' => E = .returned (.agg (bodyC (ownR x)).toArray) ∧ Hid (Below W.heap.size W w')))
    (HS : Hid (∀ W, Below w.heap.size w W → Calls Tryz.prog 52 #[.agg (bodyC (ownR x)).toArray, .agg (bodyC x).toArray] W fun E w' => E = .returned (.bool true) ∧ Hid (Below W.heap.size W w'))) :
    Calls Tryz.prog 36 #[.agg (bodyC x).toArray] w fun E w' => E = .returned (.bool (false)) ∧ Hid (Below w.heap.size w w') := by
  have HB := Lib.hid (body_lies (range_box w (bodyC x) 32) hx)
  have HX := Lib.hid hx
  have HI : Hid ((Tryz.prog.info? 32).map (·.size) = some (bodyC x).length) := Lib.hid (by rw [bodyC_length hx]; exact Tryz.is32)
  have HL : Hid (RqAt w.heap.size w (bodyC x) (w.alloc (.cells (bodyC x).toArray 32))) := Lib.hid ⟨(Below.refl _ _).alloc (Nat.le_refl _) _, by simp, range_box w (bodyC x) 32⟩
  clear hx
  go_enter Tryz.func36, Tryz.ntmps36
  go_wp2_with fail
  refine wp_region_any (by kernel_rfl) ?_
  have H3 := Lib.hid (HL.out.drewN 1)
  change wpAny _ _ _ _ _ _ _ ((w.alloc (.cells (bodyC x).toArray 32)).drewN 1)
  generalize (w.alloc (.cells (bodyC x).toArray 32)).drewN 1 = w3 at H3 ⊢
  clear HL HB
  refine wpAny_of_held (S := fun W => W.rangeAt w.heap.size 0 (bodyC x)) _ _ _ _ ?_
  refine wpAnyH_take (i := 0) (oi := { dst := some 5, op := Op.load 32 (Operand.tmp 1), type := 32, pos := "ref.go:92", after := #[], guard := none }) (v := .agg (bodyC x).toArray) rfl (by kernel_rfl) (by kernel_rfl) (by kernel_rfl) (fun _ _ _ h => h) (Or.inl ⟨by kernel_rfl, fun W hSW => exec_load_mid 32 (.tmp 1) rfl w.heap.size 0 rfl (bodyC x) _ (hSW) Tryz.underlying32 rfl (HI.out)⟩) (H3.out.src) ?_
  try simp only [Act.put, List.setIfInBounds_toArray, List.set_cons_zero, List.set_cons_succ]
  refine wpAnyH_take (i := 2) (oi := { dst := some 7, op := Op.load 32 (Operand.tmp 1), type := 32, pos := "ref.go:92", after := #[], guard := none }) (v := .agg (bodyC x).toArray) rfl (by kernel_rfl) (by kernel_rfl) (by kernel_rfl) (fun _ _ _ h => h) (Or.inl ⟨by kernel_rfl, fun W hSW => exec_load_mid 32 (.tmp 1) rfl w.heap.size 0 rfl (bodyC x) _ (hSW) Tryz.underlying32 rfl (HI.out)⟩) (H3.out.src) ?_
  try simp only [Act.put, List.setIfInBounds_toArray, List.set_cons_zero, List.set_cons_succ]
  refine wpAnyH_ready (rs := [1]) (by kernel_rfl) (by simp) ?_
  refine AllReadyH.cons (o := { dst := some 6, op := Op.call { callee := Callee.value (Operand.func 64), args := #[Operand.tmp 5], argTypes := #[32] }, type := 32, pos := "ref.go:92", after := #[{ on := 0, ground := Ground.data }], guard := none }) rfl (fun K' hK' => ?_) AllReadyH.nil
  go_simp
  go_at_call 64
  refine (HO.out _ H3.out.bel).mono ?_
  rintro E w4 ⟨rfl, hb4⟩
  have H4 := Lib.hid (H3.out.next (Nat.le_refl _) hb4.out)
  refine hK'.out _ _ H4.out.src (fun _ => ?_)
  clear hK' K'
  try simp only [Act.put, List.setIfInBounds_toArray, List.set_cons_zero, List.set_cons_succ]
  refine wpAnyH_ready (rs := [3]) (by kernel_rfl) (by simp) ?_
  refine AllReadyH.cons (o := { dst := some 8, op := Op.call { callee := Callee.value (Operand.func 52), args := #[Operand.tmp 6, Operand.tmp 7], argTypes := #[32, 32] }, type := 4, pos := "ref.go:92", after := #[{ on := 1, ground := Ground.data }, { on := 2, ground := Ground.data }, { on := 1, ground := Ground.chain }], guard := none }) rfl (fun K' hK' => ?_) AllReadyH.nil
  go_simp
  go_at_call 52
  refine (HS.out _ H4.out.bel).mono ?_
  rintro E w5 ⟨rfl, hb5⟩
  have H5 := Lib.hid (H4.out.next (Nat.le_refl _) hb5.out)
  refine hK'.out _ _ H5.out.src (fun _ => ?_)
  clear hK' K'
  try simp only [Act.put, List.setIfInBounds_toArray, List.set_cons_zero, List.set_cons_succ]
  refine wpAnyH_take (i := 4) (oi := { dst := some 9, op := Op.unOp UnOp.not 4 (Operand.tmp 8), type := 4, pos := "ref.go:92", after := #[{ on := 3, ground := Ground.data }], guard := none }) (v := .bool false) rfl (by kernel_rfl) (by kernel_rfl) (by kernel_rfl) (fun _ _ _ h => h) (Or.inl ⟨by kernel_rfl, fun W hSW => by go_simp⟩) (H5.out.src) ?_
  try simp only [Act.put, List.setIfInBounds_toArray, List.set_cons_zero, List.set_cons_succ]
  refine wpAnyH_take (i := 5) (oi := { dst := some 10, op := Op.move (Operand.tmp 9), type := 4, pos := "ref.go:92", after := #[{ on := 4, ground := Ground.data }, { on := 3, ground := Ground.chain }], guard := none }) (v := .bool false) rfl (by kernel_rfl) (by kernel_rfl) (by kernel_rfl) (fun _ _ _ h => h) (Or.inl ⟨by kernel_rfl, fun W hSW => by go_simp⟩) (H5.out.src) ?_
  try simp only [Act.put, List.setIfInBounds_toArray, List.set_cons_zero, List.set_cons_succ]
  refine wpAnyH_take (i := 6) (oi := { dst := some 11, op := Op.fieldAddr 32 (Operand.tmp 1) 1, type := 0, pos := "ref.go:92", after := #[{ on := 5, ground := Ground.guard }], guard := some (5, false) }) (v := .pointer (some ⟨w.heap.size, 1, none⟩)) rfl (by kernel_rfl) (by kernel_rfl) (by kernel_rfl) (fun _ _ _ h => h) (Or.inl ⟨by kernel_rfl, fun W hSW => by go_simp⟩) (H5.out.src) ?_
  try simp only [Act.put, List.setIfInBounds_toArray, List.set_cons_zero, List.set_cons_succ]
  refine wpAnyH_take (i := 7) (oi := { dst := some 12, op := Op.load 22 (Operand.tmp 11), type := 22, pos := "ref.go:92", after := #[{ on := 6, ground := Ground.data }, { on := 5, ground := Ground.guard }], guard := some (5, false) }) (v := .int .u64 (x.view : Int)) rfl (by kernel_rfl) (by kernel_rfl) (by kernel_rfl) (fun _ _ _ h => h) (Or.inl ⟨by kernel_rfl, fun W hSW => by have hv := (body_lies hSW HX.out).view; go_simp⟩) (H5.out.src) ?_
  try simp only [Act.put, List.setIfInBounds_toArray, List.set_cons_zero, List.set_cons_succ]
  refine wpAnyH_take (i := 8) (oi := { dst := some 13, op := Op.binOp BinOp.geq 22 (Operand.tmp 12) (Operand.const (Value.int IntKind.u64 1073741824)) 22, type := 4, pos := "ref.go:92", after := #[{ on := 7, ground := Ground.data }, { on := 5, ground := Ground.guard }], guard := some (5, false) }) (v := .bool false) rfl (by kernel_rfl) (by kernel_rfl) (by kernel_rfl) (fun _ _ _ h => h) (Or.inl ⟨by kernel_rfl, fun W hSW => by have hv := HV; have hv2 := HV2; go_simp⟩) (H5.out.src) ?_
  try simp only [Act.put, List.setIfInBounds_toArray, List.set_cons_zero, List.set_cons_succ]
  refine wpAnyH_take (i := 9) (oi := { dst := some 14, op := Op.pick (Operand.tmp 10) (Operand.const (Value.bool true)) (Operand.tmp 13), type := 4, pos := "ref.go:92", after := #[{ on := 5, ground := Ground.data }, { on := 8, ground := Ground.data }], guard := none }) (v := .bool false) rfl (by kernel_rfl) (by kernel_rfl) (by kernel_rfl) (fun _ _ _ h => h) (Or.inl ⟨by kernel_rfl, fun W hSW => by go_simp⟩) (H5.out.src) ?_
  try simp only [Act.put, List.setIfInBounds_toArray, List.set_cons_zero, List.set_cons_succ]
  refine wpAnyH_done (by kernel_rfl) ?_ _
  clear HV HV2
  have k0 : w5.cell? ⟨w.heap.size, 0, none⟩ = some (.int .u8 (x.kind.toNat : Int)) := (body_lies H5.out.src HX.out).kind
  have k1 : w5.cell? ⟨w.heap.size, 1, none⟩ = some (.int .u64 (x.view : Int)) := (body_lies H5.out.src HX.out).view
  have k2 : w5.cell? ⟨w.heap.size, 2, none⟩ = some (.int .u64 (x.k : Int)) := (body_lies H5.out.src HX.out).k
  go_wp2_with fail
  go_ret
  exact ⟨rfl, Lib.hid H5.out.bel⟩
end Go.Proofs.YtghjogneogkpoaaGreatDoor.Sh
