/-
  What is proved: whether a message's tag is right (Right). Conditions as stated.
-/
import Derived.Test.YtghjogneogkpoaaGreatDoorMt
import Derived.Test.YtghjogneogkpoaaGreatDoorKu
namespace Go.Proofs.YtghjogneogkpoaaGreatDoor.Sh
open Go.RowKit
set_option maxRecDepth 100000

set_option maxHeartbeats 8000000 in
theorem right_by (m : MMsg) (w : World) (hm : m.Wf) (z q : Bool)
    (HM : Hid (∀ W, Below w.heap.size w W → Calls Tryz.prog 13 #[.agg (msgC m).toArray] W fun E w' => E = .returned (.bool z) ∧ Hid (Below W.heap.size W w')))
    (HT : Hid (z = true → ∀ W, Below w.heap.size w W → Calls Tryz.prog 37 #[.agg (msgC m).toArray] W fun E w' => ∃ A' n' c', E = .returned (.slice A' n' c') ∧ Ow W.heap.size w' A' n' c' (msgB m) ∧ Hid (Below W.heap.size W w')))
    (HC : Hid (∀ (W : World) (A : Option Addr) (n c : Nat), Below w.heap.size w W → Ow 0 W A n c (msgB m) → Calls Tryz.prog 41 #[.int .i64 m.origin, .int .u64 (m.number : Int), .slice A n c, .agg (u8s m.tag).toArray] W fun E w' => E = .returned (.bool q) ∧ Hid (Below W.heap.size W w'))) :
    Calls Tryz.prog 19 #[.agg (msgC m).toArray] w fun E w' => E = .returned (.bool (z && q)) ∧ Hid (Below w.heap.size w w') := by
  have HI : Hid ((Tryz.prog.info? 34).map (·.size) = some (msgC m).length) := Lib.hid (by rw [msgC_length hm]; exact Tryz.is34)
  have HL : Hid (RqAt w.heap.size w (msgC m) (w.alloc (.cells (msgC m).toArray 34))) := Lib.hid ⟨(Below.refl _ _).alloc (Nat.le_refl _) _, by simp, range_box w (msgC m) 34⟩
  have HMW := Lib.hid hm
  have HJ : Hid ((Tryz.prog.info? 27).map (·.size) = some (u8s m.tag).length) := Lib.hid (by rw [u8s_length, hm.2.2]; exact Tryz.size27)
  clear hm
  cases z
  · go_enter Tryz.func19, Tryz.ntmps19
    go_wp2_with fail
    refine wp_region_any (by kernel_rfl) ?_
    have H3 := Lib.hid (HL.out.drewN 1)
    change wpAny _ _ _ _ _ _ _ ((w.alloc (.cells (msgC m).toArray 34)).drewN 1)
    generalize (w.alloc (.cells (msgC m).toArray 34)).drewN 1 = w3 at H3 ⊢
    clear HL
    refine wpAny_of_held (S := fun W => W.rangeAt w.heap.size 0 (msgC m)) _ _ _ _ ?_
    refine wpAnyH_take (i := 0) (oi := { dst := some 3, op := Op.load 34 (Operand.tmp 1), type := 34, pos := "message.go:61", after := #[], guard := none }) (v := .agg (msgC m).toArray) rfl (by kernel_rfl) (by kernel_rfl) (by kernel_rfl) (fun _ _ _ h => h) (Or.inl ⟨by kernel_rfl, fun W hSW => exec_load_mid 34 (.tmp 1) rfl w.heap.size 0 rfl (msgC m) _ (hSW) Tryz.underlying34 rfl (HI.out)⟩) (H3.out.src) ?_
    try simp only [Act.put, List.setIfInBounds_toArray, List.set_cons_zero, List.set_cons_succ]
    refine wpAnyH_ready (rs := [1]) (by kernel_rfl) (by simp) ?_
    refine AllReadyH.cons (o := { dst := some 4, op := Op.call { callee := Callee.value (Operand.func 13), args := #[Operand.tmp 3], argTypes := #[34] }, type := 4, pos := "message.go:61", after := #[{ on := 0, ground := Ground.data }], guard := none }) rfl (fun K' hK' => ?_) AllReadyH.nil
    go_simp
    go_at_call 13
    refine (HM.out _ H3.out.bel).mono ?_
    rintro E w4 ⟨rfl, hb4⟩
    have H4 := Lib.hid (H3.out.next (Nat.le_refl _) hb4.out)
    refine hK'.out _ _ H4.out.src (fun _ => ?_)
    clear hK' K'
    try simp only [Act.put, List.setIfInBounds_toArray, List.set_cons_zero, List.set_cons_succ]
    refine wpAnyH_take (i := 2) (oi := { dst := some 5, op := Op.move (Operand.tmp 4), type := 4, pos := "message.go:61", after := #[{ on := 1, ground := Ground.data }, { on := 1, ground := Ground.chain }], guard := none }) (v := .bool false) rfl (by kernel_rfl) (by kernel_rfl) (by kernel_rfl) (fun _ _ _ h => h) (Or.inl ⟨by kernel_rfl, fun W hSW => by go_simp⟩) (H4.out.src) ?_
    try simp only [Act.put, List.setIfInBounds_toArray, List.set_cons_zero, List.set_cons_succ]
    refine wpAnyH_take (i := 3) (oi := { dst := some 6, op := Op.fieldAddr 34 (Operand.tmp 1) 0, type := 0, pos := "message.go:61", after := #[{ on := 2, ground := Ground.guard }], guard := some (2, true) }) (v := undef) rfl (by kernel_rfl) (by kernel_rfl) (by kernel_rfl) (fun _ _ _ h => h) (Or.inr ⟨by kernel_rfl, rfl⟩) (H4.out.src) ?_
    try simp only [Act.put, List.setIfInBounds_toArray, List.set_cons_zero, List.set_cons_succ]
    refine wpAnyH_take (i := 4) (oi := { dst := some 7, op := Op.load 3 (Operand.tmp 6), type := 3, pos := "message.go:61", after := #[{ on := 3, ground := Ground.data }, { on := 2, ground := Ground.guard }], guard := some (2, true) }) (v := undef) rfl (by kernel_rfl) (by kernel_rfl) (by kernel_rfl) (fun _ _ _ h => h) (Or.inr ⟨by kernel_rfl, rfl⟩) (H4.out.src) ?_
    try simp only [Act.put, List.setIfInBounds_toArray, List.set_cons_zero, List.set_cons_succ]
    refine wpAnyH_take (i := 5) (oi := { dst := some 8, op := Op.fieldAddr 34 (Operand.tmp 1) 1, type := 0, pos := "message.go:61", after := #[{ on := 2, ground := Ground.guard }], guard := some (2, true) }) (v := undef) rfl (by kernel_rfl) (by kernel_rfl) (by kernel_rfl) (fun _ _ _ h => h) (Or.inr ⟨by kernel_rfl, rfl⟩) (H4.out.src) ?_
    try simp only [Act.put, List.setIfInBounds_toArray, List.set_cons_zero, List.set_cons_succ]
    refine wpAnyH_take (i := 6) (oi := { dst := some 9, op := Op.load 22 (Operand.tmp 8), type := 22, pos := "message.go:61", after := #[{ on := 5, ground := Ground.data }, { on := 2, ground := Ground.guard }], guard := some (2, true) }) (v := undef) rfl (by kernel_rfl) (by kernel_rfl) (by kernel_rfl) (fun _ _ _ h => h) (Or.inr ⟨by kernel_rfl, rfl⟩) (H4.out.src) ?_
    try simp only [Act.put, List.setIfInBounds_toArray, List.set_cons_zero, List.set_cons_succ]
    refine wpAnyH_take (i := 7) (oi := { dst := some 10, op := Op.load 34 (Operand.tmp 1), type := 34, pos := "message.go:61", after := #[{ on := 2, ground := Ground.guard }], guard := some (2, true) }) (v := undef) rfl (by kernel_rfl) (by kernel_rfl) (by kernel_rfl) (fun _ _ _ h => h) (Or.inr ⟨by kernel_rfl, rfl⟩) (H4.out.src) ?_
    try simp only [Act.put, List.setIfInBounds_toArray, List.set_cons_zero, List.set_cons_succ]
    refine wpAnyH_take (i := 8) (oi := { dst := some 11, op := Op.call { callee := Callee.value (Operand.func 37), args := #[Operand.tmp 10], argTypes := #[34] }, type := 38, pos := "message.go:61", after := #[{ on := 7, ground := Ground.data }, { on := 2, ground := Ground.chain }, { on := 2, ground := Ground.guard }], guard := some (2, true) }) (v := undef) rfl (by kernel_rfl) (by kernel_rfl) (by kernel_rfl) (fun _ _ _ h => h) (Or.inr ⟨by kernel_rfl, rfl⟩) (H4.out.src) ?_
    try simp only [Act.put, List.setIfInBounds_toArray, List.set_cons_zero, List.set_cons_succ]
    refine wpAnyH_take (i := 9) (oi := { dst := some 12, op := Op.fieldAddr 34 (Operand.tmp 1) 4, type := 0, pos := "message.go:61", after := #[{ on := 2, ground := Ground.guard }], guard := some (2, true) }) (v := undef) rfl (by kernel_rfl) (by kernel_rfl) (by kernel_rfl) (fun _ _ _ h => h) (Or.inr ⟨by kernel_rfl, rfl⟩) (H4.out.src) ?_
    try simp only [Act.put, List.setIfInBounds_toArray, List.set_cons_zero, List.set_cons_succ]
    refine wpAnyH_take (i := 10) (oi := { dst := some 13, op := Op.load 27 (Operand.tmp 12), type := 27, pos := "message.go:61", after := #[{ on := 9, ground := Ground.data }, { on := 2, ground := Ground.guard }], guard := some (2, true) }) (v := undef) rfl (by kernel_rfl) (by kernel_rfl) (by kernel_rfl) (fun _ _ _ h => h) (Or.inr ⟨by kernel_rfl, rfl⟩) (H4.out.src) ?_
    try simp only [Act.put, List.setIfInBounds_toArray, List.set_cons_zero, List.set_cons_succ]
    refine wpAnyH_take (i := 11) (oi := { dst := some 14, op := Op.call { callee := Callee.value (Operand.func 41), args := #[Operand.tmp 7, Operand.tmp 9, Operand.tmp 11, Operand.tmp 13], argTypes := #[3, 22, 38, 27] }, type := 4, pos := "message.go:61", after := #[{ on := 4, ground := Ground.data }, { on := 6, ground := Ground.data }, { on := 8, ground := Ground.data }, { on := 10, ground := Ground.data }, { on := 8, ground := Ground.chain }, { on := 2, ground := Ground.guard }], guard := some (2, true) }) (v := undef) rfl (by kernel_rfl) (by kernel_rfl) (by kernel_rfl) (fun _ _ _ h => h) (Or.inr ⟨by kernel_rfl, rfl⟩) (H4.out.src) ?_
    try simp only [Act.put, List.setIfInBounds_toArray, List.set_cons_zero, List.set_cons_succ]
    refine wpAnyH_take (i := 12) (oi := { dst := some 15, op := Op.pick (Operand.tmp 5) (Operand.tmp 14) (Operand.const (Value.bool false)), type := 4, pos := "message.go:61", after := #[{ on := 2, ground := Ground.data }, { on := 11, ground := Ground.data }], guard := none }) (v := .bool false) rfl (by kernel_rfl) (by kernel_rfl) (by kernel_rfl) (fun _ _ _ h => h) (Or.inl ⟨by kernel_rfl, fun W hSW => by go_simp⟩) (H4.out.src) ?_
    try simp only [Act.put, List.setIfInBounds_toArray, List.set_cons_zero, List.set_cons_succ]
    refine wpAnyH_take (i := 13) (oi := { dst := some 2, op := Op.assign (Operand.tmp 15), type := 4, pos := "message.go:61", after := #[{ on := 12, ground := Ground.data }, { on := 11, ground := Ground.chain }, { on := 0, ground := Ground.phase }, { on := 1, ground := Ground.phase }, { on := 2, ground := Ground.phase }, { on := 3, ground := Ground.phase }, { on := 4, ground := Ground.phase }, { on := 5, ground := Ground.phase }, { on := 6, ground := Ground.phase }, { on := 7, ground := Ground.phase }, { on := 8, ground := Ground.phase }, { on := 9, ground := Ground.phase }, { on := 10, ground := Ground.phase }, { on := 11, ground := Ground.phase }, { on := 12, ground := Ground.phase }], guard := none }) (v := .bool false) rfl (by kernel_rfl) (by kernel_rfl) (by kernel_rfl) (fun _ _ _ h => h) (Or.inl ⟨by kernel_rfl, fun W hSW => by go_simp⟩) (H4.out.src) ?_
    try simp only [Act.put, List.setIfInBounds_toArray, List.set_cons_zero, List.set_cons_succ]
    refine wpAnyH_done (by kernel_rfl) ?_ _
    go_wp2_with fail
    go_ret
    exact ⟨rfl, Lib.hid H4.out.bel⟩
  · go_enter Tryz.func19, Tryz.ntmps19
    go_wp2_with fail
    refine wp_region_any (by kernel_rfl) ?_
    have H3 := Lib.hid (HL.out.drewN 1)
    change wpAny _ _ _ _ _ _ _ ((w.alloc (.cells (msgC m).toArray 34)).drewN 1)
    generalize (w.alloc (.cells (msgC m).toArray 34)).drewN 1 = w3 at H3 ⊢
    clear HL
    refine wpAny_of_held (S := fun W => W.rangeAt w.heap.size 0 (msgC m)) _ _ _ _ ?_
    refine wpAnyH_take (i := 0) (oi := { dst := some 3, op := Op.load 34 (Operand.tmp 1), type := 34, pos := "message.go:61", after := #[], guard := none }) (v := .agg (msgC m).toArray) rfl (by kernel_rfl) (by kernel_rfl) (by kernel_rfl) (fun _ _ _ h => h) (Or.inl ⟨by kernel_rfl, fun W hSW => exec_load_mid 34 (.tmp 1) rfl w.heap.size 0 rfl (msgC m) _ (hSW) Tryz.underlying34 rfl (HI.out)⟩) (H3.out.src) ?_
    try simp only [Act.put, List.setIfInBounds_toArray, List.set_cons_zero, List.set_cons_succ]
    refine wpAnyH_ready (rs := [1]) (by kernel_rfl) (by simp) ?_
    refine AllReadyH.cons (o := { dst := some 4, op := Op.call { callee := Callee.value (Operand.func 13), args := #[Operand.tmp 3], argTypes := #[34] }, type := 4, pos := "message.go:61", after := #[{ on := 0, ground := Ground.data }], guard := none }) rfl (fun K' hK' => ?_) AllReadyH.nil
    go_simp
    go_at_call 13
    refine (HM.out _ H3.out.bel).mono ?_
    rintro E w4 ⟨rfl, hb4⟩
    have H4 := Lib.hid (H3.out.next (Nat.le_refl _) hb4.out)
    refine hK'.out _ _ H4.out.src (fun _ => ?_)
    clear hK' K'
    try simp only [Act.put, List.setIfInBounds_toArray, List.set_cons_zero, List.set_cons_succ]
    refine wpAnyH_take (i := 2) (oi := { dst := some 5, op := Op.move (Operand.tmp 4), type := 4, pos := "message.go:61", after := #[{ on := 1, ground := Ground.data }, { on := 1, ground := Ground.chain }], guard := none }) (v := .bool true) rfl (by kernel_rfl) (by kernel_rfl) (by kernel_rfl) (fun _ _ _ h => h) (Or.inl ⟨by kernel_rfl, fun W hSW => by go_simp⟩) (H4.out.src) ?_
    try simp only [Act.put, List.setIfInBounds_toArray, List.set_cons_zero, List.set_cons_succ]
    refine wpAnyH_take (i := 3) (oi := { dst := some 6, op := Op.fieldAddr 34 (Operand.tmp 1) 0, type := 0, pos := "message.go:61", after := #[{ on := 2, ground := Ground.guard }], guard := some (2, true) }) (v := .pointer (some ⟨w.heap.size, 0, none⟩)) rfl (by kernel_rfl) (by kernel_rfl) (by kernel_rfl) (fun _ _ _ h => h) (Or.inl ⟨by kernel_rfl, fun W hSW => by go_simp⟩) (H4.out.src) ?_
    try simp only [Act.put, List.setIfInBounds_toArray, List.set_cons_zero, List.set_cons_succ]
    refine wpAnyH_take (i := 4) (oi := { dst := some 7, op := Op.load 3 (Operand.tmp 6), type := 3, pos := "message.go:61", after := #[{ on := 3, ground := Ground.data }, { on := 2, ground := Ground.guard }], guard := some (2, true) }) (v := .int .i64 m.origin) rfl (by kernel_rfl) (by kernel_rfl) (by kernel_rfl) (fun _ _ _ h => h) (Or.inl ⟨by kernel_rfl, fun W hSW => by have hv := (msg_lies hSW HMW.out).origin; go_simp⟩) (H4.out.src) ?_
    try simp only [Act.put, List.setIfInBounds_toArray, List.set_cons_zero, List.set_cons_succ]
    refine wpAnyH_take (i := 5) (oi := { dst := some 8, op := Op.fieldAddr 34 (Operand.tmp 1) 1, type := 0, pos := "message.go:61", after := #[{ on := 2, ground := Ground.guard }], guard := some (2, true) }) (v := .pointer (some ⟨w.heap.size, 1, none⟩)) rfl (by kernel_rfl) (by kernel_rfl) (by kernel_rfl) (fun _ _ _ h => h) (Or.inl ⟨by kernel_rfl, fun W hSW => by go_simp⟩) (H4.out.src) ?_
    try simp only [Act.put, List.setIfInBounds_toArray, List.set_cons_zero, List.set_cons_succ]
    refine wpAnyH_take (i := 6) (oi := { dst := some 9, op := Op.load 22 (Operand.tmp 8), type := 22, pos := "message.go:61", after := #[{ on := 5, ground := Ground.data }, { on := 2, ground := Ground.guard }], guard := some (2, true) }) (v := .int .u64 (m.number : Int)) rfl (by kernel_rfl) (by kernel_rfl) (by kernel_rfl) (fun _ _ _ h => h) (Or.inl ⟨by kernel_rfl, fun W hSW => by have hv := (msg_lies hSW HMW.out).number; go_simp⟩) (H4.out.src) ?_
    try simp only [Act.put, List.setIfInBounds_toArray, List.set_cons_zero, List.set_cons_succ]
    refine wpAnyH_take (i := 7) (oi := { dst := some 10, op := Op.load 34 (Operand.tmp 1), type := 34, pos := "message.go:61", after := #[{ on := 2, ground := Ground.guard }], guard := some (2, true) }) (v := .agg (msgC m).toArray) rfl (by kernel_rfl) (by kernel_rfl) (by kernel_rfl) (fun _ _ _ h => h) (Or.inl ⟨by kernel_rfl, fun W hSW => exec_load_mid 34 (.tmp 1) rfl w.heap.size 0 rfl (msgC m) _ (hSW) Tryz.underlying34 rfl (HI.out)⟩) (H4.out.src) ?_
    try simp only [Act.put, List.setIfInBounds_toArray, List.set_cons_zero, List.set_cons_succ]
    refine wpAnyH_take (i := 9) (oi := { dst := some 12, op := Op.fieldAddr 34 (Operand.tmp 1) 4, type := 0, pos := "message.go:61", after := #[{ on := 2, ground := Ground.guard }], guard := some (2, true) }) (v := .pointer (some ⟨w.heap.size, 89, none⟩)) rfl (by kernel_rfl) (by kernel_rfl) (by kernel_rfl) (fun _ _ _ h => h) (Or.inl ⟨by kernel_rfl, fun W hSW => by go_simp⟩) (H4.out.src) ?_
    try simp only [Act.put, List.setIfInBounds_toArray, List.set_cons_zero, List.set_cons_succ]
    refine wpAnyH_take (i := 10) (oi := { dst := some 13, op := Op.load 27 (Operand.tmp 12), type := 27, pos := "message.go:61", after := #[{ on := 9, ground := Ground.data }, { on := 2, ground := Ground.guard }], guard := some (2, true) }) (v := .agg (u8s m.tag).toArray) rfl (by kernel_rfl) (by kernel_rfl) (by kernel_rfl) (fun _ _ _ h => h) (Or.inl ⟨by kernel_rfl, fun W hSW => exec_load_mid 27 (.tmp 12) rfl w.heap.size 89 rfl (u8s m.tag) _ ((msg_lies hSW HMW.out).tag) Tryz.underlying27 rfl (HJ.out)⟩) (H4.out.src) ?_
    try simp only [Act.put, List.setIfInBounds_toArray, List.set_cons_zero, List.set_cons_succ]
    refine wpAnyH_ready (rs := [8]) (by kernel_rfl) (by simp) ?_
    refine AllReadyH.cons (o := { dst := some 11, op := Op.call { callee := Callee.value (Operand.func 37), args := #[Operand.tmp 10], argTypes := #[34] }, type := 38, pos := "message.go:61", after := #[{ on := 7, ground := Ground.data }, { on := 2, ground := Ground.chain }, { on := 2, ground := Ground.guard }], guard := some (2, true) }) rfl (fun K' hK' => ?_) AllReadyH.nil
    go_simp
    go_at_call 37
    refine (HT.out (by simp) _ H4.out.bel).mono ?_
    rintro E w5 ⟨A5, n5, c5, rfl, H5, hb5⟩
    have O5 := Lib.hid H5
    clear H5
    have H6 := Lib.hid (H4.out.next (Nat.le_refl _) hb5.out)
    refine hK'.out _ _ H6.out.src (fun _ => ?_)
    clear hK' K'
    try simp only [Act.put, List.setIfInBounds_toArray, List.set_cons_zero, List.set_cons_succ]
    refine wpAnyH_ready (rs := [11]) (by kernel_rfl) (by simp) ?_
    refine AllReadyH.cons (o := { dst := some 14, op := Op.call { callee := Callee.value (Operand.func 41), args := #[Operand.tmp 7, Operand.tmp 9, Operand.tmp 11, Operand.tmp 13], argTypes := #[3, 22, 38, 27] }, type := 4, pos := "message.go:61", after := #[{ on := 4, ground := Ground.data }, { on := 6, ground := Ground.data }, { on := 8, ground := Ground.data }, { on := 10, ground := Ground.data }, { on := 8, ground := Ground.chain }, { on := 2, ground := Ground.guard }], guard := some (2, true) }) rfl (fun K' hK' => ?_) AllReadyH.nil
    go_simp
    go_at_call 41
    refine (HC.out w5 A5 n5 c5 H6.out.bel (O5.out.low (B' := 0) (Nat.zero_le _))).mono ?_
    rintro E w7 ⟨rfl, hb7⟩
    have H7 := Lib.hid (H6.out.next (Nat.le_refl _) hb7.out)
    refine hK'.out _ _ H7.out.src (fun _ => ?_)
    clear hK' K'
    try simp only [Act.put, List.setIfInBounds_toArray, List.set_cons_zero, List.set_cons_succ]
    refine wpAnyH_take (i := 12) (oi := { dst := some 15, op := Op.pick (Operand.tmp 5) (Operand.tmp 14) (Operand.const (Value.bool false)), type := 4, pos := "message.go:61", after := #[{ on := 2, ground := Ground.data }, { on := 11, ground := Ground.data }], guard := none }) (v := .bool q) rfl (by kernel_rfl) (by kernel_rfl) (by kernel_rfl) (fun _ _ _ h => h) (Or.inl ⟨by kernel_rfl, fun W hSW => by go_simp⟩) (H7.out.src) ?_
    try simp only [Act.put, List.setIfInBounds_toArray, List.set_cons_zero, List.set_cons_succ]
    refine wpAnyH_take (i := 13) (oi := { dst := some 2, op := Op.assign (Operand.tmp 15), type := 4, pos := "message.go:61", after := #[{ on := 12, ground := Ground.data }, { on := 11, ground := Ground.chain }, { on := 0, ground := Ground.phase }, { on := 1, ground := Ground.phase }, { on := 2, ground := Ground.phase }, { on := 3, ground := Ground.phase }, { on := 4, ground := Ground.phase }, { on := 5, ground := Ground.phase }, { on := 6, ground := Ground.phase }, { on := 7, ground := Ground.phase }, { on := 8, ground := Ground.phase }, { on := 9, ground := Ground.phase }, { on := 10, ground := Ground.phase }, { on := 11, ground := Ground.phase }, { on := 12, ground := Ground.phase }], guard := none }) (v := .bool q) rfl (by kernel_rfl) (by kernel_rfl) (by kernel_rfl) (fun _ _ _ h => h) (Or.inl ⟨by kernel_rfl, fun W hSW => by go_simp⟩) (H7.out.src) ?_
    try simp only [Act.put, List.setIfInBounds_toArray, List.set_cons_zero, List.set_cons_succ]
    refine wpAnyH_done (by kernel_rfl) ?_ _
    go_wp2_with fail
    go_ret
    exact ⟨rfl, Lib.hid H7.out.bel⟩

set_option maxHeartbeats 8000000 in
theorem right_no (m : MMsg) (w : World) (hm : m.Wf)
    (HM : Hid (∀ W, Below w.heap.size w W → Calls Tryz.prog 13 #[.agg (msgC m).toArray] W fun E w' => E = .returned (.bool false) ∧ Hid (Below W.heap.size W w'))) :
    Calls Tryz.prog 19 #[.agg (msgC m).toArray] w fun E w' => E = .returned (.bool false) ∧ Hid (Below w.heap.size w w') := by
  have HI : Hid ((Tryz.prog.info? 34).map (·.size) = some (msgC m).length) := Lib.hid (by rw [msgC_length hm]; exact Tryz.is34)
  have HL : Hid (RqAt w.heap.size w (msgC m) (w.alloc (.cells (msgC m).toArray 34))) := Lib.hid ⟨(Below.refl _ _).alloc (Nat.le_refl _) _, by simp, range_box w (msgC m) 34⟩
  clear hm
  go_enter Tryz.func19, Tryz.ntmps19
  go_wp2_with fail
  refine wp_region_any (by kernel_rfl) ?_
  have H3 := Lib.hid (HL.out.drewN 1)
  change wpAny _ _ _ _ _ _ _ ((w.alloc (.cells (msgC m).toArray 34)).drewN 1)
  generalize (w.alloc (.cells (msgC m).toArray 34)).drewN 1 = w3 at H3 ⊢
  clear HL
  refine wpAny_of_held (S := fun W => W.rangeAt w.heap.size 0 (msgC m)) _ _ _ _ ?_
  refine wpAnyH_take (i := 0) (oi := { dst := some 3, op := Op.load 34 (Operand.tmp 1), type := 34, pos := "message.go:61", after := #[], guard := none }) (v := .agg (msgC m).toArray) rfl (by kernel_rfl) (by kernel_rfl) (by kernel_rfl) (fun _ _ _ h => h) (Or.inl ⟨by kernel_rfl, fun W hSW => exec_load_mid 34 (.tmp 1) rfl w.heap.size 0 rfl (msgC m) _ (hSW) Tryz.underlying34 rfl (HI.out)⟩) (H3.out.src) ?_
  try simp only [Act.put, List.setIfInBounds_toArray, List.set_cons_zero, List.set_cons_succ]
  refine wpAnyH_ready (rs := [1]) (by kernel_rfl) (by simp) ?_
  refine AllReadyH.cons (o := { dst := some 4, op := Op.call { callee := Callee.value (Operand.func 13), args := #[Operand.tmp 3], argTypes := #[34] }, type := 4, pos := "message.go:61", after := #[{ on := 0, ground := Ground.data }], guard := none }) rfl (fun K' hK' => ?_) AllReadyH.nil
  go_simp
  go_at_call 13
  refine (HM.out _ H3.out.bel).mono ?_
  rintro E w4 ⟨rfl, hb4⟩
  have H4 := Lib.hid (H3.out.next (Nat.le_refl _) hb4.out)
  refine hK'.out _ _ H4.out.src (fun _ => ?_)
  clear hK' K'
  try simp only [Act.put, List.setIfInBounds_toArray, List.set_cons_zero, List.set_cons_succ]
  refine wpAnyH_take (i := 2) (oi := { dst := some 5, op := Op.move (Operand.tmp 4), type := 4, pos := "message.go:61", after := #[{ on := 1, ground := Ground.data }, { on := 1, ground := Ground.chain }], guard := none }) (v := .bool false) rfl (by kernel_rfl) (by kernel_rfl) (by kernel_rfl) (fun _ _ _ h => h) (Or.inl ⟨by kernel_rfl, fun W hSW => by go_simp⟩) (H4.out.src) ?_
  try simp only [Act.put, List.setIfInBounds_toArray, List.set_cons_zero, List.set_cons_succ]
  refine wpAnyH_take (i := 3) (oi := { dst := some 6, op := Op.fieldAddr 34 (Operand.tmp 1) 0, type := 0, pos := "message.go:61", after := #[{ on := 2, ground := Ground.guard }], guard := some (2, true) }) (v := undef) rfl (by kernel_rfl) (by kernel_rfl) (by kernel_rfl) (fun _ _ _ h => h) (Or.inr ⟨by kernel_rfl, rfl⟩) (H4.out.src) ?_
  try simp only [Act.put, List.setIfInBounds_toArray, List.set_cons_zero, List.set_cons_succ]
  refine wpAnyH_take (i := 4) (oi := { dst := some 7, op := Op.load 3 (Operand.tmp 6), type := 3, pos := "message.go:61", after := #[{ on := 3, ground := Ground.data }, { on := 2, ground := Ground.guard }], guard := some (2, true) }) (v := undef) rfl (by kernel_rfl) (by kernel_rfl) (by kernel_rfl) (fun _ _ _ h => h) (Or.inr ⟨by kernel_rfl, rfl⟩) (H4.out.src) ?_
  try simp only [Act.put, List.setIfInBounds_toArray, List.set_cons_zero, List.set_cons_succ]
  refine wpAnyH_take (i := 5) (oi := { dst := some 8, op := Op.fieldAddr 34 (Operand.tmp 1) 1, type := 0, pos := "message.go:61", after := #[{ on := 2, ground := Ground.guard }], guard := some (2, true) }) (v := undef) rfl (by kernel_rfl) (by kernel_rfl) (by kernel_rfl) (fun _ _ _ h => h) (Or.inr ⟨by kernel_rfl, rfl⟩) (H4.out.src) ?_
  try simp only [Act.put, List.setIfInBounds_toArray, List.set_cons_zero, List.set_cons_succ]
  refine wpAnyH_take (i := 6) (oi := { dst := some 9, op := Op.load 22 (Operand.tmp 8), type := 22, pos := "message.go:61", after := #[{ on := 5, ground := Ground.data }, { on := 2, ground := Ground.guard }], guard := some (2, true) }) (v := undef) rfl (by kernel_rfl) (by kernel_rfl) (by kernel_rfl) (fun _ _ _ h => h) (Or.inr ⟨by kernel_rfl, rfl⟩) (H4.out.src) ?_
  try simp only [Act.put, List.setIfInBounds_toArray, List.set_cons_zero, List.set_cons_succ]
  refine wpAnyH_take (i := 7) (oi := { dst := some 10, op := Op.load 34 (Operand.tmp 1), type := 34, pos := "message.go:61", after := #[{ on := 2, ground := Ground.guard }], guard := some (2, true) }) (v := undef) rfl (by kernel_rfl) (by kernel_rfl) (by kernel_rfl) (fun _ _ _ h => h) (Or.inr ⟨by kernel_rfl, rfl⟩) (H4.out.src) ?_
  try simp only [Act.put, List.setIfInBounds_toArray, List.set_cons_zero, List.set_cons_succ]
  refine wpAnyH_take (i := 8) (oi := { dst := some 11, op := Op.call { callee := Callee.value (Operand.func 37), args := #[Operand.tmp 10], argTypes := #[34] }, type := 38, pos := "message.go:61", after := #[{ on := 7, ground := Ground.data }, { on := 2, ground := Ground.chain }, { on := 2, ground := Ground.guard }], guard := some (2, true) }) (v := undef) rfl (by kernel_rfl) (by kernel_rfl) (by kernel_rfl) (fun _ _ _ h => h) (Or.inr ⟨by kernel_rfl, rfl⟩) (H4.out.src) ?_
  try simp only [Act.put, List.setIfInBounds_toArray, List.set_cons_zero, List.set_cons_succ]
  refine wpAnyH_take (i := 9) (oi := { dst := some 12, op := Op.fieldAddr 34 (Operand.tmp 1) 4, type := 0, pos := "message.go:61", after := #[{ on := 2, ground := Ground.guard }], guard := some (2, true) }) (v := undef) rfl (by kernel_rfl) (by kernel_rfl) (by kernel_rfl) (fun _ _ _ h => h) (Or.inr ⟨by kernel_rfl, rfl⟩) (H4.out.src) ?_
  try simp only [Act.put, List.setIfInBounds_toArray, List.set_cons_zero, List.set_cons_succ]
  refine wpAnyH_take (i := 10) (oi := { dst := some 13, op := Op.load 27 (Operand.tmp 12), type := 27, pos := "message.go:61", after := #[{ on := 9, ground := Ground.data }, { on := 2, ground := Ground.guard }], guard := some (2, true) }) (v := undef) rfl (by kernel_rfl) (by kernel_rfl) (by kernel_rfl) (fun _ _ _ h => h) (Or.inr ⟨by kernel_rfl, rfl⟩) (H4.out.src) ?_
  try simp only [Act.put, List.setIfInBounds_toArray, List.set_cons_zero, List.set_cons_succ]
  refine wpAnyH_take (i := 11) (oi := { dst := some 14, op := Op.call { callee := Callee.value (Operand.func 41), args := #[Operand.tmp 7, Operand.tmp 9, Operand.tmp 11, Operand.tmp 13], argTypes := #[3, 22, 38, 27] }, type := 4, pos := "message.go:61", after := #[{ on := 4, ground := Ground.data }, { on := 6, ground := Ground.data }, { on := 8, ground := Ground.data }, { on := 10, ground := Ground.data }, { on := 8, ground := Ground.chain }, { on := 2, ground := Ground.guard }], guard := some (2, true) }) (v := undef) rfl (by kernel_rfl) (by kernel_rfl) (by kernel_rfl) (fun _ _ _ h => h) (Or.inr ⟨by kernel_rfl, rfl⟩) (H4.out.src) ?_
  try simp only [Act.put, List.setIfInBounds_toArray, List.set_cons_zero, List.set_cons_succ]
  refine wpAnyH_take (i := 12) (oi := { dst := some 15, op := Op.pick (Operand.tmp 5) (Operand.tmp 14) (Operand.const (Value.bool false)), type := 4, pos := "message.go:61", after := #[{ on := 2, ground := Ground.data }, { on := 11, ground := Ground.data }], guard := none }) (v := .bool false) rfl (by kernel_rfl) (by kernel_rfl) (by kernel_rfl) (fun _ _ _ h => h) (Or.inl ⟨by kernel_rfl, fun W hSW => by go_simp⟩) (H4.out.src) ?_
  try simp only [Act.put, List.setIfInBounds_toArray, List.set_cons_zero, List.set_cons_succ]
  refine wpAnyH_take (i := 13) (oi := { dst := some 2, op := Op.assign (Operand.tmp 15), type := 4, pos := "message.go:61", after := #[{ on := 12, ground := Ground.data }, { on := 11, ground := Ground.chain }, { on := 0, ground := Ground.phase }, { on := 1, ground := Ground.phase }, { on := 2, ground := Ground.phase }, { on := 3, ground := Ground.phase }, { on := 4, ground := Ground.phase }, { on := 5, ground := Ground.phase }, { on := 6, ground := Ground.phase }, { on := 7, ground := Ground.phase }, { on := 8, ground := Ground.phase }, { on := 9, ground := Ground.phase }, { on := 10, ground := Ground.phase }, { on := 11, ground := Ground.phase }, { on := 12, ground := Ground.phase }], guard := none }) (v := .bool false) rfl (by kernel_rfl) (by kernel_rfl) (by kernel_rfl) (fun _ _ _ h => h) (Or.inl ⟨by kernel_rfl, fun W hSW => by go_simp⟩) (H4.out.src) ?_
  try simp only [Act.put, List.setIfInBounds_toArray, List.set_cons_zero, List.set_cons_succ]
  refine wpAnyH_done (by kernel_rfl) ?_ _
  go_wp2_with fail
  go_ret
  exact ⟨rfl, Lib.hid H4.out.bel⟩
/-- Is its tag the one that it must have? -/
def MMsg.right (m : MMsg) : Prop := m.may ∧ m.tag = numTag m.origin m.number (msgB m)
open Classical in
theorem right_ms (m : MMsg) (w : World) (hm : m.Wf) (hq : Prs w m.body.qa m.body.qs) (hn : m.body.qs.length ≤ 140737488355328) (hk : KIs w) (h0 : 0 < w.heap.size) :
    Calls Tryz.prog 19 #[.agg (msgC m).toArray] w fun E w' => E = .returned (.bool (decide m.right)) ∧ Hid (Below w.heap.size w w') := by
  by_cases hmay : m.may
  · have hc : ∀ (W : World) (A : Option Addr) (n c : Nat), Below w.heap.size w W → Ow 0 W A n c (msgB m) → Calls Tryz.prog 41 #[.int .i64 m.origin, .int .u64 (m.number : Int), .slice A n c, .agg (u8s m.tag).toArray] W fun E w' => E = .returned (.bool (decide (m.tag = numTag m.origin m.number (msgB m)))) ∧ Hid (Below W.heap.size W w') := by
      intro W A n c hb ho
      have hl := ho.len
      subst hl
      have hlen := msgB_len hm hmay
      have hr : Oct.Rd W A (msgB m).length (msgB m) := ⟨ho.rd.1, fun hn => let ⟨b, o, e, hb, _, hc⟩ := ho.rd.2 hn; ⟨b, o, e, hb, hc⟩⟩
      refine (check_us m.origin m.number hr ho.2 (by omega) hm.2.2 (hk.below hb h0) (Nat.lt_of_lt_of_le h0 hb.size)).mono fun E w' hE => ⟨hE.1.trans (ret_bool ?_), hE.2⟩
      have h1 : isRep m.origin = true := hmay.1
      have h2 : mayN m.number (msgB m).length = true := by
        have := hmay.2.1.1
        simp only [isNum, decide_eq_true_eq] at this
        simp only [mayN, decide_eq_true_eq]
        omega
      rw [chk, h1, h2, Bool.true_and, Bool.true_and]
    refine (right_by m w hm (decide m.may) _ (Lib.hid fun W h => may_ms m W hm (hq.below h) hn) (Lib.hid fun hz W h => tagged_ms m W hm (hq.below h) (of_decide_eq_true hz)) (Lib.hid hc)).mono fun E w' hE => ⟨hE.1.trans (ret_bool ?_), hE.2⟩
    rw [Bool.eq_iff_iff, decide_eq_true_iff]
    simp only [MMsg.right, Bool.and_eq_true, decide_eq_true_eq]
  · have hne : ¬ m.right := fun h => hmay h.1
    have hx : ∀ (W : World), Below w.heap.size w W → Calls Tryz.prog 13 #[.agg (msgC m).toArray] W fun E w' => E = .returned (.bool false) ∧ Hid (Below W.heap.size W w') := fun W h => (may_ms m W hm (hq.below h) hn).mono fun E w' hE => ⟨hE.1.trans (ret_bool (decide_eq_false hmay)), hE.2⟩
    refine (right_no m w hm (Lib.hid hx)).mono fun E w' hE => ⟨hE.1.trans (ret_bool (decide_eq_false hne).symm), hE.2⟩
end Go.Proofs.YtghjogneogkpoaaGreatDoor.Sh
