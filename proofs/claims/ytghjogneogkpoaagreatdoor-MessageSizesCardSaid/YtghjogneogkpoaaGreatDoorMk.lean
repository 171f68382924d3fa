/-
  What is proved: whether a message's number, and what its maker knew, may be (mayNumber); whether a message may be (May). Conditions as stated.
-/
import Derived.Test.YtghjogneogkpoaaGreatDoorMj
namespace Go.Proofs.YtghjogneogkpoaaGreatDoor.Sh
open Go.RowKit
set_option maxRecDepth 100000

set_option maxHeartbeats 4000000 in
theorem num_0 (m : MMsg) (i d : Nat) (w : World) (hm : m.Wf) (ho : m.origin = (i : Int) + 1) (hi : i < 11) (hd : m.deps[i]? = some d) (hn : isNum m.number = false) :
    Calls Tryz.prog 34 #[.agg (msgC m).toArray] w fun E w' => E = .returned (.bool (false)) ∧ Hid (Below w.heap.size w w') := by
  have HM := Lib.hid hm
  have HN := Lib.hid (fun W => isNumber_ms m.number W)
  rw [hn] at HN
  have HX := Lib.hid (fun b o W h => max_ms m.deps b o W hm.1 h)
  have HD : Hid ((u64s m.deps)[i]? = some (.int .u64 (d : Int))) := Lib.hid (by simp [u64s, hd])
  have HI : Hid (IntKind.i64.wrap (m.origin - 1) = (i : Int) ∧ i < 11) := Lib.hid ⟨by rw [IntKind.wrap_i64]; omega, hi⟩
  clear hm ho hi hd hn
  go_enter Tryz.func34, Tryz.ntmps34
  go_wp2_with fail
  refine wp_region_any (by kernel_rfl) ?_
  change wpAny _ _ _ _ _ _ _ ((w.alloc (.cells (msgC m).toArray 34)).drewN 1)
  have HQ : Hid (MsgLies ((w.alloc (.cells (msgC m).toArray 34)).drewN 1) w.heap.size m ∧ Below w.heap.size w ((w.alloc (.cells (msgC m).toArray 34)).drewN 1) ∧ w.heap.size < ((w.alloc (.cells (msgC m).toArray 34)).drewN 1).heap.size) := Lib.hid ⟨msg_lies (range_box w (msgC m) 34) HM.out, below_drewN ((Below.refl _ _).alloc (Nat.le_refl _) _) 1, by simp⟩
  generalize (w.alloc (.cells (msgC m).toArray 34)).drewN 1 = w3 at HQ ⊢
  refine wpAny_of_held (S := fun W => Below w3.heap.size w3 W) _ _ _ _ ?_
  refine wpAnyH_take (i := 0) (oi := { dst := some 3, op := Op.fieldAddr 34 (Operand.tmp 1) 1, type := 0, pos := "message.go:96", after := #[], guard := none }) (v := .pointer (some ⟨w.heap.size, 1, none⟩)) rfl (by kernel_rfl) (by kernel_rfl) (by kernel_rfl) (fun _ _ _ h => h) (Or.inl ⟨by kernel_rfl, fun W hSW => by go_simp⟩) (Below.refl _ _) ?_
  try simp only [Act.put, List.setIfInBounds_toArray, List.set_cons_zero, List.set_cons_succ]
  refine wpAnyH_take (i := 1) (oi := { dst := some 4, op := Op.load 22 (Operand.tmp 3), type := 22, pos := "message.go:96", after := #[{ on := 0, ground := Ground.data }], guard := none }) (v := .int .u64 (m.number : Int)) rfl (by kernel_rfl) (by kernel_rfl) (by kernel_rfl) (fun _ _ _ h => h) (Or.inl ⟨by kernel_rfl, fun W hSW => by have hv := (hSW.cell (p := ⟨w.heap.size, 1, none⟩) HQ.out.2.2).trans HQ.out.1.number; go_simp⟩) (Below.refl _ _) ?_
  try simp only [Act.put, List.setIfInBounds_toArray, List.set_cons_zero, List.set_cons_succ]
  refine wpAnyH_ready (rs := [2]) (by kernel_rfl) (by simp) ?_
  refine AllReadyH.cons (o := { dst := some 5, op := Op.call { callee := Callee.value (Operand.func 60), args := #[Operand.tmp 4], argTypes := #[22] }, type := 4, pos := "message.go:96", after := #[{ on := 1, ground := Ground.data }], guard := none }) rfl (fun K' hK' => ?_) AllReadyH.nil
  go_simp
  go_at_call 60
  refine (HN.out w3).mono ?_
  rintro E w4 ⟨rfl, rfl⟩
  refine hK'.out _ _ (Below.refl _ _) (fun _ => ?_)
  clear hK' K'
  try simp only [Act.put, List.setIfInBounds_toArray, List.set_cons_zero, List.set_cons_succ]
  refine wpAnyH_take (i := 3) (oi := { dst := some 6, op := Op.move (Operand.tmp 5), type := 4, pos := "message.go:96", after := #[{ on := 2, ground := Ground.data }, { on := 2, ground := Ground.chain }], guard := none }) (v := .bool false) rfl (by kernel_rfl) (by kernel_rfl) (by kernel_rfl) (fun _ _ _ h => h) (Or.inl ⟨by kernel_rfl, fun W hSW => by go_simp⟩) (Below.refl _ _) ?_
  try simp only [Act.put, List.setIfInBounds_toArray, List.set_cons_zero, List.set_cons_succ]
  refine wpAnyH_take (i := 4) (oi := { dst := some 7, op := Op.fieldAddr 34 (Operand.tmp 1) 0, type := 0, pos := "message.go:96", after := #[{ on := 3, ground := Ground.guard }], guard := some (3, true) }) (v := undef) rfl (by kernel_rfl) (by kernel_rfl) (by kernel_rfl) (fun _ _ _ h => h) (Or.inr ⟨by kernel_rfl, rfl⟩) (Below.refl _ _) ?_
  try simp only [Act.put, List.setIfInBounds_toArray, List.set_cons_zero, List.set_cons_succ]
  refine wpAnyH_take (i := 5) (oi := { dst := some 8, op := Op.load 3 (Operand.tmp 7), type := 3, pos := "message.go:96", after := #[{ on := 4, ground := Ground.data }, { on := 3, ground := Ground.guard }], guard := some (3, true) }) (v := undef) rfl (by kernel_rfl) (by kernel_rfl) (by kernel_rfl) (fun _ _ _ h => h) (Or.inr ⟨by kernel_rfl, rfl⟩) (Below.refl _ _) ?_
  try simp only [Act.put, List.setIfInBounds_toArray, List.set_cons_zero, List.set_cons_succ]
  refine wpAnyH_take (i := 6) (oi := { dst := some 9, op := Op.binOp BinOp.sub 3 (Operand.tmp 8) (Operand.const (Value.int IntKind.i64 1)) 3, type := 3, pos := "message.go:96", after := #[{ on := 5, ground := Ground.data }, { on := 3, ground := Ground.guard }], guard := some (3, true) }) (v := undef) rfl (by kernel_rfl) (by kernel_rfl) (by kernel_rfl) (fun _ _ _ h => h) (Or.inr ⟨by kernel_rfl, rfl⟩) (Below.refl _ _) ?_
  try simp only [Act.put, List.setIfInBounds_toArray, List.set_cons_zero, List.set_cons_succ]
  refine wpAnyH_take (i := 7) (oi := { dst := some 10, op := Op.fieldAddr 34 (Operand.tmp 1) 2, type := 0, pos := "message.go:96", after := #[{ on := 3, ground := Ground.guard }], guard := some (3, true) }) (v := undef) rfl (by kernel_rfl) (by kernel_rfl) (by kernel_rfl) (fun _ _ _ h => h) (Or.inr ⟨by kernel_rfl, rfl⟩) (Below.refl _ _) ?_
  try simp only [Act.put, List.setIfInBounds_toArray, List.set_cons_zero, List.set_cons_succ]
  refine wpAnyH_take (i := 8) (oi := { dst := some 11, op := Op.indexAddr 24 (Operand.tmp 10) (Operand.tmp 9), type := 0, pos := "message.go:96", after := #[{ on := 7, ground := Ground.data }, { on := 6, ground := Ground.data }, { on := 3, ground := Ground.guard }], guard := some (3, true) }) (v := undef) rfl (by kernel_rfl) (by kernel_rfl) (by kernel_rfl) (fun _ _ _ h => h) (Or.inr ⟨by kernel_rfl, rfl⟩) (Below.refl _ _) ?_
  try simp only [Act.put, List.setIfInBounds_toArray, List.set_cons_zero, List.set_cons_succ]
  refine wpAnyH_take (i := 9) (oi := { dst := some 12, op := Op.load 22 (Operand.tmp 11), type := 22, pos := "message.go:96", after := #[{ on := 8, ground := Ground.data }, { on := 3, ground := Ground.guard }], guard := some (3, true) }) (v := undef) rfl (by kernel_rfl) (by kernel_rfl) (by kernel_rfl) (fun _ _ _ h => h) (Or.inr ⟨by kernel_rfl, rfl⟩) (Below.refl _ _) ?_
  try simp only [Act.put, List.setIfInBounds_toArray, List.set_cons_zero, List.set_cons_succ]
  refine wpAnyH_take (i := 10) (oi := { dst := some 13, op := Op.fieldAddr 34 (Operand.tmp 1) 1, type := 0, pos := "message.go:96", after := #[{ on := 3, ground := Ground.guard }], guard := some (3, true) }) (v := undef) rfl (by kernel_rfl) (by kernel_rfl) (by kernel_rfl) (fun _ _ _ h => h) (Or.inr ⟨by kernel_rfl, rfl⟩) (Below.refl _ _) ?_
  try simp only [Act.put, List.setIfInBounds_toArray, List.set_cons_zero, List.set_cons_succ]
  refine wpAnyH_take (i := 11) (oi := { dst := some 14, op := Op.load 22 (Operand.tmp 13), type := 22, pos := "message.go:96", after := #[{ on := 10, ground := Ground.data }, { on := 3, ground := Ground.guard }], guard := some (3, true) }) (v := undef) rfl (by kernel_rfl) (by kernel_rfl) (by kernel_rfl) (fun _ _ _ h => h) (Or.inr ⟨by kernel_rfl, rfl⟩) (Below.refl _ _) ?_
  try simp only [Act.put, List.setIfInBounds_toArray, List.set_cons_zero, List.set_cons_succ]
  refine wpAnyH_take (i := 12) (oi := { dst := some 15, op := Op.binOp BinOp.sub 22 (Operand.tmp 14) (Operand.const (Value.int IntKind.u64 1)) 22, type := 22, pos := "message.go:96", after := #[{ on := 11, ground := Ground.data }, { on := 3, ground := Ground.guard }], guard := some (3, true) }) (v := undef) rfl (by kernel_rfl) (by kernel_rfl) (by kernel_rfl) (fun _ _ _ h => h) (Or.inr ⟨by kernel_rfl, rfl⟩) (Below.refl _ _) ?_
  try simp only [Act.put, List.setIfInBounds_toArray, List.set_cons_zero, List.set_cons_succ]
  refine wpAnyH_take (i := 13) (oi := { dst := some 16, op := Op.binOp BinOp.eql 22 (Operand.tmp 12) (Operand.tmp 15) 22, type := 4, pos := "message.go:96", after := #[{ on := 9, ground := Ground.data }, { on := 12, ground := Ground.data }, { on := 3, ground := Ground.guard }], guard := some (3, true) }) (v := undef) rfl (by kernel_rfl) (by kernel_rfl) (by kernel_rfl) (fun _ _ _ h => h) (Or.inr ⟨by kernel_rfl, rfl⟩) (Below.refl _ _) ?_
  try simp only [Act.put, List.setIfInBounds_toArray, List.set_cons_zero, List.set_cons_succ]
  refine wpAnyH_take (i := 14) (oi := { dst := some 17, op := Op.pick (Operand.tmp 6) (Operand.tmp 16) (Operand.const (Value.bool false)), type := 4, pos := "message.go:96", after := #[{ on := 3, ground := Ground.data }, { on := 13, ground := Ground.data }], guard := none }) (v := .bool false) rfl (by kernel_rfl) (by kernel_rfl) (by kernel_rfl) (fun _ _ _ h => h) (Or.inl ⟨by kernel_rfl, fun W hSW => by go_simp⟩) (Below.refl _ _) ?_
  try simp only [Act.put, List.setIfInBounds_toArray, List.set_cons_zero, List.set_cons_succ]
  refine wpAnyH_take (i := 15) (oi := { dst := some 18, op := Op.move (Operand.tmp 17), type := 4, pos := "message.go:96", after := #[{ on := 14, ground := Ground.data }, { on := 3, ground := Ground.chain }], guard := none }) (v := .bool false) rfl (by kernel_rfl) (by kernel_rfl) (by kernel_rfl) (fun _ _ _ h => h) (Or.inl ⟨by kernel_rfl, fun W hSW => by go_simp⟩) (Below.refl _ _) ?_
  try simp only [Act.put, List.setIfInBounds_toArray, List.set_cons_zero, List.set_cons_succ]
  refine wpAnyH_take (i := 16) (oi := { dst := some 19, op := Op.fieldAddr 34 (Operand.tmp 1) 2, type := 0, pos := "message.go:96", after := #[{ on := 15, ground := Ground.guard }], guard := some (15, true) }) (v := undef) rfl (by kernel_rfl) (by kernel_rfl) (by kernel_rfl) (fun _ _ _ h => h) (Or.inr ⟨by kernel_rfl, rfl⟩) (Below.refl _ _) ?_
  try simp only [Act.put, List.setIfInBounds_toArray, List.set_cons_zero, List.set_cons_succ]
  refine wpAnyH_take (i := 17) (oi := { dst := some 20, op := Op.slice 24 (Operand.tmp 19) none none none, type := 81, pos := "message.go:96", after := #[{ on := 16, ground := Ground.data }, { on := 15, ground := Ground.guard }], guard := some (15, true) }) (v := undef) rfl (by kernel_rfl) (by kernel_rfl) (by kernel_rfl) (fun _ _ _ h => h) (Or.inr ⟨by kernel_rfl, rfl⟩) (Below.refl _ _) ?_
  try simp only [Act.put, List.setIfInBounds_toArray, List.set_cons_zero, List.set_cons_succ]
  refine wpAnyH_take (i := 18) (oi := { dst := some 21, op := Op.call { callee := Callee.value (Operand.func 61), args := #[Operand.tmp 20], argTypes := #[81] }, type := 22, pos := "message.go:96", after := #[{ on := 17, ground := Ground.data }, { on := 15, ground := Ground.chain }, { on := 15, ground := Ground.guard }], guard := some (15, true) }) (v := undef) rfl (by kernel_rfl) (by kernel_rfl) (by kernel_rfl) (fun _ _ _ h => h) (Or.inr ⟨by kernel_rfl, rfl⟩) (Below.refl _ _) ?_
  try simp only [Act.put, List.setIfInBounds_toArray, List.set_cons_zero, List.set_cons_succ]
  refine wpAnyH_take (i := 19) (oi := { dst := some 22, op := Op.binOp BinOp.leq 22 (Operand.tmp 21) (Operand.const (Value.int IntKind.u64 65536)) 22, type := 4, pos := "message.go:96", after := #[{ on := 18, ground := Ground.data }, { on := 15, ground := Ground.guard }], guard := some (15, true) }) (v := undef) rfl (by kernel_rfl) (by kernel_rfl) (by kernel_rfl) (fun _ _ _ h => h) (Or.inr ⟨by kernel_rfl, rfl⟩) (Below.refl _ _) ?_
  try simp only [Act.put, List.setIfInBounds_toArray, List.set_cons_zero, List.set_cons_succ]
  refine wpAnyH_take (i := 20) (oi := { dst := some 23, op := Op.pick (Operand.tmp 18) (Operand.tmp 22) (Operand.const (Value.bool false)), type := 4, pos := "message.go:96", after := #[{ on := 15, ground := Ground.data }, { on := 19, ground := Ground.data }], guard := none }) (v := .bool false) rfl (by kernel_rfl) (by kernel_rfl) (by kernel_rfl) (fun _ _ _ h => h) (Or.inl ⟨by kernel_rfl, fun W hSW => by go_simp⟩) (Below.refl _ _) ?_
  try simp only [Act.put, List.setIfInBounds_toArray, List.set_cons_zero, List.set_cons_succ]
  refine wpAnyH_take (i := 21) (oi := { dst := some 2, op := Op.assign (Operand.tmp 23), type := 4, pos := "message.go:96", after := #[{ on := 20, ground := Ground.data }, { on := 18, ground := Ground.chain }, { on := 0, ground := Ground.phase }, { on := 1, ground := Ground.phase }, { on := 2, ground := Ground.phase }, { on := 3, ground := Ground.phase }, { on := 4, ground := Ground.phase }, { on := 5, ground := Ground.phase }, { on := 6, ground := Ground.phase }, { on := 7, ground := Ground.phase }, { on := 8, ground := Ground.phase }, { on := 9, ground := Ground.phase }, { on := 10, ground := Ground.phase }, { on := 11, ground := Ground.phase }, { on := 12, ground := Ground.phase }, { on := 13, ground := Ground.phase }, { on := 14, ground := Ground.phase }, { on := 15, ground := Ground.phase }, { on := 16, ground := Ground.phase }, { on := 17, ground := Ground.phase }, { on := 18, ground := Ground.phase }, { on := 19, ground := Ground.phase }, { on := 20, ground := Ground.phase }], guard := none }) (v := .bool false) rfl (by kernel_rfl) (by kernel_rfl) (by kernel_rfl) (fun _ _ _ h => h) (Or.inl ⟨by kernel_rfl, fun W hSW => by go_simp⟩) (Below.refl _ _) ?_
  try simp only [Act.put, List.setIfInBounds_toArray, List.set_cons_zero, List.set_cons_succ]
  refine wpAnyH_done (by kernel_rfl) ?_ _
  go_wp2_with fail
  go_ret
  exact ⟨rfl, Lib.hid HQ.out.2.1⟩
set_option maxHeartbeats 4000000 in
theorem num_1 (m : MMsg) (i d : Nat) (w : World) (hm : m.Wf) (ho : m.origin = (i : Int) + 1) (hi : i < 11) (hd : m.deps[i]? = some d) (hn : isNum m.number = true) (he : ¬ d = m.number - 1) :
    Calls Tryz.prog 34 #[.agg (msgC m).toArray] w fun E w' => E = .returned (.bool (false)) ∧ Hid (Below w.heap.size w w') := by
  have HM := Lib.hid hm
  have HN := Lib.hid (fun W => isNumber_ms m.number W)
  rw [hn] at HN
  have HX := Lib.hid (fun b o W h => max_ms m.deps b o W hm.1 h)
  have HD : Hid ((u64s m.deps)[i]? = some (.int .u64 (d : Int))) := Lib.hid (by simp [u64s, hd])
  have HI : Hid (IntKind.i64.wrap (m.origin - 1) = (i : Int) ∧ i < 11) := Lib.hid ⟨by rw [IntKind.wrap_i64]; omega, hi⟩
  have HU : Hid (IntKind.u64.wrap ((m.number : Int) - 1) = ((m.number - 1 : Nat) : Int)) := Lib.hid (by simp only [isNum, decide_eq_true_eq] at hn; unfold IntKind.wrap; simp [IntKind.bits, IntKind.signed]; omega)
  have HE : ¬ ((d : Int) = ((m.number - 1 : Nat) : Int)) := by omega
  clear hm ho hi hd hn he
  go_enter Tryz.func34, Tryz.ntmps34
  go_wp2_with fail
  refine wp_region_any (by kernel_rfl) ?_
  change wpAny _ _ _ _ _ _ _ ((w.alloc (.cells (msgC m).toArray 34)).drewN 1)
  have HQ : Hid (MsgLies ((w.alloc (.cells (msgC m).toArray 34)).drewN 1) w.heap.size m ∧ Below w.heap.size w ((w.alloc (.cells (msgC m).toArray 34)).drewN 1) ∧ w.heap.size < ((w.alloc (.cells (msgC m).toArray 34)).drewN 1).heap.size) := Lib.hid ⟨msg_lies (range_box w (msgC m) 34) HM.out, below_drewN ((Below.refl _ _).alloc (Nat.le_refl _) _) 1, by simp⟩
  generalize (w.alloc (.cells (msgC m).toArray 34)).drewN 1 = w3 at HQ ⊢
  refine wpAny_of_held (S := fun W => Below w3.heap.size w3 W) _ _ _ _ ?_
  refine wpAnyH_take (i := 0) (oi := { dst := some 3, op := Op.fieldAddr 34 (Operand.tmp 1) 1, type := 0, pos := "message.go:96", after := #[], guard := none }) (v := .pointer (some ⟨w.heap.size, 1, none⟩)) rfl (by kernel_rfl) (by kernel_rfl) (by kernel_rfl) (fun _ _ _ h => h) (Or.inl ⟨by kernel_rfl, fun W hSW => by go_simp⟩) (Below.refl _ _) ?_
  try simp only [Act.put, List.setIfInBounds_toArray, List.set_cons_zero, List.set_cons_succ]
  refine wpAnyH_take (i := 1) (oi := { dst := some 4, op := Op.load 22 (Operand.tmp 3), type := 22, pos := "message.go:96", after := #[{ on := 0, ground := Ground.data }], guard := none }) (v := .int .u64 (m.number : Int)) rfl (by kernel_rfl) (by kernel_rfl) (by kernel_rfl) (fun _ _ _ h => h) (Or.inl ⟨by kernel_rfl, fun W hSW => by have hv := (hSW.cell (p := ⟨w.heap.size, 1, none⟩) HQ.out.2.2).trans HQ.out.1.number; go_simp⟩) (Below.refl _ _) ?_
  try simp only [Act.put, List.setIfInBounds_toArray, List.set_cons_zero, List.set_cons_succ]
  refine wpAnyH_ready (rs := [2]) (by kernel_rfl) (by simp) ?_
  refine AllReadyH.cons (o := { dst := some 5, op := Op.call { callee := Callee.value (Operand.func 60), args := #[Operand.tmp 4], argTypes := #[22] }, type := 4, pos := "message.go:96", after := #[{ on := 1, ground := Ground.data }], guard := none }) rfl (fun K' hK' => ?_) AllReadyH.nil
  go_simp
  go_at_call 60
  refine (HN.out w3).mono ?_
  rintro E w4 ⟨rfl, rfl⟩
  refine hK'.out _ _ (Below.refl _ _) (fun _ => ?_)
  clear hK' K'
  try simp only [Act.put, List.setIfInBounds_toArray, List.set_cons_zero, List.set_cons_succ]
  refine wpAnyH_take (i := 3) (oi := { dst := some 6, op := Op.move (Operand.tmp 5), type := 4, pos := "message.go:96", after := #[{ on := 2, ground := Ground.data }, { on := 2, ground := Ground.chain }], guard := none }) (v := .bool true) rfl (by kernel_rfl) (by kernel_rfl) (by kernel_rfl) (fun _ _ _ h => h) (Or.inl ⟨by kernel_rfl, fun W hSW => by go_simp⟩) (Below.refl _ _) ?_
  try simp only [Act.put, List.setIfInBounds_toArray, List.set_cons_zero, List.set_cons_succ]
  refine wpAnyH_take (i := 4) (oi := { dst := some 7, op := Op.fieldAddr 34 (Operand.tmp 1) 0, type := 0, pos := "message.go:96", after := #[{ on := 3, ground := Ground.guard }], guard := some (3, true) }) (v := .pointer (some ⟨w.heap.size, 0, none⟩)) rfl (by kernel_rfl) (by kernel_rfl) (by kernel_rfl) (fun _ _ _ h => h) (Or.inl ⟨by kernel_rfl, fun W hSW => by go_simp⟩) (Below.refl _ _) ?_
  try simp only [Act.put, List.setIfInBounds_toArray, List.set_cons_zero, List.set_cons_succ]
  refine wpAnyH_take (i := 5) (oi := { dst := some 8, op := Op.load 3 (Operand.tmp 7), type := 3, pos := "message.go:96", after := #[{ on := 4, ground := Ground.data }, { on := 3, ground := Ground.guard }], guard := some (3, true) }) (v := .int .i64 m.origin) rfl (by kernel_rfl) (by kernel_rfl) (by kernel_rfl) (fun _ _ _ h => h) (Or.inl ⟨by kernel_rfl, fun W hSW => by have hv := (hSW.cell (p := ⟨w.heap.size, 0, none⟩) HQ.out.2.2).trans HQ.out.1.origin; go_simp⟩) (Below.refl _ _) ?_
  try simp only [Act.put, List.setIfInBounds_toArray, List.set_cons_zero, List.set_cons_succ]
  refine wpAnyH_take (i := 6) (oi := { dst := some 9, op := Op.binOp BinOp.sub 3 (Operand.tmp 8) (Operand.const (Value.int IntKind.i64 1)) 3, type := 3, pos := "message.go:96", after := #[{ on := 5, ground := Ground.data }, { on := 3, ground := Ground.guard }], guard := some (3, true) }) (v := .int .i64 (i : Int)) rfl (by kernel_rfl) (by kernel_rfl) (by kernel_rfl) (fun _ _ _ h => h) (Or.inl ⟨by kernel_rfl, fun W hSW => by have hv := HI.out.1; go_simp⟩) (Below.refl _ _) ?_
  try simp only [Act.put, List.setIfInBounds_toArray, List.set_cons_zero, List.set_cons_succ]
  refine wpAnyH_take (i := 7) (oi := { dst := some 10, op := Op.fieldAddr 34 (Operand.tmp 1) 2, type := 0, pos := "message.go:96", after := #[{ on := 3, ground := Ground.guard }], guard := some (3, true) }) (v := .pointer (some ⟨w.heap.size, 2, none⟩)) rfl (by kernel_rfl) (by kernel_rfl) (by kernel_rfl) (fun _ _ _ h => h) (Or.inl ⟨by kernel_rfl, fun W hSW => by go_simp⟩) (Below.refl _ _) ?_
  try simp only [Act.put, List.setIfInBounds_toArray, List.set_cons_zero, List.set_cons_succ]
  refine wpAnyH_take (i := 8) (oi := { dst := some 11, op := Op.indexAddr 24 (Operand.tmp 10) (Operand.tmp 9), type := 0, pos := "message.go:96", after := #[{ on := 7, ground := Ground.data }, { on := 6, ground := Ground.data }, { on := 3, ground := Ground.guard }], guard := some (3, true) }) (v := .pointer (some ⟨w.heap.size, 2 + i, none⟩)) rfl (by kernel_rfl) (by kernel_rfl) (by kernel_rfl) (fun _ _ _ h => h) (Or.inl ⟨by kernel_rfl, fun W hSW => by have hv : ¬ (11 ≤ (i : Int)) := (by have := HI.out.2; omega); go_simp⟩) (Below.refl _ _) ?_
  try simp only [Act.put, List.setIfInBounds_toArray, List.set_cons_zero, List.set_cons_succ]
  refine wpAnyH_take (i := 9) (oi := { dst := some 12, op := Op.load 22 (Operand.tmp 11), type := 22, pos := "message.go:96", after := #[{ on := 8, ground := Ground.data }, { on := 3, ground := Ground.guard }], guard := some (3, true) }) (v := .int .u64 (d : Int)) rfl (by kernel_rfl) (by kernel_rfl) (by kernel_rfl) (fun _ _ _ h => h) (Or.inl ⟨by kernel_rfl, fun W hSW => by have hv := (hSW.cell (p := ⟨w.heap.size, 2 + i, none⟩) HQ.out.2.2).trans (HQ.out.1.deps i _ HD.out); go_simp⟩) (Below.refl _ _) ?_
  try simp only [Act.put, List.setIfInBounds_toArray, List.set_cons_zero, List.set_cons_succ]
  refine wpAnyH_take (i := 10) (oi := { dst := some 13, op := Op.fieldAddr 34 (Operand.tmp 1) 1, type := 0, pos := "message.go:96", after := #[{ on := 3, ground := Ground.guard }], guard := some (3, true) }) (v := .pointer (some ⟨w.heap.size, 1, none⟩)) rfl (by kernel_rfl) (by kernel_rfl) (by kernel_rfl) (fun _ _ _ h => h) (Or.inl ⟨by kernel_rfl, fun W hSW => by go_simp⟩) (Below.refl _ _) ?_
  try simp only [Act.put, List.setIfInBounds_toArray, List.set_cons_zero, List.set_cons_succ]
  refine wpAnyH_take (i := 11) (oi := { dst := some 14, op := Op.load 22 (Operand.tmp 13), type := 22, pos := "message.go:96", after := #[{ on := 10, ground := Ground.data }, { on := 3, ground := Ground.guard }], guard := some (3, true) }) (v := .int .u64 (m.number : Int)) rfl (by kernel_rfl) (by kernel_rfl) (by kernel_rfl) (fun _ _ _ h => h) (Or.inl ⟨by kernel_rfl, fun W hSW => by have hv := (hSW.cell (p := ⟨w.heap.size, 1, none⟩) HQ.out.2.2).trans HQ.out.1.number; go_simp⟩) (Below.refl _ _) ?_
  try simp only [Act.put, List.setIfInBounds_toArray, List.set_cons_zero, List.set_cons_succ]
  refine wpAnyH_take (i := 12) (oi := { dst := some 15, op := Op.binOp BinOp.sub 22 (Operand.tmp 14) (Operand.const (Value.int IntKind.u64 1)) 22, type := 22, pos := "message.go:96", after := #[{ on := 11, ground := Ground.data }, { on := 3, ground := Ground.guard }], guard := some (3, true) }) (v := .int .u64 ((m.number - 1 : Nat) : Int)) rfl (by kernel_rfl) (by kernel_rfl) (by kernel_rfl) (fun _ _ _ h => h) (Or.inl ⟨by kernel_rfl, fun W hSW => by have hv := HU.out; go_simp⟩) (Below.refl _ _) ?_
  try simp only [Act.put, List.setIfInBounds_toArray, List.set_cons_zero, List.set_cons_succ]
  refine wpAnyH_take (i := 13) (oi := { dst := some 16, op := Op.binOp BinOp.eql 22 (Operand.tmp 12) (Operand.tmp 15) 22, type := 4, pos := "message.go:96", after := #[{ on := 9, ground := Ground.data }, { on := 12, ground := Ground.data }, { on := 3, ground := Ground.guard }], guard := some (3, true) }) (v := .bool false) rfl (by kernel_rfl) (by kernel_rfl) (by kernel_rfl) (fun _ _ _ h => h) (Or.inl ⟨by kernel_rfl, fun W hSW => by have hv := HE; go_simp⟩) (Below.refl _ _) ?_
  try simp only [Act.put, List.setIfInBounds_toArray, List.set_cons_zero, List.set_cons_succ]
  refine wpAnyH_take (i := 14) (oi := { dst := some 17, op := Op.pick (Operand.tmp 6) (Operand.tmp 16) (Operand.const (Value.bool false)), type := 4, pos := "message.go:96", after := #[{ on := 3, ground := Ground.data }, { on := 13, ground := Ground.data }], guard := none }) (v := .bool false) rfl (by kernel_rfl) (by kernel_rfl) (by kernel_rfl) (fun _ _ _ h => h) (Or.inl ⟨by kernel_rfl, fun W hSW => by go_simp⟩) (Below.refl _ _) ?_
  try simp only [Act.put, List.setIfInBounds_toArray, List.set_cons_zero, List.set_cons_succ]
  refine wpAnyH_take (i := 15) (oi := { dst := some 18, op := Op.move (Operand.tmp 17), type := 4, pos := "message.go:96", after := #[{ on := 14, ground := Ground.data }, { on := 3, ground := Ground.chain }], guard := none }) (v := .bool false) rfl (by kernel_rfl) (by kernel_rfl) (by kernel_rfl) (fun _ _ _ h => h) (Or.inl ⟨by kernel_rfl, fun W hSW => by go_simp⟩) (Below.refl _ _) ?_
  try simp only [Act.put, List.setIfInBounds_toArray, List.set_cons_zero, List.set_cons_succ]
  refine wpAnyH_take (i := 16) (oi := { dst := some 19, op := Op.fieldAddr 34 (Operand.tmp 1) 2, type := 0, pos := "message.go:96", after := #[{ on := 15, ground := Ground.guard }], guard := some (15, true) }) (v := undef) rfl (by kernel_rfl) (by kernel_rfl) (by kernel_rfl) (fun _ _ _ h => h) (Or.inr ⟨by kernel_rfl, rfl⟩) (Below.refl _ _) ?_
  try simp only [Act.put, List.setIfInBounds_toArray, List.set_cons_zero, List.set_cons_succ]
  refine wpAnyH_take (i := 17) (oi := { dst := some 20, op := Op.slice 24 (Operand.tmp 19) none none none, type := 81, pos := "message.go:96", after := #[{ on := 16, ground := Ground.data }, { on := 15, ground := Ground.guard }], guard := some (15, true) }) (v := undef) rfl (by kernel_rfl) (by kernel_rfl) (by kernel_rfl) (fun _ _ _ h => h) (Or.inr ⟨by kernel_rfl, rfl⟩) (Below.refl _ _) ?_
  try simp only [Act.put, List.setIfInBounds_toArray, List.set_cons_zero, List.set_cons_succ]
  refine wpAnyH_take (i := 18) (oi := { dst := some 21, op := Op.call { callee := Callee.value (Operand.func 61), args := #[Operand.tmp 20], argTypes := #[81] }, type := 22, pos := "message.go:96", after := #[{ on := 17, ground := Ground.data }, { on := 15, ground := Ground.chain }, { on := 15, ground := Ground.guard }], guard := some (15, true) }) (v := undef) rfl (by kernel_rfl) (by kernel_rfl) (by kernel_rfl) (fun _ _ _ h => h) (Or.inr ⟨by kernel_rfl, rfl⟩) (Below.refl _ _) ?_
  try simp only [Act.put, List.setIfInBounds_toArray, List.set_cons_zero, List.set_cons_succ]
  refine wpAnyH_take (i := 19) (oi := { dst := some 22, op := Op.binOp BinOp.leq 22 (Operand.tmp 21) (Operand.const (Value.int IntKind.u64 65536)) 22, type := 4, pos := "message.go:96", after := #[{ on := 18, ground := Ground.data }, { on := 15, ground := Ground.guard }], guard := some (15, true) }) (v := undef) rfl (by kernel_rfl) (by kernel_rfl) (by kernel_rfl) (fun _ _ _ h => h) (Or.inr ⟨by kernel_rfl, rfl⟩) (Below.refl _ _) ?_
  try simp only [Act.put, List.setIfInBounds_toArray, List.set_cons_zero, List.set_cons_succ]
  refine wpAnyH_take (i := 20) (oi := { dst := some 23, op := Op.pick (Operand.tmp 18) (Operand.tmp 22) (Operand.const (Value.bool false)), type := 4, pos := "message.go:96", after := #[{ on := 15, ground := Ground.data }, { on := 19, ground := Ground.data }], guard := none }) (v := .bool false) rfl (by kernel_rfl) (by kernel_rfl) (by kernel_rfl) (fun _ _ _ h => h) (Or.inl ⟨by kernel_rfl, fun W hSW => by go_simp⟩) (Below.refl _ _) ?_
  try simp only [Act.put, List.setIfInBounds_toArray, List.set_cons_zero, List.set_cons_succ]
  refine wpAnyH_take (i := 21) (oi := { dst := some 2, op := Op.assign (Operand.tmp 23), type := 4, pos := "message.go:96", after := #[{ on := 20, ground := Ground.data }, { on := 18, ground := Ground.chain }, { on := 0, ground := Ground.phase }, { on := 1, ground := Ground.phase }, { on := 2, ground := Ground.phase }, { on := 3, ground := Ground.phase }, { on := 4, ground := Ground.phase }, { on := 5, ground := Ground.phase }, { on := 6, ground := Ground.phase }, { on := 7, ground := Ground.phase }, { on := 8, ground := Ground.phase }, { on := 9, ground := Ground.phase }, { on := 10, ground := Ground.phase }, { on := 11, ground := Ground.phase }, { on := 12, ground := Ground.phase }, { on := 13, ground := Ground.phase }, { on := 14, ground := Ground.phase }, { on := 15, ground := Ground.phase }, { on := 16, ground := Ground.phase }, { on := 17, ground := Ground.phase }, { on := 18, ground := Ground.phase }, { on := 19, ground := Ground.phase }, { on := 20, ground := Ground.phase }], guard := none }) (v := .bool false) rfl (by kernel_rfl) (by kernel_rfl) (by kernel_rfl) (fun _ _ _ h => h) (Or.inl ⟨by kernel_rfl, fun W hSW => by go_simp⟩) (Below.refl _ _) ?_
  try simp only [Act.put, List.setIfInBounds_toArray, List.set_cons_zero, List.set_cons_succ]
  refine wpAnyH_done (by kernel_rfl) ?_ _
  go_wp2_with fail
  go_ret
  exact ⟨rfl, Lib.hid HQ.out.2.1⟩
set_option maxHeartbeats 4000000 in
theorem num_2 (m : MMsg) (i d : Nat) (w : World) (hm : m.Wf) (ho : m.origin = (i : Int) + 1) (hi : i < 11) (hd : m.deps[i]? = some d) (hn : isNum m.number = true) (he : d = m.number - 1) :
    Calls Tryz.prog 34 #[.agg (msgC m).toArray] w fun E w' => E = .returned (.bool (decide (maxTo m.deps 11 ≤ 65536))) ∧ Hid (Below w.heap.size w w') := by
  have HM := Lib.hid hm
  have HN := Lib.hid (fun W => isNumber_ms m.number W)
  rw [hn] at HN
  have HX := Lib.hid (fun b o W h => max_ms m.deps b o W hm.1 h)
  have HD : Hid ((u64s m.deps)[i]? = some (.int .u64 (d : Int))) := Lib.hid (by simp [u64s, hd])
  have HI : Hid (IntKind.i64.wrap (m.origin - 1) = (i : Int) ∧ i < 11) := Lib.hid ⟨by rw [IntKind.wrap_i64]; omega, hi⟩
  have HU : Hid (IntKind.u64.wrap ((m.number : Int) - 1) = ((m.number - 1 : Nat) : Int)) := Lib.hid (by simp only [isNum, decide_eq_true_eq] at hn; unfold IntKind.wrap; simp [IntKind.bits, IntKind.signed]; omega)
  have HE : ((d : Int) = ((m.number - 1 : Nat) : Int)) := by omega
  clear hm ho hi hd hn he
  go_enter Tryz.func34, Tryz.ntmps34
  go_wp2_with fail
  refine wp_region_any (by kernel_rfl) ?_
  change wpAny _ _ _ _ _ _ _ ((w.alloc (.cells (msgC m).toArray 34)).drewN 1)
  have HQ : Hid (MsgLies ((w.alloc (.cells (msgC m).toArray 34)).drewN 1) w.heap.size m ∧ Below w.heap.size w ((w.alloc (.cells (msgC m).toArray 34)).drewN 1) ∧ w.heap.size < ((w.alloc (.cells (msgC m).toArray 34)).drewN 1).heap.size) := Lib.hid ⟨msg_lies (range_box w (msgC m) 34) HM.out, below_drewN ((Below.refl _ _).alloc (Nat.le_refl _) _) 1, by simp⟩
  generalize (w.alloc (.cells (msgC m).toArray 34)).drewN 1 = w3 at HQ ⊢
  refine wpAny_of_held (S := fun W => Below w3.heap.size w3 W) _ _ _ _ ?_
  refine wpAnyH_take (i := 0) (oi := { dst := some 3, op := Op.fieldAddr 34 (Operand.tmp 1) 1, type := 0, pos := "message.go:96", after := #[], guard := none }) (v := .pointer (some ⟨w.heap.size, 1, none⟩)) rfl (by kernel_rfl) (by kernel_rfl) (by kernel_rfl) (fun _ _ _ h => h) (Or.inl ⟨by kernel_rfl, fun W hSW => by go_simp⟩) (Below.refl _ _) ?_
  try simp only [Act.put, List.setIfInBounds_toArray, List.set_cons_zero, List.set_cons_succ]
  refine wpAnyH_take (i := 1) (oi := { dst := some 4, op := Op.load 22 (Operand.tmp 3), type := 22, pos := "message.go:96", after := #[{ on := 0, ground := Ground.data }], guard := none }) (v := .int .u64 (m.number : Int)) rfl (by kernel_rfl) (by kernel_rfl) (by kernel_rfl) (fun _ _ _ h => h) (Or.inl ⟨by kernel_rfl, fun W hSW => by have hv := (hSW.cell (p := ⟨w.heap.size, 1, none⟩) HQ.out.2.2).trans HQ.out.1.number; go_simp⟩) (Below.refl _ _) ?_
  try simp only [Act.put, List.setIfInBounds_toArray, List.set_cons_zero, List.set_cons_succ]
  refine wpAnyH_ready (rs := [2]) (by kernel_rfl) (by simp) ?_
  refine AllReadyH.cons (o := { dst := some 5, op := Op.call { callee := Callee.value (Operand.func 60), args := #[Operand.tmp 4], argTypes := #[22] }, type := 4, pos := "message.go:96", after := #[{ on := 1, ground := Ground.data }], guard := none }) rfl (fun K' hK' => ?_) AllReadyH.nil
  go_simp
  go_at_call 60
  refine (HN.out w3).mono ?_
  rintro E w4 ⟨rfl, rfl⟩
  refine hK'.out _ _ (Below.refl _ _) (fun _ => ?_)
  clear hK' K'
  try simp only [Act.put, List.setIfInBounds_toArray, List.set_cons_zero, List.set_cons_succ]
  refine wpAnyH_take (i := 3) (oi := { dst := some 6, op := Op.move (Operand.tmp 5), type := 4, pos := "message.go:96", after := #[{ on := 2, ground := Ground.data }, { on := 2, ground := Ground.chain }], guard := none }) (v := .bool true) rfl (by kernel_rfl) (by kernel_rfl) (by kernel_rfl) (fun _ _ _ h => h) (Or.inl ⟨by kernel_rfl, fun W hSW => by go_simp⟩) (Below.refl _ _) ?_
  try simp only [Act.put, List.setIfInBounds_toArray, List.set_cons_zero, List.set_cons_succ]
  refine wpAnyH_take (i := 4) (oi := { dst := some 7, op := Op.fieldAddr 34 (Operand.tmp 1) 0, type := 0, pos := "message.go:96", after := #[{ on := 3, ground := Ground.guard }], guard := some (3, true) }) (v := .pointer (some ⟨w.heap.size, 0, none⟩)) rfl (by kernel_rfl) (by kernel_rfl) (by kernel_rfl) (fun _ _ _ h => h) (Or.inl ⟨by kernel_rfl, fun W hSW => by go_simp⟩) (Below.refl _ _) ?_
  try simp only [Act.put, List.setIfInBounds_toArray, List.set_cons_zero, List.set_cons_succ]
  refine wpAnyH_take (i := 5) (oi := { dst := some 8, op := Op.load 3 (Operand.tmp 7), type := 3, pos := "message.go:96", after := #[{ on := 4, ground := Ground.data }, { on := 3, ground := Ground.guard }], guard := some (3, true) }) (v := .int .i64 m.origin) rfl (by kernel_rfl) (by kernel_rfl) (by kernel_rfl) (fun _ _ _ h => h) (Or.inl ⟨by kernel_rfl, fun W hSW => by have hv := (hSW.cell (p := ⟨w.heap.size, 0, none⟩) HQ.out.2.2).trans HQ.out.1.origin; go_simp⟩) (Below.refl _ _) ?_
  try simp only [Act.put, List.setIfInBounds_toArray, List.set_cons_zero, List.set_cons_succ]
  refine wpAnyH_take (i := 6) (oi := { dst := some 9, op := Op.binOp BinOp.sub 3 (Operand.tmp 8) (Operand.const (Value.int IntKind.i64 1)) 3, type := 3, pos := "message.go:96", after := #[{ on := 5, ground := Ground.data }, { on := 3, ground := Ground.guard }], guard := some (3, true) }) (v := .int .i64 (i : Int)) rfl (by kernel_rfl) (by kernel_rfl) (by kernel_rfl) (fun _ _ _ h => h) (Or.inl ⟨by kernel_rfl, fun W hSW => by have hv := HI.out.1; go_simp⟩) (Below.refl _ _) ?_
  try simp only [Act.put, List.setIfInBounds_toArray, List.set_cons_zero, List.set_cons_succ]
  refine wpAnyH_take (i := 7) (oi := { dst := some 10, op := Op.fieldAddr 34 (Operand.tmp 1) 2, type := 0, pos := "message.go:96", after := #[{ on := 3, ground := Ground.guard }], guard := some (3, true) }) (v := .pointer (some ⟨w.heap.size, 2, none⟩)) rfl (by kernel_rfl) (by kernel_rfl) (by kernel_rfl) (fun _ _ _ h => h) (Or.inl ⟨by kernel_rfl, fun W hSW => by go_simp⟩) (Below.refl _ _) ?_
  try simp only [Act.put, List.setIfInBounds_toArray, List.set_cons_zero, List.set_cons_succ]
  refine wpAnyH_take (i := 8) (oi := { dst := some 11, op := Op.indexAddr 24 (Operand.tmp 10) (Operand.tmp 9), type := 0, pos := "message.go:96", after := #[{ on := 7, ground := Ground.data }, { on := 6, ground := Ground.data }, { on := 3, ground := Ground.guard }], guard := some (3, true) }) (v := .pointer (some ⟨w.heap.size, 2 + i, none⟩)) rfl (by kernel_rfl) (by kernel_rfl) (by kernel_rfl) (fun _ _ _ h => h) (Or.inl ⟨by kernel_rfl, fun W hSW => by have hv : ¬ (11 ≤ (i : Int)) := (by have := HI.out.2; omega); go_simp⟩) (Below.refl _ _) ?_
  try simp only [Act.put, List.setIfInBounds_toArray, List.set_cons_zero, List.set_cons_succ]
  refine wpAnyH_take (i := 9) (oi := { dst := some 12, op := Op.load 22 (Operand.tmp 11), type := 22, pos := "message.go:96", after := #[{ on := 8, ground := Ground.data }, { on := 3, ground := Ground.guard }], guard := some (3, true) }) (v := .int .u64 (d : Int)) rfl (by kernel_rfl) (by kernel_rfl) (by kernel_rfl) (fun _ _ _ h => h) (Or.inl ⟨by kernel_rfl, fun W hSW => by have hv := (hSW.cell (p := ⟨w.heap.size, 2 + i, none⟩) HQ.out.2.2).trans (HQ.out.1.deps i _ HD.out); go_simp⟩) (Below.refl _ _) ?_
  try simp only [Act.put, List.setIfInBounds_toArray, List.set_cons_zero, List.set_cons_succ]
  refine wpAnyH_take (i := 10) (oi := { dst := some 13, op := Op.fieldAddr 34 (Operand.tmp 1) 1, type := 0, pos := "message.go:96", after := #[{ on := 3, ground := Ground.guard }], guard := some (3, true) }) (v := .pointer (some ⟨w.heap.size, 1, none⟩)) rfl (by kernel_rfl) (by kernel_rfl) (by kernel_rfl) (fun _ _ _ h => h) (Or.inl ⟨by kernel_rfl, fun W hSW => by go_simp⟩) (Below.refl _ _) ?_
  try simp only [Act.put, List.setIfInBounds_toArray, List.set_cons_zero, List.set_cons_succ]
  refine wpAnyH_take (i := 11) (oi := { dst := some 14, op := Op.load 22 (Operand.tmp 13), type := 22, pos := "message.go:96", after := #[{ on := 10, ground := Ground.data }, { on := 3, ground := Ground.guard }], guard := some (3, true) }) (v := .int .u64 (m.number : Int)) rfl (by kernel_rfl) (by kernel_rfl) (by kernel_rfl) (fun _ _ _ h => h) (Or.inl ⟨by kernel_rfl, fun W hSW => by have hv := (hSW.cell (p := ⟨w.heap.size, 1, none⟩) HQ.out.2.2).trans HQ.out.1.number; go_simp⟩) (Below.refl _ _) ?_
  try simp only [Act.put, List.setIfInBounds_toArray, List.set_cons_zero, List.set_cons_succ]
  refine wpAnyH_take (i := 12) (oi := { dst := some 15, op := Op.binOp BinOp.sub 22 (Operand.tmp 14) (Operand.const (Value.int IntKind.u64 1)) 22, type := 22, pos := "message.go:96", after := #[{ on := 11, ground := Ground.data }, { on := 3, ground := Ground.guard }], guard := some (3, true) }) (v := .int .u64 ((m.number - 1 : Nat) : Int)) rfl (by kernel_rfl) (by kernel_rfl) (by kernel_rfl) (fun _ _ _ h => h) (Or.inl ⟨by kernel_rfl, fun W hSW => by have hv := HU.out; go_simp⟩) (Below.refl _ _) ?_
  try simp only [Act.put, List.setIfInBounds_toArray, List.set_cons_zero, List.set_cons_succ]
  refine wpAnyH_take (i := 13) (oi := { dst := some 16, op := Op.binOp BinOp.eql 22 (Operand.tmp 12) (Operand.tmp 15) 22, type := 4, pos := "message.go:96", after := #[{ on := 9, ground := Ground.data }, { on := 12, ground := Ground.data }, { on := 3, ground := Ground.guard }], guard := some (3, true) }) (v := .bool true) rfl (by kernel_rfl) (by kernel_rfl) (by kernel_rfl) (fun _ _ _ h => h) (Or.inl ⟨by kernel_rfl, fun W hSW => by have hv := HE; go_simp⟩) (Below.refl _ _) ?_
  try simp only [Act.put, List.setIfInBounds_toArray, List.set_cons_zero, List.set_cons_succ]
  refine wpAnyH_take (i := 14) (oi := { dst := some 17, op := Op.pick (Operand.tmp 6) (Operand.tmp 16) (Operand.const (Value.bool false)), type := 4, pos := "message.go:96", after := #[{ on := 3, ground := Ground.data }, { on := 13, ground := Ground.data }], guard := none }) (v := .bool true) rfl (by kernel_rfl) (by kernel_rfl) (by kernel_rfl) (fun _ _ _ h => h) (Or.inl ⟨by kernel_rfl, fun W hSW => by go_simp⟩) (Below.refl _ _) ?_
  try simp only [Act.put, List.setIfInBounds_toArray, List.set_cons_zero, List.set_cons_succ]
  refine wpAnyH_take (i := 15) (oi := { dst := some 18, op := Op.move (Operand.tmp 17), type := 4, pos := "message.go:96", after := #[{ on := 14, ground := Ground.data }, { on := 3, ground := Ground.chain }], guard := none }) (v := .bool true) rfl (by kernel_rfl) (by kernel_rfl) (by kernel_rfl) (fun _ _ _ h => h) (Or.inl ⟨by kernel_rfl, fun W hSW => by go_simp⟩) (Below.refl _ _) ?_
  try simp only [Act.put, List.setIfInBounds_toArray, List.set_cons_zero, List.set_cons_succ]
  refine wpAnyH_take (i := 16) (oi := { dst := some 19, op := Op.fieldAddr 34 (Operand.tmp 1) 2, type := 0, pos := "message.go:96", after := #[{ on := 15, ground := Ground.guard }], guard := some (15, true) }) (v := .pointer (some ⟨w.heap.size, 2, none⟩)) rfl (by kernel_rfl) (by kernel_rfl) (by kernel_rfl) (fun _ _ _ h => h) (Or.inl ⟨by kernel_rfl, fun W hSW => by go_simp⟩) (Below.refl _ _) ?_
  try simp only [Act.put, List.setIfInBounds_toArray, List.set_cons_zero, List.set_cons_succ]
  refine wpAnyH_take (i := 17) (oi := { dst := some 20, op := Op.slice 24 (Operand.tmp 19) none none none, type := 81, pos := "message.go:96", after := #[{ on := 16, ground := Ground.data }, { on := 15, ground := Ground.guard }], guard := some (15, true) }) (v := .slice (some ⟨w.heap.size, 2, none⟩) 11 11) rfl (by kernel_rfl) (by kernel_rfl) (by kernel_rfl) (fun _ _ _ h => h) (Or.inl ⟨by kernel_rfl, fun W hSW => by go_simp⟩) (Below.refl _ _) ?_
  try simp only [Act.put, List.setIfInBounds_toArray, List.set_cons_zero, List.set_cons_succ]
  refine wpAnyH_ready (rs := [18]) (by kernel_rfl) (by simp) ?_
  refine AllReadyH.cons (o := { dst := some 21, op := Op.call { callee := Callee.value (Operand.func 61), args := #[Operand.tmp 20], argTypes := #[81] }, type := 22, pos := "message.go:96", after := #[{ on := 17, ground := Ground.data }, { on := 15, ground := Ground.chain }, { on := 15, ground := Ground.guard }], guard := some (15, true) }) rfl (fun K' hK' => ?_) AllReadyH.nil
  go_simp
  go_at_call 61
  refine (HX.out w.heap.size 2 w3 HQ.out.1.deps).mono ?_
  rintro E w4 ⟨rfl, rfl⟩
  refine hK'.out _ _ (Below.refl _ _) (fun _ => ?_)
  clear hK' K'
  try simp only [Act.put, List.setIfInBounds_toArray, List.set_cons_zero, List.set_cons_succ]
  refine wpAnyH_take (i := 19) (oi := { dst := some 22, op := Op.binOp BinOp.leq 22 (Operand.tmp 21) (Operand.const (Value.int IntKind.u64 65536)) 22, type := 4, pos := "message.go:96", after := #[{ on := 18, ground := Ground.data }, { on := 15, ground := Ground.guard }], guard := some (15, true) }) (v := .bool (decide (maxTo m.deps 11 ≤ 65536))) rfl (by kernel_rfl) (by kernel_rfl) (by kernel_rfl) (fun _ _ _ h => h) (Or.inl ⟨by kernel_rfl, fun W hSW => by go_simp; omega⟩) (Below.refl _ _) ?_
  try simp only [Act.put, List.setIfInBounds_toArray, List.set_cons_zero, List.set_cons_succ]
  refine wpAnyH_take (i := 20) (oi := { dst := some 23, op := Op.pick (Operand.tmp 18) (Operand.tmp 22) (Operand.const (Value.bool false)), type := 4, pos := "message.go:96", after := #[{ on := 15, ground := Ground.data }, { on := 19, ground := Ground.data }], guard := none }) (v := .bool (decide (maxTo m.deps 11 ≤ 65536))) rfl (by kernel_rfl) (by kernel_rfl) (by kernel_rfl) (fun _ _ _ h => h) (Or.inl ⟨by kernel_rfl, fun W hSW => by go_simp⟩) (Below.refl _ _) ?_
  try simp only [Act.put, List.setIfInBounds_toArray, List.set_cons_zero, List.set_cons_succ]
  refine wpAnyH_take (i := 21) (oi := { dst := some 2, op := Op.assign (Operand.tmp 23), type := 4, pos := "message.go:96", after := #[{ on := 20, ground := Ground.data }, { on := 18, ground := Ground.chain }, { on := 0, ground := Ground.phase }, { on := 1, ground := Ground.phase }, { on := 2, ground := Ground.phase }, { on := 3, ground := Ground.phase }, { on := 4, ground := Ground.phase }, { on := 5, ground := Ground.phase }, { on := 6, ground := Ground.phase }, { on := 7, ground := Ground.phase }, { on := 8, ground := Ground.phase }, { on := 9, ground := Ground.phase }, { on := 10, ground := Ground.phase }, { on := 11, ground := Ground.phase }, { on := 12, ground := Ground.phase }, { on := 13, ground := Ground.phase }, { on := 14, ground := Ground.phase }, { on := 15, ground := Ground.phase }, { on := 16, ground := Ground.phase }, { on := 17, ground := Ground.phase }, { on := 18, ground := Ground.phase }, { on := 19, ground := Ground.phase }, { on := 20, ground := Ground.phase }], guard := none }) (v := .bool (decide (maxTo m.deps 11 ≤ 65536))) rfl (by kernel_rfl) (by kernel_rfl) (by kernel_rfl) (fun _ _ _ h => h) (Or.inl ⟨by kernel_rfl, fun W hSW => by go_simp⟩) (Below.refl _ _) ?_
  try simp only [Act.put, List.setIfInBounds_toArray, List.set_cons_zero, List.set_cons_succ]
  refine wpAnyH_done (by kernel_rfl) ?_ _
  go_wp2_with fail
  go_ret
  exact ⟨rfl, Lib.hid HQ.out.2.1⟩

/-- May a message's number be, and what its maker knew? -/
def MMsg.numMay (m : MMsg) : Prop := isNum m.number = true ∧ m.deps[m.origin.toNat - 1]? = some (m.number - 1) ∧ ∀ x ∈ m.deps, x ≤ 65536
theorem mayNumber_ms (m : MMsg) (w : World) (hm : m.Wf) (ho : isRepl m.origin = true) :
    Calls Tryz.prog 34 #[.agg (msgC m).toArray] w fun E w' => (∃ z, E = .returned (.bool z) ∧ (z = true ↔ m.numMay)) ∧ Hid (Below w.heap.size w w') := by
  have ho' : 1 ≤ m.origin ∧ m.origin ≤ 11 := by simpa [isRepl] using ho
  obtain ⟨i, hi⟩ : ∃ i : Nat, m.origin = (i : Int) + 1 := ⟨m.origin.toNat - 1, by omega⟩
  have hi11 : i < 11 := by omega
  obtain ⟨d, hd⟩ : ∃ d, m.deps[i]? = some d := ⟨_, List.getElem?_eq_getElem (by rw [hm.1]; exact hi11)⟩
  have hii : m.origin.toNat - 1 = i := by omega
  cases hn : isNum m.number with
  | false => exact (num_0 m i d w hm hi hi11 hd hn).mono fun E w' hE => ⟨⟨_, hE.1, by simp [MMsg.numMay, hn]⟩, hE.2⟩
  | true =>
    by_cases he : d = m.number - 1
    · refine (num_2 m i d w hm hi hi11 hd hn he).mono fun E w' hE => ⟨⟨_, hE.1, ?_⟩, hE.2⟩
      rw [decide_eq_true_eq, maxTo_le, List.take_of_length_le (by rw [hm.1]; exact Nat.le_refl _)]
      simp only [MMsg.numMay, hn, hii, hd, he, true_and]
    · refine (num_1 m i d w hm hi hi11 hd hn he).mono fun E w' hE => ⟨⟨_, hE.1, ?_⟩, hE.2⟩
      simp only [MMsg.numMay, hn, hii, hd, Option.some.injEq, he, false_and, and_false, Bool.false_eq_true]
/-- May a message be? -/
def MMsg.may (m : MMsg) : Prop := isRepl m.origin = true ∧ m.numMay ∧ m.body.may
set_option maxHeartbeats 4000000 in
theorem may_by (m : MMsg) (w : World) (hm : m.Wf) (r n b : Bool) (HR : Hid (∀ W, Calls Tryz.prog 33 #[.int .i64 m.origin] W fun E w' => E = .returned (.bool r) ∧ W = w'))
    (HN : Hid (r = true → ∀ W, Below w.heap.size w W → Calls Tryz.prog 34 #[.agg (msgC m).toArray] W fun E w' => E = .returned (.bool n) ∧ Hid (Below W.heap.size W w')))
    (HB : Hid (∀ W, Below w.heap.size w W → Calls Tryz.prog 35 #[.agg (bodyC m.body).toArray] W fun E w' => E = .returned (.bool b) ∧ Hid (Below W.heap.size W w'))) :
    Calls Tryz.prog 13 #[.agg (msgC m).toArray] w fun E w' => E = .returned (.bool (r && (n && b))) ∧ Hid (Below w.heap.size w w') := by
  have L := msg_lies (range_box w (msgC m) 34) hm
  have c0 : (w.alloc (.cells (msgC m).toArray 34)).cell? ⟨w.heap.size, 0, none⟩ = some (.int .i64 m.origin) := L.origin
  have HL : Hid (∀ W, Below (w.alloc (.cells (msgC m).toArray 34)).heap.size (w.alloc (.cells (msgC m).toArray 34)) W → W.rangeAt w.heap.size 0 (msgC m) ∧ W.rangeAt w.heap.size 13 (bodyC m.body)) := Lib.hid fun W h => ⟨rangeAt_below L.all h (by simp), rangeAt_below L.body.all h (by simp)⟩
  have HA : Hid (Below w.heap.size w (w.alloc (.cells (msgC m).toArray 34))) := Lib.hid ((Below.refl _ _).alloc (Nat.le_refl _) _)
  have HI : Hid ((Tryz.prog.info? 34).map (·.size) = some (msgC m).length) := Lib.hid (by rw [msgC_length hm]; exact Tryz.is34)
  have HJ : Hid ((Tryz.prog.info? 32).map (·.size) = some (bodyC m.body).length) := Lib.hid (by rw [bodyC_length hm.2.1]; exact Tryz.is32)
  clear L hm
  cases r
  · go_enter Tryz.func13, Tryz.ntmps13
    go_wp2_with (first | (go_at_call 33; refine (HR.out _).mono ?_; rintro E w1 ⟨rfl, rfl⟩) | ((with_reducible refine wpList_load_midG ?_ 34 (.tmp 1) ?_ w.heap.size 0 ?_ (msgC m) _ ?_ Tryz.underlying34 ?_ ?_ ?_); (· rfl); (· rfl); (· rfl); (· exact (HL.out _ (Below.refl _ _)).1); (· rfl); (· exact HI.out)) | (go_at_call 34; refine (HN.out (by simp) _ HA.out).mono ?_; rintro E w1 ⟨rfl, hb1⟩; have HB1 : Hid (Below w.heap.size w w1) := Lib.hid (HA.out.trans (hb1.out.mono HA.out.size))) | ((with_reducible refine wpList_load_midG ?_ 32 (.tmp 11) ?_ w.heap.size 13 ?_ (bodyC m.body) _ ?_ Tryz.underlying32 ?_ ?_ ?_); (· rfl); (· rfl); (· rfl); (· exact (HL.out _ hb1.out).2); (· rfl); (· exact HJ.out)) | (go_at_call 35; refine (HB.out _ HB1.out).mono ?_; rintro E w2 ⟨rfl, hb2⟩))
    go_ret
    exact ⟨rfl, HA⟩
  · cases n
    · go_enter Tryz.func13, Tryz.ntmps13
      go_wp2_with (first | (go_at_call 33; refine (HR.out _).mono ?_; rintro E w1 ⟨rfl, rfl⟩) | ((with_reducible refine wpList_load_midG ?_ 34 (.tmp 1) ?_ w.heap.size 0 ?_ (msgC m) _ ?_ Tryz.underlying34 ?_ ?_ ?_); (· rfl); (· rfl); (· rfl); (· exact (HL.out _ (Below.refl _ _)).1); (· rfl); (· exact HI.out)) | (go_at_call 34; refine (HN.out (by simp) _ HA.out).mono ?_; rintro E w1 ⟨rfl, hb1⟩; have HB1 : Hid (Below w.heap.size w w1) := Lib.hid (HA.out.trans (hb1.out.mono HA.out.size))) | ((with_reducible refine wpList_load_midG ?_ 32 (.tmp 11) ?_ w.heap.size 13 ?_ (bodyC m.body) _ ?_ Tryz.underlying32 ?_ ?_ ?_); (· rfl); (· rfl); (· rfl); (· exact (HL.out _ hb1.out).2); (· rfl); (· exact HJ.out)) | (go_at_call 35; refine (HB.out _ HB1.out).mono ?_; rintro E w2 ⟨rfl, hb2⟩))
      go_ret
      exact ⟨rfl, HB1⟩
    · go_enter Tryz.func13, Tryz.ntmps13
      go_wp2_with (first | (go_at_call 33; refine (HR.out _).mono ?_; rintro E w1 ⟨rfl, rfl⟩) | ((with_reducible refine wpList_load_midG ?_ 34 (.tmp 1) ?_ w.heap.size 0 ?_ (msgC m) _ ?_ Tryz.underlying34 ?_ ?_ ?_); (· rfl); (· rfl); (· rfl); (· exact (HL.out _ (Below.refl _ _)).1); (· rfl); (· exact HI.out)) | (go_at_call 34; refine (HN.out (by simp) _ HA.out).mono ?_; rintro E w1 ⟨rfl, hb1⟩; have HB1 : Hid (Below w.heap.size w w1) := Lib.hid (HA.out.trans (hb1.out.mono HA.out.size))) | ((with_reducible refine wpList_load_midG ?_ 32 (.tmp 11) ?_ w.heap.size 13 ?_ (bodyC m.body) _ ?_ Tryz.underlying32 ?_ ?_ ?_); (· rfl); (· rfl); (· rfl); (· exact (HL.out _ hb1.out).2); (· rfl); (· exact HJ.out)) | (go_at_call 35; refine (HB.out _ HB1.out).mono ?_; rintro E w2 ⟨rfl, hb2⟩))
      go_ret
      exact ⟨rfl, Lib.hid (HB1.out.trans (hb2.out.mono HB1.out.size))⟩

theorem calls_bool {P : Program} {f : Nat} {args : Array Value} {w : World} {Q : Prop} {K : World → Prop} (h : Calls P f args w fun E w' => (∃ z, E = .returned (.bool z) ∧ (z = true ↔ Q)) ∧ K w') {z : Bool} (hz : z = true ↔ Q) : Calls P f args w fun E w' => E = .returned (.bool z) ∧ K w' :=
  h.mono fun E w' hE => by
    obtain ⟨⟨y, rfl, hy⟩, hk⟩ := hE
    exact ⟨ret_bool (by rw [Bool.eq_iff_iff, hy, hz]), hk⟩
open Classical in
theorem may_ms (m : MMsg) (w : World) (hm : m.Wf) (hq : Prs w m.body.qa m.body.qs) (hn : m.body.qs.length ≤ 140737488355328) :
    Calls Tryz.prog 13 #[.agg (msgC m).toArray] w fun E w' => E = .returned (.bool (decide m.may)) ∧ Hid (Below w.heap.size w w') := by
  refine (may_by m w hm (isRepl m.origin) (decide m.numMay) (decide m.body.may) (Lib.hid fun W => isReplica_ms m.origin W) (Lib.hid fun hr W _ => calls_bool (mayNumber_ms m W hm hr) (by simp)) (Lib.hid fun W h => calls_bool (mayBody_ms m.body W hm.2.1 (hq.below h) hn) (by simp))).mono fun E w' hE => ⟨hE.1.trans (ret_bool ?_), hE.2⟩
  rw [Bool.eq_iff_iff, decide_eq_true_iff]
  simp only [MMsg.may, Bool.and_eq_true, decide_eq_true_eq]
end Go.Proofs.YtghjogneogkpoaaGreatDoor.Sh
