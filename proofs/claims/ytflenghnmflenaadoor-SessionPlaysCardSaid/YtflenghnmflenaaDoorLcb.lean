/-
  What is proved: what an operation that moves may be. Conditions as stated.
-/
import Derived.Test.YtflenghnmflenaaDoorLca
namespace Go.Proofs.YtflenghnmflenaaDoor
open Go.RowKit
set_option maxRecDepth 100000

set_option maxHeartbeats 4000000 in
theorem own_5a (kk : UInt8) (key value old to : ByteArray) (am : Nat) (w : World) (hk : (kk.toNat : Int) = 5) (HV : Hid (∀ W, Calls Tryd.prog 40 #[.string to] W fun E w' => E = .returned (.bool false) ∧ W = w')) : Calls Tryd.prog 42 #[.agg (opC ⟨kk, key, value, old, to, am⟩).toArray] w fun E w' => OwnP w (⟨kk, key, ByteArray.empty, ByteArray.empty, to, am⟩) (false) E w' := by
  dsimp only [opC]
  obtain ⟨K, hK⟩ : ∃ K : Int, K = kk.toNat := ⟨_, rfl⟩
  have HE := Lib.hid (show opC (⟨kk, key, ByteArray.empty, ByteArray.empty, to, am⟩) = [.int .u8 K, .string key, .string ByteArray.empty, .string ByteArray.empty, .string to, .int .u64 (am : Int)] by rw [hK]; rfl)
  have HB : ∀ o1 o2, Hid (Below w.heap.size w ((w.alloc o1).alloc o2)) := fun _ _ => Lib.hid (((Below.refl _ _).alloc (Nat.le_refl _) _).alloc (by simp) _)
  rw [← hK] at hk ⊢
  clear hK
  subst hk
  go_enter Tryd.func42, Tryd.ntmps42
  go_wp2_with fail
  go_region
  all_goals
    go_wp2_with fail
    refine wp_region_any (by kernel_rfl) ?_
    refine held_gen (G := fun W => wpAny _ _ _ _ _ _ _ W) (fun W => Two w [.int .u8 5, .string key, .string value, .string old, .string to, .int .u64 (am : Int)] [.int .u8 5, .string key, .string ByteArray.empty, .string ByteArray.empty, .string to, .int .u64 (am : Int)] W) ⟨one_new w _ _ _, two_new w _ _ _, by first | exact below_drewN (HB _ _).out _ | exact below_drewN (below_drewN (HB _ _).out _) _⟩ (fun W HW => ?_)
    refine wpAny_of_held (S := fun W => Two w [.int .u8 5, .string key, .string value, .string old, .string to, .int .u64 (am : Int)] [.int .u8 5, .string key, .string ByteArray.empty, .string ByteArray.empty, .string to, .int .u64 (am : Int)] W) _ _ _ _ ?_
    refine wpAnyH_take (i := 0) (oi := { dst := some 49, op := Op.load 49 (Operand.tmp 2), type := 49, pos := "ledger.go:89", after := #[], guard := none }) (v := .agg [.int .u8 5, .string key, .string ByteArray.empty, .string ByteArray.empty, .string to, .int .u64 (am : Int)].toArray) rfl (by kernel_rfl) (by kernel_rfl) (by kernel_rfl) (fun _ _ _ h => h) (Or.inl ⟨by kernel_rfl, fun W hSW => exec_load_mid 49 (.tmp 2) rfl (w.heap.size + 1) 0 rfl [.int .u8 5, .string key, .string ByteArray.empty, .string ByteArray.empty, .string to, .int .u64 (am : Int)] _ (range_all hSW.2.1) Tryd.underlying49 rfl Tryd.is49⟩) (HW) ?_
    try simp only [Act.put, List.setIfInBounds_toArray, List.set_cons_zero, List.set_cons_succ]
    refine wpAnyH_take (i := 1) (oi := { dst := some 50, op := Op.fieldAddr 49 (Operand.tmp 1) 4, type := 0, pos := "ledger.go:89", after := #[], guard := none }) (v := .pointer (some ⟨w.heap.size, 4, none⟩)) rfl (by kernel_rfl) (by kernel_rfl) (by kernel_rfl) (fun _ _ _ h => h) (Or.inl ⟨by kernel_rfl, fun W hSW => by go_simp⟩) (HW) ?_
    try simp only [Act.put, List.setIfInBounds_toArray, List.set_cons_zero, List.set_cons_succ]
    refine wpAnyH_take (i := 2) (oi := { dst := some 51, op := Op.load 9 (Operand.tmp 50), type := 9, pos := "ledger.go:89", after := #[{ on := 1, ground := Ground.data }], guard := none }) (v := .string to) rfl (by kernel_rfl) (by kernel_rfl) (by kernel_rfl) (fun _ _ _ h => h) (Or.inl ⟨by kernel_rfl, fun W hSW => by have hc := block_cell (k := 4) hSW.1 _ rfl; go_simp⟩) (HW) ?_
    try simp only [Act.put, List.setIfInBounds_toArray, List.set_cons_zero, List.set_cons_succ]
    refine wpAnyH_ready (rs := [3]) (by kernel_rfl) (by simp) ?_
    refine AllReadyH.cons (o := { dst := some 52, op := Op.call { callee := Callee.value (Operand.func 40), args := #[Operand.tmp 51], argTypes := #[9] }, type := 4, pos := "ledger.go:89", after := #[{ on := 2, ground := Ground.data }], guard := none }) rfl (fun K' hK' => ?_) AllReadyH.nil
    go_simp
    go_at_call 40
    refine (HV.out _).mono ?_
    rintro E w1 ⟨rfl, rfl⟩
    refine hK'.out _ _ HW (fun _ => ?_)
    clear hK' K'
    try simp only [Act.put, List.setIfInBounds_toArray, List.set_cons_zero, List.set_cons_succ]
    refine wpAnyH_take (i := 4) (oi := { dst := some 53, op := Op.move (Operand.tmp 52), type := 4, pos := "ledger.go:89", after := #[{ on := 3, ground := Ground.data }, { on := 3, ground := Ground.chain }], guard := none }) (v := .bool false) rfl (by kernel_rfl) (by kernel_rfl) (by kernel_rfl) (fun _ _ _ h => h) (Or.inl ⟨by kernel_rfl, fun W hSW => by go_simp⟩) (HW) ?_
    try simp only [Act.put, List.setIfInBounds_toArray, List.set_cons_zero, List.set_cons_succ]
    refine wpAnyH_take (i := 5) (oi := { dst := some 54, op := Op.fieldAddr 49 (Operand.tmp 1) 4, type := 0, pos := "ledger.go:89", after := #[{ on := 4, ground := Ground.guard }], guard := some (4, true) }) (v := undef) rfl (by kernel_rfl) (by kernel_rfl) (by kernel_rfl) (fun _ _ _ h => h) (Or.inr ⟨by kernel_rfl, rfl⟩) (HW) ?_
    try simp only [Act.put, List.setIfInBounds_toArray, List.set_cons_zero, List.set_cons_succ]
    refine wpAnyH_take (i := 6) (oi := { dst := some 55, op := Op.load 9 (Operand.tmp 54), type := 9, pos := "ledger.go:89", after := #[{ on := 5, ground := Ground.data }, { on := 4, ground := Ground.guard }], guard := some (4, true) }) (v := undef) rfl (by kernel_rfl) (by kernel_rfl) (by kernel_rfl) (fun _ _ _ h => h) (Or.inr ⟨by kernel_rfl, rfl⟩) (HW) ?_
    try simp only [Act.put, List.setIfInBounds_toArray, List.set_cons_zero, List.set_cons_succ]
    refine wpAnyH_take (i := 7) (oi := { dst := some 56, op := Op.fieldAddr 49 (Operand.tmp 1) 1, type := 0, pos := "ledger.go:89", after := #[{ on := 4, ground := Ground.guard }], guard := some (4, true) }) (v := undef) rfl (by kernel_rfl) (by kernel_rfl) (by kernel_rfl) (fun _ _ _ h => h) (Or.inr ⟨by kernel_rfl, rfl⟩) (HW) ?_
    try simp only [Act.put, List.setIfInBounds_toArray, List.set_cons_zero, List.set_cons_succ]
    refine wpAnyH_take (i := 8) (oi := { dst := some 57, op := Op.load 9 (Operand.tmp 56), type := 9, pos := "ledger.go:89", after := #[{ on := 7, ground := Ground.data }, { on := 4, ground := Ground.guard }], guard := some (4, true) }) (v := undef) rfl (by kernel_rfl) (by kernel_rfl) (by kernel_rfl) (fun _ _ _ h => h) (Or.inr ⟨by kernel_rfl, rfl⟩) (HW) ?_
    try simp only [Act.put, List.setIfInBounds_toArray, List.set_cons_zero, List.set_cons_succ]
    refine wpAnyH_take (i := 9) (oi := { dst := some 58, op := Op.binOp BinOp.neq 9 (Operand.tmp 55) (Operand.tmp 57) 9, type := 4, pos := "ledger.go:89", after := #[{ on := 6, ground := Ground.data }, { on := 8, ground := Ground.data }, { on := 4, ground := Ground.guard }], guard := some (4, true) }) (v := undef) rfl (by kernel_rfl) (by kernel_rfl) (by kernel_rfl) (fun _ _ _ h => h) (Or.inr ⟨by kernel_rfl, rfl⟩) (HW) ?_
    try simp only [Act.put, List.setIfInBounds_toArray, List.set_cons_zero, List.set_cons_succ]
    refine wpAnyH_take (i := 10) (oi := { dst := some 59, op := Op.pick (Operand.tmp 53) (Operand.tmp 58) (Operand.const (Value.bool false)), type := 4, pos := "ledger.go:89", after := #[{ on := 4, ground := Ground.data }, { on := 9, ground := Ground.data }], guard := none }) (v := .bool false) rfl (by kernel_rfl) (by kernel_rfl) (by kernel_rfl) (fun _ _ _ h => h) (Or.inl ⟨by kernel_rfl, fun W hSW => by go_simp⟩) (HW) ?_
    try simp only [Act.put, List.setIfInBounds_toArray, List.set_cons_zero, List.set_cons_succ]
    refine wpAnyH_take (i := 11) (oi := { dst := some 60, op := Op.move (Operand.tmp 59), type := 4, pos := "ledger.go:89", after := #[{ on := 10, ground := Ground.data }, { on := 4, ground := Ground.chain }], guard := none }) (v := .bool false) rfl (by kernel_rfl) (by kernel_rfl) (by kernel_rfl) (fun _ _ _ h => h) (Or.inl ⟨by kernel_rfl, fun W hSW => by go_simp⟩) (HW) ?_
    try simp only [Act.put, List.setIfInBounds_toArray, List.set_cons_zero, List.set_cons_succ]
    refine wpAnyH_take (i := 12) (oi := { dst := some 61, op := Op.fieldAddr 49 (Operand.tmp 1) 5, type := 0, pos := "ledger.go:89", after := #[{ on := 11, ground := Ground.guard }], guard := some (11, true) }) (v := undef) rfl (by kernel_rfl) (by kernel_rfl) (by kernel_rfl) (fun _ _ _ h => h) (Or.inr ⟨by kernel_rfl, rfl⟩) (HW) ?_
    try simp only [Act.put, List.setIfInBounds_toArray, List.set_cons_zero, List.set_cons_succ]
    refine wpAnyH_take (i := 13) (oi := { dst := some 62, op := Op.load 30 (Operand.tmp 61), type := 30, pos := "ledger.go:89", after := #[{ on := 12, ground := Ground.data }, { on := 11, ground := Ground.guard }], guard := some (11, true) }) (v := undef) rfl (by kernel_rfl) (by kernel_rfl) (by kernel_rfl) (fun _ _ _ h => h) (Or.inr ⟨by kernel_rfl, rfl⟩) (HW) ?_
    try simp only [Act.put, List.setIfInBounds_toArray, List.set_cons_zero, List.set_cons_succ]
    refine wpAnyH_take (i := 14) (oi := { dst := some 63, op := Op.binOp BinOp.geq 30 (Operand.tmp 62) (Operand.const (Value.int IntKind.u64 1)) 30, type := 4, pos := "ledger.go:89", after := #[{ on := 13, ground := Ground.data }, { on := 11, ground := Ground.guard }], guard := some (11, true) }) (v := undef) rfl (by kernel_rfl) (by kernel_rfl) (by kernel_rfl) (fun _ _ _ h => h) (Or.inr ⟨by kernel_rfl, rfl⟩) (HW) ?_
    try simp only [Act.put, List.setIfInBounds_toArray, List.set_cons_zero, List.set_cons_succ]
    refine wpAnyH_take (i := 15) (oi := { dst := some 64, op := Op.pick (Operand.tmp 60) (Operand.tmp 63) (Operand.const (Value.bool false)), type := 4, pos := "ledger.go:89", after := #[{ on := 11, ground := Ground.data }, { on := 14, ground := Ground.data }], guard := none }) (v := .bool false) rfl (by kernel_rfl) (by kernel_rfl) (by kernel_rfl) (fun _ _ _ h => h) (Or.inl ⟨by kernel_rfl, fun W hSW => by go_simp⟩) (HW) ?_
    try simp only [Act.put, List.setIfInBounds_toArray, List.set_cons_zero, List.set_cons_succ]
    refine wpAnyH_take (i := 16) (oi := { dst := some 65, op := Op.move (Operand.tmp 64), type := 4, pos := "ledger.go:89", after := #[{ on := 15, ground := Ground.data }, { on := 11, ground := Ground.chain }], guard := none }) (v := .bool false) rfl (by kernel_rfl) (by kernel_rfl) (by kernel_rfl) (fun _ _ _ h => h) (Or.inl ⟨by kernel_rfl, fun W hSW => by go_simp⟩) (HW) ?_
    try simp only [Act.put, List.setIfInBounds_toArray, List.set_cons_zero, List.set_cons_succ]
    refine wpAnyH_take (i := 17) (oi := { dst := some 66, op := Op.fieldAddr 49 (Operand.tmp 1) 5, type := 0, pos := "ledger.go:89", after := #[{ on := 16, ground := Ground.guard }, { on := 21, ground := Ground.gcOnly Departure.lateStores }], guard := some (16, true) }) (v := undef) rfl (by kernel_rfl) (by kernel_rfl) (by kernel_rfl) (fun _ _ _ h => h) (Or.inr ⟨by kernel_rfl, rfl⟩) (HW) ?_
    try simp only [Act.put, List.setIfInBounds_toArray, List.set_cons_zero, List.set_cons_succ]
    refine wpAnyH_take (i := 18) (oi := { dst := some 67, op := Op.load 30 (Operand.tmp 66), type := 30, pos := "ledger.go:89", after := #[{ on := 17, ground := Ground.data }, { on := 16, ground := Ground.guard }, { on := 21, ground := Ground.gcOnly Departure.lateStores }], guard := some (16, true) }) (v := undef) rfl (by kernel_rfl) (by kernel_rfl) (by kernel_rfl) (fun _ _ _ h => h) (Or.inr ⟨by kernel_rfl, rfl⟩) (HW) ?_
    try simp only [Act.put, List.setIfInBounds_toArray, List.set_cons_zero, List.set_cons_succ]
    refine wpAnyH_take (i := 19) (oi := { dst := some 68, op := Op.binOp BinOp.leq 30 (Operand.tmp 67) (Operand.const (Value.int IntKind.u64 1125899906842624)) 30, type := 4, pos := "ledger.go:89", after := #[{ on := 18, ground := Ground.data }, { on := 16, ground := Ground.guard }, { on := 21, ground := Ground.gcOnly Departure.lateStores }], guard := some (16, true) }) (v := undef) rfl (by kernel_rfl) (by kernel_rfl) (by kernel_rfl) (fun _ _ _ h => h) (Or.inr ⟨by kernel_rfl, rfl⟩) (HW) ?_
    try simp only [Act.put, List.setIfInBounds_toArray, List.set_cons_zero, List.set_cons_succ]
    refine wpAnyH_take (i := 20) (oi := { dst := some 69, op := Op.pick (Operand.tmp 65) (Operand.tmp 68) (Operand.const (Value.bool false)), type := 4, pos := "ledger.go:89", after := #[{ on := 16, ground := Ground.data }, { on := 19, ground := Ground.data }, { on := 21, ground := Ground.gcOnly Departure.lateStores }], guard := none }) (v := .bool false) rfl (by kernel_rfl) (by kernel_rfl) (by kernel_rfl) (fun _ _ _ h => h) (Or.inl ⟨by kernel_rfl, fun W hSW => by go_simp⟩) (HW) ?_
    try simp only [Act.put, List.setIfInBounds_toArray, List.set_cons_zero, List.set_cons_succ]
    refine wpAnyH_ready (rs := [21]) (by kernel_rfl) (by simp) ?_
    refine AllReadyH.cons (o := { dst := none, op := Op.store 49 (Operand.tmp 2) (Operand.tmp 49), type := 0, pos := "ledger.go:89", after := #[{ on := 0, ground := Ground.data }, { on := 16, ground := Ground.chain }, { on := 0, ground := Ground.phase }, { on := 1, ground := Ground.textOnly Departure.lateStores }, { on := 2, ground := Ground.textOnly Departure.lateStores }, { on := 3, ground := Ground.textOnly Departure.lateStoresUnsure }, { on := 4, ground := Ground.textOnly Departure.lateStores }, { on := 5, ground := Ground.textOnly Departure.lateStores }, { on := 6, ground := Ground.textOnly Departure.lateStores }, { on := 7, ground := Ground.textOnly Departure.lateStores }, { on := 8, ground := Ground.textOnly Departure.lateStores }, { on := 9, ground := Ground.textOnly Departure.lateStores }, { on := 10, ground := Ground.textOnly Departure.lateStores }, { on := 11, ground := Ground.textOnly Departure.lateStores }, { on := 12, ground := Ground.textOnly Departure.lateStores }, { on := 13, ground := Ground.textOnly Departure.lateStores }, { on := 14, ground := Ground.textOnly Departure.lateStores }, { on := 15, ground := Ground.textOnly Departure.lateStores }, { on := 16, ground := Ground.textOnly Departure.lateStores }, { on := 17, ground := Ground.textOnly Departure.lateStores }, { on := 18, ground := Ground.textOnly Departure.lateStores }, { on := 19, ground := Ground.textOnly Departure.lateStores }, { on := 20, ground := Ground.textOnly Departure.lateStores }], guard := none }) rfl (fun K' hK' => ?_) AllReadyH.nil
    rw [if_pos (by kernel_rfl)]
    refine wp_store_mid 49 (.tmp 2) (.tmp 49) rfl (w.heap.size + 1) 0 [.int .u8 5, .string key, .string ByteArray.empty, .string ByteArray.empty, .string to, .int .u64 (am : Int)].toArray rfl rfl (there_block HW.2.1 0 6 (by simp)) Tryd.is49 (by simp [Value.oneCell']) ?_
    rw [show ([.int .u8 5, .string key, .string ByteArray.empty, .string ByteArray.empty, .string to, .int .u64 (am : Int)] : List Value).toArray.toList = [.int .u8 5, .string key, .string ByteArray.empty, .string ByteArray.empty, .string to, .int .u64 (am : Int)] from rfl, heap_same0 HW.2.1]
    refine hK'.out _ _ HW (fun _ => ?_)
    clear hK' K'
    try simp only [Act.put]
    refine wpAnyH_take (i := 22) (oi := { dst := some 3, op := Op.assign (Operand.tmp 69), type := 4, pos := "ledger.go:89", after := #[{ on := 20, ground := Ground.data }, { on := 21, ground := Ground.chain }, { on := 0, ground := Ground.phase }, { on := 1, ground := Ground.phase }, { on := 2, ground := Ground.phase }, { on := 3, ground := Ground.phase }, { on := 4, ground := Ground.phase }, { on := 5, ground := Ground.phase }, { on := 6, ground := Ground.phase }, { on := 7, ground := Ground.phase }, { on := 8, ground := Ground.phase }, { on := 9, ground := Ground.phase }, { on := 10, ground := Ground.phase }, { on := 11, ground := Ground.phase }, { on := 12, ground := Ground.phase }, { on := 13, ground := Ground.phase }, { on := 14, ground := Ground.phase }, { on := 15, ground := Ground.phase }, { on := 16, ground := Ground.phase }, { on := 17, ground := Ground.phase }, { on := 18, ground := Ground.phase }, { on := 19, ground := Ground.phase }, { on := 20, ground := Ground.phase }, { on := 21, ground := Ground.phase }], guard := none }) (v := .bool false) rfl (by kernel_rfl) (by kernel_rfl) (by kernel_rfl) (fun _ _ _ h => h) (Or.inl ⟨by kernel_rfl, fun W hSW => by go_simp⟩) (HW) ?_
    try simp only [Act.put, List.setIfInBounds_toArray, List.set_cons_zero, List.set_cons_succ]
    refine wpAnyH_done (by kernel_rfl) ?_ _
    go_wp2_with fail
    (try simp only [Exit.inBlock, Exit.then]); refine bodyPost_ret (ret_ct (g := w.heap.size + 1) (cs := [.int .u8 5, .string key, .string ByteArray.empty, .string ByteArray.empty, .string to, .int .u64 (am : Int)]) rfl rfl rfl (range_all HW.2.1) Tryd.underlying49 rfl Tryd.is49) rfl ?_
    exact ⟨by rw [HE.out]; rfl, HW.2.2⟩
set_option maxHeartbeats 4000000 in
theorem own_5b (kk : UInt8) (key value old to : ByteArray) (am : Nat) (w : World) (hk : (kk.toNat : Int) = 5) (HV : Hid (∀ W, Calls Tryd.prog 40 #[.string to] W fun E w' => E = .returned (.bool true) ∧ W = w')) (HN : Hid ((to.toList == key.toList) = true)) : Calls Tryd.prog 42 #[.agg (opC ⟨kk, key, value, old, to, am⟩).toArray] w fun E w' => OwnP w (⟨kk, key, ByteArray.empty, ByteArray.empty, to, am⟩) (false) E w' := by
  dsimp only [opC]
  obtain ⟨K, hK⟩ : ∃ K : Int, K = kk.toNat := ⟨_, rfl⟩
  have HE := Lib.hid (show opC (⟨kk, key, ByteArray.empty, ByteArray.empty, to, am⟩) = [.int .u8 K, .string key, .string ByteArray.empty, .string ByteArray.empty, .string to, .int .u64 (am : Int)] by rw [hK]; rfl)
  have HB : ∀ o1 o2, Hid (Below w.heap.size w ((w.alloc o1).alloc o2)) := fun _ _ => Lib.hid (((Below.refl _ _).alloc (Nat.le_refl _) _).alloc (by simp) _)
  rw [← hK] at hk ⊢
  clear hK
  subst hk
  go_enter Tryd.func42, Tryd.ntmps42
  go_wp2_with fail
  go_region
  all_goals
    go_wp2_with fail
    refine wp_region_any (by kernel_rfl) ?_
    refine held_gen (G := fun W => wpAny _ _ _ _ _ _ _ W) (fun W => Two w [.int .u8 5, .string key, .string value, .string old, .string to, .int .u64 (am : Int)] [.int .u8 5, .string key, .string ByteArray.empty, .string ByteArray.empty, .string to, .int .u64 (am : Int)] W) ⟨one_new w _ _ _, two_new w _ _ _, by first | exact below_drewN (HB _ _).out _ | exact below_drewN (below_drewN (HB _ _).out _) _⟩ (fun W HW => ?_)
    refine wpAny_of_held (S := fun W => Two w [.int .u8 5, .string key, .string value, .string old, .string to, .int .u64 (am : Int)] [.int .u8 5, .string key, .string ByteArray.empty, .string ByteArray.empty, .string to, .int .u64 (am : Int)] W) _ _ _ _ ?_
    refine wpAnyH_take (i := 0) (oi := { dst := some 49, op := Op.load 49 (Operand.tmp 2), type := 49, pos := "ledger.go:89", after := #[], guard := none }) (v := .agg [.int .u8 5, .string key, .string ByteArray.empty, .string ByteArray.empty, .string to, .int .u64 (am : Int)].toArray) rfl (by kernel_rfl) (by kernel_rfl) (by kernel_rfl) (fun _ _ _ h => h) (Or.inl ⟨by kernel_rfl, fun W hSW => exec_load_mid 49 (.tmp 2) rfl (w.heap.size + 1) 0 rfl [.int .u8 5, .string key, .string ByteArray.empty, .string ByteArray.empty, .string to, .int .u64 (am : Int)] _ (range_all hSW.2.1) Tryd.underlying49 rfl Tryd.is49⟩) (HW) ?_
    try simp only [Act.put, List.setIfInBounds_toArray, List.set_cons_zero, List.set_cons_succ]
    refine wpAnyH_take (i := 1) (oi := { dst := some 50, op := Op.fieldAddr 49 (Operand.tmp 1) 4, type := 0, pos := "ledger.go:89", after := #[], guard := none }) (v := .pointer (some ⟨w.heap.size, 4, none⟩)) rfl (by kernel_rfl) (by kernel_rfl) (by kernel_rfl) (fun _ _ _ h => h) (Or.inl ⟨by kernel_rfl, fun W hSW => by go_simp⟩) (HW) ?_
    try simp only [Act.put, List.setIfInBounds_toArray, List.set_cons_zero, List.set_cons_succ]
    refine wpAnyH_take (i := 2) (oi := { dst := some 51, op := Op.load 9 (Operand.tmp 50), type := 9, pos := "ledger.go:89", after := #[{ on := 1, ground := Ground.data }], guard := none }) (v := .string to) rfl (by kernel_rfl) (by kernel_rfl) (by kernel_rfl) (fun _ _ _ h => h) (Or.inl ⟨by kernel_rfl, fun W hSW => by have hc := block_cell (k := 4) hSW.1 _ rfl; go_simp⟩) (HW) ?_
    try simp only [Act.put, List.setIfInBounds_toArray, List.set_cons_zero, List.set_cons_succ]
    refine wpAnyH_ready (rs := [3]) (by kernel_rfl) (by simp) ?_
    refine AllReadyH.cons (o := { dst := some 52, op := Op.call { callee := Callee.value (Operand.func 40), args := #[Operand.tmp 51], argTypes := #[9] }, type := 4, pos := "ledger.go:89", after := #[{ on := 2, ground := Ground.data }], guard := none }) rfl (fun K' hK' => ?_) AllReadyH.nil
    go_simp
    go_at_call 40
    refine (HV.out _).mono ?_
    rintro E w1 ⟨rfl, rfl⟩
    refine hK'.out _ _ HW (fun _ => ?_)
    clear hK' K'
    try simp only [Act.put, List.setIfInBounds_toArray, List.set_cons_zero, List.set_cons_succ]
    refine wpAnyH_take (i := 4) (oi := { dst := some 53, op := Op.move (Operand.tmp 52), type := 4, pos := "ledger.go:89", after := #[{ on := 3, ground := Ground.data }, { on := 3, ground := Ground.chain }], guard := none }) (v := .bool true) rfl (by kernel_rfl) (by kernel_rfl) (by kernel_rfl) (fun _ _ _ h => h) (Or.inl ⟨by kernel_rfl, fun W hSW => by go_simp⟩) (HW) ?_
    try simp only [Act.put, List.setIfInBounds_toArray, List.set_cons_zero, List.set_cons_succ]
    refine wpAnyH_take (i := 5) (oi := { dst := some 54, op := Op.fieldAddr 49 (Operand.tmp 1) 4, type := 0, pos := "ledger.go:89", after := #[{ on := 4, ground := Ground.guard }], guard := some (4, true) }) (v := .pointer (some ⟨w.heap.size, 4, none⟩)) rfl (by kernel_rfl) (by kernel_rfl) (by kernel_rfl) (fun _ _ _ h => h) (Or.inl ⟨by kernel_rfl, fun W hSW => by go_simp⟩) (HW) ?_
    try simp only [Act.put, List.setIfInBounds_toArray, List.set_cons_zero, List.set_cons_succ]
    refine wpAnyH_take (i := 6) (oi := { dst := some 55, op := Op.load 9 (Operand.tmp 54), type := 9, pos := "ledger.go:89", after := #[{ on := 5, ground := Ground.data }, { on := 4, ground := Ground.guard }], guard := some (4, true) }) (v := .string to) rfl (by kernel_rfl) (by kernel_rfl) (by kernel_rfl) (fun _ _ _ h => h) (Or.inl ⟨by kernel_rfl, fun W hSW => by have hc := block_cell (k := 4) hSW.1 _ rfl; go_simp⟩) (HW) ?_
    try simp only [Act.put, List.setIfInBounds_toArray, List.set_cons_zero, List.set_cons_succ]
    refine wpAnyH_take (i := 7) (oi := { dst := some 56, op := Op.fieldAddr 49 (Operand.tmp 1) 1, type := 0, pos := "ledger.go:89", after := #[{ on := 4, ground := Ground.guard }], guard := some (4, true) }) (v := .pointer (some ⟨w.heap.size, 1, none⟩)) rfl (by kernel_rfl) (by kernel_rfl) (by kernel_rfl) (fun _ _ _ h => h) (Or.inl ⟨by kernel_rfl, fun W hSW => by go_simp⟩) (HW) ?_
    try simp only [Act.put, List.setIfInBounds_toArray, List.set_cons_zero, List.set_cons_succ]
    refine wpAnyH_take (i := 8) (oi := { dst := some 57, op := Op.load 9 (Operand.tmp 56), type := 9, pos := "ledger.go:89", after := #[{ on := 7, ground := Ground.data }, { on := 4, ground := Ground.guard }], guard := some (4, true) }) (v := .string key) rfl (by kernel_rfl) (by kernel_rfl) (by kernel_rfl) (fun _ _ _ h => h) (Or.inl ⟨by kernel_rfl, fun W hSW => by have hc := block_cell (k := 1) hSW.1 _ rfl; go_simp⟩) (HW) ?_
    try simp only [Act.put, List.setIfInBounds_toArray, List.set_cons_zero, List.set_cons_succ]
    refine wpAnyH_take (i := 9) (oi := { dst := some 58, op := Op.binOp BinOp.neq 9 (Operand.tmp 55) (Operand.tmp 57) 9, type := 4, pos := "ledger.go:89", after := #[{ on := 6, ground := Ground.data }, { on := 8, ground := Ground.data }, { on := 4, ground := Ground.guard }], guard := some (4, true) }) (v := .bool false) rfl (by kernel_rfl) (by kernel_rfl) (by kernel_rfl) (fun _ _ _ h => h) (Or.inl ⟨by kernel_rfl, fun W hSW => by have hn := HN.out; go_simp⟩) (HW) ?_
    try simp only [Act.put, List.setIfInBounds_toArray, List.set_cons_zero, List.set_cons_succ]
    refine wpAnyH_take (i := 10) (oi := { dst := some 59, op := Op.pick (Operand.tmp 53) (Operand.tmp 58) (Operand.const (Value.bool false)), type := 4, pos := "ledger.go:89", after := #[{ on := 4, ground := Ground.data }, { on := 9, ground := Ground.data }], guard := none }) (v := .bool false) rfl (by kernel_rfl) (by kernel_rfl) (by kernel_rfl) (fun _ _ _ h => h) (Or.inl ⟨by kernel_rfl, fun W hSW => by go_simp⟩) (HW) ?_
    try simp only [Act.put, List.setIfInBounds_toArray, List.set_cons_zero, List.set_cons_succ]
    refine wpAnyH_take (i := 11) (oi := { dst := some 60, op := Op.move (Operand.tmp 59), type := 4, pos := "ledger.go:89", after := #[{ on := 10, ground := Ground.data }, { on := 4, ground := Ground.chain }], guard := none }) (v := .bool false) rfl (by kernel_rfl) (by kernel_rfl) (by kernel_rfl) (fun _ _ _ h => h) (Or.inl ⟨by kernel_rfl, fun W hSW => by go_simp⟩) (HW) ?_
    try simp only [Act.put, List.setIfInBounds_toArray, List.set_cons_zero, List.set_cons_succ]
    refine wpAnyH_take (i := 12) (oi := { dst := some 61, op := Op.fieldAddr 49 (Operand.tmp 1) 5, type := 0, pos := "ledger.go:89", after := #[{ on := 11, ground := Ground.guard }], guard := some (11, true) }) (v := undef) rfl (by kernel_rfl) (by kernel_rfl) (by kernel_rfl) (fun _ _ _ h => h) (Or.inr ⟨by kernel_rfl, rfl⟩) (HW) ?_
    try simp only [Act.put, List.setIfInBounds_toArray, List.set_cons_zero, List.set_cons_succ]
    refine wpAnyH_take (i := 13) (oi := { dst := some 62, op := Op.load 30 (Operand.tmp 61), type := 30, pos := "ledger.go:89", after := #[{ on := 12, ground := Ground.data }, { on := 11, ground := Ground.guard }], guard := some (11, true) }) (v := undef) rfl (by kernel_rfl) (by kernel_rfl) (by kernel_rfl) (fun _ _ _ h => h) (Or.inr ⟨by kernel_rfl, rfl⟩) (HW) ?_
    try simp only [Act.put, List.setIfInBounds_toArray, List.set_cons_zero, List.set_cons_succ]
    refine wpAnyH_take (i := 14) (oi := { dst := some 63, op := Op.binOp BinOp.geq 30 (Operand.tmp 62) (Operand.const (Value.int IntKind.u64 1)) 30, type := 4, pos := "ledger.go:89", after := #[{ on := 13, ground := Ground.data }, { on := 11, ground := Ground.guard }], guard := some (11, true) }) (v := undef) rfl (by kernel_rfl) (by kernel_rfl) (by kernel_rfl) (fun _ _ _ h => h) (Or.inr ⟨by kernel_rfl, rfl⟩) (HW) ?_
    try simp only [Act.put, List.setIfInBounds_toArray, List.set_cons_zero, List.set_cons_succ]
    refine wpAnyH_take (i := 15) (oi := { dst := some 64, op := Op.pick (Operand.tmp 60) (Operand.tmp 63) (Operand.const (Value.bool false)), type := 4, pos := "ledger.go:89", after := #[{ on := 11, ground := Ground.data }, { on := 14, ground := Ground.data }], guard := none }) (v := .bool false) rfl (by kernel_rfl) (by kernel_rfl) (by kernel_rfl) (fun _ _ _ h => h) (Or.inl ⟨by kernel_rfl, fun W hSW => by go_simp⟩) (HW) ?_
    try simp only [Act.put, List.setIfInBounds_toArray, List.set_cons_zero, List.set_cons_succ]
    refine wpAnyH_take (i := 16) (oi := { dst := some 65, op := Op.move (Operand.tmp 64), type := 4, pos := "ledger.go:89", after := #[{ on := 15, ground := Ground.data }, { on := 11, ground := Ground.chain }], guard := none }) (v := .bool false) rfl (by kernel_rfl) (by kernel_rfl) (by kernel_rfl) (fun _ _ _ h => h) (Or.inl ⟨by kernel_rfl, fun W hSW => by go_simp⟩) (HW) ?_
    try simp only [Act.put, List.setIfInBounds_toArray, List.set_cons_zero, List.set_cons_succ]
    refine wpAnyH_take (i := 17) (oi := { dst := some 66, op := Op.fieldAddr 49 (Operand.tmp 1) 5, type := 0, pos := "ledger.go:89", after := #[{ on := 16, ground := Ground.guard }, { on := 21, ground := Ground.gcOnly Departure.lateStores }], guard := some (16, true) }) (v := undef) rfl (by kernel_rfl) (by kernel_rfl) (by kernel_rfl) (fun _ _ _ h => h) (Or.inr ⟨by kernel_rfl, rfl⟩) (HW) ?_
    try simp only [Act.put, List.setIfInBounds_toArray, List.set_cons_zero, List.set_cons_succ]
    refine wpAnyH_take (i := 18) (oi := { dst := some 67, op := Op.load 30 (Operand.tmp 66), type := 30, pos := "ledger.go:89", after := #[{ on := 17, ground := Ground.data }, { on := 16, ground := Ground.guard }, { on := 21, ground := Ground.gcOnly Departure.lateStores }], guard := some (16, true) }) (v := undef) rfl (by kernel_rfl) (by kernel_rfl) (by kernel_rfl) (fun _ _ _ h => h) (Or.inr ⟨by kernel_rfl, rfl⟩) (HW) ?_
    try simp only [Act.put, List.setIfInBounds_toArray, List.set_cons_zero, List.set_cons_succ]
    refine wpAnyH_take (i := 19) (oi := { dst := some 68, op := Op.binOp BinOp.leq 30 (Operand.tmp 67) (Operand.const (Value.int IntKind.u64 1125899906842624)) 30, type := 4, pos := "ledger.go:89", after := #[{ on := 18, ground := Ground.data }, { on := 16, ground := Ground.guard }, { on := 21, ground := Ground.gcOnly Departure.lateStores }], guard := some (16, true) }) (v := undef) rfl (by kernel_rfl) (by kernel_rfl) (by kernel_rfl) (fun _ _ _ h => h) (Or.inr ⟨by kernel_rfl, rfl⟩) (HW) ?_
    try simp only [Act.put, List.setIfInBounds_toArray, List.set_cons_zero, List.set_cons_succ]
    refine wpAnyH_take (i := 20) (oi := { dst := some 69, op := Op.pick (Operand.tmp 65) (Operand.tmp 68) (Operand.const (Value.bool false)), type := 4, pos := "ledger.go:89", after := #[{ on := 16, ground := Ground.data }, { on := 19, ground := Ground.data }, { on := 21, ground := Ground.gcOnly Departure.lateStores }], guard := none }) (v := .bool false) rfl (by kernel_rfl) (by kernel_rfl) (by kernel_rfl) (fun _ _ _ h => h) (Or.inl ⟨by kernel_rfl, fun W hSW => by go_simp⟩) (HW) ?_
    try simp only [Act.put, List.setIfInBounds_toArray, List.set_cons_zero, List.set_cons_succ]
    refine wpAnyH_ready (rs := [21]) (by kernel_rfl) (by simp) ?_
    refine AllReadyH.cons (o := { dst := none, op := Op.store 49 (Operand.tmp 2) (Operand.tmp 49), type := 0, pos := "ledger.go:89", after := #[{ on := 0, ground := Ground.data }, { on := 16, ground := Ground.chain }, { on := 0, ground := Ground.phase }, { on := 1, ground := Ground.textOnly Departure.lateStores }, { on := 2, ground := Ground.textOnly Departure.lateStores }, { on := 3, ground := Ground.textOnly Departure.lateStoresUnsure }, { on := 4, ground := Ground.textOnly Departure.lateStores }, { on := 5, ground := Ground.textOnly Departure.lateStores }, { on := 6, ground := Ground.textOnly Departure.lateStores }, { on := 7, ground := Ground.textOnly Departure.lateStores }, { on := 8, ground := Ground.textOnly Departure.lateStores }, { on := 9, ground := Ground.textOnly Departure.lateStores }, { on := 10, ground := Ground.textOnly Departure.lateStores }, { on := 11, ground := Ground.textOnly Departure.lateStores }, { on := 12, ground := Ground.textOnly Departure.lateStores }, { on := 13, ground := Ground.textOnly Departure.lateStores }, { on := 14, ground := Ground.textOnly Departure.lateStores }, { on := 15, ground := Ground.textOnly Departure.lateStores }, { on := 16, ground := Ground.textOnly Departure.lateStores }, { on := 17, ground := Ground.textOnly Departure.lateStores }, { on := 18, ground := Ground.textOnly Departure.lateStores }, { on := 19, ground := Ground.textOnly Departure.lateStores }, { on := 20, ground := Ground.textOnly Departure.lateStores }], guard := none }) rfl (fun K' hK' => ?_) AllReadyH.nil
    rw [if_pos (by kernel_rfl)]
    refine wp_store_mid 49 (.tmp 2) (.tmp 49) rfl (w.heap.size + 1) 0 [.int .u8 5, .string key, .string ByteArray.empty, .string ByteArray.empty, .string to, .int .u64 (am : Int)].toArray rfl rfl (there_block HW.2.1 0 6 (by simp)) Tryd.is49 (by simp [Value.oneCell']) ?_
    rw [show ([.int .u8 5, .string key, .string ByteArray.empty, .string ByteArray.empty, .string to, .int .u64 (am : Int)] : List Value).toArray.toList = [.int .u8 5, .string key, .string ByteArray.empty, .string ByteArray.empty, .string to, .int .u64 (am : Int)] from rfl, heap_same0 HW.2.1]
    refine hK'.out _ _ HW (fun _ => ?_)
    clear hK' K'
    try simp only [Act.put]
    refine wpAnyH_take (i := 22) (oi := { dst := some 3, op := Op.assign (Operand.tmp 69), type := 4, pos := "ledger.go:89", after := #[{ on := 20, ground := Ground.data }, { on := 21, ground := Ground.chain }, { on := 0, ground := Ground.phase }, { on := 1, ground := Ground.phase }, { on := 2, ground := Ground.phase }, { on := 3, ground := Ground.phase }, { on := 4, ground := Ground.phase }, { on := 5, ground := Ground.phase }, { on := 6, ground := Ground.phase }, { on := 7, ground := Ground.phase }, { on := 8, ground := Ground.phase }, { on := 9, ground := Ground.phase }, { on := 10, ground := Ground.phase }, { on := 11, ground := Ground.phase }, { on := 12, ground := Ground.phase }, { on := 13, ground := Ground.phase }, { on := 14, ground := Ground.phase }, { on := 15, ground := Ground.phase }, { on := 16, ground := Ground.phase }, { on := 17, ground := Ground.phase }, { on := 18, ground := Ground.phase }, { on := 19, ground := Ground.phase }, { on := 20, ground := Ground.phase }, { on := 21, ground := Ground.phase }], guard := none }) (v := .bool false) rfl (by kernel_rfl) (by kernel_rfl) (by kernel_rfl) (fun _ _ _ h => h) (Or.inl ⟨by kernel_rfl, fun W hSW => by go_simp⟩) (HW) ?_
    try simp only [Act.put, List.setIfInBounds_toArray, List.set_cons_zero, List.set_cons_succ]
    refine wpAnyH_done (by kernel_rfl) ?_ _
    go_wp2_with fail
    (try simp only [Exit.inBlock, Exit.then]); refine bodyPost_ret (ret_ct (g := w.heap.size + 1) (cs := [.int .u8 5, .string key, .string ByteArray.empty, .string ByteArray.empty, .string to, .int .u64 (am : Int)]) rfl rfl rfl (range_all HW.2.1) Tryd.underlying49 rfl Tryd.is49) rfl ?_
    exact ⟨by rw [HE.out]; rfl, HW.2.2⟩
set_option maxHeartbeats 4000000 in
theorem own_5c (kk : UInt8) (key value old to : ByteArray) (am : Nat) (w : World) (hk : (kk.toNat : Int) = 5) (HV : Hid (∀ W, Calls Tryd.prog 40 #[.string to] W fun E w' => E = .returned (.bool true) ∧ W = w')) (HN : Hid ((to.toList == key.toList) = false)) (H1 : Hid ((am : Int) < 1)) : Calls Tryd.prog 42 #[.agg (opC ⟨kk, key, value, old, to, am⟩).toArray] w fun E w' => OwnP w (⟨kk, key, ByteArray.empty, ByteArray.empty, to, am⟩) (false) E w' := by
  dsimp only [opC]
  obtain ⟨K, hK⟩ : ∃ K : Int, K = kk.toNat := ⟨_, rfl⟩
  have HE := Lib.hid (show opC (⟨kk, key, ByteArray.empty, ByteArray.empty, to, am⟩) = [.int .u8 K, .string key, .string ByteArray.empty, .string ByteArray.empty, .string to, .int .u64 (am : Int)] by rw [hK]; rfl)
  have HB : ∀ o1 o2, Hid (Below w.heap.size w ((w.alloc o1).alloc o2)) := fun _ _ => Lib.hid (((Below.refl _ _).alloc (Nat.le_refl _) _).alloc (by simp) _)
  rw [← hK] at hk ⊢
  clear hK
  subst hk
  go_enter Tryd.func42, Tryd.ntmps42
  go_wp2_with fail
  go_region
  all_goals
    go_wp2_with fail
    refine wp_region_any (by kernel_rfl) ?_
    refine held_gen (G := fun W => wpAny _ _ _ _ _ _ _ W) (fun W => Two w [.int .u8 5, .string key, .string value, .string old, .string to, .int .u64 (am : Int)] [.int .u8 5, .string key, .string ByteArray.empty, .string ByteArray.empty, .string to, .int .u64 (am : Int)] W) ⟨one_new w _ _ _, two_new w _ _ _, by first | exact below_drewN (HB _ _).out _ | exact below_drewN (below_drewN (HB _ _).out _) _⟩ (fun W HW => ?_)
    refine wpAny_of_held (S := fun W => Two w [.int .u8 5, .string key, .string value, .string old, .string to, .int .u64 (am : Int)] [.int .u8 5, .string key, .string ByteArray.empty, .string ByteArray.empty, .string to, .int .u64 (am : Int)] W) _ _ _ _ ?_
    refine wpAnyH_take (i := 0) (oi := { dst := some 49, op := Op.load 49 (Operand.tmp 2), type := 49, pos := "ledger.go:89", after := #[], guard := none }) (v := .agg [.int .u8 5, .string key, .string ByteArray.empty, .string ByteArray.empty, .string to, .int .u64 (am : Int)].toArray) rfl (by kernel_rfl) (by kernel_rfl) (by kernel_rfl) (fun _ _ _ h => h) (Or.inl ⟨by kernel_rfl, fun W hSW => exec_load_mid 49 (.tmp 2) rfl (w.heap.size + 1) 0 rfl [.int .u8 5, .string key, .string ByteArray.empty, .string ByteArray.empty, .string to, .int .u64 (am : Int)] _ (range_all hSW.2.1) Tryd.underlying49 rfl Tryd.is49⟩) (HW) ?_
    try simp only [Act.put, List.setIfInBounds_toArray, List.set_cons_zero, List.set_cons_succ]
    refine wpAnyH_take (i := 1) (oi := { dst := some 50, op := Op.fieldAddr 49 (Operand.tmp 1) 4, type := 0, pos := "ledger.go:89", after := #[], guard := none }) (v := .pointer (some ⟨w.heap.size, 4, none⟩)) rfl (by kernel_rfl) (by kernel_rfl) (by kernel_rfl) (fun _ _ _ h => h) (Or.inl ⟨by kernel_rfl, fun W hSW => by go_simp⟩) (HW) ?_
    try simp only [Act.put, List.setIfInBounds_toArray, List.set_cons_zero, List.set_cons_succ]
    refine wpAnyH_take (i := 2) (oi := { dst := some 51, op := Op.load 9 (Operand.tmp 50), type := 9, pos := "ledger.go:89", after := #[{ on := 1, ground := Ground.data }], guard := none }) (v := .string to) rfl (by kernel_rfl) (by kernel_rfl) (by kernel_rfl) (fun _ _ _ h => h) (Or.inl ⟨by kernel_rfl, fun W hSW => by have hc := block_cell (k := 4) hSW.1 _ rfl; go_simp⟩) (HW) ?_
    try simp only [Act.put, List.setIfInBounds_toArray, List.set_cons_zero, List.set_cons_succ]
    refine wpAnyH_ready (rs := [3]) (by kernel_rfl) (by simp) ?_
    refine AllReadyH.cons (o := { dst := some 52, op := Op.call { callee := Callee.value (Operand.func 40), args := #[Operand.tmp 51], argTypes := #[9] }, type := 4, pos := "ledger.go:89", after := #[{ on := 2, ground := Ground.data }], guard := none }) rfl (fun K' hK' => ?_) AllReadyH.nil
    go_simp
    go_at_call 40
    refine (HV.out _).mono ?_
    rintro E w1 ⟨rfl, rfl⟩
    refine hK'.out _ _ HW (fun _ => ?_)
    clear hK' K'
    try simp only [Act.put, List.setIfInBounds_toArray, List.set_cons_zero, List.set_cons_succ]
    refine wpAnyH_take (i := 4) (oi := { dst := some 53, op := Op.move (Operand.tmp 52), type := 4, pos := "ledger.go:89", after := #[{ on := 3, ground := Ground.data }, { on := 3, ground := Ground.chain }], guard := none }) (v := .bool true) rfl (by kernel_rfl) (by kernel_rfl) (by kernel_rfl) (fun _ _ _ h => h) (Or.inl ⟨by kernel_rfl, fun W hSW => by go_simp⟩) (HW) ?_
    try simp only [Act.put, List.setIfInBounds_toArray, List.set_cons_zero, List.set_cons_succ]
    refine wpAnyH_take (i := 5) (oi := { dst := some 54, op := Op.fieldAddr 49 (Operand.tmp 1) 4, type := 0, pos := "ledger.go:89", after := #[{ on := 4, ground := Ground.guard }], guard := some (4, true) }) (v := .pointer (some ⟨w.heap.size, 4, none⟩)) rfl (by kernel_rfl) (by kernel_rfl) (by kernel_rfl) (fun _ _ _ h => h) (Or.inl ⟨by kernel_rfl, fun W hSW => by go_simp⟩) (HW) ?_
    try simp only [Act.put, List.setIfInBounds_toArray, List.set_cons_zero, List.set_cons_succ]
    refine wpAnyH_take (i := 6) (oi := { dst := some 55, op := Op.load 9 (Operand.tmp 54), type := 9, pos := "ledger.go:89", after := #[{ on := 5, ground := Ground.data }, { on := 4, ground := Ground.guard }], guard := some (4, true) }) (v := .string to) rfl (by kernel_rfl) (by kernel_rfl) (by kernel_rfl) (fun _ _ _ h => h) (Or.inl ⟨by kernel_rfl, fun W hSW => by have hc := block_cell (k := 4) hSW.1 _ rfl; go_simp⟩) (HW) ?_
    try simp only [Act.put, List.setIfInBounds_toArray, List.set_cons_zero, List.set_cons_succ]
    refine wpAnyH_take (i := 7) (oi := { dst := some 56, op := Op.fieldAddr 49 (Operand.tmp 1) 1, type := 0, pos := "ledger.go:89", after := #[{ on := 4, ground := Ground.guard }], guard := some (4, true) }) (v := .pointer (some ⟨w.heap.size, 1, none⟩)) rfl (by kernel_rfl) (by kernel_rfl) (by kernel_rfl) (fun _ _ _ h => h) (Or.inl ⟨by kernel_rfl, fun W hSW => by go_simp⟩) (HW) ?_
    try simp only [Act.put, List.setIfInBounds_toArray, List.set_cons_zero, List.set_cons_succ]
    refine wpAnyH_take (i := 8) (oi := { dst := some 57, op := Op.load 9 (Operand.tmp 56), type := 9, pos := "ledger.go:89", after := #[{ on := 7, ground := Ground.data }, { on := 4, ground := Ground.guard }], guard := some (4, true) }) (v := .string key) rfl (by kernel_rfl) (by kernel_rfl) (by kernel_rfl) (fun _ _ _ h => h) (Or.inl ⟨by kernel_rfl, fun W hSW => by have hc := block_cell (k := 1) hSW.1 _ rfl; go_simp⟩) (HW) ?_
    try simp only [Act.put, List.setIfInBounds_toArray, List.set_cons_zero, List.set_cons_succ]
    refine wpAnyH_take (i := 9) (oi := { dst := some 58, op := Op.binOp BinOp.neq 9 (Operand.tmp 55) (Operand.tmp 57) 9, type := 4, pos := "ledger.go:89", after := #[{ on := 6, ground := Ground.data }, { on := 8, ground := Ground.data }, { on := 4, ground := Ground.guard }], guard := some (4, true) }) (v := .bool true) rfl (by kernel_rfl) (by kernel_rfl) (by kernel_rfl) (fun _ _ _ h => h) (Or.inl ⟨by kernel_rfl, fun W hSW => by have hn := HN.out; go_simp⟩) (HW) ?_
    try simp only [Act.put, List.setIfInBounds_toArray, List.set_cons_zero, List.set_cons_succ]
    refine wpAnyH_take (i := 10) (oi := { dst := some 59, op := Op.pick (Operand.tmp 53) (Operand.tmp 58) (Operand.const (Value.bool false)), type := 4, pos := "ledger.go:89", after := #[{ on := 4, ground := Ground.data }, { on := 9, ground := Ground.data }], guard := none }) (v := .bool true) rfl (by kernel_rfl) (by kernel_rfl) (by kernel_rfl) (fun _ _ _ h => h) (Or.inl ⟨by kernel_rfl, fun W hSW => by go_simp⟩) (HW) ?_
    try simp only [Act.put, List.setIfInBounds_toArray, List.set_cons_zero, List.set_cons_succ]
    refine wpAnyH_take (i := 11) (oi := { dst := some 60, op := Op.move (Operand.tmp 59), type := 4, pos := "ledger.go:89", after := #[{ on := 10, ground := Ground.data }, { on := 4, ground := Ground.chain }], guard := none }) (v := .bool true) rfl (by kernel_rfl) (by kernel_rfl) (by kernel_rfl) (fun _ _ _ h => h) (Or.inl ⟨by kernel_rfl, fun W hSW => by go_simp⟩) (HW) ?_
    try simp only [Act.put, List.setIfInBounds_toArray, List.set_cons_zero, List.set_cons_succ]
    refine wpAnyH_take (i := 12) (oi := { dst := some 61, op := Op.fieldAddr 49 (Operand.tmp 1) 5, type := 0, pos := "ledger.go:89", after := #[{ on := 11, ground := Ground.guard }], guard := some (11, true) }) (v := .pointer (some ⟨w.heap.size, 5, none⟩)) rfl (by kernel_rfl) (by kernel_rfl) (by kernel_rfl) (fun _ _ _ h => h) (Or.inl ⟨by kernel_rfl, fun W hSW => by go_simp⟩) (HW) ?_
    try simp only [Act.put, List.setIfInBounds_toArray, List.set_cons_zero, List.set_cons_succ]
    refine wpAnyH_take (i := 13) (oi := { dst := some 62, op := Op.load 30 (Operand.tmp 61), type := 30, pos := "ledger.go:89", after := #[{ on := 12, ground := Ground.data }, { on := 11, ground := Ground.guard }], guard := some (11, true) }) (v := .int .u64 (am : Int)) rfl (by kernel_rfl) (by kernel_rfl) (by kernel_rfl) (fun _ _ _ h => h) (Or.inl ⟨by kernel_rfl, fun W hSW => by have hc := block_cell (k := 5) hSW.1 _ rfl; go_simp⟩) (HW) ?_
    try simp only [Act.put, List.setIfInBounds_toArray, List.set_cons_zero, List.set_cons_succ]
    refine wpAnyH_take (i := 14) (oi := { dst := some 63, op := Op.binOp BinOp.geq 30 (Operand.tmp 62) (Operand.const (Value.int IntKind.u64 1)) 30, type := 4, pos := "ledger.go:89", after := #[{ on := 13, ground := Ground.data }, { on := 11, ground := Ground.guard }], guard := some (11, true) }) (v := .bool false) rfl (by kernel_rfl) (by kernel_rfl) (by kernel_rfl) (fun _ _ _ h => h) (Or.inl ⟨by kernel_rfl, fun W hSW => by have hn := H1.out; go_simp⟩) (HW) ?_
    try simp only [Act.put, List.setIfInBounds_toArray, List.set_cons_zero, List.set_cons_succ]
    refine wpAnyH_take (i := 15) (oi := { dst := some 64, op := Op.pick (Operand.tmp 60) (Operand.tmp 63) (Operand.const (Value.bool false)), type := 4, pos := "ledger.go:89", after := #[{ on := 11, ground := Ground.data }, { on := 14, ground := Ground.data }], guard := none }) (v := .bool false) rfl (by kernel_rfl) (by kernel_rfl) (by kernel_rfl) (fun _ _ _ h => h) (Or.inl ⟨by kernel_rfl, fun W hSW => by go_simp⟩) (HW) ?_
    try simp only [Act.put, List.setIfInBounds_toArray, List.set_cons_zero, List.set_cons_succ]
    refine wpAnyH_take (i := 16) (oi := { dst := some 65, op := Op.move (Operand.tmp 64), type := 4, pos := "ledger.go:89", after := #[{ on := 15, ground := Ground.data }, { on := 11, ground := Ground.chain }], guard := none }) (v := .bool false) rfl (by kernel_rfl) (by kernel_rfl) (by kernel_rfl) (fun _ _ _ h => h) (Or.inl ⟨by kernel_rfl, fun W hSW => by go_simp⟩) (HW) ?_
    try simp only [Act.put, List.setIfInBounds_toArray, List.set_cons_zero, List.set_cons_succ]
    refine wpAnyH_take (i := 17) (oi := { dst := some 66, op := Op.fieldAddr 49 (Operand.tmp 1) 5, type := 0, pos := "ledger.go:89", after := #[{ on := 16, ground := Ground.guard }, { on := 21, ground := Ground.gcOnly Departure.lateStores }], guard := some (16, true) }) (v := undef) rfl (by kernel_rfl) (by kernel_rfl) (by kernel_rfl) (fun _ _ _ h => h) (Or.inr ⟨by kernel_rfl, rfl⟩) (HW) ?_
    try simp only [Act.put, List.setIfInBounds_toArray, List.set_cons_zero, List.set_cons_succ]
    refine wpAnyH_take (i := 18) (oi := { dst := some 67, op := Op.load 30 (Operand.tmp 66), type := 30, pos := "ledger.go:89", after := #[{ on := 17, ground := Ground.data }, { on := 16, ground := Ground.guard }, { on := 21, ground := Ground.gcOnly Departure.lateStores }], guard := some (16, true) }) (v := undef) rfl (by kernel_rfl) (by kernel_rfl) (by kernel_rfl) (fun _ _ _ h => h) (Or.inr ⟨by kernel_rfl, rfl⟩) (HW) ?_
    try simp only [Act.put, List.setIfInBounds_toArray, List.set_cons_zero, List.set_cons_succ]
    refine wpAnyH_take (i := 19) (oi := { dst := some 68, op := Op.binOp BinOp.leq 30 (Operand.tmp 67) (Operand.const (Value.int IntKind.u64 1125899906842624)) 30, type := 4, pos := "ledger.go:89", after := #[{ on := 18, ground := Ground.data }, { on := 16, ground := Ground.guard }, { on := 21, ground := Ground.gcOnly Departure.lateStores }], guard := some (16, true) }) (v := undef) rfl (by kernel_rfl) (by kernel_rfl) (by kernel_rfl) (fun _ _ _ h => h) (Or.inr ⟨by kernel_rfl, rfl⟩) (HW) ?_
    try simp only [Act.put, List.setIfInBounds_toArray, List.set_cons_zero, List.set_cons_succ]
    refine wpAnyH_take (i := 20) (oi := { dst := some 69, op := Op.pick (Operand.tmp 65) (Operand.tmp 68) (Operand.const (Value.bool false)), type := 4, pos := "ledger.go:89", after := #[{ on := 16, ground := Ground.data }, { on := 19, ground := Ground.data }, { on := 21, ground := Ground.gcOnly Departure.lateStores }], guard := none }) (v := .bool false) rfl (by kernel_rfl) (by kernel_rfl) (by kernel_rfl) (fun _ _ _ h => h) (Or.inl ⟨by kernel_rfl, fun W hSW => by go_simp⟩) (HW) ?_
    try simp only [Act.put, List.setIfInBounds_toArray, List.set_cons_zero, List.set_cons_succ]
    refine wpAnyH_ready (rs := [21]) (by kernel_rfl) (by simp) ?_
    refine AllReadyH.cons (o := { dst := none, op := Op.store 49 (Operand.tmp 2) (Operand.tmp 49), type := 0, pos := "ledger.go:89", after := #[{ on := 0, ground := Ground.data }, { on := 16, ground := Ground.chain }, { on := 0, ground := Ground.phase }, { on := 1, ground := Ground.textOnly Departure.lateStores }, { on := 2, ground := Ground.textOnly Departure.lateStores }, { on := 3, ground := Ground.textOnly Departure.lateStoresUnsure }, { on := 4, ground := Ground.textOnly Departure.lateStores }, { on := 5, ground := Ground.textOnly Departure.lateStores }, { on := 6, ground := Ground.textOnly Departure.lateStores }, { on := 7, ground := Ground.textOnly Departure.lateStores }, { on := 8, ground := Ground.textOnly Departure.lateStores }, { on := 9, ground := Ground.textOnly Departure.lateStores }, { on := 10, ground := Ground.textOnly Departure.lateStores }, { on := 11, ground := Ground.textOnly Departure.lateStores }, { on := 12, ground := Ground.textOnly Departure.lateStores }, { on := 13, ground := Ground.textOnly Departure.lateStores }, { on := 14, ground := Ground.textOnly Departure.lateStores }, { on := 15, ground := Ground.textOnly Departure.lateStores }, { on := 16, ground := Ground.textOnly Departure.lateStores }, { on := 17, ground := Ground.textOnly Departure.lateStores }, { on := 18, ground := Ground.textOnly Departure.lateStores }, { on := 19, ground := Ground.textOnly Departure.lateStores }, { on := 20, ground := Ground.textOnly Departure.lateStores }], guard := none }) rfl (fun K' hK' => ?_) AllReadyH.nil
    rw [if_pos (by kernel_rfl)]
    refine wp_store_mid 49 (.tmp 2) (.tmp 49) rfl (w.heap.size + 1) 0 [.int .u8 5, .string key, .string ByteArray.empty, .string ByteArray.empty, .string to, .int .u64 (am : Int)].toArray rfl rfl (there_block HW.2.1 0 6 (by simp)) Tryd.is49 (by simp [Value.oneCell']) ?_
    rw [show ([.int .u8 5, .string key, .string ByteArray.empty, .string ByteArray.empty, .string to, .int .u64 (am : Int)] : List Value).toArray.toList = [.int .u8 5, .string key, .string ByteArray.empty, .string ByteArray.empty, .string to, .int .u64 (am : Int)] from rfl, heap_same0 HW.2.1]
    refine hK'.out _ _ HW (fun _ => ?_)
    clear hK' K'
    try simp only [Act.put]
    refine wpAnyH_take (i := 22) (oi := { dst := some 3, op := Op.assign (Operand.tmp 69), type := 4, pos := "ledger.go:89", after := #[{ on := 20, ground := Ground.data }, { on := 21, ground := Ground.chain }, { on := 0, ground := Ground.phase }, { on := 1, ground := Ground.phase }, { on := 2, ground := Ground.phase }, { on := 3, ground := Ground.phase }, { on := 4, ground := Ground.phase }, { on := 5, ground := Ground.phase }, { on := 6, ground := Ground.phase }, { on := 7, ground := Ground.phase }, { on := 8, ground := Ground.phase }, { on := 9, ground := Ground.phase }, { on := 10, ground := Ground.phase }, { on := 11, ground := Ground.phase }, { on := 12, ground := Ground.phase }, { on := 13, ground := Ground.phase }, { on := 14, ground := Ground.phase }, { on := 15, ground := Ground.phase }, { on := 16, ground := Ground.phase }, { on := 17, ground := Ground.phase }, { on := 18, ground := Ground.phase }, { on := 19, ground := Ground.phase }, { on := 20, ground := Ground.phase }, { on := 21, ground := Ground.phase }], guard := none }) (v := .bool false) rfl (by kernel_rfl) (by kernel_rfl) (by kernel_rfl) (fun _ _ _ h => h) (Or.inl ⟨by kernel_rfl, fun W hSW => by go_simp⟩) (HW) ?_
    try simp only [Act.put, List.setIfInBounds_toArray, List.set_cons_zero, List.set_cons_succ]
    refine wpAnyH_done (by kernel_rfl) ?_ _
    go_wp2_with fail
    (try simp only [Exit.inBlock, Exit.then]); refine bodyPost_ret (ret_ct (g := w.heap.size + 1) (cs := [.int .u8 5, .string key, .string ByteArray.empty, .string ByteArray.empty, .string to, .int .u64 (am : Int)]) rfl rfl rfl (range_all HW.2.1) Tryd.underlying49 rfl Tryd.is49) rfl ?_
    exact ⟨by rw [HE.out]; rfl, HW.2.2⟩
set_option maxHeartbeats 4000000 in
theorem own_5d (kk : UInt8) (key value old to : ByteArray) (am : Nat) (w : World) (hk : (kk.toNat : Int) = 5) (HV : Hid (∀ W, Calls Tryd.prog 40 #[.string to] W fun E w' => E = .returned (.bool true) ∧ W = w')) (HN : Hid ((to.toList == key.toList) = false)) (H1 : Hid (¬ ((am : Int) < 1))) (H2 : Hid (1125899906842624 < (am : Int))) : Calls Tryd.prog 42 #[.agg (opC ⟨kk, key, value, old, to, am⟩).toArray] w fun E w' => OwnP w (⟨kk, key, ByteArray.empty, ByteArray.empty, to, am⟩) (false) E w' := by
  dsimp only [opC]
  obtain ⟨K, hK⟩ : ∃ K : Int, K = kk.toNat := ⟨_, rfl⟩
  have HE := Lib.hid (show opC (⟨kk, key, ByteArray.empty, ByteArray.empty, to, am⟩) = [.int .u8 K, .string key, .string ByteArray.empty, .string ByteArray.empty, .string to, .int .u64 (am : Int)] by rw [hK]; rfl)
  have HB : ∀ o1 o2, Hid (Below w.heap.size w ((w.alloc o1).alloc o2)) := fun _ _ => Lib.hid (((Below.refl _ _).alloc (Nat.le_refl _) _).alloc (by simp) _)
  rw [← hK] at hk ⊢
  clear hK
  subst hk
  go_enter Tryd.func42, Tryd.ntmps42
  go_wp2_with fail
  go_region
  all_goals
    go_wp2_with fail
    refine wp_region_any (by kernel_rfl) ?_
    refine held_gen (G := fun W => wpAny _ _ _ _ _ _ _ W) (fun W => Two w [.int .u8 5, .string key, .string value, .string old, .string to, .int .u64 (am : Int)] [.int .u8 5, .string key, .string ByteArray.empty, .string ByteArray.empty, .string to, .int .u64 (am : Int)] W) ⟨one_new w _ _ _, two_new w _ _ _, by first | exact below_drewN (HB _ _).out _ | exact below_drewN (below_drewN (HB _ _).out _) _⟩ (fun W HW => ?_)
    refine wpAny_of_held (S := fun W => Two w [.int .u8 5, .string key, .string value, .string old, .string to, .int .u64 (am : Int)] [.int .u8 5, .string key, .string ByteArray.empty, .string ByteArray.empty, .string to, .int .u64 (am : Int)] W) _ _ _ _ ?_
    refine wpAnyH_take (i := 0) (oi := { dst := some 49, op := Op.load 49 (Operand.tmp 2), type := 49, pos := "ledger.go:89", after := #[], guard := none }) (v := .agg [.int .u8 5, .string key, .string ByteArray.empty, .string ByteArray.empty, .string to, .int .u64 (am : Int)].toArray) rfl (by kernel_rfl) (by kernel_rfl) (by kernel_rfl) (fun _ _ _ h => h) (Or.inl ⟨by kernel_rfl, fun W hSW => exec_load_mid 49 (.tmp 2) rfl (w.heap.size + 1) 0 rfl [.int .u8 5, .string key, .string ByteArray.empty, .string ByteArray.empty, .string to, .int .u64 (am : Int)] _ (range_all hSW.2.1) Tryd.underlying49 rfl Tryd.is49⟩) (HW) ?_
    try simp only [Act.put, List.setIfInBounds_toArray, List.set_cons_zero, List.set_cons_succ]
    refine wpAnyH_take (i := 1) (oi := { dst := some 50, op := Op.fieldAddr 49 (Operand.tmp 1) 4, type := 0, pos := "ledger.go:89", after := #[], guard := none }) (v := .pointer (some ⟨w.heap.size, 4, none⟩)) rfl (by kernel_rfl) (by kernel_rfl) (by kernel_rfl) (fun _ _ _ h => h) (Or.inl ⟨by kernel_rfl, fun W hSW => by go_simp⟩) (HW) ?_
    try simp only [Act.put, List.setIfInBounds_toArray, List.set_cons_zero, List.set_cons_succ]
    refine wpAnyH_take (i := 2) (oi := { dst := some 51, op := Op.load 9 (Operand.tmp 50), type := 9, pos := "ledger.go:89", after := #[{ on := 1, ground := Ground.data }], guard := none }) (v := .string to) rfl (by kernel_rfl) (by kernel_rfl) (by kernel_rfl) (fun _ _ _ h => h) (Or.inl ⟨by kernel_rfl, fun W hSW => by have hc := block_cell (k := 4) hSW.1 _ rfl; go_simp⟩) (HW) ?_
    try simp only [Act.put, List.setIfInBounds_toArray, List.set_cons_zero, List.set_cons_succ]
    refine wpAnyH_ready (rs := [3]) (by kernel_rfl) (by simp) ?_
    refine AllReadyH.cons (o := { dst := some 52, op := Op.call { callee := Callee.value (Operand.func 40), args := #[Operand.tmp 51], argTypes := #[9] }, type := 4, pos := "ledger.go:89", after := #[{ on := 2, ground := Ground.data }], guard := none }) rfl (fun K' hK' => ?_) AllReadyH.nil
    go_simp
    go_at_call 40
    refine (HV.out _).mono ?_
    rintro E w1 ⟨rfl, rfl⟩
    refine hK'.out _ _ HW (fun _ => ?_)
    clear hK' K'
    try simp only [Act.put, List.setIfInBounds_toArray, List.set_cons_zero, List.set_cons_succ]
    refine wpAnyH_take (i := 4) (oi := { dst := some 53, op := Op.move (Operand.tmp 52), type := 4, pos := "ledger.go:89", after := #[{ on := 3, ground := Ground.data }, { on := 3, ground := Ground.chain }], guard := none }) (v := .bool true) rfl (by kernel_rfl) (by kernel_rfl) (by kernel_rfl) (fun _ _ _ h => h) (Or.inl ⟨by kernel_rfl, fun W hSW => by go_simp⟩) (HW) ?_
    try simp only [Act.put, List.setIfInBounds_toArray, List.set_cons_zero, List.set_cons_succ]
    refine wpAnyH_take (i := 5) (oi := { dst := some 54, op := Op.fieldAddr 49 (Operand.tmp 1) 4, type := 0, pos := "ledger.go:89", after := #[{ on := 4, ground := Ground.guard }], guard := some (4, true) }) (v := .pointer (some ⟨w.heap.size, 4, none⟩)) rfl (by kernel_rfl) (by kernel_rfl) (by kernel_rfl) (fun _ _ _ h => h) (Or.inl ⟨by kernel_rfl, fun W hSW => by go_simp⟩) (HW) ?_
    try simp only [Act.put, List.setIfInBounds_toArray, List.set_cons_zero, List.set_cons_succ]
    refine wpAnyH_take (i := 6) (oi := { dst := some 55, op := Op.load 9 (Operand.tmp 54), type := 9, pos := "ledger.go:89", after := #[{ on := 5, ground := Ground.data }, { on := 4, ground := Ground.guard }], guard := some (4, true) }) (v := .string to) rfl (by kernel_rfl) (by kernel_rfl) (by kernel_rfl) (fun _ _ _ h => h) (Or.inl ⟨by kernel_rfl, fun W hSW => by have hc := block_cell (k := 4) hSW.1 _ rfl; go_simp⟩) (HW) ?_
    try simp only [Act.put, List.setIfInBounds_toArray, List.set_cons_zero, List.set_cons_succ]
    refine wpAnyH_take (i := 7) (oi := { dst := some 56, op := Op.fieldAddr 49 (Operand.tmp 1) 1, type := 0, pos := "ledger.go:89", after := #[{ on := 4, ground := Ground.guard }], guard := some (4, true) }) (v := .pointer (some ⟨w.heap.size, 1, none⟩)) rfl (by kernel_rfl) (by kernel_rfl) (by kernel_rfl) (fun _ _ _ h => h) (Or.inl ⟨by kernel_rfl, fun W hSW => by go_simp⟩) (HW) ?_
    try simp only [Act.put, List.setIfInBounds_toArray, List.set_cons_zero, List.set_cons_succ]
    refine wpAnyH_take (i := 8) (oi := { dst := some 57, op := Op.load 9 (Operand.tmp 56), type := 9, pos := "ledger.go:89", after := #[{ on := 7, ground := Ground.data }, { on := 4, ground := Ground.guard }], guard := some (4, true) }) (v := .string key) rfl (by kernel_rfl) (by kernel_rfl) (by kernel_rfl) (fun _ _ _ h => h) (Or.inl ⟨by kernel_rfl, fun W hSW => by have hc := block_cell (k := 1) hSW.1 _ rfl; go_simp⟩) (HW) ?_
    try simp only [Act.put, List.setIfInBounds_toArray, List.set_cons_zero, List.set_cons_succ]
    refine wpAnyH_take (i := 9) (oi := { dst := some 58, op := Op.binOp BinOp.neq 9 (Operand.tmp 55) (Operand.tmp 57) 9, type := 4, pos := "ledger.go:89", after := #[{ on := 6, ground := Ground.data }, { on := 8, ground := Ground.data }, { on := 4, ground := Ground.guard }], guard := some (4, true) }) (v := .bool true) rfl (by kernel_rfl) (by kernel_rfl) (by kernel_rfl) (fun _ _ _ h => h) (Or.inl ⟨by kernel_rfl, fun W hSW => by have hn := HN.out; go_simp⟩) (HW) ?_
    try simp only [Act.put, List.setIfInBounds_toArray, List.set_cons_zero, List.set_cons_succ]
    refine wpAnyH_take (i := 10) (oi := { dst := some 59, op := Op.pick (Operand.tmp 53) (Operand.tmp 58) (Operand.const (Value.bool false)), type := 4, pos := "ledger.go:89", after := #[{ on := 4, ground := Ground.data }, { on := 9, ground := Ground.data }], guard := none }) (v := .bool true) rfl (by kernel_rfl) (by kernel_rfl) (by kernel_rfl) (fun _ _ _ h => h) (Or.inl ⟨by kernel_rfl, fun W hSW => by go_simp⟩) (HW) ?_
    try simp only [Act.put, List.setIfInBounds_toArray, List.set_cons_zero, List.set_cons_succ]
    refine wpAnyH_take (i := 11) (oi := { dst := some 60, op := Op.move (Operand.tmp 59), type := 4, pos := "ledger.go:89", after := #[{ on := 10, ground := Ground.data }, { on := 4, ground := Ground.chain }], guard := none }) (v := .bool true) rfl (by kernel_rfl) (by kernel_rfl) (by kernel_rfl) (fun _ _ _ h => h) (Or.inl ⟨by kernel_rfl, fun W hSW => by go_simp⟩) (HW) ?_
    try simp only [Act.put, List.setIfInBounds_toArray, List.set_cons_zero, List.set_cons_succ]
    refine wpAnyH_take (i := 12) (oi := { dst := some 61, op := Op.fieldAddr 49 (Operand.tmp 1) 5, type := 0, pos := "ledger.go:89", after := #[{ on := 11, ground := Ground.guard }], guard := some (11, true) }) (v := .pointer (some ⟨w.heap.size, 5, none⟩)) rfl (by kernel_rfl) (by kernel_rfl) (by kernel_rfl) (fun _ _ _ h => h) (Or.inl ⟨by kernel_rfl, fun W hSW => by go_simp⟩) (HW) ?_
    try simp only [Act.put, List.setIfInBounds_toArray, List.set_cons_zero, List.set_cons_succ]
    refine wpAnyH_take (i := 13) (oi := { dst := some 62, op := Op.load 30 (Operand.tmp 61), type := 30, pos := "ledger.go:89", after := #[{ on := 12, ground := Ground.data }, { on := 11, ground := Ground.guard }], guard := some (11, true) }) (v := .int .u64 (am : Int)) rfl (by kernel_rfl) (by kernel_rfl) (by kernel_rfl) (fun _ _ _ h => h) (Or.inl ⟨by kernel_rfl, fun W hSW => by have hc := block_cell (k := 5) hSW.1 _ rfl; go_simp⟩) (HW) ?_
    try simp only [Act.put, List.setIfInBounds_toArray, List.set_cons_zero, List.set_cons_succ]
    refine wpAnyH_take (i := 14) (oi := { dst := some 63, op := Op.binOp BinOp.geq 30 (Operand.tmp 62) (Operand.const (Value.int IntKind.u64 1)) 30, type := 4, pos := "ledger.go:89", after := #[{ on := 13, ground := Ground.data }, { on := 11, ground := Ground.guard }], guard := some (11, true) }) (v := .bool true) rfl (by kernel_rfl) (by kernel_rfl) (by kernel_rfl) (fun _ _ _ h => h) (Or.inl ⟨by kernel_rfl, fun W hSW => by have hn := H1.out; go_simp⟩) (HW) ?_
    try simp only [Act.put, List.setIfInBounds_toArray, List.set_cons_zero, List.set_cons_succ]
    refine wpAnyH_take (i := 15) (oi := { dst := some 64, op := Op.pick (Operand.tmp 60) (Operand.tmp 63) (Operand.const (Value.bool false)), type := 4, pos := "ledger.go:89", after := #[{ on := 11, ground := Ground.data }, { on := 14, ground := Ground.data }], guard := none }) (v := .bool true) rfl (by kernel_rfl) (by kernel_rfl) (by kernel_rfl) (fun _ _ _ h => h) (Or.inl ⟨by kernel_rfl, fun W hSW => by go_simp⟩) (HW) ?_
    try simp only [Act.put, List.setIfInBounds_toArray, List.set_cons_zero, List.set_cons_succ]
    refine wpAnyH_take (i := 16) (oi := { dst := some 65, op := Op.move (Operand.tmp 64), type := 4, pos := "ledger.go:89", after := #[{ on := 15, ground := Ground.data }, { on := 11, ground := Ground.chain }], guard := none }) (v := .bool true) rfl (by kernel_rfl) (by kernel_rfl) (by kernel_rfl) (fun _ _ _ h => h) (Or.inl ⟨by kernel_rfl, fun W hSW => by go_simp⟩) (HW) ?_
    try simp only [Act.put, List.setIfInBounds_toArray, List.set_cons_zero, List.set_cons_succ]
    refine wpAnyH_take (i := 17) (oi := { dst := some 66, op := Op.fieldAddr 49 (Operand.tmp 1) 5, type := 0, pos := "ledger.go:89", after := #[{ on := 16, ground := Ground.guard }, { on := 21, ground := Ground.gcOnly Departure.lateStores }], guard := some (16, true) }) (v := .pointer (some ⟨w.heap.size, 5, none⟩)) rfl (by kernel_rfl) (by kernel_rfl) (by kernel_rfl) (fun _ _ _ h => h) (Or.inl ⟨by kernel_rfl, fun W hSW => by go_simp⟩) (HW) ?_
    try simp only [Act.put, List.setIfInBounds_toArray, List.set_cons_zero, List.set_cons_succ]
    refine wpAnyH_take (i := 18) (oi := { dst := some 67, op := Op.load 30 (Operand.tmp 66), type := 30, pos := "ledger.go:89", after := #[{ on := 17, ground := Ground.data }, { on := 16, ground := Ground.guard }, { on := 21, ground := Ground.gcOnly Departure.lateStores }], guard := some (16, true) }) (v := .int .u64 (am : Int)) rfl (by kernel_rfl) (by kernel_rfl) (by kernel_rfl) (fun _ _ _ h => h) (Or.inl ⟨by kernel_rfl, fun W hSW => by have hc := block_cell (k := 5) hSW.1 _ rfl; go_simp⟩) (HW) ?_
    try simp only [Act.put, List.setIfInBounds_toArray, List.set_cons_zero, List.set_cons_succ]
    refine wpAnyH_take (i := 19) (oi := { dst := some 68, op := Op.binOp BinOp.leq 30 (Operand.tmp 67) (Operand.const (Value.int IntKind.u64 1125899906842624)) 30, type := 4, pos := "ledger.go:89", after := #[{ on := 18, ground := Ground.data }, { on := 16, ground := Ground.guard }, { on := 21, ground := Ground.gcOnly Departure.lateStores }], guard := some (16, true) }) (v := .bool false) rfl (by kernel_rfl) (by kernel_rfl) (by kernel_rfl) (fun _ _ _ h => h) (Or.inl ⟨by kernel_rfl, fun W hSW => by have hn := H2.out; go_simp⟩) (HW) ?_
    try simp only [Act.put, List.setIfInBounds_toArray, List.set_cons_zero, List.set_cons_succ]
    refine wpAnyH_take (i := 20) (oi := { dst := some 69, op := Op.pick (Operand.tmp 65) (Operand.tmp 68) (Operand.const (Value.bool false)), type := 4, pos := "ledger.go:89", after := #[{ on := 16, ground := Ground.data }, { on := 19, ground := Ground.data }, { on := 21, ground := Ground.gcOnly Departure.lateStores }], guard := none }) (v := .bool false) rfl (by kernel_rfl) (by kernel_rfl) (by kernel_rfl) (fun _ _ _ h => h) (Or.inl ⟨by kernel_rfl, fun W hSW => by go_simp⟩) (HW) ?_
    try simp only [Act.put, List.setIfInBounds_toArray, List.set_cons_zero, List.set_cons_succ]
    refine wpAnyH_ready (rs := [21]) (by kernel_rfl) (by simp) ?_
    refine AllReadyH.cons (o := { dst := none, op := Op.store 49 (Operand.tmp 2) (Operand.tmp 49), type := 0, pos := "ledger.go:89", after := #[{ on := 0, ground := Ground.data }, { on := 16, ground := Ground.chain }, { on := 0, ground := Ground.phase }, { on := 1, ground := Ground.textOnly Departure.lateStores }, { on := 2, ground := Ground.textOnly Departure.lateStores }, { on := 3, ground := Ground.textOnly Departure.lateStoresUnsure }, { on := 4, ground := Ground.textOnly Departure.lateStores }, { on := 5, ground := Ground.textOnly Departure.lateStores }, { on := 6, ground := Ground.textOnly Departure.lateStores }, { on := 7, ground := Ground.textOnly Departure.lateStores }, { on := 8, ground := Ground.textOnly Departure.lateStores }, { on := 9, ground := Ground.textOnly Departure.lateStores }, { on := 10, ground := Ground.textOnly Departure.lateStores }, { on := 11, ground := Ground.textOnly Departure.lateStores }, { on := 12, ground := Ground.textOnly Departure.lateStores }, { on := 13, ground := Ground.textOnly Departure.lateStores }, { on := 14, ground := Ground.textOnly Departure.lateStores }, { on := 15, ground := Ground.textOnly Departure.lateStores }, { on := 16, ground := Ground.textOnly Departure.lateStores }, { on := 17, ground := Ground.textOnly Departure.lateStores }, { on := 18, ground := Ground.textOnly Departure.lateStores }, { on := 19, ground := Ground.textOnly Departure.lateStores }, { on := 20, ground := Ground.textOnly Departure.lateStores }], guard := none }) rfl (fun K' hK' => ?_) AllReadyH.nil
    rw [if_pos (by kernel_rfl)]
    refine wp_store_mid 49 (.tmp 2) (.tmp 49) rfl (w.heap.size + 1) 0 [.int .u8 5, .string key, .string ByteArray.empty, .string ByteArray.empty, .string to, .int .u64 (am : Int)].toArray rfl rfl (there_block HW.2.1 0 6 (by simp)) Tryd.is49 (by simp [Value.oneCell']) ?_
    rw [show ([.int .u8 5, .string key, .string ByteArray.empty, .string ByteArray.empty, .string to, .int .u64 (am : Int)] : List Value).toArray.toList = [.int .u8 5, .string key, .string ByteArray.empty, .string ByteArray.empty, .string to, .int .u64 (am : Int)] from rfl, heap_same0 HW.2.1]
    refine hK'.out _ _ HW (fun _ => ?_)
    clear hK' K'
    try simp only [Act.put]
    refine wpAnyH_take (i := 22) (oi := { dst := some 3, op := Op.assign (Operand.tmp 69), type := 4, pos := "ledger.go:89", after := #[{ on := 20, ground := Ground.data }, { on := 21, ground := Ground.chain }, { on := 0, ground := Ground.phase }, { on := 1, ground := Ground.phase }, { on := 2, ground := Ground.phase }, { on := 3, ground := Ground.phase }, { on := 4, ground := Ground.phase }, { on := 5, ground := Ground.phase }, { on := 6, ground := Ground.phase }, { on := 7, ground := Ground.phase }, { on := 8, ground := Ground.phase }, { on := 9, ground := Ground.phase }, { on := 10, ground := Ground.phase }, { on := 11, ground := Ground.phase }, { on := 12, ground := Ground.phase }, { on := 13, ground := Ground.phase }, { on := 14, ground := Ground.phase }, { on := 15, ground := Ground.phase }, { on := 16, ground := Ground.phase }, { on := 17, ground := Ground.phase }, { on := 18, ground := Ground.phase }, { on := 19, ground := Ground.phase }, { on := 20, ground := Ground.phase }, { on := 21, ground := Ground.phase }], guard := none }) (v := .bool false) rfl (by kernel_rfl) (by kernel_rfl) (by kernel_rfl) (fun _ _ _ h => h) (Or.inl ⟨by kernel_rfl, fun W hSW => by go_simp⟩) (HW) ?_
    try simp only [Act.put, List.setIfInBounds_toArray, List.set_cons_zero, List.set_cons_succ]
    refine wpAnyH_done (by kernel_rfl) ?_ _
    go_wp2_with fail
    (try simp only [Exit.inBlock, Exit.then]); refine bodyPost_ret (ret_ct (g := w.heap.size + 1) (cs := [.int .u8 5, .string key, .string ByteArray.empty, .string ByteArray.empty, .string to, .int .u64 (am : Int)]) rfl rfl rfl (range_all HW.2.1) Tryd.underlying49 rfl Tryd.is49) rfl ?_
    exact ⟨by rw [HE.out]; rfl, HW.2.2⟩
set_option maxHeartbeats 4000000 in
theorem own_5e (kk : UInt8) (key value old to : ByteArray) (am : Nat) (w : World) (hk : (kk.toNat : Int) = 5) (HV : Hid (∀ W, Calls Tryd.prog 40 #[.string to] W fun E w' => E = .returned (.bool true) ∧ W = w')) (HN : Hid ((to.toList == key.toList) = false)) (H1 : Hid (¬ ((am : Int) < 1))) (H2 : Hid (¬ (1125899906842624 < (am : Int)))) : Calls Tryd.prog 42 #[.agg (opC ⟨kk, key, value, old, to, am⟩).toArray] w fun E w' => OwnP w (⟨kk, key, ByteArray.empty, ByteArray.empty, to, am⟩) (true) E w' := by
  dsimp only [opC]
  obtain ⟨K, hK⟩ : ∃ K : Int, K = kk.toNat := ⟨_, rfl⟩
  have HE := Lib.hid (show opC (⟨kk, key, ByteArray.empty, ByteArray.empty, to, am⟩) = [.int .u8 K, .string key, .string ByteArray.empty, .string ByteArray.empty, .string to, .int .u64 (am : Int)] by rw [hK]; rfl)
  have HB : ∀ o1 o2, Hid (Below w.heap.size w ((w.alloc o1).alloc o2)) := fun _ _ => Lib.hid (((Below.refl _ _).alloc (Nat.le_refl _) _).alloc (by simp) _)
  rw [← hK] at hk ⊢
  clear hK
  subst hk
  go_enter Tryd.func42, Tryd.ntmps42
  go_wp2_with fail
  go_region
  all_goals
    go_wp2_with fail
    refine wp_region_any (by kernel_rfl) ?_
    refine held_gen (G := fun W => wpAny _ _ _ _ _ _ _ W) (fun W => Two w [.int .u8 5, .string key, .string value, .string old, .string to, .int .u64 (am : Int)] [.int .u8 5, .string key, .string ByteArray.empty, .string ByteArray.empty, .string to, .int .u64 (am : Int)] W) ⟨one_new w _ _ _, two_new w _ _ _, by first | exact below_drewN (HB _ _).out _ | exact below_drewN (below_drewN (HB _ _).out _) _⟩ (fun W HW => ?_)
    refine wpAny_of_held (S := fun W => Two w [.int .u8 5, .string key, .string value, .string old, .string to, .int .u64 (am : Int)] [.int .u8 5, .string key, .string ByteArray.empty, .string ByteArray.empty, .string to, .int .u64 (am : Int)] W) _ _ _ _ ?_
    refine wpAnyH_take (i := 0) (oi := { dst := some 49, op := Op.load 49 (Operand.tmp 2), type := 49, pos := "ledger.go:89", after := #[], guard := none }) (v := .agg [.int .u8 5, .string key, .string ByteArray.empty, .string ByteArray.empty, .string to, .int .u64 (am : Int)].toArray) rfl (by kernel_rfl) (by kernel_rfl) (by kernel_rfl) (fun _ _ _ h => h) (Or.inl ⟨by kernel_rfl, fun W hSW => exec_load_mid 49 (.tmp 2) rfl (w.heap.size + 1) 0 rfl [.int .u8 5, .string key, .string ByteArray.empty, .string ByteArray.empty, .string to, .int .u64 (am : Int)] _ (range_all hSW.2.1) Tryd.underlying49 rfl Tryd.is49⟩) (HW) ?_
    try simp only [Act.put, List.setIfInBounds_toArray, List.set_cons_zero, List.set_cons_succ]
    refine wpAnyH_take (i := 1) (oi := { dst := some 50, op := Op.fieldAddr 49 (Operand.tmp 1) 4, type := 0, pos := "ledger.go:89", after := #[], guard := none }) (v := .pointer (some ⟨w.heap.size, 4, none⟩)) rfl (by kernel_rfl) (by kernel_rfl) (by kernel_rfl) (fun _ _ _ h => h) (Or.inl ⟨by kernel_rfl, fun W hSW => by go_simp⟩) (HW) ?_
    try simp only [Act.put, List.setIfInBounds_toArray, List.set_cons_zero, List.set_cons_succ]
    refine wpAnyH_take (i := 2) (oi := { dst := some 51, op := Op.load 9 (Operand.tmp 50), type := 9, pos := "ledger.go:89", after := #[{ on := 1, ground := Ground.data }], guard := none }) (v := .string to) rfl (by kernel_rfl) (by kernel_rfl) (by kernel_rfl) (fun _ _ _ h => h) (Or.inl ⟨by kernel_rfl, fun W hSW => by have hc := block_cell (k := 4) hSW.1 _ rfl; go_simp⟩) (HW) ?_
    try simp only [Act.put, List.setIfInBounds_toArray, List.set_cons_zero, List.set_cons_succ]
    refine wpAnyH_ready (rs := [3]) (by kernel_rfl) (by simp) ?_
    refine AllReadyH.cons (o := { dst := some 52, op := Op.call { callee := Callee.value (Operand.func 40), args := #[Operand.tmp 51], argTypes := #[9] }, type := 4, pos := "ledger.go:89", after := #[{ on := 2, ground := Ground.data }], guard := none }) rfl (fun K' hK' => ?_) AllReadyH.nil
    go_simp
    go_at_call 40
    refine (HV.out _).mono ?_
    rintro E w1 ⟨rfl, rfl⟩
    refine hK'.out _ _ HW (fun _ => ?_)
    clear hK' K'
    try simp only [Act.put, List.setIfInBounds_toArray, List.set_cons_zero, List.set_cons_succ]
    refine wpAnyH_take (i := 4) (oi := { dst := some 53, op := Op.move (Operand.tmp 52), type := 4, pos := "ledger.go:89", after := #[{ on := 3, ground := Ground.data }, { on := 3, ground := Ground.chain }], guard := none }) (v := .bool true) rfl (by kernel_rfl) (by kernel_rfl) (by kernel_rfl) (fun _ _ _ h => h) (Or.inl ⟨by kernel_rfl, fun W hSW => by go_simp⟩) (HW) ?_
    try simp only [Act.put, List.setIfInBounds_toArray, List.set_cons_zero, List.set_cons_succ]
    refine wpAnyH_take (i := 5) (oi := { dst := some 54, op := Op.fieldAddr 49 (Operand.tmp 1) 4, type := 0, pos := "ledger.go:89", after := #[{ on := 4, ground := Ground.guard }], guard := some (4, true) }) (v := .pointer (some ⟨w.heap.size, 4, none⟩)) rfl (by kernel_rfl) (by kernel_rfl) (by kernel_rfl) (fun _ _ _ h => h) (Or.inl ⟨by kernel_rfl, fun W hSW => by go_simp⟩) (HW) ?_
    try simp only [Act.put, List.setIfInBounds_toArray, List.set_cons_zero, List.set_cons_succ]
    refine wpAnyH_take (i := 6) (oi := { dst := some 55, op := Op.load 9 (Operand.tmp 54), type := 9, pos := "ledger.go:89", after := #[{ on := 5, ground := Ground.data }, { on := 4, ground := Ground.guard }], guard := some (4, true) }) (v := .string to) rfl (by kernel_rfl) (by kernel_rfl) (by kernel_rfl) (fun _ _ _ h => h) (Or.inl ⟨by kernel_rfl, fun W hSW => by have hc := block_cell (k := 4) hSW.1 _ rfl; go_simp⟩) (HW) ?_
    try simp only [Act.put, List.setIfInBounds_toArray, List.set_cons_zero, List.set_cons_succ]
    refine wpAnyH_take (i := 7) (oi := { dst := some 56, op := Op.fieldAddr 49 (Operand.tmp 1) 1, type := 0, pos := "ledger.go:89", after := #[{ on := 4, ground := Ground.guard }], guard := some (4, true) }) (v := .pointer (some ⟨w.heap.size, 1, none⟩)) rfl (by kernel_rfl) (by kernel_rfl) (by kernel_rfl) (fun _ _ _ h => h) (Or.inl ⟨by kernel_rfl, fun W hSW => by go_simp⟩) (HW) ?_
    try simp only [Act.put, List.setIfInBounds_toArray, List.set_cons_zero, List.set_cons_succ]
    refine wpAnyH_take (i := 8) (oi := { dst := some 57, op := Op.load 9 (Operand.tmp 56), type := 9, pos := "ledger.go:89", after := #[{ on := 7, ground := Ground.data }, { on := 4, ground := Ground.guard }], guard := some (4, true) }) (v := .string key) rfl (by kernel_rfl) (by kernel_rfl) (by kernel_rfl) (fun _ _ _ h => h) (Or.inl ⟨by kernel_rfl, fun W hSW => by have hc := block_cell (k := 1) hSW.1 _ rfl; go_simp⟩) (HW) ?_
    try simp only [Act.put, List.setIfInBounds_toArray, List.set_cons_zero, List.set_cons_succ]
    refine wpAnyH_take (i := 9) (oi := { dst := some 58, op := Op.binOp BinOp.neq 9 (Operand.tmp 55) (Operand.tmp 57) 9, type := 4, pos := "ledger.go:89", after := #[{ on := 6, ground := Ground.data }, { on := 8, ground := Ground.data }, { on := 4, ground := Ground.guard }], guard := some (4, true) }) (v := .bool true) rfl (by kernel_rfl) (by kernel_rfl) (by kernel_rfl) (fun _ _ _ h => h) (Or.inl ⟨by kernel_rfl, fun W hSW => by have hn := HN.out; go_simp⟩) (HW) ?_
    try simp only [Act.put, List.setIfInBounds_toArray, List.set_cons_zero, List.set_cons_succ]
    refine wpAnyH_take (i := 10) (oi := { dst := some 59, op := Op.pick (Operand.tmp 53) (Operand.tmp 58) (Operand.const (Value.bool false)), type := 4, pos := "ledger.go:89", after := #[{ on := 4, ground := Ground.data }, { on := 9, ground := Ground.data }], guard := none }) (v := .bool true) rfl (by kernel_rfl) (by kernel_rfl) (by kernel_rfl) (fun _ _ _ h => h) (Or.inl ⟨by kernel_rfl, fun W hSW => by go_simp⟩) (HW) ?_
    try simp only [Act.put, List.setIfInBounds_toArray, List.set_cons_zero, List.set_cons_succ]
    refine wpAnyH_take (i := 11) (oi := { dst := some 60, op := Op.move (Operand.tmp 59), type := 4, pos := "ledger.go:89", after := #[{ on := 10, ground := Ground.data }, { on := 4, ground := Ground.chain }], guard := none }) (v := .bool true) rfl (by kernel_rfl) (by kernel_rfl) (by kernel_rfl) (fun _ _ _ h => h) (Or.inl ⟨by kernel_rfl, fun W hSW => by go_simp⟩) (HW) ?_
    try simp only [Act.put, List.setIfInBounds_toArray, List.set_cons_zero, List.set_cons_succ]
    refine wpAnyH_take (i := 12) (oi := { dst := some 61, op := Op.fieldAddr 49 (Operand.tmp 1) 5, type := 0, pos := "ledger.go:89", after := #[{ on := 11, ground := Ground.guard }], guard := some (11, true) }) (v := .pointer (some ⟨w.heap.size, 5, none⟩)) rfl (by kernel_rfl) (by kernel_rfl) (by kernel_rfl) (fun _ _ _ h => h) (Or.inl ⟨by kernel_rfl, fun W hSW => by go_simp⟩) (HW) ?_
    try simp only [Act.put, List.setIfInBounds_toArray, List.set_cons_zero, List.set_cons_succ]
    refine wpAnyH_take (i := 13) (oi := { dst := some 62, op := Op.load 30 (Operand.tmp 61), type := 30, pos := "ledger.go:89", after := #[{ on := 12, ground := Ground.data }, { on := 11, ground := Ground.guard }], guard := some (11, true) }) (v := .int .u64 (am : Int)) rfl (by kernel_rfl) (by kernel_rfl) (by kernel_rfl) (fun _ _ _ h => h) (Or.inl ⟨by kernel_rfl, fun W hSW => by have hc := block_cell (k := 5) hSW.1 _ rfl; go_simp⟩) (HW) ?_
    try simp only [Act.put, List.setIfInBounds_toArray, List.set_cons_zero, List.set_cons_succ]
    refine wpAnyH_take (i := 14) (oi := { dst := some 63, op := Op.binOp BinOp.geq 30 (Operand.tmp 62) (Operand.const (Value.int IntKind.u64 1)) 30, type := 4, pos := "ledger.go:89", after := #[{ on := 13, ground := Ground.data }, { on := 11, ground := Ground.guard }], guard := some (11, true) }) (v := .bool true) rfl (by kernel_rfl) (by kernel_rfl) (by kernel_rfl) (fun _ _ _ h => h) (Or.inl ⟨by kernel_rfl, fun W hSW => by have hn := H1.out; go_simp⟩) (HW) ?_
    try simp only [Act.put, List.setIfInBounds_toArray, List.set_cons_zero, List.set_cons_succ]
    refine wpAnyH_take (i := 15) (oi := { dst := some 64, op := Op.pick (Operand.tmp 60) (Operand.tmp 63) (Operand.const (Value.bool false)), type := 4, pos := "ledger.go:89", after := #[{ on := 11, ground := Ground.data }, { on := 14, ground := Ground.data }], guard := none }) (v := .bool true) rfl (by kernel_rfl) (by kernel_rfl) (by kernel_rfl) (fun _ _ _ h => h) (Or.inl ⟨by kernel_rfl, fun W hSW => by go_simp⟩) (HW) ?_
    try simp only [Act.put, List.setIfInBounds_toArray, List.set_cons_zero, List.set_cons_succ]
    refine wpAnyH_take (i := 16) (oi := { dst := some 65, op := Op.move (Operand.tmp 64), type := 4, pos := "ledger.go:89", after := #[{ on := 15, ground := Ground.data }, { on := 11, ground := Ground.chain }], guard := none }) (v := .bool true) rfl (by kernel_rfl) (by kernel_rfl) (by kernel_rfl) (fun _ _ _ h => h) (Or.inl ⟨by kernel_rfl, fun W hSW => by go_simp⟩) (HW) ?_
    try simp only [Act.put, List.setIfInBounds_toArray, List.set_cons_zero, List.set_cons_succ]
    refine wpAnyH_take (i := 17) (oi := { dst := some 66, op := Op.fieldAddr 49 (Operand.tmp 1) 5, type := 0, pos := "ledger.go:89", after := #[{ on := 16, ground := Ground.guard }, { on := 21, ground := Ground.gcOnly Departure.lateStores }], guard := some (16, true) }) (v := .pointer (some ⟨w.heap.size, 5, none⟩)) rfl (by kernel_rfl) (by kernel_rfl) (by kernel_rfl) (fun _ _ _ h => h) (Or.inl ⟨by kernel_rfl, fun W hSW => by go_simp⟩) (HW) ?_
    try simp only [Act.put, List.setIfInBounds_toArray, List.set_cons_zero, List.set_cons_succ]
    refine wpAnyH_take (i := 18) (oi := { dst := some 67, op := Op.load 30 (Operand.tmp 66), type := 30, pos := "ledger.go:89", after := #[{ on := 17, ground := Ground.data }, { on := 16, ground := Ground.guard }, { on := 21, ground := Ground.gcOnly Departure.lateStores }], guard := some (16, true) }) (v := .int .u64 (am : Int)) rfl (by kernel_rfl) (by kernel_rfl) (by kernel_rfl) (fun _ _ _ h => h) (Or.inl ⟨by kernel_rfl, fun W hSW => by have hc := block_cell (k := 5) hSW.1 _ rfl; go_simp⟩) (HW) ?_
    try simp only [Act.put, List.setIfInBounds_toArray, List.set_cons_zero, List.set_cons_succ]
    refine wpAnyH_take (i := 19) (oi := { dst := some 68, op := Op.binOp BinOp.leq 30 (Operand.tmp 67) (Operand.const (Value.int IntKind.u64 1125899906842624)) 30, type := 4, pos := "ledger.go:89", after := #[{ on := 18, ground := Ground.data }, { on := 16, ground := Ground.guard }, { on := 21, ground := Ground.gcOnly Departure.lateStores }], guard := some (16, true) }) (v := .bool true) rfl (by kernel_rfl) (by kernel_rfl) (by kernel_rfl) (fun _ _ _ h => h) (Or.inl ⟨by kernel_rfl, fun W hSW => by have hn := H2.out; go_simp⟩) (HW) ?_
    try simp only [Act.put, List.setIfInBounds_toArray, List.set_cons_zero, List.set_cons_succ]
    refine wpAnyH_take (i := 20) (oi := { dst := some 69, op := Op.pick (Operand.tmp 65) (Operand.tmp 68) (Operand.const (Value.bool false)), type := 4, pos := "ledger.go:89", after := #[{ on := 16, ground := Ground.data }, { on := 19, ground := Ground.data }, { on := 21, ground := Ground.gcOnly Departure.lateStores }], guard := none }) (v := .bool true) rfl (by kernel_rfl) (by kernel_rfl) (by kernel_rfl) (fun _ _ _ h => h) (Or.inl ⟨by kernel_rfl, fun W hSW => by go_simp⟩) (HW) ?_
    try simp only [Act.put, List.setIfInBounds_toArray, List.set_cons_zero, List.set_cons_succ]
    refine wpAnyH_ready (rs := [21]) (by kernel_rfl) (by simp) ?_
    refine AllReadyH.cons (o := { dst := none, op := Op.store 49 (Operand.tmp 2) (Operand.tmp 49), type := 0, pos := "ledger.go:89", after := #[{ on := 0, ground := Ground.data }, { on := 16, ground := Ground.chain }, { on := 0, ground := Ground.phase }, { on := 1, ground := Ground.textOnly Departure.lateStores }, { on := 2, ground := Ground.textOnly Departure.lateStores }, { on := 3, ground := Ground.textOnly Departure.lateStoresUnsure }, { on := 4, ground := Ground.textOnly Departure.lateStores }, { on := 5, ground := Ground.textOnly Departure.lateStores }, { on := 6, ground := Ground.textOnly Departure.lateStores }, { on := 7, ground := Ground.textOnly Departure.lateStores }, { on := 8, ground := Ground.textOnly Departure.lateStores }, { on := 9, ground := Ground.textOnly Departure.lateStores }, { on := 10, ground := Ground.textOnly Departure.lateStores }, { on := 11, ground := Ground.textOnly Departure.lateStores }, { on := 12, ground := Ground.textOnly Departure.lateStores }, { on := 13, ground := Ground.textOnly Departure.lateStores }, { on := 14, ground := Ground.textOnly Departure.lateStores }, { on := 15, ground := Ground.textOnly Departure.lateStores }, { on := 16, ground := Ground.textOnly Departure.lateStores }, { on := 17, ground := Ground.textOnly Departure.lateStores }, { on := 18, ground := Ground.textOnly Departure.lateStores }, { on := 19, ground := Ground.textOnly Departure.lateStores }, { on := 20, ground := Ground.textOnly Departure.lateStores }], guard := none }) rfl (fun K' hK' => ?_) AllReadyH.nil
    rw [if_pos (by kernel_rfl)]
    refine wp_store_mid 49 (.tmp 2) (.tmp 49) rfl (w.heap.size + 1) 0 [.int .u8 5, .string key, .string ByteArray.empty, .string ByteArray.empty, .string to, .int .u64 (am : Int)].toArray rfl rfl (there_block HW.2.1 0 6 (by simp)) Tryd.is49 (by simp [Value.oneCell']) ?_
    rw [show ([.int .u8 5, .string key, .string ByteArray.empty, .string ByteArray.empty, .string to, .int .u64 (am : Int)] : List Value).toArray.toList = [.int .u8 5, .string key, .string ByteArray.empty, .string ByteArray.empty, .string to, .int .u64 (am : Int)] from rfl, heap_same0 HW.2.1]
    refine hK'.out _ _ HW (fun _ => ?_)
    clear hK' K'
    try simp only [Act.put]
    refine wpAnyH_take (i := 22) (oi := { dst := some 3, op := Op.assign (Operand.tmp 69), type := 4, pos := "ledger.go:89", after := #[{ on := 20, ground := Ground.data }, { on := 21, ground := Ground.chain }, { on := 0, ground := Ground.phase }, { on := 1, ground := Ground.phase }, { on := 2, ground := Ground.phase }, { on := 3, ground := Ground.phase }, { on := 4, ground := Ground.phase }, { on := 5, ground := Ground.phase }, { on := 6, ground := Ground.phase }, { on := 7, ground := Ground.phase }, { on := 8, ground := Ground.phase }, { on := 9, ground := Ground.phase }, { on := 10, ground := Ground.phase }, { on := 11, ground := Ground.phase }, { on := 12, ground := Ground.phase }, { on := 13, ground := Ground.phase }, { on := 14, ground := Ground.phase }, { on := 15, ground := Ground.phase }, { on := 16, ground := Ground.phase }, { on := 17, ground := Ground.phase }, { on := 18, ground := Ground.phase }, { on := 19, ground := Ground.phase }, { on := 20, ground := Ground.phase }, { on := 21, ground := Ground.phase }], guard := none }) (v := .bool true) rfl (by kernel_rfl) (by kernel_rfl) (by kernel_rfl) (fun _ _ _ h => h) (Or.inl ⟨by kernel_rfl, fun W hSW => by go_simp⟩) (HW) ?_
    try simp only [Act.put, List.setIfInBounds_toArray, List.set_cons_zero, List.set_cons_succ]
    refine wpAnyH_done (by kernel_rfl) ?_ _
    go_wp2_with fail
    (try simp only [Exit.inBlock, Exit.then]); refine bodyPost_ret (ret_ct (g := w.heap.size + 1) (cs := [.int .u8 5, .string key, .string ByteArray.empty, .string ByteArray.empty, .string to, .int .u64 (am : Int)]) rfl rfl rfl (range_all HW.2.1) Tryd.underlying49 rfl Tryd.is49) rfl ?_
    exact ⟨by rw [HE.out]; rfl, HW.2.2⟩
theorem own_5 (kk : UInt8) (key value old to : ByteArray) (am : Nat) (w : World) (hk : (kk.toNat : Int) = 5) : Calls Tryd.prog 42 #[.agg (opC ⟨kk, key, value, old, to, am⟩).toArray] w fun E w' => OwnP w (⟨kk, key, ByteArray.empty, ByteArray.empty, to, am⟩) (mayK to && (decide (to ≠ key) && (decide (1 ≤ am) && decide (am ≤ topN)))) E w' := by
  have HV := fun W => mayK_any to W
  cases hz : mayK to with
  | false =>
    rw [hz] at HV
    exact (own_5a kk key value old to am w hk (Lib.hid HV)).mono fun _ _ h => by rw [Bool.false_and]; exact h
  | true =>
    rw [hz] at HV
    by_cases hne : to = key
    · exact (own_5b kk key value old to am w hk (Lib.hid HV) (Lib.hid (by rw [hne]; simp))).mono fun _ _ h => by simpa [hne] using h
    · have hn : (to.toList == key.toList) = false := by
        cases h : to.toList == key.toList with
        | false => rfl
        | true => exact absurd (toList_inj (by simpa using h)) hne
      by_cases h1 : 1 ≤ am
      · by_cases h2 : am ≤ topN
        · exact (own_5e kk key value old to am w hk (Lib.hid HV) (Lib.hid hn) (Lib.hid (by omega)) (Lib.hid (by unfold topN at h2; omega))).mono fun _ _ h => by simpa [hne, h1, h2] using h
        · exact (own_5d kk key value old to am w hk (Lib.hid HV) (Lib.hid hn) (Lib.hid (by omega)) (Lib.hid (by unfold topN at h2; omega))).mono fun _ _ h => by simpa [hne, h1, h2] using h
      · exact (own_5c kk key value old to am w hk (Lib.hid HV) (Lib.hid hn) (Lib.hid (by omega))).mono fun _ _ h => by simpa [hne, h1] using h
end Go.Proofs.YtflenghnmflenaaDoor
