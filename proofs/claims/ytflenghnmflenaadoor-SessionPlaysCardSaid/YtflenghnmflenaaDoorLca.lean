/-
  What is proved: what an operation that swaps, or moves, may be. Conditions as stated.
-/
import Derived.Test.YtflenghnmflenaaDoorLc
namespace Go.Proofs.YtflenghnmflenaaDoor
open Go.RowKit
set_option maxRecDepth 100000

theorem exec_load_mid {P : Program} {o : Oper} {f : Operand → Value} {w : World} (ty : TypeId) (x : Operand) (ho : o.op = .load ty x) (b off : Nat) (hx : f x = .pointer (some ⟨b, off, none⟩)) (cs : List Value) (d : TypeDesc)
    (hc : w.rangeAt b off cs) (hu : P.underlying ty = some d) (hd : d.isRow = true) (hi : (P.info? ty).map (·.size) = some cs.length) : (execOp f o).run P w = .ok (.value (.agg cs.toArray)) w := by
  unfold execOp
  simp only [ho, hx, Instr.loadAt, Instr.sureAddr, Sem.run_bind, Sem.run_pure, Result.andThen_ok, run_loadVar_mid w b off ty cs d hc hu hd hi]
theorem free_block {w : World} {g : Nat} {C : Array Value} {t : TypeId} (h : w.heap[g]? = some (.cells C t (0, 0))) (k : Nat) : w.frozen? ⟨g, k, none⟩ = false := by
  simp only [World.frozen?, h]
  simp
theorem there_block {w : World} {g : Nat} {C : List Value} {t : TypeId} (h : w.heap[g]? = some (.cells C.toArray t (0, 0))) (o n : Nat) (hn : o + n ≤ C.length) : w.there g o n := fun j hj => by
  have hc : (C[o + j]?).isSome = true := by simp; omega
  obtain ⟨v, hv⟩ := Option.isSome_iff_exists.1 hc
  exact ⟨by rw [cell_of_row _ _ (o + j) C.toArray t (0, 0) h]; simpa using (by omega : o + j < C.length), free_block h _⟩
theorem one_new (w : World) (C : List Value) (t : TypeId) (o2 : Obj) : ((w.alloc (.cells C.toArray t)).alloc o2).heap[w.heap.size]? = some (.cells C.toArray t (0, 0)) :=
  (heap_alloc_old (w.alloc (.cells C.toArray t)) o2 (by simp)).trans (heap_alloc_new w (.cells C.toArray t))
theorem held_gen {G : World → Prop} {V : World} (S : World → Prop) (h : S V) (k : ∀ W, S W → G W) : G V := k V h
/-- What was handed in lies in the one block, what is made in the other. -/
def Two (w : World) (C D : List Value) (W : World) : Prop := W.heap[w.heap.size]? = some (.cells C.toArray 49 (0, 0)) ∧ W.heap[w.heap.size + 1]? = some (.cells D.toArray 49 (0, 0)) ∧ Below w.heap.size w W
theorem heap_same {w : World} {g : Nat} {C : List Value} {t : TypeId} (h : w.heap[g]? = some (.cells C.toArray t (0, 0))) : ∀ (P R : List Value) (S : List Value), P ++ R ++ S = C → (w.setCells g P.length R) = w := by
  intro P R
  induction R generalizing P with
  | nil => intro S _; rfl
  | cons v r ih =>
    intro S hC
    have hv : C[P.length]? = some v := by rw [← hC]; simp
    have h1 : w.setCell ⟨g, P.length, none⟩ v = w := by
      have hm : (w.setCell ⟨g, P.length, none⟩ v).heap = w.heap := by
        apply Array.ext_getElem?
        intro i
        by_cases hi : i = g
        · subst i
          have e : (w.setCell ⟨g, P.length, none⟩ v).heap[g]? = some (.cells (C.set P.length v).toArray t (0, 0)) := by simp [World.setCell, Array.getElem?_modify, h]
          obtain ⟨hl, e2⟩ := List.getElem?_eq_some_iff.1 hv
          rw [e, h, ← e2, List.set_getElem_self hl]
        · exact Below.heap_setCell w ⟨g, P.length, none⟩ v i hi
      have hr : w.setCell ⟨g, P.length, none⟩ v = { w with heap := (w.setCell ⟨g, P.length, none⟩ v).heap } := rfl
      rw [hr, hm]
    rw [World.setCells, h1]
    have := ih (P ++ [v]) S (by simpa using hC)
    rwa [List.length_append] at this
theorem heap_same0 {w : World} {g : Nat} {C : List Value} {t : TypeId} (h : w.heap[g]? = some (.cells C.toArray t (0, 0))) : w.setCells g 0 C = w := heap_same h [] C [] (by simp)
set_option maxHeartbeats 4000000 in
theorem own_4 (kk : UInt8) (key value old to : ByteArray) (am : Nat) (w : World) (hk : (kk.toNat : Int) = 4) : Calls Tryd.prog 42 #[.agg (opC ⟨kk, key, value, old, to, am⟩).toArray] w fun E w' => OwnP w (⟨kk, key, value, old, ByteArray.empty, 0⟩) (mayV old && mayV value) E w' := by
  dsimp only [opC]
  obtain ⟨K, hK⟩ : ∃ K : Int, K = kk.toNat := ⟨_, rfl⟩
  have HE := Lib.hid (show opC (⟨kk, key, value, old, ByteArray.empty, 0⟩) = [.int .u8 K, .string key, .string value, .string old, .string ByteArray.empty, .int .u64 0] by rw [hK]; rfl)
  have HB : ∀ o1 o2, Hid (Below w.heap.size w ((w.alloc o1).alloc o2)) := fun _ _ => Lib.hid (((Below.refl _ _).alloc (Nat.le_refl _) _).alloc (by simp) _)
  rw [← hK] at hk ⊢
  clear hK
  subst hk
  have HV := Lib.hid (fun W => mayV_any value W)
  have HO := Lib.hid (fun W => mayV_any old W)
  obtain ⟨z, hz⟩ : ∃ z, z = mayV value := ⟨_, rfl⟩
  obtain ⟨y, hy⟩ : ∃ y, y = mayV old := ⟨_, rfl⟩
  rw [← hz] at HV ⊢
  rw [← hy] at HO ⊢
  clear hz hy
  cases y with
  | false =>
    go_enter Tryd.func42, Tryd.ntmps42
    go_wp2_with fail
    go_region
    all_goals
      go_wp2_with fail
      refine wp_region_any (by kernel_rfl) ?_
      refine held_gen (G := fun W => wpAny _ _ _ _ _ _ _ W) (fun W => Two w [.int .u8 4, .string key, .string value, .string old, .string to, .int .u64 (am : Int)] [.int .u8 4, .string key, .string value, .string old, .string ByteArray.empty, .int .u64 0] W) ⟨one_new w _ _ _, two_new w _ _ _, by first | exact below_drewN (HB _ _).out _ | exact below_drewN (below_drewN (HB _ _).out _) _⟩ (fun W HW => ?_)
      refine wpAny_of_held (S := fun W => Two w [.int .u8 4, .string key, .string value, .string old, .string to, .int .u64 (am : Int)] [.int .u8 4, .string key, .string value, .string old, .string ByteArray.empty, .int .u64 0] W) _ _ _ _ ?_
      refine wpAnyH_take (i := 0) (oi := { dst := some 32, op := Op.load 49 (Operand.tmp 2), type := 49, pos := "ledger.go:86", after := #[], guard := none }) (v := .agg [.int .u8 4, .string key, .string value, .string old, .string ByteArray.empty, .int .u64 0].toArray) rfl (by kernel_rfl) (by kernel_rfl) (by kernel_rfl) (fun _ _ _ h => h) (Or.inl ⟨by kernel_rfl, fun W hSW => exec_load_mid 49 (.tmp 2) rfl (w.heap.size + 1) 0 rfl [.int .u8 4, .string key, .string value, .string old, .string ByteArray.empty, .int .u64 0] _ (range_all hSW.2.1) Tryd.underlying49 rfl Tryd.is49⟩) (HW) ?_
      try simp only [Act.put, List.setIfInBounds_toArray, List.set_cons_zero, List.set_cons_succ]
      refine wpAnyH_take (i := 1) (oi := { dst := some 33, op := Op.fieldAddr 49 (Operand.tmp 1) 3, type := 0, pos := "ledger.go:86", after := #[], guard := none }) (v := .pointer (some ⟨w.heap.size, 3, none⟩)) rfl (by kernel_rfl) (by kernel_rfl) (by kernel_rfl) (fun _ _ _ h => h) (Or.inl ⟨by kernel_rfl, fun W hSW => by go_simp⟩) (HW) ?_
      try simp only [Act.put, List.setIfInBounds_toArray, List.set_cons_zero, List.set_cons_succ]
      refine wpAnyH_take (i := 2) (oi := { dst := some 34, op := Op.load 9 (Operand.tmp 33), type := 9, pos := "ledger.go:86", after := #[{ on := 1, ground := Ground.data }], guard := none }) (v := .string old) rfl (by kernel_rfl) (by kernel_rfl) (by kernel_rfl) (fun _ _ _ h => h) (Or.inl ⟨by kernel_rfl, fun W hSW => by have hc := block_cell (k := 3) hSW.1 _ rfl; go_simp⟩) (HW) ?_
      try simp only [Act.put, List.setIfInBounds_toArray, List.set_cons_zero, List.set_cons_succ]
      refine wpAnyH_ready (rs := [3]) (by kernel_rfl) (by simp) ?_
      refine AllReadyH.cons (o := { dst := some 35, op := Op.call { callee := Callee.value (Operand.func 41), args := #[Operand.tmp 34], argTypes := #[9] }, type := 4, pos := "ledger.go:86", after := #[{ on := 2, ground := Ground.data }], guard := none }) rfl (fun K' hK' => ?_) AllReadyH.nil
      go_simp
      go_at_call 41
      refine (HO.out _).mono ?_
      rintro E w1 ⟨rfl, rfl⟩
      refine hK'.out _ _ HW (fun _ => ?_)
      clear hK' K'
      try simp only [Act.put, List.setIfInBounds_toArray, List.set_cons_zero, List.set_cons_succ]
      refine wpAnyH_take (i := 4) (oi := { dst := some 36, op := Op.move (Operand.tmp 35), type := 4, pos := "ledger.go:86", after := #[{ on := 3, ground := Ground.data }, { on := 3, ground := Ground.chain }], guard := none }) (v := .bool false) rfl (by kernel_rfl) (by kernel_rfl) (by kernel_rfl) (fun _ _ _ h => h) (Or.inl ⟨by kernel_rfl, fun W hSW => by go_simp⟩) (HW) ?_
      try simp only [Act.put, List.setIfInBounds_toArray, List.set_cons_zero, List.set_cons_succ]
      refine wpAnyH_take (i := 5) (oi := { dst := some 37, op := Op.fieldAddr 49 (Operand.tmp 1) 2, type := 0, pos := "ledger.go:86", after := #[{ on := 4, ground := Ground.guard }], guard := some (4, true) }) (v := undef) rfl (by kernel_rfl) (by kernel_rfl) (by kernel_rfl) (fun _ _ _ h => h) (Or.inr ⟨by kernel_rfl, rfl⟩) (HW) ?_
      try simp only [Act.put, List.setIfInBounds_toArray, List.set_cons_zero, List.set_cons_succ]
      refine wpAnyH_take (i := 6) (oi := { dst := some 38, op := Op.load 9 (Operand.tmp 37), type := 9, pos := "ledger.go:86", after := #[{ on := 5, ground := Ground.data }, { on := 4, ground := Ground.guard }], guard := some (4, true) }) (v := undef) rfl (by kernel_rfl) (by kernel_rfl) (by kernel_rfl) (fun _ _ _ h => h) (Or.inr ⟨by kernel_rfl, rfl⟩) (HW) ?_
      try simp only [Act.put, List.setIfInBounds_toArray, List.set_cons_zero, List.set_cons_succ]
      refine wpAnyH_take (i := 7) (oi := { dst := some 39, op := Op.call { callee := Callee.value (Operand.func 41), args := #[Operand.tmp 38], argTypes := #[9] }, type := 4, pos := "ledger.go:86", after := #[{ on := 6, ground := Ground.data }, { on := 4, ground := Ground.chain }, { on := 4, ground := Ground.guard }], guard := some (4, true) }) (v := undef) rfl (by kernel_rfl) (by kernel_rfl) (by kernel_rfl) (fun _ _ _ h => h) (Or.inr ⟨by kernel_rfl, rfl⟩) (HW) ?_
      try simp only [Act.put, List.setIfInBounds_toArray, List.set_cons_zero, List.set_cons_succ]
      refine wpAnyH_take (i := 8) (oi := { dst := some 40, op := Op.pick (Operand.tmp 36) (Operand.tmp 39) (Operand.const (Value.bool false)), type := 4, pos := "ledger.go:86", after := #[{ on := 4, ground := Ground.data }, { on := 7, ground := Ground.data }, { on := 9, ground := Ground.gcOnly Departure.lateStores }], guard := none }) (v := .bool false) rfl (by kernel_rfl) (by kernel_rfl) (by kernel_rfl) (fun _ _ _ h => h) (Or.inl ⟨by kernel_rfl, fun W hSW => by go_simp⟩) (HW) ?_
      try simp only [Act.put, List.setIfInBounds_toArray, List.set_cons_zero, List.set_cons_succ]
      refine wpAnyH_ready (rs := [9]) (by kernel_rfl) (by simp) ?_
      refine AllReadyH.cons (o := { dst := none, op := Op.store 49 (Operand.tmp 2) (Operand.tmp 32), type := 0, pos := "ledger.go:86", after := #[{ on := 0, ground := Ground.data }, { on := 7, ground := Ground.chain }, { on := 0, ground := Ground.phase }, { on := 1, ground := Ground.textOnly Departure.lateStores }, { on := 2, ground := Ground.textOnly Departure.lateStores }, { on := 3, ground := Ground.textOnly Departure.lateStoresUnsure }, { on := 4, ground := Ground.textOnly Departure.lateStores }, { on := 5, ground := Ground.textOnly Departure.lateStores }, { on := 6, ground := Ground.textOnly Departure.lateStores }, { on := 7, ground := Ground.textOnly Departure.lateStoresUnsure }, { on := 8, ground := Ground.textOnly Departure.lateStores }], guard := none }) rfl (fun K' hK' => ?_) AllReadyH.nil
      rw [if_pos (by kernel_rfl)]
      refine wp_store_mid 49 (.tmp 2) (.tmp 32) rfl (w.heap.size + 1) 0 [.int .u8 4, .string key, .string value, .string old, .string ByteArray.empty, .int .u64 0].toArray rfl rfl (there_block HW.2.1 0 6 (by simp)) Tryd.is49 (by simp [Value.oneCell']) ?_
      rw [show ([.int .u8 4, .string key, .string value, .string old, .string ByteArray.empty, .int .u64 0] : List Value).toArray.toList = [.int .u8 4, .string key, .string value, .string old, .string ByteArray.empty, .int .u64 0] from rfl, heap_same0 HW.2.1]
      refine hK'.out _ _ HW (fun _ => ?_)
      clear hK' K'
      try simp only [Act.put]
      refine wpAnyH_take (i := 10) (oi := { dst := some 3, op := Op.assign (Operand.tmp 40), type := 4, pos := "ledger.go:86", after := #[{ on := 8, ground := Ground.data }, { on := 9, ground := Ground.chain }, { on := 0, ground := Ground.phase }, { on := 1, ground := Ground.phase }, { on := 2, ground := Ground.phase }, { on := 3, ground := Ground.phase }, { on := 4, ground := Ground.phase }, { on := 5, ground := Ground.phase }, { on := 6, ground := Ground.phase }, { on := 7, ground := Ground.phase }, { on := 8, ground := Ground.phase }, { on := 9, ground := Ground.phase }], guard := none }) (v := .bool false) rfl (by kernel_rfl) (by kernel_rfl) (by kernel_rfl) (fun _ _ _ h => h) (Or.inl ⟨by kernel_rfl, fun W hSW => by go_simp⟩) (HW) ?_
      try simp only [Act.put, List.setIfInBounds_toArray, List.set_cons_zero, List.set_cons_succ]
      refine wpAnyH_done (by kernel_rfl) ?_ _
      go_wp2_with fail
      (try simp only [Exit.inBlock, Exit.then]); refine bodyPost_ret (ret_ct (g := w.heap.size + 1) (cs := [.int .u8 4, .string key, .string value, .string old, .string ByteArray.empty, .int .u64 0]) rfl rfl rfl (range_all HW.2.1) Tryd.underlying49 rfl Tryd.is49) rfl ?_
      exact ⟨by rw [HE.out]; rfl, HW.2.2⟩
  | true =>
    go_enter Tryd.func42, Tryd.ntmps42
    go_wp2_with fail
    go_region
    all_goals
      go_wp2_with fail
      refine wp_region_any (by kernel_rfl) ?_
      refine held_gen (G := fun W => wpAny _ _ _ _ _ _ _ W) (fun W => Two w [.int .u8 4, .string key, .string value, .string old, .string to, .int .u64 (am : Int)] [.int .u8 4, .string key, .string value, .string old, .string ByteArray.empty, .int .u64 0] W) ⟨one_new w _ _ _, two_new w _ _ _, by first | exact below_drewN (HB _ _).out _ | exact below_drewN (below_drewN (HB _ _).out _) _⟩ (fun W HW => ?_)
      refine wpAny_of_held (S := fun W => Two w [.int .u8 4, .string key, .string value, .string old, .string to, .int .u64 (am : Int)] [.int .u8 4, .string key, .string value, .string old, .string ByteArray.empty, .int .u64 0] W) _ _ _ _ ?_
      refine wpAnyH_take (i := 0) (oi := { dst := some 32, op := Op.load 49 (Operand.tmp 2), type := 49, pos := "ledger.go:86", after := #[], guard := none }) (v := .agg [.int .u8 4, .string key, .string value, .string old, .string ByteArray.empty, .int .u64 0].toArray) rfl (by kernel_rfl) (by kernel_rfl) (by kernel_rfl) (fun _ _ _ h => h) (Or.inl ⟨by kernel_rfl, fun W hSW => exec_load_mid 49 (.tmp 2) rfl (w.heap.size + 1) 0 rfl [.int .u8 4, .string key, .string value, .string old, .string ByteArray.empty, .int .u64 0] _ (range_all hSW.2.1) Tryd.underlying49 rfl Tryd.is49⟩) (HW) ?_
      try simp only [Act.put, List.setIfInBounds_toArray, List.set_cons_zero, List.set_cons_succ]
      refine wpAnyH_take (i := 1) (oi := { dst := some 33, op := Op.fieldAddr 49 (Operand.tmp 1) 3, type := 0, pos := "ledger.go:86", after := #[], guard := none }) (v := .pointer (some ⟨w.heap.size, 3, none⟩)) rfl (by kernel_rfl) (by kernel_rfl) (by kernel_rfl) (fun _ _ _ h => h) (Or.inl ⟨by kernel_rfl, fun W hSW => by go_simp⟩) (HW) ?_
      try simp only [Act.put, List.setIfInBounds_toArray, List.set_cons_zero, List.set_cons_succ]
      refine wpAnyH_take (i := 2) (oi := { dst := some 34, op := Op.load 9 (Operand.tmp 33), type := 9, pos := "ledger.go:86", after := #[{ on := 1, ground := Ground.data }], guard := none }) (v := .string old) rfl (by kernel_rfl) (by kernel_rfl) (by kernel_rfl) (fun _ _ _ h => h) (Or.inl ⟨by kernel_rfl, fun W hSW => by have hc := block_cell (k := 3) hSW.1 _ rfl; go_simp⟩) (HW) ?_
      try simp only [Act.put, List.setIfInBounds_toArray, List.set_cons_zero, List.set_cons_succ]
      refine wpAnyH_ready (rs := [3]) (by kernel_rfl) (by simp) ?_
      refine AllReadyH.cons (o := { dst := some 35, op := Op.call { callee := Callee.value (Operand.func 41), args := #[Operand.tmp 34], argTypes := #[9] }, type := 4, pos := "ledger.go:86", after := #[{ on := 2, ground := Ground.data }], guard := none }) rfl (fun K' hK' => ?_) AllReadyH.nil
      go_simp
      go_at_call 41
      refine (HO.out _).mono ?_
      rintro E w1 ⟨rfl, rfl⟩
      refine hK'.out _ _ HW (fun _ => ?_)
      clear hK' K'
      try simp only [Act.put, List.setIfInBounds_toArray, List.set_cons_zero, List.set_cons_succ]
      refine wpAnyH_take (i := 4) (oi := { dst := some 36, op := Op.move (Operand.tmp 35), type := 4, pos := "ledger.go:86", after := #[{ on := 3, ground := Ground.data }, { on := 3, ground := Ground.chain }], guard := none }) (v := .bool true) rfl (by kernel_rfl) (by kernel_rfl) (by kernel_rfl) (fun _ _ _ h => h) (Or.inl ⟨by kernel_rfl, fun W hSW => by go_simp⟩) (HW) ?_
      try simp only [Act.put, List.setIfInBounds_toArray, List.set_cons_zero, List.set_cons_succ]
      refine wpAnyH_take (i := 5) (oi := { dst := some 37, op := Op.fieldAddr 49 (Operand.tmp 1) 2, type := 0, pos := "ledger.go:86", after := #[{ on := 4, ground := Ground.guard }], guard := some (4, true) }) (v := .pointer (some ⟨w.heap.size, 2, none⟩)) rfl (by kernel_rfl) (by kernel_rfl) (by kernel_rfl) (fun _ _ _ h => h) (Or.inl ⟨by kernel_rfl, fun W hSW => by go_simp⟩) (HW) ?_
      try simp only [Act.put, List.setIfInBounds_toArray, List.set_cons_zero, List.set_cons_succ]
      refine wpAnyH_take (i := 6) (oi := { dst := some 38, op := Op.load 9 (Operand.tmp 37), type := 9, pos := "ledger.go:86", after := #[{ on := 5, ground := Ground.data }, { on := 4, ground := Ground.guard }], guard := some (4, true) }) (v := .string value) rfl (by kernel_rfl) (by kernel_rfl) (by kernel_rfl) (fun _ _ _ h => h) (Or.inl ⟨by kernel_rfl, fun W hSW => by have hc := block_cell (k := 2) hSW.1 _ rfl; go_simp⟩) (HW) ?_
      try simp only [Act.put, List.setIfInBounds_toArray, List.set_cons_zero, List.set_cons_succ]
      refine wpAnyH_ready (rs := [7]) (by kernel_rfl) (by simp) ?_
      refine AllReadyH.cons (o := { dst := some 39, op := Op.call { callee := Callee.value (Operand.func 41), args := #[Operand.tmp 38], argTypes := #[9] }, type := 4, pos := "ledger.go:86", after := #[{ on := 6, ground := Ground.data }, { on := 4, ground := Ground.chain }, { on := 4, ground := Ground.guard }], guard := some (4, true) }) rfl (fun K' hK' => ?_) AllReadyH.nil
      go_simp
      go_at_call 41
      refine (HV.out _).mono ?_
      rintro E w1 ⟨rfl, rfl⟩
      refine hK'.out _ _ HW (fun _ => ?_)
      clear hK' K'
      try simp only [Act.put, List.setIfInBounds_toArray, List.set_cons_zero, List.set_cons_succ]
      refine wpAnyH_take (i := 8) (oi := { dst := some 40, op := Op.pick (Operand.tmp 36) (Operand.tmp 39) (Operand.const (Value.bool false)), type := 4, pos := "ledger.go:86", after := #[{ on := 4, ground := Ground.data }, { on := 7, ground := Ground.data }, { on := 9, ground := Ground.gcOnly Departure.lateStores }], guard := none }) (v := .bool z) rfl (by kernel_rfl) (by kernel_rfl) (by kernel_rfl) (fun _ _ _ h => h) (Or.inl ⟨by kernel_rfl, fun W hSW => by go_simp⟩) (HW) ?_
      try simp only [Act.put, List.setIfInBounds_toArray, List.set_cons_zero, List.set_cons_succ]
      refine wpAnyH_ready (rs := [9]) (by kernel_rfl) (by simp) ?_
      refine AllReadyH.cons (o := { dst := none, op := Op.store 49 (Operand.tmp 2) (Operand.tmp 32), type := 0, pos := "ledger.go:86", after := #[{ on := 0, ground := Ground.data }, { on := 7, ground := Ground.chain }, { on := 0, ground := Ground.phase }, { on := 1, ground := Ground.textOnly Departure.lateStores }, { on := 2, ground := Ground.textOnly Departure.lateStores }, { on := 3, ground := Ground.textOnly Departure.lateStoresUnsure }, { on := 4, ground := Ground.textOnly Departure.lateStores }, { on := 5, ground := Ground.textOnly Departure.lateStores }, { on := 6, ground := Ground.textOnly Departure.lateStores }, { on := 7, ground := Ground.textOnly Departure.lateStoresUnsure }, { on := 8, ground := Ground.textOnly Departure.lateStores }], guard := none }) rfl (fun K' hK' => ?_) AllReadyH.nil
      rw [if_pos (by kernel_rfl)]
      refine wp_store_mid 49 (.tmp 2) (.tmp 32) rfl (w.heap.size + 1) 0 [.int .u8 4, .string key, .string value, .string old, .string ByteArray.empty, .int .u64 0].toArray rfl rfl (there_block HW.2.1 0 6 (by simp)) Tryd.is49 (by simp [Value.oneCell']) ?_
      rw [show ([.int .u8 4, .string key, .string value, .string old, .string ByteArray.empty, .int .u64 0] : List Value).toArray.toList = [.int .u8 4, .string key, .string value, .string old, .string ByteArray.empty, .int .u64 0] from rfl, heap_same0 HW.2.1]
      refine hK'.out _ _ HW (fun _ => ?_)
      clear hK' K'
      try simp only [Act.put]
      refine wpAnyH_take (i := 10) (oi := { dst := some 3, op := Op.assign (Operand.tmp 40), type := 4, pos := "ledger.go:86", after := #[{ on := 8, ground := Ground.data }, { on := 9, ground := Ground.chain }, { on := 0, ground := Ground.phase }, { on := 1, ground := Ground.phase }, { on := 2, ground := Ground.phase }, { on := 3, ground := Ground.phase }, { on := 4, ground := Ground.phase }, { on := 5, ground := Ground.phase }, { on := 6, ground := Ground.phase }, { on := 7, ground := Ground.phase }, { on := 8, ground := Ground.phase }, { on := 9, ground := Ground.phase }], guard := none }) (v := .bool z) rfl (by kernel_rfl) (by kernel_rfl) (by kernel_rfl) (fun _ _ _ h => h) (Or.inl ⟨by kernel_rfl, fun W hSW => by go_simp⟩) (HW) ?_
      try simp only [Act.put, List.setIfInBounds_toArray, List.set_cons_zero, List.set_cons_succ]
      refine wpAnyH_done (by kernel_rfl) ?_ _
      go_wp2_with fail
      (try simp only [Exit.inBlock, Exit.then]); refine bodyPost_ret (ret_ct (g := w.heap.size + 1) (cs := [.int .u8 4, .string key, .string value, .string old, .string ByteArray.empty, .int .u64 0]) rfl rfl rfl (range_all HW.2.1) Tryd.underlying49 rfl Tryd.is49) rfl ?_
      exact ⟨by rw [HE.out]; rfl, HW.2.2⟩
end Go.Proofs.YtflenghnmflenaaDoor
