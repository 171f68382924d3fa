/-
  What is proved: what an operation that swaps, or moves, may be. Conditions as stated.
  What is proved: what an operation that moves may be. Conditions as stated.
  What is proved: when two operations, items, replies are the same; whether an operation may be. Conditions as stated.
-/
import Derived.Test.YtpageppjngbnpaaDoorA1
import Derived.Laws.StructEq
namespace Go.Proofs.YtpageppjngbnpaaDoor
open Go.RowKit
set_option maxRecDepth 100000

theorem exec_load_mid {P : Program} {o : Oper} {f : Operand → Value} {w : World} (ty : TypeId) (x : Operand) (ho : o.op = .load ty x) (b off : Nat) (hx : f x = .pointer (some ⟨b, off, none⟩)) (cs : List Value) (d : TypeDesc)
    (hc : w.rangeAt b off cs) (hu : P.underlying ty = some d) (hd : d.isRow = true) (hi : (P.info? ty).map (·.size) = some cs.length) : (execOp f o).run P w = .ok (.value (.agg cs.toArray)) w := by
  unfold execOp
  simp only [ho, hx, Instr.loadAt, Instr.sureAddr, Sem.run_bind, Sem.run_pure, Result.andThen_ok, run_loadVar_mid w b off ty cs d hc hu hd hi]
theorem free_block {w : World} {g : Nat} {C : Array Value} {t : TypeId} (h : w.heap[g]? = some (.cells C t (0, 0))) (k : Nat) : w.frozen? ⟨g, k, none⟩ = false := by
  simp only [World.frozen?, h]
  simp
theorem there_block {w : World} {g : Nat} {C : List Value} {t : TypeId} (h : w.heap[g]? = some (.cells C.toArray t (0, 0))) (o n : Nat) (hn : o + n ≤ C.length) : w.there g o n := fun j hj => by
  have hc : (C[o + j]?).isSome = true := by simp; omega
  obtain ⟨v, hv⟩ := Option.isSome_iff_exists.1 hc
  exact ⟨by rw [cell_of_row _ _ (o + j) C.toArray t (0, 0) h]; simpa using (by omega : o + j < C.length), free_block h _⟩
theorem one_new (w : World) (C : List Value) (t : TypeId) (o2 : Obj) : ((w.alloc (.cells C.toArray t)).alloc o2).heap[w.heap.size]? = some (.cells C.toArray t (0, 0)) :=
  (heap_alloc_old (w.alloc (.cells C.toArray t)) o2 (by simp)).trans (heap_alloc_new w (.cells C.toArray t))
theorem held_gen {G : World → Prop} {V : World} (S : World → Prop) (h : S V) (k : ∀ W, S W → G W) : G V := k V h
/-- What was handed in lies in the one block, what is made in the other. -/
def Two (w : World) (C D : List Value) (W : World) : Prop := W.heap[w.heap.size]? = some (.cells C.toArray 34 (0, 0)) ∧ W.heap[w.heap.size + 1]? = some (.cells D.toArray 34 (0, 0)) ∧ Below w.heap.size w W
theorem heap_same {w : World} {g : Nat} {C : List Value} {t : TypeId} (h : w.heap[g]? = some (.cells C.toArray t (0, 0))) : ∀ (P R : List Value) (S : List Value), P ++ R ++ S = C → (w.setCells g P.length R) = w := by
  intro P R
  induction R generalizing P with
  | nil => intro S _; rfl
  | cons v r ih =>
    intro S hC
    have hv : C[P.length]? = some v := by rw [← hC]; simp
    have h1 : w.setCell ⟨g, P.length, none⟩ v = w := by
      have hm : (w.setCell ⟨g, P.length, none⟩ v).heap = w.heap := by
        apply Array.ext_getElem?
        intro i
        by_cases hi : i = g
        · subst i
          have e : (w.setCell ⟨g, P.length, none⟩ v).heap[g]? = some (.cells (C.set P.length v).toArray t (0, 0)) := by simp [World.setCell, Array.getElem?_modify, h]
          obtain ⟨hl, e2⟩ := List.getElem?_eq_some_iff.1 hv
          rw [e, h, ← e2, List.set_getElem_self hl]
        · exact Below.heap_setCell w ⟨g, P.length, none⟩ v i hi
      have hr : w.setCell ⟨g, P.length, none⟩ v = { w with heap := (w.setCell ⟨g, P.length, none⟩ v).heap } := rfl
      rw [hr, hm]
    rw [World.setCells, h1]
    have := ih (P ++ [v]) S (by simpa using hC)
    rwa [List.length_append] at this
theorem heap_same0 {w : World} {g : Nat} {C : List Value} {t : TypeId} (h : w.heap[g]? = some (.cells C.toArray t (0, 0))) : w.setCells g 0 C = w := heap_same h [] C [] (by simp)
set_option maxHeartbeats 4000000 in
theorem own_4 (kk : UInt8) (key value old to : ByteArray) (am : Nat) (w : World) (hk : (kk.toNat : Int) = 4) : Calls Tryd.prog 46 #[.agg (opC ⟨kk, key, value, old, to, am⟩).toArray] w fun E w' => OwnP w (⟨kk, key, value, old, ByteArray.empty, 0⟩) (mayV old && mayV value) E w' := by
  dsimp only [opC]
  obtain ⟨K, hK⟩ : ∃ K : Int, K = kk.toNat := ⟨_, rfl⟩
  have HE := Lib.hid (show opC (⟨kk, key, value, old, ByteArray.empty, 0⟩) = [.int .u8 K, .string key, .string value, .string old, .string ByteArray.empty, .int .u64 0] by rw [hK]; rfl)
  have HB : ∀ o1 o2, Hid (Below w.heap.size w ((w.alloc o1).alloc o2)) := fun _ _ => Lib.hid (((Below.refl _ _).alloc (Nat.le_refl _) _).alloc (by simp) _)
  rw [← hK] at hk ⊢
  clear hK
  subst hk
  have HV := Lib.hid (fun W => mayV_any value W)
  have HO := Lib.hid (fun W => mayV_any old W)
  obtain ⟨z, hz⟩ : ∃ z, z = mayV value := ⟨_, rfl⟩
  obtain ⟨y, hy⟩ : ∃ y, y = mayV old := ⟨_, rfl⟩
  rw [← hz] at HV ⊢
  rw [← hy] at HO ⊢
  clear hz hy
  cases y with
  | false =>
    go_enter Tryd.func46, Tryd.ntmps46
    go_wp2_with fail
    go_region
    all_goals
      go_wp2_with fail
      refine wp_region_any (by kernel_rfl) ?_
      refine held_gen (G := fun W => wpAny _ _ _ _ _ _ _ W) (fun W => Two w [.int .u8 4, .string key, .string value, .string old, .string to, .int .u64 (am : Int)] [.int .u8 4, .string key, .string value, .string old, .string ByteArray.empty, .int .u64 0] W) ⟨one_new w _ _ _, two_new w _ _ _, by first | exact below_drewN (HB _ _).out _ | exact below_drewN (below_drewN (HB _ _).out _) _⟩ (fun W HW => ?_)
      refine wpAny_of_held (S := fun W => Two w [.int .u8 4, .string key, .string value, .string old, .string to, .int .u64 (am : Int)] [.int .u8 4, .string key, .string value, .string old, .string ByteArray.empty, .int .u64 0] W) _ _ _ _ ?_
      refine wpAnyH_take (i := 0) (oi := { dst := some 32, op := Op.load 34 (Operand.tmp 2), type := 34, pos := "ledger.go:86", after := #[], guard := none }) (v := .agg [.int .u8 4, .string key, .string value, .string old, .string ByteArray.empty, .int .u64 0].toArray) rfl (by kernel_rfl) (by kernel_rfl) (by kernel_rfl) (fun _ _ _ h => h) (Or.inl ⟨by kernel_rfl, fun W hSW => exec_load_mid 34 (.tmp 2) rfl (w.heap.size + 1) 0 rfl [.int .u8 4, .string key, .string value, .string old, .string ByteArray.empty, .int .u64 0] _ (range_all hSW.2.1) Tryd.underlying34 rfl Tryd.is34⟩) (HW) ?_
      try simp only [Act.put, List.setIfInBounds_toArray, List.set_cons_zero, List.set_cons_succ]
      refine wpAnyH_take (i := 1) (oi := { dst := some 33, op := Op.fieldAddr 34 (Operand.tmp 1) 3, type := 0, pos := "ledger.go:86", after := #[], guard := none }) (v := .pointer (some ⟨w.heap.size, 3, none⟩)) rfl (by kernel_rfl) (by kernel_rfl) (by kernel_rfl) (fun _ _ _ h => h) (Or.inl ⟨by kernel_rfl, fun W hSW => by go_simp⟩) (HW) ?_
      try simp only [Act.put, List.setIfInBounds_toArray, List.set_cons_zero, List.set_cons_succ]
      refine wpAnyH_take (i := 2) (oi := { dst := some 34, op := Op.load 9 (Operand.tmp 33), type := 9, pos := "ledger.go:86", after := #[{ on := 1, ground := Ground.data }], guard := none }) (v := .string old) rfl (by kernel_rfl) (by kernel_rfl) (by kernel_rfl) (fun _ _ _ h => h) (Or.inl ⟨by kernel_rfl, fun W hSW => by have hc := block_cell (k := 3) hSW.1 _ rfl; go_simp⟩) (HW) ?_
      try simp only [Act.put, List.setIfInBounds_toArray, List.set_cons_zero, List.set_cons_succ]
      refine wpAnyH_ready (rs := [3]) (by kernel_rfl) (by simp) ?_
      refine AllReadyH.cons (o := { dst := some 35, op := Op.call { callee := Callee.value (Operand.func 45), args := #[Operand.tmp 34], argTypes := #[9] }, type := 4, pos := "ledger.go:86", after := #[{ on := 2, ground := Ground.data }], guard := none }) rfl (fun K' hK' => ?_) AllReadyH.nil
      go_simp
      go_at_call 45
      refine (HO.out _).mono ?_
      rintro E w1 ⟨rfl, rfl⟩
      refine hK'.out _ _ HW (fun _ => ?_)
      clear hK' K'
      try simp only [Act.put, List.setIfInBounds_toArray, List.set_cons_zero, List.set_cons_succ]
      refine wpAnyH_take (i := 4) (oi := { dst := some 36, op := Op.move (Operand.tmp 35), type := 4, pos := "ledger.go:86", after := #[{ on := 3, ground := Ground.data }, { on := 3, ground := Ground.chain }], guard := none }) (v := .bool false) rfl (by kernel_rfl) (by kernel_rfl) (by kernel_rfl) (fun _ _ _ h => h) (Or.inl ⟨by kernel_rfl, fun W hSW => by go_simp⟩) (HW) ?_
      try simp only [Act.put, List.setIfInBounds_toArray, List.set_cons_zero, List.set_cons_succ]
      refine wpAnyH_take (i := 5) (oi := { dst := some 37, op := Op.fieldAddr 34 (Operand.tmp 1) 2, type := 0, pos := "ledger.go:86", after := #[{ on := 4, ground := Ground.guard }], guard := some (4, true) }) (v := undef) rfl (by kernel_rfl) (by kernel_rfl) (by kernel_rfl) (fun _ _ _ h => h) (Or.inr ⟨by kernel_rfl, rfl⟩) (HW) ?_
      try simp only [Act.put, List.setIfInBounds_toArray, List.set_cons_zero, List.set_cons_succ]
      refine wpAnyH_take (i := 6) (oi := { dst := some 38, op := Op.load 9 (Operand.tmp 37), type := 9, pos := "ledger.go:86", after := #[{ on := 5, ground := Ground.data }, { on := 4, ground := Ground.guard }], guard := some (4, true) }) (v := undef) rfl (by kernel_rfl) (by kernel_rfl) (by kernel_rfl) (fun _ _ _ h => h) (Or.inr ⟨by kernel_rfl, rfl⟩) (HW) ?_
      try simp only [Act.put, List.setIfInBounds_toArray, List.set_cons_zero, List.set_cons_succ]
      refine wpAnyH_take (i := 7) (oi := { dst := some 39, op := Op.call { callee := Callee.value (Operand.func 45), args := #[Operand.tmp 38], argTypes := #[9] }, type := 4, pos := "ledger.go:86", after := #[{ on := 6, ground := Ground.data }, { on := 4, ground := Ground.chain }, { on := 4, ground := Ground.guard }], guard := some (4, true) }) (v := undef) rfl (by kernel_rfl) (by kernel_rfl) (by kernel_rfl) (fun _ _ _ h => h) (Or.inr ⟨by kernel_rfl, rfl⟩) (HW) ?_
      try simp only [Act.put, List.setIfInBounds_toArray, List.set_cons_zero, List.set_cons_succ]
      refine wpAnyH_take (i := 8) (oi := { dst := some 40, op := Op.pick (Operand.tmp 36) (Operand.tmp 39) (Operand.const (Value.bool false)), type := 4, pos := "ledger.go:86", after := #[{ on := 4, ground := Ground.data }, { on := 7, ground := Ground.data }, { on := 9, ground := Ground.gcOnly Departure.lateStores }], guard := none }) (v := .bool false) rfl (by kernel_rfl) (by kernel_rfl) (by kernel_rfl) (fun _ _ _ h => h) (Or.inl ⟨by kernel_rfl, fun W hSW => by go_simp⟩) (HW) ?_
      try simp only [Act.put, List.setIfInBounds_toArray, List.set_cons_zero, List.set_cons_succ]
      refine wpAnyH_ready (rs := [9]) (by kernel_rfl) (by simp) ?_
      refine AllReadyH.cons (o := { dst := none, op := Op.store 34 (Operand.tmp 2) (Operand.tmp 32), type := 0, pos := "ledger.go:86", after := #[{ on := 0, ground := Ground.data }, { on := 7, ground := Ground.chain }, { on := 0, ground := Ground.phase }, { on := 1, ground := Ground.textOnly Departure.lateStores }, { on := 2, ground := Ground.textOnly Departure.lateStores }, { on := 3, ground := Ground.textOnly Departure.lateStoresUnsure }, { on := 4, ground := Ground.textOnly Departure.lateStores }, { on := 5, ground := Ground.textOnly Departure.lateStores }, { on := 6, ground := Ground.textOnly Departure.lateStores }, { on := 7, ground := Ground.textOnly Departure.lateStoresUnsure }, { on := 8, ground := Ground.textOnly Departure.lateStores }], guard := none }) rfl (fun K' hK' => ?_) AllReadyH.nil
      rw [if_pos (by kernel_rfl)]
      refine wp_store_mid 34 (.tmp 2) (.tmp 32) rfl (w.heap.size + 1) 0 [.int .u8 4, .string key, .string value, .string old, .string ByteArray.empty, .int .u64 0].toArray rfl rfl (there_block HW.2.1 0 6 (by simp)) Tryd.is34 (by simp [Value.oneCell']) ?_
      rw [show ([.int .u8 4, .string key, .string value, .string old, .string ByteArray.empty, .int .u64 0] : List Value).toArray.toList = [.int .u8 4, .string key, .string value, .string old, .string ByteArray.empty, .int .u64 0] from rfl, heap_same0 HW.2.1]
      refine hK'.out _ _ HW (fun _ => ?_)
      clear hK' K'
      try simp only [Act.put]
      refine wpAnyH_take (i := 10) (oi := { dst := some 3, op := Op.assign (Operand.tmp 40), type := 4, pos := "ledger.go:86", after := #[{ on := 8, ground := Ground.data }, { on := 9, ground := Ground.chain }, { on := 0, ground := Ground.phase }, { on := 1, ground := Ground.phase }, { on := 2, ground := Ground.phase }, { on := 3, ground := Ground.phase }, { on := 4, ground := Ground.phase }, { on := 5, ground := Ground.phase }, { on := 6, ground := Ground.phase }, { on := 7, ground := Ground.phase }, { on := 8, ground := Ground.phase }, { on := 9, ground := Ground.phase }], guard := none }) (v := .bool false) rfl (by kernel_rfl) (by kernel_rfl) (by kernel_rfl) (fun _ _ _ h => h) (Or.inl ⟨by kernel_rfl, fun W hSW => by go_simp⟩) (HW) ?_
      try simp only [Act.put, List.setIfInBounds_toArray, List.set_cons_zero, List.set_cons_succ]
      refine wpAnyH_done (by kernel_rfl) ?_ _
      go_wp2_with fail
      (try simp only [Exit.inBlock, Exit.then]); refine bodyPost_ret (ret_ct (g := w.heap.size + 1) (cs := [.int .u8 4, .string key, .string value, .string old, .string ByteArray.empty, .int .u64 0]) rfl rfl rfl (range_all HW.2.1) Tryd.underlying34 rfl Tryd.is34) rfl ?_
      exact ⟨by rw [HE.out]; rfl, HW.2.2⟩
  | true =>
    go_enter Tryd.func46, Tryd.ntmps46
    go_wp2_with fail
    go_region
    all_goals
      go_wp2_with fail
      refine wp_region_any (by kernel_rfl) ?_
      refine held_gen (G := fun W => wpAny _ _ _ _ _ _ _ W) (fun W => Two w [.int .u8 4, .string key, .string value, .string old, .string to, .int .u64 (am : Int)] [.int .u8 4, .string key, .string value, .string old, .string ByteArray.empty, .int .u64 0] W) ⟨one_new w _ _ _, two_new w _ _ _, by first | exact below_drewN (HB _ _).out _ | exact below_drewN (below_drewN (HB _ _).out _) _⟩ (fun W HW => ?_)
      refine wpAny_of_held (S := fun W => Two w [.int .u8 4, .string key, .string value, .string old, .string to, .int .u64 (am : Int)] [.int .u8 4, .string key, .string value, .string old, .string ByteArray.empty, .int .u64 0] W) _ _ _ _ ?_
      refine wpAnyH_take (i := 0) (oi := { dst := some 32, op := Op.load 34 (Operand.tmp 2), type := 34, pos := "ledger.go:86", after := #[], guard := none }) (v := .agg [.int .u8 4, .string key, .string value, .string old, .string ByteArray.empty, .int .u64 0].toArray) rfl (by kernel_rfl) (by kernel_rfl) (by kernel_rfl) (fun _ _ _ h => h) (Or.inl ⟨by kernel_rfl, fun W hSW => exec_load_mid 34 (.tmp 2) rfl (w.heap.size + 1) 0 rfl [.int .u8 4, .string key, .string value, .string old, .string ByteArray.empty, .int .u64 0] _ (range_all hSW.2.1) Tryd.underlying34 rfl Tryd.is34⟩) (HW) ?_
      try simp only [Act.put, List.setIfInBounds_toArray, List.set_cons_zero, List.set_cons_succ]
      refine wpAnyH_take (i := 1) (oi := { dst := some 33, op := Op.fieldAddr 34 (Operand.tmp 1) 3, type := 0, pos := "ledger.go:86", after := #[], guard := none }) (v := .pointer (some ⟨w.heap.size, 3, none⟩)) rfl (by kernel_rfl) (by kernel_rfl) (by kernel_rfl) (fun _ _ _ h => h) (Or.inl ⟨by kernel_rfl, fun W hSW => by go_simp⟩) (HW) ?_
      try simp only [Act.put, List.setIfInBounds_toArray, List.set_cons_zero, List.set_cons_succ]
      refine wpAnyH_take (i := 2) (oi := { dst := some 34, op := Op.load 9 (Operand.tmp 33), type := 9, pos := "ledger.go:86", after := #[{ on := 1, ground := Ground.data }], guard := none }) (v := .string old) rfl (by kernel_rfl) (by kernel_rfl) (by kernel_rfl) (fun _ _ _ h => h) (Or.inl ⟨by kernel_rfl, fun W hSW => by have hc := block_cell (k := 3) hSW.1 _ rfl; go_simp⟩) (HW) ?_
      try simp only [Act.put, List.setIfInBounds_toArray, List.set_cons_zero, List.set_cons_succ]
      refine wpAnyH_ready (rs := [3]) (by kernel_rfl) (by simp) ?_
      refine AllReadyH.cons (o := { dst := some 35, op := Op.call { callee := Callee.value (Operand.func 45), args := #[Operand.tmp 34], argTypes := #[9] }, type := 4, pos := "ledger.go:86", after := #[{ on := 2, ground := Ground.data }], guard := none }) rfl (fun K' hK' => ?_) AllReadyH.nil
      go_simp
      go_at_call 45
      refine (HO.out _).mono ?_
      rintro E w1 ⟨rfl, rfl⟩
      refine hK'.out _ _ HW (fun _ => ?_)
      clear hK' K'
      try simp only [Act.put, List.setIfInBounds_toArray, List.set_cons_zero, List.set_cons_succ]
      refine wpAnyH_take (i := 4) (oi := { dst := some 36, op := Op.move (Operand.tmp 35), type := 4, pos := "ledger.go:86", after := #[{ on := 3, ground := Ground.data }, { on := 3, ground := Ground.chain }], guard := none }) (v := .bool true) rfl (by kernel_rfl) (by kernel_rfl) (by kernel_rfl) (fun _ _ _ h => h) (Or.inl ⟨by kernel_rfl, fun W hSW => by go_simp⟩) (HW) ?_
      try simp only [Act.put, List.setIfInBounds_toArray, List.set_cons_zero, List.set_cons_succ]
      refine wpAnyH_take (i := 5) (oi := { dst := some 37, op := Op.fieldAddr 34 (Operand.tmp 1) 2, type := 0, pos := "ledger.go:86", after := #[{ on := 4, ground := Ground.guard }], guard := some (4, true) }) (v := .pointer (some ⟨w.heap.size, 2, none⟩)) rfl (by kernel_rfl) (by kernel_rfl) (by kernel_rfl) (fun _ _ _ h => h) (Or.inl ⟨by kernel_rfl, fun W hSW => by go_simp⟩) (HW) ?_
      try simp only [Act.put, List.setIfInBounds_toArray, List.set_cons_zero, List.set_cons_succ]
      refine wpAnyH_take (i := 6) (oi := { dst := some 38, op := Op.load 9 (Operand.tmp 37), type := 9, pos := "ledger.go:86", after := #[{ on := 5, ground := Ground.data }, { on := 4, ground := Ground.guard }], guard := some (4, true) }) (v := .string value) rfl (by kernel_rfl) (by kernel_rfl) (by kernel_rfl) (fun _ _ _ h => h) (Or.inl ⟨by kernel_rfl, fun W hSW => by have hc := block_cell (k := 2) hSW.1 _ rfl; go_simp⟩) (HW) ?_
      try simp only [Act.put, List.setIfInBounds_toArray, List.set_cons_zero, List.set_cons_succ]
      refine wpAnyH_ready (rs := [7]) (by kernel_rfl) (by simp) ?_
      refine AllReadyH.cons (o := { dst := some 39, op := Op.call { callee := Callee.value (Operand.func 45), args := #[Operand.tmp 38], argTypes := #[9] }, type := 4, pos := "ledger.go:86", after := #[{ on := 6, ground := Ground.data }, { on := 4, ground := Ground.chain }, { on := 4, ground := Ground.guard }], guard := some (4, true) }) rfl (fun K' hK' => ?_) AllReadyH.nil
      go_simp
      go_at_call 45
      refine (HV.out _).mono ?_
      rintro E w1 ⟨rfl, rfl⟩
      refine hK'.out _ _ HW (fun _ => ?_)
      clear hK' K'
      try simp only [Act.put, List.setIfInBounds_toArray, List.set_cons_zero, List.set_cons_succ]
      refine wpAnyH_take (i := 8) (oi := { dst := some 40, op := Op.pick (Operand.tmp 36) (Operand.tmp 39) (Operand.const (Value.bool false)), type := 4, pos := "ledger.go:86", after := #[{ on := 4, ground := Ground.data }, { on := 7, ground := Ground.data }, { on := 9, ground := Ground.gcOnly Departure.lateStores }], guard := none }) (v := .bool z) rfl (by kernel_rfl) (by kernel_rfl) (by kernel_rfl) (fun _ _ _ h => h) (Or.inl ⟨by kernel_rfl, fun W hSW => by go_simp⟩) (HW) ?_
      try simp only [Act.put, List.setIfInBounds_toArray, List.set_cons_zero, List.set_cons_succ]
      refine wpAnyH_ready (rs := [9]) (by kernel_rfl) (by simp) ?_
      refine AllReadyH.cons (o := { dst := none, op := Op.store 34 (Operand.tmp 2) (Operand.tmp 32), type := 0, pos := "ledger.go:86", after := #[{ on := 0, ground := Ground.data }, { on := 7, ground := Ground.chain }, { on := 0, ground := Ground.phase }, { on := 1, ground := Ground.textOnly Departure.lateStores }, { on := 2, ground := Ground.textOnly Departure.lateStores }, { on := 3, ground := Ground.textOnly Departure.lateStoresUnsure }, { on := 4, ground := Ground.textOnly Departure.lateStores }, { on := 5, ground := Ground.textOnly Departure.lateStores }, { on := 6, ground := Ground.textOnly Departure.lateStores }, { on := 7, ground := Ground.textOnly Departure.lateStoresUnsure }, { on := 8, ground := Ground.textOnly Departure.lateStores }], guard := none }) rfl (fun K' hK' => ?_) AllReadyH.nil
      rw [if_pos (by kernel_rfl)]
      refine wp_store_mid 34 (.tmp 2) (.tmp 32) rfl (w.heap.size + 1) 0 [.int .u8 4, .string key, .string value, .string old, .string ByteArray.empty, .int .u64 0].toArray rfl rfl (there_block HW.2.1 0 6 (by simp)) Tryd.is34 (by simp [Value.oneCell']) ?_
      rw [show ([.int .u8 4, .string key, .string value, .string old, .string ByteArray.empty, .int .u64 0] : List Value).toArray.toList = [.int .u8 4, .string key, .string value, .string old, .string ByteArray.empty, .int .u64 0] from rfl, heap_same0 HW.2.1]
      refine hK'.out _ _ HW (fun _ => ?_)
      clear hK' K'
      try simp only [Act.put]
      refine wpAnyH_take (i := 10) (oi := { dst := some 3, op := Op.assign (Operand.tmp 40), type := 4, pos := "ledger.go:86", after := #[{ on := 8, ground := Ground.data }, { on := 9, ground := Ground.chain }, { on := 0, ground := Ground.phase }, { on := 1, ground := Ground.phase }, { on := 2, ground := Ground.phase }, { on := 3, ground := Ground.phase }, { on := 4, ground := Ground.phase }, { on := 5, ground := Ground.phase }, { on := 6, ground := Ground.phase }, { on := 7, ground := Ground.phase }, { on := 8, ground := Ground.phase }, { on := 9, ground := Ground.phase }], guard := none }) (v := .bool z) rfl (by kernel_rfl) (by kernel_rfl) (by kernel_rfl) (fun _ _ _ h => h) (Or.inl ⟨by kernel_rfl, fun W hSW => by go_simp⟩) (HW) ?_
      try simp only [Act.put, List.setIfInBounds_toArray, List.set_cons_zero, List.set_cons_succ]
      refine wpAnyH_done (by kernel_rfl) ?_ _
      go_wp2_with fail
      (try simp only [Exit.inBlock, Exit.then]); refine bodyPost_ret (ret_ct (g := w.heap.size + 1) (cs := [.int .u8 4, .string key, .string value, .string old, .string ByteArray.empty, .int .u64 0]) rfl rfl rfl (range_all HW.2.1) Tryd.underlying34 rfl Tryd.is34) rfl ?_
      exact ⟨by rw [HE.out]; rfl, HW.2.2⟩
open Go.RowKit
set_option maxRecDepth 100000

set_option maxHeartbeats 4000000 in
theorem own_5a (kk : UInt8) (key value old to : ByteArray) (am : Nat) (w : World) (hk : (kk.toNat : Int) = 5) (HV : Hid (∀ W, Calls Tryd.prog 44 #[.string to] W fun E w' => E = .returned (.bool false) ∧ W = w')) : Calls Tryd.prog 46 #[.agg (opC ⟨kk, key, value, old, to, am⟩).toArray] w fun E w' => OwnP w (⟨kk, key, ByteArray.empty, ByteArray.empty, to, am⟩) (false) E w' := by
  dsimp only [opC]
  obtain ⟨K, hK⟩ : ∃ K : Int, K = kk.toNat := ⟨_, rfl⟩
  have HE := Lib.hid (show opC (⟨kk, key, ByteArray.empty, ByteArray.empty, to, am⟩) = [.int .u8 K, .string key, .string ByteArray.empty, .string ByteArray.empty, .string to, .int .u64 (am : Int)] by rw [hK]; rfl)
  have HB : ∀ o1 o2, Hid (Below w.heap.size w ((w.alloc o1).alloc o2)) := fun _ _ => Lib.hid (((Below.refl _ _).alloc (Nat.le_refl _) _).alloc (by simp) _)
  rw [← hK] at hk ⊢
  clear hK
  subst hk
  go_enter Tryd.func46, Tryd.ntmps46
  go_wp2_with fail
  go_region
  all_goals
    go_wp2_with fail
    refine wp_region_any (by kernel_rfl) ?_
    refine held_gen (G := fun W => wpAny _ _ _ _ _ _ _ W) (fun W => Two w [.int .u8 5, .string key, .string value, .string old, .string to, .int .u64 (am : Int)] [.int .u8 5, .string key, .string ByteArray.empty, .string ByteArray.empty, .string to, .int .u64 (am : Int)] W) ⟨one_new w _ _ _, two_new w _ _ _, by first | exact below_drewN (HB _ _).out _ | exact below_drewN (below_drewN (HB _ _).out _) _⟩ (fun W HW => ?_)
    refine wpAny_of_held (S := fun W => Two w [.int .u8 5, .string key, .string value, .string old, .string to, .int .u64 (am : Int)] [.int .u8 5, .string key, .string ByteArray.empty, .string ByteArray.empty, .string to, .int .u64 (am : Int)] W) _ _ _ _ ?_
    refine wpAnyH_take (i := 0) (oi := { dst := some 49, op := Op.load 34 (Operand.tmp 2), type := 34, pos := "ledger.go:89", after := #[], guard := none }) (v := .agg [.int .u8 5, .string key, .string ByteArray.empty, .string ByteArray.empty, .string to, .int .u64 (am : Int)].toArray) rfl (by kernel_rfl) (by kernel_rfl) (by kernel_rfl) (fun _ _ _ h => h) (Or.inl ⟨by kernel_rfl, fun W hSW => exec_load_mid 34 (.tmp 2) rfl (w.heap.size + 1) 0 rfl [.int .u8 5, .string key, .string ByteArray.empty, .string ByteArray.empty, .string to, .int .u64 (am : Int)] _ (range_all hSW.2.1) Tryd.underlying34 rfl Tryd.is34⟩) (HW) ?_
    try simp only [Act.put, List.setIfInBounds_toArray, List.set_cons_zero, List.set_cons_succ]
    refine wpAnyH_take (i := 1) (oi := { dst := some 50, op := Op.fieldAddr 34 (Operand.tmp 1) 4, type := 0, pos := "ledger.go:89", after := #[], guard := none }) (v := .pointer (some ⟨w.heap.size, 4, none⟩)) rfl (by kernel_rfl) (by kernel_rfl) (by kernel_rfl) (fun _ _ _ h => h) (Or.inl ⟨by kernel_rfl, fun W hSW => by go_simp⟩) (HW) ?_
    try simp only [Act.put, List.setIfInBounds_toArray, List.set_cons_zero, List.set_cons_succ]
    refine wpAnyH_take (i := 2) (oi := { dst := some 51, op := Op.load 9 (Operand.tmp 50), type := 9, pos := "ledger.go:89", after := #[{ on := 1, ground := Ground.data }], guard := none }) (v := .string to) rfl (by kernel_rfl) (by kernel_rfl) (by kernel_rfl) (fun _ _ _ h => h) (Or.inl ⟨by kernel_rfl, fun W hSW => by have hc := block_cell (k := 4) hSW.1 _ rfl; go_simp⟩) (HW) ?_
    try simp only [Act.put, List.setIfInBounds_toArray, List.set_cons_zero, List.set_cons_succ]
    refine wpAnyH_ready (rs := [3]) (by kernel_rfl) (by simp) ?_
    refine AllReadyH.cons (o := { dst := some 52, op := Op.call { callee := Callee.value (Operand.func 44), args := #[Operand.tmp 51], argTypes := #[9] }, type := 4, pos := "ledger.go:89", after := #[{ on := 2, ground := Ground.data }], guard := none }) rfl (fun K' hK' => ?_) AllReadyH.nil
    go_simp
    go_at_call 44
    refine (HV.out _).mono ?_
    rintro E w1 ⟨rfl, rfl⟩
    refine hK'.out _ _ HW (fun _ => ?_)
    clear hK' K'
    try simp only [Act.put, List.setIfInBounds_toArray, List.set_cons_zero, List.set_cons_succ]
    refine wpAnyH_take (i := 4) (oi := { dst := some 53, op := Op.move (Operand.tmp 52), type := 4, pos := "ledger.go:89", after := #[{ on := 3, ground := Ground.data }, { on := 3, ground := Ground.chain }], guard := none }) (v := .bool false) rfl (by kernel_rfl) (by kernel_rfl) (by kernel_rfl) (fun _ _ _ h => h) (Or.inl ⟨by kernel_rfl, fun W hSW => by go_simp⟩) (HW) ?_
    try simp only [Act.put, List.setIfInBounds_toArray, List.set_cons_zero, List.set_cons_succ]
    refine wpAnyH_take (i := 5) (oi := { dst := some 54, op := Op.fieldAddr 34 (Operand.tmp 1) 4, type := 0, pos := "ledger.go:89", after := #[{ on := 4, ground := Ground.guard }], guard := some (4, true) }) (v := undef) rfl (by kernel_rfl) (by kernel_rfl) (by kernel_rfl) (fun _ _ _ h => h) (Or.inr ⟨by kernel_rfl, rfl⟩) (HW) ?_
    try simp only [Act.put, List.setIfInBounds_toArray, List.set_cons_zero, List.set_cons_succ]
    refine wpAnyH_take (i := 6) (oi := { dst := some 55, op := Op.load 9 (Operand.tmp 54), type := 9, pos := "ledger.go:89", after := #[{ on := 5, ground := Ground.data }, { on := 4, ground := Ground.guard }], guard := some (4, true) }) (v := undef) rfl (by kernel_rfl) (by kernel_rfl) (by kernel_rfl) (fun _ _ _ h => h) (Or.inr ⟨by kernel_rfl, rfl⟩) (HW) ?_
    try simp only [Act.put, List.setIfInBounds_toArray, List.set_cons_zero, List.set_cons_succ]
    refine wpAnyH_take (i := 7) (oi := { dst := some 56, op := Op.fieldAddr 34 (Operand.tmp 1) 1, type := 0, pos := "ledger.go:89", after := #[{ on := 4, ground := Ground.guard }], guard := some (4, true) }) (v := undef) rfl (by kernel_rfl) (by kernel_rfl) (by kernel_rfl) (fun _ _ _ h => h) (Or.inr ⟨by kernel_rfl, rfl⟩) (HW) ?_
    try simp only [Act.put, List.setIfInBounds_toArray, List.set_cons_zero, List.set_cons_succ]
    refine wpAnyH_take (i := 8) (oi := { dst := some 57, op := Op.load 9 (Operand.tmp 56), type := 9, pos := "ledger.go:89", after := #[{ on := 7, ground := Ground.data }, { on := 4, ground := Ground.guard }], guard := some (4, true) }) (v := undef) rfl (by kernel_rfl) (by kernel_rfl) (by kernel_rfl) (fun _ _ _ h => h) (Or.inr ⟨by kernel_rfl, rfl⟩) (HW) ?_
    try simp only [Act.put, List.setIfInBounds_toArray, List.set_cons_zero, List.set_cons_succ]
    refine wpAnyH_take (i := 9) (oi := { dst := some 58, op := Op.binOp BinOp.neq 9 (Operand.tmp 55) (Operand.tmp 57) 9, type := 4, pos := "ledger.go:89", after := #[{ on := 6, ground := Ground.data }, { on := 8, ground := Ground.data }, { on := 4, ground := Ground.guard }], guard := some (4, true) }) (v := undef) rfl (by kernel_rfl) (by kernel_rfl) (by kernel_rfl) (fun _ _ _ h => h) (Or.inr ⟨by kernel_rfl, rfl⟩) (HW) ?_
    try simp only [Act.put, List.setIfInBounds_toArray, List.set_cons_zero, List.set_cons_succ]
    refine wpAnyH_take (i := 10) (oi := { dst := some 59, op := Op.pick (Operand.tmp 53) (Operand.tmp 58) (Operand.const (Value.bool false)), type := 4, pos := "ledger.go:89", after := #[{ on := 4, ground := Ground.data }, { on := 9, ground := Ground.data }], guard := none }) (v := .bool false) rfl (by kernel_rfl) (by kernel_rfl) (by kernel_rfl) (fun _ _ _ h => h) (Or.inl ⟨by kernel_rfl, fun W hSW => by go_simp⟩) (HW) ?_
    try simp only [Act.put, List.setIfInBounds_toArray, List.set_cons_zero, List.set_cons_succ]
    refine wpAnyH_take (i := 11) (oi := { dst := some 60, op := Op.move (Operand.tmp 59), type := 4, pos := "ledger.go:89", after := #[{ on := 10, ground := Ground.data }, { on := 4, ground := Ground.chain }], guard := none }) (v := .bool false) rfl (by kernel_rfl) (by kernel_rfl) (by kernel_rfl) (fun _ _ _ h => h) (Or.inl ⟨by kernel_rfl, fun W hSW => by go_simp⟩) (HW) ?_
    try simp only [Act.put, List.setIfInBounds_toArray, List.set_cons_zero, List.set_cons_succ]
    refine wpAnyH_take (i := 12) (oi := { dst := some 61, op := Op.fieldAddr 34 (Operand.tmp 1) 5, type := 0, pos := "ledger.go:89", after := #[{ on := 11, ground := Ground.guard }], guard := some (11, true) }) (v := undef) rfl (by kernel_rfl) (by kernel_rfl) (by kernel_rfl) (fun _ _ _ h => h) (Or.inr ⟨by kernel_rfl, rfl⟩) (HW) ?_
    try simp only [Act.put, List.setIfInBounds_toArray, List.set_cons_zero, List.set_cons_succ]
    refine wpAnyH_take (i := 13) (oi := { dst := some 62, op := Op.load 32 (Operand.tmp 61), type := 32, pos := "ledger.go:89", after := #[{ on := 12, ground := Ground.data }, { on := 11, ground := Ground.guard }], guard := some (11, true) }) (v := undef) rfl (by kernel_rfl) (by kernel_rfl) (by kernel_rfl) (fun _ _ _ h => h) (Or.inr ⟨by kernel_rfl, rfl⟩) (HW) ?_
    try simp only [Act.put, List.setIfInBounds_toArray, List.set_cons_zero, List.set_cons_succ]
    refine wpAnyH_take (i := 14) (oi := { dst := some 63, op := Op.binOp BinOp.geq 32 (Operand.tmp 62) (Operand.const (Value.int IntKind.u64 1)) 32, type := 4, pos := "ledger.go:89", after := #[{ on := 13, ground := Ground.data }, { on := 11, ground := Ground.guard }], guard := some (11, true) }) (v := undef) rfl (by kernel_rfl) (by kernel_rfl) (by kernel_rfl) (fun _ _ _ h => h) (Or.inr ⟨by kernel_rfl, rfl⟩) (HW) ?_
    try simp only [Act.put, List.setIfInBounds_toArray, List.set_cons_zero, List.set_cons_succ]
    refine wpAnyH_take (i := 15) (oi := { dst := some 64, op := Op.pick (Operand.tmp 60) (Operand.tmp 63) (Operand.const (Value.bool false)), type := 4, pos := "ledger.go:89", after := #[{ on := 11, ground := Ground.data }, { on := 14, ground := Ground.data }], guard := none }) (v := .bool false) rfl (by kernel_rfl) (by kernel_rfl) (by kernel_rfl) (fun _ _ _ h => h) (Or.inl ⟨by kernel_rfl, fun W hSW => by go_simp⟩) (HW) ?_
    try simp only [Act.put, List.setIfInBounds_toArray, List.set_cons_zero, List.set_cons_succ]
    refine wpAnyH_take (i := 16) (oi := { dst := some 65, op := Op.move (Operand.tmp 64), type := 4, pos := "ledger.go:89", after := #[{ on := 15, ground := Ground.data }, { on := 11, ground := Ground.chain }], guard := none }) (v := .bool false) rfl (by kernel_rfl) (by kernel_rfl) (by kernel_rfl) (fun _ _ _ h => h) (Or.inl ⟨by kernel_rfl, fun W hSW => by go_simp⟩) (HW) ?_
    try simp only [Act.put, List.setIfInBounds_toArray, List.set_cons_zero, List.set_cons_succ]
    refine wpAnyH_take (i := 17) (oi := { dst := some 66, op := Op.fieldAddr 34 (Operand.tmp 1) 5, type := 0, pos := "ledger.go:89", after := #[{ on := 16, ground := Ground.guard }, { on := 21, ground := Ground.gcOnly Departure.lateStores }], guard := some (16, true) }) (v := undef) rfl (by kernel_rfl) (by kernel_rfl) (by kernel_rfl) (fun _ _ _ h => h) (Or.inr ⟨by kernel_rfl, rfl⟩) (HW) ?_
    try simp only [Act.put, List.setIfInBounds_toArray, List.set_cons_zero, List.set_cons_succ]
    refine wpAnyH_take (i := 18) (oi := { dst := some 67, op := Op.load 32 (Operand.tmp 66), type := 32, pos := "ledger.go:89", after := #[{ on := 17, ground := Ground.data }, { on := 16, ground := Ground.guard }, { on := 21, ground := Ground.gcOnly Departure.lateStores }], guard := some (16, true) }) (v := undef) rfl (by kernel_rfl) (by kernel_rfl) (by kernel_rfl) (fun _ _ _ h => h) (Or.inr ⟨by kernel_rfl, rfl⟩) (HW) ?_
    try simp only [Act.put, List.setIfInBounds_toArray, List.set_cons_zero, List.set_cons_succ]
    refine wpAnyH_take (i := 19) (oi := { dst := some 68, op := Op.binOp BinOp.leq 32 (Operand.tmp 67) (Operand.const (Value.int IntKind.u64 1125899906842624)) 32, type := 4, pos := "ledger.go:89", after := #[{ on := 18, ground := Ground.data }, { on := 16, ground := Ground.guard }, { on := 21, ground := Ground.gcOnly Departure.lateStores }], guard := some (16, true) }) (v := undef) rfl (by kernel_rfl) (by kernel_rfl) (by kernel_rfl) (fun _ _ _ h => h) (Or.inr ⟨by kernel_rfl, rfl⟩) (HW) ?_
    try simp only [Act.put, List.setIfInBounds_toArray, List.set_cons_zero, List.set_cons_succ]
    refine wpAnyH_take (i := 20) (oi := { dst := some 69, op := Op.pick (Operand.tmp 65) (Operand.tmp 68) (Operand.const (Value.bool false)), type := 4, pos := "ledger.go:89", after := #[{ on := 16, ground := Ground.data }, { on := 19, ground := Ground.data }, { on := 21, ground := Ground.gcOnly Departure.lateStores }], guard := none }) (v := .bool false) rfl (by kernel_rfl) (by kernel_rfl) (by kernel_rfl) (fun _ _ _ h => h) (Or.inl ⟨by kernel_rfl, fun W hSW => by go_simp⟩) (HW) ?_
    try simp only [Act.put, List.setIfInBounds_toArray, List.set_cons_zero, List.set_cons_succ]
    refine wpAnyH_ready (rs := [21]) (by kernel_rfl) (by simp) ?_
    refine AllReadyH.cons (o := { dst := none, op := Op.store 34 (Operand.tmp 2) (Operand.tmp 49), type := 0, pos := "ledger.go:89", after := #[{ on := 0, ground := Ground.data }, { on := 16, ground := Ground.chain }, { on := 0, ground := Ground.phase }, { on := 1, ground := Ground.textOnly Departure.lateStores }, { on := 2, ground := Ground.textOnly Departure.lateStores }, { on := 3, ground := Ground.textOnly Departure.lateStoresUnsure }, { on := 4, ground := Ground.textOnly Departure.lateStores }, { on := 5, ground := Ground.textOnly Departure.lateStores }, { on := 6, ground := Ground.textOnly Departure.lateStores }, { on := 7, ground := Ground.textOnly Departure.lateStores }, { on := 8, ground := Ground.textOnly Departure.lateStores }, { on := 9, ground := Ground.textOnly Departure.lateStores }, { on := 10, ground := Ground.textOnly Departure.lateStores }, { on := 11, ground := Ground.textOnly Departure.lateStores }, { on := 12, ground := Ground.textOnly Departure.lateStores }, { on := 13, ground := Ground.textOnly Departure.lateStores }, { on := 14, ground := Ground.textOnly Departure.lateStores }, { on := 15, ground := Ground.textOnly Departure.lateStores }, { on := 16, ground := Ground.textOnly Departure.lateStores }, { on := 17, ground := Ground.textOnly Departure.lateStores }, { on := 18, ground := Ground.textOnly Departure.lateStores }, { on := 19, ground := Ground.textOnly Departure.lateStores }, { on := 20, ground := Ground.textOnly Departure.lateStores }], guard := none }) rfl (fun K' hK' => ?_) AllReadyH.nil
    rw [if_pos (by kernel_rfl)]
    refine wp_store_mid 34 (.tmp 2) (.tmp 49) rfl (w.heap.size + 1) 0 [.int .u8 5, .string key, .string ByteArray.empty, .string ByteArray.empty, .string to, .int .u64 (am : Int)].toArray rfl rfl (there_block HW.2.1 0 6 (by simp)) Tryd.is34 (by simp [Value.oneCell']) ?_
    rw [show ([.int .u8 5, .string key, .string ByteArray.empty, .string ByteArray.empty, .string to, .int .u64 (am : Int)] : List Value).toArray.toList = [.int .u8 5, .string key, .string ByteArray.empty, .string ByteArray.empty, .string to, .int .u64 (am : Int)] from rfl, heap_same0 HW.2.1]
    refine hK'.out _ _ HW (fun _ => ?_)
    clear hK' K'
    try simp only [Act.put]
    refine wpAnyH_take (i := 22) (oi := { dst := some 3, op := Op.assign (Operand.tmp 69), type := 4, pos := "ledger.go:89", after := #[{ on := 20, ground := Ground.data }, { on := 21, ground := Ground.chain }, { on := 0, ground := Ground.phase }, { on := 1, ground := Ground.phase }, { on := 2, ground := Ground.phase }, { on := 3, ground := Ground.phase }, { on := 4, ground := Ground.phase }, { on := 5, ground := Ground.phase }, { on := 6, ground := Ground.phase }, { on := 7, ground := Ground.phase }, { on := 8, ground := Ground.phase }, { on := 9, ground := Ground.phase }, { on := 10, ground := Ground.phase }, { on := 11, ground := Ground.phase }, { on := 12, ground := Ground.phase }, { on := 13, ground := Ground.phase }, { on := 14, ground := Ground.phase }, { on := 15, ground := Ground.phase }, { on := 16, ground := Ground.phase }, { on := 17, ground := Ground.phase }, { on := 18, ground := Ground.phase }, { on := 19, ground := Ground.phase }, { on := 20, ground := Ground.phase }, { on := 21, ground := Ground.phase }], guard := none }) (v := .bool false) rfl (by kernel_rfl) (by kernel_rfl) (by kernel_rfl) (fun _ _ _ h => h) (Or.inl ⟨by kernel_rfl, fun W hSW => by go_simp⟩) (HW) ?_
    try simp only [Act.put, List.setIfInBounds_toArray, List.set_cons_zero, List.set_cons_succ]
    refine wpAnyH_done (by kernel_rfl) ?_ _
    go_wp2_with fail
    (try simp only [Exit.inBlock, Exit.then]); refine bodyPost_ret (ret_ct (g := w.heap.size + 1) (cs := [.int .u8 5, .string key, .string ByteArray.empty, .string ByteArray.empty, .string to, .int .u64 (am : Int)]) rfl rfl rfl (range_all HW.2.1) Tryd.underlying34 rfl Tryd.is34) rfl ?_
    exact ⟨by rw [HE.out]; rfl, HW.2.2⟩
set_option maxHeartbeats 4000000 in
theorem own_5b (kk : UInt8) (key value old to : ByteArray) (am : Nat) (w : World) (hk : (kk.toNat : Int) = 5) (HV : Hid (∀ W, Calls Tryd.prog 44 #[.string to] W fun E w' => E = .returned (.bool true) ∧ W = w')) (HN : Hid ((to.toList == key.toList) = true)) : Calls Tryd.prog 46 #[.agg (opC ⟨kk, key, value, old, to, am⟩).toArray] w fun E w' => OwnP w (⟨kk, key, ByteArray.empty, ByteArray.empty, to, am⟩) (false) E w' := by
  dsimp only [opC]
  obtain ⟨K, hK⟩ : ∃ K : Int, K = kk.toNat := ⟨_, rfl⟩
  have HE := Lib.hid (show opC (⟨kk, key, ByteArray.empty, ByteArray.empty, to, am⟩) = [.int .u8 K, .string key, .string ByteArray.empty, .string ByteArray.empty, .string to, .int .u64 (am : Int)] by rw [hK]; rfl)
  have HB : ∀ o1 o2, Hid (Below w.heap.size w ((w.alloc o1).alloc o2)) := fun _ _ => Lib.hid (((Below.refl _ _).alloc (Nat.le_refl _) _).alloc (by simp) _)
  rw [← hK] at hk ⊢
  clear hK
  subst hk
  go_enter Tryd.func46, Tryd.ntmps46
  go_wp2_with fail
  go_region
  all_goals
    go_wp2_with fail
    refine wp_region_any (by kernel_rfl) ?_
    refine held_gen (G := fun W => wpAny _ _ _ _ _ _ _ W) (fun W => Two w [.int .u8 5, .string key, .string value, .string old, .string to, .int .u64 (am : Int)] [.int .u8 5, .string key, .string ByteArray.empty, .string ByteArray.empty, .string to, .int .u64 (am : Int)] W) ⟨one_new w _ _ _, two_new w _ _ _, by first | exact below_drewN (HB _ _).out _ | exact below_drewN (below_drewN (HB _ _).out _) _⟩ (fun W HW => ?_)
    refine wpAny_of_held (S := fun W => Two w [.int .u8 5, .string key, .string value, .string old, .string to, .int .u64 (am : Int)] [.int .u8 5, .string key, .string ByteArray.empty, .string ByteArray.empty, .string to, .int .u64 (am : Int)] W) _ _ _ _ ?_
    refine wpAnyH_take (i := 0) (oi := { dst := some 49, op := Op.load 34 (Operand.tmp 2), type := 34, pos := "ledger.go:89", after := #[], guard := none }) (v := .agg [.int .u8 5, .string key, .string ByteArray.empty, .string ByteArray.empty, .string to, .int .u64 (am : Int)].toArray) rfl (by kernel_rfl) (by kernel_rfl) (by kernel_rfl) (fun _ _ _ h => h) (Or.inl ⟨by kernel_rfl, fun W hSW => exec_load_mid 34 (.tmp 2) rfl (w.heap.size + 1) 0 rfl [.int .u8 5, .string key, .string ByteArray.empty, .string ByteArray.empty, .string to, .int .u64 (am : Int)] _ (range_all hSW.2.1) Tryd.underlying34 rfl Tryd.is34⟩) (HW) ?_
    try simp only [Act.put, List.setIfInBounds_toArray, List.set_cons_zero, List.set_cons_succ]
    refine wpAnyH_take (i := 1) (oi := { dst := some 50, op := Op.fieldAddr 34 (Operand.tmp 1) 4, type := 0, pos := "ledger.go:89", after := #[], guard := none }) (v := .pointer (some ⟨w.heap.size, 4, none⟩)) rfl (by kernel_rfl) (by kernel_rfl) (by kernel_rfl) (fun _ _ _ h => h) (Or.inl ⟨by kernel_rfl, fun W hSW => by go_simp⟩) (HW) ?_
    try simp only [Act.put, List.setIfInBounds_toArray, List.set_cons_zero, List.set_cons_succ]
    refine wpAnyH_take (i := 2) (oi := { dst := some 51, op := Op.load 9 (Operand.tmp 50), type := 9, pos := "ledger.go:89", after := #[{ on := 1, ground := Ground.data }], guard := none }) (v := .string to) rfl (by kernel_rfl) (by kernel_rfl) (by kernel_rfl) (fun _ _ _ h => h) (Or.inl ⟨by kernel_rfl, fun W hSW => by have hc := block_cell (k := 4) hSW.1 _ rfl; go_simp⟩) (HW) ?_
    try simp only [Act.put, List.setIfInBounds_toArray, List.set_cons_zero, List.set_cons_succ]
    refine wpAnyH_ready (rs := [3]) (by kernel_rfl) (by simp) ?_
    refine AllReadyH.cons (o := { dst := some 52, op := Op.call { callee := Callee.value (Operand.func 44), args := #[Operand.tmp 51], argTypes := #[9] }, type := 4, pos := "ledger.go:89", after := #[{ on := 2, ground := Ground.data }], guard := none }) rfl (fun K' hK' => ?_) AllReadyH.nil
    go_simp
    go_at_call 44
    refine (HV.out _).mono ?_
    rintro E w1 ⟨rfl, rfl⟩
    refine hK'.out _ _ HW (fun _ => ?_)
    clear hK' K'
    try simp only [Act.put, List.setIfInBounds_toArray, List.set_cons_zero, List.set_cons_succ]
    refine wpAnyH_take (i := 4) (oi := { dst := some 53, op := Op.move (Operand.tmp 52), type := 4, pos := "ledger.go:89", after := #[{ on := 3, ground := Ground.data }, { on := 3, ground := Ground.chain }], guard := none }) (v := .bool true) rfl (by kernel_rfl) (by kernel_rfl) (by kernel_rfl) (fun _ _ _ h => h) (Or.inl ⟨by kernel_rfl, fun W hSW => by go_simp⟩) (HW) ?_
    try simp only [Act.put, List.setIfInBounds_toArray, List.set_cons_zero, List.set_cons_succ]
    refine wpAnyH_take (i := 5) (oi := { dst := some 54, op := Op.fieldAddr 34 (Operand.tmp 1) 4, type := 0, pos := "ledger.go:89", after := #[{ on := 4, ground := Ground.guard }], guard := some (4, true) }) (v := .pointer (some ⟨w.heap.size, 4, none⟩)) rfl (by kernel_rfl) (by kernel_rfl) (by kernel_rfl) (fun _ _ _ h => h) (Or.inl ⟨by kernel_rfl, fun W hSW => by go_simp⟩) (HW) ?_
    try simp only [Act.put, List.setIfInBounds_toArray, List.set_cons_zero, List.set_cons_succ]
    refine wpAnyH_take (i := 6) (oi := { dst := some 55, op := Op.load 9 (Operand.tmp 54), type := 9, pos := "ledger.go:89", after := #[{ on := 5, ground := Ground.data }, { on := 4, ground := Ground.guard }], guard := some (4, true) }) (v := .string to) rfl (by kernel_rfl) (by kernel_rfl) (by kernel_rfl) (fun _ _ _ h => h) (Or.inl ⟨by kernel_rfl, fun W hSW => by have hc := block_cell (k := 4) hSW.1 _ rfl; go_simp⟩) (HW) ?_
    try simp only [Act.put, List.setIfInBounds_toArray, List.set_cons_zero, List.set_cons_succ]
    refine wpAnyH_take (i := 7) (oi := { dst := some 56, op := Op.fieldAddr 34 (Operand.tmp 1) 1, type := 0, pos := "ledger.go:89", after := #[{ on := 4, ground := Ground.guard }], guard := some (4, true) }) (v := .pointer (some ⟨w.heap.size, 1, none⟩)) rfl (by kernel_rfl) (by kernel_rfl) (by kernel_rfl) (fun _ _ _ h => h) (Or.inl ⟨by kernel_rfl, fun W hSW => by go_simp⟩) (HW) ?_
    try simp only [Act.put, List.setIfInBounds_toArray, List.set_cons_zero, List.set_cons_succ]
    refine wpAnyH_take (i := 8) (oi := { dst := some 57, op := Op.load 9 (Operand.tmp 56), type := 9, pos := "ledger.go:89", after := #[{ on := 7, ground := Ground.data }, { on := 4, ground := Ground.guard }], guard := some (4, true) }) (v := .string key) rfl (by kernel_rfl) (by kernel_rfl) (by kernel_rfl) (fun _ _ _ h => h) (Or.inl ⟨by kernel_rfl, fun W hSW => by have hc := block_cell (k := 1) hSW.1 _ rfl; go_simp⟩) (HW) ?_
    try simp only [Act.put, List.setIfInBounds_toArray, List.set_cons_zero, List.set_cons_succ]
    refine wpAnyH_take (i := 9) (oi := { dst := some 58, op := Op.binOp BinOp.neq 9 (Operand.tmp 55) (Operand.tmp 57) 9, type := 4, pos := "ledger.go:89", after := #[{ on := 6, ground := Ground.data }, { on := 8, ground := Ground.data }, { on := 4, ground := Ground.guard }], guard := some (4, true) }) (v := .bool false) rfl (by kernel_rfl) (by kernel_rfl) (by kernel_rfl) (fun _ _ _ h => h) (Or.inl ⟨by kernel_rfl, fun W hSW => by have hn := HN.out; go_simp⟩) (HW) ?_
    try simp only [Act.put, List.setIfInBounds_toArray, List.set_cons_zero, List.set_cons_succ]
    refine wpAnyH_take (i := 10) (oi := { dst := some 59, op := Op.pick (Operand.tmp 53) (Operand.tmp 58) (Operand.const (Value.bool false)), type := 4, pos := "ledger.go:89", after := #[{ on := 4, ground := Ground.data }, { on := 9, ground := Ground.data }], guard := none }) (v := .bool false) rfl (by kernel_rfl) (by kernel_rfl) (by kernel_rfl) (fun _ _ _ h => h) (Or.inl ⟨by kernel_rfl, fun W hSW => by go_simp⟩) (HW) ?_
    try simp only [Act.put, List.setIfInBounds_toArray, List.set_cons_zero, List.set_cons_succ]
    refine wpAnyH_take (i := 11) (oi := { dst := some 60, op := Op.move (Operand.tmp 59), type := 4, pos := "ledger.go:89", after := #[{ on := 10, ground := Ground.data }, { on := 4, ground := Ground.chain }], guard := none }) (v := .bool false) rfl (by kernel_rfl) (by kernel_rfl) (by kernel_rfl) (fun _ _ _ h => h) (Or.inl ⟨by kernel_rfl, fun W hSW => by go_simp⟩) (HW) ?_
    try simp only [Act.put, List.setIfInBounds_toArray, List.set_cons_zero, List.set_cons_succ]
    refine wpAnyH_take (i := 12) (oi := { dst := some 61, op := Op.fieldAddr 34 (Operand.tmp 1) 5, type := 0, pos := "ledger.go:89", after := #[{ on := 11, ground := Ground.guard }], guard := some (11, true) }) (v := undef) rfl (by kernel_rfl) (by kernel_rfl) (by kernel_rfl) (fun _ _ _ h => h) (Or.inr ⟨by kernel_rfl, rfl⟩) (HW) ?_
    try simp only [Act.put, List.setIfInBounds_toArray, List.set_cons_zero, List.set_cons_succ]
    refine wpAnyH_take (i := 13) (oi := { dst := some 62, op := Op.load 32 (Operand.tmp 61), type := 32, pos := "ledger.go:89", after := #[{ on := 12, ground := Ground.data }, { on := 11, ground := Ground.guard }], guard := some (11, true) }) (v := undef) rfl (by kernel_rfl) (by kernel_rfl) (by kernel_rfl) (fun _ _ _ h => h) (Or.inr ⟨by kernel_rfl, rfl⟩) (HW) ?_
    try simp only [Act.put, List.setIfInBounds_toArray, List.set_cons_zero, List.set_cons_succ]
    refine wpAnyH_take (i := 14) (oi := { dst := some 63, op := Op.binOp BinOp.geq 32 (Operand.tmp 62) (Operand.const (Value.int IntKind.u64 1)) 32, type := 4, pos := "ledger.go:89", after := #[{ on := 13, ground := Ground.data }, { on := 11, ground := Ground.guard }], guard := some (11, true) }) (v := undef) rfl (by kernel_rfl) (by kernel_rfl) (by kernel_rfl) (fun _ _ _ h => h) (Or.inr ⟨by kernel_rfl, rfl⟩) (HW) ?_
    try simp only [Act.put, List.setIfInBounds_toArray, List.set_cons_zero, List.set_cons_succ]
    refine wpAnyH_take (i := 15) (oi := { dst := some 64, op := Op.pick (Operand.tmp 60) (Operand.tmp 63) (Operand.const (Value.bool false)), type := 4, pos := "ledger.go:89", after := #[{ on := 11, ground := Ground.data }, { on := 14, ground := Ground.data }], guard := none }) (v := .bool false) rfl (by kernel_rfl) (by kernel_rfl) (by kernel_rfl) (fun _ _ _ h => h) (Or.inl ⟨by kernel_rfl, fun W hSW => by go_simp⟩) (HW) ?_
    try simp only [Act.put, List.setIfInBounds_toArray, List.set_cons_zero, List.set_cons_succ]
    refine wpAnyH_take (i := 16) (oi := { dst := some 65, op := Op.move (Operand.tmp 64), type := 4, pos := "ledger.go:89", after := #[{ on := 15, ground := Ground.data }, { on := 11, ground := Ground.chain }], guard := none }) (v := .bool false) rfl (by kernel_rfl) (by kernel_rfl) (by kernel_rfl) (fun _ _ _ h => h) (Or.inl ⟨by kernel_rfl, fun W hSW => by go_simp⟩) (HW) ?_
    try simp only [Act.put, List.setIfInBounds_toArray, List.set_cons_zero, List.set_cons_succ]
    refine wpAnyH_take (i := 17) (oi := { dst := some 66, op := Op.fieldAddr 34 (Operand.tmp 1) 5, type := 0, pos := "ledger.go:89", after := #[{ on := 16, ground := Ground.guard }, { on := 21, ground := Ground.gcOnly Departure.lateStores }], guard := some (16, true) }) (v := undef) rfl (by kernel_rfl) (by kernel_rfl) (by kernel_rfl) (fun _ _ _ h => h) (Or.inr ⟨by kernel_rfl, rfl⟩) (HW) ?_
    try simp only [Act.put, List.setIfInBounds_toArray, List.set_cons_zero, List.set_cons_succ]
    refine wpAnyH_take (i := 18) (oi := { dst := some 67, op := Op.load 32 (Operand.tmp 66), type := 32, pos := "ledger.go:89", after := #[{ on := 17, ground := Ground.data }, { on := 16, ground := Ground.guard }, { on := 21, ground := Ground.gcOnly Departure.lateStores }], guard := some (16, true) }) (v := undef) rfl (by kernel_rfl) (by kernel_rfl) (by kernel_rfl) (fun _ _ _ h => h) (Or.inr ⟨by kernel_rfl, rfl⟩) (HW) ?_
    try simp only [Act.put, List.setIfInBounds_toArray, List.set_cons_zero, List.set_cons_succ]
    refine wpAnyH_take (i := 19) (oi := { dst := some 68, op := Op.binOp BinOp.leq 32 (Operand.tmp 67) (Operand.const (Value.int IntKind.u64 1125899906842624)) 32, type := 4, pos := "ledger.go:89", after := #[{ on := 18, ground := Ground.data }, { on := 16, ground := Ground.guard }, { on := 21, ground := Ground.gcOnly Departure.lateStores }], guard := some (16, true) }) (v := undef) rfl (by kernel_rfl) (by kernel_rfl) (by kernel_rfl) (fun _ _ _ h => h) (Or.inr ⟨by kernel_rfl, rfl⟩) (HW) ?_
    try simp only [Act.put, List.setIfInBounds_toArray, List.set_cons_zero, List.set_cons_succ]
    refine wpAnyH_take (i := 20) (oi := { dst := some 69, op := Op.pick (Operand.tmp 65) (Operand.tmp 68) (Operand.const (Value.bool false)), type := 4, pos := "ledger.go:89", after := #[{ on := 16, ground := Ground.data }, { on := 19, ground := Ground.data }, { on := 21, ground := Ground.gcOnly Departure.lateStores }], guard := none }) (v := .bool false) rfl (by kernel_rfl) (by kernel_rfl) (by kernel_rfl) (fun _ _ _ h => h) (Or.inl ⟨by kernel_rfl, fun W hSW => by go_simp⟩) (HW) ?_
    try simp only [Act.put, List.setIfInBounds_toArray, List.set_cons_zero, List.set_cons_succ]
    refine wpAnyH_ready (rs := [21]) (by kernel_rfl) (by simp) ?_
    refine AllReadyH.cons (o := { dst := none, op := Op.store 34 (Operand.tmp 2) (Operand.tmp 49), type := 0, pos := "ledger.go:89", after := #[{ on := 0, ground := Ground.data }, { on := 16, ground := Ground.chain }, { on := 0, ground := Ground.phase }, { on := 1, ground := Ground.textOnly Departure.lateStores }, { on := 2, ground := Ground.textOnly Departure.lateStores }, { on := 3, ground := Ground.textOnly Departure.lateStoresUnsure }, { on := 4, ground := Ground.textOnly Departure.lateStores }, { on := 5, ground := Ground.textOnly Departure.lateStores }, { on := 6, ground := Ground.textOnly Departure.lateStores }, { on := 7, ground := Ground.textOnly Departure.lateStores }, { on := 8, ground := Ground.textOnly Departure.lateStores }, { on := 9, ground := Ground.textOnly Departure.lateStores }, { on := 10, ground := Ground.textOnly Departure.lateStores }, { on := 11, ground := Ground.textOnly Departure.lateStores }, { on := 12, ground := Ground.textOnly Departure.lateStores }, { on := 13, ground := Ground.textOnly Departure.lateStores }, { on := 14, ground := Ground.textOnly Departure.lateStores }, { on := 15, ground := Ground.textOnly Departure.lateStores }, { on := 16, ground := Ground.textOnly Departure.lateStores }, { on := 17, ground := Ground.textOnly Departure.lateStores }, { on := 18, ground := Ground.textOnly Departure.lateStores }, { on := 19, ground := Ground.textOnly Departure.lateStores }, { on := 20, ground := Ground.textOnly Departure.lateStores }], guard := none }) rfl (fun K' hK' => ?_) AllReadyH.nil
    rw [if_pos (by kernel_rfl)]
    refine wp_store_mid 34 (.tmp 2) (.tmp 49) rfl (w.heap.size + 1) 0 [.int .u8 5, .string key, .string ByteArray.empty, .string ByteArray.empty, .string to, .int .u64 (am : Int)].toArray rfl rfl (there_block HW.2.1 0 6 (by simp)) Tryd.is34 (by simp [Value.oneCell']) ?_
    rw [show ([.int .u8 5, .string key, .string ByteArray.empty, .string ByteArray.empty, .string to, .int .u64 (am : Int)] : List Value).toArray.toList = [.int .u8 5, .string key, .string ByteArray.empty, .string ByteArray.empty, .string to, .int .u64 (am : Int)] from rfl, heap_same0 HW.2.1]
    refine hK'.out _ _ HW (fun _ => ?_)
    clear hK' K'
    try simp only [Act.put]
    refine wpAnyH_take (i := 22) (oi := { dst := some 3, op := Op.assign (Operand.tmp 69), type := 4, pos := "ledger.go:89", after := #[{ on := 20, ground := Ground.data }, { on := 21, ground := Ground.chain }, { on := 0, ground := Ground.phase }, { on := 1, ground := Ground.phase }, { on := 2, ground := Ground.phase }, { on := 3, ground := Ground.phase }, { on := 4, ground := Ground.phase }, { on := 5, ground := Ground.phase }, { on := 6, ground := Ground.phase }, { on := 7, ground := Ground.phase }, { on := 8, ground := Ground.phase }, { on := 9, ground := Ground.phase }, { on := 10, ground := Ground.phase }, { on := 11, ground := Ground.phase }, { on := 12, ground := Ground.phase }, { on := 13, ground := Ground.phase }, { on := 14, ground := Ground.phase }, { on := 15, ground := Ground.phase }, { on := 16, ground := Ground.phase }, { on := 17, ground := Ground.phase }, { on := 18, ground := Ground.phase }, { on := 19, ground := Ground.phase }, { on := 20, ground := Ground.phase }, { on := 21, ground := Ground.phase }], guard := none }) (v := .bool false) rfl (by kernel_rfl) (by kernel_rfl) (by kernel_rfl) (fun _ _ _ h => h) (Or.inl ⟨by kernel_rfl, fun W hSW => by go_simp⟩) (HW) ?_
    try simp only [Act.put, List.setIfInBounds_toArray, List.set_cons_zero, List.set_cons_succ]
    refine wpAnyH_done (by kernel_rfl) ?_ _
    go_wp2_with fail
    (try simp only [Exit.inBlock, Exit.then]); refine bodyPost_ret (ret_ct (g := w.heap.size + 1) (cs := [.int .u8 5, .string key, .string ByteArray.empty, .string ByteArray.empty, .string to, .int .u64 (am : Int)]) rfl rfl rfl (range_all HW.2.1) Tryd.underlying34 rfl Tryd.is34) rfl ?_
    exact ⟨by rw [HE.out]; rfl, HW.2.2⟩
set_option maxHeartbeats 4000000 in
theorem own_5c (kk : UInt8) (key value old to : ByteArray) (am : Nat) (w : World) (hk : (kk.toNat : Int) = 5) (HV : Hid (∀ W, Calls Tryd.prog 44 #[.string to] W fun E w' => E = .returned (.bool true) ∧ W = w')) (HN : Hid ((to.toList == key.toList) = false)) (H1 : Hid ((am : Int) < 1)) : Calls Tryd.prog 46 #[.agg (opC ⟨kk, key, value, old, to, am⟩).toArray] w fun E w' => OwnP w (⟨kk, key, ByteArray.empty, ByteArray.empty, to, am⟩) (false) E w' := by
  dsimp only [opC]
  obtain ⟨K, hK⟩ : ∃ K : Int, K = kk.toNat := ⟨_, rfl⟩
  have HE := Lib.hid (show opC (⟨kk, key, ByteArray.empty, ByteArray.empty, to, am⟩) = [.int .u8 K, .string key, .string ByteArray.empty, .string ByteArray.empty, .string to, .int .u64 (am : Int)] by rw [hK]; rfl)
  have HB : ∀ o1 o2, Hid (Below w.heap.size w ((w.alloc o1).alloc o2)) := fun _ _ => Lib.hid (((Below.refl _ _).alloc (Nat.le_refl _) _).alloc (by simp) _)
  rw [← hK] at hk ⊢
  clear hK
  subst hk
  go_enter Tryd.func46, Tryd.ntmps46
  go_wp2_with fail
  go_region
  all_goals
    go_wp2_with fail
    refine wp_region_any (by kernel_rfl) ?_
    refine held_gen (G := fun W => wpAny _ _ _ _ _ _ _ W) (fun W => Two w [.int .u8 5, .string key, .string value, .string old, .string to, .int .u64 (am : Int)] [.int .u8 5, .string key, .string ByteArray.empty, .string ByteArray.empty, .string to, .int .u64 (am : Int)] W) ⟨one_new w _ _ _, two_new w _ _ _, by first | exact below_drewN (HB _ _).out _ | exact below_drewN (below_drewN (HB _ _).out _) _⟩ (fun W HW => ?_)
    refine wpAny_of_held (S := fun W => Two w [.int .u8 5, .string key, .string value, .string old, .string to, .int .u64 (am : Int)] [.int .u8 5, .string key, .string ByteArray.empty, .string ByteArray.empty, .string to, .int .u64 (am : Int)] W) _ _ _ _ ?_
    refine wpAnyH_take (i := 0) (oi := { dst := some 49, op := Op.load 34 (Operand.tmp 2), type := 34, pos := "ledger.go:89", after := #[], guard := none }) (v := .agg [.int .u8 5, .string key, .string ByteArray.empty, .string ByteArray.empty, .string to, .int .u64 (am : Int)].toArray) rfl (by kernel_rfl) (by kernel_rfl) (by kernel_rfl) (fun _ _ _ h => h) (Or.inl ⟨by kernel_rfl, fun W hSW => exec_load_mid 34 (.tmp 2) rfl (w.heap.size + 1) 0 rfl [.int .u8 5, .string key, .string ByteArray.empty, .string ByteArray.empty, .string to, .int .u64 (am : Int)] _ (range_all hSW.2.1) Tryd.underlying34 rfl Tryd.is34⟩) (HW) ?_
    try simp only [Act.put, List.setIfInBounds_toArray, List.set_cons_zero, List.set_cons_succ]
    refine wpAnyH_take (i := 1) (oi := { dst := some 50, op := Op.fieldAddr 34 (Operand.tmp 1) 4, type := 0, pos := "ledger.go:89", after := #[], guard := none }) (v := .pointer (some ⟨w.heap.size, 4, none⟩)) rfl (by kernel_rfl) (by kernel_rfl) (by kernel_rfl) (fun _ _ _ h => h) (Or.inl ⟨by kernel_rfl, fun W hSW => by go_simp⟩) (HW) ?_
    try simp only [Act.put, List.setIfInBounds_toArray, List.set_cons_zero, List.set_cons_succ]
    refine wpAnyH_take (i := 2) (oi := { dst := some 51, op := Op.load 9 (Operand.tmp 50), type := 9, pos := "ledger.go:89", after := #[{ on := 1, ground := Ground.data }], guard := none }) (v := .string to) rfl (by kernel_rfl) (by kernel_rfl) (by kernel_rfl) (fun _ _ _ h => h) (Or.inl ⟨by kernel_rfl, fun W hSW => by have hc := block_cell (k := 4) hSW.1 _ rfl; go_simp⟩) (HW) ?_
    try simp only [Act.put, List.setIfInBounds_toArray, List.set_cons_zero, List.set_cons_succ]
    refine wpAnyH_ready (rs := [3]) (by kernel_rfl) (by simp) ?_
    refine AllReadyH.cons (o := { dst := some 52, op := Op.call { callee := Callee.value (Operand.func 44), args := #[Operand.tmp 51], argTypes := #[9] }, type := 4, pos := "ledger.go:89", after := #[{ on := 2, ground := Ground.data }], guard := none }) rfl (fun K' hK' => ?_) AllReadyH.nil
    go_simp
    go_at_call 44
    refine (HV.out _).mono ?_
    rintro E w1 ⟨rfl, rfl⟩
    refine hK'.out _ _ HW (fun _ => ?_)
    clear hK' K'
    try simp only [Act.put, List.setIfInBounds_toArray, List.set_cons_zero, List.set_cons_succ]
    refine wpAnyH_take (i := 4) (oi := { dst := some 53, op := Op.move (Operand.tmp 52), type := 4, pos := "ledger.go:89", after := #[{ on := 3, ground := Ground.data }, { on := 3, ground := Ground.chain }], guard := none }) (v := .bool true) rfl (by kernel_rfl) (by kernel_rfl) (by kernel_rfl) (fun _ _ _ h => h) (Or.inl ⟨by kernel_rfl, fun W hSW => by go_simp⟩) (HW) ?_
    try simp only [Act.put, List.setIfInBounds_toArray, List.set_cons_zero, List.set_cons_succ]
    refine wpAnyH_take (i := 5) (oi := { dst := some 54, op := Op.fieldAddr 34 (Operand.tmp 1) 4, type := 0, pos := "ledger.go:89", after := #[{ on := 4, ground := Ground.guard }], guard := some (4, true) }) (v := .pointer (some ⟨w.heap.size, 4, none⟩)) rfl (by kernel_rfl) (by kernel_rfl) (by kernel_rfl) (fun _ _ _ h => h) (Or.inl ⟨by kernel_rfl, fun W hSW => by go_simp⟩) (HW) ?_
    try simp only [Act.put, List.setIfInBounds_toArray, List.set_cons_zero, List.set_cons_succ]
    refine wpAnyH_take (i := 6) (oi := { dst := some 55, op := Op.load 9 (Operand.tmp 54), type := 9, pos := "ledger.go:89", after := #[{ on := 5, ground := Ground.data }, { on := 4, ground := Ground.guard }], guard := some (4, true) }) (v := .string to) rfl (by kernel_rfl) (by kernel_rfl) (by kernel_rfl) (fun _ _ _ h => h) (Or.inl ⟨by kernel_rfl, fun W hSW => by have hc := block_cell (k := 4) hSW.1 _ rfl; go_simp⟩) (HW) ?_
    try simp only [Act.put, List.setIfInBounds_toArray, List.set_cons_zero, List.set_cons_succ]
    refine wpAnyH_take (i := 7) (oi := { dst := some 56, op := Op.fieldAddr 34 (Operand.tmp 1) 1, type := 0, pos := "ledger.go:89", after := #[{ on := 4, ground := Ground.guard }], guard := some (4, true) }) (v := .pointer (some ⟨w.heap.size, 1, none⟩)) rfl (by kernel_rfl) (by kernel_rfl) (by kernel_rfl) (fun _ _ _ h => h) (Or.inl ⟨by kernel_rfl, fun W hSW => by go_simp⟩) (HW) ?_
    try simp only [Act.put, List.setIfInBounds_toArray, List.set_cons_zero, List.set_cons_succ]
    refine wpAnyH_take (i := 8) (oi := { dst := some 57, op := Op.load 9 (Operand.tmp 56), type := 9, pos := "ledger.go:89", after := #[{ on := 7, ground := Ground.data }, { on := 4, ground := Ground.guard }], guard := some (4, true) }) (v := .string key) rfl (by kernel_rfl) (by kernel_rfl) (by kernel_rfl) (fun _ _ _ h => h) (Or.inl ⟨by kernel_rfl, fun W hSW => by have hc := block_cell (k := 1) hSW.1 _ rfl; go_simp⟩) (HW) ?_
    try simp only [Act.put, List.setIfInBounds_toArray, List.set_cons_zero, List.set_cons_succ]
    refine wpAnyH_take (i := 9) (oi := { dst := some 58, op := Op.binOp BinOp.neq 9 (Operand.tmp 55) (Operand.tmp 57) 9, type := 4, pos := "ledger.go:89", after := #[{ on := 6, ground := Ground.data }, { on := 8, ground := Ground.data }, { on := 4, ground := Ground.guard }], guard := some (4, true) }) (v := .bool true) rfl (by kernel_rfl) (by kernel_rfl) (by kernel_rfl) (fun _ _ _ h => h) (Or.inl ⟨by kernel_rfl, fun W hSW => by have hn := HN.out; go_simp⟩) (HW) ?_
    try simp only [Act.put, List.setIfInBounds_toArray, List.set_cons_zero, List.set_cons_succ]
    refine wpAnyH_take (i := 10) (oi := { dst := some 59, op := Op.pick (Operand.tmp 53) (Operand.tmp 58) (Operand.const (Value.bool false)), type := 4, pos := "ledger.go:89", after := #[{ on := 4, ground := Ground.data }, { on := 9, ground := Ground.data }], guard := none }) (v := .bool true) rfl (by kernel_rfl) (by kernel_rfl) (by kernel_rfl) (fun _ _ _ h => h) (Or.inl ⟨by kernel_rfl, fun W hSW => by go_simp⟩) (HW) ?_
    try simp only [Act.put, List.setIfInBounds_toArray, List.set_cons_zero, List.set_cons_succ]
    refine wpAnyH_take (i := 11) (oi := { dst := some 60, op := Op.move (Operand.tmp 59), type := 4, pos := "ledger.go:89", after := #[{ on := 10, ground := Ground.data }, { on := 4, ground := Ground.chain }], guard := none }) (v := .bool true) rfl (by kernel_rfl) (by kernel_rfl) (by kernel_rfl) (fun _ _ _ h => h) (Or.inl ⟨by kernel_rfl, fun W hSW => by go_simp⟩) (HW) ?_
    try simp only [Act.put, List.setIfInBounds_toArray, List.set_cons_zero, List.set_cons_succ]
    refine wpAnyH_take (i := 12) (oi := { dst := some 61, op := Op.fieldAddr 34 (Operand.tmp 1) 5, type := 0, pos := "ledger.go:89", after := #[{ on := 11, ground := Ground.guard }], guard := some (11, true) }) (v := .pointer (some ⟨w.heap.size, 5, none⟩)) rfl (by kernel_rfl) (by kernel_rfl) (by kernel_rfl) (fun _ _ _ h => h) (Or.inl ⟨by kernel_rfl, fun W hSW => by go_simp⟩) (HW) ?_
    try simp only [Act.put, List.setIfInBounds_toArray, List.set_cons_zero, List.set_cons_succ]
    refine wpAnyH_take (i := 13) (oi := { dst := some 62, op := Op.load 32 (Operand.tmp 61), type := 32, pos := "ledger.go:89", after := #[{ on := 12, ground := Ground.data }, { on := 11, ground := Ground.guard }], guard := some (11, true) }) (v := .int .u64 (am : Int)) rfl (by kernel_rfl) (by kernel_rfl) (by kernel_rfl) (fun _ _ _ h => h) (Or.inl ⟨by kernel_rfl, fun W hSW => by have hc := block_cell (k := 5) hSW.1 _ rfl; go_simp⟩) (HW) ?_
    try simp only [Act.put, List.setIfInBounds_toArray, List.set_cons_zero, List.set_cons_succ]
    refine wpAnyH_take (i := 14) (oi := { dst := some 63, op := Op.binOp BinOp.geq 32 (Operand.tmp 62) (Operand.const (Value.int IntKind.u64 1)) 32, type := 4, pos := "ledger.go:89", after := #[{ on := 13, ground := Ground.data }, { on := 11, ground := Ground.guard }], guard := some (11, true) }) (v := .bool false) rfl (by kernel_rfl) (by kernel_rfl) (by kernel_rfl) (fun _ _ _ h => h) (Or.inl ⟨by kernel_rfl, fun W hSW => by have hn := H1.out; go_simp⟩) (HW) ?_
    try simp only [Act.put, List.setIfInBounds_toArray, List.set_cons_zero, List.set_cons_succ]
    refine wpAnyH_take (i := 15) (oi := { dst := some 64, op := Op.pick (Operand.tmp 60) (Operand.tmp 63) (Operand.const (Value.bool false)), type := 4, pos := "ledger.go:89", after := #[{ on := 11, ground := Ground.data }, { on := 14, ground := Ground.data }], guard := none }) (v := .bool false) rfl (by kernel_rfl) (by kernel_rfl) (by kernel_rfl) (fun _ _ _ h => h) (Or.inl ⟨by kernel_rfl, fun W hSW => by go_simp⟩) (HW) ?_
    try simp only [Act.put, List.setIfInBounds_toArray, List.set_cons_zero, List.set_cons_succ]
    refine wpAnyH_take (i := 16) (oi := { dst := some 65, op := Op.move (Operand.tmp 64), type := 4, pos := "ledger.go:89", after := #[{ on := 15, ground := Ground.data }, { on := 11, ground := Ground.chain }], guard := none }) (v := .bool false) rfl (by kernel_rfl) (by kernel_rfl) (by kernel_rfl) (fun _ _ _ h => h) (Or.inl ⟨by kernel_rfl, fun W hSW => by go_simp⟩) (HW) ?_
    try simp only [Act.put, List.setIfInBounds_toArray, List.set_cons_zero, List.set_cons_succ]
    refine wpAnyH_take (i := 17) (oi := { dst := some 66, op := Op.fieldAddr 34 (Operand.tmp 1) 5, type := 0, pos := "ledger.go:89", after := #[{ on := 16, ground := Ground.guard }, { on := 21, ground := Ground.gcOnly Departure.lateStores }], guard := some (16, true) }) (v := undef) rfl (by kernel_rfl) (by kernel_rfl) (by kernel_rfl) (fun _ _ _ h => h) (Or.inr ⟨by kernel_rfl, rfl⟩) (HW) ?_
    try simp only [Act.put, List.setIfInBounds_toArray, List.set_cons_zero, List.set_cons_succ]
    refine wpAnyH_take (i := 18) (oi := { dst := some 67, op := Op.load 32 (Operand.tmp 66), type := 32, pos := "ledger.go:89", after := #[{ on := 17, ground := Ground.data }, { on := 16, ground := Ground.guard }, { on := 21, ground := Ground.gcOnly Departure.lateStores }], guard := some (16, true) }) (v := undef) rfl (by kernel_rfl) (by kernel_rfl) (by kernel_rfl) (fun _ _ _ h => h) (Or.inr ⟨by kernel_rfl, rfl⟩) (HW) ?_
    try simp only [Act.put, List.setIfInBounds_toArray, List.set_cons_zero, List.set_cons_succ]
    refine wpAnyH_take (i := 19) (oi := { dst := some 68, op := Op.binOp BinOp.leq 32 (Operand.tmp 67) (Operand.const (Value.int IntKind.u64 1125899906842624)) 32, type := 4, pos := "ledger.go:89", after := #[{ on := 18, ground := Ground.data }, { on := 16, ground := Ground.guard }, { on := 21, ground := Ground.gcOnly Departure.lateStores }], guard := some (16, true) }) (v := undef) rfl (by kernel_rfl) (by kernel_rfl) (by kernel_rfl) (fun _ _ _ h => h) (Or.inr ⟨by kernel_rfl, rfl⟩) (HW) ?_
    try simp only [Act.put, List.setIfInBounds_toArray, List.set_cons_zero, List.set_cons_succ]
    refine wpAnyH_take (i := 20) (oi := { dst := some 69, op := Op.pick (Operand.tmp 65) (Operand.tmp 68) (Operand.const (Value.bool false)), type := 4, pos := "ledger.go:89", after := #[{ on := 16, ground := Ground.data }, { on := 19, ground := Ground.data }, { on := 21, ground := Ground.gcOnly Departure.lateStores }], guard := none }) (v := .bool false) rfl (by kernel_rfl) (by kernel_rfl) (by kernel_rfl) (fun _ _ _ h => h) (Or.inl ⟨by kernel_rfl, fun W hSW => by go_simp⟩) (HW) ?_
    try simp only [Act.put, List.setIfInBounds_toArray, List.set_cons_zero, List.set_cons_succ]
    refine wpAnyH_ready (rs := [21]) (by kernel_rfl) (by simp) ?_
    refine AllReadyH.cons (o := { dst := none, op := Op.store 34 (Operand.tmp 2) (Operand.tmp 49), type := 0, pos := "ledger.go:89", after := #[{ on := 0, ground := Ground.data }, { on := 16, ground := Ground.chain }, { on := 0, ground := Ground.phase }, { on := 1, ground := Ground.textOnly Departure.lateStores }, { on := 2, ground := Ground.textOnly Departure.lateStores }, { on := 3, ground := Ground.textOnly Departure.lateStoresUnsure }, { on := 4, ground := Ground.textOnly Departure.lateStores }, { on := 5, ground := Ground.textOnly Departure.lateStores }, { on := 6, ground := Ground.textOnly Departure.lateStores }, { on := 7, ground := Ground.textOnly Departure.lateStores }, { on := 8, ground := Ground.textOnly Departure.lateStores }, { on := 9, ground := Ground.textOnly Departure.lateStores }, { on := 10, ground := Ground.textOnly Departure.lateStores }, { on := 11, ground := Ground.textOnly Departure.lateStores }, { on := 12, ground := Ground.textOnly Departure.lateStores }, { on := 13, ground := Ground.textOnly Departure.lateStores }, { on := 14, ground := Ground.textOnly Departure.lateStores }, { on := 15, ground := Ground.textOnly Departure.lateStores }, { on := 16, ground := Ground.textOnly Departure.lateStores }, { on := 17, ground := Ground.textOnly Departure.lateStores }, { on := 18, ground := Ground.textOnly Departure.lateStores }, { on := 19, ground := Ground.textOnly Departure.lateStores }, { on := 20, ground := Ground.textOnly Departure.lateStores }], guard := none }) rfl (fun K' hK' => ?_) AllReadyH.nil
    rw [if_pos (by kernel_rfl)]
    refine wp_store_mid 34 (.tmp 2) (.tmp 49) rfl (w.heap.size + 1) 0 [.int .u8 5, .string key, .string ByteArray.empty, .string ByteArray.empty, .string to, .int .u64 (am : Int)].toArray rfl rfl (there_block HW.2.1 0 6 (by simp)) Tryd.is34 (by simp [Value.oneCell']) ?_
    rw [show ([.int .u8 5, .string key, .string ByteArray.empty, .string ByteArray.empty, .string to, .int .u64 (am : Int)] : List Value).toArray.toList = [.int .u8 5, .string key, .string ByteArray.empty, .string ByteArray.empty, .string to, .int .u64 (am : Int)] from rfl, heap_same0 HW.2.1]
    refine hK'.out _ _ HW (fun _ => ?_)
    clear hK' K'
    try simp only [Act.put]
    refine wpAnyH_take (i := 22) (oi := { dst := some 3, op := Op.assign (Operand.tmp 69), type := 4, pos := "ledger.go:89", after := #[{ on := 20, ground := Ground.data }, { on := 21, ground := Ground.chain }, { on := 0, ground := Ground.phase }, { on := 1, ground := Ground.phase }, { on := 2, ground := Ground.phase }, { on := 3, ground := Ground.phase }, { on := 4, ground := Ground.phase }, { on := 5, ground := Ground.phase }, { on := 6, ground := Ground.phase }, { on := 7, ground := Ground.phase }, { on := 8, ground := Ground.phase }, { on := 9, ground := Ground.phase }, { on := 10, ground := Ground.phase }, { on := 11, ground := Ground.phase }, { on := 12, ground := Ground.phase }, { on := 13, ground := Ground.phase }, { on := 14, ground := Ground.phase }, { on := 15, ground := Ground.phase }, { on := 16, ground := Ground.phase }, { on := 17, ground := Ground.phase }, { on := 18, ground := Ground.phase }, { on := 19, ground := Ground.phase }, { on := 20, ground := Ground.phase }, { on := 21, ground := Ground.phase }], guard := none }) (v := .bool false) rfl (by kernel_rfl) (by kernel_rfl) (by kernel_rfl) (fun _ _ _ h => h) (Or.inl ⟨by kernel_rfl, fun W hSW => by go_simp⟩) (HW) ?_
    try simp only [Act.put, List.setIfInBounds_toArray, List.set_cons_zero, List.set_cons_succ]
    refine wpAnyH_done (by kernel_rfl) ?_ _
    go_wp2_with fail
    (try simp only [Exit.inBlock, Exit.then]); refine bodyPost_ret (ret_ct (g := w.heap.size + 1) (cs := [.int .u8 5, .string key, .string ByteArray.empty, .string ByteArray.empty, .string to, .int .u64 (am : Int)]) rfl rfl rfl (range_all HW.2.1) Tryd.underlying34 rfl Tryd.is34) rfl ?_
    exact ⟨by rw [HE.out]; rfl, HW.2.2⟩
set_option maxHeartbeats 4000000 in
theorem own_5d (kk : UInt8) (key value old to : ByteArray) (am : Nat) (w : World) (hk : (kk.toNat : Int) = 5) (HV : Hid (∀ W, Calls Tryd.prog 44 #[.string to] W fun E w' => E = .returned (.bool true) ∧ W = w')) (HN : Hid ((to.toList == key.toList) = false)) (H1 : Hid (¬ ((am : Int) < 1))) (H2 : Hid (1125899906842624 < (am : Int))) : Calls Tryd.prog 46 #[.agg (opC ⟨kk, key, value, old, to, am⟩).toArray] w fun E w' => OwnP w (⟨kk, key, ByteArray.empty, ByteArray.empty, to, am⟩) (false) E w' := by
  dsimp only [opC]
  obtain ⟨K, hK⟩ : ∃ K : Int, K = kk.toNat := ⟨_, rfl⟩
  have HE := Lib.hid (show opC (⟨kk, key, ByteArray.empty, ByteArray.empty, to, am⟩) = [.int .u8 K, .string key, .string ByteArray.empty, .string ByteArray.empty, .string to, .int .u64 (am : Int)] by rw [hK]; rfl)
  have HB : ∀ o1 o2, Hid (Below w.heap.size w ((w.alloc o1).alloc o2)) := fun _ _ => Lib.hid (((Below.refl _ _).alloc (Nat.le_refl _) _).alloc (by simp) _)
  rw [← hK] at hk ⊢
  clear hK
  subst hk
  go_enter Tryd.func46, Tryd.ntmps46
  go_wp2_with fail
  go_region
  all_goals
    go_wp2_with fail
    refine wp_region_any (by kernel_rfl) ?_
    refine held_gen (G := fun W => wpAny _ _ _ _ _ _ _ W) (fun W => Two w [.int .u8 5, .string key, .string value, .string old, .string to, .int .u64 (am : Int)] [.int .u8 5, .string key, .string ByteArray.empty, .string ByteArray.empty, .string to, .int .u64 (am : Int)] W) ⟨one_new w _ _ _, two_new w _ _ _, by first | exact below_drewN (HB _ _).out _ | exact below_drewN (below_drewN (HB _ _).out _) _⟩ (fun W HW => ?_)
    refine wpAny_of_held (S := fun W => Two w [.int .u8 5, .string key, .string value, .string old, .string to, .int .u64 (am : Int)] [.int .u8 5, .string key, .string ByteArray.empty, .string ByteArray.empty, .string to, .int .u64 (am : Int)] W) _ _ _ _ ?_
    refine wpAnyH_take (i := 0) (oi := { dst := some 49, op := Op.load 34 (Operand.tmp 2), type := 34, pos := "ledger.go:89", after := #[], guard := none }) (v := .agg [.int .u8 5, .string key, .string ByteArray.empty, .string ByteArray.empty, .string to, .int .u64 (am : Int)].toArray) rfl (by kernel_rfl) (by kernel_rfl) (by kernel_rfl) (fun _ _ _ h => h) (Or.inl ⟨by kernel_rfl, fun W hSW => exec_load_mid 34 (.tmp 2) rfl (w.heap.size + 1) 0 rfl [.int .u8 5, .string key, .string ByteArray.empty, .string ByteArray.empty, .string to, .int .u64 (am : Int)] _ (range_all hSW.2.1) Tryd.underlying34 rfl Tryd.is34⟩) (HW) ?_
    try simp only [Act.put, List.setIfInBounds_toArray, List.set_cons_zero, List.set_cons_succ]
    refine wpAnyH_take (i := 1) (oi := { dst := some 50, op := Op.fieldAddr 34 (Operand.tmp 1) 4, type := 0, pos := "ledger.go:89", after := #[], guard := none }) (v := .pointer (some ⟨w.heap.size, 4, none⟩)) rfl (by kernel_rfl) (by kernel_rfl) (by kernel_rfl) (fun _ _ _ h => h) (Or.inl ⟨by kernel_rfl, fun W hSW => by go_simp⟩) (HW) ?_
    try simp only [Act.put, List.setIfInBounds_toArray, List.set_cons_zero, List.set_cons_succ]
    refine wpAnyH_take (i := 2) (oi := { dst := some 51, op := Op.load 9 (Operand.tmp 50), type := 9, pos := "ledger.go:89", after := #[{ on := 1, ground := Ground.data }], guard := none }) (v := .string to) rfl (by kernel_rfl) (by kernel_rfl) (by kernel_rfl) (fun _ _ _ h => h) (Or.inl ⟨by kernel_rfl, fun W hSW => by have hc := block_cell (k := 4) hSW.1 _ rfl; go_simp⟩) (HW) ?_
    try simp only [Act.put, List.setIfInBounds_toArray, List.set_cons_zero, List.set_cons_succ]
    refine wpAnyH_ready (rs := [3]) (by kernel_rfl) (by simp) ?_
    refine AllReadyH.cons (o := { dst := some 52, op := Op.call { callee := Callee.value (Operand.func 44), args := #[Operand.tmp 51], argTypes := #[9] }, type := 4, pos := "ledger.go:89", after := #[{ on := 2, ground := Ground.data }], guard := none }) rfl (fun K' hK' => ?_) AllReadyH.nil
    go_simp
    go_at_call 44
    refine (HV.out _).mono ?_
    rintro E w1 ⟨rfl, rfl⟩
    refine hK'.out _ _ HW (fun _ => ?_)
    clear hK' K'
    try simp only [Act.put, List.setIfInBounds_toArray, List.set_cons_zero, List.set_cons_succ]
    refine wpAnyH_take (i := 4) (oi := { dst := some 53, op := Op.move (Operand.tmp 52), type := 4, pos := "ledger.go:89", after := #[{ on := 3, ground := Ground.data }, { on := 3, ground := Ground.chain }], guard := none }) (v := .bool true) rfl (by kernel_rfl) (by kernel_rfl) (by kernel_rfl) (fun _ _ _ h => h) (Or.inl ⟨by kernel_rfl, fun W hSW => by go_simp⟩) (HW) ?_
    try simp only [Act.put, List.setIfInBounds_toArray, List.set_cons_zero, List.set_cons_succ]
    refine wpAnyH_take (i := 5) (oi := { dst := some 54, op := Op.fieldAddr 34 (Operand.tmp 1) 4, type := 0, pos := "ledger.go:89", after := #[{ on := 4, ground := Ground.guard }], guard := some (4, true) }) (v := .pointer (some ⟨w.heap.size, 4, none⟩)) rfl (by kernel_rfl) (by kernel_rfl) (by kernel_rfl) (fun _ _ _ h => h) (Or.inl ⟨by kernel_rfl, fun W hSW => by go_simp⟩) (HW) ?_
    try simp only [Act.put, List.setIfInBounds_toArray, List.set_cons_zero, List.set_cons_succ]
    refine wpAnyH_take (i := 6) (oi := { dst := some 55, op := Op.load 9 (Operand.tmp 54), type := 9, pos := "ledger.go:89", after := #[{ on := 5, ground := Ground.data }, { on := 4, ground := Ground.guard }], guard := some (4, true) }) (v := .string to) rfl (by kernel_rfl) (by kernel_rfl) (by kernel_rfl) (fun _ _ _ h => h) (Or.inl ⟨by kernel_rfl, fun W hSW => by have hc := block_cell (k := 4) hSW.1 _ rfl; go_simp⟩) (HW) ?_
    try simp only [Act.put, List.setIfInBounds_toArray, List.set_cons_zero, List.set_cons_succ]
    refine wpAnyH_take (i := 7) (oi := { dst := some 56, op := Op.fieldAddr 34 (Operand.tmp 1) 1, type := 0, pos := "ledger.go:89", after := #[{ on := 4, ground := Ground.guard }], guard := some (4, true) }) (v := .pointer (some ⟨w.heap.size, 1, none⟩)) rfl (by kernel_rfl) (by kernel_rfl) (by kernel_rfl) (fun _ _ _ h => h) (Or.inl ⟨by kernel_rfl, fun W hSW => by go_simp⟩) (HW) ?_
    try simp only [Act.put, List.setIfInBounds_toArray, List.set_cons_zero, List.set_cons_succ]
    refine wpAnyH_take (i := 8) (oi := { dst := some 57, op := Op.load 9 (Operand.tmp 56), type := 9, pos := "ledger.go:89", after := #[{ on := 7, ground := Ground.data }, { on := 4, ground := Ground.guard }], guard := some (4, true) }) (v := .string key) rfl (by kernel_rfl) (by kernel_rfl) (by kernel_rfl) (fun _ _ _ h => h) (Or.inl ⟨by kernel_rfl, fun W hSW => by have hc := block_cell (k := 1) hSW.1 _ rfl; go_simp⟩) (HW) ?_
    try simp only [Act.put, List.setIfInBounds_toArray, List.set_cons_zero, List.set_cons_succ]
    refine wpAnyH_take (i := 9) (oi := { dst := some 58, op := Op.binOp BinOp.neq 9 (Operand.tmp 55) (Operand.tmp 57) 9, type := 4, pos := "ledger.go:89", after := #[{ on := 6, ground := Ground.data }, { on := 8, ground := Ground.data }, { on := 4, ground := Ground.guard }], guard := some (4, true) }) (v := .bool true) rfl (by kernel_rfl) (by kernel_rfl) (by kernel_rfl) (fun _ _ _ h => h) (Or.inl ⟨by kernel_rfl, fun W hSW => by have hn := HN.out; go_simp⟩) (HW) ?_
    try simp only [Act.put, List.setIfInBounds_toArray, List.set_cons_zero, List.set_cons_succ]
    refine wpAnyH_take (i := 10) (oi := { dst := some 59, op := Op.pick (Operand.tmp 53) (Operand.tmp 58) (Operand.const (Value.bool false)), type := 4, pos := "ledger.go:89", after := #[{ on := 4, ground := Ground.data }, { on := 9, ground := Ground.data }], guard := none }) (v := .bool true) rfl (by kernel_rfl) (by kernel_rfl) (by kernel_rfl) (fun _ _ _ h => h) (Or.inl ⟨by kernel_rfl, fun W hSW => by go_simp⟩) (HW) ?_
    try simp only [Act.put, List.setIfInBounds_toArray, List.set_cons_zero, List.set_cons_succ]
    refine wpAnyH_take (i := 11) (oi := { dst := some 60, op := Op.move (Operand.tmp 59), type := 4, pos := "ledger.go:89", after := #[{ on := 10, ground := Ground.data }, { on := 4, ground := Ground.chain }], guard := none }) (v := .bool true) rfl (by kernel_rfl) (by kernel_rfl) (by kernel_rfl) (fun _ _ _ h => h) (Or.inl ⟨by kernel_rfl, fun W hSW => by go_simp⟩) (HW) ?_
    try simp only [Act.put, List.setIfInBounds_toArray, List.set_cons_zero, List.set_cons_succ]
    refine wpAnyH_take (i := 12) (oi := { dst := some 61, op := Op.fieldAddr 34 (Operand.tmp 1) 5, type := 0, pos := "ledger.go:89", after := #[{ on := 11, ground := Ground.guard }], guard := some (11, true) }) (v := .pointer (some ⟨w.heap.size, 5, none⟩)) rfl (by kernel_rfl) (by kernel_rfl) (by kernel_rfl) (fun _ _ _ h => h) (Or.inl ⟨by kernel_rfl, fun W hSW => by go_simp⟩) (HW) ?_
    try simp only [Act.put, List.setIfInBounds_toArray, List.set_cons_zero, List.set_cons_succ]
    refine wpAnyH_take (i := 13) (oi := { dst := some 62, op := Op.load 32 (Operand.tmp 61), type := 32, pos := "ledger.go:89", after := #[{ on := 12, ground := Ground.data }, { on := 11, ground := Ground.guard }], guard := some (11, true) }) (v := .int .u64 (am : Int)) rfl (by kernel_rfl) (by kernel_rfl) (by kernel_rfl) (fun _ _ _ h => h) (Or.inl ⟨by kernel_rfl, fun W hSW => by have hc := block_cell (k := 5) hSW.1 _ rfl; go_simp⟩) (HW) ?_
    try simp only [Act.put, List.setIfInBounds_toArray, List.set_cons_zero, List.set_cons_succ]
    refine wpAnyH_take (i := 14) (oi := { dst := some 63, op := Op.binOp BinOp.geq 32 (Operand.tmp 62) (Operand.const (Value.int IntKind.u64 1)) 32, type := 4, pos := "ledger.go:89", after := #[{ on := 13, ground := Ground.data }, { on := 11, ground := Ground.guard }], guard := some (11, true) }) (v := .bool true) rfl (by kernel_rfl) (by kernel_rfl) (by kernel_rfl) (fun _ _ _ h => h) (Or.inl ⟨by kernel_rfl, fun W hSW => by have hn := H1.out; go_simp⟩) (HW) ?_
    try simp only [Act.put, List.setIfInBounds_toArray, List.set_cons_zero, List.set_cons_succ]
    refine wpAnyH_take (i := 15) (oi := { dst := some 64, op := Op.pick (Operand.tmp 60) (Operand.tmp 63) (Operand.const (Value.bool false)), type := 4, pos := "ledger.go:89", after := #[{ on := 11, ground := Ground.data }, { on := 14, ground := Ground.data }], guard := none }) (v := .bool true) rfl (by kernel_rfl) (by kernel_rfl) (by kernel_rfl) (fun _ _ _ h => h) (Or.inl ⟨by kernel_rfl, fun W hSW => by go_simp⟩) (HW) ?_
    try simp only [Act.put, List.setIfInBounds_toArray, List.set_cons_zero, List.set_cons_succ]
    refine wpAnyH_take (i := 16) (oi := { dst := some 65, op := Op.move (Operand.tmp 64), type := 4, pos := "ledger.go:89", after := #[{ on := 15, ground := Ground.data }, { on := 11, ground := Ground.chain }], guard := none }) (v := .bool true) rfl (by kernel_rfl) (by kernel_rfl) (by kernel_rfl) (fun _ _ _ h => h) (Or.inl ⟨by kernel_rfl, fun W hSW => by go_simp⟩) (HW) ?_
    try simp only [Act.put, List.setIfInBounds_toArray, List.set_cons_zero, List.set_cons_succ]
    refine wpAnyH_take (i := 17) (oi := { dst := some 66, op := Op.fieldAddr 34 (Operand.tmp 1) 5, type := 0, pos := "ledger.go:89", after := #[{ on := 16, ground := Ground.guard }, { on := 21, ground := Ground.gcOnly Departure.lateStores }], guard := some (16, true) }) (v := .pointer (some ⟨w.heap.size, 5, none⟩)) rfl (by kernel_rfl) (by kernel_rfl) (by kernel_rfl) (fun _ _ _ h => h) (Or.inl ⟨by kernel_rfl, fun W hSW => by go_simp⟩) (HW) ?_
    try simp only [Act.put, List.setIfInBounds_toArray, List.set_cons_zero, List.set_cons_succ]
    refine wpAnyH_take (i := 18) (oi := { dst := some 67, op := Op.load 32 (Operand.tmp 66), type := 32, pos := "ledger.go:89", after := #[{ on := 17, ground := Ground.data }, { on := 16, ground := Ground.guard }, { on := 21, ground := Ground.gcOnly Departure.lateStores }], guard := some (16, true) }) (v := .int .u64 (am : Int)) rfl (by kernel_rfl) (by kernel_rfl) (by kernel_rfl) (fun _ _ _ h => h) (Or.inl ⟨by kernel_rfl, fun W hSW => by have hc := block_cell (k := 5) hSW.1 _ rfl; go_simp⟩) (HW) ?_
    try simp only [Act.put, List.setIfInBounds_toArray, List.set_cons_zero, List.set_cons_succ]
    refine wpAnyH_take (i := 19) (oi := { dst := some 68, op := Op.binOp BinOp.leq 32 (Operand.tmp 67) (Operand.const (Value.int IntKind.u64 1125899906842624)) 32, type := 4, pos := "ledger.go:89", after := #[{ on := 18, ground := Ground.data }, { on := 16, ground := Ground.guard }, { on := 21, ground := Ground.gcOnly Departure.lateStores }], guard := some (16, true) }) (v := .bool false) rfl (by kernel_rfl) (by kernel_rfl) (by kernel_rfl) (fun _ _ _ h => h) (Or.inl ⟨by kernel_rfl, fun W hSW => by have hn := H2.out; go_simp⟩) (HW) ?_
    try simp only [Act.put, List.setIfInBounds_toArray, List.set_cons_zero, List.set_cons_succ]
    refine wpAnyH_take (i := 20) (oi := { dst := some 69, op := Op.pick (Operand.tmp 65) (Operand.tmp 68) (Operand.const (Value.bool false)), type := 4, pos := "ledger.go:89", after := #[{ on := 16, ground := Ground.data }, { on := 19, ground := Ground.data }, { on := 21, ground := Ground.gcOnly Departure.lateStores }], guard := none }) (v := .bool false) rfl (by kernel_rfl) (by kernel_rfl) (by kernel_rfl) (fun _ _ _ h => h) (Or.inl ⟨by kernel_rfl, fun W hSW => by go_simp⟩) (HW) ?_
    try simp only [Act.put, List.setIfInBounds_toArray, List.set_cons_zero, List.set_cons_succ]
    refine wpAnyH_ready (rs := [21]) (by kernel_rfl) (by simp) ?_
    refine AllReadyH.cons (o := { dst := none, op := Op.store 34 (Operand.tmp 2) (Operand.tmp 49), type := 0, pos := "ledger.go:89", after := #[{ on := 0, ground := Ground.data }, { on := 16, ground := Ground.chain }, { on := 0, ground := Ground.phase }, { on := 1, ground := Ground.textOnly Departure.lateStores }, { on := 2, ground := Ground.textOnly Departure.lateStores }, { on := 3, ground := Ground.textOnly Departure.lateStoresUnsure }, { on := 4, ground := Ground.textOnly Departure.lateStores }, { on := 5, ground := Ground.textOnly Departure.lateStores }, { on := 6, ground := Ground.textOnly Departure.lateStores }, { on := 7, ground := Ground.textOnly Departure.lateStores }, { on := 8, ground := Ground.textOnly Departure.lateStores }, { on := 9, ground := Ground.textOnly Departure.lateStores }, { on := 10, ground := Ground.textOnly Departure.lateStores }, { on := 11, ground := Ground.textOnly Departure.lateStores }, { on := 12, ground := Ground.textOnly Departure.lateStores }, { on := 13, ground := Ground.textOnly Departure.lateStores }, { on := 14, ground := Ground.textOnly Departure.lateStores }, { on := 15, ground := Ground.textOnly Departure.lateStores }, { on := 16, ground := Ground.textOnly Departure.lateStores }, { on := 17, ground := Ground.textOnly Departure.lateStores }, { on := 18, ground := Ground.textOnly Departure.lateStores }, { on := 19, ground := Ground.textOnly Departure.lateStores }, { on := 20, ground := Ground.textOnly Departure.lateStores }], guard := none }) rfl (fun K' hK' => ?_) AllReadyH.nil
    rw [if_pos (by kernel_rfl)]
    refine wp_store_mid 34 (.tmp 2) (.tmp 49) rfl (w.heap.size + 1) 0 [.int .u8 5, .string key, .string ByteArray.empty, .string ByteArray.empty, .string to, .int .u64 (am : Int)].toArray rfl rfl (there_block HW.2.1 0 6 (by simp)) Tryd.is34 (by simp [Value.oneCell']) ?_
    rw [show ([.int .u8 5, .string key, .string ByteArray.empty, .string ByteArray.empty, .string to, .int .u64 (am : Int)] : List Value).toArray.toList = [.int .u8 5, .string key, .string ByteArray.empty, .string ByteArray.empty, .string to, .int .u64 (am : Int)] from rfl, heap_same0 HW.2.1]
    refine hK'.out _ _ HW (fun _ => ?_)
    clear hK' K'
    try simp only [Act.put]
    refine wpAnyH_take (i := 22) (oi := { dst := some 3, op := Op.assign (Operand.tmp 69), type := 4, pos := "ledger.go:89", after := #[{ on := 20, ground := Ground.data }, { on := 21, ground := Ground.chain }, { on := 0, ground := Ground.phase }, { on := 1, ground := Ground.phase }, { on := 2, ground := Ground.phase }, { on := 3, ground := Ground.phase }, { on := 4, ground := Ground.phase }, { on := 5, ground := Ground.phase }, { on := 6, ground := Ground.phase }, { on := 7, ground := Ground.phase }, { on := 8, ground := Ground.phase }, { on := 9, ground := Ground.phase }, { on := 10, ground := Ground.phase }, { on := 11, ground := Ground.phase }, { on := 12, ground := Ground.phase }, { on := 13, ground := Ground.phase }, { on := 14, ground := Ground.phase }, { on := 15, ground := Ground.phase }, { on := 16, ground := Ground.phase }, { on := 17, ground := Ground.phase }, { on := 18, ground := Ground.phase }, { on := 19, ground := Ground.phase }, { on := 20, ground := Ground.phase }, { on := 21, ground := Ground.phase }], guard := none }) (v := .bool false) rfl (by kernel_rfl) (by kernel_rfl) (by kernel_rfl) (fun _ _ _ h => h) (Or.inl ⟨by kernel_rfl, fun W hSW => by go_simp⟩) (HW) ?_
    try simp only [Act.put, List.setIfInBounds_toArray, List.set_cons_zero, List.set_cons_succ]
    refine wpAnyH_done (by kernel_rfl) ?_ _
    go_wp2_with fail
    (try simp only [Exit.inBlock, Exit.then]); refine bodyPost_ret (ret_ct (g := w.heap.size + 1) (cs := [.int .u8 5, .string key, .string ByteArray.empty, .string ByteArray.empty, .string to, .int .u64 (am : Int)]) rfl rfl rfl (range_all HW.2.1) Tryd.underlying34 rfl Tryd.is34) rfl ?_
    exact ⟨by rw [HE.out]; rfl, HW.2.2⟩
set_option maxHeartbeats 4000000 in
theorem own_5e (kk : UInt8) (key value old to : ByteArray) (am : Nat) (w : World) (hk : (kk.toNat : Int) = 5) (HV : Hid (∀ W, Calls Tryd.prog 44 #[.string to] W fun E w' => E = .returned (.bool true) ∧ W = w')) (HN : Hid ((to.toList == key.toList) = false)) (H1 : Hid (¬ ((am : Int) < 1))) (H2 : Hid (¬ (1125899906842624 < (am : Int)))) : Calls Tryd.prog 46 #[.agg (opC ⟨kk, key, value, old, to, am⟩).toArray] w fun E w' => OwnP w (⟨kk, key, ByteArray.empty, ByteArray.empty, to, am⟩) (true) E w' := by
  dsimp only [opC]
  obtain ⟨K, hK⟩ : ∃ K : Int, K = kk.toNat := ⟨_, rfl⟩
  have HE := Lib.hid (show opC (⟨kk, key, ByteArray.empty, ByteArray.empty, to, am⟩) = [.int .u8 K, .string key, .string ByteArray.empty, .string ByteArray.empty, .string to, .int .u64 (am : Int)] by rw [hK]; rfl)
  have HB : ∀ o1 o2, Hid (Below w.heap.size w ((w.alloc o1).alloc o2)) := fun _ _ => Lib.hid (((Below.refl _ _).alloc (Nat.le_refl _) _).alloc (by simp) _)
  rw [← hK] at hk ⊢
  clear hK
  subst hk
  go_enter Tryd.func46, Tryd.ntmps46
  go_wp2_with fail
  go_region
  all_goals
    go_wp2_with fail
    refine wp_region_any (by kernel_rfl) ?_
    refine held_gen (G := fun W => wpAny _ _ _ _ _ _ _ W) (fun W => Two w [.int .u8 5, .string key, .string value, .string old, .string to, .int .u64 (am : Int)] [.int .u8 5, .string key, .string ByteArray.empty, .string ByteArray.empty, .string to, .int .u64 (am : Int)] W) ⟨one_new w _ _ _, two_new w _ _ _, by first | exact below_drewN (HB _ _).out _ | exact below_drewN (below_drewN (HB _ _).out _) _⟩ (fun W HW => ?_)
    refine wpAny_of_held (S := fun W => Two w [.int .u8 5, .string key, .string value, .string old, .string to, .int .u64 (am : Int)] [.int .u8 5, .string key, .string ByteArray.empty, .string ByteArray.empty, .string to, .int .u64 (am : Int)] W) _ _ _ _ ?_
    refine wpAnyH_take (i := 0) (oi := { dst := some 49, op := Op.load 34 (Operand.tmp 2), type := 34, pos := "ledger.go:89", after := #[], guard := none }) (v := .agg [.int .u8 5, .string key, .string ByteArray.empty, .string ByteArray.empty, .string to, .int .u64 (am : Int)].toArray) rfl (by kernel_rfl) (by kernel_rfl) (by kernel_rfl) (fun _ _ _ h => h) (Or.inl ⟨by kernel_rfl, fun W hSW => exec_load_mid 34 (.tmp 2) rfl (w.heap.size + 1) 0 rfl [.int .u8 5, .string key, .string ByteArray.empty, .string ByteArray.empty, .string to, .int .u64 (am : Int)] _ (range_all hSW.2.1) Tryd.underlying34 rfl Tryd.is34⟩) (HW) ?_
    try simp only [Act.put, List.setIfInBounds_toArray, List.set_cons_zero, List.set_cons_succ]
    refine wpAnyH_take (i := 1) (oi := { dst := some 50, op := Op.fieldAddr 34 (Operand.tmp 1) 4, type := 0, pos := "ledger.go:89", after := #[], guard := none }) (v := .pointer (some ⟨w.heap.size, 4, none⟩)) rfl (by kernel_rfl) (by kernel_rfl) (by kernel_rfl) (fun _ _ _ h => h) (Or.inl ⟨by kernel_rfl, fun W hSW => by go_simp⟩) (HW) ?_
    try simp only [Act.put, List.setIfInBounds_toArray, List.set_cons_zero, List.set_cons_succ]
    refine wpAnyH_take (i := 2) (oi := { dst := some 51, op := Op.load 9 (Operand.tmp 50), type := 9, pos := "ledger.go:89", after := #[{ on := 1, ground := Ground.data }], guard := none }) (v := .string to) rfl (by kernel_rfl) (by kernel_rfl) (by kernel_rfl) (fun _ _ _ h => h) (Or.inl ⟨by kernel_rfl, fun W hSW => by have hc := block_cell (k := 4) hSW.1 _ rfl; go_simp⟩) (HW) ?_
    try simp only [Act.put, List.setIfInBounds_toArray, List.set_cons_zero, List.set_cons_succ]
    refine wpAnyH_ready (rs := [3]) (by kernel_rfl) (by simp) ?_
    refine AllReadyH.cons (o := { dst := some 52, op := Op.call { callee := Callee.value (Operand.func 44), args := #[Operand.tmp 51], argTypes := #[9] }, type := 4, pos := "ledger.go:89", after := #[{ on := 2, ground := Ground.data }], guard := none }) rfl (fun K' hK' => ?_) AllReadyH.nil
    go_simp
    go_at_call 44
    refine (HV.out _).mono ?_
    rintro E w1 ⟨rfl, rfl⟩
    refine hK'.out _ _ HW (fun _ => ?_)
    clear hK' K'
    try simp only [Act.put, List.setIfInBounds_toArray, List.set_cons_zero, List.set_cons_succ]
    refine wpAnyH_take (i := 4) (oi := { dst := some 53, op := Op.move (Operand.tmp 52), type := 4, pos := "ledger.go:89", after := #[{ on := 3, ground := Ground.data }, { on := 3, ground := Ground.chain }], guard := none }) (v := .bool true) rfl (by kernel_rfl) (by kernel_rfl) (by kernel_rfl) (fun _ _ _ h => h) (Or.inl ⟨by kernel_rfl, fun W hSW => by go_simp⟩) (HW) ?_
    try simp only [Act.put, List.setIfInBounds_toArray, List.set_cons_zero, List.set_cons_succ]
    refine wpAnyH_take (i := 5) (oi := { dst := some 54, op := Op.fieldAddr 34 (Operand.tmp 1) 4, type := 0, pos := "ledger.go:89", after := #[{ on := 4, ground := Ground.guard }], guard := some (4, true) }) (v := .pointer (some ⟨w.heap.size, 4, none⟩)) rfl (by kernel_rfl) (by kernel_rfl) (by kernel_rfl) (fun _ _ _ h => h) (Or.inl ⟨by kernel_rfl, fun W hSW => by go_simp⟩) (HW) ?_
    try simp only [Act.put, List.setIfInBounds_toArray, List.set_cons_zero, List.set_cons_succ]
    refine wpAnyH_take (i := 6) (oi := { dst := some 55, op := Op.load 9 (Operand.tmp 54), type := 9, pos := "ledger.go:89", after := #[{ on := 5, ground := Ground.data }, { on := 4, ground := Ground.guard }], guard := some (4, true) }) (v := .string to) rfl (by kernel_rfl) (by kernel_rfl) (by kernel_rfl) (fun _ _ _ h => h) (Or.inl ⟨by kernel_rfl, fun W hSW => by have hc := block_cell (k := 4) hSW.1 _ rfl; go_simp⟩) (HW) ?_
    try simp only [Act.put, List.setIfInBounds_toArray, List.set_cons_zero, List.set_cons_succ]
    refine wpAnyH_take (i := 7) (oi := { dst := some 56, op := Op.fieldAddr 34 (Operand.tmp 1) 1, type := 0, pos := "ledger.go:89", after := #[{ on := 4, ground := Ground.guard }], guard := some (4, true) }) (v := .pointer (some ⟨w.heap.size, 1, none⟩)) rfl (by kernel_rfl) (by kernel_rfl) (by kernel_rfl) (fun _ _ _ h => h) (Or.inl ⟨by kernel_rfl, fun W hSW => by go_simp⟩) (HW) ?_
    try simp only [Act.put, List.setIfInBounds_toArray, List.set_cons_zero, List.set_cons_succ]
    refine wpAnyH_take (i := 8) (oi := { dst := some 57, op := Op.load 9 (Operand.tmp 56), type := 9, pos := "ledger.go:89", after := #[{ on := 7, ground := Ground.data }, { on := 4, ground := Ground.guard }], guard := some (4, true) }) (v := .string key) rfl (by kernel_rfl) (by kernel_rfl) (by kernel_rfl) (fun _ _ _ h => h) (Or.inl ⟨by kernel_rfl, fun W hSW => by have hc := block_cell (k := 1) hSW.1 _ rfl; go_simp⟩) (HW) ?_
    try simp only [Act.put, List.setIfInBounds_toArray, List.set_cons_zero, List.set_cons_succ]
    refine wpAnyH_take (i := 9) (oi := { dst := some 58, op := Op.binOp BinOp.neq 9 (Operand.tmp 55) (Operand.tmp 57) 9, type := 4, pos := "ledger.go:89", after := #[{ on := 6, ground := Ground.data }, { on := 8, ground := Ground.data }, { on := 4, ground := Ground.guard }], guard := some (4, true) }) (v := .bool true) rfl (by kernel_rfl) (by kernel_rfl) (by kernel_rfl) (fun _ _ _ h => h) (Or.inl ⟨by kernel_rfl, fun W hSW => by have hn := HN.out; go_simp⟩) (HW) ?_
    try simp only [Act.put, List.setIfInBounds_toArray, List.set_cons_zero, List.set_cons_succ]
    refine wpAnyH_take (i := 10) (oi := { dst := some 59, op := Op.pick (Operand.tmp 53) (Operand.tmp 58) (Operand.const (Value.bool false)), type := 4, pos := "ledger.go:89", after := #[{ on := 4, ground := Ground.data }, { on := 9, ground := Ground.data }], guard := none }) (v := .bool true) rfl (by kernel_rfl) (by kernel_rfl) (by kernel_rfl) (fun _ _ _ h => h) (Or.inl ⟨by kernel_rfl, fun W hSW => by go_simp⟩) (HW) ?_
    try simp only [Act.put, List.setIfInBounds_toArray, List.set_cons_zero, List.set_cons_succ]
    refine wpAnyH_take (i := 11) (oi := { dst := some 60, op := Op.move (Operand.tmp 59), type := 4, pos := "ledger.go:89", after := #[{ on := 10, ground := Ground.data }, { on := 4, ground := Ground.chain }], guard := none }) (v := .bool true) rfl (by kernel_rfl) (by kernel_rfl) (by kernel_rfl) (fun _ _ _ h => h) (Or.inl ⟨by kernel_rfl, fun W hSW => by go_simp⟩) (HW) ?_
    try simp only [Act.put, List.setIfInBounds_toArray, List.set_cons_zero, List.set_cons_succ]
    refine wpAnyH_take (i := 12) (oi := { dst := some 61, op := Op.fieldAddr 34 (Operand.tmp 1) 5, type := 0, pos := "ledger.go:89", after := #[{ on := 11, ground := Ground.guard }], guard := some (11, true) }) (v := .pointer (some ⟨w.heap.size, 5, none⟩)) rfl (by kernel_rfl) (by kernel_rfl) (by kernel_rfl) (fun _ _ _ h => h) (Or.inl ⟨by kernel_rfl, fun W hSW => by go_simp⟩) (HW) ?_
    try simp only [Act.put, List.setIfInBounds_toArray, List.set_cons_zero, List.set_cons_succ]
    refine wpAnyH_take (i := 13) (oi := { dst := some 62, op := Op.load 32 (Operand.tmp 61), type := 32, pos := "ledger.go:89", after := #[{ on := 12, ground := Ground.data }, { on := 11, ground := Ground.guard }], guard := some (11, true) }) (v := .int .u64 (am : Int)) rfl (by kernel_rfl) (by kernel_rfl) (by kernel_rfl) (fun _ _ _ h => h) (Or.inl ⟨by kernel_rfl, fun W hSW => by have hc := block_cell (k := 5) hSW.1 _ rfl; go_simp⟩) (HW) ?_
    try simp only [Act.put, List.setIfInBounds_toArray, List.set_cons_zero, List.set_cons_succ]
    refine wpAnyH_take (i := 14) (oi := { dst := some 63, op := Op.binOp BinOp.geq 32 (Operand.tmp 62) (Operand.const (Value.int IntKind.u64 1)) 32, type := 4, pos := "ledger.go:89", after := #[{ on := 13, ground := Ground.data }, { on := 11, ground := Ground.guard }], guard := some (11, true) }) (v := .bool true) rfl (by kernel_rfl) (by kernel_rfl) (by kernel_rfl) (fun _ _ _ h => h) (Or.inl ⟨by kernel_rfl, fun W hSW => by have hn := H1.out; go_simp⟩) (HW) ?_
    try simp only [Act.put, List.setIfInBounds_toArray, List.set_cons_zero, List.set_cons_succ]
    refine wpAnyH_take (i := 15) (oi := { dst := some 64, op := Op.pick (Operand.tmp 60) (Operand.tmp 63) (Operand.const (Value.bool false)), type := 4, pos := "ledger.go:89", after := #[{ on := 11, ground := Ground.data }, { on := 14, ground := Ground.data }], guard := none }) (v := .bool true) rfl (by kernel_rfl) (by kernel_rfl) (by kernel_rfl) (fun _ _ _ h => h) (Or.inl ⟨by kernel_rfl, fun W hSW => by go_simp⟩) (HW) ?_
    try simp only [Act.put, List.setIfInBounds_toArray, List.set_cons_zero, List.set_cons_succ]
    refine wpAnyH_take (i := 16) (oi := { dst := some 65, op := Op.move (Operand.tmp 64), type := 4, pos := "ledger.go:89", after := #[{ on := 15, ground := Ground.data }, { on := 11, ground := Ground.chain }], guard := none }) (v := .bool true) rfl (by kernel_rfl) (by kernel_rfl) (by kernel_rfl) (fun _ _ _ h => h) (Or.inl ⟨by kernel_rfl, fun W hSW => by go_simp⟩) (HW) ?_
    try simp only [Act.put, List.setIfInBounds_toArray, List.set_cons_zero, List.set_cons_succ]
    refine wpAnyH_take (i := 17) (oi := { dst := some 66, op := Op.fieldAddr 34 (Operand.tmp 1) 5, type := 0, pos := "ledger.go:89", after := #[{ on := 16, ground := Ground.guard }, { on := 21, ground := Ground.gcOnly Departure.lateStores }], guard := some (16, true) }) (v := .pointer (some ⟨w.heap.size, 5, none⟩)) rfl (by kernel_rfl) (by kernel_rfl) (by kernel_rfl) (fun _ _ _ h => h) (Or.inl ⟨by kernel_rfl, fun W hSW => by go_simp⟩) (HW) ?_
    try simp only [Act.put, List.setIfInBounds_toArray, List.set_cons_zero, List.set_cons_succ]
    refine wpAnyH_take (i := 18) (oi := { dst := some 67, op := Op.load 32 (Operand.tmp 66), type := 32, pos := "ledger.go:89", after := #[{ on := 17, ground := Ground.data }, { on := 16, ground := Ground.guard }, { on := 21, ground := Ground.gcOnly Departure.lateStores }], guard := some (16, true) }) (v := .int .u64 (am : Int)) rfl (by kernel_rfl) (by kernel_rfl) (by kernel_rfl) (fun _ _ _ h => h) (Or.inl ⟨by kernel_rfl, fun W hSW => by have hc := block_cell (k := 5) hSW.1 _ rfl; go_simp⟩) (HW) ?_
    try simp only [Act.put, List.setIfInBounds_toArray, List.set_cons_zero, List.set_cons_succ]
    refine wpAnyH_take (i := 19) (oi := { dst := some 68, op := Op.binOp BinOp.leq 32 (Operand.tmp 67) (Operand.const (Value.int IntKind.u64 1125899906842624)) 32, type := 4, pos := "ledger.go:89", after := #[{ on := 18, ground := Ground.data }, { on := 16, ground := Ground.guard }, { on := 21, ground := Ground.gcOnly Departure.lateStores }], guard := some (16, true) }) (v := .bool true) rfl (by kernel_rfl) (by kernel_rfl) (by kernel_rfl) (fun _ _ _ h => h) (Or.inl ⟨by kernel_rfl, fun W hSW => by have hn := H2.out; go_simp⟩) (HW) ?_
    try simp only [Act.put, List.setIfInBounds_toArray, List.set_cons_zero, List.set_cons_succ]
    refine wpAnyH_take (i := 20) (oi := { dst := some 69, op := Op.pick (Operand.tmp 65) (Operand.tmp 68) (Operand.const (Value.bool false)), type := 4, pos := "ledger.go:89", after := #[{ on := 16, ground := Ground.data }, { on := 19, ground := Ground.data }, { on := 21, ground := Ground.gcOnly Departure.lateStores }], guard := none }) (v := .bool true) rfl (by kernel_rfl) (by kernel_rfl) (by kernel_rfl) (fun _ _ _ h => h) (Or.inl ⟨by kernel_rfl, fun W hSW => by go_simp⟩) (HW) ?_
    try simp only [Act.put, List.setIfInBounds_toArray, List.set_cons_zero, List.set_cons_succ]
    refine wpAnyH_ready (rs := [21]) (by kernel_rfl) (by simp) ?_
    refine AllReadyH.cons (o := { dst := none, op := Op.store 34 (Operand.tmp 2) (Operand.tmp 49), type := 0, pos := "ledger.go:89", after := #[{ on := 0, ground := Ground.data }, { on := 16, ground := Ground.chain }, { on := 0, ground := Ground.phase }, { on := 1, ground := Ground.textOnly Departure.lateStores }, { on := 2, ground := Ground.textOnly Departure.lateStores }, { on := 3, ground := Ground.textOnly Departure.lateStoresUnsure }, { on := 4, ground := Ground.textOnly Departure.lateStores }, { on := 5, ground := Ground.textOnly Departure.lateStores }, { on := 6, ground := Ground.textOnly Departure.lateStores }, { on := 7, ground := Ground.textOnly Departure.lateStores }, { on := 8, ground := Ground.textOnly Departure.lateStores }, { on := 9, ground := Ground.textOnly Departure.lateStores }, { on := 10, ground := Ground.textOnly Departure.lateStores }, { on := 11, ground := Ground.textOnly Departure.lateStores }, { on := 12, ground := Ground.textOnly Departure.lateStores }, { on := 13, ground := Ground.textOnly Departure.lateStores }, { on := 14, ground := Ground.textOnly Departure.lateStores }, { on := 15, ground := Ground.textOnly Departure.lateStores }, { on := 16, ground := Ground.textOnly Departure.lateStores }, { on := 17, ground := Ground.textOnly Departure.lateStores }, { on := 18, ground := Ground.textOnly Departure.lateStores }, { on := 19, ground := Ground.textOnly Departure.lateStores }, { on := 20, ground := Ground.textOnly Departure.lateStores }], guard := none }) rfl (fun K' hK' => ?_) AllReadyH.nil
    rw [if_pos (by kernel_rfl)]
    refine wp_store_mid 34 (.tmp 2) (.tmp 49) rfl (w.heap.size + 1) 0 [.int .u8 5, .string key, .string ByteArray.empty, .string ByteArray.empty, .string to, .int .u64 (am : Int)].toArray rfl rfl (there_block HW.2.1 0 6 (by simp)) Tryd.is34 (by simp [Value.oneCell']) ?_
    rw [show ([.int .u8 5, .string key, .string ByteArray.empty, .string ByteArray.empty, .string to, .int .u64 (am : Int)] : List Value).toArray.toList = [.int .u8 5, .string key, .string ByteArray.empty, .string ByteArray.empty, .string to, .int .u64 (am : Int)] from rfl, heap_same0 HW.2.1]
    refine hK'.out _ _ HW (fun _ => ?_)
    clear hK' K'
    try simp only [Act.put]
    refine wpAnyH_take (i := 22) (oi := { dst := some 3, op := Op.assign (Operand.tmp 69), type := 4, pos := "ledger.go:89", after := #[{ on := 20, ground := Ground.data }, { on := 21, ground := Ground.chain }, { on := 0, ground := Ground.phase }, { on := 1, ground := Ground.phase }, { on := 2, ground := Ground.phase }, { on := 3, ground := Ground.phase }, { on := 4, ground := Ground.phase }, { on := 5, ground := Ground.phase }, { on := 6, ground := Ground.phase }, { on := 7, ground := Ground.phase }, { on := 8, ground := Ground.phase }, { on := 9, ground := Ground.phase }, { on := 10, ground := Ground.phase }, { on := 11, ground := Ground.phase }, { on := 12, ground := Ground.phase }, { on := 13, ground := Ground.phase }, { on := 14, ground := Ground.phase }, { on := 15, ground := Ground.phase }, { on := 16, ground := Ground.phase }, { on := 17, ground := Ground.phase }, { on := 18, ground := Ground.phase }, { on := 19, ground := Ground.phase }, { on := 20, ground := Ground.phase }, { on := 21, ground := Ground.phase }], guard := none }) (v := .bool true) rfl (by kernel_rfl) (by kernel_rfl) (by kernel_rfl) (fun _ _ _ h => h) (Or.inl ⟨by kernel_rfl, fun W hSW => by go_simp⟩) (HW) ?_
    try simp only [Act.put, List.setIfInBounds_toArray, List.set_cons_zero, List.set_cons_succ]
    refine wpAnyH_done (by kernel_rfl) ?_ _
    go_wp2_with fail
    (try simp only [Exit.inBlock, Exit.then]); refine bodyPost_ret (ret_ct (g := w.heap.size + 1) (cs := [.int .u8 5, .string key, .string ByteArray.empty, .string ByteArray.empty, .string to, .int .u64 (am : Int)]) rfl rfl rfl (range_all HW.2.1) Tryd.underlying34 rfl Tryd.is34) rfl ?_
    exact ⟨by rw [HE.out]; rfl, HW.2.2⟩
theorem own_5 (kk : UInt8) (key value old to : ByteArray) (am : Nat) (w : World) (hk : (kk.toNat : Int) = 5) : Calls Tryd.prog 46 #[.agg (opC ⟨kk, key, value, old, to, am⟩).toArray] w fun E w' => OwnP w (⟨kk, key, ByteArray.empty, ByteArray.empty, to, am⟩) (mayK to && (decide (to ≠ key) && (decide (1 ≤ am) && decide (am ≤ topN)))) E w' := by
  have HV := fun W => mayK_any to W
  cases hz : mayK to with
  | false =>
    rw [hz] at HV
    exact (own_5a kk key value old to am w hk (Lib.hid HV)).mono fun _ _ h => by rw [Bool.false_and]; exact h
  | true =>
    rw [hz] at HV
    by_cases hne : to = key
    · exact (own_5b kk key value old to am w hk (Lib.hid HV) (Lib.hid (by rw [hne]; simp))).mono fun _ _ h => by simpa [hne] using h
    · have hn : (to.toList == key.toList) = false := by
        cases h : to.toList == key.toList with
        | false => rfl
        | true => exact absurd (toList_inj (by simpa using h)) hne
      by_cases h1 : 1 ≤ am
      · by_cases h2 : am ≤ topN
        · exact (own_5e kk key value old to am w hk (Lib.hid HV) (Lib.hid hn) (Lib.hid (by omega)) (Lib.hid (by unfold topN at h2; omega))).mono fun _ _ h => by simpa [hne, h1, h2] using h
        · exact (own_5d kk key value old to am w hk (Lib.hid HV) (Lib.hid hn) (Lib.hid (by omega)) (Lib.hid (by unfold topN at h2; omega))).mono fun _ _ h => by simpa [hne, h1, h2] using h
      · exact (own_5c kk key value old to am w hk (Lib.hid HV) (Lib.hid hn) (Lib.hid (by omega))).mono fun _ _ h => by simpa [hne, h1] using h
open Go.RowKit
set_option maxRecDepth 100000

theorem isAgg_of {P : Program} {e : TypeId} {td : TypeDesc} (he : P.underlying e = some td) (w : World) : (isAgg e).run P w = .ok td.isRow w := by
  unfold isAgg
  rw [Sem.run_bind, run_underlying he w]
  cases td <;> rfl
theorem run_part_cell {P : Program} {e : TypeId} {td : TypeDesc} (he : P.underlying e = some td) (hd : td.isRow = false) {xs : Array Value} {i : Nat} {v : Value} (hv : xs[i]? = some v) (w : World) : (part e xs i).run P w = .ok v w := by
  have := isAgg_of he w
  rw [hd] at this
  simp [part, this, hv]
theorem run_part_agg {P : Program} {e : TypeId} {td : TypeDesc} (he : P.underlying e = some td) (hd : td.isRow = true) {n : Nat} (hi : (P.info? e).map (·.size) = some n) {xs : Array Value} {off : Nat} {ys : List Value} (hy : xs.extract off (off + n) = ys.toArray) (w : World) :
    (part e xs off).run P w = .ok (.agg ys.toArray) w := by
  have := isAgg_of he w
  rw [hd] at this
  cases hq : P.info? e with
  | none => simp [hq] at hi
  | some i =>
    have hs : i.size = n := by simpa [hq] using hi
    simp [part, this, sizeOf, typeInfo, hq, hs, hy]
theorem eqF_nil {P : Program} {d : Nat} {xs ys : Array Value} {w : World} : (Op.eqFields d xs ys []).run P w = .ok true w := by simp [Op.eqFields]
theorem eqF_cons {P : Program} {d : Nat} {xs ys : Array Value} {f : Field} {fs : List Field} {a b : Value} {r q : Bool} {w : World} (hn : (f.name != "_") = true) (pa : (part f.type xs f.offset).run P w = .ok a w) (pb : (part f.type ys f.offset).run P w = .ok b w)
    (he : (Op.equalIn d f.type a b).run P w = .ok r w) (hq : (Op.eqFields d xs ys fs).run P w = .ok q w) : (Op.eqFields d xs ys (f :: fs)).run P w = .ok (r && q) w := by
  have hn' : f.name ≠ "_" := by simpa using hn
  simp only [Op.eqFields, if_pos hn', Sem.run_bind, pa, pb, he, Result.andThen_ok]
  cases r
  · simp
  · simpa using hq
theorem fields_of {P : Program} {t : TypeId} {fs : Array Field} (h : P.underlying t = some (.struct fs)) : (P.fieldsOf t).toList = fs.toList := by rw [Program.fieldsOf, h]
theorem struct_of {P : Program} {t : TypeId} {fs : Array Field} (h : P.underlying t = some (.struct fs)) : P.underlying t = some (.struct (P.fieldsOf t)) := by rw [Program.fieldsOf, h]
theorem eq_int_of {d : Nat} {e : TypeId} {k k' : IntKind} {x y : Int} (he : Tryd.prog.underlying e = some (.int k')) (w : World) : (Op.equalIn (d + 1) e (.int k x) (.int k y)).run Tryd.prog w = .ok (x == y) w := run_equalIn_int w d e k k' x y he
theorem eq_str_of {d : Nat} {x y : ByteArray} (w : World) : (Op.equalIn (d + 1) 9 (.string x) (.string y)).run Tryd.prog w = .ok (decide (x = y)) w := by
  rw [run_equalIn_string w d 9 x y Tryd.underlying9]
  congr 1
  rw [Bool.eq_iff_iff]
  simp only [beq_iff_eq, decide_eq_true_eq, ByteArray.toList_eq]
  constructor
  · intro h
    obtain ⟨⟨x⟩⟩ := x
    obtain ⟨⟨y⟩⟩ := y
    simpa using h
  · rintro rfl
    rfl
theorem op_ext {p q : MOp} : (p.kind = q.kind ∧ p.key = q.key ∧ p.value = q.value ∧ p.old = q.old ∧ p.to = q.to ∧ p.amount = q.amount) ↔ p = q := by
  obtain ⟨a1, a2, a3, a4, a5, a6⟩ := p
  obtain ⟨b1, b2, b3, b4, b5, b6⟩ := q
  simp
theorem eq_op_of {d : Nat} (p q : MOp) {b : Bool} (hb : b = true ↔ p = q) (w : World) : (Op.equalIn (d + 2) 34 (.agg (opC p).toArray) (.agg (opC q).toArray)).run Tryd.prog w = .ok b w := by
  rw [run_equalIn_struct w (d + 1) 34 _ _ (struct_of Tryd.underlying34) (by kernel_rfl), fields_of Tryd.underlying34]
  refine Eq.trans (eqF_cons rfl (run_part_cell Tryd.underlying5 rfl rfl w) (run_part_cell Tryd.underlying5 rfl rfl w) (eq_int_of Tryd.underlying5 w)
    (eqF_cons rfl (run_part_cell Tryd.underlying9 rfl rfl w) (run_part_cell Tryd.underlying9 rfl rfl w) (eq_str_of w)
    (eqF_cons rfl (run_part_cell Tryd.underlying9 rfl rfl w) (run_part_cell Tryd.underlying9 rfl rfl w) (eq_str_of w)
    (eqF_cons rfl (run_part_cell Tryd.underlying9 rfl rfl w) (run_part_cell Tryd.underlying9 rfl rfl w) (eq_str_of w)
    (eqF_cons rfl (run_part_cell Tryd.underlying9 rfl rfl w) (run_part_cell Tryd.underlying9 rfl rfl w) (eq_str_of w)
    (eqF_cons rfl (run_part_cell Tryd.underlying32 rfl rfl w) (run_part_cell Tryd.underlying32 rfl rfl w) (eq_int_of Tryd.underlying32 w) eqF_nil)))))) ?_
  congr 1
  rw [Bool.eq_iff_iff, hb, ← op_ext]
  simp only [Bool.and_eq_true, beq_iff_eq, decide_eq_true_eq, and_true, Int.ofNat_inj, UInt8.toNat_inj]
theorem eq_item_of {d : Nat} (p q : It) {b : Bool} (hb : b = true ↔ p = q) (w : World) : (Op.equalIn (d + 2) 81 (.agg #[.string p.1, .string p.2]) (.agg #[.string q.1, .string q.2])).run Tryd.prog w = .ok b w := by
  rw [run_equalIn_struct w (d + 1) 81 _ _ (struct_of Tryd.underlying81) (by kernel_rfl), fields_of Tryd.underlying81]
  refine Eq.trans (eqF_cons rfl (run_part_cell Tryd.underlying9 rfl rfl w) (run_part_cell Tryd.underlying9 rfl rfl w) (eq_str_of w)
    (eqF_cons rfl (run_part_cell Tryd.underlying9 rfl rfl w) (run_part_cell Tryd.underlying9 rfl rfl w) (eq_str_of w) eqF_nil)) ?_
  congr 1
  rw [Bool.eq_iff_iff, hb]
  simp only [Bool.and_eq_true, decide_eq_true_eq, and_true, Prod.ext_iff]
def repC (p : Rep) : List Value := [.int .i64 (p.1 : Int), .string p.2]
theorem eq_rep_of {d : Nat} (p q : Rep) {b : Bool} (hb : b = true ↔ p = q) (w : World) : (Op.equalIn (d + 2) 29 (.agg (repC p).toArray) (.agg (repC q).toArray)).run Tryd.prog w = .ok b w := by
  rw [run_equalIn_struct w (d + 1) 29 _ _ (struct_of Tryd.underlying29) (by kernel_rfl), fields_of Tryd.underlying29]
  refine Eq.trans (eqF_cons rfl (run_part_cell Tryd.underlying27 rfl rfl w) (run_part_cell Tryd.underlying27 rfl rfl w) (eq_int_of Tryd.underlying27 w)
    (eqF_cons rfl (run_part_cell Tryd.underlying9 rfl rfl w) (run_part_cell Tryd.underlying9 rfl rfl w) (eq_str_of w) eqF_nil)) ?_
  congr 1
  rw [Bool.eq_iff_iff, hb]
  simp only [Bool.and_eq_true, beq_iff_eq, decide_eq_true_eq, and_true, Int.ofNat_inj, Prod.ext_iff]
theorem Tryd.guard34 : Tryd.prog.eqGuardType Tryd.prog.depth 34 = false := by kernel_rfl
theorem Tryd.guard81 : Tryd.prog.eqGuardType Tryd.prog.depth 81 = false := by kernel_rfl
theorem Tryd.guard29 : Tryd.prog.eqGuardType Tryd.prog.depth 29 = false := by kernel_rfl

theorem ownOp_any (o : MOp) (w : World) : Calls Tryd.prog 46 #[.agg (opC o).toArray] w fun E w' => OwnP w (ownOp o).1 (ownOp o).2 E w' := by
  obtain ⟨kk, key, value, old, to, am⟩ := o
  have hi : ∀ n : UInt8, (kk.toNat : Int) = (n.toNat : Int) ↔ kk = n := fun n => ⟨fun h => UInt8.toNat_inj.1 (by omega), fun h => by rw [h]⟩
  have h1 := hi 1
  have h2 := hi 2
  have h3 := hi 3
  have h4 := hi 4
  have h5 := hi 5
  have d1 : ¬ ((1 : UInt8) = 3) := by decide
  unfold ownOp
  dsimp only
  split
  · rename_i h
    rcases h with rfl | rfl
    · exact own_1 1 key value old to am w rfl
    · exact own_3 3 key value old to am w rfl
  · rename_i n13
    split
    · rename_i h
      subst h
      exact own_2 2 key value old to am w rfl
    · split
      · rename_i h
        subst h
        exact own_4 4 key value old to am w rfl
      · split
        · rename_i h
          subst h
          exact own_5 5 key value old to am w rfl
        · rename_i n2 n4 n5
          exact own_no kk key value old to am w ⟨fun h => n13 (.inl (h1.1 h)), fun h => n2 (h2.1 h), fun h => n13 (.inr (h3.1 h)), fun h => n4 (h4.1 h), fun h => n5 (h5.1 h)⟩
theorem ownOp_kind (o : MOp) : (ownOp o).1.kind = o.kind ∧ (ownOp o).1.key = o.key := by
  unfold ownOp
  dsimp only
  repeat' split
  all_goals exact ⟨rfl, rfl⟩
theorem ownOp_eq (o : MOp) : o = (ownOp o).1 ↔ ((ownOp o).1.value = o.value ∧ (ownOp o).1.old = o.old ∧ (ownOp o).1.to = o.to ∧ (ownOp o).1.amount = o.amount) := by
  obtain ⟨h1, h2⟩ := ownOp_kind o
  rw [← op_ext]
  constructor
  · rintro ⟨_, _, a, b, c, d⟩
    exact ⟨a.symm, b.symm, c.symm, d.symm⟩
  · rintro ⟨a, b, c, d⟩
    exact ⟨h1.symm, h2.symm, a.symm, b.symm, c.symm, d.symm⟩
set_option maxHeartbeats 2000000 in
theorem may_any (o : MOp) (w : World) : Calls Tryd.prog 40 #[.agg (opC o).toArray] w fun E w' => E = .returned (.bool (mayOp o)) ∧ Below w.heap.size w w' := by
  have HO := Lib.hid (fun W => ownOp_any o W)
  have HK := Lib.hid (fun W => mayK_any o.key W)
  obtain ⟨b, hb⟩ : ∃ b, b = decide ((ownOp o).1.value = o.value ∧ (ownOp o).1.old = o.old ∧ (ownOp o).1.to = o.to ∧ (ownOp o).1.amount = o.amount) := ⟨_, rfl⟩
  have HM : Hid (mayOp o = ((ownOp o).2 && (mayK o.key && b))) := Lib.hid (by rw [hb]; rfl)
  have e41 : ∀ w, (Op.equalIn 10000 34 (.agg (opC o).toArray) (.agg (opC (ownOp o).1).toArray)).run Tryd.prog w = .ok b w := fun w => eq_op_of (d := 9998) o (ownOp o).1 (by rw [hb, decide_eq_true_eq, ownOp_eq]) w
  rw [HM.out]
  clear hb HM
  have g41 := Tryd.guard34
  obtain ⟨x, hx⟩ : ∃ x, x = (ownOp o).1 := ⟨_, rfl⟩
  obtain ⟨y, hy⟩ : ∃ y, y = (ownOp o).2 := ⟨_, rfl⟩
  obtain ⟨z, hz⟩ : ∃ z, z = mayK o.key := ⟨_, rfl⟩
  rw [← hx] at e41 HO
  rw [← hy] at HO ⊢
  rw [← hz] at HK ⊢
  clear hx hy hz
  obtain ⟨kk, key, value, old, to, am⟩ := o
  obtain ⟨kk', key', value', old', to', am'⟩ := x
  dsimp only [opC] at e41 HK ⊢
  obtain ⟨K, hK⟩ : ∃ K : Int, K = kk.toNat := ⟨_, rfl⟩
  obtain ⟨K', hK'⟩ : ∃ K : Int, K = kk'.toNat := ⟨_, rfl⟩
  have HO' : Hid (∀ W, Calls Tryd.prog 46 #[.agg #[.int .u8 K, .string key, .string value, .string old, .string to, .int .u64 (am : Int)]] W fun E w' => E = .returned (.tuple #[.agg #[.int .u8 K', .string key', .string value', .string old', .string to', .int .u64 (am' : Int)], .bool y]) ∧ Below W.heap.size W w') := Lib.hid (by rw [hK, hK']; exact HO.out)
  rw [← hK, ← hK'] at e41
  rw [← hK]
  clear HO hK hK'
  have hB0 : Below w.heap.size w (w.alloc (.cells #[.int .u8 K, .string key, .string value, .string old, .string to, .int .u64 (am : Int)] 34)) := (Below.refl _ _).alloc (Nat.le_refl _) _
  have HB0 := Lib.hid hB0
  have HC : Hid ((w.alloc (.cells #[.int .u8 K, .string key, .string value, .string old, .string to, .int .u64 (am : Int)] 34)).heap[w.heap.size]? = some (.cells [.int .u8 K, .string key, .string value, .string old, .string to, .int .u64 (am : Int)].toArray 34 (0, 0))) := Lib.hid (heap_alloc_new w _)
  have HZ : Hid (w.heap.size < (w.alloc (.cells #[.int .u8 K, .string key, .string value, .string old, .string to, .int .u64 (am : Int)] 34)).heap.size) := Lib.hid (by simp)
  clear hB0
  go_enter Tryd.func40, Tryd.ntmps40
  go_wp2_with (go_at_call 46; refine (HO'.out _).mono ?_)
  rintro E w1 ⟨rfl, b1⟩
  have HL : Hid (w1.heap[w.heap.size]? = some (.cells [.int .u8 K, .string key, .string value, .string old, .string to, .int .u64 (am : Int)].toArray 34 (0, 0))) := Lib.hid ((b1.block _ HZ.out).trans HC.out)
  have HB1 := Lib.hid (HB0.out.trans (b1.mono HB0.out.size))
  have c1 : w1.cell? ⟨w.heap.size, 0, none⟩ = some (.int .u8 K) := block_cell HL.out 0 _ rfl
  have c2 : w1.cell? ⟨w.heap.size, 1, none⟩ = some (.string key) := block_cell HL.out 1 _ rfl
  have c3 : w1.cell? ⟨w.heap.size, 2, none⟩ = some (.string value) := block_cell HL.out 2 _ rfl
  have c4 : w1.cell? ⟨w.heap.size, 3, none⟩ = some (.string old) := block_cell HL.out 3 _ rfl
  have c5 : w1.cell? ⟨w.heap.size, 4, none⟩ = some (.string to) := block_cell HL.out 4 _ rfl
  have c6 : w1.cell? ⟨w.heap.size, 5, none⟩ = some (.int .u64 (am : Int)) := block_cell HL.out 5 _ rfl
  have hlt : w.heap.size < w1.heap.size := Nat.lt_of_lt_of_le HZ.out b1.size
  have hne : ¬ (w.heap.size = w1.heap.size) := by omega
  have HB2 : ∀ o, Hid (Below w.heap.size w (w1.alloc o)) := fun o => Lib.hid (HB1.out.alloc HB1.out.size _)
  clear b1 HB0 HC HZ HL HB1
  cases y with
  | false =>
    go_wp2_with fail
    go_ret
    exact ⟨rfl, (HB2 _).out⟩
  | true =>
    cases z with
    | false =>
      go_wp2_with (go_at_call 44; refine (HK.out _).mono ?_; rintro E w2 ⟨rfl, rfl⟩)
      go_ret
      exact ⟨rfl, (HB2 _).out⟩
    | true =>
      go_wp2_with (go_at_call 44; refine (HK.out _).mono ?_; rintro E w2 ⟨rfl, rfl⟩)
      go_ret
      exact ⟨rfl, (HB2 _).out⟩
end Go.Proofs.YtpageppjngbnpaaDoor
