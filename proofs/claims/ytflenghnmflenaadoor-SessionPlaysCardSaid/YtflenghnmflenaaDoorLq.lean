/-
  What is proved: an operation is done. Conditions as stated.
-/
import Derived.Test.YtflenghnmflenaaDoorLp
import Derived.Laws.EntriesVeiled
namespace Go.Proofs.YtflenghnmflenaaDoor
open Go.RowKit
set_option maxRecDepth 100000

def dF : List Value := [.nilFunc, .func (.func 43) #[] #[], .func (.func 44) #[] #[], .func (.func 45) #[] #[], .func (.func 46) #[] #[], .func (.func 47) #[] #[]]
theorem Tryd.is87 : (Tryd.prog.info? 87).map (·.size) = some 6 := by kernel_rfl
theorem doers_any (w : World) : Calls Tryd.prog 34 #[] w fun E w' => E = .returned (.agg #[.nilFunc, .func (.func 43) #[] #[], .func (.func 44) #[] #[], .func (.func 45) #[] #[], .func (.func 46) #[] #[], .func (.func 47) #[] #[]]) ∧ Below w.heap.size w w' := by
  have HR : Hid ((w.alloc (.cells dF.toArray 87)).heap[w.heap.size]? = some (.cells dF.toArray 87 (0, 0))) := Lib.hid (heap_alloc_new w _)
  have HB : Hid (Below w.heap.size w (w.alloc (.cells dF.toArray 87))) := Lib.hid ((Below.refl _ _).alloc (Nat.le_refl _) _)
  go_enter Tryd.func34, Tryd.ntmps34
  go_wp2_with fail
  (try simp only [Exit.inBlock, Exit.then]); refine bodyPost_ret (ret_range (g := w.heap.size) rfl rfl (range_all HR.out) Tryd.underlying87 rfl Tryd.is87) rfl ?_
  exact ⟨rfl, HB.out⟩
theorem index_1 (W : World) : (Instr.index 87 (.agg #[.nilFunc, .func (.func 43) #[] #[], .func (.func 44) #[] #[], .func (.func 45) #[] #[], .func (.func 46) #[] #[], .func (.func 47) #[] #[]]) (.int .u8 1)).run Tryd.prog W = .ok (.func (.func 43) #[] #[]) W := by
  simp [Instr.index, part, asIntOf, run_underlying Tryd.underlying87, Tryd.sizeOf86, Tryd.isAgg86]
theorem index_2 (W : World) : (Instr.index 87 (.agg #[.nilFunc, .func (.func 43) #[] #[], .func (.func 44) #[] #[], .func (.func 45) #[] #[], .func (.func 46) #[] #[], .func (.func 47) #[] #[]]) (.int .u8 2)).run Tryd.prog W = .ok (.func (.func 44) #[] #[]) W := by
  simp [Instr.index, part, asIntOf, run_underlying Tryd.underlying87, Tryd.sizeOf86, Tryd.isAgg86]
theorem index_3 (W : World) : (Instr.index 87 (.agg #[.nilFunc, .func (.func 43) #[] #[], .func (.func 44) #[] #[], .func (.func 45) #[] #[], .func (.func 46) #[] #[], .func (.func 47) #[] #[]]) (.int .u8 3)).run Tryd.prog W = .ok (.func (.func 45) #[] #[]) W := by
  simp [Instr.index, part, asIntOf, run_underlying Tryd.underlying87, Tryd.sizeOf86, Tryd.isAgg86]
theorem index_4 (W : World) : (Instr.index 87 (.agg #[.nilFunc, .func (.func 43) #[] #[], .func (.func 44) #[] #[], .func (.func 45) #[] #[], .func (.func 46) #[] #[], .func (.func 47) #[] #[]]) (.int .u8 4)).run Tryd.prog W = .ok (.func (.func 46) #[] #[]) W := by
  simp [Instr.index, part, asIntOf, run_underlying Tryd.underlying87, Tryd.sizeOf86, Tryd.isAgg86]
theorem index_5 (W : World) : (Instr.index 87 (.agg #[.nilFunc, .func (.func 43) #[] #[], .func (.func 44) #[] #[], .func (.func 45) #[] #[], .func (.func 46) #[] #[], .func (.func 47) #[] #[]]) (.int .u8 5)).run Tryd.prog W = .ok (.func (.func 47) #[] #[]) W := by
  simp [Instr.index, part, asIntOf, run_underlying Tryd.underlying87, Tryd.sizeOf86, Tryd.isAgg86]
/-- DO -/
theorem wpList_load_midG {P : Program} {ops : Array Oper} {rest : List Oper} {op : Oper} {a : Act} {w : World} {Q : Exit → Act → World → Prop} (hw : Region.wanted op (yielded ops a.tmps) = true) (ty : TypeId) (x : Operand) (ho : op.op = .load ty x)
    (b o : Nat) (hx : a.eval x = .pointer (some ⟨b, o, none⟩)) (cs : List Value) (d : TypeDesc) (hc : w.rangeAt b o cs)
    (hu : P.underlying ty = some d) (hd : d.isRow = true) (hi : (P.info? ty).map (·.size) = some cs.length)
    (h : wpList P ops Q rest (a.put op.dst (.agg cs.toArray)) w) : wpList P ops Q (op :: rest) a w :=
  wpList_step fun K hK => by
    rw [if_pos hw]
    exact wp_load_mid ty x ho b o hx cs d hc hu hd hi (hK _ _ h)
set_option maxHeartbeats 4000000 in
theorem do_1 {w : World} {g : Nat} {r : Option Nat} {c : Nat} {xs : List It} (h : Led w g r c xs) (o : MOp) (hk : (o.kind.toNat : Int) = 1) (hm : mayOp o = true) (q : Rep × List It) (hc : ∀ W, At w g r o W r c xs → Calls Tryd.prog 43 #[.pointer (some ⟨g, 0, none⟩), .agg (opC o).toArray] W fun E w' => OpP W g r q E w') :
    Calls Tryd.prog 26 #[.pointer (some ⟨g, 0, none⟩), .agg (opC o).toArray] w fun E w' => OpP w g r q E w' := by
  have H0 := Lib.hid (At.start h o)
  have HC := Lib.hid hc
  have HK : Hid ((opC o)[0]? = some (.int .u8 1)) := Lib.hid (by rw [← hk]; rfl)
  have HM : Hid (∀ W, Calls Tryd.prog 33 #[.agg (opC o).toArray] W fun E w' => E = .returned (.bool true) ∧ Below W.heap.size W w') := Lib.hid fun W => (may_any o W).mono fun E w' h => by rw [hm] at h; exact h
  have HI : Hid ((Tryd.prog.info? 49).map (·.size) = some (opC o).length) := Lib.hid Tryd.is49
  have hg0 : ∀ W : World, W.heap.size = W.heap.size := fun _ => rfl
  clear hc hm h hg0
  go_enter Tryd.func26, Tryd.ntmps26
  go_wp2_with (first
    | ((with_reducible refine wpList_load_midG ?_ 49 (.tmp 3) ?_ w.heap.size 0 ?_ (opC o) _ ?_ Tryd.underlying49 ?_ ?_ ?_); rotate_left; (· rfl); (· rfl); (· exact range_all H0.out.op); (· rfl); (· exact HI.out); rotate_left; (· rfl))
    | (go_at_call 33; refine (HM.out _).mono ?_; rintro E w1 ⟨rfl, b1⟩))
  have HS := Lib.hid (H0.out.below b1)
  clear H0 b1
  refine wp_region_any (by kernel_rfl) ?_
  refine held_gen (G := fun W => wpAny _ _ _ _ _ _ _ W) (fun W => At w g r o W r c xs) (At.drew HS.out) (fun W HW0 => ?_)
  have HW := Lib.hid HW0
  clear HW0
  refine wpAny_of_held (S := fun W => W.heap[w.heap.size]? = some (.cells (opC o).toArray 49 (0, 0))) _ _ _ _ ?_
  refine wpAnyH_take (i := 1) (oi := { dst := some 15, op := Op.fieldAddr 49 (Operand.tmp 3) 0, type := 0, pos := "ledger.go:46", after := #[], guard := none }) (v := .pointer (some ⟨w.heap.size, 0, none⟩)) rfl (by kernel_rfl) (by kernel_rfl) (by kernel_rfl) (fun _ _ _ h => h) (Or.inl ⟨by kernel_rfl, fun W hSW => by go_simp⟩) (HW.out.op) ?_
  try simp only [Act.put, List.setIfInBounds_toArray, List.set_cons_zero, List.set_cons_succ]
  refine wpAnyH_take (i := 2) (oi := { dst := some 16, op := Op.load 5 (Operand.tmp 15), type := 5, pos := "ledger.go:46", after := #[{ on := 1, ground := Ground.data }], guard := none }) (v := .int .u8 1) rfl (by kernel_rfl) (by kernel_rfl) (by kernel_rfl) (fun _ _ _ h => h) (Or.inl ⟨by kernel_rfl, fun W hSW => by have hc := block_cell hSW 0 _ HK.out; go_simp⟩) (HW.out.op) ?_
  try simp only [Act.put, List.setIfInBounds_toArray, List.set_cons_zero, List.set_cons_succ]
  refine wpAnyH_take (i := 4) (oi := { dst := some 18, op := Op.move (Operand.tmp 0), type := 40, pos := "ledger.go:46", after := #[], guard := none }) (v := .pointer (some ⟨g, 0, none⟩)) rfl (by kernel_rfl) (by kernel_rfl) (by kernel_rfl) (fun _ _ _ h => h) (Or.inl ⟨by kernel_rfl, fun W hSW => by go_simp⟩) (HW.out.op) ?_
  try simp only [Act.put, List.setIfInBounds_toArray, List.set_cons_zero, List.set_cons_succ]
  refine wpAnyH_take (i := 5) (oi := { dst := some 19, op := Op.load 49 (Operand.tmp 3), type := 49, pos := "ledger.go:46", after := #[], guard := none }) (v := .agg (opC o).toArray) rfl (by kernel_rfl) (by kernel_rfl) (by kernel_rfl) (fun _ _ _ h => h) (Or.inl ⟨by kernel_rfl, fun W hSW => exec_load_mid 49 (.tmp 3) rfl w.heap.size 0 rfl (opC o) _ (range_all hSW) Tryd.underlying49 rfl Tryd.is49⟩) (HW.out.op) ?_
  try simp only [Act.put, List.setIfInBounds_toArray, List.set_cons_zero, List.set_cons_succ]
  refine wpAnyH_ready (rs := [0]) (by kernel_rfl) (by simp) ?_
  refine AllReadyH.cons (o := { dst := some 14, op := Op.call { callee := Callee.value (Operand.func 34), args := #[], argTypes := #[] }, type := 87, pos := "ledger.go:46", after := #[], guard := none }) rfl (fun K' hK' => ?_) AllReadyH.nil
  go_simp
  go_at_call 34
  refine (doers_any _).mono ?_
  rintro E w4 ⟨rfl, b4⟩
  have H4 := Lib.hid (HW.out.below b4)
  clear b4
  refine hK'.out _ _ H4.out.op (fun _ => ?_)
  clear hK' K'
  try simp only [Act.put, List.setIfInBounds_toArray, List.set_cons_zero, List.set_cons_succ]
  refine wpAnyH_take (i := 3) (oi := { dst := some 17, op := Op.index 87 (Operand.tmp 14) (Operand.tmp 16), type := 86, pos := "ledger.go:46", after := #[{ on := 0, ground := Ground.data }, { on := 2, ground := Ground.data }], guard := none }) (v := .func (.func 43) #[] #[]) rfl (by kernel_rfl) (by kernel_rfl) (by kernel_rfl) (fun _ _ _ h => h) (Or.inl ⟨by kernel_rfl, fun W hSW => by have hi := index_1 W; go_simp⟩) (H4.out.op) ?_
  try simp only [Act.put, List.setIfInBounds_toArray, List.set_cons_zero, List.set_cons_succ]
  refine wpAnyH_ready (rs := [6]) (by kernel_rfl) (by simp) ?_
  refine AllReadyH.cons (o := { dst := some 20, op := Op.call { callee := Callee.value (Operand.tmp 17), args := #[Operand.tmp 18, Operand.tmp 19], argTypes := #[40, 49] }, type := 32, pos := "ledger.go:46", after := #[{ on := 3, ground := Ground.data }, { on := 4, ground := Ground.data }, { on := 5, ground := Ground.data }, { on := 0, ground := Ground.chain }], guard := none }) rfl (fun K' hK' => ?_) AllReadyH.nil
  go_simp
  go_at_call 43
  refine (HC.out _ H4.out).mono ?_
  rintro E w5 ⟨rfl, r5, c5, l5, q5⟩
  have H5 := Lib.hid (H4.out.next l5 q5)
  clear l5 q5
  refine hK'.out _ _ H5.out.op (fun _ => ?_)
  clear hK' K'
  try simp only [Act.put, List.setIfInBounds_toArray, List.set_cons_zero, List.set_cons_succ]
  refine wpAnyH_ready (rs := [7]) (by kernel_rfl) (by simp) ?_
  refine AllReadyH.cons (o := { dst := none, op := Op.store 32 (Operand.tmp 4) (Operand.tmp 20), type := 0, pos := "ledger.go:46", after := #[{ on := 6, ground := Ground.data }, { on := 6, ground := Ground.chain }, { on := 0, ground := Ground.phase }, { on := 1, ground := Ground.phase }, { on := 2, ground := Ground.phase }, { on := 3, ground := Ground.phase }, { on := 4, ground := Ground.phase }, { on := 5, ground := Ground.phase }, { on := 6, ground := Ground.phase }], guard := none }) rfl (fun K' hK' => ?_) AllReadyH.nil
  rw [if_pos (by kernel_rfl)]
  refine wp_store_mid 32 (.tmp 4) (.tmp 20) rfl (w.heap.size + 1) 0 (repC q.1).toArray rfl rfl (there_block H5.out.res 0 2 (by simp)) Tryd.is32 (by simp [repC, Value.oneCell']) ?_
  refine hK'.out _ _ (((Turns.setCells (S := (· = w.heap.size + 1)) (.inl rfl) _ _ _ (Turns.refl _ _)).block _ (by have := H5.out.lt; omega) (by omega)).trans H5.out.op) (fun _ => ?_)
  clear hK' K'
  try simp only [Act.put]
  refine wpAnyH_done (by kernel_rfl) ?_ _
  go_wp2_with fail
  (try simp only [Exit.inBlock, Exit.then]); refine bodyPost_ret (ret_range (g := w.heap.size + 1) (cs := repC q.1) rfl rfl (range_all (H5.out.fin _ _).1) Tryd.underlying32 rfl Tryd.is32) rfl ?_
  exact ⟨rfl, (H5.out.fin _ _).2⟩
set_option maxHeartbeats 4000000 in
theorem do_2 {w : World} {g : Nat} {r : Option Nat} {c : Nat} {xs : List It} (h : Led w g r c xs) (o : MOp) (hk : (o.kind.toNat : Int) = 2) (hm : mayOp o = true) (q : Rep × List It) (hc : ∀ W, At w g r o W r c xs → Calls Tryd.prog 44 #[.pointer (some ⟨g, 0, none⟩), .agg (opC o).toArray] W fun E w' => OpP W g r q E w') :
    Calls Tryd.prog 26 #[.pointer (some ⟨g, 0, none⟩), .agg (opC o).toArray] w fun E w' => OpP w g r q E w' := by
  have H0 := Lib.hid (At.start h o)
  have HC := Lib.hid hc
  have HK : Hid ((opC o)[0]? = some (.int .u8 2)) := Lib.hid (by rw [← hk]; rfl)
  have HM : Hid (∀ W, Calls Tryd.prog 33 #[.agg (opC o).toArray] W fun E w' => E = .returned (.bool true) ∧ Below W.heap.size W w') := Lib.hid fun W => (may_any o W).mono fun E w' h => by rw [hm] at h; exact h
  have HI : Hid ((Tryd.prog.info? 49).map (·.size) = some (opC o).length) := Lib.hid Tryd.is49
  have hg0 : ∀ W : World, W.heap.size = W.heap.size := fun _ => rfl
  clear hc hm h hg0
  go_enter Tryd.func26, Tryd.ntmps26
  go_wp2_with (first
    | ((with_reducible refine wpList_load_midG ?_ 49 (.tmp 3) ?_ w.heap.size 0 ?_ (opC o) _ ?_ Tryd.underlying49 ?_ ?_ ?_); rotate_left; (· rfl); (· rfl); (· exact range_all H0.out.op); (· rfl); (· exact HI.out); rotate_left; (· rfl))
    | (go_at_call 33; refine (HM.out _).mono ?_; rintro E w1 ⟨rfl, b1⟩))
  have HS := Lib.hid (H0.out.below b1)
  clear H0 b1
  refine wp_region_any (by kernel_rfl) ?_
  refine held_gen (G := fun W => wpAny _ _ _ _ _ _ _ W) (fun W => At w g r o W r c xs) (At.drew HS.out) (fun W HW0 => ?_)
  have HW := Lib.hid HW0
  clear HW0
  refine wpAny_of_held (S := fun W => W.heap[w.heap.size]? = some (.cells (opC o).toArray 49 (0, 0))) _ _ _ _ ?_
  refine wpAnyH_take (i := 1) (oi := { dst := some 15, op := Op.fieldAddr 49 (Operand.tmp 3) 0, type := 0, pos := "ledger.go:46", after := #[], guard := none }) (v := .pointer (some ⟨w.heap.size, 0, none⟩)) rfl (by kernel_rfl) (by kernel_rfl) (by kernel_rfl) (fun _ _ _ h => h) (Or.inl ⟨by kernel_rfl, fun W hSW => by go_simp⟩) (HW.out.op) ?_
  try simp only [Act.put, List.setIfInBounds_toArray, List.set_cons_zero, List.set_cons_succ]
  refine wpAnyH_take (i := 2) (oi := { dst := some 16, op := Op.load 5 (Operand.tmp 15), type := 5, pos := "ledger.go:46", after := #[{ on := 1, ground := Ground.data }], guard := none }) (v := .int .u8 2) rfl (by kernel_rfl) (by kernel_rfl) (by kernel_rfl) (fun _ _ _ h => h) (Or.inl ⟨by kernel_rfl, fun W hSW => by have hc := block_cell hSW 0 _ HK.out; go_simp⟩) (HW.out.op) ?_
  try simp only [Act.put, List.setIfInBounds_toArray, List.set_cons_zero, List.set_cons_succ]
  refine wpAnyH_take (i := 4) (oi := { dst := some 18, op := Op.move (Operand.tmp 0), type := 40, pos := "ledger.go:46", after := #[], guard := none }) (v := .pointer (some ⟨g, 0, none⟩)) rfl (by kernel_rfl) (by kernel_rfl) (by kernel_rfl) (fun _ _ _ h => h) (Or.inl ⟨by kernel_rfl, fun W hSW => by go_simp⟩) (HW.out.op) ?_
  try simp only [Act.put, List.setIfInBounds_toArray, List.set_cons_zero, List.set_cons_succ]
  refine wpAnyH_take (i := 5) (oi := { dst := some 19, op := Op.load 49 (Operand.tmp 3), type := 49, pos := "ledger.go:46", after := #[], guard := none }) (v := .agg (opC o).toArray) rfl (by kernel_rfl) (by kernel_rfl) (by kernel_rfl) (fun _ _ _ h => h) (Or.inl ⟨by kernel_rfl, fun W hSW => exec_load_mid 49 (.tmp 3) rfl w.heap.size 0 rfl (opC o) _ (range_all hSW) Tryd.underlying49 rfl Tryd.is49⟩) (HW.out.op) ?_
  try simp only [Act.put, List.setIfInBounds_toArray, List.set_cons_zero, List.set_cons_succ]
  refine wpAnyH_ready (rs := [0]) (by kernel_rfl) (by simp) ?_
  refine AllReadyH.cons (o := { dst := some 14, op := Op.call { callee := Callee.value (Operand.func 34), args := #[], argTypes := #[] }, type := 87, pos := "ledger.go:46", after := #[], guard := none }) rfl (fun K' hK' => ?_) AllReadyH.nil
  go_simp
  go_at_call 34
  refine (doers_any _).mono ?_
  rintro E w4 ⟨rfl, b4⟩
  have H4 := Lib.hid (HW.out.below b4)
  clear b4
  refine hK'.out _ _ H4.out.op (fun _ => ?_)
  clear hK' K'
  try simp only [Act.put, List.setIfInBounds_toArray, List.set_cons_zero, List.set_cons_succ]
  refine wpAnyH_take (i := 3) (oi := { dst := some 17, op := Op.index 87 (Operand.tmp 14) (Operand.tmp 16), type := 86, pos := "ledger.go:46", after := #[{ on := 0, ground := Ground.data }, { on := 2, ground := Ground.data }], guard := none }) (v := .func (.func 44) #[] #[]) rfl (by kernel_rfl) (by kernel_rfl) (by kernel_rfl) (fun _ _ _ h => h) (Or.inl ⟨by kernel_rfl, fun W hSW => by have hi := index_2 W; go_simp⟩) (H4.out.op) ?_
  try simp only [Act.put, List.setIfInBounds_toArray, List.set_cons_zero, List.set_cons_succ]
  refine wpAnyH_ready (rs := [6]) (by kernel_rfl) (by simp) ?_
  refine AllReadyH.cons (o := { dst := some 20, op := Op.call { callee := Callee.value (Operand.tmp 17), args := #[Operand.tmp 18, Operand.tmp 19], argTypes := #[40, 49] }, type := 32, pos := "ledger.go:46", after := #[{ on := 3, ground := Ground.data }, { on := 4, ground := Ground.data }, { on := 5, ground := Ground.data }, { on := 0, ground := Ground.chain }], guard := none }) rfl (fun K' hK' => ?_) AllReadyH.nil
  go_simp
  go_at_call 44
  refine (HC.out _ H4.out).mono ?_
  rintro E w5 ⟨rfl, r5, c5, l5, q5⟩
  have H5 := Lib.hid (H4.out.next l5 q5)
  clear l5 q5
  refine hK'.out _ _ H5.out.op (fun _ => ?_)
  clear hK' K'
  try simp only [Act.put, List.setIfInBounds_toArray, List.set_cons_zero, List.set_cons_succ]
  refine wpAnyH_ready (rs := [7]) (by kernel_rfl) (by simp) ?_
  refine AllReadyH.cons (o := { dst := none, op := Op.store 32 (Operand.tmp 4) (Operand.tmp 20), type := 0, pos := "ledger.go:46", after := #[{ on := 6, ground := Ground.data }, { on := 6, ground := Ground.chain }, { on := 0, ground := Ground.phase }, { on := 1, ground := Ground.phase }, { on := 2, ground := Ground.phase }, { on := 3, ground := Ground.phase }, { on := 4, ground := Ground.phase }, { on := 5, ground := Ground.phase }, { on := 6, ground := Ground.phase }], guard := none }) rfl (fun K' hK' => ?_) AllReadyH.nil
  rw [if_pos (by kernel_rfl)]
  refine wp_store_mid 32 (.tmp 4) (.tmp 20) rfl (w.heap.size + 1) 0 (repC q.1).toArray rfl rfl (there_block H5.out.res 0 2 (by simp)) Tryd.is32 (by simp [repC, Value.oneCell']) ?_
  refine hK'.out _ _ (((Turns.setCells (S := (· = w.heap.size + 1)) (.inl rfl) _ _ _ (Turns.refl _ _)).block _ (by have := H5.out.lt; omega) (by omega)).trans H5.out.op) (fun _ => ?_)
  clear hK' K'
  try simp only [Act.put]
  refine wpAnyH_done (by kernel_rfl) ?_ _
  go_wp2_with fail
  (try simp only [Exit.inBlock, Exit.then]); refine bodyPost_ret (ret_range (g := w.heap.size + 1) (cs := repC q.1) rfl rfl (range_all (H5.out.fin _ _).1) Tryd.underlying32 rfl Tryd.is32) rfl ?_
  exact ⟨rfl, (H5.out.fin _ _).2⟩
set_option maxHeartbeats 4000000 in
theorem do_3 {w : World} {g : Nat} {r : Option Nat} {c : Nat} {xs : List It} (h : Led w g r c xs) (o : MOp) (hk : (o.kind.toNat : Int) = 3) (hm : mayOp o = true) (q : Rep × List It) (hc : ∀ W, At w g r o W r c xs → Calls Tryd.prog 45 #[.pointer (some ⟨g, 0, none⟩), .agg (opC o).toArray] W fun E w' => OpP W g r q E w') :
    Calls Tryd.prog 26 #[.pointer (some ⟨g, 0, none⟩), .agg (opC o).toArray] w fun E w' => OpP w g r q E w' := by
  have H0 := Lib.hid (At.start h o)
  have HC := Lib.hid hc
  have HK : Hid ((opC o)[0]? = some (.int .u8 3)) := Lib.hid (by rw [← hk]; rfl)
  have HM : Hid (∀ W, Calls Tryd.prog 33 #[.agg (opC o).toArray] W fun E w' => E = .returned (.bool true) ∧ Below W.heap.size W w') := Lib.hid fun W => (may_any o W).mono fun E w' h => by rw [hm] at h; exact h
  have HI : Hid ((Tryd.prog.info? 49).map (·.size) = some (opC o).length) := Lib.hid Tryd.is49
  have hg0 : ∀ W : World, W.heap.size = W.heap.size := fun _ => rfl
  clear hc hm h hg0
  go_enter Tryd.func26, Tryd.ntmps26
  go_wp2_with (first
    | ((with_reducible refine wpList_load_midG ?_ 49 (.tmp 3) ?_ w.heap.size 0 ?_ (opC o) _ ?_ Tryd.underlying49 ?_ ?_ ?_); rotate_left; (· rfl); (· rfl); (· exact range_all H0.out.op); (· rfl); (· exact HI.out); rotate_left; (· rfl))
    | (go_at_call 33; refine (HM.out _).mono ?_; rintro E w1 ⟨rfl, b1⟩))
  have HS := Lib.hid (H0.out.below b1)
  clear H0 b1
  refine wp_region_any (by kernel_rfl) ?_
  refine held_gen (G := fun W => wpAny _ _ _ _ _ _ _ W) (fun W => At w g r o W r c xs) (At.drew HS.out) (fun W HW0 => ?_)
  have HW := Lib.hid HW0
  clear HW0
  refine wpAny_of_held (S := fun W => W.heap[w.heap.size]? = some (.cells (opC o).toArray 49 (0, 0))) _ _ _ _ ?_
  refine wpAnyH_take (i := 1) (oi := { dst := some 15, op := Op.fieldAddr 49 (Operand.tmp 3) 0, type := 0, pos := "ledger.go:46", after := #[], guard := none }) (v := .pointer (some ⟨w.heap.size, 0, none⟩)) rfl (by kernel_rfl) (by kernel_rfl) (by kernel_rfl) (fun _ _ _ h => h) (Or.inl ⟨by kernel_rfl, fun W hSW => by go_simp⟩) (HW.out.op) ?_
  try simp only [Act.put, List.setIfInBounds_toArray, List.set_cons_zero, List.set_cons_succ]
  refine wpAnyH_take (i := 2) (oi := { dst := some 16, op := Op.load 5 (Operand.tmp 15), type := 5, pos := "ledger.go:46", after := #[{ on := 1, ground := Ground.data }], guard := none }) (v := .int .u8 3) rfl (by kernel_rfl) (by kernel_rfl) (by kernel_rfl) (fun _ _ _ h => h) (Or.inl ⟨by kernel_rfl, fun W hSW => by have hc := block_cell hSW 0 _ HK.out; go_simp⟩) (HW.out.op) ?_
  try simp only [Act.put, List.setIfInBounds_toArray, List.set_cons_zero, List.set_cons_succ]
  refine wpAnyH_take (i := 4) (oi := { dst := some 18, op := Op.move (Operand.tmp 0), type := 40, pos := "ledger.go:46", after := #[], guard := none }) (v := .pointer (some ⟨g, 0, none⟩)) rfl (by kernel_rfl) (by kernel_rfl) (by kernel_rfl) (fun _ _ _ h => h) (Or.inl ⟨by kernel_rfl, fun W hSW => by go_simp⟩) (HW.out.op) ?_
  try simp only [Act.put, List.setIfInBounds_toArray, List.set_cons_zero, List.set_cons_succ]
  refine wpAnyH_take (i := 5) (oi := { dst := some 19, op := Op.load 49 (Operand.tmp 3), type := 49, pos := "ledger.go:46", after := #[], guard := none }) (v := .agg (opC o).toArray) rfl (by kernel_rfl) (by kernel_rfl) (by kernel_rfl) (fun _ _ _ h => h) (Or.inl ⟨by kernel_rfl, fun W hSW => exec_load_mid 49 (.tmp 3) rfl w.heap.size 0 rfl (opC o) _ (range_all hSW) Tryd.underlying49 rfl Tryd.is49⟩) (HW.out.op) ?_
  try simp only [Act.put, List.setIfInBounds_toArray, List.set_cons_zero, List.set_cons_succ]
  refine wpAnyH_ready (rs := [0]) (by kernel_rfl) (by simp) ?_
  refine AllReadyH.cons (o := { dst := some 14, op := Op.call { callee := Callee.value (Operand.func 34), args := #[], argTypes := #[] }, type := 87, pos := "ledger.go:46", after := #[], guard := none }) rfl (fun K' hK' => ?_) AllReadyH.nil
  go_simp
  go_at_call 34
  refine (doers_any _).mono ?_
  rintro E w4 ⟨rfl, b4⟩
  have H4 := Lib.hid (HW.out.below b4)
  clear b4
  refine hK'.out _ _ H4.out.op (fun _ => ?_)
  clear hK' K'
  try simp only [Act.put, List.setIfInBounds_toArray, List.set_cons_zero, List.set_cons_succ]
  refine wpAnyH_take (i := 3) (oi := { dst := some 17, op := Op.index 87 (Operand.tmp 14) (Operand.tmp 16), type := 86, pos := "ledger.go:46", after := #[{ on := 0, ground := Ground.data }, { on := 2, ground := Ground.data }], guard := none }) (v := .func (.func 45) #[] #[]) rfl (by kernel_rfl) (by kernel_rfl) (by kernel_rfl) (fun _ _ _ h => h) (Or.inl ⟨by kernel_rfl, fun W hSW => by have hi := index_3 W; go_simp⟩) (H4.out.op) ?_
  try simp only [Act.put, List.setIfInBounds_toArray, List.set_cons_zero, List.set_cons_succ]
  refine wpAnyH_ready (rs := [6]) (by kernel_rfl) (by simp) ?_
  refine AllReadyH.cons (o := { dst := some 20, op := Op.call { callee := Callee.value (Operand.tmp 17), args := #[Operand.tmp 18, Operand.tmp 19], argTypes := #[40, 49] }, type := 32, pos := "ledger.go:46", after := #[{ on := 3, ground := Ground.data }, { on := 4, ground := Ground.data }, { on := 5, ground := Ground.data }, { on := 0, ground := Ground.chain }], guard := none }) rfl (fun K' hK' => ?_) AllReadyH.nil
  go_simp
  go_at_call 45
  refine (HC.out _ H4.out).mono ?_
  rintro E w5 ⟨rfl, r5, c5, l5, q5⟩
  have H5 := Lib.hid (H4.out.next l5 q5)
  clear l5 q5
  refine hK'.out _ _ H5.out.op (fun _ => ?_)
  clear hK' K'
  try simp only [Act.put, List.setIfInBounds_toArray, List.set_cons_zero, List.set_cons_succ]
  refine wpAnyH_ready (rs := [7]) (by kernel_rfl) (by simp) ?_
  refine AllReadyH.cons (o := { dst := none, op := Op.store 32 (Operand.tmp 4) (Operand.tmp 20), type := 0, pos := "ledger.go:46", after := #[{ on := 6, ground := Ground.data }, { on := 6, ground := Ground.chain }, { on := 0, ground := Ground.phase }, { on := 1, ground := Ground.phase }, { on := 2, ground := Ground.phase }, { on := 3, ground := Ground.phase }, { on := 4, ground := Ground.phase }, { on := 5, ground := Ground.phase }, { on := 6, ground := Ground.phase }], guard := none }) rfl (fun K' hK' => ?_) AllReadyH.nil
  rw [if_pos (by kernel_rfl)]
  refine wp_store_mid 32 (.tmp 4) (.tmp 20) rfl (w.heap.size + 1) 0 (repC q.1).toArray rfl rfl (there_block H5.out.res 0 2 (by simp)) Tryd.is32 (by simp [repC, Value.oneCell']) ?_
  refine hK'.out _ _ (((Turns.setCells (S := (· = w.heap.size + 1)) (.inl rfl) _ _ _ (Turns.refl _ _)).block _ (by have := H5.out.lt; omega) (by omega)).trans H5.out.op) (fun _ => ?_)
  clear hK' K'
  try simp only [Act.put]
  refine wpAnyH_done (by kernel_rfl) ?_ _
  go_wp2_with fail
  (try simp only [Exit.inBlock, Exit.then]); refine bodyPost_ret (ret_range (g := w.heap.size + 1) (cs := repC q.1) rfl rfl (range_all (H5.out.fin _ _).1) Tryd.underlying32 rfl Tryd.is32) rfl ?_
  exact ⟨rfl, (H5.out.fin _ _).2⟩
set_option maxHeartbeats 4000000 in
theorem do_4 {w : World} {g : Nat} {r : Option Nat} {c : Nat} {xs : List It} (h : Led w g r c xs) (o : MOp) (hk : (o.kind.toNat : Int) = 4) (hm : mayOp o = true) (q : Rep × List It) (hc : ∀ W, At w g r o W r c xs → Calls Tryd.prog 46 #[.pointer (some ⟨g, 0, none⟩), .agg (opC o).toArray] W fun E w' => OpP W g r q E w') :
    Calls Tryd.prog 26 #[.pointer (some ⟨g, 0, none⟩), .agg (opC o).toArray] w fun E w' => OpP w g r q E w' := by
  have H0 := Lib.hid (At.start h o)
  have HC := Lib.hid hc
  have HK : Hid ((opC o)[0]? = some (.int .u8 4)) := Lib.hid (by rw [← hk]; rfl)
  have HM : Hid (∀ W, Calls Tryd.prog 33 #[.agg (opC o).toArray] W fun E w' => E = .returned (.bool true) ∧ Below W.heap.size W w') := Lib.hid fun W => (may_any o W).mono fun E w' h => by rw [hm] at h; exact h
  have HI : Hid ((Tryd.prog.info? 49).map (·.size) = some (opC o).length) := Lib.hid Tryd.is49
  have hg0 : ∀ W : World, W.heap.size = W.heap.size := fun _ => rfl
  clear hc hm h hg0
  go_enter Tryd.func26, Tryd.ntmps26
  go_wp2_with (first
    | ((with_reducible refine wpList_load_midG ?_ 49 (.tmp 3) ?_ w.heap.size 0 ?_ (opC o) _ ?_ Tryd.underlying49 ?_ ?_ ?_); rotate_left; (· rfl); (· rfl); (· exact range_all H0.out.op); (· rfl); (· exact HI.out); rotate_left; (· rfl))
    | (go_at_call 33; refine (HM.out _).mono ?_; rintro E w1 ⟨rfl, b1⟩))
  have HS := Lib.hid (H0.out.below b1)
  clear H0 b1
  refine wp_region_any (by kernel_rfl) ?_
  refine held_gen (G := fun W => wpAny _ _ _ _ _ _ _ W) (fun W => At w g r o W r c xs) (At.drew HS.out) (fun W HW0 => ?_)
  have HW := Lib.hid HW0
  clear HW0
  refine wpAny_of_held (S := fun W => W.heap[w.heap.size]? = some (.cells (opC o).toArray 49 (0, 0))) _ _ _ _ ?_
  refine wpAnyH_take (i := 1) (oi := { dst := some 15, op := Op.fieldAddr 49 (Operand.tmp 3) 0, type := 0, pos := "ledger.go:46", after := #[], guard := none }) (v := .pointer (some ⟨w.heap.size, 0, none⟩)) rfl (by kernel_rfl) (by kernel_rfl) (by kernel_rfl) (fun _ _ _ h => h) (Or.inl ⟨by kernel_rfl, fun W hSW => by go_simp⟩) (HW.out.op) ?_
  try simp only [Act.put, List.setIfInBounds_toArray, List.set_cons_zero, List.set_cons_succ]
  refine wpAnyH_take (i := 2) (oi := { dst := some 16, op := Op.load 5 (Operand.tmp 15), type := 5, pos := "ledger.go:46", after := #[{ on := 1, ground := Ground.data }], guard := none }) (v := .int .u8 4) rfl (by kernel_rfl) (by kernel_rfl) (by kernel_rfl) (fun _ _ _ h => h) (Or.inl ⟨by kernel_rfl, fun W hSW => by have hc := block_cell hSW 0 _ HK.out; go_simp⟩) (HW.out.op) ?_
  try simp only [Act.put, List.setIfInBounds_toArray, List.set_cons_zero, List.set_cons_succ]
  refine wpAnyH_take (i := 4) (oi := { dst := some 18, op := Op.move (Operand.tmp 0), type := 40, pos := "ledger.go:46", after := #[], guard := none }) (v := .pointer (some ⟨g, 0, none⟩)) rfl (by kernel_rfl) (by kernel_rfl) (by kernel_rfl) (fun _ _ _ h => h) (Or.inl ⟨by kernel_rfl, fun W hSW => by go_simp⟩) (HW.out.op) ?_
  try simp only [Act.put, List.setIfInBounds_toArray, List.set_cons_zero, List.set_cons_succ]
  refine wpAnyH_take (i := 5) (oi := { dst := some 19, op := Op.load 49 (Operand.tmp 3), type := 49, pos := "ledger.go:46", after := #[], guard := none }) (v := .agg (opC o).toArray) rfl (by kernel_rfl) (by kernel_rfl) (by kernel_rfl) (fun _ _ _ h => h) (Or.inl ⟨by kernel_rfl, fun W hSW => exec_load_mid 49 (.tmp 3) rfl w.heap.size 0 rfl (opC o) _ (range_all hSW) Tryd.underlying49 rfl Tryd.is49⟩) (HW.out.op) ?_
  try simp only [Act.put, List.setIfInBounds_toArray, List.set_cons_zero, List.set_cons_succ]
  refine wpAnyH_ready (rs := [0]) (by kernel_rfl) (by simp) ?_
  refine AllReadyH.cons (o := { dst := some 14, op := Op.call { callee := Callee.value (Operand.func 34), args := #[], argTypes := #[] }, type := 87, pos := "ledger.go:46", after := #[], guard := none }) rfl (fun K' hK' => ?_) AllReadyH.nil
  go_simp
  go_at_call 34
  refine (doers_any _).mono ?_
  rintro E w4 ⟨rfl, b4⟩
  have H4 := Lib.hid (HW.out.below b4)
  clear b4
  refine hK'.out _ _ H4.out.op (fun _ => ?_)
  clear hK' K'
  try simp only [Act.put, List.setIfInBounds_toArray, List.set_cons_zero, List.set_cons_succ]
  refine wpAnyH_take (i := 3) (oi := { dst := some 17, op := Op.index 87 (Operand.tmp 14) (Operand.tmp 16), type := 86, pos := "ledger.go:46", after := #[{ on := 0, ground := Ground.data }, { on := 2, ground := Ground.data }], guard := none }) (v := .func (.func 46) #[] #[]) rfl (by kernel_rfl) (by kernel_rfl) (by kernel_rfl) (fun _ _ _ h => h) (Or.inl ⟨by kernel_rfl, fun W hSW => by have hi := index_4 W; go_simp⟩) (H4.out.op) ?_
  try simp only [Act.put, List.setIfInBounds_toArray, List.set_cons_zero, List.set_cons_succ]
  refine wpAnyH_ready (rs := [6]) (by kernel_rfl) (by simp) ?_
  refine AllReadyH.cons (o := { dst := some 20, op := Op.call { callee := Callee.value (Operand.tmp 17), args := #[Operand.tmp 18, Operand.tmp 19], argTypes := #[40, 49] }, type := 32, pos := "ledger.go:46", after := #[{ on := 3, ground := Ground.data }, { on := 4, ground := Ground.data }, { on := 5, ground := Ground.data }, { on := 0, ground := Ground.chain }], guard := none }) rfl (fun K' hK' => ?_) AllReadyH.nil
  go_simp
  go_at_call 46
  refine (HC.out _ H4.out).mono ?_
  rintro E w5 ⟨rfl, r5, c5, l5, q5⟩
  have H5 := Lib.hid (H4.out.next l5 q5)
  clear l5 q5
  refine hK'.out _ _ H5.out.op (fun _ => ?_)
  clear hK' K'
  try simp only [Act.put, List.setIfInBounds_toArray, List.set_cons_zero, List.set_cons_succ]
  refine wpAnyH_ready (rs := [7]) (by kernel_rfl) (by simp) ?_
  refine AllReadyH.cons (o := { dst := none, op := Op.store 32 (Operand.tmp 4) (Operand.tmp 20), type := 0, pos := "ledger.go:46", after := #[{ on := 6, ground := Ground.data }, { on := 6, ground := Ground.chain }, { on := 0, ground := Ground.phase }, { on := 1, ground := Ground.phase }, { on := 2, ground := Ground.phase }, { on := 3, ground := Ground.phase }, { on := 4, ground := Ground.phase }, { on := 5, ground := Ground.phase }, { on := 6, ground := Ground.phase }], guard := none }) rfl (fun K' hK' => ?_) AllReadyH.nil
  rw [if_pos (by kernel_rfl)]
  refine wp_store_mid 32 (.tmp 4) (.tmp 20) rfl (w.heap.size + 1) 0 (repC q.1).toArray rfl rfl (there_block H5.out.res 0 2 (by simp)) Tryd.is32 (by simp [repC, Value.oneCell']) ?_
  refine hK'.out _ _ (((Turns.setCells (S := (· = w.heap.size + 1)) (.inl rfl) _ _ _ (Turns.refl _ _)).block _ (by have := H5.out.lt; omega) (by omega)).trans H5.out.op) (fun _ => ?_)
  clear hK' K'
  try simp only [Act.put]
  refine wpAnyH_done (by kernel_rfl) ?_ _
  go_wp2_with fail
  (try simp only [Exit.inBlock, Exit.then]); refine bodyPost_ret (ret_range (g := w.heap.size + 1) (cs := repC q.1) rfl rfl (range_all (H5.out.fin _ _).1) Tryd.underlying32 rfl Tryd.is32) rfl ?_
  exact ⟨rfl, (H5.out.fin _ _).2⟩
set_option maxHeartbeats 4000000 in
theorem do_5 {w : World} {g : Nat} {r : Option Nat} {c : Nat} {xs : List It} (h : Led w g r c xs) (o : MOp) (hk : (o.kind.toNat : Int) = 5) (hm : mayOp o = true) (q : Rep × List It) (hc : ∀ W, At w g r o W r c xs → Calls Tryd.prog 47 #[.pointer (some ⟨g, 0, none⟩), .agg (opC o).toArray] W fun E w' => OpP W g r q E w') :
    Calls Tryd.prog 26 #[.pointer (some ⟨g, 0, none⟩), .agg (opC o).toArray] w fun E w' => OpP w g r q E w' := by
  have H0 := Lib.hid (At.start h o)
  have HC := Lib.hid hc
  have HK : Hid ((opC o)[0]? = some (.int .u8 5)) := Lib.hid (by rw [← hk]; rfl)
  have HM : Hid (∀ W, Calls Tryd.prog 33 #[.agg (opC o).toArray] W fun E w' => E = .returned (.bool true) ∧ Below W.heap.size W w') := Lib.hid fun W => (may_any o W).mono fun E w' h => by rw [hm] at h; exact h
  have HI : Hid ((Tryd.prog.info? 49).map (·.size) = some (opC o).length) := Lib.hid Tryd.is49
  have hg0 : ∀ W : World, W.heap.size = W.heap.size := fun _ => rfl
  clear hc hm h hg0
  go_enter Tryd.func26, Tryd.ntmps26
  go_wp2_with (first
    | ((with_reducible refine wpList_load_midG ?_ 49 (.tmp 3) ?_ w.heap.size 0 ?_ (opC o) _ ?_ Tryd.underlying49 ?_ ?_ ?_); rotate_left; (· rfl); (· rfl); (· exact range_all H0.out.op); (· rfl); (· exact HI.out); rotate_left; (· rfl))
    | (go_at_call 33; refine (HM.out _).mono ?_; rintro E w1 ⟨rfl, b1⟩))
  have HS := Lib.hid (H0.out.below b1)
  clear H0 b1
  refine wp_region_any (by kernel_rfl) ?_
  refine held_gen (G := fun W => wpAny _ _ _ _ _ _ _ W) (fun W => At w g r o W r c xs) (At.drew HS.out) (fun W HW0 => ?_)
  have HW := Lib.hid HW0
  clear HW0
  refine wpAny_of_held (S := fun W => W.heap[w.heap.size]? = some (.cells (opC o).toArray 49 (0, 0))) _ _ _ _ ?_
  refine wpAnyH_take (i := 1) (oi := { dst := some 15, op := Op.fieldAddr 49 (Operand.tmp 3) 0, type := 0, pos := "ledger.go:46", after := #[], guard := none }) (v := .pointer (some ⟨w.heap.size, 0, none⟩)) rfl (by kernel_rfl) (by kernel_rfl) (by kernel_rfl) (fun _ _ _ h => h) (Or.inl ⟨by kernel_rfl, fun W hSW => by go_simp⟩) (HW.out.op) ?_
  try simp only [Act.put, List.setIfInBounds_toArray, List.set_cons_zero, List.set_cons_succ]
  refine wpAnyH_take (i := 2) (oi := { dst := some 16, op := Op.load 5 (Operand.tmp 15), type := 5, pos := "ledger.go:46", after := #[{ on := 1, ground := Ground.data }], guard := none }) (v := .int .u8 5) rfl (by kernel_rfl) (by kernel_rfl) (by kernel_rfl) (fun _ _ _ h => h) (Or.inl ⟨by kernel_rfl, fun W hSW => by have hc := block_cell hSW 0 _ HK.out; go_simp⟩) (HW.out.op) ?_
  try simp only [Act.put, List.setIfInBounds_toArray, List.set_cons_zero, List.set_cons_succ]
  refine wpAnyH_take (i := 4) (oi := { dst := some 18, op := Op.move (Operand.tmp 0), type := 40, pos := "ledger.go:46", after := #[], guard := none }) (v := .pointer (some ⟨g, 0, none⟩)) rfl (by kernel_rfl) (by kernel_rfl) (by kernel_rfl) (fun _ _ _ h => h) (Or.inl ⟨by kernel_rfl, fun W hSW => by go_simp⟩) (HW.out.op) ?_
  try simp only [Act.put, List.setIfInBounds_toArray, List.set_cons_zero, List.set_cons_succ]
  refine wpAnyH_take (i := 5) (oi := { dst := some 19, op := Op.load 49 (Operand.tmp 3), type := 49, pos := "ledger.go:46", after := #[], guard := none }) (v := .agg (opC o).toArray) rfl (by kernel_rfl) (by kernel_rfl) (by kernel_rfl) (fun _ _ _ h => h) (Or.inl ⟨by kernel_rfl, fun W hSW => exec_load_mid 49 (.tmp 3) rfl w.heap.size 0 rfl (opC o) _ (range_all hSW) Tryd.underlying49 rfl Tryd.is49⟩) (HW.out.op) ?_
  try simp only [Act.put, List.setIfInBounds_toArray, List.set_cons_zero, List.set_cons_succ]
  refine wpAnyH_ready (rs := [0]) (by kernel_rfl) (by simp) ?_
  refine AllReadyH.cons (o := { dst := some 14, op := Op.call { callee := Callee.value (Operand.func 34), args := #[], argTypes := #[] }, type := 87, pos := "ledger.go:46", after := #[], guard := none }) rfl (fun K' hK' => ?_) AllReadyH.nil
  go_simp
  go_at_call 34
  refine (doers_any _).mono ?_
  rintro E w4 ⟨rfl, b4⟩
  have H4 := Lib.hid (HW.out.below b4)
  clear b4
  refine hK'.out _ _ H4.out.op (fun _ => ?_)
  clear hK' K'
  try simp only [Act.put, List.setIfInBounds_toArray, List.set_cons_zero, List.set_cons_succ]
  refine wpAnyH_take (i := 3) (oi := { dst := some 17, op := Op.index 87 (Operand.tmp 14) (Operand.tmp 16), type := 86, pos := "ledger.go:46", after := #[{ on := 0, ground := Ground.data }, { on := 2, ground := Ground.data }], guard := none }) (v := .func (.func 47) #[] #[]) rfl (by kernel_rfl) (by kernel_rfl) (by kernel_rfl) (fun _ _ _ h => h) (Or.inl ⟨by kernel_rfl, fun W hSW => by have hi := index_5 W; go_simp⟩) (H4.out.op) ?_
  try simp only [Act.put, List.setIfInBounds_toArray, List.set_cons_zero, List.set_cons_succ]
  refine wpAnyH_ready (rs := [6]) (by kernel_rfl) (by simp) ?_
  refine AllReadyH.cons (o := { dst := some 20, op := Op.call { callee := Callee.value (Operand.tmp 17), args := #[Operand.tmp 18, Operand.tmp 19], argTypes := #[40, 49] }, type := 32, pos := "ledger.go:46", after := #[{ on := 3, ground := Ground.data }, { on := 4, ground := Ground.data }, { on := 5, ground := Ground.data }, { on := 0, ground := Ground.chain }], guard := none }) rfl (fun K' hK' => ?_) AllReadyH.nil
  go_simp
  go_at_call 47
  refine (HC.out _ H4.out).mono ?_
  rintro E w5 ⟨rfl, r5, c5, l5, q5⟩
  have H5 := Lib.hid (H4.out.next l5 q5)
  clear l5 q5
  refine hK'.out _ _ H5.out.op (fun _ => ?_)
  clear hK' K'
  try simp only [Act.put, List.setIfInBounds_toArray, List.set_cons_zero, List.set_cons_succ]
  refine wpAnyH_ready (rs := [7]) (by kernel_rfl) (by simp) ?_
  refine AllReadyH.cons (o := { dst := none, op := Op.store 32 (Operand.tmp 4) (Operand.tmp 20), type := 0, pos := "ledger.go:46", after := #[{ on := 6, ground := Ground.data }, { on := 6, ground := Ground.chain }, { on := 0, ground := Ground.phase }, { on := 1, ground := Ground.phase }, { on := 2, ground := Ground.phase }, { on := 3, ground := Ground.phase }, { on := 4, ground := Ground.phase }, { on := 5, ground := Ground.phase }, { on := 6, ground := Ground.phase }], guard := none }) rfl (fun K' hK' => ?_) AllReadyH.nil
  rw [if_pos (by kernel_rfl)]
  refine wp_store_mid 32 (.tmp 4) (.tmp 20) rfl (w.heap.size + 1) 0 (repC q.1).toArray rfl rfl (there_block H5.out.res 0 2 (by simp)) Tryd.is32 (by simp [repC, Value.oneCell']) ?_
  refine hK'.out _ _ (((Turns.setCells (S := (· = w.heap.size + 1)) (.inl rfl) _ _ _ (Turns.refl _ _)).block _ (by have := H5.out.lt; omega) (by omega)).trans H5.out.op) (fun _ => ?_)
  clear hK' K'
  try simp only [Act.put]
  refine wpAnyH_done (by kernel_rfl) ?_ _
  go_wp2_with fail
  (try simp only [Exit.inBlock, Exit.then]); refine bodyPost_ret (ret_range (g := w.heap.size + 1) (cs := repC q.1) rfl rfl (range_all (H5.out.fin _ _).1) Tryd.underlying32 rfl Tryd.is32) rfl ?_
  exact ⟨rfl, (H5.out.fin _ _).2⟩
end Go.Proofs.YtflenghnmflenaaDoor
