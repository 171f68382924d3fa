/-
  What is proved: an operation is done. Conditions as stated.
  What is proved: Do, of a ledger and of none. Conditions as stated.
  What is proved: New, List, and the chapter's example. Conditions as stated.
  What is proved: whether operations are gone through (Few); none's ledger. Conditions as stated.
-/
import Derived.Test.YtpageppjngbnpaaDoorA4
import Derived.Laws.EntriesVeiled
import Derived.Test.YtpageppjngbnpaaDoorA1
namespace Go.Proofs.YtpageppjngbnpaaDoor
open Go.RowKit
set_option maxRecDepth 100000

def dF : List Value := [.nilFunc, .func (.func 47) #[] #[], .func (.func 48) #[] #[], .func (.func 49) #[] #[], .func (.func 50) #[] #[], .func (.func 51) #[] #[]]
theorem Tryd.is92 : (Tryd.prog.info? 92).map (·.size) = some 6 := by kernel_rfl
theorem doers_any (w : World) : Calls Tryd.prog 41 #[] w fun E w' => E = .returned (.agg #[.nilFunc, .func (.func 47) #[] #[], .func (.func 48) #[] #[], .func (.func 49) #[] #[], .func (.func 50) #[] #[], .func (.func 51) #[] #[]]) ∧ Below w.heap.size w w' := by
  have HR : Hid ((w.alloc (.cells dF.toArray 92)).heap[w.heap.size]? = some (.cells dF.toArray 92 (0, 0))) := Lib.hid (heap_alloc_new w _)
  have HB : Hid (Below w.heap.size w (w.alloc (.cells dF.toArray 92))) := Lib.hid ((Below.refl _ _).alloc (Nat.le_refl _) _)
  go_enter Tryd.func41, Tryd.ntmps41
  go_wp2_with fail
  (try simp only [Exit.inBlock, Exit.then]); refine bodyPost_ret (ret_range (g := w.heap.size) rfl rfl (range_all HR.out) Tryd.underlying92 rfl Tryd.is92) rfl ?_
  exact ⟨rfl, HB.out⟩
theorem index_1 (W : World) : (Instr.index 92 (.agg #[.nilFunc, .func (.func 47) #[] #[], .func (.func 48) #[] #[], .func (.func 49) #[] #[], .func (.func 50) #[] #[], .func (.func 51) #[] #[]]) (.int .u8 1)).run Tryd.prog W = .ok (.func (.func 47) #[] #[]) W := by
  simp [Instr.index, part, asIntOf, run_underlying Tryd.underlying92, Tryd.sizeOf91, Tryd.isAgg91]
theorem index_2 (W : World) : (Instr.index 92 (.agg #[.nilFunc, .func (.func 47) #[] #[], .func (.func 48) #[] #[], .func (.func 49) #[] #[], .func (.func 50) #[] #[], .func (.func 51) #[] #[]]) (.int .u8 2)).run Tryd.prog W = .ok (.func (.func 48) #[] #[]) W := by
  simp [Instr.index, part, asIntOf, run_underlying Tryd.underlying92, Tryd.sizeOf91, Tryd.isAgg91]
theorem index_3 (W : World) : (Instr.index 92 (.agg #[.nilFunc, .func (.func 47) #[] #[], .func (.func 48) #[] #[], .func (.func 49) #[] #[], .func (.func 50) #[] #[], .func (.func 51) #[] #[]]) (.int .u8 3)).run Tryd.prog W = .ok (.func (.func 49) #[] #[]) W := by
  simp [Instr.index, part, asIntOf, run_underlying Tryd.underlying92, Tryd.sizeOf91, Tryd.isAgg91]
theorem index_4 (W : World) : (Instr.index 92 (.agg #[.nilFunc, .func (.func 47) #[] #[], .func (.func 48) #[] #[], .func (.func 49) #[] #[], .func (.func 50) #[] #[], .func (.func 51) #[] #[]]) (.int .u8 4)).run Tryd.prog W = .ok (.func (.func 50) #[] #[]) W := by
  simp [Instr.index, part, asIntOf, run_underlying Tryd.underlying92, Tryd.sizeOf91, Tryd.isAgg91]
theorem index_5 (W : World) : (Instr.index 92 (.agg #[.nilFunc, .func (.func 47) #[] #[], .func (.func 48) #[] #[], .func (.func 49) #[] #[], .func (.func 50) #[] #[], .func (.func 51) #[] #[]]) (.int .u8 5)).run Tryd.prog W = .ok (.func (.func 51) #[] #[]) W := by
  simp [Instr.index, part, asIntOf, run_underlying Tryd.underlying92, Tryd.sizeOf91, Tryd.isAgg91]
/-- DO -/
theorem wpList_load_midG {P : Program} {ops : Array Oper} {rest : List Oper} {op : Oper} {a : Act} {w : World} {Q : Exit → Act → World → Prop} (hw : Region.wanted op (yielded ops a.tmps) = true) (ty : TypeId) (x : Operand) (ho : op.op = .load ty x)
    (b o : Nat) (hx : a.eval x = .pointer (some ⟨b, o, none⟩)) (cs : List Value) (d : TypeDesc) (hc : w.rangeAt b o cs)
    (hu : P.underlying ty = some d) (hd : d.isRow = true) (hi : (P.info? ty).map (·.size) = some cs.length)
    (h : wpList P ops Q rest (a.put op.dst (.agg cs.toArray)) w) : wpList P ops Q (op :: rest) a w :=
  wpList_step fun K hK => by
    rw [if_pos hw]
    exact wp_load_mid ty x ho b o hx cs d hc hu hd hi (hK _ _ h)
set_option maxHeartbeats 4000000 in
theorem do_1 {w : World} {g : Nat} {r : Option Nat} {c : Nat} {xs : List It} (h : Led w g r c xs) (o : MOp) (hk : (o.kind.toNat : Int) = 1) (hm : mayOp o = true) (q : Rep × List It) (hc : ∀ W, At w g r o W r c xs → Calls Tryd.prog 47 #[.pointer (some ⟨g, 0, none⟩), .agg (opC o).toArray] W fun E w' => OpP W g r q E w') :
    Calls Tryd.prog 28 #[.pointer (some ⟨g, 0, none⟩), .agg (opC o).toArray] w fun E w' => OpP w g r q E w' := by
  have H0 := Lib.hid (At.start h o)
  have HC := Lib.hid hc
  have HK : Hid ((opC o)[0]? = some (.int .u8 1)) := Lib.hid (by rw [← hk]; rfl)
  have HM : Hid (∀ W, Calls Tryd.prog 40 #[.agg (opC o).toArray] W fun E w' => E = .returned (.bool true) ∧ Below W.heap.size W w') := Lib.hid fun W => (may_any o W).mono fun E w' h => by rw [hm] at h; exact h
  have HI : Hid ((Tryd.prog.info? 34).map (·.size) = some (opC o).length) := Lib.hid Tryd.is34
  have hg0 : ∀ W : World, W.heap.size = W.heap.size := fun _ => rfl
  clear hc hm h hg0
  go_enter Tryd.func28, Tryd.ntmps28
  go_wp2_with (first
    | ((with_reducible refine wpList_load_midG ?_ 34 (.tmp 3) ?_ w.heap.size 0 ?_ (opC o) _ ?_ Tryd.underlying34 ?_ ?_ ?_); rotate_left; (· rfl); (· rfl); (· exact range_all H0.out.op); (· rfl); (· exact HI.out); rotate_left; (· rfl))
    | (go_at_call 40; refine (HM.out _).mono ?_; rintro E w1 ⟨rfl, b1⟩))
  have HS := Lib.hid (H0.out.below b1)
  clear H0 b1
  refine wp_region_any (by kernel_rfl) ?_
  refine held_gen (G := fun W => wpAny _ _ _ _ _ _ _ W) (fun W => At w g r o W r c xs) (At.drew HS.out) (fun W HW0 => ?_)
  have HW := Lib.hid HW0
  clear HW0
  refine wpAny_of_held (S := fun W => W.heap[w.heap.size]? = some (.cells (opC o).toArray 34 (0, 0))) _ _ _ _ ?_
  refine wpAnyH_take (i := 1) (oi := { dst := some 15, op := Op.fieldAddr 34 (Operand.tmp 3) 0, type := 0, pos := "ledger.go:46", after := #[], guard := none }) (v := .pointer (some ⟨w.heap.size, 0, none⟩)) rfl (by kernel_rfl) (by kernel_rfl) (by kernel_rfl) (fun _ _ _ h => h) (Or.inl ⟨by kernel_rfl, fun W hSW => by go_simp⟩) (HW.out.op) ?_
  try simp only [Act.put, List.setIfInBounds_toArray, List.set_cons_zero, List.set_cons_succ]
  refine wpAnyH_take (i := 2) (oi := { dst := some 16, op := Op.load 5 (Operand.tmp 15), type := 5, pos := "ledger.go:46", after := #[{ on := 1, ground := Ground.data }], guard := none }) (v := .int .u8 1) rfl (by kernel_rfl) (by kernel_rfl) (by kernel_rfl) (fun _ _ _ h => h) (Or.inl ⟨by kernel_rfl, fun W hSW => by have hc := block_cell hSW 0 _ HK.out; go_simp⟩) (HW.out.op) ?_
  try simp only [Act.put, List.setIfInBounds_toArray, List.set_cons_zero, List.set_cons_succ]
  refine wpAnyH_take (i := 4) (oi := { dst := some 18, op := Op.move (Operand.tmp 0), type := 52, pos := "ledger.go:46", after := #[], guard := none }) (v := .pointer (some ⟨g, 0, none⟩)) rfl (by kernel_rfl) (by kernel_rfl) (by kernel_rfl) (fun _ _ _ h => h) (Or.inl ⟨by kernel_rfl, fun W hSW => by go_simp⟩) (HW.out.op) ?_
  try simp only [Act.put, List.setIfInBounds_toArray, List.set_cons_zero, List.set_cons_succ]
  refine wpAnyH_take (i := 5) (oi := { dst := some 19, op := Op.load 34 (Operand.tmp 3), type := 34, pos := "ledger.go:46", after := #[], guard := none }) (v := .agg (opC o).toArray) rfl (by kernel_rfl) (by kernel_rfl) (by kernel_rfl) (fun _ _ _ h => h) (Or.inl ⟨by kernel_rfl, fun W hSW => exec_load_mid 34 (.tmp 3) rfl w.heap.size 0 rfl (opC o) _ (range_all hSW) Tryd.underlying34 rfl Tryd.is34⟩) (HW.out.op) ?_
  try simp only [Act.put, List.setIfInBounds_toArray, List.set_cons_zero, List.set_cons_succ]
  refine wpAnyH_ready (rs := [0]) (by kernel_rfl) (by simp) ?_
  refine AllReadyH.cons (o := { dst := some 14, op := Op.call { callee := Callee.value (Operand.func 41), args := #[], argTypes := #[] }, type := 92, pos := "ledger.go:46", after := #[], guard := none }) rfl (fun K' hK' => ?_) AllReadyH.nil
  go_simp
  go_at_call 41
  refine (doers_any _).mono ?_
  rintro E w4 ⟨rfl, b4⟩
  have H4 := Lib.hid (HW.out.below b4)
  clear b4
  refine hK'.out _ _ H4.out.op (fun _ => ?_)
  clear hK' K'
  try simp only [Act.put, List.setIfInBounds_toArray, List.set_cons_zero, List.set_cons_succ]
  refine wpAnyH_take (i := 3) (oi := { dst := some 17, op := Op.index 92 (Operand.tmp 14) (Operand.tmp 16), type := 91, pos := "ledger.go:46", after := #[{ on := 0, ground := Ground.data }, { on := 2, ground := Ground.data }], guard := none }) (v := .func (.func 47) #[] #[]) rfl (by kernel_rfl) (by kernel_rfl) (by kernel_rfl) (fun _ _ _ h => h) (Or.inl ⟨by kernel_rfl, fun W hSW => by have hi := index_1 W; go_simp⟩) (H4.out.op) ?_
  try simp only [Act.put, List.setIfInBounds_toArray, List.set_cons_zero, List.set_cons_succ]
  refine wpAnyH_ready (rs := [6]) (by kernel_rfl) (by simp) ?_
  refine AllReadyH.cons (o := { dst := some 20, op := Op.call { callee := Callee.value (Operand.tmp 17), args := #[Operand.tmp 18, Operand.tmp 19], argTypes := #[52, 34] }, type := 29, pos := "ledger.go:46", after := #[{ on := 3, ground := Ground.data }, { on := 4, ground := Ground.data }, { on := 5, ground := Ground.data }, { on := 0, ground := Ground.chain }], guard := none }) rfl (fun K' hK' => ?_) AllReadyH.nil
  go_simp
  go_at_call 47
  refine (HC.out _ H4.out).mono ?_
  rintro E w5 ⟨rfl, r5, c5, l5, q5⟩
  have H5 := Lib.hid (H4.out.next l5 q5)
  clear l5 q5
  refine hK'.out _ _ H5.out.op (fun _ => ?_)
  clear hK' K'
  try simp only [Act.put, List.setIfInBounds_toArray, List.set_cons_zero, List.set_cons_succ]
  refine wpAnyH_ready (rs := [7]) (by kernel_rfl) (by simp) ?_
  refine AllReadyH.cons (o := { dst := none, op := Op.store 29 (Operand.tmp 4) (Operand.tmp 20), type := 0, pos := "ledger.go:46", after := #[{ on := 6, ground := Ground.data }, { on := 6, ground := Ground.chain }, { on := 0, ground := Ground.phase }, { on := 1, ground := Ground.phase }, { on := 2, ground := Ground.phase }, { on := 3, ground := Ground.phase }, { on := 4, ground := Ground.phase }, { on := 5, ground := Ground.phase }, { on := 6, ground := Ground.phase }], guard := none }) rfl (fun K' hK' => ?_) AllReadyH.nil
  rw [if_pos (by kernel_rfl)]
  refine wp_store_mid 29 (.tmp 4) (.tmp 20) rfl (w.heap.size + 1) 0 (repC q.1).toArray rfl rfl (there_block H5.out.res 0 2 (by simp)) Tryd.is29 (by simp [repC, Value.oneCell']) ?_
  refine hK'.out _ _ (((Turns.setCells (S := (· = w.heap.size + 1)) (.inl rfl) _ _ _ (Turns.refl _ _)).block _ (by have := H5.out.lt; omega) (by omega)).trans H5.out.op) (fun _ => ?_)
  clear hK' K'
  try simp only [Act.put]
  refine wpAnyH_done (by kernel_rfl) ?_ _
  go_wp2_with fail
  (try simp only [Exit.inBlock, Exit.then]); refine bodyPost_ret (ret_range (g := w.heap.size + 1) (cs := repC q.1) rfl rfl (range_all (H5.out.fin _ _).1) Tryd.underlying29 rfl Tryd.is29) rfl ?_
  exact ⟨rfl, (H5.out.fin _ _).2⟩
set_option maxHeartbeats 4000000 in
theorem do_2 {w : World} {g : Nat} {r : Option Nat} {c : Nat} {xs : List It} (h : Led w g r c xs) (o : MOp) (hk : (o.kind.toNat : Int) = 2) (hm : mayOp o = true) (q : Rep × List It) (hc : ∀ W, At w g r o W r c xs → Calls Tryd.prog 48 #[.pointer (some ⟨g, 0, none⟩), .agg (opC o).toArray] W fun E w' => OpP W g r q E w') :
    Calls Tryd.prog 28 #[.pointer (some ⟨g, 0, none⟩), .agg (opC o).toArray] w fun E w' => OpP w g r q E w' := by
  have H0 := Lib.hid (At.start h o)
  have HC := Lib.hid hc
  have HK : Hid ((opC o)[0]? = some (.int .u8 2)) := Lib.hid (by rw [← hk]; rfl)
  have HM : Hid (∀ W, Calls Tryd.prog 40 #[.agg (opC o).toArray] W fun E w' => E = .returned (.bool true) ∧ Below W.heap.size W w') := Lib.hid fun W => (may_any o W).mono fun E w' h => by rw [hm] at h; exact h
  have HI : Hid ((Tryd.prog.info? 34).map (·.size) = some (opC o).length) := Lib.hid Tryd.is34
  have hg0 : ∀ W : World, W.heap.size = W.heap.size := fun _ => rfl
  clear hc hm h hg0
  go_enter Tryd.func28, Tryd.ntmps28
  go_wp2_with (first
    | ((with_reducible refine wpList_load_midG ?_ 34 (.tmp 3) ?_ w.heap.size 0 ?_ (opC o) _ ?_ Tryd.underlying34 ?_ ?_ ?_); rotate_left; (· rfl); (· rfl); (· exact range_all H0.out.op); (· rfl); (· exact HI.out); rotate_left; (· rfl))
    | (go_at_call 40; refine (HM.out _).mono ?_; rintro E w1 ⟨rfl, b1⟩))
  have HS := Lib.hid (H0.out.below b1)
  clear H0 b1
  refine wp_region_any (by kernel_rfl) ?_
  refine held_gen (G := fun W => wpAny _ _ _ _ _ _ _ W) (fun W => At w g r o W r c xs) (At.drew HS.out) (fun W HW0 => ?_)
  have HW := Lib.hid HW0
  clear HW0
  refine wpAny_of_held (S := fun W => W.heap[w.heap.size]? = some (.cells (opC o).toArray 34 (0, 0))) _ _ _ _ ?_
  refine wpAnyH_take (i := 1) (oi := { dst := some 15, op := Op.fieldAddr 34 (Operand.tmp 3) 0, type := 0, pos := "ledger.go:46", after := #[], guard := none }) (v := .pointer (some ⟨w.heap.size, 0, none⟩)) rfl (by kernel_rfl) (by kernel_rfl) (by kernel_rfl) (fun _ _ _ h => h) (Or.inl ⟨by kernel_rfl, fun W hSW => by go_simp⟩) (HW.out.op) ?_
  try simp only [Act.put, List.setIfInBounds_toArray, List.set_cons_zero, List.set_cons_succ]
  refine wpAnyH_take (i := 2) (oi := { dst := some 16, op := Op.load 5 (Operand.tmp 15), type := 5, pos := "ledger.go:46", after := #[{ on := 1, ground := Ground.data }], guard := none }) (v := .int .u8 2) rfl (by kernel_rfl) (by kernel_rfl) (by kernel_rfl) (fun _ _ _ h => h) (Or.inl ⟨by kernel_rfl, fun W hSW => by have hc := block_cell hSW 0 _ HK.out; go_simp⟩) (HW.out.op) ?_
  try simp only [Act.put, List.setIfInBounds_toArray, List.set_cons_zero, List.set_cons_succ]
  refine wpAnyH_take (i := 4) (oi := { dst := some 18, op := Op.move (Operand.tmp 0), type := 52, pos := "ledger.go:46", after := #[], guard := none }) (v := .pointer (some ⟨g, 0, none⟩)) rfl (by kernel_rfl) (by kernel_rfl) (by kernel_rfl) (fun _ _ _ h => h) (Or.inl ⟨by kernel_rfl, fun W hSW => by go_simp⟩) (HW.out.op) ?_
  try simp only [Act.put, List.setIfInBounds_toArray, List.set_cons_zero, List.set_cons_succ]
  refine wpAnyH_take (i := 5) (oi := { dst := some 19, op := Op.load 34 (Operand.tmp 3), type := 34, pos := "ledger.go:46", after := #[], guard := none }) (v := .agg (opC o).toArray) rfl (by kernel_rfl) (by kernel_rfl) (by kernel_rfl) (fun _ _ _ h => h) (Or.inl ⟨by kernel_rfl, fun W hSW => exec_load_mid 34 (.tmp 3) rfl w.heap.size 0 rfl (opC o) _ (range_all hSW) Tryd.underlying34 rfl Tryd.is34⟩) (HW.out.op) ?_
  try simp only [Act.put, List.setIfInBounds_toArray, List.set_cons_zero, List.set_cons_succ]
  refine wpAnyH_ready (rs := [0]) (by kernel_rfl) (by simp) ?_
  refine AllReadyH.cons (o := { dst := some 14, op := Op.call { callee := Callee.value (Operand.func 41), args := #[], argTypes := #[] }, type := 92, pos := "ledger.go:46", after := #[], guard := none }) rfl (fun K' hK' => ?_) AllReadyH.nil
  go_simp
  go_at_call 41
  refine (doers_any _).mono ?_
  rintro E w4 ⟨rfl, b4⟩
  have H4 := Lib.hid (HW.out.below b4)
  clear b4
  refine hK'.out _ _ H4.out.op (fun _ => ?_)
  clear hK' K'
  try simp only [Act.put, List.setIfInBounds_toArray, List.set_cons_zero, List.set_cons_succ]
  refine wpAnyH_take (i := 3) (oi := { dst := some 17, op := Op.index 92 (Operand.tmp 14) (Operand.tmp 16), type := 91, pos := "ledger.go:46", after := #[{ on := 0, ground := Ground.data }, { on := 2, ground := Ground.data }], guard := none }) (v := .func (.func 48) #[] #[]) rfl (by kernel_rfl) (by kernel_rfl) (by kernel_rfl) (fun _ _ _ h => h) (Or.inl ⟨by kernel_rfl, fun W hSW => by have hi := index_2 W; go_simp⟩) (H4.out.op) ?_
  try simp only [Act.put, List.setIfInBounds_toArray, List.set_cons_zero, List.set_cons_succ]
  refine wpAnyH_ready (rs := [6]) (by kernel_rfl) (by simp) ?_
  refine AllReadyH.cons (o := { dst := some 20, op := Op.call { callee := Callee.value (Operand.tmp 17), args := #[Operand.tmp 18, Operand.tmp 19], argTypes := #[52, 34] }, type := 29, pos := "ledger.go:46", after := #[{ on := 3, ground := Ground.data }, { on := 4, ground := Ground.data }, { on := 5, ground := Ground.data }, { on := 0, ground := Ground.chain }], guard := none }) rfl (fun K' hK' => ?_) AllReadyH.nil
  go_simp
  go_at_call 48
  refine (HC.out _ H4.out).mono ?_
  rintro E w5 ⟨rfl, r5, c5, l5, q5⟩
  have H5 := Lib.hid (H4.out.next l5 q5)
  clear l5 q5
  refine hK'.out _ _ H5.out.op (fun _ => ?_)
  clear hK' K'
  try simp only [Act.put, List.setIfInBounds_toArray, List.set_cons_zero, List.set_cons_succ]
  refine wpAnyH_ready (rs := [7]) (by kernel_rfl) (by simp) ?_
  refine AllReadyH.cons (o := { dst := none, op := Op.store 29 (Operand.tmp 4) (Operand.tmp 20), type := 0, pos := "ledger.go:46", after := #[{ on := 6, ground := Ground.data }, { on := 6, ground := Ground.chain }, { on := 0, ground := Ground.phase }, { on := 1, ground := Ground.phase }, { on := 2, ground := Ground.phase }, { on := 3, ground := Ground.phase }, { on := 4, ground := Ground.phase }, { on := 5, ground := Ground.phase }, { on := 6, ground := Ground.phase }], guard := none }) rfl (fun K' hK' => ?_) AllReadyH.nil
  rw [if_pos (by kernel_rfl)]
  refine wp_store_mid 29 (.tmp 4) (.tmp 20) rfl (w.heap.size + 1) 0 (repC q.1).toArray rfl rfl (there_block H5.out.res 0 2 (by simp)) Tryd.is29 (by simp [repC, Value.oneCell']) ?_
  refine hK'.out _ _ (((Turns.setCells (S := (· = w.heap.size + 1)) (.inl rfl) _ _ _ (Turns.refl _ _)).block _ (by have := H5.out.lt; omega) (by omega)).trans H5.out.op) (fun _ => ?_)
  clear hK' K'
  try simp only [Act.put]
  refine wpAnyH_done (by kernel_rfl) ?_ _
  go_wp2_with fail
  (try simp only [Exit.inBlock, Exit.then]); refine bodyPost_ret (ret_range (g := w.heap.size + 1) (cs := repC q.1) rfl rfl (range_all (H5.out.fin _ _).1) Tryd.underlying29 rfl Tryd.is29) rfl ?_
  exact ⟨rfl, (H5.out.fin _ _).2⟩
set_option maxHeartbeats 4000000 in
theorem do_3 {w : World} {g : Nat} {r : Option Nat} {c : Nat} {xs : List It} (h : Led w g r c xs) (o : MOp) (hk : (o.kind.toNat : Int) = 3) (hm : mayOp o = true) (q : Rep × List It) (hc : ∀ W, At w g r o W r c xs → Calls Tryd.prog 49 #[.pointer (some ⟨g, 0, none⟩), .agg (opC o).toArray] W fun E w' => OpP W g r q E w') :
    Calls Tryd.prog 28 #[.pointer (some ⟨g, 0, none⟩), .agg (opC o).toArray] w fun E w' => OpP w g r q E w' := by
  have H0 := Lib.hid (At.start h o)
  have HC := Lib.hid hc
  have HK : Hid ((opC o)[0]? = some (.int .u8 3)) := Lib.hid (by rw [← hk]; rfl)
  have HM : Hid (∀ W, Calls Tryd.prog 40 #[.agg (opC o).toArray] W fun E w' => E = .returned (.bool true) ∧ Below W.heap.size W w') := Lib.hid fun W => (may_any o W).mono fun E w' h => by rw [hm] at h; exact h
  have HI : Hid ((Tryd.prog.info? 34).map (·.size) = some (opC o).length) := Lib.hid Tryd.is34
  have hg0 : ∀ W : World, W.heap.size = W.heap.size := fun _ => rfl
  clear hc hm h hg0
  go_enter Tryd.func28, Tryd.ntmps28
  go_wp2_with (first
    | ((with_reducible refine wpList_load_midG ?_ 34 (.tmp 3) ?_ w.heap.size 0 ?_ (opC o) _ ?_ Tryd.underlying34 ?_ ?_ ?_); rotate_left; (· rfl); (· rfl); (· exact range_all H0.out.op); (· rfl); (· exact HI.out); rotate_left; (· rfl))
    | (go_at_call 40; refine (HM.out _).mono ?_; rintro E w1 ⟨rfl, b1⟩))
  have HS := Lib.hid (H0.out.below b1)
  clear H0 b1
  refine wp_region_any (by kernel_rfl) ?_
  refine held_gen (G := fun W => wpAny _ _ _ _ _ _ _ W) (fun W => At w g r o W r c xs) (At.drew HS.out) (fun W HW0 => ?_)
  have HW := Lib.hid HW0
  clear HW0
  refine wpAny_of_held (S := fun W => W.heap[w.heap.size]? = some (.cells (opC o).toArray 34 (0, 0))) _ _ _ _ ?_
  refine wpAnyH_take (i := 1) (oi := { dst := some 15, op := Op.fieldAddr 34 (Operand.tmp 3) 0, type := 0, pos := "ledger.go:46", after := #[], guard := none }) (v := .pointer (some ⟨w.heap.size, 0, none⟩)) rfl (by kernel_rfl) (by kernel_rfl) (by kernel_rfl) (fun _ _ _ h => h) (Or.inl ⟨by kernel_rfl, fun W hSW => by go_simp⟩) (HW.out.op) ?_
  try simp only [Act.put, List.setIfInBounds_toArray, List.set_cons_zero, List.set_cons_succ]
  refine wpAnyH_take (i := 2) (oi := { dst := some 16, op := Op.load 5 (Operand.tmp 15), type := 5, pos := "ledger.go:46", after := #[{ on := 1, ground := Ground.data }], guard := none }) (v := .int .u8 3) rfl (by kernel_rfl) (by kernel_rfl) (by kernel_rfl) (fun _ _ _ h => h) (Or.inl ⟨by kernel_rfl, fun W hSW => by have hc := block_cell hSW 0 _ HK.out; go_simp⟩) (HW.out.op) ?_
  try simp only [Act.put, List.setIfInBounds_toArray, List.set_cons_zero, List.set_cons_succ]
  refine wpAnyH_take (i := 4) (oi := { dst := some 18, op := Op.move (Operand.tmp 0), type := 52, pos := "ledger.go:46", after := #[], guard := none }) (v := .pointer (some ⟨g, 0, none⟩)) rfl (by kernel_rfl) (by kernel_rfl) (by kernel_rfl) (fun _ _ _ h => h) (Or.inl ⟨by kernel_rfl, fun W hSW => by go_simp⟩) (HW.out.op) ?_
  try simp only [Act.put, List.setIfInBounds_toArray, List.set_cons_zero, List.set_cons_succ]
  refine wpAnyH_take (i := 5) (oi := { dst := some 19, op := Op.load 34 (Operand.tmp 3), type := 34, pos := "ledger.go:46", after := #[], guard := none }) (v := .agg (opC o).toArray) rfl (by kernel_rfl) (by kernel_rfl) (by kernel_rfl) (fun _ _ _ h => h) (Or.inl ⟨by kernel_rfl, fun W hSW => exec_load_mid 34 (.tmp 3) rfl w.heap.size 0 rfl (opC o) _ (range_all hSW) Tryd.underlying34 rfl Tryd.is34⟩) (HW.out.op) ?_
  try simp only [Act.put, List.setIfInBounds_toArray, List.set_cons_zero, List.set_cons_succ]
  refine wpAnyH_ready (rs := [0]) (by kernel_rfl) (by simp) ?_
  refine AllReadyH.cons (o := { dst := some 14, op := Op.call { callee := Callee.value (Operand.func 41), args := #[], argTypes := #[] }, type := 92, pos := "ledger.go:46", after := #[], guard := none }) rfl (fun K' hK' => ?_) AllReadyH.nil
  go_simp
  go_at_call 41
  refine (doers_any _).mono ?_
  rintro E w4 ⟨rfl, b4⟩
  have H4 := Lib.hid (HW.out.below b4)
  clear b4
  refine hK'.out _ _ H4.out.op (fun _ => ?_)
  clear hK' K'
  try simp only [Act.put, List.setIfInBounds_toArray, List.set_cons_zero, List.set_cons_succ]
  refine wpAnyH_take (i := 3) (oi := { dst := some 17, op := Op.index 92 (Operand.tmp 14) (Operand.tmp 16), type := 91, pos := "ledger.go:46", after := #[{ on := 0, ground := Ground.data }, { on := 2, ground := Ground.data }], guard := none }) (v := .func (.func 49) #[] #[]) rfl (by kernel_rfl) (by kernel_rfl) (by kernel_rfl) (fun _ _ _ h => h) (Or.inl ⟨by kernel_rfl, fun W hSW => by have hi := index_3 W; go_simp⟩) (H4.out.op) ?_
  try simp only [Act.put, List.setIfInBounds_toArray, List.set_cons_zero, List.set_cons_succ]
  refine wpAnyH_ready (rs := [6]) (by kernel_rfl) (by simp) ?_
  refine AllReadyH.cons (o := { dst := some 20, op := Op.call { callee := Callee.value (Operand.tmp 17), args := #[Operand.tmp 18, Operand.tmp 19], argTypes := #[52, 34] }, type := 29, pos := "ledger.go:46", after := #[{ on := 3, ground := Ground.data }, { on := 4, ground := Ground.data }, { on := 5, ground := Ground.data }, { on := 0, ground := Ground.chain }], guard := none }) rfl (fun K' hK' => ?_) AllReadyH.nil
  go_simp
  go_at_call 49
  refine (HC.out _ H4.out).mono ?_
  rintro E w5 ⟨rfl, r5, c5, l5, q5⟩
  have H5 := Lib.hid (H4.out.next l5 q5)
  clear l5 q5
  refine hK'.out _ _ H5.out.op (fun _ => ?_)
  clear hK' K'
  try simp only [Act.put, List.setIfInBounds_toArray, List.set_cons_zero, List.set_cons_succ]
  refine wpAnyH_ready (rs := [7]) (by kernel_rfl) (by simp) ?_
  refine AllReadyH.cons (o := { dst := none, op := Op.store 29 (Operand.tmp 4) (Operand.tmp 20), type := 0, pos := "ledger.go:46", after := #[{ on := 6, ground := Ground.data }, { on := 6, ground := Ground.chain }, { on := 0, ground := Ground.phase }, { on := 1, ground := Ground.phase }, { on := 2, ground := Ground.phase }, { on := 3, ground := Ground.phase }, { on := 4, ground := Ground.phase }, { on := 5, ground := Ground.phase }, { on := 6, ground := Ground.phase }], guard := none }) rfl (fun K' hK' => ?_) AllReadyH.nil
  rw [if_pos (by kernel_rfl)]
  refine wp_store_mid 29 (.tmp 4) (.tmp 20) rfl (w.heap.size + 1) 0 (repC q.1).toArray rfl rfl (there_block H5.out.res 0 2 (by simp)) Tryd.is29 (by simp [repC, Value.oneCell']) ?_
  refine hK'.out _ _ (((Turns.setCells (S := (· = w.heap.size + 1)) (.inl rfl) _ _ _ (Turns.refl _ _)).block _ (by have := H5.out.lt; omega) (by omega)).trans H5.out.op) (fun _ => ?_)
  clear hK' K'
  try simp only [Act.put]
  refine wpAnyH_done (by kernel_rfl) ?_ _
  go_wp2_with fail
  (try simp only [Exit.inBlock, Exit.then]); refine bodyPost_ret (ret_range (g := w.heap.size + 1) (cs := repC q.1) rfl rfl (range_all (H5.out.fin _ _).1) Tryd.underlying29 rfl Tryd.is29) rfl ?_
  exact ⟨rfl, (H5.out.fin _ _).2⟩
set_option maxHeartbeats 4000000 in
theorem do_4 {w : World} {g : Nat} {r : Option Nat} {c : Nat} {xs : List It} (h : Led w g r c xs) (o : MOp) (hk : (o.kind.toNat : Int) = 4) (hm : mayOp o = true) (q : Rep × List It) (hc : ∀ W, At w g r o W r c xs → Calls Tryd.prog 50 #[.pointer (some ⟨g, 0, none⟩), .agg (opC o).toArray] W fun E w' => OpP W g r q E w') :
    Calls Tryd.prog 28 #[.pointer (some ⟨g, 0, none⟩), .agg (opC o).toArray] w fun E w' => OpP w g r q E w' := by
  have H0 := Lib.hid (At.start h o)
  have HC := Lib.hid hc
  have HK : Hid ((opC o)[0]? = some (.int .u8 4)) := Lib.hid (by rw [← hk]; rfl)
  have HM : Hid (∀ W, Calls Tryd.prog 40 #[.agg (opC o).toArray] W fun E w' => E = .returned (.bool true) ∧ Below W.heap.size W w') := Lib.hid fun W => (may_any o W).mono fun E w' h => by rw [hm] at h; exact h
  have HI : Hid ((Tryd.prog.info? 34).map (·.size) = some (opC o).length) := Lib.hid Tryd.is34
  have hg0 : ∀ W : World, W.heap.size = W.heap.size := fun _ => rfl
  clear hc hm h hg0
  go_enter Tryd.func28, Tryd.ntmps28
  go_wp2_with (first
    | ((with_reducible refine wpList_load_midG ?_ 34 (.tmp 3) ?_ w.heap.size 0 ?_ (opC o) _ ?_ Tryd.underlying34 ?_ ?_ ?_); rotate_left; (· rfl); (· rfl); (· exact range_all H0.out.op); (· rfl); (· exact HI.out); rotate_left; (· rfl))
    | (go_at_call 40; refine (HM.out _).mono ?_; rintro E w1 ⟨rfl, b1⟩))
  have HS := Lib.hid (H0.out.below b1)
  clear H0 b1
  refine wp_region_any (by kernel_rfl) ?_
  refine held_gen (G := fun W => wpAny _ _ _ _ _ _ _ W) (fun W => At w g r o W r c xs) (At.drew HS.out) (fun W HW0 => ?_)
  have HW := Lib.hid HW0
  clear HW0
  refine wpAny_of_held (S := fun W => W.heap[w.heap.size]? = some (.cells (opC o).toArray 34 (0, 0))) _ _ _ _ ?_
  refine wpAnyH_take (i := 1) (oi := { dst := some 15, op := Op.fieldAddr 34 (Operand.tmp 3) 0, type := 0, pos := "ledger.go:46", after := #[], guard := none }) (v := .pointer (some ⟨w.heap.size, 0, none⟩)) rfl (by kernel_rfl) (by kernel_rfl) (by kernel_rfl) (fun _ _ _ h => h) (Or.inl ⟨by kernel_rfl, fun W hSW => by go_simp⟩) (HW.out.op) ?_
  try simp only [Act.put, List.setIfInBounds_toArray, List.set_cons_zero, List.set_cons_succ]
  refine wpAnyH_take (i := 2) (oi := { dst := some 16, op := Op.load 5 (Operand.tmp 15), type := 5, pos := "ledger.go:46", after := #[{ on := 1, ground := Ground.data }], guard := none }) (v := .int .u8 4) rfl (by kernel_rfl) (by kernel_rfl) (by kernel_rfl) (fun _ _ _ h => h) (Or.inl ⟨by kernel_rfl, fun W hSW => by have hc := block_cell hSW 0 _ HK.out; go_simp⟩) (HW.out.op) ?_
  try simp only [Act.put, List.setIfInBounds_toArray, List.set_cons_zero, List.set_cons_succ]
  refine wpAnyH_take (i := 4) (oi := { dst := some 18, op := Op.move (Operand.tmp 0), type := 52, pos := "ledger.go:46", after := #[], guard := none }) (v := .pointer (some ⟨g, 0, none⟩)) rfl (by kernel_rfl) (by kernel_rfl) (by kernel_rfl) (fun _ _ _ h => h) (Or.inl ⟨by kernel_rfl, fun W hSW => by go_simp⟩) (HW.out.op) ?_
  try simp only [Act.put, List.setIfInBounds_toArray, List.set_cons_zero, List.set_cons_succ]
  refine wpAnyH_take (i := 5) (oi := { dst := some 19, op := Op.load 34 (Operand.tmp 3), type := 34, pos := "ledger.go:46", after := #[], guard := none }) (v := .agg (opC o).toArray) rfl (by kernel_rfl) (by kernel_rfl) (by kernel_rfl) (fun _ _ _ h => h) (Or.inl ⟨by kernel_rfl, fun W hSW => exec_load_mid 34 (.tmp 3) rfl w.heap.size 0 rfl (opC o) _ (range_all hSW) Tryd.underlying34 rfl Tryd.is34⟩) (HW.out.op) ?_
  try simp only [Act.put, List.setIfInBounds_toArray, List.set_cons_zero, List.set_cons_succ]
  refine wpAnyH_ready (rs := [0]) (by kernel_rfl) (by simp) ?_
  refine AllReadyH.cons (o := { dst := some 14, op := Op.call { callee := Callee.value (Operand.func 41), args := #[], argTypes := #[] }, type := 92, pos := "ledger.go:46", after := #[], guard := none }) rfl (fun K' hK' => ?_) AllReadyH.nil
  go_simp
  go_at_call 41
  refine (doers_any _).mono ?_
  rintro E w4 ⟨rfl, b4⟩
  have H4 := Lib.hid (HW.out.below b4)
  clear b4
  refine hK'.out _ _ H4.out.op (fun _ => ?_)
  clear hK' K'
  try simp only [Act.put, List.setIfInBounds_toArray, List.set_cons_zero, List.set_cons_succ]
  refine wpAnyH_take (i := 3) (oi := { dst := some 17, op := Op.index 92 (Operand.tmp 14) (Operand.tmp 16), type := 91, pos := "ledger.go:46", after := #[{ on := 0, ground := Ground.data }, { on := 2, ground := Ground.data }], guard := none }) (v := .func (.func 50) #[] #[]) rfl (by kernel_rfl) (by kernel_rfl) (by kernel_rfl) (fun _ _ _ h => h) (Or.inl ⟨by kernel_rfl, fun W hSW => by have hi := index_4 W; go_simp⟩) (H4.out.op) ?_
  try simp only [Act.put, List.setIfInBounds_toArray, List.set_cons_zero, List.set_cons_succ]
  refine wpAnyH_ready (rs := [6]) (by kernel_rfl) (by simp) ?_
  refine AllReadyH.cons (o := { dst := some 20, op := Op.call { callee := Callee.value (Operand.tmp 17), args := #[Operand.tmp 18, Operand.tmp 19], argTypes := #[52, 34] }, type := 29, pos := "ledger.go:46", after := #[{ on := 3, ground := Ground.data }, { on := 4, ground := Ground.data }, { on := 5, ground := Ground.data }, { on := 0, ground := Ground.chain }], guard := none }) rfl (fun K' hK' => ?_) AllReadyH.nil
  go_simp
  go_at_call 50
  refine (HC.out _ H4.out).mono ?_
  rintro E w5 ⟨rfl, r5, c5, l5, q5⟩
  have H5 := Lib.hid (H4.out.next l5 q5)
  clear l5 q5
  refine hK'.out _ _ H5.out.op (fun _ => ?_)
  clear hK' K'
  try simp only [Act.put, List.setIfInBounds_toArray, List.set_cons_zero, List.set_cons_succ]
  refine wpAnyH_ready (rs := [7]) (by kernel_rfl) (by simp) ?_
  refine AllReadyH.cons (o := { dst := none, op := Op.store 29 (Operand.tmp 4) (Operand.tmp 20), type := 0, pos := "ledger.go:46", after := #[{ on := 6, ground := Ground.data }, { on := 6, ground := Ground.chain }, { on := 0, ground := Ground.phase }, { on := 1, ground := Ground.phase }, { on := 2, ground := Ground.phase }, { on := 3, ground := Ground.phase }, { on := 4, ground := Ground.phase }, { on := 5, ground := Ground.phase }, { on := 6, ground := Ground.phase }], guard := none }) rfl (fun K' hK' => ?_) AllReadyH.nil
  rw [if_pos (by kernel_rfl)]
  refine wp_store_mid 29 (.tmp 4) (.tmp 20) rfl (w.heap.size + 1) 0 (repC q.1).toArray rfl rfl (there_block H5.out.res 0 2 (by simp)) Tryd.is29 (by simp [repC, Value.oneCell']) ?_
  refine hK'.out _ _ (((Turns.setCells (S := (· = w.heap.size + 1)) (.inl rfl) _ _ _ (Turns.refl _ _)).block _ (by have := H5.out.lt; omega) (by omega)).trans H5.out.op) (fun _ => ?_)
  clear hK' K'
  try simp only [Act.put]
  refine wpAnyH_done (by kernel_rfl) ?_ _
  go_wp2_with fail
  (try simp only [Exit.inBlock, Exit.then]); refine bodyPost_ret (ret_range (g := w.heap.size + 1) (cs := repC q.1) rfl rfl (range_all (H5.out.fin _ _).1) Tryd.underlying29 rfl Tryd.is29) rfl ?_
  exact ⟨rfl, (H5.out.fin _ _).2⟩
set_option maxHeartbeats 4000000 in
theorem do_5 {w : World} {g : Nat} {r : Option Nat} {c : Nat} {xs : List It} (h : Led w g r c xs) (o : MOp) (hk : (o.kind.toNat : Int) = 5) (hm : mayOp o = true) (q : Rep × List It) (hc : ∀ W, At w g r o W r c xs → Calls Tryd.prog 51 #[.pointer (some ⟨g, 0, none⟩), .agg (opC o).toArray] W fun E w' => OpP W g r q E w') :
    Calls Tryd.prog 28 #[.pointer (some ⟨g, 0, none⟩), .agg (opC o).toArray] w fun E w' => OpP w g r q E w' := by
  have H0 := Lib.hid (At.start h o)
  have HC := Lib.hid hc
  have HK : Hid ((opC o)[0]? = some (.int .u8 5)) := Lib.hid (by rw [← hk]; rfl)
  have HM : Hid (∀ W, Calls Tryd.prog 40 #[.agg (opC o).toArray] W fun E w' => E = .returned (.bool true) ∧ Below W.heap.size W w') := Lib.hid fun W => (may_any o W).mono fun E w' h => by rw [hm] at h; exact h
  have HI : Hid ((Tryd.prog.info? 34).map (·.size) = some (opC o).length) := Lib.hid Tryd.is34
  have hg0 : ∀ W : World, W.heap.size = W.heap.size := fun _ => rfl
  clear hc hm h hg0
  go_enter Tryd.func28, Tryd.ntmps28
  go_wp2_with (first
    | ((with_reducible refine wpList_load_midG ?_ 34 (.tmp 3) ?_ w.heap.size 0 ?_ (opC o) _ ?_ Tryd.underlying34 ?_ ?_ ?_); rotate_left; (· rfl); (· rfl); (· exact range_all H0.out.op); (· rfl); (· exact HI.out); rotate_left; (· rfl))
    | (go_at_call 40; refine (HM.out _).mono ?_; rintro E w1 ⟨rfl, b1⟩))
  have HS := Lib.hid (H0.out.below b1)
  clear H0 b1
  refine wp_region_any (by kernel_rfl) ?_
  refine held_gen (G := fun W => wpAny _ _ _ _ _ _ _ W) (fun W => At w g r o W r c xs) (At.drew HS.out) (fun W HW0 => ?_)
  have HW := Lib.hid HW0
  clear HW0
  refine wpAny_of_held (S := fun W => W.heap[w.heap.size]? = some (.cells (opC o).toArray 34 (0, 0))) _ _ _ _ ?_
  refine wpAnyH_take (i := 1) (oi := { dst := some 15, op := Op.fieldAddr 34 (Operand.tmp 3) 0, type := 0, pos := "ledger.go:46", after := #[], guard := none }) (v := .pointer (some ⟨w.heap.size, 0, none⟩)) rfl (by kernel_rfl) (by kernel_rfl) (by kernel_rfl) (fun _ _ _ h => h) (Or.inl ⟨by kernel_rfl, fun W hSW => by go_simp⟩) (HW.out.op) ?_
  try simp only [Act.put, List.setIfInBounds_toArray, List.set_cons_zero, List.set_cons_succ]
  refine wpAnyH_take (i := 2) (oi := { dst := some 16, op := Op.load 5 (Operand.tmp 15), type := 5, pos := "ledger.go:46", after := #[{ on := 1, ground := Ground.data }], guard := none }) (v := .int .u8 5) rfl (by kernel_rfl) (by kernel_rfl) (by kernel_rfl) (fun _ _ _ h => h) (Or.inl ⟨by kernel_rfl, fun W hSW => by have hc := block_cell hSW 0 _ HK.out; go_simp⟩) (HW.out.op) ?_
  try simp only [Act.put, List.setIfInBounds_toArray, List.set_cons_zero, List.set_cons_succ]
  refine wpAnyH_take (i := 4) (oi := { dst := some 18, op := Op.move (Operand.tmp 0), type := 52, pos := "ledger.go:46", after := #[], guard := none }) (v := .pointer (some ⟨g, 0, none⟩)) rfl (by kernel_rfl) (by kernel_rfl) (by kernel_rfl) (fun _ _ _ h => h) (Or.inl ⟨by kernel_rfl, fun W hSW => by go_simp⟩) (HW.out.op) ?_
  try simp only [Act.put, List.setIfInBounds_toArray, List.set_cons_zero, List.set_cons_succ]
  refine wpAnyH_take (i := 5) (oi := { dst := some 19, op := Op.load 34 (Operand.tmp 3), type := 34, pos := "ledger.go:46", after := #[], guard := none }) (v := .agg (opC o).toArray) rfl (by kernel_rfl) (by kernel_rfl) (by kernel_rfl) (fun _ _ _ h => h) (Or.inl ⟨by kernel_rfl, fun W hSW => exec_load_mid 34 (.tmp 3) rfl w.heap.size 0 rfl (opC o) _ (range_all hSW) Tryd.underlying34 rfl Tryd.is34⟩) (HW.out.op) ?_
  try simp only [Act.put, List.setIfInBounds_toArray, List.set_cons_zero, List.set_cons_succ]
  refine wpAnyH_ready (rs := [0]) (by kernel_rfl) (by simp) ?_
  refine AllReadyH.cons (o := { dst := some 14, op := Op.call { callee := Callee.value (Operand.func 41), args := #[], argTypes := #[] }, type := 92, pos := "ledger.go:46", after := #[], guard := none }) rfl (fun K' hK' => ?_) AllReadyH.nil
  go_simp
  go_at_call 41
  refine (doers_any _).mono ?_
  rintro E w4 ⟨rfl, b4⟩
  have H4 := Lib.hid (HW.out.below b4)
  clear b4
  refine hK'.out _ _ H4.out.op (fun _ => ?_)
  clear hK' K'
  try simp only [Act.put, List.setIfInBounds_toArray, List.set_cons_zero, List.set_cons_succ]
  refine wpAnyH_take (i := 3) (oi := { dst := some 17, op := Op.index 92 (Operand.tmp 14) (Operand.tmp 16), type := 91, pos := "ledger.go:46", after := #[{ on := 0, ground := Ground.data }, { on := 2, ground := Ground.data }], guard := none }) (v := .func (.func 51) #[] #[]) rfl (by kernel_rfl) (by kernel_rfl) (by kernel_rfl) (fun _ _ _ h => h) (Or.inl ⟨by kernel_rfl, fun W hSW => by have hi := index_5 W; go_simp⟩) (H4.out.op) ?_
  try simp only [Act.put, List.setIfInBounds_toArray, List.set_cons_zero, List.set_cons_succ]
  refine wpAnyH_ready (rs := [6]) (by kernel_rfl) (by simp) ?_
  refine AllReadyH.cons (o := { dst := some 20, op := Op.call { callee := Callee.value (Operand.tmp 17), args := #[Operand.tmp 18, Operand.tmp 19], argTypes := #[52, 34] }, type := 29, pos := "ledger.go:46", after := #[{ on := 3, ground := Ground.data }, { on := 4, ground := Ground.data }, { on := 5, ground := Ground.data }, { on := 0, ground := Ground.chain }], guard := none }) rfl (fun K' hK' => ?_) AllReadyH.nil
  go_simp
  go_at_call 51
  refine (HC.out _ H4.out).mono ?_
  rintro E w5 ⟨rfl, r5, c5, l5, q5⟩
  have H5 := Lib.hid (H4.out.next l5 q5)
  clear l5 q5
  refine hK'.out _ _ H5.out.op (fun _ => ?_)
  clear hK' K'
  try simp only [Act.put, List.setIfInBounds_toArray, List.set_cons_zero, List.set_cons_succ]
  refine wpAnyH_ready (rs := [7]) (by kernel_rfl) (by simp) ?_
  refine AllReadyH.cons (o := { dst := none, op := Op.store 29 (Operand.tmp 4) (Operand.tmp 20), type := 0, pos := "ledger.go:46", after := #[{ on := 6, ground := Ground.data }, { on := 6, ground := Ground.chain }, { on := 0, ground := Ground.phase }, { on := 1, ground := Ground.phase }, { on := 2, ground := Ground.phase }, { on := 3, ground := Ground.phase }, { on := 4, ground := Ground.phase }, { on := 5, ground := Ground.phase }, { on := 6, ground := Ground.phase }], guard := none }) rfl (fun K' hK' => ?_) AllReadyH.nil
  rw [if_pos (by kernel_rfl)]
  refine wp_store_mid 29 (.tmp 4) (.tmp 20) rfl (w.heap.size + 1) 0 (repC q.1).toArray rfl rfl (there_block H5.out.res 0 2 (by simp)) Tryd.is29 (by simp [repC, Value.oneCell']) ?_
  refine hK'.out _ _ (((Turns.setCells (S := (· = w.heap.size + 1)) (.inl rfl) _ _ _ (Turns.refl _ _)).block _ (by have := H5.out.lt; omega) (by omega)).trans H5.out.op) (fun _ => ?_)
  clear hK' K'
  try simp only [Act.put]
  refine wpAnyH_done (by kernel_rfl) ?_ _
  go_wp2_with fail
  (try simp only [Exit.inBlock, Exit.then]); refine bodyPost_ret (ret_range (g := w.heap.size + 1) (cs := repC q.1) rfl rfl (range_all (H5.out.fin _ _).1) Tryd.underlying29 rfl Tryd.is29) rfl ?_
  exact ⟨rfl, (H5.out.fin _ _).2⟩
open Go.RowKit
set_option maxRecDepth 100000

/-- A ledger in a world in which the library's variables lie. -/
structure Sys (w : World) (g : Nat) (r : Option Nat) (c : Nat) (xs : List It) : Prop where
  led : Led w g r c xs
  vars : Vars w
  low : ∀ k, On g r k → 4 ≤ k
  rise : Rise xs
  len : xs.length ≤ 64
  small : ∀ p ∈ xs, p.2.size ≤ 128
theorem val_small {xs : List It} (h : ∀ p ∈ xs, p.2.size ≤ 128) (k : ByteArray) : (valK xs k).size ≤ 128 := by
  unfold valK
  cases hx : xs[posOf xs k]? with
  | none => exact Nat.zero_le _
  | some p =>
    show (if p.1 = k then p.2 else ByteArray.empty).size ≤ 128
    split
    · exact h p (List.mem_of_getElem? hx)
    · exact Nat.zero_le _
theorem dec_size {n : Nat} (h : n < 18446744073709551616) : (dec n).size ≤ 20 := by
  have e : (dec n).size = Lib.nDigits n := by
    have : (dec n).size = (Lib.decDigits n).length := by simp [dec, ByteArray.size]
    rw [this, Lib.decDigits_length]
  rw [e]
  by_cases h0 : 1 ≤ n
  · have := Lib.numDigits_eq n h0 h
    split at this <;> omega
  · have : n = 0 := by omega
    subst this
    rw [Lib.nDigits_small (by omega)]
    omega
theorem may_val {o : MOp} (h : mayOp o = true) : o.value.size ≤ 128 ∧ o.amount ≤ topN := by
  unfold mayOp at h
  rw [Bool.and_eq_true, Bool.and_eq_true, decide_eq_true_eq] at h
  obtain ⟨h1, _, h2, _, _, h5⟩ := h
  unfold ownOp at h1 h2 h5
  dsimp only at h1 h2 h5
  split at h1
  · rename_i e
    rw [if_pos e] at h2 h5
    rw [← h2, ← h5]
    exact ⟨Nat.zero_le _, Nat.zero_le _⟩
  · rename_i e
    rw [if_neg e] at h2 h5
    split at h1
    · rename_i e2
      rw [if_pos e2] at h5
      rw [← h5]
      exact ⟨by simpa [mayV] using h1, Nat.zero_le _⟩
    · rename_i e2
      rw [if_neg e2] at h2 h5
      split at h1
      · rename_i e3
        rw [if_pos e3] at h5
        rw [← h5]
        rw [Bool.and_eq_true] at h1
        exact ⟨by simpa [mayV] using h1.2, Nat.zero_le _⟩
      · rename_i e3
        rw [if_neg e3] at h2 h5
        split at h1
        · rename_i e4
          rw [if_pos e4] at h2
          rw [← h2]
          simp only [Bool.and_eq_true, decide_eq_true_eq] at h1
          exact ⟨Nat.zero_le _, h1.2.2.2⟩
        · cases h1
theorem may_kind {o : MOp} (h : mayOp o = true) : o.kind = 1 ∨ o.kind = 2 ∨ o.kind = 3 ∨ o.kind = 4 ∨ o.kind = 5 := by
  unfold mayOp at h
  rw [Bool.and_eq_true] at h
  have h1 := h.1
  unfold ownOp at h1
  dsimp only at h1
  split at h1
  · rename_i e
    rcases e with e | e
    · exact .inl e
    · exact .inr (.inr (.inl e))
  · split at h1
    · exact .inr (.inl ‹_›)
    · split at h1
      · exact .inr (.inr (.inr (.inl ‹_›)))
      · split at h1
        · exact .inr (.inr (.inr (.inr ‹_›)))
        · cases h1
theorem set_small {xs : List It} (h : ∀ p ∈ xs, p.2.size ≤ 128) {k v : ByteArray} (hv : v.size ≤ 128) : ∀ p ∈ setK xs k v, p.2.size ≤ 128 := fun p hp => by
  rcases mem_set hp with rfl | hp
  · exact hv
  · exact h p hp
theorem do_small {xs : List It} (h : ∀ p ∈ xs, p.2.size ≤ 128) (o : MOp) : ∀ p ∈ (doR xs o).2, p.2.size ≤ 128 := by
  unfold doR
  split
  · rename_i hm
    have hv := (may_val hm).1
    have ha := (may_val hm).2
    have hd : ∀ p ∈ delK xs o.key, p.2.size ≤ 128 := fun p hp => by
      unfold delK at hp
      rcases List.mem_append.1 hp with hp | hp
      · exact h p (List.mem_of_mem_take hp)
      · exact h p (List.mem_of_mem_drop hp)
    unfold putR delR swapR moveR
    unfold topN at ha
    repeat' split
    all_goals first
      | exact h
      | exact set_small h hv
      | exact hd
      | skip
    all_goals
      rename_i a b e1 e2 _ h3 _
      have ha1 : a ≤ topN := (dec_of_num e1).2
      unfold topN at ha1 h3
      exact set_small (set_small h (Nat.le_trans (dec_size (by omega)) (by omega))) (Nat.le_trans (dec_size (by omega)) (by omega))
  · exact h
def DoP (w : World) (g : Nat) (r : Option Nat) (xs : List It) (o : MOp) (E : Ending) (w' : World) : Prop :=
  E = .returned (.agg (repC (doR xs o).1).toArray) ∧ ∃ r' c', Sys w' g r' c' (doR xs o).2 ∧ Own w (On g r) w' (On g r')
theorem Sys.next {w w' : World} {g : Nat} {r r' : Option Nat} {c c' : Nat} {xs : List It} (h : Sys w g r c xs) (o : MOp) (hl : Led w' g r' c' (doR xs o).2) (ho : Own w (On g r) w' (On g r')) : Sys w' g r' c' (doR xs o).2 :=
  ⟨hl, h.vars.kept fun k hk => ho.1.block k (by have := h.vars.low; omega) fun e => by have := h.low k e; omega, fun k hk => by
    rcases ho.2 k hk with e | e
    · exact h.low k e
    · have := h.vars.low; omega, do_rise h.rise o, do_len h.len h.rise o, do_small h.small o⟩
theorem do_core {w : World} {g : Nat} {r : Option Nat} {c : Nat} {xs : List It} (h : Sys w g r c xs) (o : MOp) : Calls Tryd.prog 28 #[.pointer (some ⟨g, 0, none⟩), .agg (opC o).toArray] w fun E w' => OpP w g r (doR xs o) E w' := by
  have hn : xs.length ≤ 900 := Nat.le_trans h.len (by omega)
  cases hm : mayOp o with
  | true =>
    have hle : ∀ {W : World}, At w g r o W r c xs → Led W g r c xs := fun H => H.led
    have d1 : doR xs o = if o.kind = 1 then (getR xs o, xs) else if o.kind = 2 then putR xs o else if o.kind = 3 then delR xs o else if o.kind = 4 then swapR xs o else moveR xs o := by rw [doR, if_pos hm]
    rcases may_kind hm with e | e | e | e | e
    · rw [d1, if_pos e]
      exact do_1 h.led o (by rw [e]; rfl) hm _ fun W H => get_any H.led h.rise hn o
    · rw [d1, if_neg (by rw [e]; decide), if_pos e]
      exact do_2 h.led o (by rw [e]; rfl) hm _ fun W H => put_any H.led h.rise hn o
    · rw [d1, if_neg (by rw [e]; decide), if_neg (by rw [e]; decide), if_pos e]
      exact do_3 h.led o (by rw [e]; rfl) hm _ fun W H => remove_any H.led h.rise hn o
    · rw [d1, if_neg (by rw [e]; decide), if_neg (by rw [e]; decide), if_neg (by rw [e]; decide), if_pos e]
      exact do_4 h.led o (by rw [e]; rfl) hm _ fun W H => swap_any H.led h.rise hn o
    · rw [d1, if_neg (by rw [e]; decide), if_neg (by rw [e]; decide), if_neg (by rw [e]; decide), if_neg (by rw [e]; decide)]
      exact do_5 h.led o (by rw [e]; rfl) hm _ fun W H => move_any H.led h.rise hn o (may_val hm).2 (fun k => Nat.le_trans (val_small h.small k) (by omega)) (H.vars h.vars h.low) h.low
  | false =>
    have hd : doR xs o = (no 1, xs) := by rw [doR, hm]; rfl
    rw [hd]
    have H0 := Lib.hid (At.start h.led o)
    have HM : Hid (∀ W, Calls Tryd.prog 40 #[.agg (opC o).toArray] W fun E w' => E = .returned (.bool false) ∧ Below W.heap.size W w') := Lib.hid fun W => (may_any o W).mono fun E w' h => by rw [hm] at h; exact h
    have HI : Hid ((Tryd.prog.info? 34).map (·.size) = some (opC o).length) := Lib.hid Tryd.is34
    clear hd hm h hn
    go_enter Tryd.func28, Tryd.ntmps28
    go_wp2_with (first
      | ((with_reducible refine wpList_load_midG ?_ 34 (.tmp 3) ?_ w.heap.size 0 ?_ (opC o) _ ?_ Tryd.underlying34 ?_ ?_ ?_); rotate_left; (· rfl); (· rfl); (· exact range_all H0.out.op); (· rfl); (· exact HI.out); rotate_left; (· rfl))
      | (go_at_call 40; refine (HM.out _).mono ?_))
    rintro E w1 ⟨rfl, b1⟩
    have H1 := Lib.hid (H0.out.below b1)
    clear H0 b1
    go_wp2_with (go_at_call 39; refine (refused_any 1 _).mono ?_)
    rintro E w2 ⟨rfl, b2⟩
    have H2 := Lib.hid (H1.out.below b2)
    clear H1 b2
    have HZ := Lib.hid (fun x y => H2.out.fin x y)
    obtain ⟨d0, d1, f0, f1⟩ := H2.out.out
    go_wp2_with fail
    (try simp only [Exit.inBlock, Exit.then]); refine bodyPost_ret (ret_range (g := w.heap.size + 1) rfl rfl (range_all (HZ.out _ _).1) Tryd.underlying29 rfl Tryd.is29) rfl ?_
    exact ⟨rfl, (HZ.out _ _).2⟩
theorem do_any {w : World} {g : Nat} {r : Option Nat} {c : Nat} {xs : List It} (h : Sys w g r c xs) (o : MOp) : Calls Tryd.prog 28 #[.pointer (some ⟨g, 0, none⟩), .agg (opC o).toArray] w fun E w' => DoP w g r xs o E w' :=
  (do_core h o).mono fun _ _ ⟨he, r', c', hl, ho⟩ => ⟨he, r', c', h.next o hl ho, ho⟩
theorem do_nil (o : MOp) (w : World) : Calls Tryd.prog 28 #[.pointer none, .agg (opC o).toArray] w fun E w' => E = .returned (.agg (repC (no 2)).toArray) ∧ Below w.heap.size w w' := by
  have hb : Below w.heap.size w ((w.alloc (.cells (opC o).toArray 34)).alloc (.cells [.int .i64 0, .string ByteArray.empty].toArray 29)) := ((Below.refl _ _).alloc (Nat.le_refl _) _).alloc (by simp) _
  have hr := two_new w (.cells (opC o).toArray 34) [.int .i64 0, .string ByteArray.empty] 29
  have HB : Hid (∀ W, Below ((w.alloc (.cells (opC o).toArray 34)).alloc (.cells [.int .i64 0, .string ByteArray.empty].toArray 29)).heap.size ((w.alloc (.cells (opC o).toArray 34)).alloc (.cells [.int .i64 0, .string ByteArray.empty].toArray 29)) W → W.heap[w.heap.size + 1]? = some (.cells [.int .i64 0, .string ByteArray.empty].toArray 29 (0, 0)) ∧ Below w.heap.size w W) := Lib.hid fun W h => ⟨(h.block _ (by simp)).trans hr, hb.trans (h.mono hb.size)⟩
  clear hb hr
  go_enter Tryd.func28, Tryd.ntmps28
  go_wp2_with (go_at_call 39; refine (refused_any 2 _).mono ?_)
  rintro E w2 ⟨rfl, b2⟩
  obtain ⟨h1, h2⟩ := HB.out w2 b2
  have d0 : w2.cell? ⟨w.heap.size + 1, 0, none⟩ = some (.int .i64 0) := block_cell h1 0 _ rfl
  have d1 : w2.cell? ⟨w.heap.size + 1, 1, none⟩ = some (.string ByteArray.empty) := block_cell h1 1 _ rfl
  have f0 := free_block h1 0
  have f1 := free_block h1 1
  have HZ : Hid (∀ x y, ((w2.setCell ⟨w.heap.size + 1, 0, none⟩ x).setCell ⟨w.heap.size + 1, 1, none⟩ y).heap[w.heap.size + 1]? = some (.cells [x, y].toArray 29 (0, 0)) ∧ Below w.heap.size w ((w2.setCell ⟨w.heap.size + 1, 0, none⟩ x).setCell ⟨w.heap.size + 1, 1, none⟩ y)) :=
    Lib.hid fun x y => ⟨pair_store h1 x y, Turns.below (S := fun _ => False) (((Turns.of_below h2).setCell (.inr (by omega)) _ _).setCell (.inr (by omega)) _ _) (Nat.le_refl _) (fun _ h => h.elim)⟩
  clear h1 h2 b2 HB
  go_wp2_with fail
  (try simp only [Exit.inBlock, Exit.then]); refine bodyPost_ret (ret_range (g := w.heap.size + 1) rfl rfl (range_all (HZ.out _ _).1) Tryd.underlying29 rfl Tryd.is29) rfl ?_
  exact ⟨rfl, (HZ.out _ _).2⟩
open Go.RowKit
set_option maxRecDepth 100000

theorem rw_of_own {w : World} {B : Nat} {v : Value} {xs : List It} (h : w.ownsRow B 81 2 v xs.length (itC xs)) : ∃ r c, v = .slice (slA r) xs.length c ∧ Rw w r c xs ∧ ∀ b, r = some b → B ≤ b := by
  obtain ⟨_, h⟩ := h
  rcases h with ⟨rfl, hn⟩ | ⟨b, cap, cur, rfl, hB, hb, hn, hc, hs, ht⟩
  · obtain rfl : xs = [] := List.eq_nil_of_length_eq_zero hn
    exact ⟨none, 0, rfl, ⟨rfl, rfl⟩, fun b e => by cases e⟩
  · refine ⟨some b, cap, rfl, Rw.of_blk (C := cur.toList) (show w.heap[b]? = _ by simpa using hb) (by simpa using hs) hn (by unfold maxLen at hc; omega) ht, fun b' e => ?_⟩
    injection e with e
    rw [← e]
    exact hB
def ListP (w : World) (xs : List It) (E : Ending) (w' : World) : Prop := ∃ r c, E = .returned (.slice (slA r) xs.length c) ∧ Rw w' r c xs ∧ (∀ b, r = some b → w.heap.size ≤ b) ∧ Below w.heap.size w w'
set_option maxHeartbeats 2000000 in
theorem clone_some {w : World} {b o c : Nat} {xs : List It} (hl : xs.length ≤ 1000) (hx : ∀ j u, (itC xs)[j]? = some u → w.cell? ⟨b, o + j, none⟩ = some u) :
    Calls Tryd.prog 38 #[.slice (some ⟨b, o, none⟩) xs.length c] w fun E w' => ListP w xs E w' := by
  obtain ⟨i0, hi0, hz0, hzs, hzb⟩ := info_parts Tryd.info81
  have q22 : ∀ (w : World) (a : Option Addr) (n c n' c' : Nat), (binOp .eql 45 (.slice a n c) (.slice none n' c')).run Tryd.prog w = .ok (.bool a.isNone) w := fun w a n c n' c' => Lib.run_eql_slice_nil w _ _ a n c n' c' Tryd.underlying45
  have H1 : Hid (∀ j u, (itC xs)[j]? = some u → (w.alloc (.cells #[] 81)).cell? ((⟨b, o, none⟩ : Addr).add j) = some u) := Lib.hid fun j u hj => by
    rw [Addr.add_lit]
    exact Lib.cell?_alloc_some _ (hx j u hj)
  have H2 := Lib.hid (itC_length xs)
  have H3 := Lib.hid (itC_one xs)
  have HF : Hid (∀ v' w', w'.ownsRow w.heap.size 81 2 v' (0 + xs.length) ([] ++ itC xs) → (w.alloc (.cells #[] 81)).grownBy w' (some w.heap.size) → ListP w xs (.returned v') w') := Lib.hid fun v' w' h g => by
    rw [Nat.zero_add, List.nil_append] at h
    obtain ⟨r, c, rfl, hr, hb⟩ := rw_of_own h
    exact ⟨r, c, rfl, hr, hb, ((Below.refl _ w).alloc (Nat.le_refl _) _).grown g (by simp) (by intro k hk; injection hk with hk; omega)⟩
  obtain ⟨n, hn⟩ : ∃ n, n = xs.length := ⟨_, rfl⟩
  rw [← hn] at H2 HF hl ⊢
  clear hx hn
  go_enter Tryd.func38, Tryd.ntmps38
  go_wp2_with (at_builtin; refine wpList_append_own _ rfl _ _ 45 rfl w.heap.size 81 i0 _ 2 32 Tryd.underlying45 hi0 hz0 hzs hzb (by simp [Value.cells]) (by omega) _ 0 [] rfl (World.ownsRow_made w #[] 0 (Nat.le_refl _) (Nat.zero_le _) (by simp)) ⟨b, o, none⟩ n c (itC xs) rfl H2.out H1.out H3.out (by unfold maxLen; omega) (by omega) (by simp) ?_; intro v' w1 hown hgrow hnil)
  go_ret
  exact HF.out _ _ hown hgrow
theorem clone_nil (n c : Nat) (w : World) : Calls Tryd.prog 38 #[.slice none n c] w fun E w' => E = .returned (.slice none 0 0) ∧ w = w' := by
  have q22 : ∀ (w : World) (a : Option Addr) (n c n' c' : Nat), (binOp .eql 45 (.slice a n c) (.slice none n' c')).run Tryd.prog w = .ok (.bool a.isNone) w := fun w a n c n' c' => Lib.run_eql_slice_nil w _ _ a n c n' c' Tryd.underlying45
  go_enter Tryd.func38, Tryd.ntmps38
  go_wp2_with fail
  go_ret
  exact ⟨rfl, rfl⟩
theorem clone_rw {w : World} {r : Option Nat} {c : Nat} {xs : List It} (h : Rw w r c xs) (hl : xs.length ≤ 1000) : Calls Tryd.prog 38 #[.slice (slA r) xs.length c] w fun E w' => ListP w xs E w' := by
  cases r with
  | none =>
    refine (clone_nil _ _ w).mono ?_
    rintro E w' ⟨rfl, rfl⟩
    rw [h.2]
    exact ⟨none, 0, rfl, ⟨rfl, rfl⟩, fun b e => (by cases e), Below.refl _ _⟩
  | some b =>
    obtain ⟨R, hB, _⟩ := h.blk
    exact clone_some hl fun j u hj => by
      rw [Nat.zero_add]
      exact hB.cell (by rw [List.getElem?_append_left (List.getElem?_eq_some_iff.1 hj).1]; exact hj)
theorem list_any {w : World} {g : Nat} {r : Option Nat} {c : Nat} {xs : List It} (h : Led w g r c xs) (hl : xs.length ≤ 1000) : Calls Tryd.prog 25 #[.pointer (some ⟨g, 0, none⟩)] w fun E w' => ListP w xs E w' := by
  have HC := Lib.hid (clone_rw h.row hl)
  have c0 := h.cell
  clear h
  go_enter Tryd.func25, Tryd.ntmps25
  go_wp2_with (go_at_call 38; refine HC.out.mono ?_; rintro E w' ⟨r', c', rfl, hp⟩)
  go_ret
  exact ⟨r', c', rfl, hp⟩
theorem list_nil (w : World) : Calls Tryd.prog 25 #[.pointer none] w fun E w' => E = .returned (.slice none 0 0) ∧ w = w' := by
  go_enter Tryd.func25, Tryd.ntmps25
  go_wp2_with fail
  go_ret
  exact ⟨rfl, rfl⟩
theorem new_any {w : World} (hv : Vars w) : Calls Tryd.prog 15 #[] w fun E w' => E = .returned (.pointer (some ⟨w.heap.size, 0, none⟩)) ∧ Sys w' w.heap.size none 0 [] ∧ Below w.heap.size w w' := by
  have HF : Hid (Sys (w.alloc (.cells #[.slice none 0 0] 73)) w.heap.size none 0 [] ∧ Below w.heap.size w (w.alloc (.cells #[.slice none 0 0] 73))) := by
    have hb : Below w.heap.size w (w.alloc (.cells #[.slice none 0 0] 73)) := (Below.refl _ _).alloc (Nat.le_refl _) _
    have hlow := hv.low
    exact ⟨⟨⟨heap_alloc_new w _, rfl, rfl⟩, hv.below hb, (by rintro k (rfl | hk); exact hlow; cases hk), List.Pairwise.nil, Nat.zero_le _, (by intro p hp; cases hp)⟩, hb⟩
  go_enter Tryd.func15, Tryd.ntmps15
  go_wp2_with fail
  go_ret
  exact ⟨rfl, HF.out⟩

theorem Sys.apart {W : World} {g : Nat} {r : Option Nat} {c : Nat} {ys : List It} (H : Sys W g r c ys) {k : Nat} {C : Array Value} {t : TypeId} (hk : W.heap[k]? = some (.cells C t (0, 0))) (h1 : t ≠ 73) (h2 : t ≠ 81) : ¬ On g r k := by
  rintro (rfl | rfl)
  · have e := H.led.top.symm.trans hk
    injection e with e
    injection e with e1 e2
    exact h1 e2.symm
  · obtain ⟨R, hB, _⟩ := H.led.row.blk
    have e := (show W.heap[k]? = _ from hB).symm.trans hk
    injection e with e
    injection e with e1 e2
    exact h2 e2.symm
theorem Sys.below {W W' : World} {g : Nat} {r : Option Nat} {c : Nat} {ys : List It} (H : Sys W g r c ys) (hb : Below W.heap.size W W') : Sys W' g r c ys :=
  ⟨H.led.below hb, H.vars.below hb, H.low, H.rise, H.len, H.small⟩
/-- While the chapter's example is gone through: the ledger, and the replies that are kept. -/
structure Wk (w : World) (g : Nat) (bs : List (Nat × Rep)) (W : World) (r : Option Nat) (c : Nat) (xs : List It) : Prop where
  sys : Sys W g r c xs
  bel : Below w.heap.size w W
  own : ∀ k, On g r k → w.heap.size ≤ k
  reps : ∀ p ∈ bs, W.heap[p.1]? = some (.cells (repC p.2).toArray 29 (0, 0))
theorem Wk.next {w : World} {g : Nat} {bs : List (Nat × Rep)} {W : World} {r : Option Nat} {c : Nat} {xs : List It} (H : Wk w g bs W r c xs) {o : MOp} {E : Ending} {W' : World} (h : DoP W g r xs o E W') {q : Rep} {ys : List It} (hq : doR xs o = (q, ys)) : E = .returned (.agg (repC q).toArray) ∧ ∃ r' c', Wk w g bs W' r' c' ys := by
  obtain ⟨he, r', c', hs, ho⟩ := h
  rw [hq] at he hs
  refine ⟨he, r', c', hs, ?_, fun k hk => ?_, fun p hp => ?_⟩
  · exact H.bel.trans (ho.1.below H.bel.size H.own)
  · rcases ho.2 k hk with e | e
    · exact H.own k e
    · exact Nat.le_trans H.bel.size e
  · have h0 := H.reps p hp
    exact (ho.1.block _ (Array.getElem?_eq_some_iff.1 h0).1 (H.sys.apart h0 (by decide) (by decide))).trans h0
theorem Wk.box {w : World} {g : Nat} {bs : List (Nat × Rep)} {W : World} {r : Option Nat} {c : Nat} {xs : List It} (H : Wk w g bs W r c xs) (q : Rep) : Wk w g ((W.heap.size, q) :: bs) (W.alloc (.cells (repC q).toArray 29)) r c xs := by
  have hb : Below W.heap.size W (W.alloc (.cells (repC q).toArray 29)) := (Below.refl _ _).alloc (Nat.le_refl _) _
  refine ⟨H.sys.below hb, H.bel.trans (hb.mono H.bel.size), H.own, fun p hp => ?_⟩
  rcases List.mem_cons.1 hp with rfl | hp
  · exact heap_alloc_new W _
  · have h0 := H.reps p hp
    exact (hb.block _ (Array.getElem?_eq_some_iff.1 h0).1).trans h0
theorem Wk.bel' {w : World} {g : Nat} {bs : List (Nat × Rep)} {W W' : World} {r : Option Nat} {c : Nat} {xs : List It} (H : Wk w g bs W r c xs) (hb : Below W.heap.size W W') : Wk w g bs W' r c xs :=
  ⟨H.sys.below hb, H.bel.trans (hb.mono H.bel.size), H.own, fun p hp => (hb.block _ (Array.getElem?_eq_some_iff.1 (H.reps p hp)).1).trans (H.reps p hp)⟩
theorem Wk.do {w : World} {g : Nat} {bs : List (Nat × Rep)} {W : World} {r : Option Nat} {c : Nat} {xs : List It} (H : Wk w g bs W r c xs) (o : MOp) (q : Rep) (ys : List It) (hq : doR xs o = (q, ys)) : Calls Tryd.prog 28 #[.pointer (some ⟨g, 0, none⟩), .agg (opC o).toArray] W fun E w' => E = .returned (.agg (repC q).toArray) ∧ ∃ r' c', Wk w g bs w' r' c' ys :=
  (do_any H.sys o).mono fun _ _ h => H.next h hq
open Go.RowKit
set_option maxRecDepth 100000

/-- At the address lie the operations, one behind the other. -/
def Ops (w : World) (A : Option Addr) (os : List MOp) : Prop :=
  0 < os.length → ∃ b o, A = some ⟨b, o, none⟩ ∧ b < w.heap.size ∧ ∀ j p, os[j]? = some p → w.rangeAt b (o + j * 6) (opC p)
theorem Ops.below {w w' : World} {A : Option Addr} {os : List MOp} (h : Ops w A os) (hb : Below w.heap.size w w') : Ops w' A os := fun hn =>
  let ⟨b, o, hA, hl, hc⟩ := h hn
  ⟨b, o, hA, Nat.lt_of_lt_of_le hl hb.size, fun j p hp k v hv => (hb.cell (p := ⟨b, o + j * 6 + k, none⟩) hl).trans (hc j p hp k v hv)⟩
set_option maxHeartbeats 4000000 in
theorem few_any (A : Option Addr) (c : Nat) (os : List MOp) (w : World) (h : Ops w A os) (hn : os.length ≤ 140737488355328) :
    Calls Tryd.prog 10 #[.slice A os.length c] w fun E w' => (∃ z, E = .returned (.bool z) ∧ (z = true → os.length ≤ 150)) ∧ Below w.heap.size w w' := by
  have HX := Lib.hid h
  obtain ⟨n, hnn⟩ : ∃ n, n = os.length := ⟨_, rfl⟩
  have HL := Lib.hid hnn
  rw [← hnn] at hn ⊢
  clear h hnn
  have HB0 := Lib.hid (Below.refl w.heap.size w)
  by_cases h150 : n ≤ 150
  · have h1 : ¬ ((n : Int) > 150) := by omega
    have h2 : ¬ (150 < (n : Int)) := by omega
    have HR : Hid (∀ z : Bool, (∃ y, Ending.returned (.bool z) = .returned (.bool y) ∧ (y = true → n ≤ 150))) := Lib.hid fun z => ⟨z, rfl, fun _ => h150⟩
    go_enter Tryd.func10, Tryd.ntmps10
    go_wp2_with fail
    go_loopw [3] (fun v3 wr => ∃ j : Nat, j ≤ n ∧ v3 = .int .i64 (j : Int) ∧ Hid (Below w.heap.size w wr)) (fun v3 _ => n - (intOf v3).toNat)
    case atStart => exact ⟨0, by omega, rfl, HB0⟩
    case round =>
      obtain ⟨j, hj, rfl, HB⟩ := hrel
      by_cases hjj : j < n
      · obtain ⟨b, o, rfl, hbl, hc⟩ := HX.out (by rw [← HL.out]; omega)
        obtain ⟨p, hp⟩ : ∃ p, os[j]? = some p := ⟨_, List.getElem?_eq_getElem (by rw [← HL.out]; exact hjj)⟩
        have hcell : ∀ k v, (opC p)[k]? = some v → wr.cell? ⟨b, o + j * 6 + k, none⟩ = some v := fun k v hv => (HB.out.cell (p := ⟨b, o + j * 6 + k, none⟩) hbl).trans (hc j p hp k v hv)
        have c1 : wr.cell? ⟨b, o + j * 6 + 1, none⟩ = some (.string p.key) := hcell 1 _ rfl
        have c2 : wr.cell? ⟨b, o + j * 6 + 2, none⟩ = some (.string p.value) := hcell 2 _ rfl
        have c3 : wr.cell? ⟨b, o + j * 6 + 3, none⟩ = some (.string p.old) := hcell 3 _ rfl
        have c4 : wr.cell? ⟨b, o + j * 6 + 4, none⟩ = some (.string p.to) := hcell 4 _ rfl
        have hdec : decide ((j : Int) < (n : Int)) = true := decide_eq_true (by omega)
        have hw1 : IntKind.i64.wrap ((j : Int) + 1) = (j : Int) + 1 := by rw [IntKind.wrap_i64]; omega
        have hj0 : (0 : Int) ≤ (j : Int) := by omega
        have hjn : (j : Int) < (n : Int) := by omega
        have htn : ((j : Int)).toNat = j := by omega
        obtain ⟨s1, h1⟩ : ∃ s, IntKind.i64.wrap ((p.key.size : Int) + (p.value.size : Int)) = s := ⟨_, rfl⟩
        obtain ⟨s2, h2⟩ : ∃ s, IntKind.i64.wrap (s1 + (p.old.size : Int)) = s := ⟨_, rfl⟩
        obtain ⟨s3, h3⟩ : ∃ s, IntKind.i64.wrap (s2 + (p.to.size : Int)) = s := ⟨_, rfl⟩
        clear hcell hc hp
        have HB2 : Hid (∀ q, Below w.heap.size w (wr.drewN q)) := Lib.hid fun q => below_drewN HB.out q
        by_cases hs : 2000 < s3
        · go_wp2_with fail
          go_quiet (fail)
          go_wp2_with fail
          go_ret
          exact ⟨HR.out false, HB2.out _⟩
        · go_wp2_with fail
          go_quiet (fail)
          go_wp2_with fail
          go_roundw
          case measure => simp [intOf] <;> omega
          case rel => exact ⟨j + 1, by omega, by go_num, HB2.out _⟩
      · obtain rfl : j = n := by omega
        go_wp2_with fail
        go_ret
        exact ⟨HR.out true, HB.out⟩
  · have h1 : (n : Int) > 150 := by omega
    have h2 : (150 < (n : Int)) := by omega
    go_enter Tryd.func10, Tryd.ntmps10
    go_wp2_with fail
    go_ret
    exact ⟨⟨false, rfl, fun h => by cases h⟩, HB0.out⟩
end Go.Proofs.YtpageppjngbnpaaDoor
