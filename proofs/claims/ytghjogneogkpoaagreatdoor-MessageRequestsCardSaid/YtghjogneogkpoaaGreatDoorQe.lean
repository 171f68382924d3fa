/-
  What is proved: whether any request may be, and its tag, are the document's (MessageRequests). Conditions as stated.
-/
import Derived.Test.YtghjogneogkpoaaGreatDoorQd
import Derived.Test.YtghjogneogkpoaaGreatDoorVA
import Derived.Test.YtghjogneogkpoaaGreatDoorVB
namespace Go.Proofs.YtghjogneogkpoaaGreatDoor.Sh
open Go.RowKit
set_option maxRecDepth 100000


theorem exec_eql_agg {P : Program} {o : Oper} {f : Operand → Value} {w : World} (ty rt : TypeId) (x y : Operand) (ho : o.op = .binOp .eql ty x y rt) {a b : Array Value} (hx : f x = .agg a) (hy : f y = .agg b) (hg : P.eqGuardType P.depth ty = false) {z : Bool}
    (h : (Op.equalIn 10000 ty (.agg a) (.agg b)).run P w = .ok z w) : (execOp f o).run P w = .ok (.value (.bool z)) w := by
  have h' : (Op.equalIn Op.maxDepth ty (.agg a) (.agg b)).run P w = .ok z w := h
  unfold execOp
  simp only [ho, hx, hy]
  simp [eqGuard, binOp, Op.equal, Sem.run_bind, hg, h']
set_option maxHeartbeats 8000000 in
theorem requests_f (r q : MReq) (az uz : Bool) (w : World) (hr : r.tag.length = 32) (hx : r.tag.length = 32) (hqt : q.tag.length = 32) 
    (HA : Hid (∀ W, Below w.heap.size w W → Calls Tryz.prog 27 #[.agg (reqC r).toArray] W fun E w' => E = .returned (.bool az) ∧ Hid (Below W.heap.size W w')))
    (HB : Hid (∀ W, Below w.heap.size w W → Calls Tryz.prog 28 #[.agg (reqC r).toArray] W fun E w' => E = .returned (.bool az) ∧ Hid (Below W.heap.size W w')))
    (HC : Hid (∀ W, Below w.heap.size w W → Calls Tryz.prog 29 #[.agg (reqC r).toArray] W fun E w' => E = .returned (.agg (reqC q).toArray) ∧ Hid (Below W.heap.size W w')))
    (HD : Hid (∀ W, Below w.heap.size w W → Calls Tryz.prog 26 #[.agg (reqC r).toArray] W fun E w' => E = .returned (.agg (reqC q).toArray) ∧ Hid (Below W.heap.size W w')))
    (HE : Hid (∀ W, Below w.heap.size w W → Calls Tryz.prog 30 #[.agg (reqC r).toArray] W fun E w' => E = .returned (.bool uz) ∧ Hid (Below W.heap.size W w')))
    (HF : Hid (∀ W, Below w.heap.size w W → Calls Tryz.prog 31 #[.agg (reqC r).toArray] W fun E w' => E = .returned (.bool uz) ∧ Hid (Below W.heap.size W w')))
    (HW : Hid (∀ W, Below w.heap.size w W → Calls Tryz.prog 11 #[] W fun E w' => E = .returned (.bool true) ∧ Hid (Below W.heap.size W w'))) :
    Calls Tryz.prog 5 #[.agg (reqC r).toArray, .bool false] w fun E w' => E = .returned (.bool true) ∧ Below w.heap.size w w' := by
  have L := req_lies (range_box w (reqC r) 29)
  have c1 : (w.alloc (.cells (reqC r).toArray 29)).cell? ⟨w.heap.size, 3, none⟩ = some (.string r.op.key) := L.op.key
  have c2 : (w.alloc (.cells (reqC r).toArray 29)).cell? ⟨w.heap.size, 4, none⟩ = some (.string r.op.value) := L.op.value
  have c3 : (w.alloc (.cells (reqC r).toArray 29)).cell? ⟨w.heap.size, 5, none⟩ = some (.string r.op.old) := L.op.old
  have c4 : (w.alloc (.cells (reqC r).toArray 29)).cell? ⟨w.heap.size, 6, none⟩ = some (.string r.op.to) := L.op.to
  have HI : Hid ((Tryz.prog.info? 29).map (·.size) = some (reqC r).length) := Lib.hid (by rw [reqC_length hr]; exact Tryz.is29)
  have HIX : Hid ((Tryz.prog.info? 29).map (·.size) = some (reqC r).length) := Lib.hid (by rw [reqC_length hx]; exact Tryz.is29)
  have HQQ : Hid (∀ W, (Op.equalIn 10000 29 (.agg (reqC q).toArray) (.agg (reqC q).toArray)).run Tryz.prog W = .ok true W) := Lib.hid fun W => eq_req_of (d := 9997) q q hqt hqt (by simp) W
  have H0 : Hid (RqAt w.heap.size w (reqC r) (w.alloc (.cells (reqC r).toArray 29))) := Lib.hid ⟨(Below.refl _ _).alloc (Nat.le_refl _) _, by simp, range_box w (reqC r) 29⟩
  have HLT : Hid (0 + (reqC r).length ≤ (reqC r).length ∧ setAll (reqC r) 0 (reqC r) = reqC r) := Lib.hid ⟨by have e1 := reqC_length hr; have e2 := reqC_length hx; omega, setAll_all ((reqC_length hr).trans (reqC_length hx).symm)⟩
  clear L hr hx hqt
  obtain ⟨s1, h1⟩ : ∃ s, IntKind.i64.wrap ((r.op.key.size : Int) + (r.op.value.size : Int)) = s := ⟨_, rfl⟩
  obtain ⟨s2, h2⟩ : ∃ s, IntKind.i64.wrap (s1 + (r.op.old.size : Int)) = s := ⟨_, rfl⟩
  obtain ⟨s3, h3⟩ : ∃ s, IntKind.i64.wrap (s2 + (r.op.to.size : Int)) = s := ⟨_, rfl⟩
  by_cases hs : s3 > 4096
  · go_enter Tryz.func5, Tryz.ntmps5
    go_wp2_with (go_at_call 11; refine (HW.out _ H0.out.bel).mono ?_; rintro E w1 ⟨rfl, b1⟩; have H1 := Lib.hid (H0.out.next (Nat.le_refl _) b1.out))
    go_ret
    exact ⟨rfl, H1.out.bel⟩
  · go_enter Tryz.func5, Tryz.ntmps5
    go_wp2_with fail
    refine wp_region_any (by kernel_rfl) ?_
    have H3 := Lib.hid (H0.out.drewN 1)
    change wpAny _ _ _ _ _ _ _ ((w.alloc (.cells (reqC r).toArray 29)).drewN 1)
    generalize (w.alloc (.cells (reqC r).toArray 29)).drewN 1 = w3 at H3 ⊢
    refine wpAny_of_held (S := fun W => W.rangeAt w.heap.size 0 (reqC r)) _ _ _ _ ?_
    refine wpAnyH_take (i := 0) (oi := { dst := some 29, op := Op.load 29 (Operand.tmp 2), type := 29, pos := "law.go:57", after := #[], guard := none }) (v := .agg (reqC r).toArray) rfl (by kernel_rfl) (by kernel_rfl) (by kernel_rfl) (fun _ _ _ h => h) (Or.inl ⟨by kernel_rfl, fun W hSW => exec_load_mid 29 (.tmp 2) rfl w.heap.size 0 rfl (reqC r) _ (hSW) Tryz.underlying29 rfl (HIX.out)⟩) (H3.out.src) ?_
    try simp only [Act.put, List.setIfInBounds_toArray, List.set_cons_zero, List.set_cons_succ]
    refine wpAnyH_take (i := 2) (oi := { dst := some 31, op := Op.load 29 (Operand.tmp 2), type := 29, pos := "law.go:57", after := #[], guard := none }) (v := .agg (reqC r).toArray) rfl (by kernel_rfl) (by kernel_rfl) (by kernel_rfl) (fun _ _ _ h => h) (Or.inl ⟨by kernel_rfl, fun W hSW => exec_load_mid 29 (.tmp 2) rfl w.heap.size 0 rfl (reqC r) _ (hSW) Tryz.underlying29 rfl (HIX.out)⟩) (H3.out.src) ?_
    try simp only [Act.put, List.setIfInBounds_toArray, List.set_cons_zero, List.set_cons_succ]
    refine wpAnyH_ready (rs := [1]) (by kernel_rfl) (by simp) ?_
    refine AllReadyH.cons (o := { dst := some 30, op := Op.call { callee := Callee.value (Operand.func 27), args := #[Operand.tmp 29], argTypes := #[29] }, type := 4, pos := "law.go:57", after := #[{ on := 0, ground := Ground.data }], guard := none }) rfl (fun K' hK' => ?_) AllReadyH.nil
    go_simp
    go_at_call 27
    refine (HA.out w3 H3.out.bel).mono ?_
    rintro E w4 ⟨rfl, b4⟩
    have H4 := Lib.hid (H3.out.next (Nat.le_refl _) b4.out)
    refine hK'.out _ _ (H4.out.src) (fun _ => ?_)
    clear hK' K'
    try simp only [Act.put, List.setIfInBounds_toArray, List.set_cons_zero, List.set_cons_succ]
    refine wpAnyH_ready (rs := [3]) (by kernel_rfl) (by simp) ?_
    refine AllReadyH.cons (o := { dst := some 32, op := Op.call { callee := Callee.value (Operand.func 28), args := #[Operand.tmp 31], argTypes := #[29] }, type := 4, pos := "law.go:57", after := #[{ on := 2, ground := Ground.data }, { on := 1, ground := Ground.chain }], guard := none }) rfl (fun K' hK' => ?_) AllReadyH.nil
    go_simp
    go_at_call 28
    refine (HB.out w4 H4.out.bel).mono ?_
    rintro E w5 ⟨rfl, b5⟩
    have H5 := Lib.hid (H4.out.next (Nat.le_refl _) b5.out)
    refine hK'.out _ _ (H5.out.src) (fun _ => ?_)
    clear hK' K'
    try simp only [Act.put, List.setIfInBounds_toArray, List.set_cons_zero, List.set_cons_succ]
    refine wpAnyH_take (i := 4) (oi := { dst := some 33, op := Op.binOp BinOp.eql 4 (Operand.tmp 30) (Operand.tmp 32) 4, type := 4, pos := "law.go:57", after := #[{ on := 1, ground := Ground.data }, { on := 3, ground := Ground.data }], guard := none }) (v := .bool true) rfl (by kernel_rfl) (by kernel_rfl) (by kernel_rfl) (fun _ _ _ h => h) (Or.inl ⟨by kernel_rfl, fun W hSW => by go_simp⟩) (H5.out.src) ?_
    try simp only [Act.put, List.setIfInBounds_toArray, List.set_cons_zero, List.set_cons_succ]
    refine wpAnyH_take (i := 5) (oi := { dst := some 34, op := Op.move (Operand.tmp 33), type := 4, pos := "law.go:57", after := #[{ on := 4, ground := Ground.data }, { on := 3, ground := Ground.chain }], guard := none }) (v := .bool true) rfl (by kernel_rfl) (by kernel_rfl) (by kernel_rfl) (fun _ _ _ h => h) (Or.inl ⟨by kernel_rfl, fun W hSW => by go_simp⟩) (H5.out.src) ?_
    try simp only [Act.put, List.setIfInBounds_toArray, List.set_cons_zero, List.set_cons_succ]
    refine wpAnyH_take (i := 6) (oi := { dst := some 35, op := Op.load 29 (Operand.tmp 2), type := 29, pos := "law.go:57", after := #[{ on := 5, ground := Ground.guard }], guard := some (5, true) }) (v := .agg (reqC r).toArray) rfl (by kernel_rfl) (by kernel_rfl) (by kernel_rfl) (fun _ _ _ h => h) (Or.inl ⟨by kernel_rfl, fun W hSW => exec_load_mid 29 (.tmp 2) rfl w.heap.size 0 rfl (reqC r) _ (hSW) Tryz.underlying29 rfl (HIX.out)⟩) (H5.out.src) ?_
    try simp only [Act.put, List.setIfInBounds_toArray, List.set_cons_zero, List.set_cons_succ]
    refine wpAnyH_take (i := 8) (oi := { dst := some 37, op := Op.load 29 (Operand.tmp 2), type := 29, pos := "law.go:57", after := #[{ on := 5, ground := Ground.guard }], guard := some (5, true) }) (v := .agg (reqC r).toArray) rfl (by kernel_rfl) (by kernel_rfl) (by kernel_rfl) (fun _ _ _ h => h) (Or.inl ⟨by kernel_rfl, fun W hSW => exec_load_mid 29 (.tmp 2) rfl w.heap.size 0 rfl (reqC r) _ (hSW) Tryz.underlying29 rfl (HIX.out)⟩) (H5.out.src) ?_
    try simp only [Act.put, List.setIfInBounds_toArray, List.set_cons_zero, List.set_cons_succ]
    refine wpAnyH_ready (rs := [7]) (by kernel_rfl) (by simp) ?_
    refine AllReadyH.cons (o := { dst := some 36, op := Op.call { callee := Callee.value (Operand.func 29), args := #[Operand.tmp 35], argTypes := #[29] }, type := 29, pos := "law.go:57", after := #[{ on := 6, ground := Ground.data }, { on := 5, ground := Ground.chain }, { on := 5, ground := Ground.guard }], guard := some (5, true) }) rfl (fun K' hK' => ?_) AllReadyH.nil
    go_simp
    go_at_call 29
    refine (HC.out w5 H5.out.bel).mono ?_
    rintro E w6 ⟨rfl, b6⟩
    have H6 := Lib.hid (H5.out.next (Nat.le_refl _) b6.out)
    refine hK'.out _ _ (H6.out.src) (fun _ => ?_)
    clear hK' K'
    try simp only [Act.put, List.setIfInBounds_toArray, List.set_cons_zero, List.set_cons_succ]
    refine wpAnyH_ready (rs := [9]) (by kernel_rfl) (by simp) ?_
    refine AllReadyH.cons (o := { dst := some 38, op := Op.call { callee := Callee.value (Operand.func 26), args := #[Operand.tmp 37], argTypes := #[29] }, type := 29, pos := "law.go:57", after := #[{ on := 8, ground := Ground.data }, { on := 7, ground := Ground.chain }, { on := 5, ground := Ground.guard }], guard := some (5, true) }) rfl (fun K' hK' => ?_) AllReadyH.nil
    go_simp
    go_at_call 26
    refine (HD.out w6 H6.out.bel).mono ?_
    rintro E w7 ⟨rfl, b7⟩
    have H7 := Lib.hid (H6.out.next (Nat.le_refl _) b7.out)
    refine hK'.out _ _ (H7.out.src) (fun _ => ?_)
    clear hK' K'
    try simp only [Act.put, List.setIfInBounds_toArray, List.set_cons_zero, List.set_cons_succ]
    refine wpAnyH_take (i := 10) (oi := { dst := some 39, op := Op.binOp BinOp.eql 29 (Operand.tmp 36) (Operand.tmp 38) 29, type := 4, pos := "law.go:57", after := #[{ on := 7, ground := Ground.data }, { on := 9, ground := Ground.data }, { on := 5, ground := Ground.guard }], guard := some (5, true) }) (v := .bool true) rfl (by kernel_rfl) (by kernel_rfl) (by kernel_rfl) (fun _ _ _ h => h) (Or.inl ⟨by kernel_rfl, fun W hSW => exec_eql_agg 29 29 (.tmp 36) (.tmp 38) rfl rfl rfl Tryz.guard29 (HQQ.out W)⟩) (H7.out.src) ?_
    try simp only [Act.put, List.setIfInBounds_toArray, List.set_cons_zero, List.set_cons_succ]
    refine wpAnyH_take (i := 11) (oi := { dst := some 40, op := Op.pick (Operand.tmp 34) (Operand.tmp 39) (Operand.const (Value.bool false)), type := 4, pos := "law.go:57", after := #[{ on := 5, ground := Ground.data }, { on := 10, ground := Ground.data }], guard := none }) (v := .bool true) rfl (by kernel_rfl) (by kernel_rfl) (by kernel_rfl) (fun _ _ _ h => h) (Or.inl ⟨by kernel_rfl, fun W hSW => by go_simp⟩) (H7.out.src) ?_
    try simp only [Act.put, List.setIfInBounds_toArray, List.set_cons_zero, List.set_cons_succ]
    refine wpAnyH_take (i := 12) (oi := { dst := some 41, op := Op.move (Operand.tmp 40), type := 4, pos := "law.go:57", after := #[{ on := 11, ground := Ground.data }, { on := 9, ground := Ground.chain }], guard := none }) (v := .bool true) rfl (by kernel_rfl) (by kernel_rfl) (by kernel_rfl) (fun _ _ _ h => h) (Or.inl ⟨by kernel_rfl, fun W hSW => by go_simp⟩) (H7.out.src) ?_
    try simp only [Act.put, List.setIfInBounds_toArray, List.set_cons_zero, List.set_cons_succ]
    refine wpAnyH_take (i := 13) (oi := { dst := some 42, op := Op.load 29 (Operand.tmp 2), type := 29, pos := "law.go:57", after := #[{ on := 12, ground := Ground.guard }], guard := some (12, true) }) (v := .agg (reqC r).toArray) rfl (by kernel_rfl) (by kernel_rfl) (by kernel_rfl) (fun _ _ _ h => h) (Or.inl ⟨by kernel_rfl, fun W hSW => exec_load_mid 29 (.tmp 2) rfl w.heap.size 0 rfl (reqC r) _ (hSW) Tryz.underlying29 rfl (HIX.out)⟩) (H7.out.src) ?_
    try simp only [Act.put, List.setIfInBounds_toArray, List.set_cons_zero, List.set_cons_succ]
    refine wpAnyH_take (i := 15) (oi := { dst := some 44, op := Op.load 29 (Operand.tmp 2), type := 29, pos := "law.go:57", after := #[{ on := 12, ground := Ground.guard }], guard := some (12, true) }) (v := .agg (reqC r).toArray) rfl (by kernel_rfl) (by kernel_rfl) (by kernel_rfl) (fun _ _ _ h => h) (Or.inl ⟨by kernel_rfl, fun W hSW => exec_load_mid 29 (.tmp 2) rfl w.heap.size 0 rfl (reqC r) _ (hSW) Tryz.underlying29 rfl (HIX.out)⟩) (H7.out.src) ?_
    try simp only [Act.put, List.setIfInBounds_toArray, List.set_cons_zero, List.set_cons_succ]
    refine wpAnyH_ready (rs := [14]) (by kernel_rfl) (by simp) ?_
    refine AllReadyH.cons (o := { dst := some 43, op := Op.call { callee := Callee.value (Operand.func 30), args := #[Operand.tmp 42], argTypes := #[29] }, type := 4, pos := "law.go:57", after := #[{ on := 13, ground := Ground.data }, { on := 12, ground := Ground.chain }, { on := 12, ground := Ground.guard }], guard := some (12, true) }) rfl (fun K' hK' => ?_) AllReadyH.nil
    go_simp
    go_at_call 30
    refine (HE.out w7 H7.out.bel).mono ?_
    rintro E w8 ⟨rfl, b8⟩
    have H8 := Lib.hid (H7.out.next (Nat.le_refl _) b8.out)
    refine hK'.out _ _ (H8.out.src) (fun _ => ?_)
    clear hK' K'
    try simp only [Act.put, List.setIfInBounds_toArray, List.set_cons_zero, List.set_cons_succ]
    refine wpAnyH_ready (rs := [16]) (by kernel_rfl) (by simp) ?_
    refine AllReadyH.cons (o := { dst := some 45, op := Op.call { callee := Callee.value (Operand.func 31), args := #[Operand.tmp 44], argTypes := #[29] }, type := 4, pos := "law.go:57", after := #[{ on := 15, ground := Ground.data }, { on := 14, ground := Ground.chain }, { on := 12, ground := Ground.guard }], guard := some (12, true) }) rfl (fun K' hK' => ?_) AllReadyH.nil
    go_simp
    go_at_call 31
    refine (HF.out w8 H8.out.bel).mono ?_
    rintro E w9 ⟨rfl, b9⟩
    have H9 := Lib.hid (H8.out.next (Nat.le_refl _) b9.out)
    refine hK'.out _ _ (H9.out.src) (fun _ => ?_)
    clear hK' K'
    try simp only [Act.put, List.setIfInBounds_toArray, List.set_cons_zero, List.set_cons_succ]
    refine wpAnyH_take (i := 17) (oi := { dst := some 46, op := Op.binOp BinOp.eql 4 (Operand.tmp 43) (Operand.tmp 45) 4, type := 4, pos := "law.go:57", after := #[{ on := 14, ground := Ground.data }, { on := 16, ground := Ground.data }, { on := 12, ground := Ground.guard }], guard := some (12, true) }) (v := .bool true) rfl (by kernel_rfl) (by kernel_rfl) (by kernel_rfl) (fun _ _ _ h => h) (Or.inl ⟨by kernel_rfl, fun W hSW => by go_simp⟩) (H9.out.src) ?_
    try simp only [Act.put, List.setIfInBounds_toArray, List.set_cons_zero, List.set_cons_succ]
    refine wpAnyH_take (i := 18) (oi := { dst := some 47, op := Op.pick (Operand.tmp 41) (Operand.tmp 46) (Operand.const (Value.bool false)), type := 4, pos := "law.go:57", after := #[{ on := 12, ground := Ground.data }, { on := 17, ground := Ground.data }], guard := none }) (v := .bool true) rfl (by kernel_rfl) (by kernel_rfl) (by kernel_rfl) (fun _ _ _ h => h) (Or.inl ⟨by kernel_rfl, fun W hSW => by go_simp⟩) (H9.out.src) ?_
    try simp only [Act.put, List.setIfInBounds_toArray, List.set_cons_zero, List.set_cons_succ]
    refine wpAnyH_take (i := 19) (oi := { dst := some 48, op := Op.move (Operand.tmp 47), type := 4, pos := "law.go:57", after := #[{ on := 18, ground := Ground.data }, { on := 16, ground := Ground.chain }], guard := none }) (v := .bool true) rfl (by kernel_rfl) (by kernel_rfl) (by kernel_rfl) (fun _ _ _ h => h) (Or.inl ⟨by kernel_rfl, fun W hSW => by go_simp⟩) (H9.out.src) ?_
    try simp only [Act.put, List.setIfInBounds_toArray, List.set_cons_zero, List.set_cons_succ]
    refine wpAnyH_ready (rs := [20]) (by kernel_rfl) (by simp) ?_
    refine AllReadyH.cons (o := { dst := some 49, op := Op.call { callee := Callee.value (Operand.func 11), args := #[], argTypes := #[] }, type := 4, pos := "law.go:57", after := #[{ on := 19, ground := Ground.chain }, { on := 19, ground := Ground.guard }], guard := some (19, true) }) rfl (fun K' hK' => ?_) AllReadyH.nil
    go_simp
    go_at_call 11
    refine (HW.out w9 H9.out.bel).mono ?_
    rintro E w10 ⟨rfl, b10⟩
    have H10 := Lib.hid (H9.out.next (Nat.le_refl _) b10.out)
    refine hK'.out _ _ (H10.out.src) (fun _ => ?_)
    clear hK' K'
    try simp only [Act.put, List.setIfInBounds_toArray, List.set_cons_zero, List.set_cons_succ]
    refine wpAnyH_take (i := 21) (oi := { dst := some 50, op := Op.pick (Operand.tmp 48) (Operand.tmp 49) (Operand.const (Value.bool false)), type := 4, pos := "law.go:57", after := #[{ on := 19, ground := Ground.data }, { on := 20, ground := Ground.data }], guard := none }) (v := .bool true) rfl (by kernel_rfl) (by kernel_rfl) (by kernel_rfl) (fun _ _ _ h => h) (Or.inl ⟨by kernel_rfl, fun W hSW => by go_simp⟩) (H10.out.src) ?_
    try simp only [Act.put, List.setIfInBounds_toArray, List.set_cons_zero, List.set_cons_succ]
    refine wpAnyH_take (i := 22) (oi := { dst := some 4, op := Op.assign (Operand.tmp 50), type := 4, pos := "law.go:57", after := #[{ on := 21, ground := Ground.data }, { on := 20, ground := Ground.chain }, { on := 0, ground := Ground.phase }, { on := 1, ground := Ground.phase }, { on := 2, ground := Ground.phase }, { on := 3, ground := Ground.phase }, { on := 4, ground := Ground.phase }, { on := 5, ground := Ground.phase }, { on := 6, ground := Ground.phase }, { on := 7, ground := Ground.phase }, { on := 8, ground := Ground.phase }, { on := 9, ground := Ground.phase }, { on := 10, ground := Ground.phase }, { on := 11, ground := Ground.phase }, { on := 12, ground := Ground.phase }, { on := 13, ground := Ground.phase }, { on := 14, ground := Ground.phase }, { on := 15, ground := Ground.phase }, { on := 16, ground := Ground.phase }, { on := 17, ground := Ground.phase }, { on := 18, ground := Ground.phase }, { on := 19, ground := Ground.phase }, { on := 20, ground := Ground.phase }, { on := 21, ground := Ground.phase }], guard := none }) (v := .bool true) rfl (by kernel_rfl) (by kernel_rfl) (by kernel_rfl) (fun _ _ _ h => h) (Or.inl ⟨by kernel_rfl, fun W hSW => by go_simp⟩) (H10.out.src) ?_
    try simp only [Act.put, List.setIfInBounds_toArray, List.set_cons_zero, List.set_cons_succ]
    refine wpAnyH_done (by kernel_rfl) ?_ _
    go_wp2_with fail
    go_ret
    exact ⟨rfl, H10.out.bel⟩
set_option maxHeartbeats 8000000 in
theorem requests_t (r x q : MReq) (az uz : Bool) (w : World) (hr : r.tag.length = 32) (hx : x.tag.length = 32) (hqt : q.tag.length = 32) 
    (HO : Hid (∀ W, Below w.heap.size w W → Calls Tryz.prog 26 #[.agg (reqC r).toArray] W fun E w' => E = .returned (.agg (reqC x).toArray) ∧ Hid (Below W.heap.size W w')))
    (HA : Hid (∀ W, Below w.heap.size w W → Calls Tryz.prog 27 #[.agg (reqC x).toArray] W fun E w' => E = .returned (.bool az) ∧ Hid (Below W.heap.size W w')))
    (HB : Hid (∀ W, Below w.heap.size w W → Calls Tryz.prog 28 #[.agg (reqC x).toArray] W fun E w' => E = .returned (.bool az) ∧ Hid (Below W.heap.size W w')))
    (HC : Hid (∀ W, Below w.heap.size w W → Calls Tryz.prog 29 #[.agg (reqC x).toArray] W fun E w' => E = .returned (.agg (reqC q).toArray) ∧ Hid (Below W.heap.size W w')))
    (HD : Hid (∀ W, Below w.heap.size w W → Calls Tryz.prog 26 #[.agg (reqC x).toArray] W fun E w' => E = .returned (.agg (reqC q).toArray) ∧ Hid (Below W.heap.size W w')))
    (HE : Hid (∀ W, Below w.heap.size w W → Calls Tryz.prog 30 #[.agg (reqC x).toArray] W fun E w' => E = .returned (.bool uz) ∧ Hid (Below W.heap.size W w')))
    (HF : Hid (∀ W, Below w.heap.size w W → Calls Tryz.prog 31 #[.agg (reqC x).toArray] W fun E w' => E = .returned (.bool uz) ∧ Hid (Below W.heap.size W w')))
    (HW : Hid (∀ W, Below w.heap.size w W → Calls Tryz.prog 11 #[] W fun E w' => E = .returned (.bool true) ∧ Hid (Below W.heap.size W w'))) :
    Calls Tryz.prog 5 #[.agg (reqC r).toArray, .bool true] w fun E w' => E = .returned (.bool true) ∧ Below w.heap.size w w' := by
  have L := req_lies (range_box w (reqC r) 29)
  have c1 : (w.alloc (.cells (reqC r).toArray 29)).cell? ⟨w.heap.size, 3, none⟩ = some (.string r.op.key) := L.op.key
  have c2 : (w.alloc (.cells (reqC r).toArray 29)).cell? ⟨w.heap.size, 4, none⟩ = some (.string r.op.value) := L.op.value
  have c3 : (w.alloc (.cells (reqC r).toArray 29)).cell? ⟨w.heap.size, 5, none⟩ = some (.string r.op.old) := L.op.old
  have c4 : (w.alloc (.cells (reqC r).toArray 29)).cell? ⟨w.heap.size, 6, none⟩ = some (.string r.op.to) := L.op.to
  have HI : Hid ((Tryz.prog.info? 29).map (·.size) = some (reqC r).length) := Lib.hid (by rw [reqC_length hr]; exact Tryz.is29)
  have HIX : Hid ((Tryz.prog.info? 29).map (·.size) = some (reqC x).length) := Lib.hid (by rw [reqC_length hx]; exact Tryz.is29)
  have HQQ : Hid (∀ W, (Op.equalIn 10000 29 (.agg (reqC q).toArray) (.agg (reqC q).toArray)).run Tryz.prog W = .ok true W) := Lib.hid fun W => eq_req_of (d := 9997) q q hqt hqt (by simp) W
  have H0 : Hid (RqAt w.heap.size w (reqC r) (w.alloc (.cells (reqC r).toArray 29))) := Lib.hid ⟨(Below.refl _ _).alloc (Nat.le_refl _) _, by simp, range_box w (reqC r) 29⟩
  have HLT : Hid (0 + (reqC x).length ≤ (reqC r).length ∧ setAll (reqC r) 0 (reqC x) = reqC x) := Lib.hid ⟨by have e1 := reqC_length hr; have e2 := reqC_length hx; omega, setAll_all ((reqC_length hr).trans (reqC_length hx).symm)⟩
  clear L hr hx hqt
  obtain ⟨s1, h1⟩ : ∃ s, IntKind.i64.wrap ((r.op.key.size : Int) + (r.op.value.size : Int)) = s := ⟨_, rfl⟩
  obtain ⟨s2, h2⟩ : ∃ s, IntKind.i64.wrap (s1 + (r.op.old.size : Int)) = s := ⟨_, rfl⟩
  obtain ⟨s3, h3⟩ : ∃ s, IntKind.i64.wrap (s2 + (r.op.to.size : Int)) = s := ⟨_, rfl⟩
  by_cases hs : s3 > 4096
  · go_enter Tryz.func5, Tryz.ntmps5
    go_wp2_with (go_at_call 11; refine (HW.out _ H0.out.bel).mono ?_; rintro E w1 ⟨rfl, b1⟩; have H1 := Lib.hid (H0.out.next (Nat.le_refl _) b1.out))
    go_ret
    exact ⟨rfl, H1.out.bel⟩
  · go_enter Tryz.func5, Tryz.ntmps5
    go_wp2_with (first | ((with_reducible refine wpList_load_midG ?_ 29 (.tmp 2) ?_ w.heap.size 0 ?_ (reqC r) _ ?_ Tryz.underlying29 ?_ ?_ ?_); (· rfl); (· rfl); (· rfl); (· exact H0.out.src); (· rfl); (· exact HI.out)) | (go_at_call 26; refine (HO.out _ H0.out.bel).mono ?_; rintro E w1 ⟨rfl, b1⟩; have H1 := Lib.hid (H0.out.next (Nat.le_refl _) b1.out); have HB1 := Lib.hid ((b1.out.block w.heap.size (by simp)).trans (heap_alloc_new w (.cells (reqC r).toArray 29)))) | (refine wpList_store_part rfl 29 (.tmp 2) (.tmp 28) rfl w.heap.size 0 (reqC r) (reqC x) (reqC x) 29 HB1.out HLT.out.1 HLT.out.2 rfl rfl HIX.out (one_reqC _) ?_; intro w2 G2))
    have H2 : Hid (RqAt w.heap.size w (reqC x) w2) := Lib.hid ⟨H1.out.bel.grown G2.out.2 H1.out.bel.size (fun k hk => by injection hk with hk; omega), Nat.lt_of_lt_of_le H1.out.lt G2.out.2.size, range_of G2.out.1⟩
    refine wp_region_any (by kernel_rfl) ?_
    have H3 := Lib.hid (H2.out.drewN 1)
    change wpAny _ _ _ _ _ _ _ (w2.drewN 1)
    generalize w2.drewN 1 = w3 at H3 ⊢
    refine wpAny_of_held (S := fun W => W.rangeAt w.heap.size 0 (reqC x)) _ _ _ _ ?_
    refine wpAnyH_take (i := 0) (oi := { dst := some 29, op := Op.load 29 (Operand.tmp 2), type := 29, pos := "law.go:57", after := #[], guard := none }) (v := .agg (reqC x).toArray) rfl (by kernel_rfl) (by kernel_rfl) (by kernel_rfl) (fun _ _ _ h => h) (Or.inl ⟨by kernel_rfl, fun W hSW => exec_load_mid 29 (.tmp 2) rfl w.heap.size 0 rfl (reqC x) _ (hSW) Tryz.underlying29 rfl (HIX.out)⟩) (H3.out.src) ?_
    try simp only [Act.put, List.setIfInBounds_toArray, List.set_cons_zero, List.set_cons_succ]
    refine wpAnyH_take (i := 2) (oi := { dst := some 31, op := Op.load 29 (Operand.tmp 2), type := 29, pos := "law.go:57", after := #[], guard := none }) (v := .agg (reqC x).toArray) rfl (by kernel_rfl) (by kernel_rfl) (by kernel_rfl) (fun _ _ _ h => h) (Or.inl ⟨by kernel_rfl, fun W hSW => exec_load_mid 29 (.tmp 2) rfl w.heap.size 0 rfl (reqC x) _ (hSW) Tryz.underlying29 rfl (HIX.out)⟩) (H3.out.src) ?_
    try simp only [Act.put, List.setIfInBounds_toArray, List.set_cons_zero, List.set_cons_succ]
    refine wpAnyH_ready (rs := [1]) (by kernel_rfl) (by simp) ?_
    refine AllReadyH.cons (o := { dst := some 30, op := Op.call { callee := Callee.value (Operand.func 27), args := #[Operand.tmp 29], argTypes := #[29] }, type := 4, pos := "law.go:57", after := #[{ on := 0, ground := Ground.data }], guard := none }) rfl (fun K' hK' => ?_) AllReadyH.nil
    go_simp
    go_at_call 27
    refine (HA.out w3 H3.out.bel).mono ?_
    rintro E w4 ⟨rfl, b4⟩
    have H4 := Lib.hid (H3.out.next (Nat.le_refl _) b4.out)
    refine hK'.out _ _ (H4.out.src) (fun _ => ?_)
    clear hK' K'
    try simp only [Act.put, List.setIfInBounds_toArray, List.set_cons_zero, List.set_cons_succ]
    refine wpAnyH_ready (rs := [3]) (by kernel_rfl) (by simp) ?_
    refine AllReadyH.cons (o := { dst := some 32, op := Op.call { callee := Callee.value (Operand.func 28), args := #[Operand.tmp 31], argTypes := #[29] }, type := 4, pos := "law.go:57", after := #[{ on := 2, ground := Ground.data }, { on := 1, ground := Ground.chain }], guard := none }) rfl (fun K' hK' => ?_) AllReadyH.nil
    go_simp
    go_at_call 28
    refine (HB.out w4 H4.out.bel).mono ?_
    rintro E w5 ⟨rfl, b5⟩
    have H5 := Lib.hid (H4.out.next (Nat.le_refl _) b5.out)
    refine hK'.out _ _ (H5.out.src) (fun _ => ?_)
    clear hK' K'
    try simp only [Act.put, List.setIfInBounds_toArray, List.set_cons_zero, List.set_cons_succ]
    refine wpAnyH_take (i := 4) (oi := { dst := some 33, op := Op.binOp BinOp.eql 4 (Operand.tmp 30) (Operand.tmp 32) 4, type := 4, pos := "law.go:57", after := #[{ on := 1, ground := Ground.data }, { on := 3, ground := Ground.data }], guard := none }) (v := .bool true) rfl (by kernel_rfl) (by kernel_rfl) (by kernel_rfl) (fun _ _ _ h => h) (Or.inl ⟨by kernel_rfl, fun W hSW => by go_simp⟩) (H5.out.src) ?_
    try simp only [Act.put, List.setIfInBounds_toArray, List.set_cons_zero, List.set_cons_succ]
    refine wpAnyH_take (i := 5) (oi := { dst := some 34, op := Op.move (Operand.tmp 33), type := 4, pos := "law.go:57", after := #[{ on := 4, ground := Ground.data }, { on := 3, ground := Ground.chain }], guard := none }) (v := .bool true) rfl (by kernel_rfl) (by kernel_rfl) (by kernel_rfl) (fun _ _ _ h => h) (Or.inl ⟨by kernel_rfl, fun W hSW => by go_simp⟩) (H5.out.src) ?_
    try simp only [Act.put, List.setIfInBounds_toArray, List.set_cons_zero, List.set_cons_succ]
    refine wpAnyH_take (i := 6) (oi := { dst := some 35, op := Op.load 29 (Operand.tmp 2), type := 29, pos := "law.go:57", after := #[{ on := 5, ground := Ground.guard }], guard := some (5, true) }) (v := .agg (reqC x).toArray) rfl (by kernel_rfl) (by kernel_rfl) (by kernel_rfl) (fun _ _ _ h => h) (Or.inl ⟨by kernel_rfl, fun W hSW => exec_load_mid 29 (.tmp 2) rfl w.heap.size 0 rfl (reqC x) _ (hSW) Tryz.underlying29 rfl (HIX.out)⟩) (H5.out.src) ?_
    try simp only [Act.put, List.setIfInBounds_toArray, List.set_cons_zero, List.set_cons_succ]
    refine wpAnyH_take (i := 8) (oi := { dst := some 37, op := Op.load 29 (Operand.tmp 2), type := 29, pos := "law.go:57", after := #[{ on := 5, ground := Ground.guard }], guard := some (5, true) }) (v := .agg (reqC x).toArray) rfl (by kernel_rfl) (by kernel_rfl) (by kernel_rfl) (fun _ _ _ h => h) (Or.inl ⟨by kernel_rfl, fun W hSW => exec_load_mid 29 (.tmp 2) rfl w.heap.size 0 rfl (reqC x) _ (hSW) Tryz.underlying29 rfl (HIX.out)⟩) (H5.out.src) ?_
    try simp only [Act.put, List.setIfInBounds_toArray, List.set_cons_zero, List.set_cons_succ]
    refine wpAnyH_ready (rs := [7]) (by kernel_rfl) (by simp) ?_
    refine AllReadyH.cons (o := { dst := some 36, op := Op.call { callee := Callee.value (Operand.func 29), args := #[Operand.tmp 35], argTypes := #[29] }, type := 29, pos := "law.go:57", after := #[{ on := 6, ground := Ground.data }, { on := 5, ground := Ground.chain }, { on := 5, ground := Ground.guard }], guard := some (5, true) }) rfl (fun K' hK' => ?_) AllReadyH.nil
    go_simp
    go_at_call 29
    refine (HC.out w5 H5.out.bel).mono ?_
    rintro E w6 ⟨rfl, b6⟩
    have H6 := Lib.hid (H5.out.next (Nat.le_refl _) b6.out)
    refine hK'.out _ _ (H6.out.src) (fun _ => ?_)
    clear hK' K'
    try simp only [Act.put, List.setIfInBounds_toArray, List.set_cons_zero, List.set_cons_succ]
    refine wpAnyH_ready (rs := [9]) (by kernel_rfl) (by simp) ?_
    refine AllReadyH.cons (o := { dst := some 38, op := Op.call { callee := Callee.value (Operand.func 26), args := #[Operand.tmp 37], argTypes := #[29] }, type := 29, pos := "law.go:57", after := #[{ on := 8, ground := Ground.data }, { on := 7, ground := Ground.chain }, { on := 5, ground := Ground.guard }], guard := some (5, true) }) rfl (fun K' hK' => ?_) AllReadyH.nil
    go_simp
    go_at_call 26
    refine (HD.out w6 H6.out.bel).mono ?_
    rintro E w7 ⟨rfl, b7⟩
    have H7 := Lib.hid (H6.out.next (Nat.le_refl _) b7.out)
    refine hK'.out _ _ (H7.out.src) (fun _ => ?_)
    clear hK' K'
    try simp only [Act.put, List.setIfInBounds_toArray, List.set_cons_zero, List.set_cons_succ]
    refine wpAnyH_take (i := 10) (oi := { dst := some 39, op := Op.binOp BinOp.eql 29 (Operand.tmp 36) (Operand.tmp 38) 29, type := 4, pos := "law.go:57", after := #[{ on := 7, ground := Ground.data }, { on := 9, ground := Ground.data }, { on := 5, ground := Ground.guard }], guard := some (5, true) }) (v := .bool true) rfl (by kernel_rfl) (by kernel_rfl) (by kernel_rfl) (fun _ _ _ h => h) (Or.inl ⟨by kernel_rfl, fun W hSW => exec_eql_agg 29 29 (.tmp 36) (.tmp 38) rfl rfl rfl Tryz.guard29 (HQQ.out W)⟩) (H7.out.src) ?_
    try simp only [Act.put, List.setIfInBounds_toArray, List.set_cons_zero, List.set_cons_succ]
    refine wpAnyH_take (i := 11) (oi := { dst := some 40, op := Op.pick (Operand.tmp 34) (Operand.tmp 39) (Operand.const (Value.bool false)), type := 4, pos := "law.go:57", after := #[{ on := 5, ground := Ground.data }, { on := 10, ground := Ground.data }], guard := none }) (v := .bool true) rfl (by kernel_rfl) (by kernel_rfl) (by kernel_rfl) (fun _ _ _ h => h) (Or.inl ⟨by kernel_rfl, fun W hSW => by go_simp⟩) (H7.out.src) ?_
    try simp only [Act.put, List.setIfInBounds_toArray, List.set_cons_zero, List.set_cons_succ]
    refine wpAnyH_take (i := 12) (oi := { dst := some 41, op := Op.move (Operand.tmp 40), type := 4, pos := "law.go:57", after := #[{ on := 11, ground := Ground.data }, { on := 9, ground := Ground.chain }], guard := none }) (v := .bool true) rfl (by kernel_rfl) (by kernel_rfl) (by kernel_rfl) (fun _ _ _ h => h) (Or.inl ⟨by kernel_rfl, fun W hSW => by go_simp⟩) (H7.out.src) ?_
    try simp only [Act.put, List.setIfInBounds_toArray, List.set_cons_zero, List.set_cons_succ]
    refine wpAnyH_take (i := 13) (oi := { dst := some 42, op := Op.load 29 (Operand.tmp 2), type := 29, pos := "law.go:57", after := #[{ on := 12, ground := Ground.guard }], guard := some (12, true) }) (v := .agg (reqC x).toArray) rfl (by kernel_rfl) (by kernel_rfl) (by kernel_rfl) (fun _ _ _ h => h) (Or.inl ⟨by kernel_rfl, fun W hSW => exec_load_mid 29 (.tmp 2) rfl w.heap.size 0 rfl (reqC x) _ (hSW) Tryz.underlying29 rfl (HIX.out)⟩) (H7.out.src) ?_
    try simp only [Act.put, List.setIfInBounds_toArray, List.set_cons_zero, List.set_cons_succ]
    refine wpAnyH_take (i := 15) (oi := { dst := some 44, op := Op.load 29 (Operand.tmp 2), type := 29, pos := "law.go:57", after := #[{ on := 12, ground := Ground.guard }], guard := some (12, true) }) (v := .agg (reqC x).toArray) rfl (by kernel_rfl) (by kernel_rfl) (by kernel_rfl) (fun _ _ _ h => h) (Or.inl ⟨by kernel_rfl, fun W hSW => exec_load_mid 29 (.tmp 2) rfl w.heap.size 0 rfl (reqC x) _ (hSW) Tryz.underlying29 rfl (HIX.out)⟩) (H7.out.src) ?_
    try simp only [Act.put, List.setIfInBounds_toArray, List.set_cons_zero, List.set_cons_succ]
    refine wpAnyH_ready (rs := [14]) (by kernel_rfl) (by simp) ?_
    refine AllReadyH.cons (o := { dst := some 43, op := Op.call { callee := Callee.value (Operand.func 30), args := #[Operand.tmp 42], argTypes := #[29] }, type := 4, pos := "law.go:57", after := #[{ on := 13, ground := Ground.data }, { on := 12, ground := Ground.chain }, { on := 12, ground := Ground.guard }], guard := some (12, true) }) rfl (fun K' hK' => ?_) AllReadyH.nil
    go_simp
    go_at_call 30
    refine (HE.out w7 H7.out.bel).mono ?_
    rintro E w8 ⟨rfl, b8⟩
    have H8 := Lib.hid (H7.out.next (Nat.le_refl _) b8.out)
    refine hK'.out _ _ (H8.out.src) (fun _ => ?_)
    clear hK' K'
    try simp only [Act.put, List.setIfInBounds_toArray, List.set_cons_zero, List.set_cons_succ]
    refine wpAnyH_ready (rs := [16]) (by kernel_rfl) (by simp) ?_
    refine AllReadyH.cons (o := { dst := some 45, op := Op.call { callee := Callee.value (Operand.func 31), args := #[Operand.tmp 44], argTypes := #[29] }, type := 4, pos := "law.go:57", after := #[{ on := 15, ground := Ground.data }, { on := 14, ground := Ground.chain }, { on := 12, ground := Ground.guard }], guard := some (12, true) }) rfl (fun K' hK' => ?_) AllReadyH.nil
    go_simp
    go_at_call 31
    refine (HF.out w8 H8.out.bel).mono ?_
    rintro E w9 ⟨rfl, b9⟩
    have H9 := Lib.hid (H8.out.next (Nat.le_refl _) b9.out)
    refine hK'.out _ _ (H9.out.src) (fun _ => ?_)
    clear hK' K'
    try simp only [Act.put, List.setIfInBounds_toArray, List.set_cons_zero, List.set_cons_succ]
    refine wpAnyH_take (i := 17) (oi := { dst := some 46, op := Op.binOp BinOp.eql 4 (Operand.tmp 43) (Operand.tmp 45) 4, type := 4, pos := "law.go:57", after := #[{ on := 14, ground := Ground.data }, { on := 16, ground := Ground.data }, { on := 12, ground := Ground.guard }], guard := some (12, true) }) (v := .bool true) rfl (by kernel_rfl) (by kernel_rfl) (by kernel_rfl) (fun _ _ _ h => h) (Or.inl ⟨by kernel_rfl, fun W hSW => by go_simp⟩) (H9.out.src) ?_
    try simp only [Act.put, List.setIfInBounds_toArray, List.set_cons_zero, List.set_cons_succ]
    refine wpAnyH_take (i := 18) (oi := { dst := some 47, op := Op.pick (Operand.tmp 41) (Operand.tmp 46) (Operand.const (Value.bool false)), type := 4, pos := "law.go:57", after := #[{ on := 12, ground := Ground.data }, { on := 17, ground := Ground.data }], guard := none }) (v := .bool true) rfl (by kernel_rfl) (by kernel_rfl) (by kernel_rfl) (fun _ _ _ h => h) (Or.inl ⟨by kernel_rfl, fun W hSW => by go_simp⟩) (H9.out.src) ?_
    try simp only [Act.put, List.setIfInBounds_toArray, List.set_cons_zero, List.set_cons_succ]
    refine wpAnyH_take (i := 19) (oi := { dst := some 48, op := Op.move (Operand.tmp 47), type := 4, pos := "law.go:57", after := #[{ on := 18, ground := Ground.data }, { on := 16, ground := Ground.chain }], guard := none }) (v := .bool true) rfl (by kernel_rfl) (by kernel_rfl) (by kernel_rfl) (fun _ _ _ h => h) (Or.inl ⟨by kernel_rfl, fun W hSW => by go_simp⟩) (H9.out.src) ?_
    try simp only [Act.put, List.setIfInBounds_toArray, List.set_cons_zero, List.set_cons_succ]
    refine wpAnyH_ready (rs := [20]) (by kernel_rfl) (by simp) ?_
    refine AllReadyH.cons (o := { dst := some 49, op := Op.call { callee := Callee.value (Operand.func 11), args := #[], argTypes := #[] }, type := 4, pos := "law.go:57", after := #[{ on := 19, ground := Ground.chain }, { on := 19, ground := Ground.guard }], guard := some (19, true) }) rfl (fun K' hK' => ?_) AllReadyH.nil
    go_simp
    go_at_call 11
    refine (HW.out w9 H9.out.bel).mono ?_
    rintro E w10 ⟨rfl, b10⟩
    have H10 := Lib.hid (H9.out.next (Nat.le_refl _) b10.out)
    refine hK'.out _ _ (H10.out.src) (fun _ => ?_)
    clear hK' K'
    try simp only [Act.put, List.setIfInBounds_toArray, List.set_cons_zero, List.set_cons_succ]
    refine wpAnyH_take (i := 21) (oi := { dst := some 50, op := Op.pick (Operand.tmp 48) (Operand.tmp 49) (Operand.const (Value.bool false)), type := 4, pos := "law.go:57", after := #[{ on := 19, ground := Ground.data }, { on := 20, ground := Ground.data }], guard := none }) (v := .bool true) rfl (by kernel_rfl) (by kernel_rfl) (by kernel_rfl) (fun _ _ _ h => h) (Or.inl ⟨by kernel_rfl, fun W hSW => by go_simp⟩) (H10.out.src) ?_
    try simp only [Act.put, List.setIfInBounds_toArray, List.set_cons_zero, List.set_cons_succ]
    refine wpAnyH_take (i := 22) (oi := { dst := some 4, op := Op.assign (Operand.tmp 50), type := 4, pos := "law.go:57", after := #[{ on := 21, ground := Ground.data }, { on := 20, ground := Ground.chain }, { on := 0, ground := Ground.phase }, { on := 1, ground := Ground.phase }, { on := 2, ground := Ground.phase }, { on := 3, ground := Ground.phase }, { on := 4, ground := Ground.phase }, { on := 5, ground := Ground.phase }, { on := 6, ground := Ground.phase }, { on := 7, ground := Ground.phase }, { on := 8, ground := Ground.phase }, { on := 9, ground := Ground.phase }, { on := 10, ground := Ground.phase }, { on := 11, ground := Ground.phase }, { on := 12, ground := Ground.phase }, { on := 13, ground := Ground.phase }, { on := 14, ground := Ground.phase }, { on := 15, ground := Ground.phase }, { on := 16, ground := Ground.phase }, { on := 17, ground := Ground.phase }, { on := 18, ground := Ground.phase }, { on := 19, ground := Ground.phase }, { on := 20, ground := Ground.phase }, { on := 21, ground := Ground.phase }], guard := none }) (v := .bool true) rfl (by kernel_rfl) (by kernel_rfl) (by kernel_rfl) (fun _ _ _ h => h) (Or.inl ⟨by kernel_rfl, fun W hSW => by go_simp⟩) (H10.out.src) ?_
    try simp only [Act.put, List.setIfInBounds_toArray, List.set_cons_zero, List.set_cons_succ]
    refine wpAnyH_done (by kernel_rfl) ?_ _
    go_wp2_with fail
    go_ret
    exact ⟨rfl, H10.out.bel⟩

theorem signR_len {r : MReq} (h : r.tag.length = 32) : (signR r).tag.length = 32 := by
  unfold signR
  split
  · exact tagReq_len r
  · exact h
theorem requests_any (r : MReq) (own : Bool) (w : World) (hr : r.tag.length = 32) (hk : KIs w) (h0 : 0 < w.heap.size) :
    Calls Tryz.prog 5 #[.agg (reqC r).toArray, .bool own] w fun E w' => E = .returned (.bool true) ∧ Below w.heap.size w w' := by
  have K : ∀ {W}, Below w.heap.size w W → KIs W ∧ 0 < W.heap.size := fun h => ⟨hk.below h h0, Nat.lt_of_lt_of_le h0 h.size⟩
  have HW : Hid (∀ W, Below w.heap.size w W → Calls Tryz.prog 11 #[] W fun E w' => E = .returned (.bool true) ∧ Hid (Below W.heap.size W w')) := Lib.hid fun W h => works_any W (K h).1 (K h).2
  have A : ∀ (x : MReq), x.tag.length = 32 → Hid (∀ W, Below w.heap.size w W → Calls Tryz.prog 27 #[.agg (reqC x).toArray] W fun E w' => E = .returned (.bool (reqMay x)) ∧ Hid (Below W.heap.size W w')) := fun x _ => Lib.hid fun W _ => (asked_ms x W).mono fun _ _ hE => ⟨hE.1, Lib.hid hE.2⟩
  have B : ∀ (x : MReq), x.tag.length = 32 → Hid (∀ W, Below w.heap.size w W → Calls Tryz.prog 28 #[.agg (reqC x).toArray] W fun E w' => E = .returned (.bool (reqMay x)) ∧ Hid (Below W.heap.size W w')) := fun x _ => Lib.hid fun W _ => (asked_rf x W).mono fun _ _ hE => ⟨hE.1, Lib.hid hE.2⟩
  have C : ∀ (x : MReq), x.tag.length = 32 → Hid (∀ W, Below w.heap.size w W → Calls Tryz.prog 29 #[.agg (reqC x).toArray] W fun E w' => E = .returned (.agg (reqC (signR x)).toArray) ∧ Hid (Below W.heap.size W w')) := fun x hx => Lib.hid fun W h => signed_ms x W hx (K h).1 (K h).2
  have D : ∀ (x : MReq), x.tag.length = 32 → Hid (∀ W, Below w.heap.size w W → Calls Tryz.prog 26 #[.agg (reqC x).toArray] W fun E w' => E = .returned (.agg (reqC (signR x)).toArray) ∧ Hid (Below W.heap.size W w')) := fun x hx => Lib.hid fun W h => signed_rf x W hx (K h).1 (K h).2
  have E : ∀ (x : MReq), x.tag.length = 32 → Hid (∀ W, Below w.heap.size w W → Calls Tryz.prog 30 #[.agg (reqC x).toArray] W fun E w' => E = .returned (.bool (authR x)) ∧ Hid (Below W.heap.size W w')) := fun x hx => Lib.hid fun W h => authentic_ms x W hx (K h).1 (K h).2
  have F : ∀ (x : MReq), x.tag.length = 32 → Hid (∀ W, Below w.heap.size w W → Calls Tryz.prog 31 #[.agg (reqC x).toArray] W fun E w' => E = .returned (.bool (authR x)) ∧ Hid (Below W.heap.size W w')) := fun x hx => Lib.hid fun W h => authentic_rf x W hx (K h).1 (K h).2
  have hs := signR_len hr
  cases own
  · exact requests_f r (signR r) (reqMay r) (authR r) w hr hr hs (A r hr) (B r hr) (C r hr) (D r hr) (E r hr) (F r hr) HW
  · exact requests_t r (signR r) (signR (signR r)) (reqMay (signR r)) (authR (signR r)) w hr hs (signR_len hs) (D r hr) (A _ hs) (B _ hs) (C _ hs) (D _ hs) (E _ hs) (F _ hs) HW
theorem requests_in (W : World) (hk : KIs W) (h0 : 0 < W.heap.size) (v : Value) (h : ∃ q : MReq, v = .agg (reqC q).toArray ∧ q.tag.length = 32) (own : Bool) :
    Calls Tryz.prog 5 #[v, .bool own] W fun E w' => E = .returned (.bool true) ∧ Below W.heap.size W w' := by
  obtain ⟨q, rfl, hq⟩ := h
  exact requests_any q own W hq hk h0
end Go.Proofs.YtghjogneogkpoaaGreatDoor.Sh
