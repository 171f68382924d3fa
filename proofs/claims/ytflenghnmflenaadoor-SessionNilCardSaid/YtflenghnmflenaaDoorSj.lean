/-
  What is proved: SessionNil's walk. Conditions as stated.
-/
import Derived.Test.YtflenghnmflenaaDoorSi
namespace Go.Proofs.YtflenghnmflenaaDoor
open Go.RowKit
set_option maxRecDepth 100000

theorem wpList_make_one {ops : Array Oper} {rest : List Oper} {o : Oper} {a : Act} {w : World} {Q : Exit → Act → World → Prop} (hg : o.guard = none) (x : Operand) (q : MRq) (ht : q.tag.length = 32) (ho : o.op = .buildSlice 23 1 #[(0, x)]) (hx : a.eval x = .agg (rqC q).toArray)
    (h : wpList Tryd.prog ops Q rest (a.put o.dst (.slice (some ⟨w.heap.size, 0, none⟩) 1 1)) (w.alloc (.cells (rqC q).toArray 52))) : wpList Tryd.prog ops Q (o :: rest) a w :=
  wpList_plain hg fun K hK => by
    have e : ((#[(0, x)] : Array (Nat × Operand)).map fun (i, x) => (i, a.eval x)) = #[(0, .agg (rqC q).toArray)] := by simp [hx]
    unfold Oper.wp execOp
    simp only [ho, e, Sem.run_bind, build_one q ht w, Result.andThen_ok]
    exact hK _ _ h
set_option maxHeartbeats 16000000 in
theorem nil_walk {w : World} (hv : Vars w) (q : MRq) (ht : q.tag.length = 32) (hn : q.time < 18446744073709551616 ∧ q.op.amount < 18446744073709551616 ∧ (Lit.int .i64 q.client).wf = true) :
    Calls Tryd.prog 5 #[.agg (rqC q).toArray] w fun E w' => E = .returned (.bool true) ∧ Below w.heap.size w w' := by
  have HW : Hid (∀ W, Below w.heap.size w W → Calls Tryd.prog 9 #[] W fun E w' => E = .returned (.bool true) ∧ Below W.heap.size W w') := Lib.hid fun W hb => works_any (hv.below hb)
  have HNew : Hid (∀ W, Below w.heap.size w W → Calls Tryd.prog 13 #[] W fun E w' => (∃ p, E = .returned (.pointer (some ⟨p, 0, none⟩))) ∧ Below W.heap.size W w') := Lib.hid fun W hb => (new_any (hv.below hb)).mono fun E w' h => ⟨⟨_, h.1⟩, h.2.2⟩
  have HN1 : Hid (∀ p W, Calls Tryd.prog 14 #[.pointer none, .pointer (some ⟨p, 0, none⟩), .agg (rqC q).toArray] W fun E w' => E = .returned (.tuple #[.agg #[.int .i64 2, .string ⟨#[]⟩], .bool false]) ∧ Below W.heap.size W w') := Lib.hid fun p W => sdo_nil1 _ q W
  have HN2 : Hid (∀ p W, Calls Tryd.prog 14 #[.pointer (some ⟨p, 0, none⟩), .pointer none, .agg (rqC q).toArray] W fun E w' => E = .returned (.tuple #[.agg #[.int .i64 2, .string ⟨#[]⟩], .bool false]) ∧ Below W.heap.size W w') := Lib.hid fun p W => sdo_nil2 p q W
  have HI : Hid ((Tryd.prog.info? 52).map (·.size) = some (rqC q).length) := Lib.hid (by rw [rqC_length, ht]; exact Tryd.is52)
  have HFew : Hid (∀ W b, W.heap[b]? = some (.cells (rqC q).toArray 52 (0, 0)) → Calls Tryd.prog 8 #[.slice (some ⟨b, 0, none⟩) 1 1] W fun E w' => (∃ z, E = .returned (.bool z)) ∧ Below W.heap.size W w') := Lib.hid fun W b h => (sfew_any _ 1 [q] W (rqs_one h ht hn) (by simp)).mono fun E w' h => ⟨let ⟨z, h1, _⟩ := h.1; ⟨z, h1⟩, h.2⟩
  have HT := Lib.hid ht
  have g32 := Tryd.guard32
  have g34 := Tryd.guard34
  have e34 : ∀ w, (Op.equalIn 10000 34 (.agg (lsC zL).toArray) (.agg #[.int .u64 0, .int .i64 0, .string ⟨#[]⟩])).run Tryd.prog w = .ok true w := fun w => eq_lst_of (d := 9997) zL zL (by simp) w
  have HB := Lib.hid ((Kp.start w).box (rqC q).toArray 52)
  have H0 : Hid ((w.alloc (.cells (rqC q).toArray 52)).heap[w.heap.size]? = some (.cells (rqC q).toArray 52 (0, 0))) := Lib.hid (HB.out.at 0 rfl).1
  have HB2 : Hid (Kp w [(w.heap.size + 1, (rqC q).toArray, 52), (w.heap.size, (rqC q).toArray, 52)] ((w.alloc (.cells (rqC q).toArray 52)).alloc (.cells (rqC q).toArray 52))) := Lib.hid (by
    have := HB.out.box (rqC q).toArray 52
    rwa [show (w.alloc (.cells (rqC q).toArray 52)).heap.size = w.heap.size + 1 by simp] at this)
  have H2 : Hid (((w.alloc (.cells (rqC q).toArray 52)).alloc (.cells (rqC q).toArray 52)).heap[w.heap.size + 1]? = some (.cells (rqC q).toArray 52 (0, 0))) := Lib.hid (HB2.out.at 0 rfl).1
  clear hv ht hn
  go_enter Tryd.func5, Tryd.ntmps5
  go_wp2_with (first
    | ((with_reducible refine wpList_load_midG ?_ 52 (.tmp 1) ?_ w.heap.size 0 ?_ (rqC q) _ ?_ Tryd.underlying52 ?_ ?_ ?_); rotate_left; (· rfl); (· rfl); (· exact range_all H0.out); (· rfl); (· exact HI.out); rotate_left; (· rfl))
    | (refine wpList_make_one rfl (.tmp 8) q HT.out rfl rfl ?_)
    | (go_at_call 8; refine (HFew.out _ _ H2.out).mono ?_))
  rintro E w3 ⟨⟨z, rfl⟩, b3⟩
  have K3 := Lib.hid (HB2.out.below b3)
  have K4 : Hid (Kp w [(w.heap.size, (rqC q).toArray, 52)] w3) := Lib.hid ⟨K3.out.bel, fun p hp => K3.out.keep p (List.mem_cons_of_mem _ hp), List.nodup_cons.1 K3.out.nd |>.2⟩
  clear HB HB2 b3 K3 H0 H2 HT HFew
  cases z with
  | false =>
    go_wp2_with (go_at_call 9; refine (HW.out _ K4.out.bel).mono ?_; rintro E w4 ⟨rfl, b4⟩)
    go_ret
    exact ⟨rfl, K4.out.bel.trans (b4.mono K4.out.bel.size)⟩
  | true =>
    go_wp2_with fail
    refine wp_region_any (by kernel_rfl) ?_
    refine held_gen (G := fun W => wpAny _ _ _ _ _ _ _ W) (fun W => Kp w [(w.heap.size, (rqC q).toArray, 52)] W) (K4.out.drewN 1) (fun w40 hW9 => ?_)
    have K1 := Lib.hid hW9
    clear hW9 K4
    refine wpAny_of_held (S := fun W => W.heap[w.heap.size]? = some (.cells (rqC q).toArray 52 (0, 0))) _ _ _ _ ?_
    refine wpAnyH_take (i := 0) (oi := { dst := some 14, op := Op.move (Operand.tmp 3), type := _, pos := _, after := _, guard := none }) (v := .pointer none) rfl (by kernel_rfl) (by kernel_rfl) (by kernel_rfl) (fun _ _ _ h => h) (Or.inl ⟨by kernel_rfl, fun W hSW => by go_simp⟩) ((K1.out.at 0 rfl).1) ?_
    try simp only [Act.put, List.setIfInBounds_toArray, List.set_cons_zero, List.set_cons_succ]
    refine wpAnyH_take (i := 2) (oi := { dst := some 16, op := Op.load 52 (Operand.tmp 1), type := _, pos := _, after := _, guard := none }) (v := .agg (rqC q).toArray) rfl (by kernel_rfl) (by kernel_rfl) (by kernel_rfl) (fun _ _ _ h => h) (Or.inl ⟨by kernel_rfl, fun W hSW => exec_load_mid 52 (.tmp 1) rfl w.heap.size 0 rfl (rqC q) _ (range_all hSW) Tryd.underlying52 rfl HI.out⟩) ((K1.out.at 0 rfl).1) ?_
    try simp only [Act.put, List.setIfInBounds_toArray, List.set_cons_zero, List.set_cons_succ]
    refine wpAnyH_ready (rs := [1, 7]) (by kernel_rfl) (by simp) ?_
    refine (AllReadyH.cons (o := { dst := some 15, op := Op.call { callee := Callee.value (Operand.func 13), args := #[], argTypes := #[] }, type := _, pos := _, after := _, guard := none }) rfl (fun K' hK' => ?_) (AllReadyH.cons (o := { dst := some 4, op := Op.alloc 32, type := _, pos := _, after := _, guard := none }) rfl (fun K' hK' => ?_) AllReadyH.nil))
    · go_simp
      go_at_call 13
      refine (HNew.out _ K1.out.bel).mono ?_
      rintro E w2 ⟨⟨p5, rfl⟩, b4⟩
      have K3 := Lib.hid (K1.out.below b4)
      clear b4 K1
      refine hK'.out _ _ ((K3.out.at 0 rfl).1) (fun _ => ?_)
      clear hK' K'
      try simp only [Act.put, List.setIfInBounds_toArray, List.set_cons_zero, List.set_cons_succ]
      refine wpAnyH_ready (rs := [3, 7]) (by kernel_rfl) (by simp) ?_
      refine (AllReadyH.cons (o := { dst := some 17, op := Op.call { callee := Callee.value (Operand.func 14), args := #[Operand.tmp 14, Operand.tmp 15, Operand.tmp 16], argTypes := #[26, 40, 52] }, type := _, pos := _, after := _, guard := none }) rfl (fun K' hK' => ?_) (AllReadyH.cons (o := { dst := some 4, op := Op.alloc 32, type := _, pos := _, after := _, guard := none }) rfl (fun K' hK' => ?_) AllReadyH.nil))
      · go_simp
        go_at_call 14
        refine (HN1.out p5 _).mono ?_
        rintro E w6 ⟨rfl, b8⟩
        have K7 := Lib.hid (K3.out.below b8)
        clear b8 K3
        refine hK'.out _ _ ((K7.out.at 0 rfl).1) (fun _ => ?_)
        clear hK' K'
        try simp only [Act.put, List.setIfInBounds_toArray, List.set_cons_zero, List.set_cons_succ]
        refine wpAnyH_take (i := 4) (oi := { dst := some 13, op := Op.move (Operand.tmp 17), type := _, pos := _, after := _, guard := none }) (v := .tuple #[.agg #[.int .i64 2, .string ⟨#[]⟩], .bool false]) rfl (by kernel_rfl) (by kernel_rfl) (by kernel_rfl) (fun _ _ _ h => h) (Or.inl ⟨by kernel_rfl, fun W hSW => by go_simp⟩) ((K7.out.at 0 rfl).1) ?_
        try simp only [Act.put, List.setIfInBounds_toArray, List.set_cons_zero, List.set_cons_succ]
        refine wpAnyH_take (i := 5) (oi := { dst := some 18, op := Op.extract (Operand.tmp 13) 0, type := _, pos := _, after := _, guard := none }) (v := .agg #[.int .i64 2, .string ⟨#[]⟩]) rfl (by kernel_rfl) (by kernel_rfl) (by kernel_rfl) (fun _ _ _ h => h) (Or.inl ⟨by kernel_rfl, fun W hSW => by go_simp⟩) ((K7.out.at 0 rfl).1) ?_
        try simp only [Act.put, List.setIfInBounds_toArray, List.set_cons_zero, List.set_cons_succ]
        refine wpAnyH_take (i := 6) (oi := { dst := some 19, op := Op.extract (Operand.tmp 13) 1, type := _, pos := _, after := _, guard := none }) (v := .bool false) rfl (by kernel_rfl) (by kernel_rfl) (by kernel_rfl) (fun _ _ _ h => h) (Or.inl ⟨by kernel_rfl, fun W hSW => by go_simp⟩) ((K7.out.at 0 rfl).1) ?_
        try simp only [Act.put, List.setIfInBounds_toArray, List.set_cons_zero, List.set_cons_succ]
        refine wpAnyH_ready (rs := [7]) (by kernel_rfl) (by simp) ?_
        refine AllReadyH.cons (o := { dst := some 4, op := Op.alloc 32, type := _, pos := _, after := _, guard := none }) rfl (fun K' hK' => ?_) AllReadyH.nil
        go_simp
        have K9 := Lib.hid (K7.out.box #[.int .i64 0, .string ⟨#[]⟩] 32)
        clear K7
        refine hK'.out _ _ ((K9.out.at 1 rfl).1) (fun _ => ?_)
        clear hK' K'
        try simp only [Act.put, List.setIfInBounds_toArray, List.set_cons_zero, List.set_cons_succ]
        refine wpAnyH_ready (rs := [8]) (by kernel_rfl) (by simp) ?_
        refine AllReadyH.cons (o := { dst := none, op := Op.store 32 (Operand.tmp 4) (Operand.tmp 18), type := _, pos := _, after := _, guard := none }) rfl (fun K' hK' => ?_) AllReadyH.nil
        rw [if_pos (by kernel_rfl)]
        refine wp_store_mid 32 (.tmp 4) (.tmp 18) rfl (w6.heap.size) 0 #[.int .i64 2, .string ⟨#[]⟩] rfl rfl (there_block (C := [.int .i64 0, .string ⟨#[]⟩]) (K9.out.at 0 rfl).1 0 2 (by simp)) Tryd.is32 (by simp [Value.oneCell']) ?_
        have K10 : Hid (Kp w [(w6.heap.size, #[.int .i64 2, .string ⟨#[]⟩], 32), (w.heap.size, (rqC q).toArray, 52)] (((w6.alloc (.cells #[.int .i64 0, .string ⟨#[]⟩] 32))).setCells (w6.heap.size) 0 (#[.int .i64 2, .string ⟨#[]⟩] : Array Value).toList)) := Lib.hid (K9.out.two 0 (x := .int .i64 0) (y := .string ⟨#[]⟩) rfl (.int .i64 2) (.string ⟨#[]⟩))
        clear K9
        generalize ((w6.alloc (.cells #[.int .i64 0, .string ⟨#[]⟩] 32))).setCells (w6.heap.size) 0 (#[.int .i64 2, .string ⟨#[]⟩] : Array Value).toList = w11 at K10 ⊢
        refine hK'.out _ _ ((K10.out.at 1 rfl).1) (fun _ => ?_)
        clear hK' K'
        try simp only [Act.put]
        refine wpAnyH_take (i := 9) (oi := { dst := some 5, op := Op.assign (Operand.tmp 19), type := _, pos := _, after := _, guard := none }) (v := .bool false) rfl (by kernel_rfl) (by kernel_rfl) (by kernel_rfl) (fun _ _ _ h => h) (Or.inl ⟨by kernel_rfl, fun W hSW => by go_simp⟩) ((K10.out.at 1 rfl).1) ?_
        try simp only [Act.put, List.setIfInBounds_toArray, List.set_cons_zero, List.set_cons_succ]
        refine wpAnyH_done (by kernel_rfl) ?_ _
        go_wp2_with fail
        refine wp_region_any (by kernel_rfl) ?_
        refine held_gen (G := fun W => wpAny _ _ _ _ _ _ _ W) (fun W => Kp w [(w6.heap.size, #[.int .i64 2, .string ⟨#[]⟩], 32), (w.heap.size, (rqC q).toArray, 52)] W) (K10.out.drewN 1) (fun w50 hW9 => ?_)
        have K12 := Lib.hid hW9
        clear hW9 K10
        refine wpAny_of_held (S := fun W => W.heap[w.heap.size]? = some (.cells (rqC q).toArray 52 (0, 0))) _ _ _ _ ?_
        refine wpAnyH_take (i := 1) (oi := { dst := some 22, op := Op.load 52 (Operand.tmp 1), type := _, pos := _, after := _, guard := none }) (v := .agg (rqC q).toArray) rfl (by kernel_rfl) (by kernel_rfl) (by kernel_rfl) (fun _ _ _ h => h) (Or.inl ⟨by kernel_rfl, fun W hSW => exec_load_mid 52 (.tmp 1) rfl w.heap.size 0 rfl (rqC q) _ (range_all hSW) Tryd.underlying52 rfl HI.out⟩) ((K12.out.at 1 rfl).1) ?_
        try simp only [Act.put, List.setIfInBounds_toArray, List.set_cons_zero, List.set_cons_succ]
        refine wpAnyH_ready (rs := [0, 6]) (by kernel_rfl) (by simp) ?_
        refine (AllReadyH.cons (o := { dst := some 21, op := Op.call { callee := Callee.value (Operand.func 12), args := #[], argTypes := #[] }, type := _, pos := _, after := _, guard := none }) rfl (fun K' hK' => ?_) (AllReadyH.cons (o := { dst := some 6, op := Op.alloc 32, type := _, pos := _, after := _, guard := none }) rfl (fun K' hK' => ?_) AllReadyH.nil))
        · go_simp
          go_at_call 12
          refine (tnew_any _).mono ?_
          rintro E w13 ⟨rfl, _, b15⟩
          have K14 := Lib.hid (K12.out.below b15)
          clear b15 K12
          refine hK'.out _ _ ((K14.out.at 1 rfl).1) (fun _ => ?_)
          clear hK' K'
          try simp only [Act.put, List.setIfInBounds_toArray, List.set_cons_zero, List.set_cons_succ]
          refine wpAnyH_ready (rs := [2, 6]) (by kernel_rfl) (by simp) ?_
          refine (AllReadyH.cons (o := { dst := some 23, op := Op.call { callee := Callee.value (Operand.func 14), args := #[Operand.tmp 21, Operand.const (Value.pointer none), Operand.tmp 22], argTypes := #[26, 40, 52] }, type := _, pos := _, after := _, guard := none }) rfl (fun K' hK' => ?_) (AllReadyH.cons (o := { dst := some 6, op := Op.alloc 32, type := _, pos := _, after := _, guard := none }) rfl (fun K' hK' => ?_) AllReadyH.nil))
          · go_simp
            go_at_call 14
            refine (HN2.out _ _).mono ?_
            rintro E w16 ⟨rfl, b18⟩
            have K17 := Lib.hid (K14.out.below b18)
            clear b18 K14
            refine hK'.out _ _ ((K17.out.at 1 rfl).1) (fun _ => ?_)
            clear hK' K'
            try simp only [Act.put, List.setIfInBounds_toArray, List.set_cons_zero, List.set_cons_succ]
            refine wpAnyH_take (i := 3) (oi := { dst := some 20, op := Op.move (Operand.tmp 23), type := _, pos := _, after := _, guard := none }) (v := .tuple #[.agg #[.int .i64 2, .string ⟨#[]⟩], .bool false]) rfl (by kernel_rfl) (by kernel_rfl) (by kernel_rfl) (fun _ _ _ h => h) (Or.inl ⟨by kernel_rfl, fun W hSW => by go_simp⟩) ((K17.out.at 1 rfl).1) ?_
            try simp only [Act.put, List.setIfInBounds_toArray, List.set_cons_zero, List.set_cons_succ]
            refine wpAnyH_take (i := 4) (oi := { dst := some 24, op := Op.extract (Operand.tmp 20) 0, type := _, pos := _, after := _, guard := none }) (v := .agg #[.int .i64 2, .string ⟨#[]⟩]) rfl (by kernel_rfl) (by kernel_rfl) (by kernel_rfl) (fun _ _ _ h => h) (Or.inl ⟨by kernel_rfl, fun W hSW => by go_simp⟩) ((K17.out.at 1 rfl).1) ?_
            try simp only [Act.put, List.setIfInBounds_toArray, List.set_cons_zero, List.set_cons_succ]
            refine wpAnyH_take (i := 5) (oi := { dst := some 25, op := Op.extract (Operand.tmp 20) 1, type := _, pos := _, after := _, guard := none }) (v := .bool false) rfl (by kernel_rfl) (by kernel_rfl) (by kernel_rfl) (fun _ _ _ h => h) (Or.inl ⟨by kernel_rfl, fun W hSW => by go_simp⟩) ((K17.out.at 1 rfl).1) ?_
            try simp only [Act.put, List.setIfInBounds_toArray, List.set_cons_zero, List.set_cons_succ]
            refine wpAnyH_ready (rs := [6]) (by kernel_rfl) (by simp) ?_
            refine AllReadyH.cons (o := { dst := some 6, op := Op.alloc 32, type := _, pos := _, after := _, guard := none }) rfl (fun K' hK' => ?_) AllReadyH.nil
            go_simp
            have K19 := Lib.hid (K17.out.box #[.int .i64 0, .string ⟨#[]⟩] 32)
            clear K17
            refine hK'.out _ _ ((K19.out.at 2 rfl).1) (fun _ => ?_)
            clear hK' K'
            try simp only [Act.put, List.setIfInBounds_toArray, List.set_cons_zero, List.set_cons_succ]
            refine wpAnyH_ready (rs := [7]) (by kernel_rfl) (by simp) ?_
            refine AllReadyH.cons (o := { dst := none, op := Op.store 32 (Operand.tmp 6) (Operand.tmp 24), type := _, pos := _, after := _, guard := none }) rfl (fun K' hK' => ?_) AllReadyH.nil
            rw [if_pos (by kernel_rfl)]
            refine wp_store_mid 32 (.tmp 6) (.tmp 24) rfl (w16.heap.size) 0 #[.int .i64 2, .string ⟨#[]⟩] rfl rfl (there_block (C := [.int .i64 0, .string ⟨#[]⟩]) (K19.out.at 0 rfl).1 0 2 (by simp)) Tryd.is32 (by simp [Value.oneCell']) ?_
            have K20 : Hid (Kp w [(w16.heap.size, #[.int .i64 2, .string ⟨#[]⟩], 32), (w6.heap.size, #[.int .i64 2, .string ⟨#[]⟩], 32), (w.heap.size, (rqC q).toArray, 52)] (((w16.alloc (.cells #[.int .i64 0, .string ⟨#[]⟩] 32))).setCells (w16.heap.size) 0 (#[.int .i64 2, .string ⟨#[]⟩] : Array Value).toList)) := Lib.hid (K19.out.two 0 (x := .int .i64 0) (y := .string ⟨#[]⟩) rfl (.int .i64 2) (.string ⟨#[]⟩))
            clear K19
            generalize ((w16.alloc (.cells #[.int .i64 0, .string ⟨#[]⟩] 32))).setCells (w16.heap.size) 0 (#[.int .i64 2, .string ⟨#[]⟩] : Array Value).toList = w21 at K20 ⊢
            refine hK'.out _ _ ((K20.out.at 2 rfl).1) (fun _ => ?_)
            clear hK' K'
            try simp only [Act.put]
            refine wpAnyH_take (i := 8) (oi := { dst := some 7, op := Op.assign (Operand.tmp 25), type := _, pos := _, after := _, guard := none }) (v := .bool false) rfl (by kernel_rfl) (by kernel_rfl) (by kernel_rfl) (fun _ _ _ h => h) (Or.inl ⟨by kernel_rfl, fun W hSW => by go_simp⟩) ((K20.out.at 2 rfl).1) ?_
            try simp only [Act.put, List.setIfInBounds_toArray, List.set_cons_zero, List.set_cons_succ]
            refine wpAnyH_done (by kernel_rfl) ?_ _
            have K60 := K20
            clear K20
            have a0 : w21.cell? ⟨w6.heap.size, 0, none⟩ = some (.int .i64 2) := K60.out.cell 1 rfl 0 _ rfl
            have b0 : w21.cell? ⟨w16.heap.size, 0, none⟩ = some (.int .i64 2) := K60.out.cell 0 rfl 0 _ rfl
            go_wp2_with (first | (go_at_call 18; refine (tlast_nil 1 _).mono ?_; rintro E w61 ⟨rfl, b61⟩; have K61 := Lib.hid (K60.out.below b61); clear b61 K60 a0 b0) | (go_at_call 17; refine (tlist_nil _).mono ?_; rintro E w62 ⟨rfl, rfl⟩) | (go_at_call 9; refine (HW.out _ K61.out.bel).mono ?_; rintro E w63 ⟨rfl, b63⟩; have K63 := Lib.hid (K61.out.below b63); clear b63 K61))
            go_ret
            exact ⟨rfl, K63.out.bel⟩
          · go_simp
            have K22 := Lib.hid (K14.out.box #[.int .i64 0, .string ⟨#[]⟩] 32)
            clear K14
            refine hK'.out _ _ ((K22.out.at 2 rfl).1) (fun _ => ?_)
            clear hK' K'
            try simp only [Act.put, List.setIfInBounds_toArray, List.set_cons_zero, List.set_cons_succ]
            refine wpAnyH_ready (rs := [2]) (by kernel_rfl) (by simp) ?_
            refine AllReadyH.cons (o := { dst := some 23, op := Op.call { callee := Callee.value (Operand.func 14), args := #[Operand.tmp 21, Operand.const (Value.pointer none), Operand.tmp 22], argTypes := #[26, 40, 52] }, type := _, pos := _, after := _, guard := none }) rfl (fun K' hK' => ?_) AllReadyH.nil
            go_simp
            go_at_call 14
            refine (HN2.out _ _).mono ?_
            rintro E w23 ⟨rfl, b25⟩
            have K24 := Lib.hid (K22.out.below b25)
            clear b25 K22
            refine hK'.out _ _ ((K24.out.at 2 rfl).1) (fun _ => ?_)
            clear hK' K'
            try simp only [Act.put, List.setIfInBounds_toArray, List.set_cons_zero, List.set_cons_succ]
            refine wpAnyH_take (i := 3) (oi := { dst := some 20, op := Op.move (Operand.tmp 23), type := _, pos := _, after := _, guard := none }) (v := .tuple #[.agg #[.int .i64 2, .string ⟨#[]⟩], .bool false]) rfl (by kernel_rfl) (by kernel_rfl) (by kernel_rfl) (fun _ _ _ h => h) (Or.inl ⟨by kernel_rfl, fun W hSW => by go_simp⟩) ((K24.out.at 2 rfl).1) ?_
            try simp only [Act.put, List.setIfInBounds_toArray, List.set_cons_zero, List.set_cons_succ]
            refine wpAnyH_take (i := 4) (oi := { dst := some 24, op := Op.extract (Operand.tmp 20) 0, type := _, pos := _, after := _, guard := none }) (v := .agg #[.int .i64 2, .string ⟨#[]⟩]) rfl (by kernel_rfl) (by kernel_rfl) (by kernel_rfl) (fun _ _ _ h => h) (Or.inl ⟨by kernel_rfl, fun W hSW => by go_simp⟩) ((K24.out.at 2 rfl).1) ?_
            try simp only [Act.put, List.setIfInBounds_toArray, List.set_cons_zero, List.set_cons_succ]
            refine wpAnyH_take (i := 5) (oi := { dst := some 25, op := Op.extract (Operand.tmp 20) 1, type := _, pos := _, after := _, guard := none }) (v := .bool false) rfl (by kernel_rfl) (by kernel_rfl) (by kernel_rfl) (fun _ _ _ h => h) (Or.inl ⟨by kernel_rfl, fun W hSW => by go_simp⟩) ((K24.out.at 2 rfl).1) ?_
            try simp only [Act.put, List.setIfInBounds_toArray, List.set_cons_zero, List.set_cons_succ]
            refine wpAnyH_ready (rs := [7]) (by kernel_rfl) (by simp) ?_
            refine AllReadyH.cons (o := { dst := none, op := Op.store 32 (Operand.tmp 6) (Operand.tmp 24), type := _, pos := _, after := _, guard := none }) rfl (fun K' hK' => ?_) AllReadyH.nil
            rw [if_pos (by kernel_rfl)]
            refine wp_store_mid 32 (.tmp 6) (.tmp 24) rfl (w13.heap.size) 0 #[.int .i64 2, .string ⟨#[]⟩] rfl rfl (there_block (C := [.int .i64 0, .string ⟨#[]⟩]) (K24.out.at 0 rfl).1 0 2 (by simp)) Tryd.is32 (by simp [Value.oneCell']) ?_
            have K26 : Hid (Kp w [(w13.heap.size, #[.int .i64 2, .string ⟨#[]⟩], 32), (w6.heap.size, #[.int .i64 2, .string ⟨#[]⟩], 32), (w.heap.size, (rqC q).toArray, 52)] ((w23).setCells (w13.heap.size) 0 (#[.int .i64 2, .string ⟨#[]⟩] : Array Value).toList)) := Lib.hid (K24.out.two 0 (x := .int .i64 0) (y := .string ⟨#[]⟩) rfl (.int .i64 2) (.string ⟨#[]⟩))
            clear K24
            generalize (w23).setCells (w13.heap.size) 0 (#[.int .i64 2, .string ⟨#[]⟩] : Array Value).toList = w27 at K26 ⊢
            refine hK'.out _ _ ((K26.out.at 2 rfl).1) (fun _ => ?_)
            clear hK' K'
            try simp only [Act.put]
            refine wpAnyH_take (i := 8) (oi := { dst := some 7, op := Op.assign (Operand.tmp 25), type := _, pos := _, after := _, guard := none }) (v := .bool false) rfl (by kernel_rfl) (by kernel_rfl) (by kernel_rfl) (fun _ _ _ h => h) (Or.inl ⟨by kernel_rfl, fun W hSW => by go_simp⟩) ((K26.out.at 2 rfl).1) ?_
            try simp only [Act.put, List.setIfInBounds_toArray, List.set_cons_zero, List.set_cons_succ]
            refine wpAnyH_done (by kernel_rfl) ?_ _
            have K60 := K26
            clear K26
            have a0 : w27.cell? ⟨w6.heap.size, 0, none⟩ = some (.int .i64 2) := K60.out.cell 1 rfl 0 _ rfl
            have b0 : w27.cell? ⟨w13.heap.size, 0, none⟩ = some (.int .i64 2) := K60.out.cell 0 rfl 0 _ rfl
            go_wp2_with (first | (go_at_call 18; refine (tlast_nil 1 _).mono ?_; rintro E w61 ⟨rfl, b61⟩; have K61 := Lib.hid (K60.out.below b61); clear b61 K60 a0 b0) | (go_at_call 17; refine (tlist_nil _).mono ?_; rintro E w62 ⟨rfl, rfl⟩) | (go_at_call 9; refine (HW.out _ K61.out.bel).mono ?_; rintro E w63 ⟨rfl, b63⟩; have K63 := Lib.hid (K61.out.below b63); clear b63 K61))
            go_ret
            exact ⟨rfl, K63.out.bel⟩
        · go_simp
          have K28 := Lib.hid (K12.out.box #[.int .i64 0, .string ⟨#[]⟩] 32)
          clear K12
          refine hK'.out _ _ ((K28.out.at 2 rfl).1) (fun _ => ?_)
          clear hK' K'
          try simp only [Act.put, List.setIfInBounds_toArray, List.set_cons_zero, List.set_cons_succ]
          refine wpAnyH_ready (rs := [0]) (by kernel_rfl) (by simp) ?_
          refine AllReadyH.cons (o := { dst := some 21, op := Op.call { callee := Callee.value (Operand.func 12), args := #[], argTypes := #[] }, type := _, pos := _, after := _, guard := none }) rfl (fun K' hK' => ?_) AllReadyH.nil
          go_simp
          go_at_call 12
          refine (tnew_any _).mono ?_
          rintro E w29 ⟨rfl, _, b31⟩
          have K30 := Lib.hid (K28.out.below b31)
          clear b31 K28
          refine hK'.out _ _ ((K30.out.at 2 rfl).1) (fun _ => ?_)
          clear hK' K'
          try simp only [Act.put, List.setIfInBounds_toArray, List.set_cons_zero, List.set_cons_succ]
          refine wpAnyH_ready (rs := [2]) (by kernel_rfl) (by simp) ?_
          refine AllReadyH.cons (o := { dst := some 23, op := Op.call { callee := Callee.value (Operand.func 14), args := #[Operand.tmp 21, Operand.const (Value.pointer none), Operand.tmp 22], argTypes := #[26, 40, 52] }, type := _, pos := _, after := _, guard := none }) rfl (fun K' hK' => ?_) AllReadyH.nil
          go_simp
          go_at_call 14
          refine (HN2.out _ _).mono ?_
          rintro E w32 ⟨rfl, b34⟩
          have K33 := Lib.hid (K30.out.below b34)
          clear b34 K30
          refine hK'.out _ _ ((K33.out.at 2 rfl).1) (fun _ => ?_)
          clear hK' K'
          try simp only [Act.put, List.setIfInBounds_toArray, List.set_cons_zero, List.set_cons_succ]
          refine wpAnyH_take (i := 3) (oi := { dst := some 20, op := Op.move (Operand.tmp 23), type := _, pos := _, after := _, guard := none }) (v := .tuple #[.agg #[.int .i64 2, .string ⟨#[]⟩], .bool false]) rfl (by kernel_rfl) (by kernel_rfl) (by kernel_rfl) (fun _ _ _ h => h) (Or.inl ⟨by kernel_rfl, fun W hSW => by go_simp⟩) ((K33.out.at 2 rfl).1) ?_
          try simp only [Act.put, List.setIfInBounds_toArray, List.set_cons_zero, List.set_cons_succ]
          refine wpAnyH_take (i := 4) (oi := { dst := some 24, op := Op.extract (Operand.tmp 20) 0, type := _, pos := _, after := _, guard := none }) (v := .agg #[.int .i64 2, .string ⟨#[]⟩]) rfl (by kernel_rfl) (by kernel_rfl) (by kernel_rfl) (fun _ _ _ h => h) (Or.inl ⟨by kernel_rfl, fun W hSW => by go_simp⟩) ((K33.out.at 2 rfl).1) ?_
          try simp only [Act.put, List.setIfInBounds_toArray, List.set_cons_zero, List.set_cons_succ]
          refine wpAnyH_take (i := 5) (oi := { dst := some 25, op := Op.extract (Operand.tmp 20) 1, type := _, pos := _, after := _, guard := none }) (v := .bool false) rfl (by kernel_rfl) (by kernel_rfl) (by kernel_rfl) (fun _ _ _ h => h) (Or.inl ⟨by kernel_rfl, fun W hSW => by go_simp⟩) ((K33.out.at 2 rfl).1) ?_
          try simp only [Act.put, List.setIfInBounds_toArray, List.set_cons_zero, List.set_cons_succ]
          refine wpAnyH_ready (rs := [7]) (by kernel_rfl) (by simp) ?_
          refine AllReadyH.cons (o := { dst := none, op := Op.store 32 (Operand.tmp 6) (Operand.tmp 24), type := _, pos := _, after := _, guard := none }) rfl (fun K' hK' => ?_) AllReadyH.nil
          rw [if_pos (by kernel_rfl)]
          refine wp_store_mid 32 (.tmp 6) (.tmp 24) rfl (w50.heap.size) 0 #[.int .i64 2, .string ⟨#[]⟩] rfl rfl (there_block (C := [.int .i64 0, .string ⟨#[]⟩]) (K33.out.at 0 rfl).1 0 2 (by simp)) Tryd.is32 (by simp [Value.oneCell']) ?_
          have K35 : Hid (Kp w [(w50.heap.size, #[.int .i64 2, .string ⟨#[]⟩], 32), (w6.heap.size, #[.int .i64 2, .string ⟨#[]⟩], 32), (w.heap.size, (rqC q).toArray, 52)] ((w32).setCells (w50.heap.size) 0 (#[.int .i64 2, .string ⟨#[]⟩] : Array Value).toList)) := Lib.hid (K33.out.two 0 (x := .int .i64 0) (y := .string ⟨#[]⟩) rfl (.int .i64 2) (.string ⟨#[]⟩))
          clear K33
          generalize (w32).setCells (w50.heap.size) 0 (#[.int .i64 2, .string ⟨#[]⟩] : Array Value).toList = w36 at K35 ⊢
          refine hK'.out _ _ ((K35.out.at 2 rfl).1) (fun _ => ?_)
          clear hK' K'
          try simp only [Act.put]
          refine wpAnyH_take (i := 8) (oi := { dst := some 7, op := Op.assign (Operand.tmp 25), type := _, pos := _, after := _, guard := none }) (v := .bool false) rfl (by kernel_rfl) (by kernel_rfl) (by kernel_rfl) (fun _ _ _ h => h) (Or.inl ⟨by kernel_rfl, fun W hSW => by go_simp⟩) ((K35.out.at 2 rfl).1) ?_
          try simp only [Act.put, List.setIfInBounds_toArray, List.set_cons_zero, List.set_cons_succ]
          refine wpAnyH_done (by kernel_rfl) ?_ _
          have K60 := K35
          clear K35
          have a0 : w36.cell? ⟨w6.heap.size, 0, none⟩ = some (.int .i64 2) := K60.out.cell 1 rfl 0 _ rfl
          have b0 : w36.cell? ⟨w50.heap.size, 0, none⟩ = some (.int .i64 2) := K60.out.cell 0 rfl 0 _ rfl
          go_wp2_with (first | (go_at_call 18; refine (tlast_nil 1 _).mono ?_; rintro E w61 ⟨rfl, b61⟩; have K61 := Lib.hid (K60.out.below b61); clear b61 K60 a0 b0) | (go_at_call 17; refine (tlist_nil _).mono ?_; rintro E w62 ⟨rfl, rfl⟩) | (go_at_call 9; refine (HW.out _ K61.out.bel).mono ?_; rintro E w63 ⟨rfl, b63⟩; have K63 := Lib.hid (K61.out.below b63); clear b63 K61))
          go_ret
          exact ⟨rfl, K63.out.bel⟩
      · go_simp
        have K37 := Lib.hid (K3.out.box #[.int .i64 0, .string ⟨#[]⟩] 32)
        clear K3
        refine hK'.out _ _ ((K37.out.at 1 rfl).1) (fun _ => ?_)
        clear hK' K'
        try simp only [Act.put, List.setIfInBounds_toArray, List.set_cons_zero, List.set_cons_succ]
        refine wpAnyH_ready (rs := [3]) (by kernel_rfl) (by simp) ?_
        refine AllReadyH.cons (o := { dst := some 17, op := Op.call { callee := Callee.value (Operand.func 14), args := #[Operand.tmp 14, Operand.tmp 15, Operand.tmp 16], argTypes := #[26, 40, 52] }, type := _, pos := _, after := _, guard := none }) rfl (fun K' hK' => ?_) AllReadyH.nil
        go_simp
        go_at_call 14
        refine (HN1.out p5 _).mono ?_
        rintro E w38 ⟨rfl, b40⟩
        have K39 := Lib.hid (K37.out.below b40)
        clear b40 K37
        refine hK'.out _ _ ((K39.out.at 1 rfl).1) (fun _ => ?_)
        clear hK' K'
        try simp only [Act.put, List.setIfInBounds_toArray, List.set_cons_zero, List.set_cons_succ]
        refine wpAnyH_take (i := 4) (oi := { dst := some 13, op := Op.move (Operand.tmp 17), type := _, pos := _, after := _, guard := none }) (v := .tuple #[.agg #[.int .i64 2, .string ⟨#[]⟩], .bool false]) rfl (by kernel_rfl) (by kernel_rfl) (by kernel_rfl) (fun _ _ _ h => h) (Or.inl ⟨by kernel_rfl, fun W hSW => by go_simp⟩) ((K39.out.at 1 rfl).1) ?_
        try simp only [Act.put, List.setIfInBounds_toArray, List.set_cons_zero, List.set_cons_succ]
        refine wpAnyH_take (i := 5) (oi := { dst := some 18, op := Op.extract (Operand.tmp 13) 0, type := _, pos := _, after := _, guard := none }) (v := .agg #[.int .i64 2, .string ⟨#[]⟩]) rfl (by kernel_rfl) (by kernel_rfl) (by kernel_rfl) (fun _ _ _ h => h) (Or.inl ⟨by kernel_rfl, fun W hSW => by go_simp⟩) ((K39.out.at 1 rfl).1) ?_
        try simp only [Act.put, List.setIfInBounds_toArray, List.set_cons_zero, List.set_cons_succ]
        refine wpAnyH_take (i := 6) (oi := { dst := some 19, op := Op.extract (Operand.tmp 13) 1, type := _, pos := _, after := _, guard := none }) (v := .bool false) rfl (by kernel_rfl) (by kernel_rfl) (by kernel_rfl) (fun _ _ _ h => h) (Or.inl ⟨by kernel_rfl, fun W hSW => by go_simp⟩) ((K39.out.at 1 rfl).1) ?_
        try simp only [Act.put, List.setIfInBounds_toArray, List.set_cons_zero, List.set_cons_succ]
        refine wpAnyH_ready (rs := [8]) (by kernel_rfl) (by simp) ?_
        refine AllReadyH.cons (o := { dst := none, op := Op.store 32 (Operand.tmp 4) (Operand.tmp 18), type := _, pos := _, after := _, guard := none }) rfl (fun K' hK' => ?_) AllReadyH.nil
        rw [if_pos (by kernel_rfl)]
        refine wp_store_mid 32 (.tmp 4) (.tmp 18) rfl (w2.heap.size) 0 #[.int .i64 2, .string ⟨#[]⟩] rfl rfl (there_block (C := [.int .i64 0, .string ⟨#[]⟩]) (K39.out.at 0 rfl).1 0 2 (by simp)) Tryd.is32 (by simp [Value.oneCell']) ?_
        have K41 : Hid (Kp w [(w2.heap.size, #[.int .i64 2, .string ⟨#[]⟩], 32), (w.heap.size, (rqC q).toArray, 52)] ((w38).setCells (w2.heap.size) 0 (#[.int .i64 2, .string ⟨#[]⟩] : Array Value).toList)) := Lib.hid (K39.out.two 0 (x := .int .i64 0) (y := .string ⟨#[]⟩) rfl (.int .i64 2) (.string ⟨#[]⟩))
        clear K39
        generalize (w38).setCells (w2.heap.size) 0 (#[.int .i64 2, .string ⟨#[]⟩] : Array Value).toList = w42 at K41 ⊢
        refine hK'.out _ _ ((K41.out.at 1 rfl).1) (fun _ => ?_)
        clear hK' K'
        try simp only [Act.put]
        refine wpAnyH_take (i := 9) (oi := { dst := some 5, op := Op.assign (Operand.tmp 19), type := _, pos := _, after := _, guard := none }) (v := .bool false) rfl (by kernel_rfl) (by kernel_rfl) (by kernel_rfl) (fun _ _ _ h => h) (Or.inl ⟨by kernel_rfl, fun W hSW => by go_simp⟩) ((K41.out.at 1 rfl).1) ?_
        try simp only [Act.put, List.setIfInBounds_toArray, List.set_cons_zero, List.set_cons_succ]
        refine wpAnyH_done (by kernel_rfl) ?_ _
        go_wp2_with fail
        refine wp_region_any (by kernel_rfl) ?_
        refine held_gen (G := fun W => wpAny _ _ _ _ _ _ _ W) (fun W => Kp w [(w2.heap.size, #[.int .i64 2, .string ⟨#[]⟩], 32), (w.heap.size, (rqC q).toArray, 52)] W) (K41.out.drewN 1) (fun w50 hW9 => ?_)
        have K43 := Lib.hid hW9
        clear hW9 K41
        refine wpAny_of_held (S := fun W => W.heap[w.heap.size]? = some (.cells (rqC q).toArray 52 (0, 0))) _ _ _ _ ?_
        refine wpAnyH_take (i := 1) (oi := { dst := some 22, op := Op.load 52 (Operand.tmp 1), type := _, pos := _, after := _, guard := none }) (v := .agg (rqC q).toArray) rfl (by kernel_rfl) (by kernel_rfl) (by kernel_rfl) (fun _ _ _ h => h) (Or.inl ⟨by kernel_rfl, fun W hSW => exec_load_mid 52 (.tmp 1) rfl w.heap.size 0 rfl (rqC q) _ (range_all hSW) Tryd.underlying52 rfl HI.out⟩) ((K43.out.at 1 rfl).1) ?_
        try simp only [Act.put, List.setIfInBounds_toArray, List.set_cons_zero, List.set_cons_succ]
        refine wpAnyH_ready (rs := [0, 6]) (by kernel_rfl) (by simp) ?_
        refine (AllReadyH.cons (o := { dst := some 21, op := Op.call { callee := Callee.value (Operand.func 12), args := #[], argTypes := #[] }, type := _, pos := _, after := _, guard := none }) rfl (fun K' hK' => ?_) (AllReadyH.cons (o := { dst := some 6, op := Op.alloc 32, type := _, pos := _, after := _, guard := none }) rfl (fun K' hK' => ?_) AllReadyH.nil))
        · go_simp
          go_at_call 12
          refine (tnew_any _).mono ?_
          rintro E w44 ⟨rfl, _, b46⟩
          have K45 := Lib.hid (K43.out.below b46)
          clear b46 K43
          refine hK'.out _ _ ((K45.out.at 1 rfl).1) (fun _ => ?_)
          clear hK' K'
          try simp only [Act.put, List.setIfInBounds_toArray, List.set_cons_zero, List.set_cons_succ]
          refine wpAnyH_ready (rs := [2, 6]) (by kernel_rfl) (by simp) ?_
          refine (AllReadyH.cons (o := { dst := some 23, op := Op.call { callee := Callee.value (Operand.func 14), args := #[Operand.tmp 21, Operand.const (Value.pointer none), Operand.tmp 22], argTypes := #[26, 40, 52] }, type := _, pos := _, after := _, guard := none }) rfl (fun K' hK' => ?_) (AllReadyH.cons (o := { dst := some 6, op := Op.alloc 32, type := _, pos := _, after := _, guard := none }) rfl (fun K' hK' => ?_) AllReadyH.nil))
          · go_simp
            go_at_call 14
            refine (HN2.out _ _).mono ?_
            rintro E w47 ⟨rfl, b49⟩
            have K48 := Lib.hid (K45.out.below b49)
            clear b49 K45
            refine hK'.out _ _ ((K48.out.at 1 rfl).1) (fun _ => ?_)
            clear hK' K'
            try simp only [Act.put, List.setIfInBounds_toArray, List.set_cons_zero, List.set_cons_succ]
            refine wpAnyH_take (i := 3) (oi := { dst := some 20, op := Op.move (Operand.tmp 23), type := _, pos := _, after := _, guard := none }) (v := .tuple #[.agg #[.int .i64 2, .string ⟨#[]⟩], .bool false]) rfl (by kernel_rfl) (by kernel_rfl) (by kernel_rfl) (fun _ _ _ h => h) (Or.inl ⟨by kernel_rfl, fun W hSW => by go_simp⟩) ((K48.out.at 1 rfl).1) ?_
            try simp only [Act.put, List.setIfInBounds_toArray, List.set_cons_zero, List.set_cons_succ]
            refine wpAnyH_take (i := 4) (oi := { dst := some 24, op := Op.extract (Operand.tmp 20) 0, type := _, pos := _, after := _, guard := none }) (v := .agg #[.int .i64 2, .string ⟨#[]⟩]) rfl (by kernel_rfl) (by kernel_rfl) (by kernel_rfl) (fun _ _ _ h => h) (Or.inl ⟨by kernel_rfl, fun W hSW => by go_simp⟩) ((K48.out.at 1 rfl).1) ?_
            try simp only [Act.put, List.setIfInBounds_toArray, List.set_cons_zero, List.set_cons_succ]
            refine wpAnyH_take (i := 5) (oi := { dst := some 25, op := Op.extract (Operand.tmp 20) 1, type := _, pos := _, after := _, guard := none }) (v := .bool false) rfl (by kernel_rfl) (by kernel_rfl) (by kernel_rfl) (fun _ _ _ h => h) (Or.inl ⟨by kernel_rfl, fun W hSW => by go_simp⟩) ((K48.out.at 1 rfl).1) ?_
            try simp only [Act.put, List.setIfInBounds_toArray, List.set_cons_zero, List.set_cons_succ]
            refine wpAnyH_ready (rs := [6]) (by kernel_rfl) (by simp) ?_
            refine AllReadyH.cons (o := { dst := some 6, op := Op.alloc 32, type := _, pos := _, after := _, guard := none }) rfl (fun K' hK' => ?_) AllReadyH.nil
            go_simp
            have K50 := Lib.hid (K48.out.box #[.int .i64 0, .string ⟨#[]⟩] 32)
            clear K48
            refine hK'.out _ _ ((K50.out.at 2 rfl).1) (fun _ => ?_)
            clear hK' K'
            try simp only [Act.put, List.setIfInBounds_toArray, List.set_cons_zero, List.set_cons_succ]
            refine wpAnyH_ready (rs := [7]) (by kernel_rfl) (by simp) ?_
            refine AllReadyH.cons (o := { dst := none, op := Op.store 32 (Operand.tmp 6) (Operand.tmp 24), type := _, pos := _, after := _, guard := none }) rfl (fun K' hK' => ?_) AllReadyH.nil
            rw [if_pos (by kernel_rfl)]
            refine wp_store_mid 32 (.tmp 6) (.tmp 24) rfl (w47.heap.size) 0 #[.int .i64 2, .string ⟨#[]⟩] rfl rfl (there_block (C := [.int .i64 0, .string ⟨#[]⟩]) (K50.out.at 0 rfl).1 0 2 (by simp)) Tryd.is32 (by simp [Value.oneCell']) ?_
            have K51 : Hid (Kp w [(w47.heap.size, #[.int .i64 2, .string ⟨#[]⟩], 32), (w2.heap.size, #[.int .i64 2, .string ⟨#[]⟩], 32), (w.heap.size, (rqC q).toArray, 52)] (((w47.alloc (.cells #[.int .i64 0, .string ⟨#[]⟩] 32))).setCells (w47.heap.size) 0 (#[.int .i64 2, .string ⟨#[]⟩] : Array Value).toList)) := Lib.hid (K50.out.two 0 (x := .int .i64 0) (y := .string ⟨#[]⟩) rfl (.int .i64 2) (.string ⟨#[]⟩))
            clear K50
            generalize ((w47.alloc (.cells #[.int .i64 0, .string ⟨#[]⟩] 32))).setCells (w47.heap.size) 0 (#[.int .i64 2, .string ⟨#[]⟩] : Array Value).toList = w52 at K51 ⊢
            refine hK'.out _ _ ((K51.out.at 2 rfl).1) (fun _ => ?_)
            clear hK' K'
            try simp only [Act.put]
            refine wpAnyH_take (i := 8) (oi := { dst := some 7, op := Op.assign (Operand.tmp 25), type := _, pos := _, after := _, guard := none }) (v := .bool false) rfl (by kernel_rfl) (by kernel_rfl) (by kernel_rfl) (fun _ _ _ h => h) (Or.inl ⟨by kernel_rfl, fun W hSW => by go_simp⟩) ((K51.out.at 2 rfl).1) ?_
            try simp only [Act.put, List.setIfInBounds_toArray, List.set_cons_zero, List.set_cons_succ]
            refine wpAnyH_done (by kernel_rfl) ?_ _
            have K60 := K51
            clear K51
            have a0 : w52.cell? ⟨w2.heap.size, 0, none⟩ = some (.int .i64 2) := K60.out.cell 1 rfl 0 _ rfl
            have b0 : w52.cell? ⟨w47.heap.size, 0, none⟩ = some (.int .i64 2) := K60.out.cell 0 rfl 0 _ rfl
            go_wp2_with (first | (go_at_call 18; refine (tlast_nil 1 _).mono ?_; rintro E w61 ⟨rfl, b61⟩; have K61 := Lib.hid (K60.out.below b61); clear b61 K60 a0 b0) | (go_at_call 17; refine (tlist_nil _).mono ?_; rintro E w62 ⟨rfl, rfl⟩) | (go_at_call 9; refine (HW.out _ K61.out.bel).mono ?_; rintro E w63 ⟨rfl, b63⟩; have K63 := Lib.hid (K61.out.below b63); clear b63 K61))
            go_ret
            exact ⟨rfl, K63.out.bel⟩
          · go_simp
            have K53 := Lib.hid (K45.out.box #[.int .i64 0, .string ⟨#[]⟩] 32)
            clear K45
            refine hK'.out _ _ ((K53.out.at 2 rfl).1) (fun _ => ?_)
            clear hK' K'
            try simp only [Act.put, List.setIfInBounds_toArray, List.set_cons_zero, List.set_cons_succ]
            refine wpAnyH_ready (rs := [2]) (by kernel_rfl) (by simp) ?_
            refine AllReadyH.cons (o := { dst := some 23, op := Op.call { callee := Callee.value (Operand.func 14), args := #[Operand.tmp 21, Operand.const (Value.pointer none), Operand.tmp 22], argTypes := #[26, 40, 52] }, type := _, pos := _, after := _, guard := none }) rfl (fun K' hK' => ?_) AllReadyH.nil
            go_simp
            go_at_call 14
            refine (HN2.out _ _).mono ?_
            rintro E w54 ⟨rfl, b56⟩
            have K55 := Lib.hid (K53.out.below b56)
            clear b56 K53
            refine hK'.out _ _ ((K55.out.at 2 rfl).1) (fun _ => ?_)
            clear hK' K'
            try simp only [Act.put, List.setIfInBounds_toArray, List.set_cons_zero, List.set_cons_succ]
            refine wpAnyH_take (i := 3) (oi := { dst := some 20, op := Op.move (Operand.tmp 23), type := _, pos := _, after := _, guard := none }) (v := .tuple #[.agg #[.int .i64 2, .string ⟨#[]⟩], .bool false]) rfl (by kernel_rfl) (by kernel_rfl) (by kernel_rfl) (fun _ _ _ h => h) (Or.inl ⟨by kernel_rfl, fun W hSW => by go_simp⟩) ((K55.out.at 2 rfl).1) ?_
            try simp only [Act.put, List.setIfInBounds_toArray, List.set_cons_zero, List.set_cons_succ]
            refine wpAnyH_take (i := 4) (oi := { dst := some 24, op := Op.extract (Operand.tmp 20) 0, type := _, pos := _, after := _, guard := none }) (v := .agg #[.int .i64 2, .string ⟨#[]⟩]) rfl (by kernel_rfl) (by kernel_rfl) (by kernel_rfl) (fun _ _ _ h => h) (Or.inl ⟨by kernel_rfl, fun W hSW => by go_simp⟩) ((K55.out.at 2 rfl).1) ?_
            try simp only [Act.put, List.setIfInBounds_toArray, List.set_cons_zero, List.set_cons_succ]
            refine wpAnyH_take (i := 5) (oi := { dst := some 25, op := Op.extract (Operand.tmp 20) 1, type := _, pos := _, after := _, guard := none }) (v := .bool false) rfl (by kernel_rfl) (by kernel_rfl) (by kernel_rfl) (fun _ _ _ h => h) (Or.inl ⟨by kernel_rfl, fun W hSW => by go_simp⟩) ((K55.out.at 2 rfl).1) ?_
            try simp only [Act.put, List.setIfInBounds_toArray, List.set_cons_zero, List.set_cons_succ]
            refine wpAnyH_ready (rs := [7]) (by kernel_rfl) (by simp) ?_
            refine AllReadyH.cons (o := { dst := none, op := Op.store 32 (Operand.tmp 6) (Operand.tmp 24), type := _, pos := _, after := _, guard := none }) rfl (fun K' hK' => ?_) AllReadyH.nil
            rw [if_pos (by kernel_rfl)]
            refine wp_store_mid 32 (.tmp 6) (.tmp 24) rfl (w44.heap.size) 0 #[.int .i64 2, .string ⟨#[]⟩] rfl rfl (there_block (C := [.int .i64 0, .string ⟨#[]⟩]) (K55.out.at 0 rfl).1 0 2 (by simp)) Tryd.is32 (by simp [Value.oneCell']) ?_
            have K57 : Hid (Kp w [(w44.heap.size, #[.int .i64 2, .string ⟨#[]⟩], 32), (w2.heap.size, #[.int .i64 2, .string ⟨#[]⟩], 32), (w.heap.size, (rqC q).toArray, 52)] ((w54).setCells (w44.heap.size) 0 (#[.int .i64 2, .string ⟨#[]⟩] : Array Value).toList)) := Lib.hid (K55.out.two 0 (x := .int .i64 0) (y := .string ⟨#[]⟩) rfl (.int .i64 2) (.string ⟨#[]⟩))
            clear K55
            generalize (w54).setCells (w44.heap.size) 0 (#[.int .i64 2, .string ⟨#[]⟩] : Array Value).toList = w58 at K57 ⊢
            refine hK'.out _ _ ((K57.out.at 2 rfl).1) (fun _ => ?_)
            clear hK' K'
            try simp only [Act.put]
            refine wpAnyH_take (i := 8) (oi := { dst := some 7, op := Op.assign (Operand.tmp 25), type := _, pos := _, after := _, guard := none }) (v := .bool false) rfl (by kernel_rfl) (by kernel_rfl) (by kernel_rfl) (fun _ _ _ h => h) (Or.inl ⟨by kernel_rfl, fun W hSW => by go_simp⟩) ((K57.out.at 2 rfl).1) ?_
            try simp only [Act.put, List.setIfInBounds_toArray, List.set_cons_zero, List.set_cons_succ]
            refine wpAnyH_done (by kernel_rfl) ?_ _
            have K60 := K57
            clear K57
            have a0 : w58.cell? ⟨w2.heap.size, 0, none⟩ = some (.int .i64 2) := K60.out.cell 1 rfl 0 _ rfl
            have b0 : w58.cell? ⟨w44.heap.size, 0, none⟩ = some (.int .i64 2) := K60.out.cell 0 rfl 0 _ rfl
            go_wp2_with (first | (go_at_call 18; refine (tlast_nil 1 _).mono ?_; rintro E w61 ⟨rfl, b61⟩; have K61 := Lib.hid (K60.out.below b61); clear b61 K60 a0 b0) | (go_at_call 17; refine (tlist_nil _).mono ?_; rintro E w62 ⟨rfl, rfl⟩) | (go_at_call 9; refine (HW.out _ K61.out.bel).mono ?_; rintro E w63 ⟨rfl, b63⟩; have K63 := Lib.hid (K61.out.below b63); clear b63 K61))
            go_ret
            exact ⟨rfl, K63.out.bel⟩
        · go_simp
          have K59 := Lib.hid (K43.out.box #[.int .i64 0, .string ⟨#[]⟩] 32)
          clear K43
          refine hK'.out _ _ ((K59.out.at 2 rfl).1) (fun _ => ?_)
          clear hK' K'
          try simp only [Act.put, List.setIfInBounds_toArray, List.set_cons_zero, List.set_cons_succ]
          refine wpAnyH_ready (rs := [0]) (by kernel_rfl) (by simp) ?_
          refine AllReadyH.cons (o := { dst := some 21, op := Op.call { callee := Callee.value (Operand.func 12), args := #[], argTypes := #[] }, type := _, pos := _, after := _, guard := none }) rfl (fun K' hK' => ?_) AllReadyH.nil
          go_simp
          go_at_call 12
          refine (tnew_any _).mono ?_
          rintro E w60 ⟨rfl, _, b62⟩
          have K61 := Lib.hid (K59.out.below b62)
          clear b62 K59
          refine hK'.out _ _ ((K61.out.at 2 rfl).1) (fun _ => ?_)
          clear hK' K'
          try simp only [Act.put, List.setIfInBounds_toArray, List.set_cons_zero, List.set_cons_succ]
          refine wpAnyH_ready (rs := [2]) (by kernel_rfl) (by simp) ?_
          refine AllReadyH.cons (o := { dst := some 23, op := Op.call { callee := Callee.value (Operand.func 14), args := #[Operand.tmp 21, Operand.const (Value.pointer none), Operand.tmp 22], argTypes := #[26, 40, 52] }, type := _, pos := _, after := _, guard := none }) rfl (fun K' hK' => ?_) AllReadyH.nil
          go_simp
          go_at_call 14
          refine (HN2.out _ _).mono ?_
          rintro E w63 ⟨rfl, b65⟩
          have K64 := Lib.hid (K61.out.below b65)
          clear b65 K61
          refine hK'.out _ _ ((K64.out.at 2 rfl).1) (fun _ => ?_)
          clear hK' K'
          try simp only [Act.put, List.setIfInBounds_toArray, List.set_cons_zero, List.set_cons_succ]
          refine wpAnyH_take (i := 3) (oi := { dst := some 20, op := Op.move (Operand.tmp 23), type := _, pos := _, after := _, guard := none }) (v := .tuple #[.agg #[.int .i64 2, .string ⟨#[]⟩], .bool false]) rfl (by kernel_rfl) (by kernel_rfl) (by kernel_rfl) (fun _ _ _ h => h) (Or.inl ⟨by kernel_rfl, fun W hSW => by go_simp⟩) ((K64.out.at 2 rfl).1) ?_
          try simp only [Act.put, List.setIfInBounds_toArray, List.set_cons_zero, List.set_cons_succ]
          refine wpAnyH_take (i := 4) (oi := { dst := some 24, op := Op.extract (Operand.tmp 20) 0, type := _, pos := _, after := _, guard := none }) (v := .agg #[.int .i64 2, .string ⟨#[]⟩]) rfl (by kernel_rfl) (by kernel_rfl) (by kernel_rfl) (fun _ _ _ h => h) (Or.inl ⟨by kernel_rfl, fun W hSW => by go_simp⟩) ((K64.out.at 2 rfl).1) ?_
          try simp only [Act.put, List.setIfInBounds_toArray, List.set_cons_zero, List.set_cons_succ]
          refine wpAnyH_take (i := 5) (oi := { dst := some 25, op := Op.extract (Operand.tmp 20) 1, type := _, pos := _, after := _, guard := none }) (v := .bool false) rfl (by kernel_rfl) (by kernel_rfl) (by kernel_rfl) (fun _ _ _ h => h) (Or.inl ⟨by kernel_rfl, fun W hSW => by go_simp⟩) ((K64.out.at 2 rfl).1) ?_
          try simp only [Act.put, List.setIfInBounds_toArray, List.set_cons_zero, List.set_cons_succ]
          refine wpAnyH_ready (rs := [7]) (by kernel_rfl) (by simp) ?_
          refine AllReadyH.cons (o := { dst := none, op := Op.store 32 (Operand.tmp 6) (Operand.tmp 24), type := _, pos := _, after := _, guard := none }) rfl (fun K' hK' => ?_) AllReadyH.nil
          rw [if_pos (by kernel_rfl)]
          refine wp_store_mid 32 (.tmp 6) (.tmp 24) rfl (w50.heap.size) 0 #[.int .i64 2, .string ⟨#[]⟩] rfl rfl (there_block (C := [.int .i64 0, .string ⟨#[]⟩]) (K64.out.at 0 rfl).1 0 2 (by simp)) Tryd.is32 (by simp [Value.oneCell']) ?_
          have K66 : Hid (Kp w [(w50.heap.size, #[.int .i64 2, .string ⟨#[]⟩], 32), (w2.heap.size, #[.int .i64 2, .string ⟨#[]⟩], 32), (w.heap.size, (rqC q).toArray, 52)] ((w63).setCells (w50.heap.size) 0 (#[.int .i64 2, .string ⟨#[]⟩] : Array Value).toList)) := Lib.hid (K64.out.two 0 (x := .int .i64 0) (y := .string ⟨#[]⟩) rfl (.int .i64 2) (.string ⟨#[]⟩))
          clear K64
          generalize (w63).setCells (w50.heap.size) 0 (#[.int .i64 2, .string ⟨#[]⟩] : Array Value).toList = w67 at K66 ⊢
          refine hK'.out _ _ ((K66.out.at 2 rfl).1) (fun _ => ?_)
          clear hK' K'
          try simp only [Act.put]
          refine wpAnyH_take (i := 8) (oi := { dst := some 7, op := Op.assign (Operand.tmp 25), type := _, pos := _, after := _, guard := none }) (v := .bool false) rfl (by kernel_rfl) (by kernel_rfl) (by kernel_rfl) (fun _ _ _ h => h) (Or.inl ⟨by kernel_rfl, fun W hSW => by go_simp⟩) ((K66.out.at 2 rfl).1) ?_
          try simp only [Act.put, List.setIfInBounds_toArray, List.set_cons_zero, List.set_cons_succ]
          refine wpAnyH_done (by kernel_rfl) ?_ _
          have K60 := K66
          clear K66
          have a0 : w67.cell? ⟨w2.heap.size, 0, none⟩ = some (.int .i64 2) := K60.out.cell 1 rfl 0 _ rfl
          have b0 : w67.cell? ⟨w50.heap.size, 0, none⟩ = some (.int .i64 2) := K60.out.cell 0 rfl 0 _ rfl
          go_wp2_with (first | (go_at_call 18; refine (tlast_nil 1 _).mono ?_; rintro E w61 ⟨rfl, b61⟩; have K61 := Lib.hid (K60.out.below b61); clear b61 K60 a0 b0) | (go_at_call 17; refine (tlist_nil _).mono ?_; rintro E w62 ⟨rfl, rfl⟩) | (go_at_call 9; refine (HW.out _ K61.out.bel).mono ?_; rintro E w63 ⟨rfl, b63⟩; have K63 := Lib.hid (K61.out.below b63); clear b63 K61))
          go_ret
          exact ⟨rfl, K63.out.bel⟩
    · go_simp
      have K68 := Lib.hid (K1.out.box #[.int .i64 0, .string ⟨#[]⟩] 32)
      clear K1
      refine hK'.out _ _ ((K68.out.at 1 rfl).1) (fun _ => ?_)
      clear hK' K'
      try simp only [Act.put, List.setIfInBounds_toArray, List.set_cons_zero, List.set_cons_succ]
      refine wpAnyH_ready (rs := [1]) (by kernel_rfl) (by simp) ?_
      refine AllReadyH.cons (o := { dst := some 15, op := Op.call { callee := Callee.value (Operand.func 13), args := #[], argTypes := #[] }, type := _, pos := _, after := _, guard := none }) rfl (fun K' hK' => ?_) AllReadyH.nil
      go_simp
      go_at_call 13
      refine (HNew.out _ K68.out.bel).mono ?_
      rintro E w69 ⟨⟨p72, rfl⟩, b71⟩
      have K70 := Lib.hid (K68.out.below b71)
      clear b71 K68
      refine hK'.out _ _ ((K70.out.at 1 rfl).1) (fun _ => ?_)
      clear hK' K'
      try simp only [Act.put, List.setIfInBounds_toArray, List.set_cons_zero, List.set_cons_succ]
      refine wpAnyH_ready (rs := [3]) (by kernel_rfl) (by simp) ?_
      refine AllReadyH.cons (o := { dst := some 17, op := Op.call { callee := Callee.value (Operand.func 14), args := #[Operand.tmp 14, Operand.tmp 15, Operand.tmp 16], argTypes := #[26, 40, 52] }, type := _, pos := _, after := _, guard := none }) rfl (fun K' hK' => ?_) AllReadyH.nil
      go_simp
      go_at_call 14
      refine (HN1.out p72 _).mono ?_
      rintro E w73 ⟨rfl, b75⟩
      have K74 := Lib.hid (K70.out.below b75)
      clear b75 K70
      refine hK'.out _ _ ((K74.out.at 1 rfl).1) (fun _ => ?_)
      clear hK' K'
      try simp only [Act.put, List.setIfInBounds_toArray, List.set_cons_zero, List.set_cons_succ]
      refine wpAnyH_take (i := 4) (oi := { dst := some 13, op := Op.move (Operand.tmp 17), type := _, pos := _, after := _, guard := none }) (v := .tuple #[.agg #[.int .i64 2, .string ⟨#[]⟩], .bool false]) rfl (by kernel_rfl) (by kernel_rfl) (by kernel_rfl) (fun _ _ _ h => h) (Or.inl ⟨by kernel_rfl, fun W hSW => by go_simp⟩) ((K74.out.at 1 rfl).1) ?_
      try simp only [Act.put, List.setIfInBounds_toArray, List.set_cons_zero, List.set_cons_succ]
      refine wpAnyH_take (i := 5) (oi := { dst := some 18, op := Op.extract (Operand.tmp 13) 0, type := _, pos := _, after := _, guard := none }) (v := .agg #[.int .i64 2, .string ⟨#[]⟩]) rfl (by kernel_rfl) (by kernel_rfl) (by kernel_rfl) (fun _ _ _ h => h) (Or.inl ⟨by kernel_rfl, fun W hSW => by go_simp⟩) ((K74.out.at 1 rfl).1) ?_
      try simp only [Act.put, List.setIfInBounds_toArray, List.set_cons_zero, List.set_cons_succ]
      refine wpAnyH_take (i := 6) (oi := { dst := some 19, op := Op.extract (Operand.tmp 13) 1, type := _, pos := _, after := _, guard := none }) (v := .bool false) rfl (by kernel_rfl) (by kernel_rfl) (by kernel_rfl) (fun _ _ _ h => h) (Or.inl ⟨by kernel_rfl, fun W hSW => by go_simp⟩) ((K74.out.at 1 rfl).1) ?_
      try simp only [Act.put, List.setIfInBounds_toArray, List.set_cons_zero, List.set_cons_succ]
      refine wpAnyH_ready (rs := [8]) (by kernel_rfl) (by simp) ?_
      refine AllReadyH.cons (o := { dst := none, op := Op.store 32 (Operand.tmp 4) (Operand.tmp 18), type := _, pos := _, after := _, guard := none }) rfl (fun K' hK' => ?_) AllReadyH.nil
      rw [if_pos (by kernel_rfl)]
      refine wp_store_mid 32 (.tmp 4) (.tmp 18) rfl (w40.heap.size) 0 #[.int .i64 2, .string ⟨#[]⟩] rfl rfl (there_block (C := [.int .i64 0, .string ⟨#[]⟩]) (K74.out.at 0 rfl).1 0 2 (by simp)) Tryd.is32 (by simp [Value.oneCell']) ?_
      have K76 : Hid (Kp w [(w40.heap.size, #[.int .i64 2, .string ⟨#[]⟩], 32), (w.heap.size, (rqC q).toArray, 52)] ((w73).setCells (w40.heap.size) 0 (#[.int .i64 2, .string ⟨#[]⟩] : Array Value).toList)) := Lib.hid (K74.out.two 0 (x := .int .i64 0) (y := .string ⟨#[]⟩) rfl (.int .i64 2) (.string ⟨#[]⟩))
      clear K74
      generalize (w73).setCells (w40.heap.size) 0 (#[.int .i64 2, .string ⟨#[]⟩] : Array Value).toList = w77 at K76 ⊢
      refine hK'.out _ _ ((K76.out.at 1 rfl).1) (fun _ => ?_)
      clear hK' K'
      try simp only [Act.put]
      refine wpAnyH_take (i := 9) (oi := { dst := some 5, op := Op.assign (Operand.tmp 19), type := _, pos := _, after := _, guard := none }) (v := .bool false) rfl (by kernel_rfl) (by kernel_rfl) (by kernel_rfl) (fun _ _ _ h => h) (Or.inl ⟨by kernel_rfl, fun W hSW => by go_simp⟩) ((K76.out.at 1 rfl).1) ?_
      try simp only [Act.put, List.setIfInBounds_toArray, List.set_cons_zero, List.set_cons_succ]
      refine wpAnyH_done (by kernel_rfl) ?_ _
      go_wp2_with fail
      refine wp_region_any (by kernel_rfl) ?_
      refine held_gen (G := fun W => wpAny _ _ _ _ _ _ _ W) (fun W => Kp w [(w40.heap.size, #[.int .i64 2, .string ⟨#[]⟩], 32), (w.heap.size, (rqC q).toArray, 52)] W) (K76.out.drewN 1) (fun w50 hW9 => ?_)
      have K78 := Lib.hid hW9
      clear hW9 K76
      refine wpAny_of_held (S := fun W => W.heap[w.heap.size]? = some (.cells (rqC q).toArray 52 (0, 0))) _ _ _ _ ?_
      refine wpAnyH_take (i := 1) (oi := { dst := some 22, op := Op.load 52 (Operand.tmp 1), type := _, pos := _, after := _, guard := none }) (v := .agg (rqC q).toArray) rfl (by kernel_rfl) (by kernel_rfl) (by kernel_rfl) (fun _ _ _ h => h) (Or.inl ⟨by kernel_rfl, fun W hSW => exec_load_mid 52 (.tmp 1) rfl w.heap.size 0 rfl (rqC q) _ (range_all hSW) Tryd.underlying52 rfl HI.out⟩) ((K78.out.at 1 rfl).1) ?_
      try simp only [Act.put, List.setIfInBounds_toArray, List.set_cons_zero, List.set_cons_succ]
      refine wpAnyH_ready (rs := [0, 6]) (by kernel_rfl) (by simp) ?_
      refine (AllReadyH.cons (o := { dst := some 21, op := Op.call { callee := Callee.value (Operand.func 12), args := #[], argTypes := #[] }, type := _, pos := _, after := _, guard := none }) rfl (fun K' hK' => ?_) (AllReadyH.cons (o := { dst := some 6, op := Op.alloc 32, type := _, pos := _, after := _, guard := none }) rfl (fun K' hK' => ?_) AllReadyH.nil))
      · go_simp
        go_at_call 12
        refine (tnew_any _).mono ?_
        rintro E w79 ⟨rfl, _, b81⟩
        have K80 := Lib.hid (K78.out.below b81)
        clear b81 K78
        refine hK'.out _ _ ((K80.out.at 1 rfl).1) (fun _ => ?_)
        clear hK' K'
        try simp only [Act.put, List.setIfInBounds_toArray, List.set_cons_zero, List.set_cons_succ]
        refine wpAnyH_ready (rs := [2, 6]) (by kernel_rfl) (by simp) ?_
        refine (AllReadyH.cons (o := { dst := some 23, op := Op.call { callee := Callee.value (Operand.func 14), args := #[Operand.tmp 21, Operand.const (Value.pointer none), Operand.tmp 22], argTypes := #[26, 40, 52] }, type := _, pos := _, after := _, guard := none }) rfl (fun K' hK' => ?_) (AllReadyH.cons (o := { dst := some 6, op := Op.alloc 32, type := _, pos := _, after := _, guard := none }) rfl (fun K' hK' => ?_) AllReadyH.nil))
        · go_simp
          go_at_call 14
          refine (HN2.out _ _).mono ?_
          rintro E w82 ⟨rfl, b84⟩
          have K83 := Lib.hid (K80.out.below b84)
          clear b84 K80
          refine hK'.out _ _ ((K83.out.at 1 rfl).1) (fun _ => ?_)
          clear hK' K'
          try simp only [Act.put, List.setIfInBounds_toArray, List.set_cons_zero, List.set_cons_succ]
          refine wpAnyH_take (i := 3) (oi := { dst := some 20, op := Op.move (Operand.tmp 23), type := _, pos := _, after := _, guard := none }) (v := .tuple #[.agg #[.int .i64 2, .string ⟨#[]⟩], .bool false]) rfl (by kernel_rfl) (by kernel_rfl) (by kernel_rfl) (fun _ _ _ h => h) (Or.inl ⟨by kernel_rfl, fun W hSW => by go_simp⟩) ((K83.out.at 1 rfl).1) ?_
          try simp only [Act.put, List.setIfInBounds_toArray, List.set_cons_zero, List.set_cons_succ]
          refine wpAnyH_take (i := 4) (oi := { dst := some 24, op := Op.extract (Operand.tmp 20) 0, type := _, pos := _, after := _, guard := none }) (v := .agg #[.int .i64 2, .string ⟨#[]⟩]) rfl (by kernel_rfl) (by kernel_rfl) (by kernel_rfl) (fun _ _ _ h => h) (Or.inl ⟨by kernel_rfl, fun W hSW => by go_simp⟩) ((K83.out.at 1 rfl).1) ?_
          try simp only [Act.put, List.setIfInBounds_toArray, List.set_cons_zero, List.set_cons_succ]
          refine wpAnyH_take (i := 5) (oi := { dst := some 25, op := Op.extract (Operand.tmp 20) 1, type := _, pos := _, after := _, guard := none }) (v := .bool false) rfl (by kernel_rfl) (by kernel_rfl) (by kernel_rfl) (fun _ _ _ h => h) (Or.inl ⟨by kernel_rfl, fun W hSW => by go_simp⟩) ((K83.out.at 1 rfl).1) ?_
          try simp only [Act.put, List.setIfInBounds_toArray, List.set_cons_zero, List.set_cons_succ]
          refine wpAnyH_ready (rs := [6]) (by kernel_rfl) (by simp) ?_
          refine AllReadyH.cons (o := { dst := some 6, op := Op.alloc 32, type := _, pos := _, after := _, guard := none }) rfl (fun K' hK' => ?_) AllReadyH.nil
          go_simp
          have K85 := Lib.hid (K83.out.box #[.int .i64 0, .string ⟨#[]⟩] 32)
          clear K83
          refine hK'.out _ _ ((K85.out.at 2 rfl).1) (fun _ => ?_)
          clear hK' K'
          try simp only [Act.put, List.setIfInBounds_toArray, List.set_cons_zero, List.set_cons_succ]
          refine wpAnyH_ready (rs := [7]) (by kernel_rfl) (by simp) ?_
          refine AllReadyH.cons (o := { dst := none, op := Op.store 32 (Operand.tmp 6) (Operand.tmp 24), type := _, pos := _, after := _, guard := none }) rfl (fun K' hK' => ?_) AllReadyH.nil
          rw [if_pos (by kernel_rfl)]
          refine wp_store_mid 32 (.tmp 6) (.tmp 24) rfl (w82.heap.size) 0 #[.int .i64 2, .string ⟨#[]⟩] rfl rfl (there_block (C := [.int .i64 0, .string ⟨#[]⟩]) (K85.out.at 0 rfl).1 0 2 (by simp)) Tryd.is32 (by simp [Value.oneCell']) ?_
          have K86 : Hid (Kp w [(w82.heap.size, #[.int .i64 2, .string ⟨#[]⟩], 32), (w40.heap.size, #[.int .i64 2, .string ⟨#[]⟩], 32), (w.heap.size, (rqC q).toArray, 52)] (((w82.alloc (.cells #[.int .i64 0, .string ⟨#[]⟩] 32))).setCells (w82.heap.size) 0 (#[.int .i64 2, .string ⟨#[]⟩] : Array Value).toList)) := Lib.hid (K85.out.two 0 (x := .int .i64 0) (y := .string ⟨#[]⟩) rfl (.int .i64 2) (.string ⟨#[]⟩))
          clear K85
          generalize ((w82.alloc (.cells #[.int .i64 0, .string ⟨#[]⟩] 32))).setCells (w82.heap.size) 0 (#[.int .i64 2, .string ⟨#[]⟩] : Array Value).toList = w87 at K86 ⊢
          refine hK'.out _ _ ((K86.out.at 2 rfl).1) (fun _ => ?_)
          clear hK' K'
          try simp only [Act.put]
          refine wpAnyH_take (i := 8) (oi := { dst := some 7, op := Op.assign (Operand.tmp 25), type := _, pos := _, after := _, guard := none }) (v := .bool false) rfl (by kernel_rfl) (by kernel_rfl) (by kernel_rfl) (fun _ _ _ h => h) (Or.inl ⟨by kernel_rfl, fun W hSW => by go_simp⟩) ((K86.out.at 2 rfl).1) ?_
          try simp only [Act.put, List.setIfInBounds_toArray, List.set_cons_zero, List.set_cons_succ]
          refine wpAnyH_done (by kernel_rfl) ?_ _
          have K60 := K86
          clear K86
          have a0 : w87.cell? ⟨w40.heap.size, 0, none⟩ = some (.int .i64 2) := K60.out.cell 1 rfl 0 _ rfl
          have b0 : w87.cell? ⟨w82.heap.size, 0, none⟩ = some (.int .i64 2) := K60.out.cell 0 rfl 0 _ rfl
          go_wp2_with (first | (go_at_call 18; refine (tlast_nil 1 _).mono ?_; rintro E w61 ⟨rfl, b61⟩; have K61 := Lib.hid (K60.out.below b61); clear b61 K60 a0 b0) | (go_at_call 17; refine (tlist_nil _).mono ?_; rintro E w62 ⟨rfl, rfl⟩) | (go_at_call 9; refine (HW.out _ K61.out.bel).mono ?_; rintro E w63 ⟨rfl, b63⟩; have K63 := Lib.hid (K61.out.below b63); clear b63 K61))
          go_ret
          exact ⟨rfl, K63.out.bel⟩
        · go_simp
          have K88 := Lib.hid (K80.out.box #[.int .i64 0, .string ⟨#[]⟩] 32)
          clear K80
          refine hK'.out _ _ ((K88.out.at 2 rfl).1) (fun _ => ?_)
          clear hK' K'
          try simp only [Act.put, List.setIfInBounds_toArray, List.set_cons_zero, List.set_cons_succ]
          refine wpAnyH_ready (rs := [2]) (by kernel_rfl) (by simp) ?_
          refine AllReadyH.cons (o := { dst := some 23, op := Op.call { callee := Callee.value (Operand.func 14), args := #[Operand.tmp 21, Operand.const (Value.pointer none), Operand.tmp 22], argTypes := #[26, 40, 52] }, type := _, pos := _, after := _, guard := none }) rfl (fun K' hK' => ?_) AllReadyH.nil
          go_simp
          go_at_call 14
          refine (HN2.out _ _).mono ?_
          rintro E w89 ⟨rfl, b91⟩
          have K90 := Lib.hid (K88.out.below b91)
          clear b91 K88
          refine hK'.out _ _ ((K90.out.at 2 rfl).1) (fun _ => ?_)
          clear hK' K'
          try simp only [Act.put, List.setIfInBounds_toArray, List.set_cons_zero, List.set_cons_succ]
          refine wpAnyH_take (i := 3) (oi := { dst := some 20, op := Op.move (Operand.tmp 23), type := _, pos := _, after := _, guard := none }) (v := .tuple #[.agg #[.int .i64 2, .string ⟨#[]⟩], .bool false]) rfl (by kernel_rfl) (by kernel_rfl) (by kernel_rfl) (fun _ _ _ h => h) (Or.inl ⟨by kernel_rfl, fun W hSW => by go_simp⟩) ((K90.out.at 2 rfl).1) ?_
          try simp only [Act.put, List.setIfInBounds_toArray, List.set_cons_zero, List.set_cons_succ]
          refine wpAnyH_take (i := 4) (oi := { dst := some 24, op := Op.extract (Operand.tmp 20) 0, type := _, pos := _, after := _, guard := none }) (v := .agg #[.int .i64 2, .string ⟨#[]⟩]) rfl (by kernel_rfl) (by kernel_rfl) (by kernel_rfl) (fun _ _ _ h => h) (Or.inl ⟨by kernel_rfl, fun W hSW => by go_simp⟩) ((K90.out.at 2 rfl).1) ?_
          try simp only [Act.put, List.setIfInBounds_toArray, List.set_cons_zero, List.set_cons_succ]
          refine wpAnyH_take (i := 5) (oi := { dst := some 25, op := Op.extract (Operand.tmp 20) 1, type := _, pos := _, after := _, guard := none }) (v := .bool false) rfl (by kernel_rfl) (by kernel_rfl) (by kernel_rfl) (fun _ _ _ h => h) (Or.inl ⟨by kernel_rfl, fun W hSW => by go_simp⟩) ((K90.out.at 2 rfl).1) ?_
          try simp only [Act.put, List.setIfInBounds_toArray, List.set_cons_zero, List.set_cons_succ]
          refine wpAnyH_ready (rs := [7]) (by kernel_rfl) (by simp) ?_
          refine AllReadyH.cons (o := { dst := none, op := Op.store 32 (Operand.tmp 6) (Operand.tmp 24), type := _, pos := _, after := _, guard := none }) rfl (fun K' hK' => ?_) AllReadyH.nil
          rw [if_pos (by kernel_rfl)]
          refine wp_store_mid 32 (.tmp 6) (.tmp 24) rfl (w79.heap.size) 0 #[.int .i64 2, .string ⟨#[]⟩] rfl rfl (there_block (C := [.int .i64 0, .string ⟨#[]⟩]) (K90.out.at 0 rfl).1 0 2 (by simp)) Tryd.is32 (by simp [Value.oneCell']) ?_
          have K92 : Hid (Kp w [(w79.heap.size, #[.int .i64 2, .string ⟨#[]⟩], 32), (w40.heap.size, #[.int .i64 2, .string ⟨#[]⟩], 32), (w.heap.size, (rqC q).toArray, 52)] ((w89).setCells (w79.heap.size) 0 (#[.int .i64 2, .string ⟨#[]⟩] : Array Value).toList)) := Lib.hid (K90.out.two 0 (x := .int .i64 0) (y := .string ⟨#[]⟩) rfl (.int .i64 2) (.string ⟨#[]⟩))
          clear K90
          generalize (w89).setCells (w79.heap.size) 0 (#[.int .i64 2, .string ⟨#[]⟩] : Array Value).toList = w93 at K92 ⊢
          refine hK'.out _ _ ((K92.out.at 2 rfl).1) (fun _ => ?_)
          clear hK' K'
          try simp only [Act.put]
          refine wpAnyH_take (i := 8) (oi := { dst := some 7, op := Op.assign (Operand.tmp 25), type := _, pos := _, after := _, guard := none }) (v := .bool false) rfl (by kernel_rfl) (by kernel_rfl) (by kernel_rfl) (fun _ _ _ h => h) (Or.inl ⟨by kernel_rfl, fun W hSW => by go_simp⟩) ((K92.out.at 2 rfl).1) ?_
          try simp only [Act.put, List.setIfInBounds_toArray, List.set_cons_zero, List.set_cons_succ]
          refine wpAnyH_done (by kernel_rfl) ?_ _
          have K60 := K92
          clear K92
          have a0 : w93.cell? ⟨w40.heap.size, 0, none⟩ = some (.int .i64 2) := K60.out.cell 1 rfl 0 _ rfl
          have b0 : w93.cell? ⟨w79.heap.size, 0, none⟩ = some (.int .i64 2) := K60.out.cell 0 rfl 0 _ rfl
          go_wp2_with (first | (go_at_call 18; refine (tlast_nil 1 _).mono ?_; rintro E w61 ⟨rfl, b61⟩; have K61 := Lib.hid (K60.out.below b61); clear b61 K60 a0 b0) | (go_at_call 17; refine (tlist_nil _).mono ?_; rintro E w62 ⟨rfl, rfl⟩) | (go_at_call 9; refine (HW.out _ K61.out.bel).mono ?_; rintro E w63 ⟨rfl, b63⟩; have K63 := Lib.hid (K61.out.below b63); clear b63 K61))
          go_ret
          exact ⟨rfl, K63.out.bel⟩
      · go_simp
        have K94 := Lib.hid (K78.out.box #[.int .i64 0, .string ⟨#[]⟩] 32)
        clear K78
        refine hK'.out _ _ ((K94.out.at 2 rfl).1) (fun _ => ?_)
        clear hK' K'
        try simp only [Act.put, List.setIfInBounds_toArray, List.set_cons_zero, List.set_cons_succ]
        refine wpAnyH_ready (rs := [0]) (by kernel_rfl) (by simp) ?_
        refine AllReadyH.cons (o := { dst := some 21, op := Op.call { callee := Callee.value (Operand.func 12), args := #[], argTypes := #[] }, type := _, pos := _, after := _, guard := none }) rfl (fun K' hK' => ?_) AllReadyH.nil
        go_simp
        go_at_call 12
        refine (tnew_any _).mono ?_
        rintro E w95 ⟨rfl, _, b97⟩
        have K96 := Lib.hid (K94.out.below b97)
        clear b97 K94
        refine hK'.out _ _ ((K96.out.at 2 rfl).1) (fun _ => ?_)
        clear hK' K'
        try simp only [Act.put, List.setIfInBounds_toArray, List.set_cons_zero, List.set_cons_succ]
        refine wpAnyH_ready (rs := [2]) (by kernel_rfl) (by simp) ?_
        refine AllReadyH.cons (o := { dst := some 23, op := Op.call { callee := Callee.value (Operand.func 14), args := #[Operand.tmp 21, Operand.const (Value.pointer none), Operand.tmp 22], argTypes := #[26, 40, 52] }, type := _, pos := _, after := _, guard := none }) rfl (fun K' hK' => ?_) AllReadyH.nil
        go_simp
        go_at_call 14
        refine (HN2.out _ _).mono ?_
        rintro E w98 ⟨rfl, b100⟩
        have K99 := Lib.hid (K96.out.below b100)
        clear b100 K96
        refine hK'.out _ _ ((K99.out.at 2 rfl).1) (fun _ => ?_)
        clear hK' K'
        try simp only [Act.put, List.setIfInBounds_toArray, List.set_cons_zero, List.set_cons_succ]
        refine wpAnyH_take (i := 3) (oi := { dst := some 20, op := Op.move (Operand.tmp 23), type := _, pos := _, after := _, guard := none }) (v := .tuple #[.agg #[.int .i64 2, .string ⟨#[]⟩], .bool false]) rfl (by kernel_rfl) (by kernel_rfl) (by kernel_rfl) (fun _ _ _ h => h) (Or.inl ⟨by kernel_rfl, fun W hSW => by go_simp⟩) ((K99.out.at 2 rfl).1) ?_
        try simp only [Act.put, List.setIfInBounds_toArray, List.set_cons_zero, List.set_cons_succ]
        refine wpAnyH_take (i := 4) (oi := { dst := some 24, op := Op.extract (Operand.tmp 20) 0, type := _, pos := _, after := _, guard := none }) (v := .agg #[.int .i64 2, .string ⟨#[]⟩]) rfl (by kernel_rfl) (by kernel_rfl) (by kernel_rfl) (fun _ _ _ h => h) (Or.inl ⟨by kernel_rfl, fun W hSW => by go_simp⟩) ((K99.out.at 2 rfl).1) ?_
        try simp only [Act.put, List.setIfInBounds_toArray, List.set_cons_zero, List.set_cons_succ]
        refine wpAnyH_take (i := 5) (oi := { dst := some 25, op := Op.extract (Operand.tmp 20) 1, type := _, pos := _, after := _, guard := none }) (v := .bool false) rfl (by kernel_rfl) (by kernel_rfl) (by kernel_rfl) (fun _ _ _ h => h) (Or.inl ⟨by kernel_rfl, fun W hSW => by go_simp⟩) ((K99.out.at 2 rfl).1) ?_
        try simp only [Act.put, List.setIfInBounds_toArray, List.set_cons_zero, List.set_cons_succ]
        refine wpAnyH_ready (rs := [7]) (by kernel_rfl) (by simp) ?_
        refine AllReadyH.cons (o := { dst := none, op := Op.store 32 (Operand.tmp 6) (Operand.tmp 24), type := _, pos := _, after := _, guard := none }) rfl (fun K' hK' => ?_) AllReadyH.nil
        rw [if_pos (by kernel_rfl)]
        refine wp_store_mid 32 (.tmp 6) (.tmp 24) rfl (w50.heap.size) 0 #[.int .i64 2, .string ⟨#[]⟩] rfl rfl (there_block (C := [.int .i64 0, .string ⟨#[]⟩]) (K99.out.at 0 rfl).1 0 2 (by simp)) Tryd.is32 (by simp [Value.oneCell']) ?_
        have K101 : Hid (Kp w [(w50.heap.size, #[.int .i64 2, .string ⟨#[]⟩], 32), (w40.heap.size, #[.int .i64 2, .string ⟨#[]⟩], 32), (w.heap.size, (rqC q).toArray, 52)] ((w98).setCells (w50.heap.size) 0 (#[.int .i64 2, .string ⟨#[]⟩] : Array Value).toList)) := Lib.hid (K99.out.two 0 (x := .int .i64 0) (y := .string ⟨#[]⟩) rfl (.int .i64 2) (.string ⟨#[]⟩))
        clear K99
        generalize (w98).setCells (w50.heap.size) 0 (#[.int .i64 2, .string ⟨#[]⟩] : Array Value).toList = w102 at K101 ⊢
        refine hK'.out _ _ ((K101.out.at 2 rfl).1) (fun _ => ?_)
        clear hK' K'
        try simp only [Act.put]
        refine wpAnyH_take (i := 8) (oi := { dst := some 7, op := Op.assign (Operand.tmp 25), type := _, pos := _, after := _, guard := none }) (v := .bool false) rfl (by kernel_rfl) (by kernel_rfl) (by kernel_rfl) (fun _ _ _ h => h) (Or.inl ⟨by kernel_rfl, fun W hSW => by go_simp⟩) ((K101.out.at 2 rfl).1) ?_
        try simp only [Act.put, List.setIfInBounds_toArray, List.set_cons_zero, List.set_cons_succ]
        refine wpAnyH_done (by kernel_rfl) ?_ _
        have K60 := K101
        clear K101
        have a0 : w102.cell? ⟨w40.heap.size, 0, none⟩ = some (.int .i64 2) := K60.out.cell 1 rfl 0 _ rfl
        have b0 : w102.cell? ⟨w50.heap.size, 0, none⟩ = some (.int .i64 2) := K60.out.cell 0 rfl 0 _ rfl
        go_wp2_with (first | (go_at_call 18; refine (tlast_nil 1 _).mono ?_; rintro E w61 ⟨rfl, b61⟩; have K61 := Lib.hid (K60.out.below b61); clear b61 K60 a0 b0) | (go_at_call 17; refine (tlist_nil _).mono ?_; rintro E w62 ⟨rfl, rfl⟩) | (go_at_call 9; refine (HW.out _ K61.out.bel).mono ?_; rintro E w63 ⟨rfl, b63⟩; have K63 := Lib.hid (K61.out.below b63); clear b63 K61))
        go_ret
        exact ⟨rfl, K63.out.bel⟩
end Go.Proofs.YtflenghnmflenaaDoor
