/-
  What is proved: a message's bytes, what is tagged and all of it (Bytes, Put). Conditions as stated.
-/
import Derived.Test.YtghjogneogkpoaaGreatDoorMs
namespace Go.Proofs.YtghjogneogkpoaaGreatDoor.Sh
open Go.RowKit
set_option maxRecDepth 100000


open Classical in
/-- A message's bytes, or none. -/
noncomputable def bytesM (m : MMsg) : List UInt8 := if m.may then msgB m else []
open Classical in
noncomputable def putM (m : MMsg) : List UInt8 := if m.may then be 8 m.number ++ (msgB m ++ m.tag) else []
theorem bytes_by (m : MMsg) (w : World) (hm : m.Wf) (z : Bool)
    (HM : Hid (∀ W, Below w.heap.size w W → Calls Tryz.prog 13 #[.agg (msgC m).toArray] W fun E w' => E = .returned (.bool z) ∧ Hid (Below W.heap.size W w')))
    (HT : Hid (z = true → ∀ W, Below w.heap.size w W → Calls Tryz.prog 37 #[.agg (msgC m).toArray] W fun E w' => ∃ A' n' c', E = .returned (.slice A' n' c') ∧ Ow W.heap.size w' A' n' c' (msgB m) ∧ Hid (Below W.heap.size W w'))) :
    Calls Tryz.prog 15 #[.agg (msgC m).toArray] w fun E w' => ∃ A' n' c', E = .returned (.slice A' n' c') ∧ Ow w.heap.size w' A' n' c' (if z then msgB m else []) ∧ Hid (Below w.heap.size w w') := by
  have HI : Hid ((Tryz.prog.info? 34).map (·.size) = some (msgC m).length) := Lib.hid (by rw [msgC_length hm]; exact Tryz.is34)
  have HL : Hid (RqAt w.heap.size w (msgC m) (w.alloc (.cells (msgC m).toArray 34))) := Lib.hid ⟨(Below.refl _ _).alloc (Nat.le_refl _) _, by simp, range_box w (msgC m) 34⟩
  clear hm
  cases z
  · go_enter Tryz.func15, Tryz.ntmps15
    go_wp2_with (first | ((with_reducible refine wpList_load_midG ?_ 34 (.tmp 1) ?_ w.heap.size 0 ?_ (msgC m) _ ?_ Tryz.underlying34 ?_ ?_ ?_); rotate_left; (· rfl); (· rfl); (· exact HL.out.src); (· rfl); (· exact HI.out); rotate_left; (· rfl)) | (go_at_call 13; refine (HM.out _ HL.out.bel).mono ?_; rintro E w1 ⟨rfl, hb1⟩; have HL1 := Lib.hid (HL.out.next (Nat.le_refl _) hb1.out)) | ((with_reducible refine wpList_load_midG ?_ 34 (.tmp 1) ?_ w.heap.size 0 ?_ (msgC m) _ ?_ Tryz.underlying34 ?_ ?_ ?_); rotate_left; (· rfl); (· rfl); (· exact HL1.out.src); (· rfl); (· exact HI.out); rotate_left; (· rfl)) | (go_at_call 37; refine (HT.out (by simp) _ HL1.out.bel).mono ?_; rintro E w2 ⟨A2, n2, c2, rfl, H2, hb2⟩; have O2 := Lib.hid H2; clear H2))
    go_ret
    exact ⟨_, _, _, rfl, by simpa using Ow.nil _ _, Lib.hid HL1.out.bel⟩
  · go_enter Tryz.func15, Tryz.ntmps15
    go_wp2_with (first | ((with_reducible refine wpList_load_midG ?_ 34 (.tmp 1) ?_ w.heap.size 0 ?_ (msgC m) _ ?_ Tryz.underlying34 ?_ ?_ ?_); rotate_left; (· rfl); (· rfl); (· exact HL.out.src); (· rfl); (· exact HI.out); rotate_left; (· rfl)) | (go_at_call 13; refine (HM.out _ HL.out.bel).mono ?_; rintro E w1 ⟨rfl, hb1⟩; have HL1 := Lib.hid (HL.out.next (Nat.le_refl _) hb1.out)) | ((with_reducible refine wpList_load_midG ?_ 34 (.tmp 1) ?_ w.heap.size 0 ?_ (msgC m) _ ?_ Tryz.underlying34 ?_ ?_ ?_); rotate_left; (· rfl); (· rfl); (· exact HL1.out.src); (· rfl); (· exact HI.out); rotate_left; (· rfl)) | (go_at_call 37; refine (HT.out (by simp) _ HL1.out.bel).mono ?_; rintro E w2 ⟨A2, n2, c2, rfl, H2, hb2⟩; have O2 := Lib.hid H2; clear H2))
    go_ret
    exact ⟨_, _, _, rfl, by simpa using O2.out.low HL1.out.bel.size, Lib.hid (HL1.out.next (Nat.le_refl _) hb2.out).bel⟩
open Classical in
theorem bytes_ms (m : MMsg) (w : World) (hm : m.Wf) (hq : Prs w m.body.qa m.body.qs) (hn : m.body.qs.length ≤ 140737488355328) :
    Calls Tryz.prog 15 #[.agg (msgC m).toArray] w fun E w' => ∃ A' n' c', E = .returned (.slice A' n' c') ∧ Ow w.heap.size w' A' n' c' (bytesM m) ∧ Hid (Below w.heap.size w w') := by
  refine (bytes_by m w hm (decide m.may) (Lib.hid fun W h => may_ms m W hm (hq.below h) hn) (Lib.hid fun hz W h => tagged_ms m W hm (hq.below h) (of_decide_eq_true hz))).mono fun E w' ⟨A, n, c, he, ho, hb⟩ => ⟨A, n, c, he, ?_, hb⟩
  unfold bytesM
  by_cases h : m.may
  · simpa [h] using ho
  · simpa [h] using ho
set_option maxHeartbeats 8000000 in
theorem put_by (m : MMsg) (w : World) (hm : m.Wf) (z : Bool) (HTL : Hid (z = true → (msgB m).length ≤ 2000))
    (HM : Hid (∀ W, Below w.heap.size w W → Calls Tryz.prog 13 #[.agg (msgC m).toArray] W fun E w' => E = .returned (.bool z) ∧ Hid (Below W.heap.size W w')))
    (HT : Hid (z = true → ∀ W, Below w.heap.size w W → Calls Tryz.prog 37 #[.agg (msgC m).toArray] W fun E w' => ∃ A' n' c', E = .returned (.slice A' n' c') ∧ Ow W.heap.size w' A' n' c' (msgB m) ∧ Hid (Below W.heap.size W w'))) :
    Calls Tryz.prog 17 #[.agg (msgC m).toArray] w fun E w' => ∃ A' n' c', E = .returned (.slice A' n' c') ∧ Ow w.heap.size w' A' n' c' (if z then be 8 m.number ++ (msgB m ++ m.tag) else []) ∧ Hid (Below w.heap.size w w') := by
  have HI : Hid ((Tryz.prog.info? 34).map (·.size) = some (msgC m).length) := Lib.hid (by rw [msgC_length hm]; exact Tryz.is34)
  have HL : Hid (RqAt w.heap.size w (msgC m) (w.alloc (.cells (msgC m).toArray 34))) := Lib.hid ⟨(Below.refl _ _).alloc (Nat.le_refl _) _, by simp, range_box w (msgC m) 34⟩
  have HMW := Lib.hid hm
  clear hm
  cases z
  · go_enter Tryz.func17, Tryz.ntmps17
    go_wp2_with (first | ((with_reducible refine wpList_load_midG ?_ 34 (.tmp 1) ?_ w.heap.size 0 ?_ (msgC m) _ ?_ Tryz.underlying34 ?_ ?_ ?_); rotate_left; (· rfl); (· rfl); (· exact HL.out.src); (· rfl); (· exact HI.out); rotate_left; (· rfl)) | (go_at_call 13; refine (HM.out _ HL.out.bel).mono ?_; rintro E w1 ⟨rfl, hb1⟩; have HL1 := Lib.hid (HL.out.next (Nat.le_refl _) hb1.out)))
    go_ret
    exact ⟨_, _, _, rfl, by simpa using Ow.nil _ _, Lib.hid HL1.out.bel⟩
  · go_enter Tryz.func17, Tryz.ntmps17
    go_wp2_with (first | ((with_reducible refine wpList_load_midG ?_ 34 (.tmp 1) ?_ w.heap.size 0 ?_ (msgC m) _ ?_ Tryz.underlying34 ?_ ?_ ?_); rotate_left; (· rfl); (· rfl); (· exact HL.out.src); (· rfl); (· exact HI.out); rotate_left; (· rfl)) | (go_at_call 13; refine (HM.out _ HL.out.bel).mono ?_; rintro E w1 ⟨rfl, hb1⟩; have HL1 := Lib.hid (HL.out.next (Nat.le_refl _) hb1.out)))
    refine wp_region_any (by kernel_rfl) ?_
    have H3 := Lib.hid (HL1.out.drewN 1)
    change wpAny _ _ _ _ _ _ _ (w1.drewN 1)
    generalize w1.drewN 1 = w3 at H3 ⊢
    refine wpAny_of_held (S := fun W => W.rangeAt w.heap.size 0 (msgC m)) _ _ _ _ ?_
    refine wpAnyH_take (i := 0) (oi := { dst := some 7, op := Op.fieldAddr 34 (Operand.tmp 1) 1, type := 0, pos := "message.go:27", after := #[], guard := none }) (v := .pointer (some ⟨w.heap.size, 1, none⟩)) rfl (by kernel_rfl) (by kernel_rfl) (by kernel_rfl) (fun _ _ _ h => h) (Or.inl ⟨by kernel_rfl, fun W hSW => by go_simp⟩) (H3.out.src) ?_
    try simp only [Act.put, List.setIfInBounds_toArray, List.set_cons_zero, List.set_cons_succ]
    refine wpAnyH_take (i := 1) (oi := { dst := some 8, op := Op.load 22 (Operand.tmp 7), type := 22, pos := "message.go:27", after := #[{ on := 0, ground := Ground.data }], guard := none }) (v := .int .u64 (m.number : Int)) rfl (by kernel_rfl) (by kernel_rfl) (by kernel_rfl) (fun _ _ _ h => h) (Or.inl ⟨by kernel_rfl, fun W hSW => by have hv := (msg_lies hSW HMW.out).number; go_simp⟩) (H3.out.src) ?_
    try simp only [Act.put, List.setIfInBounds_toArray, List.set_cons_zero, List.set_cons_succ]
    refine wpAnyH_take (i := 3) (oi := { dst := some 10, op := Op.load 34 (Operand.tmp 1), type := 34, pos := "message.go:27", after := #[], guard := none }) (v := .agg (msgC m).toArray) rfl (by kernel_rfl) (by kernel_rfl) (by kernel_rfl) (fun _ _ _ h => h) (Or.inl ⟨by kernel_rfl, fun W hSW => exec_load_mid 34 (.tmp 1) rfl w.heap.size 0 rfl (msgC m) _ (hSW) Tryz.underlying34 rfl (HI.out)⟩) (H3.out.src) ?_
    try simp only [Act.put, List.setIfInBounds_toArray, List.set_cons_zero, List.set_cons_succ]
    refine wpAnyH_ready (rs := [2]) (by kernel_rfl) (by simp) ?_
    refine AllReadyH.cons (o := { dst := some 9, op := Op.call { callee := Callee.value (Operand.func 40), args := #[Operand.const (Value.slice none 0 0), Operand.tmp 8], argTypes := #[38, 22] }, type := 38, pos := "message.go:27", after := #[{ on := 1, ground := Ground.data }], guard := none }) rfl (fun K' hK' => ?_) AllReadyH.nil
    go_simp
    go_at_call 40
    refine (word_ow m.number (Ow.nil 0 w3) (by omega)).mono ?_
    rintro E w4 ⟨Aw4, nw4, cw4, rfl, Hxw4, hbw4⟩
    have Ow4 := Lib.hid Hxw4
    clear Hxw4
    have H4 := Lib.hid (H3.out.next (Nat.le_refl _) hbw4.out)
    refine hK'.out _ _ H4.out.src (fun _ => ?_)
    clear hK' K'
    try simp only [Act.put, List.setIfInBounds_toArray, List.set_cons_zero, List.set_cons_succ]
    refine wpAnyH_ready (rs := [4]) (by kernel_rfl) (by simp) ?_
    refine AllReadyH.cons (o := { dst := some 11, op := Op.call { callee := Callee.value (Operand.func 37), args := #[Operand.tmp 10], argTypes := #[34] }, type := 38, pos := "message.go:27", after := #[{ on := 3, ground := Ground.data }, { on := 2, ground := Ground.chain }], guard := none }) rfl (fun K' hK' => ?_) AllReadyH.nil
    go_simp
    go_at_call 37
    refine (HT.out (by simp) _ H4.out.bel).mono ?_
    rintro E w5 ⟨Aw5, nw5, cw5, rfl, Hxw5, hbw5⟩
    have Ow5 := Lib.hid Hxw5
    clear Hxw5
    have H5 := Lib.hid (H4.out.next (Nat.le_refl _) hbw5.out)
    refine hK'.out _ _ H5.out.src (fun _ => ?_)
    clear hK' K'
    try simp only [Act.put, List.setIfInBounds_toArray, List.set_cons_zero, List.set_cons_succ]
    have OA : Hid (Ow (w.heap.size + 1) w5 Aw4 nw4 cw4 ([] ++ be 8 m.number)) := Lib.hid ((Ow4.out.below hbw5.out).low (by have := H3.out.lt; omega))
    refine wpAnyH_ready (rs := [5]) (by kernel_rfl) (by simp) ?_
    refine AllReadyH.cons (o := { dst := some 12, op := Op.call { callee := Callee.builtin Builtin.append, args := #[Operand.tmp 9, Operand.tmp 11], argTypes := #[38, 38] }, type := 38, pos := "message.go:27", after := #[{ on := 2, ground := Ground.data }, { on := 4, ground := Ground.data }, { on := 4, ground := Ground.chain }], guard := none }) rfl (fun K' hK' => ?_) AllReadyH.nil
    refine step_append_gb rfl (.tmp 9) (.tmp 11) rfl (w.heap.size + 1) nw4 nw5 cw5 (.slice Aw4 nw4 cw4) Aw5 ([] ++ be 8 m.number) (msgB m) rfl rfl OA.out.1 (Ow5.out.rd) (Ow5.out.2) (by have := H5.out.lt; omega) (by have := (OA.out).len; have := (Ow5.out).len; have := HTL.out (by simp); simp only [List.length_append, be_length, List.length_nil] at *; omega) ?_
    intro A6 c6 w6 H6 G6
    have D6 := Lib.hid (H5.out.fresh (Nat.le_refl _) (OA.out.1) G6.out)
    have hn6 : nw4 + nw5 ≤ 100000 := by have := (OA.out).len; have := (Ow5.out).len; have := HTL.out (by simp); simp only [List.length_append, be_length, List.length_nil] at *; omega
    refine hK'.out _ _ D6.out.src (fun _ => ?_)
    clear hK' K'
    try simp only [Act.put, List.setIfInBounds_toArray, List.set_cons_zero, List.set_cons_succ]
    refine wpAnyH_take (i := 6) (oi := { dst := some 3, op := Op.assign (Operand.tmp 12), type := 38, pos := "message.go:27", after := #[{ on := 5, ground := Ground.data }, { on := 5, ground := Ground.chain }, { on := 0, ground := Ground.phase }, { on := 1, ground := Ground.phase }, { on := 2, ground := Ground.phase }, { on := 3, ground := Ground.phase }, { on := 4, ground := Ground.phase }, { on := 5, ground := Ground.phase }], guard := none }) (v := .slice A6 (nw4 + nw5) c6) rfl (by kernel_rfl) (by kernel_rfl) (by kernel_rfl) (fun _ _ _ h => h) (Or.inl ⟨by kernel_rfl, fun W hSW => by go_simp⟩) (D6.out.src) ?_
    try simp only [Act.put, List.setIfInBounds_toArray, List.set_cons_zero, List.set_cons_succ]
    refine wpAnyH_done (by kernel_rfl) ?_ _
    go_wp2_with (at_builtin; go_must (refine wpList_append_gb rfl (.tmp 13) (.tmp 15) rfl (w.heap.size + 1) (nw4 + nw5) 32 32 (.slice A6 (nw4 + nw5) c6) (some ⟨w.heap.size, 89, none⟩) ([] ++ be 8 m.number ++ msgB m) m.tag rfl rfl H6.out.1 (rd_of_range (msg_lies D6.out.src HMW.out).tag HMW.out.2.2 D6.out.lt) sl_32 (by have := D6.out.lt; omega) (by omega) ?_); intro A8 c8 w8 H8 G8)
    go_ret
    have D8 := Lib.hid (D6.out.fresh (Nat.le_refl _) H6.out.1 G8.out)
    exact ⟨_, _, _, rfl, ⟨by have := own_low H8.out.1 (B' := w.heap.size) (by omega); simpa [List.append_assoc] using this, H8.out.2⟩, Lib.hid D8.out.bel⟩

theorem depsB_len (l : List Nat) : (depsB l).length = 8 * l.length := by
  induction l with
  | nil => rfl
  | cons a t ih => rw [depsB, List.flatMap_cons, List.length_append, be_length]; rw [depsB] at ih; rw [ih, List.length_cons]; omega
theorem pairsB_len (l : List (Int × Nat)) : (pairsB l).length = 9 * l.length := by
  induction l with
  | nil => rfl
  | cons a t ih => rw [pairsB, List.flatMap_cons, List.length_append, pairB_len]; rw [pairsB] at ih; rw [ih, List.length_cons]; omega
theorem bodyB_len {x : MBody} (hx : x.Wf) (h : kindMay x = true) : (bodyB x).length ≤ 500 := by
  rcases kinds_of h with ⟨e, hr⟩ | e | e | e | ⟨e, hp⟩ | e
  · have := reqB_len hr
    simp [bodyB, e, be_length, hx.1]
    omega
  · simp [bodyB, e, be_length]
  · simp [bodyB, e, be_length]
  · simp [bodyB, e, be_length]
  · have := (prs_all hp).2
    simp [bodyB, e, be_length, pairsB_len]
    omega
  · simp [bodyB, e, be_length, hx.2]
theorem msgB_len {m : MMsg} (hm : m.Wf) (h : m.may) : (msgB m).length ≤ 700 := by
  have := bodyB_len hm.2.1 h.2.2.1
  simp only [msgB, List.length_cons, List.length_append, depsB_len, hm.1]
  omega
open Classical in
theorem put_ms (m : MMsg) (w : World) (hm : m.Wf) (hq : Prs w m.body.qa m.body.qs) (hn : m.body.qs.length ≤ 140737488355328) :
    Calls Tryz.prog 17 #[.agg (msgC m).toArray] w fun E w' => ∃ A' n' c', E = .returned (.slice A' n' c') ∧ Ow w.heap.size w' A' n' c' (putM m) ∧ Hid (Below w.heap.size w w') := by
  refine (put_by m w hm (decide m.may) (Lib.hid fun hz => Nat.le_trans (msgB_len hm (of_decide_eq_true hz)) (by omega)) (Lib.hid fun W h => may_ms m W hm (hq.below h) hn) (Lib.hid fun hz W h => tagged_ms m W hm (hq.below h) (of_decide_eq_true hz))).mono fun E w' ⟨A, n, c, he, ho, hb⟩ => ⟨A, n, c, he, ?_, hb⟩
  unfold putM
  by_cases h : m.may
  · simpa [h] using ho
  · simpa [h] using ho
end Go.Proofs.YtghjogneogkpoaaGreatDoor.Sh
