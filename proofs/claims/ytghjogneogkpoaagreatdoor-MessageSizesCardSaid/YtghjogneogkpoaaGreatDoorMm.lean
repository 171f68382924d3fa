/-
  What is proved: a body's bytes, kind by kind: Commit and Check. Conditions as stated.
-/
import Derived.Test.YtghjogneogkpoaaGreatDoorMl
namespace Go.Proofs.YtghjogneogkpoaaGreatDoor.Sh
open Go.RowKit
set_option maxRecDepth 100000

set_option maxHeartbeats 4000000 in
theorem putCommit_ms (b : MBody) (hb : b.Wf) : Puts 93 b (be 8 b.view ++ be 8 b.k) := by
  intro B n c w A bs h hn
  have HBD := Lib.hid hb
  have hl := h.len
  have HQ : Hid (BodyLies ((w.alloc (.cells (bodyC b).toArray 32)).drewN 1) w.heap.size 0 b ∧ Below w.heap.size w ((w.alloc (.cells (bodyC b).toArray 32)).drewN 1) ∧ w.heap.size < ((w.alloc (.cells (bodyC b).toArray 32)).drewN 1).heap.size ∧ Ow B ((w.alloc (.cells (bodyC b).toArray 32)).drewN 1) A n c bs) :=
    Lib.hid ⟨body_lies (range_box w (bodyC b) 32) hb, below_drewN ((Below.refl _ _).alloc (Nat.le_refl _) _) 1, by simp, h.below (below_drewN ((Below.refl _ _).alloc (Nat.le_refl _) _) 1)⟩
  clear hb h
  go_enter Tryz.func93, Tryz.ntmps93
  go_wp2_with fail
  refine wp_region_any (by kernel_rfl) ?_
  change wpAny _ _ _ _ _ _ _ ((w.alloc (.cells (bodyC b).toArray 32)).drewN 1)
  generalize (w.alloc (.cells (bodyC b).toArray 32)).drewN 1 = w3 at HQ ⊢
  refine wpAny_of_held (S := fun W => Below w3.heap.size w3 W) _ _ _ _ ?_
  refine wpAnyH_take (i := 0) (oi := { dst := some 5, op := Op.move (Operand.tmp 0), type := 38, pos := "message.go:173", after := #[], guard := none }) (v := .slice A n c) rfl (by kernel_rfl) (by kernel_rfl) (by kernel_rfl) (fun _ _ _ h => h) (Or.inl ⟨by kernel_rfl, fun W hSW => by go_simp⟩) (Below.refl _ _) ?_
  try simp only [Act.put, List.setIfInBounds_toArray, List.set_cons_zero, List.set_cons_succ]
  refine wpAnyH_take (i := 1) (oi := { dst := some 6, op := Op.fieldAddr 32 (Operand.tmp 3) 1, type := 0, pos := "message.go:173", after := #[], guard := none }) (v := .pointer (some ⟨w.heap.size, 1, none⟩)) rfl (by kernel_rfl) (by kernel_rfl) (by kernel_rfl) (fun _ _ _ h => h) (Or.inl ⟨by kernel_rfl, fun W hSW => by go_simp⟩) (Below.refl _ _) ?_
  try simp only [Act.put, List.setIfInBounds_toArray, List.set_cons_zero, List.set_cons_succ]
  refine wpAnyH_take (i := 2) (oi := { dst := some 7, op := Op.load 22 (Operand.tmp 6), type := 22, pos := "message.go:173", after := #[{ on := 1, ground := Ground.data }], guard := none }) (v := .int .u64 (b.view : Int)) rfl (by kernel_rfl) (by kernel_rfl) (by kernel_rfl) (fun _ _ _ h => h) (Or.inl ⟨by kernel_rfl, fun W hSW => by have hv := (hSW.cell (p := ⟨w.heap.size, 1, none⟩) HQ.out.2.2.1).trans HQ.out.1.view; go_simp⟩) (Below.refl _ _) ?_
  try simp only [Act.put, List.setIfInBounds_toArray, List.set_cons_zero, List.set_cons_succ]
  refine wpAnyH_take (i := 4) (oi := { dst := some 9, op := Op.fieldAddr 32 (Operand.tmp 3) 2, type := 0, pos := "message.go:173", after := #[], guard := none }) (v := .pointer (some ⟨w.heap.size, 2, none⟩)) rfl (by kernel_rfl) (by kernel_rfl) (by kernel_rfl) (fun _ _ _ h => h) (Or.inl ⟨by kernel_rfl, fun W hSW => by go_simp⟩) (Below.refl _ _) ?_
  try simp only [Act.put, List.setIfInBounds_toArray, List.set_cons_zero, List.set_cons_succ]
  refine wpAnyH_take (i := 5) (oi := { dst := some 10, op := Op.load 22 (Operand.tmp 9), type := 22, pos := "message.go:173", after := #[{ on := 4, ground := Ground.data }], guard := none }) (v := .int .u64 (b.k : Int)) rfl (by kernel_rfl) (by kernel_rfl) (by kernel_rfl) (fun _ _ _ h => h) (Or.inl ⟨by kernel_rfl, fun W hSW => by have hv := (hSW.cell (p := ⟨w.heap.size, 2, none⟩) HQ.out.2.2.1).trans HQ.out.1.k; go_simp⟩) (Below.refl _ _) ?_
  try simp only [Act.put, List.setIfInBounds_toArray, List.set_cons_zero, List.set_cons_succ]
  refine wpAnyH_ready (rs := [3]) (by kernel_rfl) (by simp) ?_
  refine AllReadyH.cons (o := { dst := some 8, op := Op.call { callee := Callee.value (Operand.func 40), args := #[Operand.tmp 5, Operand.tmp 7], argTypes := #[38, 22] }, type := 38, pos := "message.go:173", after := #[{ on := 0, ground := Ground.data }, { on := 2, ground := Ground.data }], guard := none }) rfl (fun K' hK' => ?_) AllReadyH.nil
  go_simp
  go_at_call 40
  refine (word_ow b.view HQ.out.2.2.2 (by omega)).mono ?_
  rintro E w4 ⟨Aw4, nw4, cw4, rfl, H4, hb4⟩
  have lw4 := H4.len
  have Ow4 := Lib.hid H4
  clear H4
  simp only [List.length_append, be_length] at lw4
  refine hK'.out _ _ hb4.out (fun _ => wpAnyH_next hb4.out ?_)
  clear hK' K'
  try simp only [Act.put, List.setIfInBounds_toArray, List.set_cons_zero, List.set_cons_succ]
  refine wpAnyH_ready (rs := [6]) (by kernel_rfl) (by simp) ?_
  refine AllReadyH.cons (o := { dst := some 11, op := Op.call { callee := Callee.value (Operand.func 40), args := #[Operand.tmp 8, Operand.tmp 10], argTypes := #[38, 22] }, type := 38, pos := "message.go:173", after := #[{ on := 3, ground := Ground.data }, { on := 5, ground := Ground.data }, { on := 3, ground := Ground.chain }], guard := none }) rfl (fun K' hK' => ?_) AllReadyH.nil
  go_simp
  go_at_call 40
  refine (word_ow b.k Ow4.out (by omega)).mono ?_
  rintro E w5 ⟨Aw5, nw5, cw5, rfl, H5, hb5⟩
  have lw5 := H5.len
  have Ow5 := Lib.hid H5
  clear H5
  simp only [List.length_append, be_length] at lw5
  refine hK'.out _ _ hb5.out (fun _ => wpAnyH_next hb5.out ?_)
  clear hK' K'
  try simp only [Act.put, List.setIfInBounds_toArray, List.set_cons_zero, List.set_cons_succ]
  refine wpAnyH_take (i := 7) (oi := { dst := some 4, op := Op.assign (Operand.tmp 11), type := 38, pos := "message.go:173", after := #[{ on := 6, ground := Ground.data }, { on := 6, ground := Ground.chain }, { on := 0, ground := Ground.phase }, { on := 1, ground := Ground.phase }, { on := 2, ground := Ground.phase }, { on := 3, ground := Ground.phase }, { on := 4, ground := Ground.phase }, { on := 5, ground := Ground.phase }, { on := 6, ground := Ground.phase }], guard := none }) (v := .slice Aw5 nw5 cw5) rfl (by kernel_rfl) (by kernel_rfl) (by kernel_rfl) (fun _ _ _ h => h) (Or.inl ⟨by kernel_rfl, fun W hSW => by go_simp⟩) (Below.refl _ _) ?_
  try simp only [Act.put, List.setIfInBounds_toArray, List.set_cons_zero, List.set_cons_succ]
  refine wpAnyH_done (by kernel_rfl) ?_ _
  go_wp2_with fail
  go_ret
  exact ⟨_, _, _, rfl, by rw [← List.append_assoc]; exact Ow5.out.low (Nat.le_trans HQ.out.2.1.size hb4.out.size), Lib.hid (HQ.out.2.1.trans ((hb4.out.trans (hb5.out.mono hb4.out.size)).mono HQ.out.2.1.size))⟩
theorem rd_of_range {w : World} {g o : Nat} {bs : List UInt8} (h : w.rangeAt g o (u8s bs)) (hl : bs.length = 32) (hg : g < w.heap.size) : Rd (fun _ => True) w (some ⟨g, o, none⟩) 32 bs :=
  ⟨hl, fun _ => ⟨g, o, rfl, hg, trivial, fun j u hu => h j _ (by simp [u8s, hu])⟩⟩
theorem sl_32 {a : Addr} : Sl (some a) 32 32 := ⟨(fun h => by cases h), Nat.le_refl _, by omega⟩
set_option maxHeartbeats 4000000 in
theorem putCheck_ms (b : MBody) (hb : b.Wf) : Puts 96 b (be 8 b.k ++ b.dig) := by
  intro B n c w A bs h hn
  have HBD := Lib.hid hb
  have hl := h.len
  have HQ : Hid (BodyLies ((w.alloc (.cells (bodyC b).toArray 32)).drewN 1) w.heap.size 0 b ∧ Below w.heap.size w ((w.alloc (.cells (bodyC b).toArray 32)).drewN 1) ∧ w.heap.size < ((w.alloc (.cells (bodyC b).toArray 32)).drewN 1).heap.size ∧ Ow B ((w.alloc (.cells (bodyC b).toArray 32)).drewN 1) A n c bs) :=
    Lib.hid ⟨body_lies (range_box w (bodyC b) 32) hb, below_drewN ((Below.refl _ _).alloc (Nat.le_refl _) _) 1, by simp, h.below (below_drewN ((Below.refl _ _).alloc (Nat.le_refl _) _) 1)⟩
  clear hb h
  go_enter Tryz.func96, Tryz.ntmps96
  go_wp2_with fail
  refine wp_region_any (by kernel_rfl) ?_
  change wpAny _ _ _ _ _ _ _ ((w.alloc (.cells (bodyC b).toArray 32)).drewN 1)
  generalize (w.alloc (.cells (bodyC b).toArray 32)).drewN 1 = w3 at HQ ⊢
  refine wpAny_of_held (S := fun W => Below w3.heap.size w3 W) _ _ _ _ ?_
  refine wpAnyH_take (i := 0) (oi := { dst := some 5, op := Op.move (Operand.tmp 0), type := 38, pos := "message.go:185", after := #[], guard := none }) (v := .slice A n c) rfl (by kernel_rfl) (by kernel_rfl) (by kernel_rfl) (fun _ _ _ h => h) (Or.inl ⟨by kernel_rfl, fun W hSW => by go_simp⟩) (Below.refl _ _) ?_
  try simp only [Act.put, List.setIfInBounds_toArray, List.set_cons_zero, List.set_cons_succ]
  refine wpAnyH_take (i := 1) (oi := { dst := some 6, op := Op.fieldAddr 32 (Operand.tmp 3) 2, type := 0, pos := "message.go:185", after := #[], guard := none }) (v := .pointer (some ⟨w.heap.size, 2, none⟩)) rfl (by kernel_rfl) (by kernel_rfl) (by kernel_rfl) (fun _ _ _ h => h) (Or.inl ⟨by kernel_rfl, fun W hSW => by go_simp⟩) (Below.refl _ _) ?_
  try simp only [Act.put, List.setIfInBounds_toArray, List.set_cons_zero, List.set_cons_succ]
  refine wpAnyH_take (i := 2) (oi := { dst := some 7, op := Op.load 22 (Operand.tmp 6), type := 22, pos := "message.go:185", after := #[{ on := 1, ground := Ground.data }], guard := none }) (v := .int .u64 (b.k : Int)) rfl (by kernel_rfl) (by kernel_rfl) (by kernel_rfl) (fun _ _ _ h => h) (Or.inl ⟨by kernel_rfl, fun W hSW => by have hv := (hSW.cell (p := ⟨w.heap.size, 2, none⟩) HQ.out.2.2.1).trans HQ.out.1.k; go_simp⟩) (Below.refl _ _) ?_
  try simp only [Act.put, List.setIfInBounds_toArray, List.set_cons_zero, List.set_cons_succ]
  refine wpAnyH_take (i := 4) (oi := { dst := some 9, op := Op.fieldAddr 32 (Operand.tmp 3) 5, type := 0, pos := "message.go:185", after := #[], guard := none }) (v := .pointer (some ⟨w.heap.size, 44, none⟩)) rfl (by kernel_rfl) (by kernel_rfl) (by kernel_rfl) (fun _ _ _ h => h) (Or.inl ⟨by kernel_rfl, fun W hSW => by go_simp⟩) (Below.refl _ _) ?_
  try simp only [Act.put, List.setIfInBounds_toArray, List.set_cons_zero, List.set_cons_succ]
  refine wpAnyH_take (i := 5) (oi := { dst := some 10, op := Op.slice 27 (Operand.tmp 9) none none none, type := 38, pos := "message.go:185", after := #[{ on := 4, ground := Ground.data }], guard := none }) (v := .slice (some ⟨w.heap.size, 44, none⟩) 32 32) rfl (by kernel_rfl) (by kernel_rfl) (by kernel_rfl) (fun _ _ _ h => h) (Or.inl ⟨by kernel_rfl, fun W hSW => by go_simp⟩) (Below.refl _ _) ?_
  try simp only [Act.put, List.setIfInBounds_toArray, List.set_cons_zero, List.set_cons_succ]
  refine wpAnyH_ready (rs := [3]) (by kernel_rfl) (by simp) ?_
  refine AllReadyH.cons (o := { dst := some 8, op := Op.call { callee := Callee.value (Operand.func 40), args := #[Operand.tmp 5, Operand.tmp 7], argTypes := #[38, 22] }, type := 38, pos := "message.go:185", after := #[{ on := 0, ground := Ground.data }, { on := 2, ground := Ground.data }], guard := none }) rfl (fun K' hK' => ?_) AllReadyH.nil
  go_simp
  go_at_call 40
  refine (word_ow b.k HQ.out.2.2.2 (by omega)).mono ?_
  rintro E w4 ⟨Aw4, nw4, cw4, rfl, H4, hb4⟩
  have lw4 := H4.len
  have Ow4 := Lib.hid H4
  clear H4
  simp only [List.length_append, be_length] at lw4
  refine hK'.out _ _ hb4.out (fun _ => ?_)
  clear hK' K'
  try simp only [Act.put, List.setIfInBounds_toArray, List.set_cons_zero, List.set_cons_succ]
  have HD := Lib.hid (HQ.out.1.dig)
  refine wpAnyH_ready (rs := [6]) (by kernel_rfl) (by simp) ?_
  refine AllReadyH.cons (o := { dst := some 11, op := Op.call { callee := Callee.builtin Builtin.append, args := #[Operand.tmp 8, Operand.tmp 10], argTypes := #[38, 38] }, type := 38, pos := "message.go:185", after := #[{ on := 3, ground := Ground.data }, { on := 5, ground := Ground.data }, { on := 3, ground := Ground.chain }], guard := none }) rfl (fun K' hK' => ?_) AllReadyH.nil
  refine step_append_gb rfl (.tmp 8) (.tmp 10) rfl w3.heap.size nw4 32 32 (.slice Aw4 nw4 cw4) (some ⟨w.heap.size, 44, none⟩) (bs ++ be 8 b.k) b.dig rfl rfl Ow4.out.1 (Pr := fun _ => True) (rd_of_range (rangeAt_below HQ.out.1.dig hb4.out HQ.out.2.2.1) HBD.out.2 (Nat.lt_of_lt_of_le HQ.out.2.2.1 hb4.out.size)) sl_32 hb4.out.size (by omega) ?_
  intro A5 c5 w5 H5 G5
  have hb5 := Lib.hid (hb4.out.grown G5.out hb4.out.size (fun k hk => (Ow4.out.1.lt k hk).1))
  refine hK'.out _ _ hb5.out (fun _ => ?_)
  clear hK' K'
  try simp only [Act.put, List.setIfInBounds_toArray, List.set_cons_zero, List.set_cons_succ]
  refine wpAnyH_take (i := 7) (oi := { dst := some 4, op := Op.assign (Operand.tmp 11), type := 38, pos := "message.go:185", after := #[{ on := 6, ground := Ground.data }, { on := 6, ground := Ground.chain }, { on := 0, ground := Ground.phase }, { on := 1, ground := Ground.phase }, { on := 2, ground := Ground.phase }, { on := 3, ground := Ground.phase }, { on := 4, ground := Ground.phase }, { on := 5, ground := Ground.phase }, { on := 6, ground := Ground.phase }], guard := none }) (v := .slice A5 (nw4 + 32) c5) rfl (by kernel_rfl) (by kernel_rfl) (by kernel_rfl) (fun _ _ _ h => h) (Or.inl ⟨by kernel_rfl, fun W hSW => by go_simp⟩) (hb5.out) ?_
  try simp only [Act.put, List.setIfInBounds_toArray, List.set_cons_zero, List.set_cons_succ]
  refine wpAnyH_done (by kernel_rfl) ?_ _
  go_wp2_with fail
  go_ret
  exact ⟨_, _, _, rfl, ⟨by rw [← List.append_assoc]; exact own_low H5.out.1 HQ.out.2.1.size, H5.out.2⟩, Lib.hid (HQ.out.2.1.trans (hb5.out.mono HQ.out.2.1.size))⟩
end Go.Proofs.YtghjogneogkpoaaGreatDoor.Sh
