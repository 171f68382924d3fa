/-
  What is proved: a body's bytes: NewView. Conditions as stated.
-/
import Derived.Test.YtghjogneogkpoaaGreatDoorMo
namespace Go.Proofs.YtghjogneogkpoaaGreatDoor.Sh
open Go.RowKit
set_option maxRecDepth 100000

theorem rd_byte {w : World} {u : UInt8} {z : Int} (hz : z = (u.toNat : Int)) : Rd (fun _ => True) (w.alloc (.cells #[.int .u8 z] 5)) (some ⟨w.heap.size, 0, none⟩) 1 [u] :=
  ⟨rfl, fun _ => ⟨_, 0, rfl, by simp, trivial, fun j y hy => by
    subst hz
    exact range_box w (u8s [u]) 5 j _ (by rw [u8s, List.getElem?_map, hy]; rfl)⟩⟩
theorem sl_1 {a : Addr} : Sl (some a) 1 1 := ⟨(fun h => by cases h), Nat.le_refl _, by omega⟩
theorem pairsB_take {l : List (Int × Nat)} {j : Nat} {p : Int × Nat} (h : l[j]? = some p) : pairsB (l.take (j + 1)) = pairsB (l.take j) ++ pairB p := by
  unfold pairsB
  rw [List.take_add_one, h, List.flatMap_append]
  simp
theorem u8_wrap {i : Int} (h : 0 ≤ i ∧ i < 256) : IntKind.u8.wrap i = ((byteOf i).toNat : Int) := by
  rw [byteOf_val h]
  unfold IntKind.wrap
  simp [IntKind.bits, IntKind.signed]
  omega
theorem pairB_len (p : Int × Nat) : (pairB p).length = 9 := by simp [pairB, be_length]
set_option maxHeartbeats 8000000 in
theorem putNewView_ms (b : MBody) (hb : b.Wf) (h11 : b.qs.length ≤ 11) (hrep : ∀ p ∈ b.qs, 1 ≤ p.1 ∧ p.1 ≤ 11) (B n c : Nat) (w : World) (A : Option Addr) (bs : List UInt8) (h : Ow B w A n c bs) (hn : n ≤ 1000000) (hq : Prs w b.qa b.qs) :
    Calls Tryz.prog 95 #[.slice A n c, .agg (bodyC b).toArray] w fun E w' => ∃ A' n' c', E = .returned (.slice A' n' c') ∧ Ow w.heap.size w' A' n' c' (bs ++ (be 8 b.view ++ (byteOf (b.qs.length : Int) :: pairsB b.qs))) ∧ Hid (Below w.heap.size w w') := by
  have HQP := Lib.hid hq
  have HRP := Lib.hid hrep
  obtain ⟨m, hm⟩ : ∃ m, m = b.qs.length := ⟨_, rfl⟩
  have HMQ := Lib.hid hm
  have hwm : IntKind.u8.wrap (m : Int) = ((byteOf (m : Int)).toNat : Int) := u8_wrap (by omega)
  rw [← hm] at h11 ⊢
  have q43 : ((w.alloc (.cells (bodyC b).toArray 32)).cell? ⟨w.heap.size, 43, none⟩) = some (.slice b.qa m b.qc) := by
    have := (body_lies (range_box w (bodyC b) 32) hb).q
    rw [hm]
    exact this
  have HQ43 := Lib.hid q43
  clear q43 hm hq hrep
  have HBD := Lib.hid hb
  have hl := h.len
  have HQ : Hid (BodyLies ((w.alloc (.cells (bodyC b).toArray 32)).drewN 1) w.heap.size 0 b ∧ Below w.heap.size w ((w.alloc (.cells (bodyC b).toArray 32)).drewN 1) ∧ w.heap.size < ((w.alloc (.cells (bodyC b).toArray 32)).drewN 1).heap.size ∧ Ow B ((w.alloc (.cells (bodyC b).toArray 32)).drewN 1) A n c bs) :=
    Lib.hid ⟨body_lies (range_box w (bodyC b) 32) hb, below_drewN ((Below.refl _ _).alloc (Nat.le_refl _) _) 1, by simp, h.below (below_drewN ((Below.refl _ _).alloc (Nat.le_refl _) _) 1)⟩
  clear hb h
  go_enter Tryz.func95, Tryz.ntmps95
  go_wp2_with fail
  have HQ3 : Hid (((w.alloc (.cells (bodyC b).toArray 32)).drewN 1).cell? ⟨w.heap.size, 43, none⟩ = some (.slice b.qa m b.qc)) := HQ43
  clear HQ43
  refine wp_region_any (by kernel_rfl) ?_
  change wpAny _ _ _ _ _ _ _ ((w.alloc (.cells (bodyC b).toArray 32)).drewN 1)
  generalize (w.alloc (.cells (bodyC b).toArray 32)).drewN 1 = w3 at HQ HQ3 ⊢
  refine wpAny_of_held (S := fun W => Below w3.heap.size w3 W) _ _ _ _ ?_
  refine wpAnyH_take (i := 0) (oi := { dst := some 7, op := Op.move (Operand.tmp 0), type := 38, pos := "message.go:178", after := #[], guard := none }) (v := .slice A n c) rfl (by kernel_rfl) (by kernel_rfl) (by kernel_rfl) (fun _ _ _ h => h) (Or.inl ⟨by kernel_rfl, fun W hSW => by go_simp⟩) (Below.refl _ _) ?_
  try simp only [Act.put, List.setIfInBounds_toArray, List.set_cons_zero, List.set_cons_succ]
  refine wpAnyH_take (i := 1) (oi := { dst := some 8, op := Op.fieldAddr 32 (Operand.tmp 3) 1, type := 0, pos := "message.go:178", after := #[], guard := none }) (v := .pointer (some ⟨w.heap.size, 1, none⟩)) rfl (by kernel_rfl) (by kernel_rfl) (by kernel_rfl) (fun _ _ _ h => h) (Or.inl ⟨by kernel_rfl, fun W hSW => by go_simp⟩) (Below.refl _ _) ?_
  try simp only [Act.put, List.setIfInBounds_toArray, List.set_cons_zero, List.set_cons_succ]
  refine wpAnyH_take (i := 2) (oi := { dst := some 9, op := Op.load 22 (Operand.tmp 8), type := 22, pos := "message.go:178", after := #[{ on := 1, ground := Ground.data }], guard := none }) (v := .int .u64 (b.view : Int)) rfl (by kernel_rfl) (by kernel_rfl) (by kernel_rfl) (fun _ _ _ h => h) (Or.inl ⟨by kernel_rfl, fun W hSW => by have hv := (hSW.cell (p := ⟨w.heap.size, 1, none⟩) HQ.out.2.2.1).trans HQ.out.1.view; go_simp⟩) (Below.refl _ _) ?_
  try simp only [Act.put, List.setIfInBounds_toArray, List.set_cons_zero, List.set_cons_succ]
  refine wpAnyH_take (i := 4) (oi := { dst := some 11, op := Op.fieldAddr 32 (Operand.tmp 3) 4, type := 0, pos := "message.go:178", after := #[], guard := none }) (v := .pointer (some ⟨w.heap.size, 43, none⟩)) rfl (by kernel_rfl) (by kernel_rfl) (by kernel_rfl) (fun _ _ _ h => h) (Or.inl ⟨by kernel_rfl, fun W hSW => by go_simp⟩) (Below.refl _ _) ?_
  try simp only [Act.put, List.setIfInBounds_toArray, List.set_cons_zero, List.set_cons_succ]
  refine wpAnyH_take (i := 5) (oi := { dst := some 12, op := Op.load 30 (Operand.tmp 11), type := 30, pos := "message.go:178", after := #[{ on := 4, ground := Ground.data }], guard := none }) (v := .slice b.qa m b.qc) rfl (by kernel_rfl) (by kernel_rfl) (by kernel_rfl) (fun _ _ _ h => h) (Or.inl ⟨by kernel_rfl, fun W hSW => by have hv := (hSW.cell (p := ⟨w.heap.size, 43, none⟩) HQ.out.2.2.1).trans HQ3.out; go_simp⟩) (Below.refl _ _) ?_
  try simp only [Act.put, List.setIfInBounds_toArray, List.set_cons_zero, List.set_cons_succ]
  refine wpAnyH_take (i := 6) (oi := { dst := some 13, op := Op.call { callee := Callee.builtin Builtin.len, args := #[Operand.tmp 12], argTypes := #[30] }, type := 3, pos := "message.go:178", after := #[{ on := 5, ground := Ground.data }], guard := none }) (v := .int .i64 (m : Int)) rfl (by kernel_rfl) (by kernel_rfl) (by kernel_rfl) (fun _ _ _ h => h) (Or.inl ⟨by kernel_rfl, fun W hSW => by go_simp⟩) (Below.refl _ _) ?_
  try simp only [Act.put, List.setIfInBounds_toArray, List.set_cons_zero, List.set_cons_succ]
  refine wpAnyH_take (i := 7) (oi := { dst := some 14, op := Op.convert 3 5 (Operand.tmp 13), type := 5, pos := "message.go:178", after := #[{ on := 6, ground := Ground.data }], guard := none }) (v := .int .u8 ((byteOf (m : Int)).toNat : Int)) rfl (by kernel_rfl) (by kernel_rfl) (by kernel_rfl) (fun _ _ _ h => h) (Or.inl ⟨by kernel_rfl, fun W hSW => by go_simp⟩) (Below.refl _ _) ?_
  try simp only [Act.put, List.setIfInBounds_toArray, List.set_cons_zero, List.set_cons_succ]
  refine wpAnyH_ready (rs := [3, 8]) (by kernel_rfl) (by simp) ?_
  refine AllReadyH.cons (o := { dst := some 10, op := Op.call { callee := Callee.value (Operand.func 40), args := #[Operand.tmp 7, Operand.tmp 9], argTypes := #[38, 22] }, type := 38, pos := "message.go:178", after := #[{ on := 0, ground := Ground.data }, { on := 2, ground := Ground.data }], guard := none }) rfl (fun K' hK' => ?_) (AllReadyH.cons (o := { dst := some 15, op := Op.buildSlice 38 1 #[(0, Operand.tmp 14)], type := 38, pos := "message.go:178", after := #[{ on := 7, ground := Ground.data }], guard := none }) rfl (fun K' hK' => ?_) AllReadyH.nil)
  · go_simp
    go_at_call 40
    refine (word_ow b.view HQ.out.2.2.2 (by omega)).mono ?_
    rintro E w4 ⟨Aw4, nw4, cw4, rfl, H4, hb4⟩
    have lw4 := H4.len
    have Ow4 := Lib.hid H4
    clear H4
    simp only [List.length_append, be_length] at lw4
    refine hK'.out _ _ hb4.out (fun _ => ?_)
    clear hK' K'
    try simp only [Act.put, List.setIfInBounds_toArray, List.set_cons_zero, List.set_cons_succ]
    refine wpAnyH_ready (rs := [8]) (by kernel_rfl) (by simp) ?_
    refine AllReadyH.cons (o := { dst := some 15, op := Op.buildSlice 38 1 #[(0, Operand.tmp 14)], type := 38, pos := "message.go:178", after := #[{ on := 7, ground := Ground.data }], guard := none }) rfl (fun K' hK' => ?_) AllReadyH.nil
    go_simp
    have hb5 : Hid (Below w3.heap.size w3 (w4.alloc (.cells #[.int .u8 ((byteOf (m : Int)).toNat : Int)] 5))) := Lib.hid (hb4.out.alloc hb4.out.size _)
    refine hK'.out _ _ hb5.out (fun _ => ?_)
    clear hK' K'
    try simp only [Act.put, List.setIfInBounds_toArray, List.set_cons_zero, List.set_cons_succ]
    have O5 : Hid (Ow w3.heap.size (w4.alloc (.cells #[.int .u8 ((byteOf (m : Int)).toNat : Int)] 5)) Aw4 nw4 cw4 (bs ++ be 8 b.view)) := Lib.hid (Ow4.out.below ((Below.refl _ _).alloc (Nat.le_refl _) _))
    refine wpAnyH_ready (rs := [9]) (by kernel_rfl) (by simp) ?_
    refine AllReadyH.cons (o := { dst := some 16, op := Op.call { callee := Callee.builtin Builtin.append, args := #[Operand.tmp 10, Operand.tmp 15], argTypes := #[38, 38] }, type := 38, pos := "message.go:178", after := #[{ on := 3, ground := Ground.data }, { on := 8, ground := Ground.data }, { on := 3, ground := Ground.chain }], guard := none }) rfl (fun K' hK' => ?_) AllReadyH.nil
    refine step_append_gb rfl (.tmp 10) (.tmp 15) rfl w3.heap.size nw4 1 1 (.slice Aw4 nw4 cw4) (some ⟨w4.heap.size, 0, none⟩) (bs ++ be 8 b.view) [byteOf (m : Int)] rfl rfl (O5.out.1) (Pr := fun _ => True) (rd_byte rfl) sl_1 (hb5.out.size) (by omega) ?_
    intro A6 c6 w6 H6 G6
    have hb6 := Lib.hid ((hb5.out).grown G6.out (hb5.out.size) (fun k hk => ((O5.out.1).lt k hk).1))
    refine hK'.out _ _ hb6.out (fun _ => ?_)
    clear hK' K'
    try simp only [Act.put, List.setIfInBounds_toArray, List.set_cons_zero, List.set_cons_succ]
    refine wpAnyH_take (i := 10) (oi := { dst := some 0, op := Op.assign (Operand.tmp 16), type := 38, pos := "message.go:178", after := #[{ on := 9, ground := Ground.data }, { on := 9, ground := Ground.chain }, { on := 0, ground := Ground.phase }, { on := 1, ground := Ground.phase }, { on := 2, ground := Ground.phase }, { on := 3, ground := Ground.phase }, { on := 4, ground := Ground.phase }, { on := 5, ground := Ground.phase }, { on := 6, ground := Ground.phase }, { on := 7, ground := Ground.phase }, { on := 8, ground := Ground.phase }, { on := 9, ground := Ground.phase }], guard := none }) (v := .slice A6 (nw4 + 1) c6) rfl (by kernel_rfl) (by kernel_rfl) (by kernel_rfl) (fun _ _ _ h => h) (Or.inl ⟨by kernel_rfl, fun W hSW => by go_simp⟩) (hb6.out) ?_
    try simp only [Act.put, List.setIfInBounds_toArray, List.set_cons_zero]
    refine wpAnyH_done (by kernel_rfl) ?_ _
    have D6 : Hid (Below w.heap.size w w6 ∧ Ow w.heap.size w6 A6 (nw4 + 1) c6 (bs ++ be 8 b.view ++ [byteOf (m : Int)] ++ pairsB (b.qs.take 0))) := Lib.hid ⟨HQ.out.2.1.trans (hb6.out.mono HQ.out.2.1.size), by rw [List.take_zero, pairsB, List.flatMap_nil, List.append_nil]; exact ⟨own_low H6.out.1 HQ.out.2.1.size, H6.out.2⟩⟩
    have q6 : w6.cell? ⟨w.heap.size, 43, none⟩ = some (.slice b.qa m b.qc) := (hb6.out.cell (p := ⟨w.heap.size, 43, none⟩) HQ.out.2.2.1).trans HQ3.out
    have hn6 : nw4 + 1 ≤ 1000100 := by omega
    generalize nw4 + 1 = n6 at D6 hn6 ⊢
    clear hb6 H6 G6 HQ HQ3
    go_wp2_with fail
    clear q6
    go_loopw [0, 20] (fun v0 v20 wr => ∃ j : Nat, j ≤ m ∧ v20 = .int .i64 (j : Int) ∧ ∃ A0 n0 c0, v0 = .slice A0 n0 c0 ∧ n0 ≤ 1000100 + 9 * j ∧ Hid (Below w.heap.size w wr ∧ Ow w.heap.size wr A0 n0 c0 (bs ++ be 8 b.view ++ [byteOf (m : Int)] ++ pairsB (b.qs.take j)))) (fun _ v20 _ => m - (intOf v20).toNat)
    case atStart => exact ⟨0, by omega, rfl, _, _, _, rfl, by omega, D6⟩
    case round =>
      clear D6 hn6
      obtain ⟨j, hj, rfl, A0, n0, c0, rfl, hn0, D⟩ := hrel
      by_cases hjj : j < m
      · obtain ⟨p, hp⟩ : ∃ p, b.qs[j]? = some p := ⟨_, List.getElem?_eq_getElem (by rw [← HMQ.out]; exact hjj)⟩
        obtain ⟨bq, oq, hqa, hbq, hcq⟩ := HQP.out (by rw [← HMQ.out]; omega)
        have p0 : wr.cell? ⟨bq, oq + j * 2, none⟩ = some (.int .i64 p.1) := (D.out.1.cell (p := ⟨bq, oq + j * 2, none⟩) hbq).trans (hcq j p hp).1
        have p1 : wr.cell? ⟨bq, oq + j * 2 + 1, none⟩ = some (.int .u64 (p.2 : Int)) := (D.out.1.cell (p := ⟨bq, oq + j * 2 + 1, none⟩) hbq).trans (hcq j p hp).2
        have HT := Lib.hid (pairsB_take hp)
        have HW : Hid (IntKind.u8.wrap p.1 = ((byteOf p.1).toNat : Int)) := Lib.hid (u8_wrap (by have := HRP.out p (List.mem_of_getElem? hp); omega))
        obtain ⟨x, y⟩ := p
        rw [hqa]
        clear hp hcq
        dsimp only at p0 p1 HW
        go_wp2_with fail
        refine wp_region_any (by kernel_rfl) ?_
        change wpAny _ _ _ _ _ _ _ ((wr.alloc (.cells #[.int .i64 x, .int .u64 (y : Int)] 54)).drewN 1)
        have D8 : Hid ((((wr.alloc (.cells #[.int .i64 x, .int .u64 (y : Int)] 54)).drewN 1).cell? ⟨wr.heap.size, 0, none⟩ = some (.int .i64 x) ∧ ((wr.alloc (.cells #[.int .i64 x, .int .u64 (y : Int)] 54)).drewN 1).cell? ⟨wr.heap.size, 1, none⟩ = some (.int .u64 (y : Int))) ∧ Below wr.heap.size wr ((wr.alloc (.cells #[.int .i64 x, .int .u64 (y : Int)] 54)).drewN 1) ∧ wr.heap.size < ((wr.alloc (.cells #[.int .i64 x, .int .u64 (y : Int)] 54)).drewN 1).heap.size) := Lib.hid ⟨⟨range_box wr [.int .i64 x, .int .u64 (y : Int)] 54 0 _ rfl, range_box wr [.int .i64 x, .int .u64 (y : Int)] 54 1 _ rfl⟩, below_drewN ((Below.refl _ _).alloc (Nat.le_refl _) _) 1, by simp⟩
        clear p0 p1
        generalize (wr.alloc (.cells #[.int .i64 x, .int .u64 (y : Int)] 54)).drewN 1 = w8 at D8 ⊢
        refine wpAny_of_held (S := fun W => W.cell? ⟨wr.heap.size, 0, none⟩ = some (.int .i64 x) ∧ W.cell? ⟨wr.heap.size, 1, none⟩ = some (.int .u64 (y : Int))) _ _ _ _ ?_
        refine wpAnyH_take (i := 0) (oi := { dst := some 24, op := Op.move (Operand.tmp 0), type := 38, pos := "message.go:180", after := #[], guard := none }) (v := .slice A0 n0 c0) rfl (by kernel_rfl) (by kernel_rfl) (by kernel_rfl) (fun _ _ _ h => h) (Or.inl ⟨by kernel_rfl, fun W hSW => by go_simp⟩) (D8.out.1) ?_
        try simp only [Act.put, List.setIfInBounds_toArray, List.set_cons_zero, List.set_cons_succ]
        refine wpAnyH_take (i := 1) (oi := { dst := some 25, op := Op.fieldAddr 54 (Operand.tmp 6) 0, type := 0, pos := "message.go:180", after := #[], guard := none }) (v := .pointer (some ⟨wr.heap.size, 0, none⟩)) rfl (by kernel_rfl) (by kernel_rfl) (by kernel_rfl) (fun _ _ _ h => h) (Or.inl ⟨by kernel_rfl, fun W hSW => by go_simp⟩) (D8.out.1) ?_
        try simp only [Act.put, List.setIfInBounds_toArray, List.set_cons_zero, List.set_cons_succ]
        refine wpAnyH_take (i := 2) (oi := { dst := some 26, op := Op.load 3 (Operand.tmp 25), type := 3, pos := "message.go:180", after := #[{ on := 1, ground := Ground.data }], guard := none }) (v := .int .i64 x) rfl (by kernel_rfl) (by kernel_rfl) (by kernel_rfl) (fun _ _ _ h => h) (Or.inl ⟨by kernel_rfl, fun W hSW => by have hv := hSW.1; go_simp⟩) (D8.out.1) ?_
        try simp only [Act.put, List.setIfInBounds_toArray, List.set_cons_zero, List.set_cons_succ]
        refine wpAnyH_take (i := 3) (oi := { dst := some 27, op := Op.convert 3 5 (Operand.tmp 26), type := 5, pos := "message.go:180", after := #[{ on := 2, ground := Ground.data }], guard := none }) (v := .int .u8 ((byteOf x).toNat : Int)) rfl (by kernel_rfl) (by kernel_rfl) (by kernel_rfl) (fun _ _ _ h => h) (Or.inl ⟨by kernel_rfl, fun W hSW => by have hv := HW.out; go_simp⟩) (D8.out.1) ?_
        try simp only [Act.put, List.setIfInBounds_toArray, List.set_cons_zero, List.set_cons_succ]
        refine wpAnyH_take (i := 6) (oi := { dst := some 30, op := Op.fieldAddr 54 (Operand.tmp 6) 1, type := 0, pos := "message.go:180", after := #[], guard := none }) (v := .pointer (some ⟨wr.heap.size, 1, none⟩)) rfl (by kernel_rfl) (by kernel_rfl) (by kernel_rfl) (fun _ _ _ h => h) (Or.inl ⟨by kernel_rfl, fun W hSW => by go_simp⟩) (D8.out.1) ?_
        try simp only [Act.put, List.setIfInBounds_toArray, List.set_cons_zero, List.set_cons_succ]
        refine wpAnyH_take (i := 7) (oi := { dst := some 31, op := Op.load 22 (Operand.tmp 30), type := 22, pos := "message.go:180", after := #[{ on := 6, ground := Ground.data }], guard := none }) (v := .int .u64 (y : Int)) rfl (by kernel_rfl) (by kernel_rfl) (by kernel_rfl) (fun _ _ _ h => h) (Or.inl ⟨by kernel_rfl, fun W hSW => by have hv := hSW.2; go_simp⟩) (D8.out.1) ?_
        try simp only [Act.put, List.setIfInBounds_toArray, List.set_cons_zero, List.set_cons_succ]
        refine wpAnyH_ready (rs := [4]) (by kernel_rfl) (by simp) ?_
        refine AllReadyH.cons (o := { dst := some 28, op := Op.buildSlice 38 1 #[(0, Operand.tmp 27)], type := 38, pos := "message.go:180", after := #[{ on := 3, ground := Ground.data }], guard := none }) rfl (fun K' hK' => ?_) AllReadyH.nil
        go_simp
        have D9 : Hid (((w8.alloc (.cells #[.int .u8 ((byteOf x).toNat : Int)] 5)).cell? ⟨wr.heap.size, 0, none⟩ = some (.int .i64 x) ∧ (w8.alloc (.cells #[.int .u8 ((byteOf x).toNat : Int)] 5)).cell? ⟨wr.heap.size, 1, none⟩ = some (.int .u64 (y : Int)))) := Lib.hid ⟨(((Below.refl w8.heap.size w8).alloc (Nat.le_refl _) (.cells #[.int .u8 ((byteOf x).toNat : Int)] 5)).cell (p := ⟨wr.heap.size, 0, none⟩) D8.out.2.2).trans D8.out.1.1, (((Below.refl w8.heap.size w8).alloc (Nat.le_refl _) (.cells #[.int .u8 ((byteOf x).toNat : Int)] 5)).cell (p := ⟨wr.heap.size, 1, none⟩) D8.out.2.2).trans D8.out.1.2⟩
        refine hK'.out _ _ D9.out (fun _ => ?_)
        clear hK' K'
        try simp only [Act.put, List.setIfInBounds_toArray, List.set_cons_zero, List.set_cons_succ]
        have O9 := Lib.hid ((D.out.2.below D8.out.2.1).below ((Below.refl _ _).alloc (Nat.le_refl _) (.cells #[.int .u8 ((byteOf x).toNat : Int)] 5)))
        refine wpAnyH_ready (rs := [5]) (by kernel_rfl) (by simp) ?_
        refine AllReadyH.cons (o := { dst := some 29, op := Op.call { callee := Callee.builtin Builtin.append, args := #[Operand.tmp 24, Operand.tmp 28], argTypes := #[38, 38] }, type := 38, pos := "message.go:180", after := #[{ on := 0, ground := Ground.data }, { on := 4, ground := Ground.data }], guard := none }) rfl (fun K' hK' => ?_) AllReadyH.nil
        refine step_append_gb rfl (.tmp 24) (.tmp 28) rfl w.heap.size n0 1 1 (.slice A0 n0 c0) (some ⟨w8.heap.size, 0, none⟩) (bs ++ be 8 b.view ++ [byteOf (m : Int)] ++ pairsB (b.qs.take j)) [byteOf x] rfl rfl O9.out.1 (Pr := fun _ => True) (rd_byte rfl) sl_1 (Nat.le_trans (Nat.le_trans D.out.1.size D8.out.2.1.size) (by simp)) (by omega) ?_
        intro A10 c10 w10 H10 G10
        have hne : ∀ k, (Value.slice A0 n0 c0).ownBlock = some k → k < wr.heap.size := fun k hk => (D.out.2.1.lt k hk).2
        have D10 : Hid (w10.cell? ⟨wr.heap.size, 0, none⟩ = some (.int .i64 x) ∧ w10.cell? ⟨wr.heap.size, 1, none⟩ = some (.int .u64 (y : Int))) := Lib.hid ⟨G10.out.cell D9.out.1 (fun e => by have := hne _ e.symm; simp at this), G10.out.cell D9.out.2 (fun e => by have := hne _ e.symm; simp at this)⟩
        have B10 : Hid (Below w.heap.size w w10) := Lib.hid (((D.out.1.trans (D8.out.2.1.mono D.out.1.size)).alloc (Nat.le_trans D.out.1.size D8.out.2.1.size) _).grown G10.out (Nat.le_trans (Nat.le_trans D.out.1.size D8.out.2.1.size) (by simp)) (fun k hk => (D.out.2.1.lt k hk).1))
        refine hK'.out _ _ D10.out (fun _ => ?_)
        clear hK' K'
        try simp only [Act.put, List.setIfInBounds_toArray, List.set_cons_zero, List.set_cons_succ]
        refine wpAnyH_ready (rs := [8]) (by kernel_rfl) (by simp) ?_
        refine AllReadyH.cons (o := { dst := some 32, op := Op.call { callee := Callee.value (Operand.func 40), args := #[Operand.tmp 29, Operand.tmp 31], argTypes := #[38, 22] }, type := 38, pos := "message.go:180", after := #[{ on := 5, ground := Ground.data }, { on := 7, ground := Ground.data }, { on := 5, ground := Ground.chain }], guard := none }) rfl (fun K' hK' => ?_) AllReadyH.nil
        go_simp
        go_at_call 40
        refine (word_ow y (⟨H10.out.1, H10.out.2⟩ : Ow w.heap.size w10 A10 (n0 + 1) c10 _) (by omega)).mono ?_
        rintro E w11 ⟨A11, n11, c11, rfl, H11, hb11⟩
        have O11 := Lib.hid H11
        clear H11
        have hl10 : wr.heap.size < w10.heap.size := Nat.lt_of_lt_of_le D8.out.2.2 (Nat.le_trans (by simp) G10.out.size)
        have D11 : Hid (w11.cell? ⟨wr.heap.size, 0, none⟩ = some (.int .i64 x) ∧ w11.cell? ⟨wr.heap.size, 1, none⟩ = some (.int .u64 (y : Int))) := Lib.hid ⟨(hb11.out.cell (p := ⟨wr.heap.size, 0, none⟩) hl10).trans D10.out.1, (hb11.out.cell (p := ⟨wr.heap.size, 1, none⟩) hl10).trans D10.out.2⟩
        refine hK'.out _ _ D11.out (fun _ => ?_)
        clear hK' K'
        try simp only [Act.put, List.setIfInBounds_toArray, List.set_cons_zero, List.set_cons_succ]
        refine wpAnyH_take (i := 9) (oi := { dst := some 0, op := Op.assign (Operand.tmp 32), type := 38, pos := "message.go:180", after := #[{ on := 8, ground := Ground.data }, { on := 8, ground := Ground.chain }, { on := 0, ground := Ground.phase }, { on := 1, ground := Ground.phase }, { on := 2, ground := Ground.phase }, { on := 3, ground := Ground.phase }, { on := 4, ground := Ground.phase }, { on := 5, ground := Ground.phase }, { on := 6, ground := Ground.phase }, { on := 7, ground := Ground.phase }, { on := 8, ground := Ground.phase }], guard := none }) (v := .slice A11 n11 c11) rfl (by kernel_rfl) (by kernel_rfl) (by kernel_rfl) (fun _ _ _ h => h) (Or.inl ⟨by kernel_rfl, fun W hSW => by go_simp⟩) (D11.out) ?_
        try simp only [Act.put, List.setIfInBounds_toArray, List.set_cons_zero]
        refine wpAnyH_done (by kernel_rfl) ?_ _
        go_wp2_with fail
        go_roundw
        case measure => simp [intOf] <;> omega
        case rel =>
          refine ⟨j + 1, by omega, by go_num, _, _, _, rfl, ?_, Lib.hid ⟨B10.out.trans (hb11.out.mono B10.out.size), ?_⟩⟩
          · have h1 := O11.out.len
            have h2 := D.out.2.len
            simp only [List.length_append, be_length, List.length_cons, List.length_nil] at h1 h2
            omega
          · have := O11.out.low B10.out.size
            rw [HT.out]
            simpa [pairB, List.append_assoc] using this
      · have HE : Hid (bs ++ be 8 b.view ++ [byteOf (m : Int)] ++ pairsB (b.qs.take j) = bs ++ (be 8 b.view ++ (byteOf (m : Int) :: pairsB b.qs))) := Lib.hid (by rw [List.take_of_length_le (by rw [← HMQ.out]; omega)]; simp)
        go_wp2_with fail
        go_ret
        exact ⟨_, _, _, rfl, by have := D.out.2; rwa [HE.out] at this, Lib.hid D.out.1⟩
  · go_simp
    have hb3 : Hid (Below w3.heap.size w3 (w3.alloc (.cells #[.int .u8 ((byteOf (m : Int)).toNat : Int)] 5))) := Lib.hid ((Below.refl _ _).alloc (Nat.le_refl _) _)
    refine hK'.out _ _ hb3.out (fun _ => ?_)
    clear hK' K'
    try simp only [Act.put, List.setIfInBounds_toArray, List.set_cons_zero, List.set_cons_succ]
    refine wpAnyH_ready (rs := [3]) (by kernel_rfl) (by simp) ?_
    refine AllReadyH.cons (o := { dst := some 10, op := Op.call { callee := Callee.value (Operand.func 40), args := #[Operand.tmp 7, Operand.tmp 9], argTypes := #[38, 22] }, type := 38, pos := "message.go:178", after := #[{ on := 0, ground := Ground.data }, { on := 2, ground := Ground.data }], guard := none }) rfl (fun K' hK' => ?_) AllReadyH.nil
    go_simp
    go_at_call 40
    refine (word_ow b.view (HQ.out.2.2.2.below ((Below.refl _ _).alloc (Nat.le_refl _) (.cells #[.int .u8 ((byteOf (m : Int)).toNat : Int)] 5))) (by omega)).mono ?_
    rintro E w4 ⟨Aw4, nw4, cw4, rfl, H4, hb4⟩
    have lw4 := H4.len
    have Ow4 := Lib.hid H4
    clear H4
    simp only [List.length_append, be_length] at lw4
    have hb5 : Hid (Below w3.heap.size w3 w4) := Lib.hid (((Below.refl w3.heap.size w3).alloc (Nat.le_refl _) (.cells #[.int .u8 ((byteOf (m : Int)).toNat : Int)] 5)).trans (hb4.out.mono (by simp)))
    refine hK'.out _ _ hb5.out (fun _ => ?_)
    clear hK' K'
    try simp only [Act.put, List.setIfInBounds_toArray, List.set_cons_zero, List.set_cons_succ]
    have O5 : Hid (Ow w3.heap.size w4 Aw4 nw4 cw4 (bs ++ be 8 b.view)) := Lib.hid (Ow4.out.low (by simp))
    refine wpAnyH_ready (rs := [9]) (by kernel_rfl) (by simp) ?_
    refine AllReadyH.cons (o := { dst := some 16, op := Op.call { callee := Callee.builtin Builtin.append, args := #[Operand.tmp 10, Operand.tmp 15], argTypes := #[38, 38] }, type := 38, pos := "message.go:178", after := #[{ on := 3, ground := Ground.data }, { on := 8, ground := Ground.data }, { on := 3, ground := Ground.chain }], guard := none }) rfl (fun K' hK' => ?_) AllReadyH.nil
    refine step_append_gb rfl (.tmp 10) (.tmp 15) rfl w3.heap.size nw4 1 1 (.slice Aw4 nw4 cw4) (some ⟨w3.heap.size, 0, none⟩) (bs ++ be 8 b.view) [byteOf (m : Int)] rfl rfl (O5.out.1) (Pr := fun _ => True) ((rd_byte (w := w3) rfl).below hb4.out (fun b hb _ => hb)) sl_1 (hb5.out.size) (by omega) ?_
    intro A6 c6 w6 H6 G6
    have hb6 := Lib.hid ((hb5.out).grown G6.out (hb5.out.size) (fun k hk => ((O5.out.1).lt k hk).1))
    refine hK'.out _ _ hb6.out (fun _ => ?_)
    clear hK' K'
    try simp only [Act.put, List.setIfInBounds_toArray, List.set_cons_zero, List.set_cons_succ]
    refine wpAnyH_take (i := 10) (oi := { dst := some 0, op := Op.assign (Operand.tmp 16), type := 38, pos := "message.go:178", after := #[{ on := 9, ground := Ground.data }, { on := 9, ground := Ground.chain }, { on := 0, ground := Ground.phase }, { on := 1, ground := Ground.phase }, { on := 2, ground := Ground.phase }, { on := 3, ground := Ground.phase }, { on := 4, ground := Ground.phase }, { on := 5, ground := Ground.phase }, { on := 6, ground := Ground.phase }, { on := 7, ground := Ground.phase }, { on := 8, ground := Ground.phase }, { on := 9, ground := Ground.phase }], guard := none }) (v := .slice A6 (nw4 + 1) c6) rfl (by kernel_rfl) (by kernel_rfl) (by kernel_rfl) (fun _ _ _ h => h) (Or.inl ⟨by kernel_rfl, fun W hSW => by go_simp⟩) (hb6.out) ?_
    try simp only [Act.put, List.setIfInBounds_toArray, List.set_cons_zero]
    refine wpAnyH_done (by kernel_rfl) ?_ _
    have D6 : Hid (Below w.heap.size w w6 ∧ Ow w.heap.size w6 A6 (nw4 + 1) c6 (bs ++ be 8 b.view ++ [byteOf (m : Int)] ++ pairsB (b.qs.take 0))) := Lib.hid ⟨HQ.out.2.1.trans (hb6.out.mono HQ.out.2.1.size), by rw [List.take_zero, pairsB, List.flatMap_nil, List.append_nil]; exact ⟨own_low H6.out.1 HQ.out.2.1.size, H6.out.2⟩⟩
    have q6 : w6.cell? ⟨w.heap.size, 43, none⟩ = some (.slice b.qa m b.qc) := (hb6.out.cell (p := ⟨w.heap.size, 43, none⟩) HQ.out.2.2.1).trans HQ3.out
    have hn6 : nw4 + 1 ≤ 1000100 := by omega
    generalize nw4 + 1 = n6 at D6 hn6 ⊢
    clear hb6 H6 G6 HQ HQ3
    go_wp2_with fail
    clear q6
    go_loopw [0, 20] (fun v0 v20 wr => ∃ j : Nat, j ≤ m ∧ v20 = .int .i64 (j : Int) ∧ ∃ A0 n0 c0, v0 = .slice A0 n0 c0 ∧ n0 ≤ 1000100 + 9 * j ∧ Hid (Below w.heap.size w wr ∧ Ow w.heap.size wr A0 n0 c0 (bs ++ be 8 b.view ++ [byteOf (m : Int)] ++ pairsB (b.qs.take j)))) (fun _ v20 _ => m - (intOf v20).toNat)
    case atStart => exact ⟨0, by omega, rfl, _, _, _, rfl, by omega, D6⟩
    case round =>
      clear D6 hn6
      obtain ⟨j, hj, rfl, A0, n0, c0, rfl, hn0, D⟩ := hrel
      by_cases hjj : j < m
      · obtain ⟨p, hp⟩ : ∃ p, b.qs[j]? = some p := ⟨_, List.getElem?_eq_getElem (by rw [← HMQ.out]; exact hjj)⟩
        obtain ⟨bq, oq, hqa, hbq, hcq⟩ := HQP.out (by rw [← HMQ.out]; omega)
        have p0 : wr.cell? ⟨bq, oq + j * 2, none⟩ = some (.int .i64 p.1) := (D.out.1.cell (p := ⟨bq, oq + j * 2, none⟩) hbq).trans (hcq j p hp).1
        have p1 : wr.cell? ⟨bq, oq + j * 2 + 1, none⟩ = some (.int .u64 (p.2 : Int)) := (D.out.1.cell (p := ⟨bq, oq + j * 2 + 1, none⟩) hbq).trans (hcq j p hp).2
        have HT := Lib.hid (pairsB_take hp)
        have HW : Hid (IntKind.u8.wrap p.1 = ((byteOf p.1).toNat : Int)) := Lib.hid (u8_wrap (by have := HRP.out p (List.mem_of_getElem? hp); omega))
        obtain ⟨x, y⟩ := p
        rw [hqa]
        clear hp hcq
        dsimp only at p0 p1 HW
        go_wp2_with fail
        refine wp_region_any (by kernel_rfl) ?_
        change wpAny _ _ _ _ _ _ _ ((wr.alloc (.cells #[.int .i64 x, .int .u64 (y : Int)] 54)).drewN 1)
        have D8 : Hid ((((wr.alloc (.cells #[.int .i64 x, .int .u64 (y : Int)] 54)).drewN 1).cell? ⟨wr.heap.size, 0, none⟩ = some (.int .i64 x) ∧ ((wr.alloc (.cells #[.int .i64 x, .int .u64 (y : Int)] 54)).drewN 1).cell? ⟨wr.heap.size, 1, none⟩ = some (.int .u64 (y : Int))) ∧ Below wr.heap.size wr ((wr.alloc (.cells #[.int .i64 x, .int .u64 (y : Int)] 54)).drewN 1) ∧ wr.heap.size < ((wr.alloc (.cells #[.int .i64 x, .int .u64 (y : Int)] 54)).drewN 1).heap.size) := Lib.hid ⟨⟨range_box wr [.int .i64 x, .int .u64 (y : Int)] 54 0 _ rfl, range_box wr [.int .i64 x, .int .u64 (y : Int)] 54 1 _ rfl⟩, below_drewN ((Below.refl _ _).alloc (Nat.le_refl _) _) 1, by simp⟩
        clear p0 p1
        generalize (wr.alloc (.cells #[.int .i64 x, .int .u64 (y : Int)] 54)).drewN 1 = w8 at D8 ⊢
        refine wpAny_of_held (S := fun W => W.cell? ⟨wr.heap.size, 0, none⟩ = some (.int .i64 x) ∧ W.cell? ⟨wr.heap.size, 1, none⟩ = some (.int .u64 (y : Int))) _ _ _ _ ?_
        refine wpAnyH_take (i := 0) (oi := { dst := some 24, op := Op.move (Operand.tmp 0), type := 38, pos := "message.go:180", after := #[], guard := none }) (v := .slice A0 n0 c0) rfl (by kernel_rfl) (by kernel_rfl) (by kernel_rfl) (fun _ _ _ h => h) (Or.inl ⟨by kernel_rfl, fun W hSW => by go_simp⟩) (D8.out.1) ?_
        try simp only [Act.put, List.setIfInBounds_toArray, List.set_cons_zero, List.set_cons_succ]
        refine wpAnyH_take (i := 1) (oi := { dst := some 25, op := Op.fieldAddr 54 (Operand.tmp 6) 0, type := 0, pos := "message.go:180", after := #[], guard := none }) (v := .pointer (some ⟨wr.heap.size, 0, none⟩)) rfl (by kernel_rfl) (by kernel_rfl) (by kernel_rfl) (fun _ _ _ h => h) (Or.inl ⟨by kernel_rfl, fun W hSW => by go_simp⟩) (D8.out.1) ?_
        try simp only [Act.put, List.setIfInBounds_toArray, List.set_cons_zero, List.set_cons_succ]
        refine wpAnyH_take (i := 2) (oi := { dst := some 26, op := Op.load 3 (Operand.tmp 25), type := 3, pos := "message.go:180", after := #[{ on := 1, ground := Ground.data }], guard := none }) (v := .int .i64 x) rfl (by kernel_rfl) (by kernel_rfl) (by kernel_rfl) (fun _ _ _ h => h) (Or.inl ⟨by kernel_rfl, fun W hSW => by have hv := hSW.1; go_simp⟩) (D8.out.1) ?_
        try simp only [Act.put, List.setIfInBounds_toArray, List.set_cons_zero, List.set_cons_succ]
        refine wpAnyH_take (i := 3) (oi := { dst := some 27, op := Op.convert 3 5 (Operand.tmp 26), type := 5, pos := "message.go:180", after := #[{ on := 2, ground := Ground.data }], guard := none }) (v := .int .u8 ((byteOf x).toNat : Int)) rfl (by kernel_rfl) (by kernel_rfl) (by kernel_rfl) (fun _ _ _ h => h) (Or.inl ⟨by kernel_rfl, fun W hSW => by have hv := HW.out; go_simp⟩) (D8.out.1) ?_
        try simp only [Act.put, List.setIfInBounds_toArray, List.set_cons_zero, List.set_cons_succ]
        refine wpAnyH_take (i := 6) (oi := { dst := some 30, op := Op.fieldAddr 54 (Operand.tmp 6) 1, type := 0, pos := "message.go:180", after := #[], guard := none }) (v := .pointer (some ⟨wr.heap.size, 1, none⟩)) rfl (by kernel_rfl) (by kernel_rfl) (by kernel_rfl) (fun _ _ _ h => h) (Or.inl ⟨by kernel_rfl, fun W hSW => by go_simp⟩) (D8.out.1) ?_
        try simp only [Act.put, List.setIfInBounds_toArray, List.set_cons_zero, List.set_cons_succ]
        refine wpAnyH_take (i := 7) (oi := { dst := some 31, op := Op.load 22 (Operand.tmp 30), type := 22, pos := "message.go:180", after := #[{ on := 6, ground := Ground.data }], guard := none }) (v := .int .u64 (y : Int)) rfl (by kernel_rfl) (by kernel_rfl) (by kernel_rfl) (fun _ _ _ h => h) (Or.inl ⟨by kernel_rfl, fun W hSW => by have hv := hSW.2; go_simp⟩) (D8.out.1) ?_
        try simp only [Act.put, List.setIfInBounds_toArray, List.set_cons_zero, List.set_cons_succ]
        refine wpAnyH_ready (rs := [4]) (by kernel_rfl) (by simp) ?_
        refine AllReadyH.cons (o := { dst := some 28, op := Op.buildSlice 38 1 #[(0, Operand.tmp 27)], type := 38, pos := "message.go:180", after := #[{ on := 3, ground := Ground.data }], guard := none }) rfl (fun K' hK' => ?_) AllReadyH.nil
        go_simp
        have D9 : Hid (((w8.alloc (.cells #[.int .u8 ((byteOf x).toNat : Int)] 5)).cell? ⟨wr.heap.size, 0, none⟩ = some (.int .i64 x) ∧ (w8.alloc (.cells #[.int .u8 ((byteOf x).toNat : Int)] 5)).cell? ⟨wr.heap.size, 1, none⟩ = some (.int .u64 (y : Int)))) := Lib.hid ⟨(((Below.refl w8.heap.size w8).alloc (Nat.le_refl _) (.cells #[.int .u8 ((byteOf x).toNat : Int)] 5)).cell (p := ⟨wr.heap.size, 0, none⟩) D8.out.2.2).trans D8.out.1.1, (((Below.refl w8.heap.size w8).alloc (Nat.le_refl _) (.cells #[.int .u8 ((byteOf x).toNat : Int)] 5)).cell (p := ⟨wr.heap.size, 1, none⟩) D8.out.2.2).trans D8.out.1.2⟩
        refine hK'.out _ _ D9.out (fun _ => ?_)
        clear hK' K'
        try simp only [Act.put, List.setIfInBounds_toArray, List.set_cons_zero, List.set_cons_succ]
        have O9 := Lib.hid ((D.out.2.below D8.out.2.1).below ((Below.refl _ _).alloc (Nat.le_refl _) (.cells #[.int .u8 ((byteOf x).toNat : Int)] 5)))
        refine wpAnyH_ready (rs := [5]) (by kernel_rfl) (by simp) ?_
        refine AllReadyH.cons (o := { dst := some 29, op := Op.call { callee := Callee.builtin Builtin.append, args := #[Operand.tmp 24, Operand.tmp 28], argTypes := #[38, 38] }, type := 38, pos := "message.go:180", after := #[{ on := 0, ground := Ground.data }, { on := 4, ground := Ground.data }], guard := none }) rfl (fun K' hK' => ?_) AllReadyH.nil
        refine step_append_gb rfl (.tmp 24) (.tmp 28) rfl w.heap.size n0 1 1 (.slice A0 n0 c0) (some ⟨w8.heap.size, 0, none⟩) (bs ++ be 8 b.view ++ [byteOf (m : Int)] ++ pairsB (b.qs.take j)) [byteOf x] rfl rfl O9.out.1 (Pr := fun _ => True) (rd_byte rfl) sl_1 (Nat.le_trans (Nat.le_trans D.out.1.size D8.out.2.1.size) (by simp)) (by omega) ?_
        intro A10 c10 w10 H10 G10
        have hne : ∀ k, (Value.slice A0 n0 c0).ownBlock = some k → k < wr.heap.size := fun k hk => (D.out.2.1.lt k hk).2
        have D10 : Hid (w10.cell? ⟨wr.heap.size, 0, none⟩ = some (.int .i64 x) ∧ w10.cell? ⟨wr.heap.size, 1, none⟩ = some (.int .u64 (y : Int))) := Lib.hid ⟨G10.out.cell D9.out.1 (fun e => by have := hne _ e.symm; simp at this), G10.out.cell D9.out.2 (fun e => by have := hne _ e.symm; simp at this)⟩
        have B10 : Hid (Below w.heap.size w w10) := Lib.hid (((D.out.1.trans (D8.out.2.1.mono D.out.1.size)).alloc (Nat.le_trans D.out.1.size D8.out.2.1.size) _).grown G10.out (Nat.le_trans (Nat.le_trans D.out.1.size D8.out.2.1.size) (by simp)) (fun k hk => (D.out.2.1.lt k hk).1))
        refine hK'.out _ _ D10.out (fun _ => ?_)
        clear hK' K'
        try simp only [Act.put, List.setIfInBounds_toArray, List.set_cons_zero, List.set_cons_succ]
        refine wpAnyH_ready (rs := [8]) (by kernel_rfl) (by simp) ?_
        refine AllReadyH.cons (o := { dst := some 32, op := Op.call { callee := Callee.value (Operand.func 40), args := #[Operand.tmp 29, Operand.tmp 31], argTypes := #[38, 22] }, type := 38, pos := "message.go:180", after := #[{ on := 5, ground := Ground.data }, { on := 7, ground := Ground.data }, { on := 5, ground := Ground.chain }], guard := none }) rfl (fun K' hK' => ?_) AllReadyH.nil
        go_simp
        go_at_call 40
        refine (word_ow y (⟨H10.out.1, H10.out.2⟩ : Ow w.heap.size w10 A10 (n0 + 1) c10 _) (by omega)).mono ?_
        rintro E w11 ⟨A11, n11, c11, rfl, H11, hb11⟩
        have O11 := Lib.hid H11
        clear H11
        have hl10 : wr.heap.size < w10.heap.size := Nat.lt_of_lt_of_le D8.out.2.2 (Nat.le_trans (by simp) G10.out.size)
        have D11 : Hid (w11.cell? ⟨wr.heap.size, 0, none⟩ = some (.int .i64 x) ∧ w11.cell? ⟨wr.heap.size, 1, none⟩ = some (.int .u64 (y : Int))) := Lib.hid ⟨(hb11.out.cell (p := ⟨wr.heap.size, 0, none⟩) hl10).trans D10.out.1, (hb11.out.cell (p := ⟨wr.heap.size, 1, none⟩) hl10).trans D10.out.2⟩
        refine hK'.out _ _ D11.out (fun _ => ?_)
        clear hK' K'
        try simp only [Act.put, List.setIfInBounds_toArray, List.set_cons_zero, List.set_cons_succ]
        refine wpAnyH_take (i := 9) (oi := { dst := some 0, op := Op.assign (Operand.tmp 32), type := 38, pos := "message.go:180", after := #[{ on := 8, ground := Ground.data }, { on := 8, ground := Ground.chain }, { on := 0, ground := Ground.phase }, { on := 1, ground := Ground.phase }, { on := 2, ground := Ground.phase }, { on := 3, ground := Ground.phase }, { on := 4, ground := Ground.phase }, { on := 5, ground := Ground.phase }, { on := 6, ground := Ground.phase }, { on := 7, ground := Ground.phase }, { on := 8, ground := Ground.phase }], guard := none }) (v := .slice A11 n11 c11) rfl (by kernel_rfl) (by kernel_rfl) (by kernel_rfl) (fun _ _ _ h => h) (Or.inl ⟨by kernel_rfl, fun W hSW => by go_simp⟩) (D11.out) ?_
        try simp only [Act.put, List.setIfInBounds_toArray, List.set_cons_zero]
        refine wpAnyH_done (by kernel_rfl) ?_ _
        go_wp2_with fail
        go_roundw
        case measure => simp [intOf] <;> omega
        case rel =>
          refine ⟨j + 1, by omega, by go_num, _, _, _, rfl, ?_, Lib.hid ⟨B10.out.trans (hb11.out.mono B10.out.size), ?_⟩⟩
          · have h1 := O11.out.len
            have h2 := D.out.2.len
            simp only [List.length_append, be_length, List.length_cons, List.length_nil] at h1 h2
            omega
          · have := O11.out.low B10.out.size
            rw [HT.out]
            simpa [pairB, List.append_assoc] using this
      · have HE : Hid (bs ++ be 8 b.view ++ [byteOf (m : Int)] ++ pairsB (b.qs.take j) = bs ++ (be 8 b.view ++ (byteOf (m : Int) :: pairsB b.qs))) := Lib.hid (by rw [List.take_of_length_le (by rw [← HMQ.out]; omega)]; simp)
        go_wp2_with fail
        go_ret
        exact ⟨_, _, _, rfl, by have := D.out.2; rwa [HE.out] at this, Lib.hid D.out.1⟩
end Go.Proofs.YtghjogneogkpoaaGreatDoor.Sh
