/-
  What is proved: the walk of UsigChecks for whatever comes in. Conditions as stated.
-/
import Derived.Test.YtepjfkmbmcfnoaaDoorGq
namespace Go.Proofs.YtepjfkmbmcfnoaaDoor
open Go.RowKit Go.ChangeShapes Go.WideShapes Go.Deep
set_option maxRecDepth 100000

theorem c32 : Tryd.prog.cellsOf 36 = 32 := by kernel_rfl
/-- An array of 32 bytes that came in reads as bytes. -/
theorem bytes32_of {H : Type} {enc : TypeId × Value → H} {W : World} {base b0 : Nat} {r : Reach} {spare : Nat → Bool} {held : Bool} {v : Value} {d : DataW H} {p : List MemPlace}
    (hval : Value.okWide Tryd.prog W r b0 36 v) (h : DataW.Trod enc Tryd.prog W base spare held 36 v d p) : ∃ l : List UInt8, v = .agg (u8s l).toArray ∧ l.length = 32 := by
  obtain ⟨zs, rfl, hl, hw⟩ := Sh.array_cells Tryd.underlying36 Tryd.underlying5 Sh.Tryd.cells5 c32 hval h
  refine ⟨zs.map fun z => UInt8.ofNat z.toNat, ?_, by rw [List.length_map, hl]⟩
  congr 2
  rw [u8s, List.map_map]
  refine List.map_congr_left fun z hz => ?_
  have := bounds_u8 (hw z hz)
  simp only [Function.comp]
  congr 1
  simp
  omega

set_option maxHeartbeats 8000000 in
theorem usigChecks_walk (w : World) (hK : Sh.KIs w) (h0 : 0 < w.heap.size) (i : Int) (_ : (Lit.int .i64 i).wf = true) (num : Int) (hnum : (Lit.int .u64 num).wf = true) (A : Option Addr) (len c : Nat) (h : ∃ bs, Rd (fun _ => True) w A len bs ∧ Sl A len c)
    (v : Value) (hv : ∃ l : List UInt8, v = .agg (u8s l).toArray ∧ l.length = 32) (own : Bool) :
    Calls Tryd.prog 4 #[.int .i64 i, .int .u64 num, .slice A len c, v, .bool own] w fun E w' => E = .returned (.bool true) ∧ Below w.heap.size w w' := by
  have HW : Hid (∀ W', Below w.heap.size w W' → Calls Tryd.prog 9 #[] W' fun E w' => E = .returned (.bool true) ∧ Below W'.heap.size W' w') := Lib.hid fun W' hb => works_any W' (hK.below hb h0) (Nat.lt_of_lt_of_le h0 hb.size)
  obtain ⟨bs, hr, hs⟩ := h
  obtain rfl := hr.1
  obtain ⟨t, rfl, ht⟩ := hv
  have hnb := bounds_u64 hnum
  obtain ⟨n, rfl⟩ : ∃ n : Nat, num = (n : Int) := ⟨num.toNat, by omega⟩
  have HT : Hid ((Tryd.prog.info? 36).map (·.size) = some (u8s t).length) := Lib.hid (tag_info ht)
  have HA : Hid ((w.alloc (.cells (u8s t).toArray 36)).heap[w.heap.size]? = some (.cells (u8s t).toArray 36 (0, 0)) ∧ Below w.heap.size w (w.alloc (.cells (u8s t).toArray 36)) ∧ w.heap.size < (w.alloc (.cells (u8s t).toArray 36)).heap.size) := Lib.hid ⟨row_new _ _ _, (Below.refl _ _).alloc (Nat.le_refl _) _, by simp⟩
  have hsc := hs.2
  clear hnum hnb
  by_cases hn : 4096 < bs.length
  · clear hr hs ht hK
    go_enter Tryd.func4, Tryd.ntmps4
    go_wp2_with (first | (go_at_call 9; refine (HW.out _ HA.out.2.1).mono ?_; rintro E wz ⟨rfl, hbz⟩))
    go_ret
    exact ⟨rfl, HA.out.2.1.trans (hbz.mono HA.out.2.1.size)⟩
  · have HCK := Lib.hid (fun (l : List UInt8) (hl : l.length = 32) (W : World) (hb : Below w.heap.size w W) => check_us i n (t := l) (rd_oct hr hb) hs (by omega) hl (hK.below hb h0) (Nat.lt_of_lt_of_le h0 hb.size))
    have HRK := Lib.hid (fun (l : List UInt8) (hl : l.length = 32) (W : World) (hb : Below w.heap.size w W) => refCheck_any i n (t := l) (rd_oct hr hb) hs (by omega) hl (hK.below hb h0) (Nat.lt_of_lt_of_le h0 hb.size))
    have HNM := Lib.hid (fun (W : World) (hb : Below w.heap.size w W) => Sh.refNumbered_any i n bs A bs.length c W (rd_sh (rd_oct hr hb)) hs (by omega) (hK.below hb h0) (Nat.lt_of_lt_of_le h0 hb.size))
    have hTL := Sh.numTag_length i n bs
    cases own with
    | false =>
      clear hr hs hK HNM hTL
      obtain ⟨ans, hans⟩ : ∃ ans, ans = chk i n bs t := ⟨_, rfl⟩
      have HC := Lib.hid (HCK.out t ht)
      have HRC := Lib.hid (HRK.out t ht)
      rw [← hans] at HC HRC
      unfold tagV at HC HRC
      generalize bs.length = m at *
      clear HCK HRK ht hans
      go_enter Tryd.func4, Tryd.ntmps4
      go_wp2_with fail
      try simp only [Act.put]
      refine wp_region_any (by kernel_rfl) ?_
      change wpAny _ _ _ _ _ _ _ ((w.alloc (.cells (u8s t).toArray 36)).drewN 1)
      have HQ : Hid (((w.alloc (.cells (u8s t).toArray 36)).drewN 1).heap[w.heap.size]? = some (.cells (u8s t).toArray 36 (0, 0)) ∧ Below w.heap.size w ((w.alloc (.cells (u8s t).toArray 36)).drewN 1) ∧ w.heap.size < ((w.alloc (.cells (u8s t).toArray 36)).drewN 1).heap.size) := Lib.hid ⟨HA.out.1, Sh.below_drewN HA.out.2.1 1, HA.out.2.2⟩
      generalize (w.alloc (.cells (u8s t).toArray 36)).drewN 1 = w7 at HQ ⊢
      clear HA
      refine wpAny_of_held (S := fun W => Below w7.heap.size w7 W) _ _ _ _ ?_
      refine wpAnyH_take (i := 0) (oi := { dst := some 20, op := Op.move (Operand.tmp 0), type := 3, pos := "law.go:193", after := #[], guard := none }) (v := .int .i64 i) rfl (by kernel_rfl) (by kernel_rfl) (by kernel_rfl) (fun _ _ _ h => h) (Or.inl ⟨by kernel_rfl, fun W hSW => by go_simp⟩) (Below.refl _ _) ?_
      try simp only [Act.put, List.setIfInBounds_toArray, List.set_cons_zero, List.set_cons_succ]
      refine wpAnyH_take (i := 1) (oi := { dst := some 21, op := Op.move (Operand.tmp 1), type := 35, pos := "law.go:193", after := #[], guard := none }) (v := .int .u64 (n : Int)) rfl (by kernel_rfl) (by kernel_rfl) (by kernel_rfl) (fun _ _ _ h => h) (Or.inl ⟨by kernel_rfl, fun W hSW => by go_simp⟩) (Below.refl _ _) ?_
      try simp only [Act.put, List.setIfInBounds_toArray, List.set_cons_zero, List.set_cons_succ]
      refine wpAnyH_take (i := 2) (oi := { dst := some 22, op := Op.move (Operand.tmp 2), type := 29, pos := "law.go:193", after := #[], guard := none }) (v := .slice A m c) rfl (by kernel_rfl) (by kernel_rfl) (by kernel_rfl) (fun _ _ _ h => h) (Or.inl ⟨by kernel_rfl, fun W hSW => by go_simp⟩) (Below.refl _ _) ?_
      try simp only [Act.put, List.setIfInBounds_toArray, List.set_cons_zero, List.set_cons_succ]
      refine wpAnyH_take (i := 3) (oi := { dst := some 23, op := Op.load 36 (Operand.tmp 8), type := 36, pos := "law.go:193", after := #[], guard := none }) (v := .agg (u8s t).toArray) rfl (by kernel_rfl) (by kernel_rfl) (by kernel_rfl) (fun _ _ _ h => h) (Or.inl ⟨by kernel_rfl, fun W hSW => exec_load_mid 36 (.tmp 8) rfl w.heap.size 0 rfl (u8s t) _ (range_block ((hSW.block _ HQ.out.2.2).trans HQ.out.1) 0 _ (fun j v hv => by rw [Nat.zero_add]; exact hv)) Tryd.underlying36 rfl HT.out⟩) (Below.refl _ _) ?_
      try simp only [Act.put, List.setIfInBounds_toArray, List.set_cons_zero, List.set_cons_succ]
      refine wpAnyH_take (i := 5) (oi := { dst := some 25, op := Op.move (Operand.tmp 0), type := 3, pos := "law.go:193", after := #[], guard := none }) (v := .int .i64 i) rfl (by kernel_rfl) (by kernel_rfl) (by kernel_rfl) (fun _ _ _ h => h) (Or.inl ⟨by kernel_rfl, fun W hSW => by go_simp⟩) (Below.refl _ _) ?_
      try simp only [Act.put, List.setIfInBounds_toArray, List.set_cons_zero, List.set_cons_succ]
      refine wpAnyH_take (i := 6) (oi := { dst := some 26, op := Op.move (Operand.tmp 1), type := 35, pos := "law.go:193", after := #[], guard := none }) (v := .int .u64 (n : Int)) rfl (by kernel_rfl) (by kernel_rfl) (by kernel_rfl) (fun _ _ _ h => h) (Or.inl ⟨by kernel_rfl, fun W hSW => by go_simp⟩) (Below.refl _ _) ?_
      try simp only [Act.put, List.setIfInBounds_toArray, List.set_cons_zero, List.set_cons_succ]
      refine wpAnyH_take (i := 7) (oi := { dst := some 27, op := Op.move (Operand.tmp 2), type := 29, pos := "law.go:193", after := #[], guard := none }) (v := .slice A m c) rfl (by kernel_rfl) (by kernel_rfl) (by kernel_rfl) (fun _ _ _ h => h) (Or.inl ⟨by kernel_rfl, fun W hSW => by go_simp⟩) (Below.refl _ _) ?_
      try simp only [Act.put, List.setIfInBounds_toArray, List.set_cons_zero, List.set_cons_succ]
      refine wpAnyH_take (i := 8) (oi := { dst := some 28, op := Op.load 36 (Operand.tmp 8), type := 36, pos := "law.go:193", after := #[], guard := none }) (v := .agg (u8s t).toArray) rfl (by kernel_rfl) (by kernel_rfl) (by kernel_rfl) (fun _ _ _ h => h) (Or.inl ⟨by kernel_rfl, fun W hSW => exec_load_mid 36 (.tmp 8) rfl w.heap.size 0 rfl (u8s t) _ (range_block ((hSW.block _ HQ.out.2.2).trans HQ.out.1) 0 _ (fun j v hv => by rw [Nat.zero_add]; exact hv)) Tryd.underlying36 rfl HT.out⟩) (Below.refl _ _) ?_
      try simp only [Act.put, List.setIfInBounds_toArray, List.set_cons_zero, List.set_cons_succ]
      refine wpAnyH_ready (rs := [4]) (by kernel_rfl) (by simp) ?_
      refine AllReadyH.cons (o := { dst := some 24, op := Op.call { callee := Callee.value (Operand.func 14), args := #[Operand.tmp 20, Operand.tmp 21, Operand.tmp 22, Operand.tmp 23], argTypes := #[3, 35, 29, 36] }, type := 4, pos := "law.go:193", after := #[{ on := 0, ground := Ground.data }, { on := 1, ground := Ground.data }, { on := 2, ground := Ground.data }, { on := 3, ground := Ground.data }], guard := none }) rfl (fun K' hK' => ?_) AllReadyH.nil
      go_simp
      go_at_call 14
      refine (HC.out w7 HQ.out.2.1).mono ?_
      rintro E w8 ⟨rfl, HBw8⟩
      refine hK'.out _ _ HBw8.out (fun _ => wpAnyH_next HBw8.out ?_)
      clear hK' K'
      try simp only [Act.put, List.setIfInBounds_toArray, List.set_cons_zero, List.set_cons_succ]
      have HXw8 : Hid (Below w.heap.size w w8) := Lib.hid (HQ.out.2.1.trans (HBw8.out.mono HQ.out.2.1.size))
      refine wpAnyH_ready (rs := [9]) (by kernel_rfl) (by simp) ?_
      refine AllReadyH.cons (o := { dst := some 29, op := Op.call { callee := Callee.value (Operand.func 20), args := #[Operand.tmp 25, Operand.tmp 26, Operand.tmp 27, Operand.tmp 28], argTypes := #[3, 35, 29, 36] }, type := 4, pos := "law.go:193", after := #[{ on := 5, ground := Ground.data }, { on := 6, ground := Ground.data }, { on := 7, ground := Ground.data }, { on := 8, ground := Ground.data }, { on := 4, ground := Ground.chain }], guard := none }) rfl (fun K' hK' => ?_) AllReadyH.nil
      go_simp
      go_at_call 20
      refine (HRC.out w8 HXw8.out).mono ?_
      rintro E w9 ⟨rfl, HBw9⟩
      refine hK'.out _ _ HBw9.out (fun _ => wpAnyH_next HBw9.out ?_)
      clear hK' K'
      try simp only [Act.put, List.setIfInBounds_toArray, List.set_cons_zero, List.set_cons_succ]
      have HXw9 : Hid (Below w.heap.size w w9) := Lib.hid (HXw8.out.trans (HBw9.out.mono HXw8.out.size))
      refine wpAnyH_take (i := 10) (oi := { dst := some 30, op := Op.binOp BinOp.eql 4 (Operand.tmp 24) (Operand.tmp 29) 4, type := 4, pos := "law.go:193", after := #[{ on := 4, ground := Ground.data }, { on := 9, ground := Ground.data }], guard := none }) (v := .bool true) rfl (by kernel_rfl) (by kernel_rfl) (by kernel_rfl) (fun _ _ _ h => h) (Or.inl ⟨by kernel_rfl, fun W hSW => by go_simp⟩) (Below.refl _ _) ?_
      try simp only [Act.put, List.setIfInBounds_toArray, List.set_cons_zero, List.set_cons_succ]
      refine wpAnyH_take (i := 11) (oi := { dst := some 31, op := Op.move (Operand.tmp 30), type := 4, pos := "law.go:193", after := #[{ on := 10, ground := Ground.data }, { on := 9, ground := Ground.chain }], guard := none }) (v := .bool true) rfl (by kernel_rfl) (by kernel_rfl) (by kernel_rfl) (fun _ _ _ h => h) (Or.inl ⟨by kernel_rfl, fun W hSW => by go_simp⟩) (Below.refl _ _) ?_
      try simp only [Act.put, List.setIfInBounds_toArray, List.set_cons_zero, List.set_cons_succ]
      refine wpAnyH_ready (rs := [12]) (by kernel_rfl) (by simp) ?_
      refine AllReadyH.cons (o := { dst := some 32, op := Op.call { callee := Callee.value (Operand.func 9), args := #[], argTypes := #[] }, type := 4, pos := "law.go:193", after := #[{ on := 11, ground := Ground.chain }, { on := 11, ground := Ground.guard }], guard := some (11, true) }) rfl (fun K' hK' => ?_) AllReadyH.nil
      go_simp
      go_at_call 9
      refine (HW.out w9 HXw9.out).mono ?_
      rintro E w10 ⟨rfl, hb10⟩
      have HBw10 := Lib.hid hb10
      clear hb10
      refine hK'.out _ _ HBw10.out (fun _ => wpAnyH_next HBw10.out ?_)
      clear hK' K'
      try simp only [Act.put, List.setIfInBounds_toArray, List.set_cons_zero, List.set_cons_succ]
      refine wpAnyH_take (i := 13) (oi := { dst := some 33, op := Op.pick (Operand.tmp 31) (Operand.tmp 32) (Operand.const (Value.bool false)), type := 4, pos := "law.go:193", after := #[{ on := 11, ground := Ground.data }, { on := 12, ground := Ground.data }], guard := none }) (v := .bool true) rfl (by kernel_rfl) (by kernel_rfl) (by kernel_rfl) (fun _ _ _ h => h) (Or.inl ⟨by kernel_rfl, fun W hSW => by go_simp⟩) (Below.refl _ _) ?_
      try simp only [Act.put, List.setIfInBounds_toArray, List.set_cons_zero, List.set_cons_succ]
      refine wpAnyH_take (i := 14) (oi := { dst := some 10, op := Op.assign (Operand.tmp 33), type := 4, pos := "law.go:193", after := #[{ on := 13, ground := Ground.data }, { on := 12, ground := Ground.chain }, { on := 0, ground := Ground.phase }, { on := 1, ground := Ground.phase }, { on := 2, ground := Ground.phase }, { on := 3, ground := Ground.phase }, { on := 4, ground := Ground.phase }, { on := 5, ground := Ground.phase }, { on := 6, ground := Ground.phase }, { on := 7, ground := Ground.phase }, { on := 8, ground := Ground.phase }, { on := 9, ground := Ground.phase }, { on := 10, ground := Ground.phase }, { on := 11, ground := Ground.phase }, { on := 12, ground := Ground.phase }, { on := 13, ground := Ground.phase }], guard := none }) (v := .bool true) rfl (by kernel_rfl) (by kernel_rfl) (by kernel_rfl) (fun _ _ _ h => h) (Or.inl ⟨by kernel_rfl, fun W hSW => by go_simp⟩) (Below.refl _ _) ?_
      try simp only [Act.put, List.setIfInBounds_toArray, List.set_cons_zero, List.set_cons_succ]
      refine wpAnyH_done (by kernel_rfl) ?_ _
      go_wp2_with fail
      go_ret
      exact ⟨rfl, HXw9.out.trans (HBw10.out.mono HXw9.out.size)⟩
    | true =>
      have HIT : Hid ((Tryd.prog.info? 36).map (·.size) = some (u8s (Sh.numTag i n bs)).length) := Lib.hid (tag_info hTL)
      have HOT : Hid (∀ v ∈ u8s (Sh.numTag i n bs), v.oneCell' = true) := Lib.hid (u8s_one _)
      have HLT : Hid ((u8s t).length = (u8s (Sh.numTag i n bs)).length) := Lib.hid (by rw [u8s_length, u8s_length, ht, hTL])
      have HC := Lib.hid (HCK.out _ hTL)
      have HRC := Lib.hid (HRK.out _ hTL)
      clear hr hs hK HT HCK HRK ht hTL
      generalize chk i n bs (Sh.numTag i n bs) = ans at HC HRC
      unfold tagV at HC HRC
      have HNM : Hid (∀ (W : World), Below w.heap.size w W → Calls Tryd.prog 17 #[.int .i64 i, .int .u64 (n : Int), .slice A bs.length c] W fun E w' => E = .returned (.agg (u8s (Sh.numTag i n bs)).toArray) ∧ Below W.heap.size W w') := HNM
      generalize Sh.numTag i n bs = tg at *
      generalize bs.length = m at *
      go_enter Tryd.func4, Tryd.ntmps4
      go_wp2_with fail
      refine (HNM.out _ HA.out.2.1).mono ?_
      rintro E w2 ⟨rfl, hb2⟩
      have HA2 : Hid (w2.heap[w.heap.size]? = some (.cells (u8s t).toArray 36 (0, 0)) ∧ Below w.heap.size w w2 ∧ w.heap.size < w2.heap.size) := Lib.hid ⟨(hb2.block _ HA.out.2.2).trans HA.out.1, HA.out.2.1.trans (hb2.mono HA.out.2.1.size), Nat.lt_of_lt_of_le HA.out.2.2 hb2.size⟩
      clear hb2 HNM HA
      go_wp2_with (first | (refine wpList_store_all rfl 36 (.tmp 8) (.tmp 19) rfl w.heap.size (u8s t) (u8s tg) 36 HA2.out.1 HLT.out rfl rfl HIT.out HOT.out ?_; intro w3 G3))
      have HA3 : Hid (w3.heap[w.heap.size]? = some (.cells (u8s tg).toArray 36 (0, 0)) ∧ Below w.heap.size w w3 ∧ w.heap.size < w3.heap.size) := Lib.hid ⟨G3.out.1, below_gb HA2.out.2.1 G3.out.2 (Nat.le_refl _) HA2.out.2.1.size, Nat.lt_of_lt_of_le HA2.out.2.2 G3.out.2.size⟩
      clear HA2 G3
      try simp only [Act.put]
      refine wp_region_any (by kernel_rfl) ?_
      change wpAny _ _ _ _ _ _ _ ((w3).drewN 1)
      have HQ : Hid (((w3).drewN 1).heap[w.heap.size]? = some (.cells (u8s tg).toArray 36 (0, 0)) ∧ Below w.heap.size w ((w3).drewN 1) ∧ w.heap.size < ((w3).drewN 1).heap.size) := Lib.hid ⟨HA3.out.1, Sh.below_drewN HA3.out.2.1 1, HA3.out.2.2⟩
      generalize (w3).drewN 1 = w7 at HQ ⊢
      clear HA3
      refine wpAny_of_held (S := fun W => Below w7.heap.size w7 W) _ _ _ _ ?_
      refine wpAnyH_take (i := 0) (oi := { dst := some 20, op := Op.move (Operand.tmp 0), type := 3, pos := "law.go:193", after := #[], guard := none }) (v := .int .i64 i) rfl (by kernel_rfl) (by kernel_rfl) (by kernel_rfl) (fun _ _ _ h => h) (Or.inl ⟨by kernel_rfl, fun W hSW => by go_simp⟩) (Below.refl _ _) ?_
      try simp only [Act.put, List.setIfInBounds_toArray, List.set_cons_zero, List.set_cons_succ]
      refine wpAnyH_take (i := 1) (oi := { dst := some 21, op := Op.move (Operand.tmp 1), type := 35, pos := "law.go:193", after := #[], guard := none }) (v := .int .u64 (n : Int)) rfl (by kernel_rfl) (by kernel_rfl) (by kernel_rfl) (fun _ _ _ h => h) (Or.inl ⟨by kernel_rfl, fun W hSW => by go_simp⟩) (Below.refl _ _) ?_
      try simp only [Act.put, List.setIfInBounds_toArray, List.set_cons_zero, List.set_cons_succ]
      refine wpAnyH_take (i := 2) (oi := { dst := some 22, op := Op.move (Operand.tmp 2), type := 29, pos := "law.go:193", after := #[], guard := none }) (v := .slice A m c) rfl (by kernel_rfl) (by kernel_rfl) (by kernel_rfl) (fun _ _ _ h => h) (Or.inl ⟨by kernel_rfl, fun W hSW => by go_simp⟩) (Below.refl _ _) ?_
      try simp only [Act.put, List.setIfInBounds_toArray, List.set_cons_zero, List.set_cons_succ]
      refine wpAnyH_take (i := 3) (oi := { dst := some 23, op := Op.load 36 (Operand.tmp 8), type := 36, pos := "law.go:193", after := #[], guard := none }) (v := .agg (u8s tg).toArray) rfl (by kernel_rfl) (by kernel_rfl) (by kernel_rfl) (fun _ _ _ h => h) (Or.inl ⟨by kernel_rfl, fun W hSW => exec_load_mid 36 (.tmp 8) rfl w.heap.size 0 rfl (u8s tg) _ (range_block ((hSW.block _ HQ.out.2.2).trans HQ.out.1) 0 _ (fun j v hv => by rw [Nat.zero_add]; exact hv)) Tryd.underlying36 rfl HIT.out⟩) (Below.refl _ _) ?_
      try simp only [Act.put, List.setIfInBounds_toArray, List.set_cons_zero, List.set_cons_succ]
      refine wpAnyH_take (i := 5) (oi := { dst := some 25, op := Op.move (Operand.tmp 0), type := 3, pos := "law.go:193", after := #[], guard := none }) (v := .int .i64 i) rfl (by kernel_rfl) (by kernel_rfl) (by kernel_rfl) (fun _ _ _ h => h) (Or.inl ⟨by kernel_rfl, fun W hSW => by go_simp⟩) (Below.refl _ _) ?_
      try simp only [Act.put, List.setIfInBounds_toArray, List.set_cons_zero, List.set_cons_succ]
      refine wpAnyH_take (i := 6) (oi := { dst := some 26, op := Op.move (Operand.tmp 1), type := 35, pos := "law.go:193", after := #[], guard := none }) (v := .int .u64 (n : Int)) rfl (by kernel_rfl) (by kernel_rfl) (by kernel_rfl) (fun _ _ _ h => h) (Or.inl ⟨by kernel_rfl, fun W hSW => by go_simp⟩) (Below.refl _ _) ?_
      try simp only [Act.put, List.setIfInBounds_toArray, List.set_cons_zero, List.set_cons_succ]
      refine wpAnyH_take (i := 7) (oi := { dst := some 27, op := Op.move (Operand.tmp 2), type := 29, pos := "law.go:193", after := #[], guard := none }) (v := .slice A m c) rfl (by kernel_rfl) (by kernel_rfl) (by kernel_rfl) (fun _ _ _ h => h) (Or.inl ⟨by kernel_rfl, fun W hSW => by go_simp⟩) (Below.refl _ _) ?_
      try simp only [Act.put, List.setIfInBounds_toArray, List.set_cons_zero, List.set_cons_succ]
      refine wpAnyH_take (i := 8) (oi := { dst := some 28, op := Op.load 36 (Operand.tmp 8), type := 36, pos := "law.go:193", after := #[], guard := none }) (v := .agg (u8s tg).toArray) rfl (by kernel_rfl) (by kernel_rfl) (by kernel_rfl) (fun _ _ _ h => h) (Or.inl ⟨by kernel_rfl, fun W hSW => exec_load_mid 36 (.tmp 8) rfl w.heap.size 0 rfl (u8s tg) _ (range_block ((hSW.block _ HQ.out.2.2).trans HQ.out.1) 0 _ (fun j v hv => by rw [Nat.zero_add]; exact hv)) Tryd.underlying36 rfl HIT.out⟩) (Below.refl _ _) ?_
      try simp only [Act.put, List.setIfInBounds_toArray, List.set_cons_zero, List.set_cons_succ]
      refine wpAnyH_ready (rs := [4]) (by kernel_rfl) (by simp) ?_
      refine AllReadyH.cons (o := { dst := some 24, op := Op.call { callee := Callee.value (Operand.func 14), args := #[Operand.tmp 20, Operand.tmp 21, Operand.tmp 22, Operand.tmp 23], argTypes := #[3, 35, 29, 36] }, type := 4, pos := "law.go:193", after := #[{ on := 0, ground := Ground.data }, { on := 1, ground := Ground.data }, { on := 2, ground := Ground.data }, { on := 3, ground := Ground.data }], guard := none }) rfl (fun K' hK' => ?_) AllReadyH.nil
      go_simp
      go_at_call 14
      refine (HC.out w7 HQ.out.2.1).mono ?_
      rintro E w8 ⟨rfl, HBw8⟩
      refine hK'.out _ _ HBw8.out (fun _ => wpAnyH_next HBw8.out ?_)
      clear hK' K'
      try simp only [Act.put, List.setIfInBounds_toArray, List.set_cons_zero, List.set_cons_succ]
      have HXw8 : Hid (Below w.heap.size w w8) := Lib.hid (HQ.out.2.1.trans (HBw8.out.mono HQ.out.2.1.size))
      refine wpAnyH_ready (rs := [9]) (by kernel_rfl) (by simp) ?_
      refine AllReadyH.cons (o := { dst := some 29, op := Op.call { callee := Callee.value (Operand.func 20), args := #[Operand.tmp 25, Operand.tmp 26, Operand.tmp 27, Operand.tmp 28], argTypes := #[3, 35, 29, 36] }, type := 4, pos := "law.go:193", after := #[{ on := 5, ground := Ground.data }, { on := 6, ground := Ground.data }, { on := 7, ground := Ground.data }, { on := 8, ground := Ground.data }, { on := 4, ground := Ground.chain }], guard := none }) rfl (fun K' hK' => ?_) AllReadyH.nil
      go_simp
      go_at_call 20
      refine (HRC.out w8 HXw8.out).mono ?_
      rintro E w9 ⟨rfl, HBw9⟩
      refine hK'.out _ _ HBw9.out (fun _ => wpAnyH_next HBw9.out ?_)
      clear hK' K'
      try simp only [Act.put, List.setIfInBounds_toArray, List.set_cons_zero, List.set_cons_succ]
      have HXw9 : Hid (Below w.heap.size w w9) := Lib.hid (HXw8.out.trans (HBw9.out.mono HXw8.out.size))
      refine wpAnyH_take (i := 10) (oi := { dst := some 30, op := Op.binOp BinOp.eql 4 (Operand.tmp 24) (Operand.tmp 29) 4, type := 4, pos := "law.go:193", after := #[{ on := 4, ground := Ground.data }, { on := 9, ground := Ground.data }], guard := none }) (v := .bool true) rfl (by kernel_rfl) (by kernel_rfl) (by kernel_rfl) (fun _ _ _ h => h) (Or.inl ⟨by kernel_rfl, fun W hSW => by go_simp⟩) (Below.refl _ _) ?_
      try simp only [Act.put, List.setIfInBounds_toArray, List.set_cons_zero, List.set_cons_succ]
      refine wpAnyH_take (i := 11) (oi := { dst := some 31, op := Op.move (Operand.tmp 30), type := 4, pos := "law.go:193", after := #[{ on := 10, ground := Ground.data }, { on := 9, ground := Ground.chain }], guard := none }) (v := .bool true) rfl (by kernel_rfl) (by kernel_rfl) (by kernel_rfl) (fun _ _ _ h => h) (Or.inl ⟨by kernel_rfl, fun W hSW => by go_simp⟩) (Below.refl _ _) ?_
      try simp only [Act.put, List.setIfInBounds_toArray, List.set_cons_zero, List.set_cons_succ]
      refine wpAnyH_ready (rs := [12]) (by kernel_rfl) (by simp) ?_
      refine AllReadyH.cons (o := { dst := some 32, op := Op.call { callee := Callee.value (Operand.func 9), args := #[], argTypes := #[] }, type := 4, pos := "law.go:193", after := #[{ on := 11, ground := Ground.chain }, { on := 11, ground := Ground.guard }], guard := some (11, true) }) rfl (fun K' hK' => ?_) AllReadyH.nil
      go_simp
      go_at_call 9
      refine (HW.out w9 HXw9.out).mono ?_
      rintro E w10 ⟨rfl, hb10⟩
      have HBw10 := Lib.hid hb10
      clear hb10
      refine hK'.out _ _ HBw10.out (fun _ => wpAnyH_next HBw10.out ?_)
      clear hK' K'
      try simp only [Act.put, List.setIfInBounds_toArray, List.set_cons_zero, List.set_cons_succ]
      refine wpAnyH_take (i := 13) (oi := { dst := some 33, op := Op.pick (Operand.tmp 31) (Operand.tmp 32) (Operand.const (Value.bool false)), type := 4, pos := "law.go:193", after := #[{ on := 11, ground := Ground.data }, { on := 12, ground := Ground.data }], guard := none }) (v := .bool true) rfl (by kernel_rfl) (by kernel_rfl) (by kernel_rfl) (fun _ _ _ h => h) (Or.inl ⟨by kernel_rfl, fun W hSW => by go_simp⟩) (Below.refl _ _) ?_
      try simp only [Act.put, List.setIfInBounds_toArray, List.set_cons_zero, List.set_cons_succ]
      refine wpAnyH_take (i := 14) (oi := { dst := some 10, op := Op.assign (Operand.tmp 33), type := 4, pos := "law.go:193", after := #[{ on := 13, ground := Ground.data }, { on := 12, ground := Ground.chain }, { on := 0, ground := Ground.phase }, { on := 1, ground := Ground.phase }, { on := 2, ground := Ground.phase }, { on := 3, ground := Ground.phase }, { on := 4, ground := Ground.phase }, { on := 5, ground := Ground.phase }, { on := 6, ground := Ground.phase }, { on := 7, ground := Ground.phase }, { on := 8, ground := Ground.phase }, { on := 9, ground := Ground.phase }, { on := 10, ground := Ground.phase }, { on := 11, ground := Ground.phase }, { on := 12, ground := Ground.phase }, { on := 13, ground := Ground.phase }], guard := none }) (v := .bool true) rfl (by kernel_rfl) (by kernel_rfl) (by kernel_rfl) (fun _ _ _ h => h) (Or.inl ⟨by kernel_rfl, fun W hSW => by go_simp⟩) (Below.refl _ _) ?_
      try simp only [Act.put, List.setIfInBounds_toArray, List.set_cons_zero, List.set_cons_succ]
      refine wpAnyH_done (by kernel_rfl) ?_ _
      go_wp2_with fail
      go_ret
      exact ⟨rfl, HXw9.out.trans (HBw10.out.mono HXw9.out.size)⟩
end Go.Proofs.YtepjfkmbmcfnoaaDoor
