/-
  What is proved: whether a tag is that of a number and bytes (usig.Check). Conditions as stated.
-/
import Derived.Test.YtghjogneogkpoaaGreatDoorS8
import Derived.Test.YtghjogneogkpoaaGreatDoorK5
namespace Go.Proofs.YtghjogneogkpoaaGreatDoor
open Go.RowKit
set_option maxRecDepth 100000

theorem rd_sh {w : World} {A : Option Addr} {n : Nat} {bs : List UInt8} (h : Oct.Rd w A n bs) : Sh.Rd (fun _ => True) w A n bs :=
  ⟨h.1, fun hn => let ⟨b, o, e, hb, hc⟩ := h.2 hn; ⟨b, o, e, hb, trivial, hc⟩⟩
theorem rd_of_sh {P : Nat → Prop} {w : World} {A : Option Addr} {n : Nat} {bs : List UInt8} (h : Sh.Rd P w A n bs) : Oct.Rd w A n bs :=
  ⟨h.1, fun hn => let ⟨b, o, e, hb, _, hc⟩ := h.2 hn; ⟨b, o, e, hb, hc⟩⟩
/-- Is it a replica? -/
def isRep (i : Int) : Bool := decide (1 ≤ i ∧ i ≤ 11)
theorem repKey_len (i : Int) : (Sh.repKey i).length = if isRep i then 32 else 0 := by
  unfold Sh.repKey Sh.keyI isRep
  by_cases h : i < 1 ∨ 11 < i
  · rw [if_pos h, if_neg (by simp; omega)]
    rfl
  · rw [if_neg h, Sh.sumOf_length, if_pos (by simp; omega)]

theorem isReplica_any (i : Int) (w : World) (hk : Sh.KIs w) (h0 : 0 < w.heap.size) :
    Calls Tryz.prog 69 #[.int .i64 i] w fun E w' => E = .returned (.bool (isRep i)) ∧ Below w.heap.size w w' := by
  have HR := Lib.hid (Sh.replica_any i w hk h0)
  have hl := repKey_len i
  generalize Sh.repKey i = key at HR hl
  cases hi : isRep i with
  | true =>
    rw [hi, if_pos rfl] at hl
    rw [hl] at HR
    clear hi hk
    go_enter Tryz.func69, Tryz.ntmps69
    go_wp2_with (go_at_call 99; refine HR.out.mono ?_; rintro E w1 ⟨A, c, rfl, H1, hb1⟩)
    go_ret
    exact ⟨rfl, hb1⟩
  | false =>
    rw [hi, if_neg (by simp)] at hl
    rw [hl] at HR
    clear hi hk
    go_enter Tryz.func69, Tryz.ntmps69
    go_wp2_with (go_at_call 99; refine HR.out.mono ?_; rintro E w1 ⟨A, c, rfl, H1, hb1⟩)
    go_ret
    exact ⟨rfl, hb1⟩

/-- May a number be given for so many bytes? -/
def mayN (n m : Nat) : Bool := decide (1 ≤ n ∧ n ≤ 65536 ∧ m ≤ 1024)
theorem mayBe_any (n m c : Nat) (A : Option Addr) (w : World) : Calls Tryz.prog 70 #[.int .u64 (n : Int), .slice A m c] w fun E w' => E = .returned (.bool (mayN n m)) ∧ w = w' := by
  by_cases h1 : 1 ≤ n
  · by_cases h2 : n ≤ 65536
    · have e : mayN n m = decide ((m : Int) ≤ 1024) := by rw [mayN]; congr 1; rw [eq_iff_iff]; omega
      rw [e]
      clear e
      go_enter Tryz.func70, Tryz.ntmps70
      go_wp2
      go_ret
      exact ⟨rfl, rfl⟩
    · have e : mayN n m = false := by simp [mayN]; omega
      rw [e]
      clear e
      go_enter Tryz.func70, Tryz.ntmps70
      go_wp2
      go_ret
      exact ⟨rfl, rfl⟩
  · have e : mayN n m = false := by simp [mayN]; omega
    rw [e]
    clear e
    go_enter Tryz.func70, Tryz.ntmps70
    go_wp2
    go_ret
    exact ⟨rfl, rfl⟩
/-- A tag, as values. -/
def tagV (t : List UInt8) : Value := .agg (u8s t).toArray

theorem tag_size : (Tryz.prog.info? 27).map (·.size) = some 32 := by kernel_rfl
theorem tag_info {l : List UInt8} (h : l.length = 32) : (Tryz.prog.info? 27).map (·.size) = some (u8s l).length := by rw [u8s_length, h]; exact tag_size
theorem row_new (w : World) (cs : List Value) (t : TypeId) : (w.alloc (.cells cs.toArray t)).heap[w.heap.size]? = some (.cells cs.toArray t (0, 0)) := heap_alloc_new w _
theorem exec_load_mid {P : Program} {o : Oper} {f : Operand → Value} {w : World} (ty : TypeId) (x : Operand) (ho : o.op = .load ty x) (b off : Nat) (hx : f x = .pointer (some ⟨b, off, none⟩)) (cs : List Value) (d : TypeDesc)
    (hc : w.rangeAt b off cs) (hu : P.underlying ty = some d) (hd : d.isRow = true) (hi : (P.info? ty).map (·.size) = some cs.length) : (execOp f o).run P w = .ok (.value (.agg cs.toArray)) w := by
  unfold execOp
  simp only [ho, hx, Instr.loadAt, Instr.sureAddr, Sem.run_bind, Sem.run_pure, Result.andThen_ok, run_loadVar_mid w b off ty cs d hc hu hd hi]

/-- What Check tells. -/
def chk (i : Int) (n : Nat) (b t : List UInt8) : Bool := isRep i && mayN n b.length && decide (t = Sh.numTag i n b)
set_option maxHeartbeats 2000000 in
theorem check_us (i : Int) (n : Nat) {A : Option Addr} {c : Nat} {b t : List UInt8} {w : World} (hr : Oct.Rd w A b.length b) (hs : Oct.Sl A b.length c) (hL : b.length < 1000000000000) (ht : t.length = 32) (hk : Sh.KIs w) (h0 : 0 < w.heap.size) :
    Calls Tryz.prog 41 #[.int .i64 i, .int .u64 (n : Int), .slice A b.length c, tagV t] w fun E w' => E = .returned (.bool (chk i n b t)) ∧ Hid (Below w.heap.size w w') := by
  have HI := Lib.hid (fun W (hb : Below w.heap.size w W) => isReplica_any i W (hk.below hb h0) (Nat.lt_of_lt_of_le h0 hb.size))
  have HM := Lib.hid (fun W => mayBe_any n b.length c A W)
  have HN := Lib.hid (fun W (hb : Below w.heap.size w W) => Sh.numbered_any i n b A b.length c W (rd_sh (hr.below hb)) hs hL (hk.below hb h0) (Nat.lt_of_lt_of_le h0 hb.size))
  have HT : Hid ((Tryz.prog.info? 27).map (·.size) = some (u8s t).length) := Lib.hid (tag_info ht)
  have hTL := Sh.numTag_length i n b
  unfold tagV chk
  clear hr hs hL hk
  cases hrep : isRep i with
  | false =>
    rw [hrep] at HI
    rw [Bool.false_and, Bool.false_and]
    generalize Sh.numTag i n b = tg at *
    clear hrep hTL HN HM HT
    go_enter Tryz.func41, Tryz.ntmps41
    go_wp2_with fail
    try try simp only [Act.put, List.setIfInBounds_toArray, List.set_cons_zero, List.set_cons_succ]
    refine wp_region_any (by kernel_rfl) ?_
    change wpAny _ _ _ _ _ _ _ ((w.alloc (.cells (u8s t).toArray 27)).drewN 1)
    have HQ : Hid (((w.alloc (.cells (u8s t).toArray 27)).drewN 1).heap[w.heap.size]? = some (.cells (u8s t).toArray 27 (0, 0)) ∧ Below w.heap.size w ((w.alloc (.cells (u8s t).toArray 27)).drewN 1) ∧ w.heap.size < ((w.alloc (.cells (u8s t).toArray 27)).drewN 1).heap.size) := Lib.hid ⟨row_new w (u8s t) _, Sh.below_drewN ((Below.refl _ _).alloc (Nat.le_refl _) _) 1, by simp⟩
    generalize (w.alloc (.cells (u8s t).toArray 27)).drewN 1 = w7 at HQ ⊢
    refine wpAny_of_held (S := fun W => Below w7.heap.size w7 W) _ _ _ _ ?_
    refine wpAnyH_take (i := 0) (oi := { dst := some 9, op := Op.move (Operand.tmp 0), type := 3, pos := "usig.go:68", after := #[], guard := none }) (v := .int .i64 i) rfl (by kernel_rfl) (by kernel_rfl) (by kernel_rfl) (fun _ _ _ h => h) (Or.inl ⟨by kernel_rfl, fun W hSW => by go_simp⟩) (Below.refl _ _) ?_
    try simp only [Act.put, List.setIfInBounds_toArray, List.set_cons_zero, List.set_cons_succ]
    refine wpAnyH_ready (rs := [1]) (by kernel_rfl) (by simp) ?_
    refine AllReadyH.cons (o := { dst := some 10, op := Op.call { callee := Callee.value (Operand.func 69), args := #[Operand.tmp 9], argTypes := #[3] }, type := 4, pos := "usig.go:68", after := #[{ on := 0, ground := Ground.data }], guard := none }) rfl (fun K' hK' => ?_) AllReadyH.nil
    go_simp
    go_at_call 69
    refine (HI.out w7 HQ.out.2.1).mono ?_
    rintro E w8 ⟨rfl, hbw8⟩
    have HBw8 := Lib.hid hbw8
    clear hbw8
    refine hK'.out _ _ HBw8.out (fun _ => Sh.wpAnyH_next HBw8.out ?_)
    clear hK' K'
    try simp only [Act.put, List.setIfInBounds_toArray, List.set_cons_zero, List.set_cons_succ]
    refine wpAnyH_take (i := 2) (oi := { dst := some 11, op := Op.move (Operand.tmp 10), type := 4, pos := "usig.go:68", after := #[{ on := 1, ground := Ground.data }, { on := 1, ground := Ground.chain }], guard := none }) (v := .bool false) rfl (by kernel_rfl) (by kernel_rfl) (by kernel_rfl) (fun _ _ _ h => h) (Or.inl ⟨by kernel_rfl, fun W hSW => by go_simp⟩) (Below.refl _ _) ?_
    try simp only [Act.put, List.setIfInBounds_toArray, List.set_cons_zero, List.set_cons_succ]
    refine wpAnyH_take (i := 3) (oi := { dst := some 12, op := Op.move (Operand.tmp 1), type := 22, pos := "usig.go:68", after := #[{ on := 2, ground := Ground.guard }], guard := some (2, true) }) (v := undef) rfl (by kernel_rfl) (by kernel_rfl) (by kernel_rfl) (fun _ _ _ h => h) (Or.inr ⟨by kernel_rfl, rfl⟩) (Below.refl _ _) ?_
    try simp only [Act.put, List.setIfInBounds_toArray, List.set_cons_zero, List.set_cons_succ]
    refine wpAnyH_take (i := 4) (oi := { dst := some 13, op := Op.move (Operand.tmp 2), type := 38, pos := "usig.go:68", after := #[{ on := 2, ground := Ground.guard }], guard := some (2, true) }) (v := undef) rfl (by kernel_rfl) (by kernel_rfl) (by kernel_rfl) (fun _ _ _ h => h) (Or.inr ⟨by kernel_rfl, rfl⟩) (Below.refl _ _) ?_
    try simp only [Act.put, List.setIfInBounds_toArray, List.set_cons_zero, List.set_cons_succ]
    refine wpAnyH_take (i := 5) (oi := { dst := some 14, op := Op.call { callee := Callee.value (Operand.func 70), args := #[Operand.tmp 12, Operand.tmp 13], argTypes := #[22, 38] }, type := 4, pos := "usig.go:68", after := #[{ on := 3, ground := Ground.data }, { on := 4, ground := Ground.data }, { on := 2, ground := Ground.chain }, { on := 2, ground := Ground.guard }], guard := some (2, true) }) (v := undef) rfl (by kernel_rfl) (by kernel_rfl) (by kernel_rfl) (fun _ _ _ h => h) (Or.inr ⟨by kernel_rfl, rfl⟩) (Below.refl _ _) ?_
    try simp only [Act.put, List.setIfInBounds_toArray, List.set_cons_zero, List.set_cons_succ]
    refine wpAnyH_take (i := 6) (oi := { dst := some 15, op := Op.pick (Operand.tmp 11) (Operand.tmp 14) (Operand.const (Value.bool false)), type := 4, pos := "usig.go:68", after := #[{ on := 2, ground := Ground.data }, { on := 5, ground := Ground.data }], guard := none }) (v := .bool false) rfl (by kernel_rfl) (by kernel_rfl) (by kernel_rfl) (fun _ _ _ h => h) (Or.inl ⟨by kernel_rfl, fun W hSW => by go_simp⟩) (Below.refl _ _) ?_
    try simp only [Act.put, List.setIfInBounds_toArray, List.set_cons_zero, List.set_cons_succ]
    refine wpAnyH_take (i := 7) (oi := { dst := some 16, op := Op.move (Operand.tmp 15), type := 4, pos := "usig.go:68", after := #[{ on := 6, ground := Ground.data }, { on := 5, ground := Ground.chain }], guard := none }) (v := .bool false) rfl (by kernel_rfl) (by kernel_rfl) (by kernel_rfl) (fun _ _ _ h => h) (Or.inl ⟨by kernel_rfl, fun W hSW => by go_simp⟩) (Below.refl _ _) ?_
    try simp only [Act.put, List.setIfInBounds_toArray, List.set_cons_zero, List.set_cons_succ]
    refine wpAnyH_take (i := 8) (oi := { dst := some 17, op := Op.load 27 (Operand.tmp 7), type := 27, pos := "usig.go:68", after := #[{ on := 7, ground := Ground.guard }], guard := some (7, true) }) (v := undef) rfl (by kernel_rfl) (by kernel_rfl) (by kernel_rfl) (fun _ _ _ h => h) (Or.inr ⟨by kernel_rfl, rfl⟩) (Below.refl _ _) ?_
    try simp only [Act.put, List.setIfInBounds_toArray, List.set_cons_zero, List.set_cons_succ]
    refine wpAnyH_take (i := 9) (oi := { dst := some 18, op := Op.move (Operand.tmp 0), type := 3, pos := "usig.go:68", after := #[{ on := 7, ground := Ground.guard }], guard := some (7, true) }) (v := undef) rfl (by kernel_rfl) (by kernel_rfl) (by kernel_rfl) (fun _ _ _ h => h) (Or.inr ⟨by kernel_rfl, rfl⟩) (Below.refl _ _) ?_
    try simp only [Act.put, List.setIfInBounds_toArray, List.set_cons_zero, List.set_cons_succ]
    refine wpAnyH_take (i := 10) (oi := { dst := some 19, op := Op.move (Operand.tmp 1), type := 22, pos := "usig.go:68", after := #[{ on := 7, ground := Ground.guard }], guard := some (7, true) }) (v := undef) rfl (by kernel_rfl) (by kernel_rfl) (by kernel_rfl) (fun _ _ _ h => h) (Or.inr ⟨by kernel_rfl, rfl⟩) (Below.refl _ _) ?_
    try simp only [Act.put, List.setIfInBounds_toArray, List.set_cons_zero, List.set_cons_succ]
    refine wpAnyH_take (i := 11) (oi := { dst := some 20, op := Op.move (Operand.tmp 2), type := 38, pos := "usig.go:68", after := #[{ on := 7, ground := Ground.guard }], guard := some (7, true) }) (v := undef) rfl (by kernel_rfl) (by kernel_rfl) (by kernel_rfl) (fun _ _ _ h => h) (Or.inr ⟨by kernel_rfl, rfl⟩) (Below.refl _ _) ?_
    try simp only [Act.put, List.setIfInBounds_toArray, List.set_cons_zero, List.set_cons_succ]
    refine wpAnyH_take (i := 12) (oi := { dst := some 21, op := Op.call { callee := Callee.value (Operand.func 71), args := #[Operand.tmp 18, Operand.tmp 19, Operand.tmp 20], argTypes := #[3, 22, 38] }, type := 27, pos := "usig.go:68", after := #[{ on := 9, ground := Ground.data }, { on := 10, ground := Ground.data }, { on := 11, ground := Ground.data }, { on := 7, ground := Ground.chain }, { on := 7, ground := Ground.guard }], guard := some (7, true) }) (v := undef) rfl (by kernel_rfl) (by kernel_rfl) (by kernel_rfl) (fun _ _ _ h => h) (Or.inr ⟨by kernel_rfl, rfl⟩) (Below.refl _ _) ?_
    try simp only [Act.put, List.setIfInBounds_toArray, List.set_cons_zero, List.set_cons_succ]
    refine wpAnyH_take (i := 13) (oi := { dst := some 22, op := Op.call { callee := Callee.value (Operand.func 58), args := #[Operand.tmp 17, Operand.tmp 21], argTypes := #[27, 27] }, type := 4, pos := "usig.go:68", after := #[{ on := 8, ground := Ground.data }, { on := 12, ground := Ground.data }, { on := 12, ground := Ground.chain }, { on := 7, ground := Ground.guard }], guard := some (7, true) }) (v := undef) rfl (by kernel_rfl) (by kernel_rfl) (by kernel_rfl) (fun _ _ _ h => h) (Or.inr ⟨by kernel_rfl, rfl⟩) (Below.refl _ _) ?_
    try simp only [Act.put, List.setIfInBounds_toArray, List.set_cons_zero, List.set_cons_succ]
    refine wpAnyH_take (i := 14) (oi := { dst := some 23, op := Op.pick (Operand.tmp 16) (Operand.tmp 22) (Operand.const (Value.bool false)), type := 4, pos := "usig.go:68", after := #[{ on := 7, ground := Ground.data }, { on := 13, ground := Ground.data }], guard := none }) (v := .bool false) rfl (by kernel_rfl) (by kernel_rfl) (by kernel_rfl) (fun _ _ _ h => h) (Or.inl ⟨by kernel_rfl, fun W hSW => by go_simp⟩) (Below.refl _ _) ?_
    try simp only [Act.put, List.setIfInBounds_toArray, List.set_cons_zero, List.set_cons_succ]
    refine wpAnyH_take (i := 15) (oi := { dst := some 8, op := Op.assign (Operand.tmp 23), type := 4, pos := "usig.go:68", after := #[{ on := 14, ground := Ground.data }, { on := 13, ground := Ground.chain }, { on := 0, ground := Ground.phase }, { on := 1, ground := Ground.phase }, { on := 2, ground := Ground.phase }, { on := 3, ground := Ground.phase }, { on := 4, ground := Ground.phase }, { on := 5, ground := Ground.phase }, { on := 6, ground := Ground.phase }, { on := 7, ground := Ground.phase }, { on := 8, ground := Ground.phase }, { on := 9, ground := Ground.phase }, { on := 10, ground := Ground.phase }, { on := 11, ground := Ground.phase }, { on := 12, ground := Ground.phase }, { on := 13, ground := Ground.phase }, { on := 14, ground := Ground.phase }], guard := none }) (v := .bool false) rfl (by kernel_rfl) (by kernel_rfl) (by kernel_rfl) (fun _ _ _ h => h) (Or.inl ⟨by kernel_rfl, fun W hSW => by go_simp⟩) (Below.refl _ _) ?_
    try simp only [Act.put, List.setIfInBounds_toArray, List.set_cons_zero, List.set_cons_succ]
    refine wpAnyH_done (by kernel_rfl) ?_ _
    go_wp2_with fail
    go_ret
    exact ⟨rfl, Lib.hid (HQ.out.2.1.trans (HBw8.out.mono HQ.out.2.1.size))⟩
  | true =>
    rw [hrep] at HI
    rw [Bool.true_and]
    cases hmay : mayN n b.length with
    | false =>
      rw [hmay] at HM
      rw [Bool.false_and]
      generalize Sh.numTag i n b = tg at *
      clear hrep hTL HN HT hmay
      go_enter Tryz.func41, Tryz.ntmps41
      go_wp2_with fail
      try try simp only [Act.put, List.setIfInBounds_toArray, List.set_cons_zero, List.set_cons_succ]
      refine wp_region_any (by kernel_rfl) ?_
      change wpAny _ _ _ _ _ _ _ ((w.alloc (.cells (u8s t).toArray 27)).drewN 1)
      have HQ : Hid (((w.alloc (.cells (u8s t).toArray 27)).drewN 1).heap[w.heap.size]? = some (.cells (u8s t).toArray 27 (0, 0)) ∧ Below w.heap.size w ((w.alloc (.cells (u8s t).toArray 27)).drewN 1) ∧ w.heap.size < ((w.alloc (.cells (u8s t).toArray 27)).drewN 1).heap.size) := Lib.hid ⟨row_new w (u8s t) _, Sh.below_drewN ((Below.refl _ _).alloc (Nat.le_refl _) _) 1, by simp⟩
      generalize (w.alloc (.cells (u8s t).toArray 27)).drewN 1 = w7 at HQ ⊢
      refine wpAny_of_held (S := fun W => Below w7.heap.size w7 W) _ _ _ _ ?_
      refine wpAnyH_take (i := 0) (oi := { dst := some 9, op := Op.move (Operand.tmp 0), type := 3, pos := "usig.go:68", after := #[], guard := none }) (v := .int .i64 i) rfl (by kernel_rfl) (by kernel_rfl) (by kernel_rfl) (fun _ _ _ h => h) (Or.inl ⟨by kernel_rfl, fun W hSW => by go_simp⟩) (Below.refl _ _) ?_
      try simp only [Act.put, List.setIfInBounds_toArray, List.set_cons_zero, List.set_cons_succ]
      refine wpAnyH_ready (rs := [1]) (by kernel_rfl) (by simp) ?_
      refine AllReadyH.cons (o := { dst := some 10, op := Op.call { callee := Callee.value (Operand.func 69), args := #[Operand.tmp 9], argTypes := #[3] }, type := 4, pos := "usig.go:68", after := #[{ on := 0, ground := Ground.data }], guard := none }) rfl (fun K' hK' => ?_) AllReadyH.nil
      go_simp
      go_at_call 69
      refine (HI.out w7 HQ.out.2.1).mono ?_
      rintro E w8 ⟨rfl, hbw8⟩
      have HBw8 := Lib.hid hbw8
      clear hbw8
      refine hK'.out _ _ HBw8.out (fun _ => Sh.wpAnyH_next HBw8.out ?_)
      clear hK' K'
      try simp only [Act.put, List.setIfInBounds_toArray, List.set_cons_zero, List.set_cons_succ]
      refine wpAnyH_take (i := 2) (oi := { dst := some 11, op := Op.move (Operand.tmp 10), type := 4, pos := "usig.go:68", after := #[{ on := 1, ground := Ground.data }, { on := 1, ground := Ground.chain }], guard := none }) (v := .bool true) rfl (by kernel_rfl) (by kernel_rfl) (by kernel_rfl) (fun _ _ _ h => h) (Or.inl ⟨by kernel_rfl, fun W hSW => by go_simp⟩) (Below.refl _ _) ?_
      try simp only [Act.put, List.setIfInBounds_toArray, List.set_cons_zero, List.set_cons_succ]
      refine wpAnyH_take (i := 3) (oi := { dst := some 12, op := Op.move (Operand.tmp 1), type := 22, pos := "usig.go:68", after := #[{ on := 2, ground := Ground.guard }], guard := some (2, true) }) (v := .int .u64 (n : Int)) rfl (by kernel_rfl) (by kernel_rfl) (by kernel_rfl) (fun _ _ _ h => h) (Or.inl ⟨by kernel_rfl, fun W hSW => by go_simp⟩) (Below.refl _ _) ?_
      try simp only [Act.put, List.setIfInBounds_toArray, List.set_cons_zero, List.set_cons_succ]
      refine wpAnyH_take (i := 4) (oi := { dst := some 13, op := Op.move (Operand.tmp 2), type := 38, pos := "usig.go:68", after := #[{ on := 2, ground := Ground.guard }], guard := some (2, true) }) (v := .slice A b.length c) rfl (by kernel_rfl) (by kernel_rfl) (by kernel_rfl) (fun _ _ _ h => h) (Or.inl ⟨by kernel_rfl, fun W hSW => by go_simp⟩) (Below.refl _ _) ?_
      try simp only [Act.put, List.setIfInBounds_toArray, List.set_cons_zero, List.set_cons_succ]
      refine wpAnyH_ready (rs := [5]) (by kernel_rfl) (by simp) ?_
      refine AllReadyH.cons (o := { dst := some 14, op := Op.call { callee := Callee.value (Operand.func 70), args := #[Operand.tmp 12, Operand.tmp 13], argTypes := #[22, 38] }, type := 4, pos := "usig.go:68", after := #[{ on := 3, ground := Ground.data }, { on := 4, ground := Ground.data }, { on := 2, ground := Ground.chain }, { on := 2, ground := Ground.guard }], guard := some (2, true) }) rfl (fun K' hK' => ?_) AllReadyH.nil
      go_simp
      go_at_call 70
      refine (HM.out w8).mono ?_
      rintro E w9 ⟨rfl, rfl⟩
      refine hK'.out _ _ (Below.refl _ _) (fun _ => ?_)
      clear hK' K'
      try simp only [Act.put, List.setIfInBounds_toArray, List.set_cons_zero, List.set_cons_succ]
      refine wpAnyH_take (i := 6) (oi := { dst := some 15, op := Op.pick (Operand.tmp 11) (Operand.tmp 14) (Operand.const (Value.bool false)), type := 4, pos := "usig.go:68", after := #[{ on := 2, ground := Ground.data }, { on := 5, ground := Ground.data }], guard := none }) (v := .bool false) rfl (by kernel_rfl) (by kernel_rfl) (by kernel_rfl) (fun _ _ _ h => h) (Or.inl ⟨by kernel_rfl, fun W hSW => by go_simp⟩) (Below.refl _ _) ?_
      try simp only [Act.put, List.setIfInBounds_toArray, List.set_cons_zero, List.set_cons_succ]
      refine wpAnyH_take (i := 7) (oi := { dst := some 16, op := Op.move (Operand.tmp 15), type := 4, pos := "usig.go:68", after := #[{ on := 6, ground := Ground.data }, { on := 5, ground := Ground.chain }], guard := none }) (v := .bool false) rfl (by kernel_rfl) (by kernel_rfl) (by kernel_rfl) (fun _ _ _ h => h) (Or.inl ⟨by kernel_rfl, fun W hSW => by go_simp⟩) (Below.refl _ _) ?_
      try simp only [Act.put, List.setIfInBounds_toArray, List.set_cons_zero, List.set_cons_succ]
      refine wpAnyH_take (i := 8) (oi := { dst := some 17, op := Op.load 27 (Operand.tmp 7), type := 27, pos := "usig.go:68", after := #[{ on := 7, ground := Ground.guard }], guard := some (7, true) }) (v := undef) rfl (by kernel_rfl) (by kernel_rfl) (by kernel_rfl) (fun _ _ _ h => h) (Or.inr ⟨by kernel_rfl, rfl⟩) (Below.refl _ _) ?_
      try simp only [Act.put, List.setIfInBounds_toArray, List.set_cons_zero, List.set_cons_succ]
      refine wpAnyH_take (i := 9) (oi := { dst := some 18, op := Op.move (Operand.tmp 0), type := 3, pos := "usig.go:68", after := #[{ on := 7, ground := Ground.guard }], guard := some (7, true) }) (v := undef) rfl (by kernel_rfl) (by kernel_rfl) (by kernel_rfl) (fun _ _ _ h => h) (Or.inr ⟨by kernel_rfl, rfl⟩) (Below.refl _ _) ?_
      try simp only [Act.put, List.setIfInBounds_toArray, List.set_cons_zero, List.set_cons_succ]
      refine wpAnyH_take (i := 10) (oi := { dst := some 19, op := Op.move (Operand.tmp 1), type := 22, pos := "usig.go:68", after := #[{ on := 7, ground := Ground.guard }], guard := some (7, true) }) (v := undef) rfl (by kernel_rfl) (by kernel_rfl) (by kernel_rfl) (fun _ _ _ h => h) (Or.inr ⟨by kernel_rfl, rfl⟩) (Below.refl _ _) ?_
      try simp only [Act.put, List.setIfInBounds_toArray, List.set_cons_zero, List.set_cons_succ]
      refine wpAnyH_take (i := 11) (oi := { dst := some 20, op := Op.move (Operand.tmp 2), type := 38, pos := "usig.go:68", after := #[{ on := 7, ground := Ground.guard }], guard := some (7, true) }) (v := undef) rfl (by kernel_rfl) (by kernel_rfl) (by kernel_rfl) (fun _ _ _ h => h) (Or.inr ⟨by kernel_rfl, rfl⟩) (Below.refl _ _) ?_
      try simp only [Act.put, List.setIfInBounds_toArray, List.set_cons_zero, List.set_cons_succ]
      refine wpAnyH_take (i := 12) (oi := { dst := some 21, op := Op.call { callee := Callee.value (Operand.func 71), args := #[Operand.tmp 18, Operand.tmp 19, Operand.tmp 20], argTypes := #[3, 22, 38] }, type := 27, pos := "usig.go:68", after := #[{ on := 9, ground := Ground.data }, { on := 10, ground := Ground.data }, { on := 11, ground := Ground.data }, { on := 7, ground := Ground.chain }, { on := 7, ground := Ground.guard }], guard := some (7, true) }) (v := undef) rfl (by kernel_rfl) (by kernel_rfl) (by kernel_rfl) (fun _ _ _ h => h) (Or.inr ⟨by kernel_rfl, rfl⟩) (Below.refl _ _) ?_
      try simp only [Act.put, List.setIfInBounds_toArray, List.set_cons_zero, List.set_cons_succ]
      refine wpAnyH_take (i := 13) (oi := { dst := some 22, op := Op.call { callee := Callee.value (Operand.func 58), args := #[Operand.tmp 17, Operand.tmp 21], argTypes := #[27, 27] }, type := 4, pos := "usig.go:68", after := #[{ on := 8, ground := Ground.data }, { on := 12, ground := Ground.data }, { on := 12, ground := Ground.chain }, { on := 7, ground := Ground.guard }], guard := some (7, true) }) (v := undef) rfl (by kernel_rfl) (by kernel_rfl) (by kernel_rfl) (fun _ _ _ h => h) (Or.inr ⟨by kernel_rfl, rfl⟩) (Below.refl _ _) ?_
      try simp only [Act.put, List.setIfInBounds_toArray, List.set_cons_zero, List.set_cons_succ]
      refine wpAnyH_take (i := 14) (oi := { dst := some 23, op := Op.pick (Operand.tmp 16) (Operand.tmp 22) (Operand.const (Value.bool false)), type := 4, pos := "usig.go:68", after := #[{ on := 7, ground := Ground.data }, { on := 13, ground := Ground.data }], guard := none }) (v := .bool false) rfl (by kernel_rfl) (by kernel_rfl) (by kernel_rfl) (fun _ _ _ h => h) (Or.inl ⟨by kernel_rfl, fun W hSW => by go_simp⟩) (Below.refl _ _) ?_
      try simp only [Act.put, List.setIfInBounds_toArray, List.set_cons_zero, List.set_cons_succ]
      refine wpAnyH_take (i := 15) (oi := { dst := some 8, op := Op.assign (Operand.tmp 23), type := 4, pos := "usig.go:68", after := #[{ on := 14, ground := Ground.data }, { on := 13, ground := Ground.chain }, { on := 0, ground := Ground.phase }, { on := 1, ground := Ground.phase }, { on := 2, ground := Ground.phase }, { on := 3, ground := Ground.phase }, { on := 4, ground := Ground.phase }, { on := 5, ground := Ground.phase }, { on := 6, ground := Ground.phase }, { on := 7, ground := Ground.phase }, { on := 8, ground := Ground.phase }, { on := 9, ground := Ground.phase }, { on := 10, ground := Ground.phase }, { on := 11, ground := Ground.phase }, { on := 12, ground := Ground.phase }, { on := 13, ground := Ground.phase }, { on := 14, ground := Ground.phase }], guard := none }) (v := .bool false) rfl (by kernel_rfl) (by kernel_rfl) (by kernel_rfl) (fun _ _ _ h => h) (Or.inl ⟨by kernel_rfl, fun W hSW => by go_simp⟩) (Below.refl _ _) ?_
      try simp only [Act.put, List.setIfInBounds_toArray, List.set_cons_zero, List.set_cons_succ]
      refine wpAnyH_done (by kernel_rfl) ?_ _
      go_wp2_with fail
      go_ret
      exact ⟨rfl, Lib.hid (HQ.out.2.1.trans (HBw8.out.mono HQ.out.2.1.size))⟩
    | true =>
      rw [hmay] at HM
      rw [Bool.true_and]
      have hsame : ∀ W : World, Calls Tryz.prog 58 #[.agg (u8s t).toArray, .agg (u8s (Sh.numTag i n b)).toArray] W fun E w' => E = .returned (.bool (decide (t = Sh.numTag i n b))) ∧ Below W.heap.size W w' := fun W => by
        by_cases hq : t = Sh.numTag i n b
        · rw [decide_eq_true hq]
          have := Sh.same_yes t W ht
          rw [← hq]
          exact this
        · rw [decide_eq_false hq]
          exact Sh.same_no t _ W ht hTL hq
      generalize decide (t = Sh.numTag i n b) = ans at hsame ⊢
      have HSAME := Lib.hid hsame
      have HN : Hid (∀ W : World, Below w.heap.size w W → Calls Tryz.prog 71 #[.int .i64 i, .int .u64 (n : Int), .slice A b.length c] W fun E w' => E = .returned (.agg (u8s (Sh.numTag i n b)).toArray) ∧ Below W.heap.size W w') := HN
      generalize u8s (Sh.numTag i n b) = tg at HN HSAME
      clear hrep hTL hmay hsame
      go_enter Tryz.func41, Tryz.ntmps41
      go_wp2_with fail
      try try simp only [Act.put, List.setIfInBounds_toArray, List.set_cons_zero, List.set_cons_succ]
      refine wp_region_any (by kernel_rfl) ?_
      change wpAny _ _ _ _ _ _ _ ((w.alloc (.cells (u8s t).toArray 27)).drewN 1)
      have HQ : Hid (((w.alloc (.cells (u8s t).toArray 27)).drewN 1).heap[w.heap.size]? = some (.cells (u8s t).toArray 27 (0, 0)) ∧ Below w.heap.size w ((w.alloc (.cells (u8s t).toArray 27)).drewN 1) ∧ w.heap.size < ((w.alloc (.cells (u8s t).toArray 27)).drewN 1).heap.size) := Lib.hid ⟨row_new w (u8s t) _, Sh.below_drewN ((Below.refl _ _).alloc (Nat.le_refl _) _) 1, by simp⟩
      generalize (w.alloc (.cells (u8s t).toArray 27)).drewN 1 = w7 at HQ ⊢
      refine wpAny_of_held (S := fun W => Below w7.heap.size w7 W) _ _ _ _ ?_
      refine wpAnyH_take (i := 0) (oi := { dst := some 9, op := Op.move (Operand.tmp 0), type := 3, pos := "usig.go:68", after := #[], guard := none }) (v := .int .i64 i) rfl (by kernel_rfl) (by kernel_rfl) (by kernel_rfl) (fun _ _ _ h => h) (Or.inl ⟨by kernel_rfl, fun W hSW => by go_simp⟩) (Below.refl _ _) ?_
      try simp only [Act.put, List.setIfInBounds_toArray, List.set_cons_zero, List.set_cons_succ]
      refine wpAnyH_ready (rs := [1]) (by kernel_rfl) (by simp) ?_
      refine AllReadyH.cons (o := { dst := some 10, op := Op.call { callee := Callee.value (Operand.func 69), args := #[Operand.tmp 9], argTypes := #[3] }, type := 4, pos := "usig.go:68", after := #[{ on := 0, ground := Ground.data }], guard := none }) rfl (fun K' hK' => ?_) AllReadyH.nil
      go_simp
      go_at_call 69
      refine (HI.out w7 HQ.out.2.1).mono ?_
      rintro E w8 ⟨rfl, hbw8⟩
      have HBw8 := Lib.hid hbw8
      clear hbw8
      refine hK'.out _ _ HBw8.out (fun _ => Sh.wpAnyH_next HBw8.out ?_)
      clear hK' K'
      try simp only [Act.put, List.setIfInBounds_toArray, List.set_cons_zero, List.set_cons_succ]
      refine wpAnyH_take (i := 2) (oi := { dst := some 11, op := Op.move (Operand.tmp 10), type := 4, pos := "usig.go:68", after := #[{ on := 1, ground := Ground.data }, { on := 1, ground := Ground.chain }], guard := none }) (v := .bool true) rfl (by kernel_rfl) (by kernel_rfl) (by kernel_rfl) (fun _ _ _ h => h) (Or.inl ⟨by kernel_rfl, fun W hSW => by go_simp⟩) (Below.refl _ _) ?_
      try simp only [Act.put, List.setIfInBounds_toArray, List.set_cons_zero, List.set_cons_succ]
      refine wpAnyH_take (i := 3) (oi := { dst := some 12, op := Op.move (Operand.tmp 1), type := 22, pos := "usig.go:68", after := #[{ on := 2, ground := Ground.guard }], guard := some (2, true) }) (v := .int .u64 (n : Int)) rfl (by kernel_rfl) (by kernel_rfl) (by kernel_rfl) (fun _ _ _ h => h) (Or.inl ⟨by kernel_rfl, fun W hSW => by go_simp⟩) (Below.refl _ _) ?_
      try simp only [Act.put, List.setIfInBounds_toArray, List.set_cons_zero, List.set_cons_succ]
      refine wpAnyH_take (i := 4) (oi := { dst := some 13, op := Op.move (Operand.tmp 2), type := 38, pos := "usig.go:68", after := #[{ on := 2, ground := Ground.guard }], guard := some (2, true) }) (v := .slice A b.length c) rfl (by kernel_rfl) (by kernel_rfl) (by kernel_rfl) (fun _ _ _ h => h) (Or.inl ⟨by kernel_rfl, fun W hSW => by go_simp⟩) (Below.refl _ _) ?_
      try simp only [Act.put, List.setIfInBounds_toArray, List.set_cons_zero, List.set_cons_succ]
      refine wpAnyH_ready (rs := [5]) (by kernel_rfl) (by simp) ?_
      refine AllReadyH.cons (o := { dst := some 14, op := Op.call { callee := Callee.value (Operand.func 70), args := #[Operand.tmp 12, Operand.tmp 13], argTypes := #[22, 38] }, type := 4, pos := "usig.go:68", after := #[{ on := 3, ground := Ground.data }, { on := 4, ground := Ground.data }, { on := 2, ground := Ground.chain }, { on := 2, ground := Ground.guard }], guard := some (2, true) }) rfl (fun K' hK' => ?_) AllReadyH.nil
      go_simp
      go_at_call 70
      refine (HM.out w8).mono ?_
      rintro E w9 ⟨rfl, rfl⟩
      refine hK'.out _ _ (Below.refl _ _) (fun _ => ?_)
      clear hK' K'
      try simp only [Act.put, List.setIfInBounds_toArray, List.set_cons_zero, List.set_cons_succ]
      refine wpAnyH_take (i := 6) (oi := { dst := some 15, op := Op.pick (Operand.tmp 11) (Operand.tmp 14) (Operand.const (Value.bool false)), type := 4, pos := "usig.go:68", after := #[{ on := 2, ground := Ground.data }, { on := 5, ground := Ground.data }], guard := none }) (v := .bool true) rfl (by kernel_rfl) (by kernel_rfl) (by kernel_rfl) (fun _ _ _ h => h) (Or.inl ⟨by kernel_rfl, fun W hSW => by go_simp⟩) (Below.refl _ _) ?_
      try simp only [Act.put, List.setIfInBounds_toArray, List.set_cons_zero, List.set_cons_succ]
      refine wpAnyH_take (i := 7) (oi := { dst := some 16, op := Op.move (Operand.tmp 15), type := 4, pos := "usig.go:68", after := #[{ on := 6, ground := Ground.data }, { on := 5, ground := Ground.chain }], guard := none }) (v := .bool true) rfl (by kernel_rfl) (by kernel_rfl) (by kernel_rfl) (fun _ _ _ h => h) (Or.inl ⟨by kernel_rfl, fun W hSW => by go_simp⟩) (Below.refl _ _) ?_
      try simp only [Act.put, List.setIfInBounds_toArray, List.set_cons_zero, List.set_cons_succ]
      have HB78 : Hid (Below w.heap.size w w8) := Lib.hid (HQ.out.2.1.trans (HBw8.out.mono HQ.out.2.1.size))
      refine wpAnyH_take (i := 8) (oi := { dst := some 17, op := Op.load 27 (Operand.tmp 7), type := 27, pos := "usig.go:68", after := #[{ on := 7, ground := Ground.guard }], guard := some (7, true) }) (v := .agg (u8s t).toArray) rfl (by kernel_rfl) (by kernel_rfl) (by kernel_rfl) (fun _ _ _ h => h) (Or.inl ⟨by kernel_rfl, fun W hSW => exec_load_mid 27 (.tmp 7) rfl w.heap.size 0 rfl (u8s t) _ (range_block ((hSW.block _ (Nat.lt_of_lt_of_le HQ.out.2.2 HBw8.out.size)).trans ((HBw8.out.block _ HQ.out.2.2).trans HQ.out.1)) 0 _ (fun j v hv => by rw [Nat.zero_add]; exact hv)) Tryz.underlying27 rfl HT.out⟩) (Below.refl _ _) ?_
      try simp only [Act.put, List.setIfInBounds_toArray, List.set_cons_zero, List.set_cons_succ]
      refine wpAnyH_take (i := 9) (oi := { dst := some 18, op := Op.move (Operand.tmp 0), type := 3, pos := "usig.go:68", after := #[{ on := 7, ground := Ground.guard }], guard := some (7, true) }) (v := .int .i64 i) rfl (by kernel_rfl) (by kernel_rfl) (by kernel_rfl) (fun _ _ _ h => h) (Or.inl ⟨by kernel_rfl, fun W hSW => by go_simp⟩) (Below.refl _ _) ?_
      try simp only [Act.put, List.setIfInBounds_toArray, List.set_cons_zero, List.set_cons_succ]
      refine wpAnyH_take (i := 10) (oi := { dst := some 19, op := Op.move (Operand.tmp 1), type := 22, pos := "usig.go:68", after := #[{ on := 7, ground := Ground.guard }], guard := some (7, true) }) (v := .int .u64 (n : Int)) rfl (by kernel_rfl) (by kernel_rfl) (by kernel_rfl) (fun _ _ _ h => h) (Or.inl ⟨by kernel_rfl, fun W hSW => by go_simp⟩) (Below.refl _ _) ?_
      try simp only [Act.put, List.setIfInBounds_toArray, List.set_cons_zero, List.set_cons_succ]
      refine wpAnyH_take (i := 11) (oi := { dst := some 20, op := Op.move (Operand.tmp 2), type := 38, pos := "usig.go:68", after := #[{ on := 7, ground := Ground.guard }], guard := some (7, true) }) (v := .slice A b.length c) rfl (by kernel_rfl) (by kernel_rfl) (by kernel_rfl) (fun _ _ _ h => h) (Or.inl ⟨by kernel_rfl, fun W hSW => by go_simp⟩) (Below.refl _ _) ?_
      try simp only [Act.put, List.setIfInBounds_toArray, List.set_cons_zero, List.set_cons_succ]
      refine wpAnyH_ready (rs := [12]) (by kernel_rfl) (by simp) ?_
      refine AllReadyH.cons (o := { dst := some 21, op := Op.call { callee := Callee.value (Operand.func 71), args := #[Operand.tmp 18, Operand.tmp 19, Operand.tmp 20], argTypes := #[3, 22, 38] }, type := 27, pos := "usig.go:68", after := #[{ on := 9, ground := Ground.data }, { on := 10, ground := Ground.data }, { on := 11, ground := Ground.data }, { on := 7, ground := Ground.chain }, { on := 7, ground := Ground.guard }], guard := some (7, true) }) rfl (fun K' hK' => ?_) AllReadyH.nil
      go_simp
      go_at_call 71
      refine (HN.out w8 HB78.out).mono ?_
      rintro E w10 ⟨rfl, hbw10⟩
      have HBw10 := Lib.hid hbw10
      clear hbw10
      refine hK'.out _ _ HBw10.out (fun _ => Sh.wpAnyH_next HBw10.out ?_)
      clear hK' K'
      try simp only [Act.put, List.setIfInBounds_toArray, List.set_cons_zero, List.set_cons_succ]
      refine wpAnyH_ready (rs := [13]) (by kernel_rfl) (by simp) ?_
      refine AllReadyH.cons (o := { dst := some 22, op := Op.call { callee := Callee.value (Operand.func 58), args := #[Operand.tmp 17, Operand.tmp 21], argTypes := #[27, 27] }, type := 4, pos := "usig.go:68", after := #[{ on := 8, ground := Ground.data }, { on := 12, ground := Ground.data }, { on := 12, ground := Ground.chain }, { on := 7, ground := Ground.guard }], guard := some (7, true) }) rfl (fun K' hK' => ?_) AllReadyH.nil
      go_simp
      go_at_call 58
      refine (HSAME.out w10).mono ?_
      rintro E w11 ⟨rfl, hbw11⟩
      have HBw11 := Lib.hid hbw11
      clear hbw11
      refine hK'.out _ _ HBw11.out (fun _ => Sh.wpAnyH_next HBw11.out ?_)
      clear hK' K'
      try simp only [Act.put, List.setIfInBounds_toArray, List.set_cons_zero, List.set_cons_succ]
      refine wpAnyH_take (i := 14) (oi := { dst := some 23, op := Op.pick (Operand.tmp 16) (Operand.tmp 22) (Operand.const (Value.bool false)), type := 4, pos := "usig.go:68", after := #[{ on := 7, ground := Ground.data }, { on := 13, ground := Ground.data }], guard := none }) (v := .bool ans) rfl (by kernel_rfl) (by kernel_rfl) (by kernel_rfl) (fun _ _ _ h => h) (Or.inl ⟨by kernel_rfl, fun W hSW => by go_simp⟩) (Below.refl _ _) ?_
      try simp only [Act.put, List.setIfInBounds_toArray, List.set_cons_zero, List.set_cons_succ]
      refine wpAnyH_take (i := 15) (oi := { dst := some 8, op := Op.assign (Operand.tmp 23), type := 4, pos := "usig.go:68", after := #[{ on := 14, ground := Ground.data }, { on := 13, ground := Ground.chain }, { on := 0, ground := Ground.phase }, { on := 1, ground := Ground.phase }, { on := 2, ground := Ground.phase }, { on := 3, ground := Ground.phase }, { on := 4, ground := Ground.phase }, { on := 5, ground := Ground.phase }, { on := 6, ground := Ground.phase }, { on := 7, ground := Ground.phase }, { on := 8, ground := Ground.phase }, { on := 9, ground := Ground.phase }, { on := 10, ground := Ground.phase }, { on := 11, ground := Ground.phase }, { on := 12, ground := Ground.phase }, { on := 13, ground := Ground.phase }, { on := 14, ground := Ground.phase }], guard := none }) (v := .bool ans) rfl (by kernel_rfl) (by kernel_rfl) (by kernel_rfl) (fun _ _ _ h => h) (Or.inl ⟨by kernel_rfl, fun W hSW => by go_simp⟩) (Below.refl _ _) ?_
      try simp only [Act.put, List.setIfInBounds_toArray, List.set_cons_zero, List.set_cons_succ]
      refine wpAnyH_done (by kernel_rfl) ?_ _
      go_wp2_with fail
      go_ret
      exact ⟨rfl, Lib.hid ((HB78.out.trans (HBw10.out.mono HB78.out.size)).trans (HBw11.out.mono (Nat.le_trans HB78.out.size HBw10.out.size)))⟩
end Go.Proofs.YtghjogneogkpoaaGreatDoor
