/-
  What is proved: what Format, New and Check of usig answer. Conditions as stated.
-/
import Derived.Test.YtepjfkmbmcfnoaaDoorGf
namespace Go.Proofs.YtepjfkmbmcfnoaaDoor
open Go.RowKit
set_option maxRecDepth 100000

theorem us_format_nil (at' : Int) (w : World) : Calls Tryd.prog 11 #[.pointer none, .int .i64 at'] w fun E w' => E = .returned (.int .i64 2) ∧ Hid (Below w.heap.size w w') := by
  have HF := Lib.hid (nil_format at' w)
  go_enter Tryd.func11, Tryd.ntmps11
  go_wp2_with fail
  refine HF.out.mono ?_
  rintro E w1 ⟨rfl, hb⟩
  go_wp2_with fail
  go_ret
  exact ⟨rfl, Lib.hid hb⟩

section
variable {w wr w0 w1 : World} {d T : Nat} {s s' : Dk} {L : List (Nat × Obj)} {x : Int} {a na C g u : Nat} {bs b : List UInt8} {slot e : Int}
theorem us_format (h : Dat w d T s L wr) (hc : Calm s) (hT : T < 10000000) (hx : 0 ≤ x ∧ x ≤ 32748) :
    Calls Tryd.prog 11 #[.pointer (some ⟨d, 0, none⟩), .int .i64 x] wr fun E w' => E = .returned (.int .i64 0) ∧ ∃ s', Hid (Dat w d (T + 20) s' L w' ∧ Calm s' ∧ s'.loose = [] ∧ CellIs s' x 0 2 [] 2 ∧
      ∀ y, 0 ≤ y ∧ y < 32768 → s'.read y = if x ≤ y ∧ y < x + 10 then (sect 2 [] (y - x).toNat, 0) else if x + 10 ≤ y ∧ y < x + 20 then (sect 1 [] (y - (x + 10)).toNat, 0) else s.read y) := by
  have HF := Lib.hid (cell_format h hc hT hx)
  clear h hc hT hx
  go_enter Tryd.func11, Tryd.ntmps11
  go_wp2_with fail
  refine HF.out.mono ?_
  rintro E w1 ⟨rfl, s1, H1⟩
  go_wp2_with fail
  go_ret
  exact ⟨rfl, s1, H1⟩

/-- New, over a cell that opens: the counter's own two cells are new. -/
theorem us_new (i : Int) (hi : isRep i = true) (hso : soundB bs = true) (hk : Sh.KIs w) (h0 : 0 < w.heap.size)
    (HC : Calls Tryd.prog 21 #[.pointer (some ⟨d, 0, none⟩), .int .i64 x] wr fun E w' => ∃ g, E = .returned (.tuple #[.pointer (some ⟨g, 0, none⟩), .int .i64 0]) ∧ Hid (OpAt w d T s x L g bs slot w')) :
    Calls Tryd.prog 12 #[.int .i64 i, .pointer (some ⟨d, 0, none⟩), .int .i64 x] wr fun E w' => ∃ u g, E = .returned (.tuple #[.pointer (some ⟨u, 0, none⟩), .int .i64 0]) ∧ Hid (OpAt w d T s x ((u, usOf g i) :: L) g bs slot w') := by
  have HO := Lib.hid HC
  have HK : Hid (∀ W g, OpAt w d T s x L g bs slot W → ∀ W', Below W.heap.size W W' → Calls Tryd.prog 27 #[.int .i64 i] W' fun E w' => E = .returned (.bool true) ∧ Below W'.heap.size W' w') := Lib.hid fun W g h W' hb => by
    obtain ⟨k1, k2⟩ := (h.next hb).kis hk h0
    have := isReplica_any i W' k1 k2
    rwa [hi] at this
  have HS : Hid (∀ g W, OpAt w d T s x L g bs slot W → Calls Tryd.prog 28 #[.agg #[.pointer (some ⟨g, 0, none⟩), .int .i64 i]] W fun E w' => E = .returned (.bool true) ∧ Hid (Below W.heap.size W w')) := Lib.hid fun g W h => by
    have := sound_any h i
    rwa [hso] at this
  clear HC hi hso hk
  go_enter Tryd.func12, Tryd.ntmps12
  go_wp2_with fail
  refine HO.out.mono ?_
  rintro E w1 ⟨g, rfl, O1⟩
  have O2 : Hid (OpAt w d T s x ((w1.heap.size, .cells #[.pointer (some ⟨g, 0, none⟩), .int .i64 i] 71 (0, 0)) :: L) g bs slot (w1.alloc (.cells #[.pointer (some ⟨g, 0, none⟩), .int .i64 i] 71 (0, 0)))) := Lib.hid (O1.out.lit _)
  go_wp2_with fail
  refine (HK.out _ _ (O2.out.sub fun p hp => .tail _ hp) _ (Below.refl _ _)).mono ?_
  rintro E w2 ⟨rfl, hb2⟩
  have O3 : Hid (OpAt w d T s x ((w1.heap.size, .cells #[.pointer (some ⟨g, 0, none⟩), .int .i64 i] 71 (0, 0)) :: L) g bs slot w2) := Lib.hid (O2.out.next hb2)
  have c0 : w2.cell? ⟨w1.heap.size, 0, none⟩ = some (.pointer (some ⟨g, 0, none⟩)) := block_cell (C := [.pointer (some ⟨g, 0, none⟩), .int .i64 i]) (O3.out.get (.head _)) 0 _ rfl
  have c1 : w2.cell? ⟨w1.heap.size, 1, none⟩ = some (.int .i64 i) := block_cell (C := [.pointer (some ⟨g, 0, none⟩), .int .i64 i]) (O3.out.get (.head _)) 1 _ rfl
  clear hb2 HK O2
  go_wp2_with fail
  refine (HS.out g w2 (O3.out.sub fun p hp => .tail _ hp)).mono ?_
  rintro E w3 ⟨rfl, HB3⟩
  have O4 : Hid (OpAt w d T s x ((w1.heap.size, .cells #[.pointer (some ⟨g, 0, none⟩), .int .i64 i] 71 (0, 0)) :: L) g bs slot w3) := Lib.hid (O3.out.next HB3.out)
  have c0 : w3.cell? ⟨w1.heap.size, 0, none⟩ = some (.pointer (some ⟨g, 0, none⟩)) := block_cell (C := [.pointer (some ⟨g, 0, none⟩), .int .i64 i]) (O4.out.get (.head _)) 0 _ rfl
  have c1 : w3.cell? ⟨w1.heap.size, 1, none⟩ = some (.int .i64 i) := block_cell (C := [.pointer (some ⟨g, 0, none⟩), .int .i64 i]) (O4.out.get (.head _)) 1 _ rfl
  clear HS O3
  go_wp2_with fail
  go_ret2
  exact ⟨w3.heap.size, g, rfl, Lib.hid ((O4.out.sub fun p hp => .tail _ hp).lit (usOf g i))⟩

/-- New, over a cell that does not open. -/
theorem us_new_lost (i : Int) (hi : isRep i = true) (hk : Sh.KIs w) (h0 : 0 < w.heap.size) (he : e ≠ 0)
    (HC : Calls Tryd.prog 21 #[.pointer (some ⟨d, 0, none⟩), .int .i64 x] wr fun E w' => E = .returned (.tuple #[.pointer none, .int .i64 e]) ∧ Hid (Dat w d T s L w')) :
    Calls Tryd.prog 12 #[.int .i64 i, .pointer (some ⟨d, 0, none⟩), .int .i64 x] wr fun E w' => E = .returned (.tuple #[.pointer none, .int .i64 e]) ∧ Hid (Dat w d T s L w') := by
  have HO := Lib.hid HC
  have HK : Hid (∀ W, Dat w d T s L W → ∀ W', Below W.heap.size W W' → Calls Tryd.prog 27 #[.int .i64 i] W' fun E w' => E = .returned (.bool true) ∧ Below W'.heap.size W' w') := Lib.hid fun W h W' hb => by
    obtain ⟨k1, k2⟩ := (h.next hb).kis hk h0
    have := isReplica_any i W' k1 k2
    rwa [hi] at this
  have hz0 : (e == 0) = false := by simpa using he
  clear HC hi hk he
  go_enter Tryd.func12, Tryd.ntmps12
  go_wp2_with fail
  refine HO.out.mono ?_
  rintro E w1 ⟨rfl, D1⟩
  have D2 : Hid (Dat w d T s L (w1.alloc (.cells #[.pointer none, .int .i64 i] 71 (0, 0)))) := Lib.hid (D1.out.next ((Below.refl _ _).alloc (Nat.le_refl _) _))
  go_wp2_with fail
  refine (HK.out _ D2.out _ (Below.refl _ _)).mono ?_
  rintro E w2 ⟨rfl, hb2⟩
  go_wp2_with fail
  go_ret2
  exact ⟨rfl, Lib.hid (D2.out.next hb2)⟩
end
theorem us_new_nil (i x : Int) (w : World) : Calls Tryd.prog 12 #[.int .i64 i, .pointer none, .int .i64 x] w fun E w' => E = .returned (.tuple #[.pointer none, .int .i64 2]) ∧ Hid (Below w.heap.size w w') := by
  have HO := Lib.hid (nil_open x w)
  go_enter Tryd.func12, Tryd.ntmps12
  go_wp2_with fail
  refine HO.out.mono ?_
  rintro E w1 ⟨rfl, hb1⟩
  have HB := Lib.hid hb1
  clear hb1
  go_wp2_with fail
  go_ret2
  exact ⟨rfl, Lib.hid (HB.out.alloc HB.out.size _)⟩

theorem exec_load_mid {P : Program} {o : Oper} {f : Operand → Value} {w : World} (ty : TypeId) (x : Operand) (ho : o.op = .load ty x) (b off : Nat) (hx : f x = .pointer (some ⟨b, off, none⟩)) (cs : List Value) (d : TypeDesc)
    (hc : w.rangeAt b off cs) (hu : P.underlying ty = some d) (hd : d.isRow = true) (hi : (P.info? ty).map (·.size) = some cs.length) : (execOp f o).run P w = .ok (.value (.agg cs.toArray)) w := by
  unfold execOp
  simp only [ho, hx, Instr.loadAt, Instr.sureAddr, Sem.run_bind, Sem.run_pure, Result.andThen_ok, run_loadVar_mid w b off ty cs d hc hu hd hi]

/-- What Check tells. -/
def chk (i : Int) (n : Nat) (b t : List UInt8) : Bool := isRep i && mayN n b.length && decide (t = Sh.numTag i n b)
set_option maxHeartbeats 2000000 in
theorem check_us (i : Int) (n : Nat) {A : Option Addr} {c : Nat} {b t : List UInt8} {w : World} (hr : Oct.Rd w A b.length b) (hs : Oct.Sl A b.length c) (hL : b.length < 1000000000000) (ht : t.length = 32) (hk : Sh.KIs w) (h0 : 0 < w.heap.size) :
    Calls Tryd.prog 14 #[.int .i64 i, .int .u64 (n : Int), .slice A b.length c, tagV t] w fun E w' => E = .returned (.bool (chk i n b t)) ∧ Hid (Below w.heap.size w w') := by
  have HI := Lib.hid (fun W (hb : Below w.heap.size w W) => isReplica_any i W (hk.below hb h0) (Nat.lt_of_lt_of_le h0 hb.size))
  have HM := Lib.hid (fun W => mayBe_any n b.length c A W)
  have HN := Lib.hid (fun W (hb : Below w.heap.size w W) => Sh.numbered_any i n b A b.length c W (rd_sh (hr.below hb)) hs hL (hk.below hb h0) (Nat.lt_of_lt_of_le h0 hb.size))
  have HT : Hid ((Tryd.prog.info? 36).map (·.size) = some (u8s t).length) := Lib.hid (tag_info ht)
  have hTL := Sh.numTag_length i n b
  unfold tagV chk
  clear hr hs hL hk
  cases hrep : isRep i with
  | false =>
    rw [hrep] at HI
    rw [Bool.false_and, Bool.false_and]
    generalize Sh.numTag i n b = tg at *
    clear hrep hTL HN HM HT
    go_enter Tryd.func14, Tryd.ntmps14
    go_wp2_with fail
    try try simp only [Act.put, List.setIfInBounds_toArray, List.set_cons_zero, List.set_cons_succ]
    refine wp_region_any (by kernel_rfl) ?_
    change wpAny _ _ _ _ _ _ _ ((w.alloc (.cells (u8s t).toArray 36)).drewN 1)
    have HQ : Hid (((w.alloc (.cells (u8s t).toArray 36)).drewN 1).heap[w.heap.size]? = some (.cells (u8s t).toArray 36 (0, 0)) ∧ Below w.heap.size w ((w.alloc (.cells (u8s t).toArray 36)).drewN 1) ∧ w.heap.size < ((w.alloc (.cells (u8s t).toArray 36)).drewN 1).heap.size) := Lib.hid ⟨row_new w (u8s t) _, Sh.below_drewN ((Below.refl _ _).alloc (Nat.le_refl _) _) 1, by simp⟩
    generalize (w.alloc (.cells (u8s t).toArray 36)).drewN 1 = w7 at HQ ⊢
    refine wpAny_of_held (S := fun W => Below w7.heap.size w7 W) _ _ _ _ ?_
    refine wpAnyH_take (i := 0) (oi := { dst := some 9, op := Op.move (Operand.tmp 0), type := 3, pos := "usig.go:68", after := #[], guard := none }) (v := .int .i64 i) rfl (by kernel_rfl) (by kernel_rfl) (by kernel_rfl) (fun _ _ _ h => h) (Or.inl ⟨by kernel_rfl, fun W hSW => by go_simp⟩) (Below.refl _ _) ?_
    try simp only [Act.put, List.setIfInBounds_toArray, List.set_cons_zero, List.set_cons_succ]
    refine wpAnyH_ready (rs := [1]) (by kernel_rfl) (by simp) ?_
    refine AllReadyH.cons (o := { dst := some 10, op := Op.call { callee := Callee.value (Operand.func 27), args := #[Operand.tmp 9], argTypes := #[3] }, type := 4, pos := "usig.go:68", after := #[{ on := 0, ground := Ground.data }], guard := none }) rfl (fun K' hK' => ?_) AllReadyH.nil
    go_simp
    go_at_call 27
    refine (HI.out w7 HQ.out.2.1).mono ?_
    rintro E w8 ⟨rfl, hbw8⟩
    have HBw8 := Lib.hid hbw8
    clear hbw8
    refine hK'.out _ _ HBw8.out (fun _ => wpAnyH_next HBw8.out ?_)
    clear hK' K'
    try simp only [Act.put, List.setIfInBounds_toArray, List.set_cons_zero, List.set_cons_succ]
    refine wpAnyH_take (i := 2) (oi := { dst := some 11, op := Op.move (Operand.tmp 10), type := 4, pos := "usig.go:68", after := #[{ on := 1, ground := Ground.data }, { on := 1, ground := Ground.chain }], guard := none }) (v := .bool false) rfl (by kernel_rfl) (by kernel_rfl) (by kernel_rfl) (fun _ _ _ h => h) (Or.inl ⟨by kernel_rfl, fun W hSW => by go_simp⟩) (Below.refl _ _) ?_
    try simp only [Act.put, List.setIfInBounds_toArray, List.set_cons_zero, List.set_cons_succ]
    refine wpAnyH_take (i := 3) (oi := { dst := some 12, op := Op.move (Operand.tmp 1), type := 35, pos := "usig.go:68", after := #[{ on := 2, ground := Ground.guard }], guard := some (2, true) }) (v := undef) rfl (by kernel_rfl) (by kernel_rfl) (by kernel_rfl) (fun _ _ _ h => h) (Or.inr ⟨by kernel_rfl, rfl⟩) (Below.refl _ _) ?_
    try simp only [Act.put, List.setIfInBounds_toArray, List.set_cons_zero, List.set_cons_succ]
    refine wpAnyH_take (i := 4) (oi := { dst := some 13, op := Op.move (Operand.tmp 2), type := 29, pos := "usig.go:68", after := #[{ on := 2, ground := Ground.guard }], guard := some (2, true) }) (v := undef) rfl (by kernel_rfl) (by kernel_rfl) (by kernel_rfl) (fun _ _ _ h => h) (Or.inr ⟨by kernel_rfl, rfl⟩) (Below.refl _ _) ?_
    try simp only [Act.put, List.setIfInBounds_toArray, List.set_cons_zero, List.set_cons_succ]
    refine wpAnyH_take (i := 5) (oi := { dst := some 14, op := Op.call { callee := Callee.value (Operand.func 31), args := #[Operand.tmp 12, Operand.tmp 13], argTypes := #[35, 29] }, type := 4, pos := "usig.go:68", after := #[{ on := 3, ground := Ground.data }, { on := 4, ground := Ground.data }, { on := 2, ground := Ground.chain }, { on := 2, ground := Ground.guard }], guard := some (2, true) }) (v := undef) rfl (by kernel_rfl) (by kernel_rfl) (by kernel_rfl) (fun _ _ _ h => h) (Or.inr ⟨by kernel_rfl, rfl⟩) (Below.refl _ _) ?_
    try simp only [Act.put, List.setIfInBounds_toArray, List.set_cons_zero, List.set_cons_succ]
    refine wpAnyH_take (i := 6) (oi := { dst := some 15, op := Op.pick (Operand.tmp 11) (Operand.tmp 14) (Operand.const (Value.bool false)), type := 4, pos := "usig.go:68", after := #[{ on := 2, ground := Ground.data }, { on := 5, ground := Ground.data }], guard := none }) (v := .bool false) rfl (by kernel_rfl) (by kernel_rfl) (by kernel_rfl) (fun _ _ _ h => h) (Or.inl ⟨by kernel_rfl, fun W hSW => by go_simp⟩) (Below.refl _ _) ?_
    try simp only [Act.put, List.setIfInBounds_toArray, List.set_cons_zero, List.set_cons_succ]
    refine wpAnyH_take (i := 7) (oi := { dst := some 16, op := Op.move (Operand.tmp 15), type := 4, pos := "usig.go:68", after := #[{ on := 6, ground := Ground.data }, { on := 5, ground := Ground.chain }], guard := none }) (v := .bool false) rfl (by kernel_rfl) (by kernel_rfl) (by kernel_rfl) (fun _ _ _ h => h) (Or.inl ⟨by kernel_rfl, fun W hSW => by go_simp⟩) (Below.refl _ _) ?_
    try simp only [Act.put, List.setIfInBounds_toArray, List.set_cons_zero, List.set_cons_succ]
    refine wpAnyH_take (i := 8) (oi := { dst := some 17, op := Op.load 36 (Operand.tmp 7), type := 36, pos := "usig.go:68", after := #[{ on := 7, ground := Ground.guard }], guard := some (7, true) }) (v := undef) rfl (by kernel_rfl) (by kernel_rfl) (by kernel_rfl) (fun _ _ _ h => h) (Or.inr ⟨by kernel_rfl, rfl⟩) (Below.refl _ _) ?_
    try simp only [Act.put, List.setIfInBounds_toArray, List.set_cons_zero, List.set_cons_succ]
    refine wpAnyH_take (i := 9) (oi := { dst := some 18, op := Op.move (Operand.tmp 0), type := 3, pos := "usig.go:68", after := #[{ on := 7, ground := Ground.guard }], guard := some (7, true) }) (v := undef) rfl (by kernel_rfl) (by kernel_rfl) (by kernel_rfl) (fun _ _ _ h => h) (Or.inr ⟨by kernel_rfl, rfl⟩) (Below.refl _ _) ?_
    try simp only [Act.put, List.setIfInBounds_toArray, List.set_cons_zero, List.set_cons_succ]
    refine wpAnyH_take (i := 10) (oi := { dst := some 19, op := Op.move (Operand.tmp 1), type := 35, pos := "usig.go:68", after := #[{ on := 7, ground := Ground.guard }], guard := some (7, true) }) (v := undef) rfl (by kernel_rfl) (by kernel_rfl) (by kernel_rfl) (fun _ _ _ h => h) (Or.inr ⟨by kernel_rfl, rfl⟩) (Below.refl _ _) ?_
    try simp only [Act.put, List.setIfInBounds_toArray, List.set_cons_zero, List.set_cons_succ]
    refine wpAnyH_take (i := 11) (oi := { dst := some 20, op := Op.move (Operand.tmp 2), type := 29, pos := "usig.go:68", after := #[{ on := 7, ground := Ground.guard }], guard := some (7, true) }) (v := undef) rfl (by kernel_rfl) (by kernel_rfl) (by kernel_rfl) (fun _ _ _ h => h) (Or.inr ⟨by kernel_rfl, rfl⟩) (Below.refl _ _) ?_
    try simp only [Act.put, List.setIfInBounds_toArray, List.set_cons_zero, List.set_cons_succ]
    refine wpAnyH_take (i := 12) (oi := { dst := some 21, op := Op.call { callee := Callee.value (Operand.func 33), args := #[Operand.tmp 18, Operand.tmp 19, Operand.tmp 20], argTypes := #[3, 35, 29] }, type := 36, pos := "usig.go:68", after := #[{ on := 9, ground := Ground.data }, { on := 10, ground := Ground.data }, { on := 11, ground := Ground.data }, { on := 7, ground := Ground.chain }, { on := 7, ground := Ground.guard }], guard := some (7, true) }) (v := undef) rfl (by kernel_rfl) (by kernel_rfl) (by kernel_rfl) (fun _ _ _ h => h) (Or.inr ⟨by kernel_rfl, rfl⟩) (Below.refl _ _) ?_
    try simp only [Act.put, List.setIfInBounds_toArray, List.set_cons_zero, List.set_cons_succ]
    refine wpAnyH_take (i := 13) (oi := { dst := some 22, op := Op.call { callee := Callee.value (Operand.func 32), args := #[Operand.tmp 17, Operand.tmp 21], argTypes := #[36, 36] }, type := 4, pos := "usig.go:68", after := #[{ on := 8, ground := Ground.data }, { on := 12, ground := Ground.data }, { on := 12, ground := Ground.chain }, { on := 7, ground := Ground.guard }], guard := some (7, true) }) (v := undef) rfl (by kernel_rfl) (by kernel_rfl) (by kernel_rfl) (fun _ _ _ h => h) (Or.inr ⟨by kernel_rfl, rfl⟩) (Below.refl _ _) ?_
    try simp only [Act.put, List.setIfInBounds_toArray, List.set_cons_zero, List.set_cons_succ]
    refine wpAnyH_take (i := 14) (oi := { dst := some 23, op := Op.pick (Operand.tmp 16) (Operand.tmp 22) (Operand.const (Value.bool false)), type := 4, pos := "usig.go:68", after := #[{ on := 7, ground := Ground.data }, { on := 13, ground := Ground.data }], guard := none }) (v := .bool false) rfl (by kernel_rfl) (by kernel_rfl) (by kernel_rfl) (fun _ _ _ h => h) (Or.inl ⟨by kernel_rfl, fun W hSW => by go_simp⟩) (Below.refl _ _) ?_
    try simp only [Act.put, List.setIfInBounds_toArray, List.set_cons_zero, List.set_cons_succ]
    refine wpAnyH_take (i := 15) (oi := { dst := some 8, op := Op.assign (Operand.tmp 23), type := 4, pos := "usig.go:68", after := #[{ on := 14, ground := Ground.data }, { on := 13, ground := Ground.chain }, { on := 0, ground := Ground.phase }, { on := 1, ground := Ground.phase }, { on := 2, ground := Ground.phase }, { on := 3, ground := Ground.phase }, { on := 4, ground := Ground.phase }, { on := 5, ground := Ground.phase }, { on := 6, ground := Ground.phase }, { on := 7, ground := Ground.phase }, { on := 8, ground := Ground.phase }, { on := 9, ground := Ground.phase }, { on := 10, ground := Ground.phase }, { on := 11, ground := Ground.phase }, { on := 12, ground := Ground.phase }, { on := 13, ground := Ground.phase }, { on := 14, ground := Ground.phase }], guard := none }) (v := .bool false) rfl (by kernel_rfl) (by kernel_rfl) (by kernel_rfl) (fun _ _ _ h => h) (Or.inl ⟨by kernel_rfl, fun W hSW => by go_simp⟩) (Below.refl _ _) ?_
    try simp only [Act.put, List.setIfInBounds_toArray, List.set_cons_zero, List.set_cons_succ]
    refine wpAnyH_done (by kernel_rfl) ?_ _
    go_wp2_with fail
    go_ret
    exact ⟨rfl, Lib.hid (HQ.out.2.1.trans (HBw8.out.mono HQ.out.2.1.size))⟩
  | true =>
    rw [hrep] at HI
    rw [Bool.true_and]
    cases hmay : mayN n b.length with
    | false =>
      rw [hmay] at HM
      rw [Bool.false_and]
      generalize Sh.numTag i n b = tg at *
      clear hrep hTL HN HT hmay
      go_enter Tryd.func14, Tryd.ntmps14
      go_wp2_with fail
      try try simp only [Act.put, List.setIfInBounds_toArray, List.set_cons_zero, List.set_cons_succ]
      refine wp_region_any (by kernel_rfl) ?_
      change wpAny _ _ _ _ _ _ _ ((w.alloc (.cells (u8s t).toArray 36)).drewN 1)
      have HQ : Hid (((w.alloc (.cells (u8s t).toArray 36)).drewN 1).heap[w.heap.size]? = some (.cells (u8s t).toArray 36 (0, 0)) ∧ Below w.heap.size w ((w.alloc (.cells (u8s t).toArray 36)).drewN 1) ∧ w.heap.size < ((w.alloc (.cells (u8s t).toArray 36)).drewN 1).heap.size) := Lib.hid ⟨row_new w (u8s t) _, Sh.below_drewN ((Below.refl _ _).alloc (Nat.le_refl _) _) 1, by simp⟩
      generalize (w.alloc (.cells (u8s t).toArray 36)).drewN 1 = w7 at HQ ⊢
      refine wpAny_of_held (S := fun W => Below w7.heap.size w7 W) _ _ _ _ ?_
      refine wpAnyH_take (i := 0) (oi := { dst := some 9, op := Op.move (Operand.tmp 0), type := 3, pos := "usig.go:68", after := #[], guard := none }) (v := .int .i64 i) rfl (by kernel_rfl) (by kernel_rfl) (by kernel_rfl) (fun _ _ _ h => h) (Or.inl ⟨by kernel_rfl, fun W hSW => by go_simp⟩) (Below.refl _ _) ?_
      try simp only [Act.put, List.setIfInBounds_toArray, List.set_cons_zero, List.set_cons_succ]
      refine wpAnyH_ready (rs := [1]) (by kernel_rfl) (by simp) ?_
      refine AllReadyH.cons (o := { dst := some 10, op := Op.call { callee := Callee.value (Operand.func 27), args := #[Operand.tmp 9], argTypes := #[3] }, type := 4, pos := "usig.go:68", after := #[{ on := 0, ground := Ground.data }], guard := none }) rfl (fun K' hK' => ?_) AllReadyH.nil
      go_simp
      go_at_call 27
      refine (HI.out w7 HQ.out.2.1).mono ?_
      rintro E w8 ⟨rfl, hbw8⟩
      have HBw8 := Lib.hid hbw8
      clear hbw8
      refine hK'.out _ _ HBw8.out (fun _ => wpAnyH_next HBw8.out ?_)
      clear hK' K'
      try simp only [Act.put, List.setIfInBounds_toArray, List.set_cons_zero, List.set_cons_succ]
      refine wpAnyH_take (i := 2) (oi := { dst := some 11, op := Op.move (Operand.tmp 10), type := 4, pos := "usig.go:68", after := #[{ on := 1, ground := Ground.data }, { on := 1, ground := Ground.chain }], guard := none }) (v := .bool true) rfl (by kernel_rfl) (by kernel_rfl) (by kernel_rfl) (fun _ _ _ h => h) (Or.inl ⟨by kernel_rfl, fun W hSW => by go_simp⟩) (Below.refl _ _) ?_
      try simp only [Act.put, List.setIfInBounds_toArray, List.set_cons_zero, List.set_cons_succ]
      refine wpAnyH_take (i := 3) (oi := { dst := some 12, op := Op.move (Operand.tmp 1), type := 35, pos := "usig.go:68", after := #[{ on := 2, ground := Ground.guard }], guard := some (2, true) }) (v := .int .u64 (n : Int)) rfl (by kernel_rfl) (by kernel_rfl) (by kernel_rfl) (fun _ _ _ h => h) (Or.inl ⟨by kernel_rfl, fun W hSW => by go_simp⟩) (Below.refl _ _) ?_
      try simp only [Act.put, List.setIfInBounds_toArray, List.set_cons_zero, List.set_cons_succ]
      refine wpAnyH_take (i := 4) (oi := { dst := some 13, op := Op.move (Operand.tmp 2), type := 29, pos := "usig.go:68", after := #[{ on := 2, ground := Ground.guard }], guard := some (2, true) }) (v := .slice A b.length c) rfl (by kernel_rfl) (by kernel_rfl) (by kernel_rfl) (fun _ _ _ h => h) (Or.inl ⟨by kernel_rfl, fun W hSW => by go_simp⟩) (Below.refl _ _) ?_
      try simp only [Act.put, List.setIfInBounds_toArray, List.set_cons_zero, List.set_cons_succ]
      refine wpAnyH_ready (rs := [5]) (by kernel_rfl) (by simp) ?_
      refine AllReadyH.cons (o := { dst := some 14, op := Op.call { callee := Callee.value (Operand.func 31), args := #[Operand.tmp 12, Operand.tmp 13], argTypes := #[35, 29] }, type := 4, pos := "usig.go:68", after := #[{ on := 3, ground := Ground.data }, { on := 4, ground := Ground.data }, { on := 2, ground := Ground.chain }, { on := 2, ground := Ground.guard }], guard := some (2, true) }) rfl (fun K' hK' => ?_) AllReadyH.nil
      go_simp
      go_at_call 31
      refine (HM.out w8).mono ?_
      rintro E w9 ⟨rfl, rfl⟩
      refine hK'.out _ _ (Below.refl _ _) (fun _ => ?_)
      clear hK' K'
      try simp only [Act.put, List.setIfInBounds_toArray, List.set_cons_zero, List.set_cons_succ]
      refine wpAnyH_take (i := 6) (oi := { dst := some 15, op := Op.pick (Operand.tmp 11) (Operand.tmp 14) (Operand.const (Value.bool false)), type := 4, pos := "usig.go:68", after := #[{ on := 2, ground := Ground.data }, { on := 5, ground := Ground.data }], guard := none }) (v := .bool false) rfl (by kernel_rfl) (by kernel_rfl) (by kernel_rfl) (fun _ _ _ h => h) (Or.inl ⟨by kernel_rfl, fun W hSW => by go_simp⟩) (Below.refl _ _) ?_
      try simp only [Act.put, List.setIfInBounds_toArray, List.set_cons_zero, List.set_cons_succ]
      refine wpAnyH_take (i := 7) (oi := { dst := some 16, op := Op.move (Operand.tmp 15), type := 4, pos := "usig.go:68", after := #[{ on := 6, ground := Ground.data }, { on := 5, ground := Ground.chain }], guard := none }) (v := .bool false) rfl (by kernel_rfl) (by kernel_rfl) (by kernel_rfl) (fun _ _ _ h => h) (Or.inl ⟨by kernel_rfl, fun W hSW => by go_simp⟩) (Below.refl _ _) ?_
      try simp only [Act.put, List.setIfInBounds_toArray, List.set_cons_zero, List.set_cons_succ]
      refine wpAnyH_take (i := 8) (oi := { dst := some 17, op := Op.load 36 (Operand.tmp 7), type := 36, pos := "usig.go:68", after := #[{ on := 7, ground := Ground.guard }], guard := some (7, true) }) (v := undef) rfl (by kernel_rfl) (by kernel_rfl) (by kernel_rfl) (fun _ _ _ h => h) (Or.inr ⟨by kernel_rfl, rfl⟩) (Below.refl _ _) ?_
      try simp only [Act.put, List.setIfInBounds_toArray, List.set_cons_zero, List.set_cons_succ]
      refine wpAnyH_take (i := 9) (oi := { dst := some 18, op := Op.move (Operand.tmp 0), type := 3, pos := "usig.go:68", after := #[{ on := 7, ground := Ground.guard }], guard := some (7, true) }) (v := undef) rfl (by kernel_rfl) (by kernel_rfl) (by kernel_rfl) (fun _ _ _ h => h) (Or.inr ⟨by kernel_rfl, rfl⟩) (Below.refl _ _) ?_
      try simp only [Act.put, List.setIfInBounds_toArray, List.set_cons_zero, List.set_cons_succ]
      refine wpAnyH_take (i := 10) (oi := { dst := some 19, op := Op.move (Operand.tmp 1), type := 35, pos := "usig.go:68", after := #[{ on := 7, ground := Ground.guard }], guard := some (7, true) }) (v := undef) rfl (by kernel_rfl) (by kernel_rfl) (by kernel_rfl) (fun _ _ _ h => h) (Or.inr ⟨by kernel_rfl, rfl⟩) (Below.refl _ _) ?_
      try simp only [Act.put, List.setIfInBounds_toArray, List.set_cons_zero, List.set_cons_succ]
      refine wpAnyH_take (i := 11) (oi := { dst := some 20, op := Op.move (Operand.tmp 2), type := 29, pos := "usig.go:68", after := #[{ on := 7, ground := Ground.guard }], guard := some (7, true) }) (v := undef) rfl (by kernel_rfl) (by kernel_rfl) (by kernel_rfl) (fun _ _ _ h => h) (Or.inr ⟨by kernel_rfl, rfl⟩) (Below.refl _ _) ?_
      try simp only [Act.put, List.setIfInBounds_toArray, List.set_cons_zero, List.set_cons_succ]
      refine wpAnyH_take (i := 12) (oi := { dst := some 21, op := Op.call { callee := Callee.value (Operand.func 33), args := #[Operand.tmp 18, Operand.tmp 19, Operand.tmp 20], argTypes := #[3, 35, 29] }, type := 36, pos := "usig.go:68", after := #[{ on := 9, ground := Ground.data }, { on := 10, ground := Ground.data }, { on := 11, ground := Ground.data }, { on := 7, ground := Ground.chain }, { on := 7, ground := Ground.guard }], guard := some (7, true) }) (v := undef) rfl (by kernel_rfl) (by kernel_rfl) (by kernel_rfl) (fun _ _ _ h => h) (Or.inr ⟨by kernel_rfl, rfl⟩) (Below.refl _ _) ?_
      try simp only [Act.put, List.setIfInBounds_toArray, List.set_cons_zero, List.set_cons_succ]
      refine wpAnyH_take (i := 13) (oi := { dst := some 22, op := Op.call { callee := Callee.value (Operand.func 32), args := #[Operand.tmp 17, Operand.tmp 21], argTypes := #[36, 36] }, type := 4, pos := "usig.go:68", after := #[{ on := 8, ground := Ground.data }, { on := 12, ground := Ground.data }, { on := 12, ground := Ground.chain }, { on := 7, ground := Ground.guard }], guard := some (7, true) }) (v := undef) rfl (by kernel_rfl) (by kernel_rfl) (by kernel_rfl) (fun _ _ _ h => h) (Or.inr ⟨by kernel_rfl, rfl⟩) (Below.refl _ _) ?_
      try simp only [Act.put, List.setIfInBounds_toArray, List.set_cons_zero, List.set_cons_succ]
      refine wpAnyH_take (i := 14) (oi := { dst := some 23, op := Op.pick (Operand.tmp 16) (Operand.tmp 22) (Operand.const (Value.bool false)), type := 4, pos := "usig.go:68", after := #[{ on := 7, ground := Ground.data }, { on := 13, ground := Ground.data }], guard := none }) (v := .bool false) rfl (by kernel_rfl) (by kernel_rfl) (by kernel_rfl) (fun _ _ _ h => h) (Or.inl ⟨by kernel_rfl, fun W hSW => by go_simp⟩) (Below.refl _ _) ?_
      try simp only [Act.put, List.setIfInBounds_toArray, List.set_cons_zero, List.set_cons_succ]
      refine wpAnyH_take (i := 15) (oi := { dst := some 8, op := Op.assign (Operand.tmp 23), type := 4, pos := "usig.go:68", after := #[{ on := 14, ground := Ground.data }, { on := 13, ground := Ground.chain }, { on := 0, ground := Ground.phase }, { on := 1, ground := Ground.phase }, { on := 2, ground := Ground.phase }, { on := 3, ground := Ground.phase }, { on := 4, ground := Ground.phase }, { on := 5, ground := Ground.phase }, { on := 6, ground := Ground.phase }, { on := 7, ground := Ground.phase }, { on := 8, ground := Ground.phase }, { on := 9, ground := Ground.phase }, { on := 10, ground := Ground.phase }, { on := 11, ground := Ground.phase }, { on := 12, ground := Ground.phase }, { on := 13, ground := Ground.phase }, { on := 14, ground := Ground.phase }], guard := none }) (v := .bool false) rfl (by kernel_rfl) (by kernel_rfl) (by kernel_rfl) (fun _ _ _ h => h) (Or.inl ⟨by kernel_rfl, fun W hSW => by go_simp⟩) (Below.refl _ _) ?_
      try simp only [Act.put, List.setIfInBounds_toArray, List.set_cons_zero, List.set_cons_succ]
      refine wpAnyH_done (by kernel_rfl) ?_ _
      go_wp2_with fail
      go_ret
      exact ⟨rfl, Lib.hid (HQ.out.2.1.trans (HBw8.out.mono HQ.out.2.1.size))⟩
    | true =>
      rw [hmay] at HM
      rw [Bool.true_and]
      have hsame : ∀ W : World, Calls Tryd.prog 32 #[.agg (u8s t).toArray, .agg (u8s (Sh.numTag i n b)).toArray] W fun E w' => E = .returned (.bool (decide (t = Sh.numTag i n b))) ∧ Below W.heap.size W w' := fun W => by
        by_cases hq : t = Sh.numTag i n b
        · rw [decide_eq_true hq]
          have := Sh.same_yes t W ht
          rw [← hq]
          exact this
        · rw [decide_eq_false hq]
          exact Sh.same_no t _ W ht hTL hq
      generalize decide (t = Sh.numTag i n b) = ans at hsame ⊢
      have HSAME := Lib.hid hsame
      have HN : Hid (∀ W : World, Below w.heap.size w W → Calls Tryd.prog 33 #[.int .i64 i, .int .u64 (n : Int), .slice A b.length c] W fun E w' => E = .returned (.agg (u8s (Sh.numTag i n b)).toArray) ∧ Below W.heap.size W w') := HN
      generalize u8s (Sh.numTag i n b) = tg at HN HSAME
      clear hrep hTL hmay hsame
      go_enter Tryd.func14, Tryd.ntmps14
      go_wp2_with fail
      try try simp only [Act.put, List.setIfInBounds_toArray, List.set_cons_zero, List.set_cons_succ]
      refine wp_region_any (by kernel_rfl) ?_
      change wpAny _ _ _ _ _ _ _ ((w.alloc (.cells (u8s t).toArray 36)).drewN 1)
      have HQ : Hid (((w.alloc (.cells (u8s t).toArray 36)).drewN 1).heap[w.heap.size]? = some (.cells (u8s t).toArray 36 (0, 0)) ∧ Below w.heap.size w ((w.alloc (.cells (u8s t).toArray 36)).drewN 1) ∧ w.heap.size < ((w.alloc (.cells (u8s t).toArray 36)).drewN 1).heap.size) := Lib.hid ⟨row_new w (u8s t) _, Sh.below_drewN ((Below.refl _ _).alloc (Nat.le_refl _) _) 1, by simp⟩
      generalize (w.alloc (.cells (u8s t).toArray 36)).drewN 1 = w7 at HQ ⊢
      refine wpAny_of_held (S := fun W => Below w7.heap.size w7 W) _ _ _ _ ?_
      refine wpAnyH_take (i := 0) (oi := { dst := some 9, op := Op.move (Operand.tmp 0), type := 3, pos := "usig.go:68", after := #[], guard := none }) (v := .int .i64 i) rfl (by kernel_rfl) (by kernel_rfl) (by kernel_rfl) (fun _ _ _ h => h) (Or.inl ⟨by kernel_rfl, fun W hSW => by go_simp⟩) (Below.refl _ _) ?_
      try simp only [Act.put, List.setIfInBounds_toArray, List.set_cons_zero, List.set_cons_succ]
      refine wpAnyH_ready (rs := [1]) (by kernel_rfl) (by simp) ?_
      refine AllReadyH.cons (o := { dst := some 10, op := Op.call { callee := Callee.value (Operand.func 27), args := #[Operand.tmp 9], argTypes := #[3] }, type := 4, pos := "usig.go:68", after := #[{ on := 0, ground := Ground.data }], guard := none }) rfl (fun K' hK' => ?_) AllReadyH.nil
      go_simp
      go_at_call 27
      refine (HI.out w7 HQ.out.2.1).mono ?_
      rintro E w8 ⟨rfl, hbw8⟩
      have HBw8 := Lib.hid hbw8
      clear hbw8
      refine hK'.out _ _ HBw8.out (fun _ => wpAnyH_next HBw8.out ?_)
      clear hK' K'
      try simp only [Act.put, List.setIfInBounds_toArray, List.set_cons_zero, List.set_cons_succ]
      refine wpAnyH_take (i := 2) (oi := { dst := some 11, op := Op.move (Operand.tmp 10), type := 4, pos := "usig.go:68", after := #[{ on := 1, ground := Ground.data }, { on := 1, ground := Ground.chain }], guard := none }) (v := .bool true) rfl (by kernel_rfl) (by kernel_rfl) (by kernel_rfl) (fun _ _ _ h => h) (Or.inl ⟨by kernel_rfl, fun W hSW => by go_simp⟩) (Below.refl _ _) ?_
      try simp only [Act.put, List.setIfInBounds_toArray, List.set_cons_zero, List.set_cons_succ]
      refine wpAnyH_take (i := 3) (oi := { dst := some 12, op := Op.move (Operand.tmp 1), type := 35, pos := "usig.go:68", after := #[{ on := 2, ground := Ground.guard }], guard := some (2, true) }) (v := .int .u64 (n : Int)) rfl (by kernel_rfl) (by kernel_rfl) (by kernel_rfl) (fun _ _ _ h => h) (Or.inl ⟨by kernel_rfl, fun W hSW => by go_simp⟩) (Below.refl _ _) ?_
      try simp only [Act.put, List.setIfInBounds_toArray, List.set_cons_zero, List.set_cons_succ]
      refine wpAnyH_take (i := 4) (oi := { dst := some 13, op := Op.move (Operand.tmp 2), type := 29, pos := "usig.go:68", after := #[{ on := 2, ground := Ground.guard }], guard := some (2, true) }) (v := .slice A b.length c) rfl (by kernel_rfl) (by kernel_rfl) (by kernel_rfl) (fun _ _ _ h => h) (Or.inl ⟨by kernel_rfl, fun W hSW => by go_simp⟩) (Below.refl _ _) ?_
      try simp only [Act.put, List.setIfInBounds_toArray, List.set_cons_zero, List.set_cons_succ]
      refine wpAnyH_ready (rs := [5]) (by kernel_rfl) (by simp) ?_
      refine AllReadyH.cons (o := { dst := some 14, op := Op.call { callee := Callee.value (Operand.func 31), args := #[Operand.tmp 12, Operand.tmp 13], argTypes := #[35, 29] }, type := 4, pos := "usig.go:68", after := #[{ on := 3, ground := Ground.data }, { on := 4, ground := Ground.data }, { on := 2, ground := Ground.chain }, { on := 2, ground := Ground.guard }], guard := some (2, true) }) rfl (fun K' hK' => ?_) AllReadyH.nil
      go_simp
      go_at_call 31
      refine (HM.out w8).mono ?_
      rintro E w9 ⟨rfl, rfl⟩
      refine hK'.out _ _ (Below.refl _ _) (fun _ => ?_)
      clear hK' K'
      try simp only [Act.put, List.setIfInBounds_toArray, List.set_cons_zero, List.set_cons_succ]
      refine wpAnyH_take (i := 6) (oi := { dst := some 15, op := Op.pick (Operand.tmp 11) (Operand.tmp 14) (Operand.const (Value.bool false)), type := 4, pos := "usig.go:68", after := #[{ on := 2, ground := Ground.data }, { on := 5, ground := Ground.data }], guard := none }) (v := .bool true) rfl (by kernel_rfl) (by kernel_rfl) (by kernel_rfl) (fun _ _ _ h => h) (Or.inl ⟨by kernel_rfl, fun W hSW => by go_simp⟩) (Below.refl _ _) ?_
      try simp only [Act.put, List.setIfInBounds_toArray, List.set_cons_zero, List.set_cons_succ]
      refine wpAnyH_take (i := 7) (oi := { dst := some 16, op := Op.move (Operand.tmp 15), type := 4, pos := "usig.go:68", after := #[{ on := 6, ground := Ground.data }, { on := 5, ground := Ground.chain }], guard := none }) (v := .bool true) rfl (by kernel_rfl) (by kernel_rfl) (by kernel_rfl) (fun _ _ _ h => h) (Or.inl ⟨by kernel_rfl, fun W hSW => by go_simp⟩) (Below.refl _ _) ?_
      try simp only [Act.put, List.setIfInBounds_toArray, List.set_cons_zero, List.set_cons_succ]
      have HB78 : Hid (Below w.heap.size w w8) := Lib.hid (HQ.out.2.1.trans (HBw8.out.mono HQ.out.2.1.size))
      refine wpAnyH_take (i := 8) (oi := { dst := some 17, op := Op.load 36 (Operand.tmp 7), type := 36, pos := "usig.go:68", after := #[{ on := 7, ground := Ground.guard }], guard := some (7, true) }) (v := .agg (u8s t).toArray) rfl (by kernel_rfl) (by kernel_rfl) (by kernel_rfl) (fun _ _ _ h => h) (Or.inl ⟨by kernel_rfl, fun W hSW => exec_load_mid 36 (.tmp 7) rfl w.heap.size 0 rfl (u8s t) _ (range_block ((hSW.block _ (Nat.lt_of_lt_of_le HQ.out.2.2 HBw8.out.size)).trans ((HBw8.out.block _ HQ.out.2.2).trans HQ.out.1)) 0 _ (fun j v hv => by rw [Nat.zero_add]; exact hv)) Tryd.underlying36 rfl HT.out⟩) (Below.refl _ _) ?_
      try simp only [Act.put, List.setIfInBounds_toArray, List.set_cons_zero, List.set_cons_succ]
      refine wpAnyH_take (i := 9) (oi := { dst := some 18, op := Op.move (Operand.tmp 0), type := 3, pos := "usig.go:68", after := #[{ on := 7, ground := Ground.guard }], guard := some (7, true) }) (v := .int .i64 i) rfl (by kernel_rfl) (by kernel_rfl) (by kernel_rfl) (fun _ _ _ h => h) (Or.inl ⟨by kernel_rfl, fun W hSW => by go_simp⟩) (Below.refl _ _) ?_
      try simp only [Act.put, List.setIfInBounds_toArray, List.set_cons_zero, List.set_cons_succ]
      refine wpAnyH_take (i := 10) (oi := { dst := some 19, op := Op.move (Operand.tmp 1), type := 35, pos := "usig.go:68", after := #[{ on := 7, ground := Ground.guard }], guard := some (7, true) }) (v := .int .u64 (n : Int)) rfl (by kernel_rfl) (by kernel_rfl) (by kernel_rfl) (fun _ _ _ h => h) (Or.inl ⟨by kernel_rfl, fun W hSW => by go_simp⟩) (Below.refl _ _) ?_
      try simp only [Act.put, List.setIfInBounds_toArray, List.set_cons_zero, List.set_cons_succ]
      refine wpAnyH_take (i := 11) (oi := { dst := some 20, op := Op.move (Operand.tmp 2), type := 29, pos := "usig.go:68", after := #[{ on := 7, ground := Ground.guard }], guard := some (7, true) }) (v := .slice A b.length c) rfl (by kernel_rfl) (by kernel_rfl) (by kernel_rfl) (fun _ _ _ h => h) (Or.inl ⟨by kernel_rfl, fun W hSW => by go_simp⟩) (Below.refl _ _) ?_
      try simp only [Act.put, List.setIfInBounds_toArray, List.set_cons_zero, List.set_cons_succ]
      refine wpAnyH_ready (rs := [12]) (by kernel_rfl) (by simp) ?_
      refine AllReadyH.cons (o := { dst := some 21, op := Op.call { callee := Callee.value (Operand.func 33), args := #[Operand.tmp 18, Operand.tmp 19, Operand.tmp 20], argTypes := #[3, 35, 29] }, type := 36, pos := "usig.go:68", after := #[{ on := 9, ground := Ground.data }, { on := 10, ground := Ground.data }, { on := 11, ground := Ground.data }, { on := 7, ground := Ground.chain }, { on := 7, ground := Ground.guard }], guard := some (7, true) }) rfl (fun K' hK' => ?_) AllReadyH.nil
      go_simp
      go_at_call 33
      refine (HN.out w8 HB78.out).mono ?_
      rintro E w10 ⟨rfl, hbw10⟩
      have HBw10 := Lib.hid hbw10
      clear hbw10
      refine hK'.out _ _ HBw10.out (fun _ => wpAnyH_next HBw10.out ?_)
      clear hK' K'
      try simp only [Act.put, List.setIfInBounds_toArray, List.set_cons_zero, List.set_cons_succ]
      refine wpAnyH_ready (rs := [13]) (by kernel_rfl) (by simp) ?_
      refine AllReadyH.cons (o := { dst := some 22, op := Op.call { callee := Callee.value (Operand.func 32), args := #[Operand.tmp 17, Operand.tmp 21], argTypes := #[36, 36] }, type := 4, pos := "usig.go:68", after := #[{ on := 8, ground := Ground.data }, { on := 12, ground := Ground.data }, { on := 12, ground := Ground.chain }, { on := 7, ground := Ground.guard }], guard := some (7, true) }) rfl (fun K' hK' => ?_) AllReadyH.nil
      go_simp
      go_at_call 32
      refine (HSAME.out w10).mono ?_
      rintro E w11 ⟨rfl, hbw11⟩
      have HBw11 := Lib.hid hbw11
      clear hbw11
      refine hK'.out _ _ HBw11.out (fun _ => wpAnyH_next HBw11.out ?_)
      clear hK' K'
      try simp only [Act.put, List.setIfInBounds_toArray, List.set_cons_zero, List.set_cons_succ]
      refine wpAnyH_take (i := 14) (oi := { dst := some 23, op := Op.pick (Operand.tmp 16) (Operand.tmp 22) (Operand.const (Value.bool false)), type := 4, pos := "usig.go:68", after := #[{ on := 7, ground := Ground.data }, { on := 13, ground := Ground.data }], guard := none }) (v := .bool ans) rfl (by kernel_rfl) (by kernel_rfl) (by kernel_rfl) (fun _ _ _ h => h) (Or.inl ⟨by kernel_rfl, fun W hSW => by go_simp⟩) (Below.refl _ _) ?_
      try simp only [Act.put, List.setIfInBounds_toArray, List.set_cons_zero, List.set_cons_succ]
      refine wpAnyH_take (i := 15) (oi := { dst := some 8, op := Op.assign (Operand.tmp 23), type := 4, pos := "usig.go:68", after := #[{ on := 14, ground := Ground.data }, { on := 13, ground := Ground.chain }, { on := 0, ground := Ground.phase }, { on := 1, ground := Ground.phase }, { on := 2, ground := Ground.phase }, { on := 3, ground := Ground.phase }, { on := 4, ground := Ground.phase }, { on := 5, ground := Ground.phase }, { on := 6, ground := Ground.phase }, { on := 7, ground := Ground.phase }, { on := 8, ground := Ground.phase }, { on := 9, ground := Ground.phase }, { on := 10, ground := Ground.phase }, { on := 11, ground := Ground.phase }, { on := 12, ground := Ground.phase }, { on := 13, ground := Ground.phase }, { on := 14, ground := Ground.phase }], guard := none }) (v := .bool ans) rfl (by kernel_rfl) (by kernel_rfl) (by kernel_rfl) (fun _ _ _ h => h) (Or.inl ⟨by kernel_rfl, fun W hSW => by go_simp⟩) (Below.refl _ _) ?_
      try simp only [Act.put, List.setIfInBounds_toArray, List.set_cons_zero, List.set_cons_succ]
      refine wpAnyH_done (by kernel_rfl) ?_ _
      go_wp2_with fail
      go_ret
      exact ⟨rfl, Lib.hid ((HB78.out.trans (HBw10.out.mono HB78.out.size)).trans (HBw11.out.mono (Nat.le_trans HB78.out.size HBw10.out.size)))⟩
end Go.Proofs.YtepjfkmbmcfnoaaDoor
