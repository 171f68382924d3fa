/-
  What is proved: what one loose write does when it is settled. Conditions as stated.
  What is proved: what is done when loose writes are settled. Conditions as stated.
  What is proved: what Sync and On do. Conditions as stated.
  What is proved: what Bytes answers; the disk's calls as a law meets them. Conditions as stated.
-/
import Derived.Test.YtepjfkmbmcfnoaaDoorK2

namespace Go.Proofs.YtepjfkmbmcfnoaaDoor
open Go.RowKit

theorem wpQuiet_load_cells {P : Program} {ops : Array Oper} {C : World → Prop} {Q : Act → Prop} {rest : List Oper} {op : Oper} {a : Act} (hgd : op.guard = none) (ty : TypeId) (x : Operand) (ho : op.op = .load ty x)
    (b o : Nat) (hx : a.eval x = .pointer (some ⟨b, o, none⟩)) (cs : List Value) (d : TypeDesc) (hc : ∀ w, C w → w.rangeAt b o cs)
    (hu : P.underlying ty = some d) (hd : d.isRow = true) (hi : (P.info? ty).map (·.size) = some cs.length)
    (h : wpQuiet P ops C Q rest (a.put op.dst (.agg cs.toArray))) : wpQuiet P ops C Q (op :: rest) a := by
  have hw : Region.wanted op (yielded ops a.tmps) = true := by simp [Region.wanted, hgd]
  unfold wpQuiet
  rw [if_pos hw]
  refine ⟨.agg cs.toArray, fun w hC => ?_, h⟩
  unfold Oper.quietAt execOp
  simp only [ho, hx, Instr.loadAt, Instr.sureAddr, Sem.run_bind, Sem.run_pure, Result.andThen_ok, run_loadVar_mid w b o ty cs d (hc w hC) hu hd hi]
  exact ⟨rfl, rfl⟩

/-- What a sector has that is sure. -/
def view (gs : Int → Option (List UInt8)) (gl : Int → Bool) (x : Int) : Option (List UInt8) := if gl x then none else some ((gs x).getD zeros)

theorem view_put (gs : Int → Option (List UInt8)) (gl : Int → Bool) (x : Int) (b : List UInt8) (y : Int) : view (upd gs x (some b)) (upd gl x false) y = upd (view gs gl) x (some b) y := by
  unfold view
  by_cases h : y = x
  · subst h; simp [upd_same]
  · simp [upd_other _ _ h]
theorem view_tear (gs : Int → Option (List UInt8)) (gl : Int → Bool) (x : Int) (y : Int) : view (upd gs x none) (upd gl x true) y = upd (view gs gl) x none y := by
  unfold view
  by_cases h : y = x
  · subst h; simp [upd_same]
  · simp [upd_other _ _ h]
theorem vS_put (gs : Int → Option (List UInt8)) (x : Int) (b : List UInt8) (y : Int) : upd (vS gs) x (some (.agg (u8s b).toArray)) y = vS (upd gs x (some b)) y := by
  unfold vS
  by_cases h : y = x
  · subst h; simp [upd_same]
  · simp [upd_other _ _ h]
theorem vS_del (gs : Int → Option (List UInt8)) (x : Int) (y : Int) : upd (vS gs) x none y = vS (upd gs x none) y := by
  unfold vS
  by_cases h : y = x
  · subst h; simp [upd_same]
  · simp [upd_other _ _ h]
theorem vL_put (gl : Int → Bool) (x : Int) (y : Int) : upd (vL gl) x (some (.bool true)) y = vL (upd gl x true) y := by
  unfold vL
  by_cases h : y = x
  · subst h; simp [upd_same]
  · simp [upd_other _ _ h]
theorem vL_del (gl : Int → Bool) (x : Int) (y : Int) : upd (vL gl) x none y = vL (upd gl x false) y := by
  unfold vL
  by_cases h : y = x
  · subst h; simp [upd_same]
  · simp [upd_other _ _ h]
theorem vN_del (gn : Int → Option Nat) (x : Int) (y : Int) : upd (vN gn) x none y = vN (upd gn x none) y := by
  unfold vN
  by_cases h : y = x
  · subst h; simp [upd_same]
  · simp [upd_other _ _ h]

set_option maxHeartbeats 2000000 in
set_option maxRecDepth 100000 in
theorem do_any {w : World} {d n bs bl : Nat} {off fused : Bool} {left : Int} {mn : Option Nat} {L : Value} {gs : Int → Option (List UInt8)} {gl : Int → Bool}
    (hd : w.heap[d]? = some (.cells (dcells off fused left (some bs) (some bl) L mn).toArray 69 (0, 0))) (h1 : World.mapAt w bs n (vS gs)) (h2 : World.mapAt w bl n (vL gl)) (hne : bs ≠ bl)
    (x : Int) (b : List UInt8) (p : Nat) (hx : 0 ≤ x ∧ x < 32768) (hb : b.length = 128) (hn : n < 1000000000) (hg : ∀ y c, gs y = some c → c.length = 128) :
    Calls Tryd.prog 63 #[.pointer (some ⟨d, 0, none⟩), .agg (wcells (x, b)).toArray, .int .u8 (p : Int)] w fun E w' => E = .returned (.tuple #[]) ∧ ∃ gs' gl', World.mapAt w' bs (n + 1) (vS gs') ∧ World.mapAt w' bl (n + 1) (vL gl') ∧
      (∀ y, view gs' gl' y = done (view gs gl) (x, b) p y) ∧ (∀ y c, gs' y = some c → c.length = 128) ∧ Turns (fun k => k = bs ∨ k = bl) w w' := by
  have hIx : I64 x := i64_of (by omega)
  have hdl : d < w.heap.size := (Array.getElem?_eq_some_iff.1 hd).1
  have hd1 : (w.alloc (.cells (wcells (x, b)).toArray 97)).heap[d]? = some (.cells (dcells off fused left (some bs) (some bl) L mn).toArray 69 (0, 0)) := (heap_alloc_old _ _ hdl).trans hd
  have hq1 := row_new w (wcells (x, b)) 97
  have m1 := mapAt_kept h1 (heap_alloc_old w (.cells (wcells (x, b)).toArray 97) (mapAt_lt h1))
  have m2 := mapAt_kept h2 (heap_alloc_old w (.cells (wcells (x, b)).toArray 97) (mapAt_lt h2))
  have HT1 : Hid (Turns (fun k => k = bs ∨ k = bl) w (w.alloc (.cells (wcells (x, b)).toArray 97))) := Lib.hid ((Turns.refl _ w).alloc _)
  have hp : p % 4 = 0 ∨ p % 4 = 1 ∨ p % 4 = 2 ∨ p % 4 = 3 := by omega
  rcases hp with hp | hp | hp | hp
  · have e : ∀ y, view gs gl y = done (view gs gl) (x, b) p y := fun y => by simp [done, hp]
    have hp' : (p : Int) % 4 = 0 := by omega
    have M1 := Lib.hid m1
    have M2 := Lib.hid m2
    clear h1 h2 m1 m2 hd hd1 hq1
    go_enter Tryd.func63, Tryd.ntmps63
    go_wp2
    exact bodyPost_end (results_none rfl _ _ _) rfl ⟨rfl, gs, gl, mapAt_mono M1.out (Nat.le_succ _), mapAt_mono M2.out (Nat.le_succ _), e, hg, HT1.out⟩
  · have hp' : (p : Int) % 4 = 1 := by omega
    have e : ∀ y, view (upd gs x (some b)) (upd gl x false) y = done (view gs gl) (x, b) p y := fun y => by rw [view_put]; simp [done, hp]
    generalize hw1 : w.alloc (.cells (wcells (x, b)).toArray 97) = w1 at *
    have c3 : w1.cell? ⟨d, 3, none⟩ = some (.map (some bs)) := block_cell hd1 3 _ rfl
    have c4 : w1.cell? ⟨d, 4, none⟩ = some (.map (some bl)) := block_cell hd1 4 _ rfl
    have cq : w1.cell? ⟨w.heap.size, 0, none⟩ = some (.int .i64 x) := block_cell hq1 0 _ rfl
    have HQ : Hid (∀ W : World, W = w1.drewN 1 → W.rangeAt w.heap.size 1 (u8s b)) := Lib.hid (fun W hW => by subst hW; exact range_block (w := w1.drewN 1) hq1 1 _ (fun j v hv => by rw [Nat.add_comm]; simpa [wcells] using hv))
    have HI : Hid ((Tryd.prog.info? 61).map (·.size) = some (u8s b).length) := Lib.hid (by rw [u8s_length, hb]; exact Tryd.size61)
    have M1 := Lib.hid m1
    have M2 := Lib.hid m2
    have HD := Lib.hid hd1
    have HQ1 := Lib.hid hq1
    clear h1 h2 m1 m2 hd hd1 hq1
    go_enter Tryd.func63, Tryd.ntmps63
    go_wp2
    try simp only [Act.put, List.setIfInBounds_toArray, List.set_cons_zero, List.set_cons_succ]
    refine wp_region_quiet_tail 8 (by kernel_rfl) (by kernel_rfl) ?_
    simp only [List.take_succ_cons, List.take_zero, List.drop_succ_cons, List.drop_zero]
    repeat (first
      | go_big_quiet_skip
      | (refine wpQuiet_load_cells rfl 61 (.tmp 17) rfl w.heap.size 1 rfl (u8s b) _ HQ.out Tryd.underlying61 rfl HI.out ?_)
      | (go_big_quiet_want; go_big_quiet_op; go_big_quiet_on))
    refine wpQuiet_nil ?_
    refine wpList_put_at rfl (.tmp 14) (.tmp 16) (.tmp 18) 64 61 rfl Tryd.underlying64 bs n (vS gs) rfl M1.out (by unfold maxLen; omega) x (.agg (u8s b).toArray) rfl rfl hIx ?_
    intro w2 N1 T1
    clear c3 c4 cq
    have k4 : w2.cell? ⟨d, 4, none⟩ = some (.map (some bl)) := T1.out.grown.cell (block_cell HD.out 4 _ rfl) (fun e0 => by
      injection e0 with e0
      obtain ⟨es, c, h0⟩ := mapAt_block M1.out
      rw [← e0] at h0
      have := HD.out.symm.trans h0
      cases this)
    have kq : w2.cell? ⟨w.heap.size, 0, none⟩ = some (.int .i64 x) := T1.out.grown.cell (block_cell HQ1.out 0 _ rfl) (fun e0 => by
      injection e0 with e0
      obtain ⟨es, c, h0⟩ := mapAt_block M1.out
      rw [← e0] at h0
      have := HQ1.out.symm.trans h0
      cases this)
    have N2 : Hid (World.mapAt w2 bl n (vL gl)) := Lib.hid (mapAt_kept M2.out (T1.out.grown.block bl (mapAt_lt M2.out) (fun e0 => by injection e0 with e0; exact hne e0.symm)))
    go_wp2
    try simp only [Act.put, List.setIfInBounds_toArray, List.set_cons_zero, List.set_cons_succ]
    refine wp_region_quiet_tail 6 (by kernel_rfl) (by kernel_rfl) ?_
    simp only [List.take_succ_cons, List.take_zero, List.drop_succ_cons, List.drop_zero]
    repeat (first
      | go_big_quiet_skip
      | (go_big_quiet_want; go_big_quiet_op; go_big_quiet_on))
    refine wpQuiet_nil ?_
    refine wpList_del_at rfl (.tmp 22) (.tmp 24) 65 4 rfl Tryd.underlying65 bl n (vL gl) rfl N2.out x rfl hIx ?_
    intro w3 N3 T3
    go_wp2
    exact bodyPost_end (results_none rfl _ _ _) rfl ⟨rfl, _, _, mapAt_congr (mapAt_kept N1.out (T3.out.grown.block bs (mapAt_lt N1.out) (fun e0 => by injection e0 with e0; exact hne e0))) (vS_put gs x b), mapAt_mono (mapAt_congr N3.out (vL_del gl x)) (Nat.le_succ _), e,
      (fun y c h0 => by
        by_cases hy : y = x
        · subst hy; rw [upd_same] at h0; injection h0 with h0; rw [← h0]; exact hb
        · rw [upd_other _ _ hy] at h0; exact hg y c h0), (HT1.out.grown (gb_drew T1.out.grown) (by rintro g e0; cases e0; exact .inl (.inl rfl))).grown (gb_drew T3.out.grown) (by rintro g e0; cases e0; exact .inl (.inr rfl))⟩
  · have hp' : (p : Int) % 4 = 2 := by omega
    have e : ∀ y, view (upd gs x none) (upd gl x true) y = done (view gs gl) (x, b) p y := fun y => by rw [view_tear]; simp [done, hp]
    generalize hw1 : w.alloc (.cells (wcells (x, b)).toArray 97) = w1 at *
    have c3 : w1.cell? ⟨d, 3, none⟩ = some (.map (some bs)) := block_cell hd1 3 _ rfl
    have c4 : w1.cell? ⟨d, 4, none⟩ = some (.map (some bl)) := block_cell hd1 4 _ rfl
    have cq : w1.cell? ⟨w.heap.size, 0, none⟩ = some (.int .i64 x) := block_cell hq1 0 _ rfl
    have M1 := Lib.hid m1
    have M2 := Lib.hid m2
    have HD := Lib.hid hd1
    have HQ1 := Lib.hid hq1
    clear h1 h2 m1 m2 hd hd1 hq1
    go_enter Tryd.func63, Tryd.ntmps63
    go_wp2
    try simp only [Act.put]
    refine wp_region_quiet_tail 6 (by kernel_rfl) (by kernel_rfl) ?_
    simp only [List.take_succ_cons, List.take_zero, List.drop_succ_cons, List.drop_zero]
    repeat (first
      | go_big_quiet_skip
      | (go_big_quiet_want; go_big_quiet_op; go_big_quiet_on))
    refine wpQuiet_nil ?_
    refine wpList_put_at rfl (.tmp 30) (.tmp 32) (.const (Value.bool true)) 65 4 rfl Tryd.underlying65 bl n (vL gl) rfl M2.out (by unfold maxLen; omega) x (.bool true) rfl rfl hIx ?_
    intro w2 N2 T2
    clear c3 c4 cq
    have k3 : w2.cell? ⟨d, 3, none⟩ = some (.map (some bs)) := T2.out.grown.cell (block_cell HD.out 3 _ rfl) (fun e0 => by
      injection e0 with e0
      obtain ⟨es, c, h0⟩ := mapAt_block M2.out
      rw [← e0] at h0
      have := HD.out.symm.trans h0
      cases this)
    have kq : w2.cell? ⟨w.heap.size, 0, none⟩ = some (.int .i64 x) := T2.out.grown.cell (block_cell HQ1.out 0 _ rfl) (fun e0 => by
      injection e0 with e0
      obtain ⟨es, c, h0⟩ := mapAt_block M2.out
      rw [← e0] at h0
      have := HQ1.out.symm.trans h0
      cases this)
    have N1 : Hid (World.mapAt w2 bs n (vS gs)) := Lib.hid (mapAt_kept M1.out (T2.out.grown.block bs (mapAt_lt M1.out) (fun e0 => by injection e0 with e0; exact hne e0)))
    go_wp2
    try simp only [Act.put]
    refine wp_region_quiet_tail 6 (by kernel_rfl) (by kernel_rfl) ?_
    simp only [List.take_succ_cons, List.take_zero, List.drop_succ_cons, List.drop_zero]
    repeat (first
      | go_big_quiet_skip
      | (go_big_quiet_want; go_big_quiet_op; go_big_quiet_on))
    refine wpQuiet_nil ?_
    refine wpList_del_at rfl (.tmp 36) (.tmp 38) 64 61 rfl Tryd.underlying64 bs n (vS gs) rfl N1.out x rfl hIx ?_
    intro w3 N3 T3
    go_wp2
    exact bodyPost_end (results_none rfl _ _ _) rfl ⟨rfl, _, _, mapAt_mono (mapAt_congr N3.out (vS_del gs x)) (Nat.le_succ _), mapAt_congr (mapAt_kept N2.out (T3.out.grown.block bl (mapAt_lt N2.out) (fun e0 => by injection e0 with e0; exact hne e0.symm))) (vL_put gl x), e,
      (fun y c h0 => by
        by_cases hy : y = x
        · subst hy; rw [upd_same] at h0; cases h0
        · rw [upd_other _ _ hy] at h0; exact hg y c h0), (HT1.out.grown (gb_drew T2.out.grown) (by rintro g e0; cases e0; exact .inl (.inr rfl))).grown (gb_drew T3.out.grown) (by rintro g e0; cases e0; exact .inl (.inl rfl))⟩
  · have hp' : (p : Int) % 4 = 3 := by omega
    have e : ∀ y, view (upd gs x (some b)) (upd gl x false) y = done (view gs gl) (x, b) p y := fun y => by rw [view_put]; simp [done, hp]
    generalize hw1 : w.alloc (.cells (wcells (x, b)).toArray 97) = w1 at *
    have c3 : w1.cell? ⟨d, 3, none⟩ = some (.map (some bs)) := block_cell hd1 3 _ rfl
    have c4 : w1.cell? ⟨d, 4, none⟩ = some (.map (some bl)) := block_cell hd1 4 _ rfl
    have cq : w1.cell? ⟨w.heap.size, 0, none⟩ = some (.int .i64 x) := block_cell hq1 0 _ rfl
    have HQ : Hid (∀ W : World, W = w1.drewN 1 → W.rangeAt w.heap.size 1 (u8s b)) := Lib.hid (fun W hW => by subst hW; exact range_block (w := w1.drewN 1) hq1 1 _ (fun j v hv => by rw [Nat.add_comm]; simpa [wcells] using hv))
    have HI : Hid ((Tryd.prog.info? 61).map (·.size) = some (u8s b).length) := Lib.hid (by rw [u8s_length, hb]; exact Tryd.size61)
    have M1 := Lib.hid m1
    have M2 := Lib.hid m2
    have HD := Lib.hid hd1
    have HQ1 := Lib.hid hq1
    clear h1 h2 m1 m2 hd hd1 hq1
    go_enter Tryd.func63, Tryd.ntmps63
    go_wp2
    try simp only [Act.put, List.setIfInBounds_toArray, List.set_cons_zero, List.set_cons_succ]
    refine wp_region_quiet_tail 8 (by kernel_rfl) (by kernel_rfl) ?_
    simp only [List.take_succ_cons, List.take_zero, List.drop_succ_cons, List.drop_zero]
    repeat (first
      | go_big_quiet_skip
      | (refine wpQuiet_load_cells rfl 61 (.tmp 17) rfl w.heap.size 1 rfl (u8s b) _ HQ.out Tryd.underlying61 rfl HI.out ?_)
      | (go_big_quiet_want; go_big_quiet_op; go_big_quiet_on))
    refine wpQuiet_nil ?_
    refine wpList_put_at rfl (.tmp 14) (.tmp 16) (.tmp 18) 64 61 rfl Tryd.underlying64 bs n (vS gs) rfl M1.out (by unfold maxLen; omega) x (.agg (u8s b).toArray) rfl rfl hIx ?_
    intro w2 N1 T1
    clear c3 c4 cq
    have k4 : w2.cell? ⟨d, 4, none⟩ = some (.map (some bl)) := T1.out.grown.cell (block_cell HD.out 4 _ rfl) (fun e0 => by
      injection e0 with e0
      obtain ⟨es, c, h0⟩ := mapAt_block M1.out
      rw [← e0] at h0
      have := HD.out.symm.trans h0
      cases this)
    have kq : w2.cell? ⟨w.heap.size, 0, none⟩ = some (.int .i64 x) := T1.out.grown.cell (block_cell HQ1.out 0 _ rfl) (fun e0 => by
      injection e0 with e0
      obtain ⟨es, c, h0⟩ := mapAt_block M1.out
      rw [← e0] at h0
      have := HQ1.out.symm.trans h0
      cases this)
    have N2 : Hid (World.mapAt w2 bl n (vL gl)) := Lib.hid (mapAt_kept M2.out (T1.out.grown.block bl (mapAt_lt M2.out) (fun e0 => by injection e0 with e0; exact hne e0.symm)))
    go_wp2
    try simp only [Act.put, List.setIfInBounds_toArray, List.set_cons_zero, List.set_cons_succ]
    refine wp_region_quiet_tail 6 (by kernel_rfl) (by kernel_rfl) ?_
    simp only [List.take_succ_cons, List.take_zero, List.drop_succ_cons, List.drop_zero]
    repeat (first
      | go_big_quiet_skip
      | (go_big_quiet_want; go_big_quiet_op; go_big_quiet_on))
    refine wpQuiet_nil ?_
    refine wpList_del_at rfl (.tmp 22) (.tmp 24) 65 4 rfl Tryd.underlying65 bl n (vL gl) rfl N2.out x rfl hIx ?_
    intro w3 N3 T3
    go_wp2
    exact bodyPost_end (results_none rfl _ _ _) rfl ⟨rfl, _, _, mapAt_congr (mapAt_kept N1.out (T3.out.grown.block bs (mapAt_lt N1.out) (fun e0 => by injection e0 with e0; exact hne e0))) (vS_put gs x b), mapAt_mono (mapAt_congr N3.out (vL_del gl x)) (Nat.le_succ _), e,
      (fun y c h0 => by
        by_cases hy : y = x
        · subst hy; rw [upd_same] at h0; injection h0 with h0; rw [← h0]; exact hb
        · rw [upd_other _ _ hy] at h0; exact hg y c h0), (HT1.out.grown (gb_drew T1.out.grown) (by rintro g e0; cases e0; exact .inl (.inl rfl))).grown (gb_drew T3.out.grown) (by rintro g e0; cases e0; exact .inl (.inr rfl))⟩
end Go.Proofs.YtepjfkmbmcfnoaaDoor

namespace Go.Proofs.YtepjfkmbmcfnoaaDoor
open Go.RowKit

/-- One cell behind the other set. -/
def setAll : List Value → Nat → List Value → List Value
  | C, _, [] => C
  | C, o, v :: r => setAll (C.set o v) (o + 1) r
theorem heap_setCells {g : Nat} {t : TypeId} : ∀ (vs : List Value) (o : Nat) (w : World) (C : List Value), w.heap[g]? = some (.cells C.toArray t (0, 0)) → (w.setCells g o vs).heap[g]? = some (.cells (setAll C o vs).toArray t (0, 0))
  | [], _, _, _, h => h
  | v :: r, o, w, C, h => by
    rw [World.setCells, setAll]
    exact heap_setCells r (o + 1) _ _ (heap_set h v)
theorem setAll_mid : ∀ (vs p a b : List Value), a.length = vs.length → setAll (p ++ (a ++ b)) p.length vs = p ++ (vs ++ b)
  | [], p, a, b, h => by
    obtain rfl : a = [] := List.eq_nil_of_length_eq_zero h
    rfl
  | v :: r, p, a, b, h => by
    match a, h with
    | x :: a', h =>
      have := setAll_mid r (p ++ [v]) a' b (by simpa using h)
      rw [setAll, List.set_append_right _ _ (Nat.le_refl _), Nat.sub_self]
      simpa using this
theorem gb_setCells (g : Nat) : ∀ (vs : List Value) (o : Nat) (w : World), w.grownBy (w.setCells g o vs) (some g)
  | [], _, _ => ⟨rfl, rfl, rfl, Nat.le_refl _, fun _ _ _ => rfl⟩
  | v :: r, o, w => by
    rw [World.setCells]
    have h : w.grownBy (w.setCell ⟨g, o, none⟩ v) (some g) := ⟨rfl, rfl, rfl, by simp [World.setCell], fun k _ hk => Below.heap_setCell _ _ _ _ (fun e => hk (by rw [e]))⟩
    exact h.trans (gb_setCells g r (o + 1) _)

/-- A whole block's cells anew: no other block has turned. -/
theorem wpList_store_all {P : Program} {ops : Array Oper} {rest : List Oper} {op : Oper} {a : Act} {w : World} {Q : Exit → Act → World → Prop} (hgd : op.guard = none) (ty : TypeId) (x y : Operand) (ho : op.op = .store ty x y)
    (g : Nat) (Z cs : List Value) (t : TypeId) (hZ : w.heap[g]? = some (.cells Z.toArray t (0, 0))) (hl : Z.length = cs.length) (hx : a.eval x = .pointer (some ⟨g, 0, none⟩)) (hy : a.eval y = .agg cs.toArray)
    (hi : (P.info? ty).map (·.size) = some cs.length) (h1 : ∀ v ∈ cs, v.oneCell' = true)
    (h : ∀ w', Hid (w'.heap[g]? = some (.cells cs.toArray t (0, 0)) ∧ w.grownBy w' (some g)) → wpList P ops Q rest (a.put op.dst undef) w') : wpList P ops Q (op :: rest) a w := by
  refine wpList_store_cells hgd ty x y ho g 0 cs hx hy (there_block hZ 0 _ (by omega)) hi h1 (h _ (Lib.hid ⟨?_, gb_setCells _ _ _ _⟩))
  rw [heap_setCells cs 0 w _ hZ]
  have := setAll_mid cs [] Z [] hl
  simp only [List.nil_append, List.length_nil, List.append_nil] at this
  rw [this]

theorem zero66 (w : World) : (zeroValue 97).run Tryd.prog w = .ok (.agg (.int .i64 0 :: u8s zeros).toArray) w := by kernel_rfl

/-- A quiet call of a function value. -/
theorem wpQuiet_call_value {P : Program} {ops : Array Oper} {C : World → Prop} {Q : Act → Prop} {rest : List Oper} {op : Oper} {a : Act} (hgd : op.guard = none) (f x : Operand) (ts : Array TypeId)
    (ho : op.op = .call { callee := .value f, args := #[x], argTypes := ts }) (K : Nat) (caps : Array Value) (hf : a.eval f = .func (.func K) #[] caps) (xv : Value) (hx : a.eval x = xv)
    (hE : ∀ args W, (callFunc K args).run P W = .ok (.enter K args) W) (v : Value) (hc : ∀ W, C W → Calls P K (#[xv] ++ caps) W fun E w' => E = .returned v ∧ C w')
    (h : wpQuiet P ops C Q rest (a.put op.dst v)) : wpQuiet P ops C Q (op :: rest) a := by
  have hw : Region.wanted op (yielded ops a.tmps) = true := by simp [Region.wanted, hgd]
  unfold wpQuiet
  rw [if_pos hw]
  refine ⟨v, fun W hC => ?_, h⟩
  have h1 := hE (#[xv] ++ caps) W
  unfold Oper.quietAt execOp
  simp [ho, resolve, hf, hx, Deferred.ofValue, invoke, h1, Oper.quietUpon]
  exact hc W hC
theorem Turns.of_drew {S : Nat → Prop} {w w1 : World} (h : Turns S (w.drewN 1) w1) : Turns S w w1 := ⟨h.os, h.tape, h.output, h.size, h.block⟩
/-- While loose writes are settled: k of them are. -/
def SetAt (t : Nat → Nat) (s : Dk) (S : Nat → Prop) (d T : Nat) (fused : Bool) (left : Int) (ms ml mn : Option Nat) (L : Value) (w : World) (k : Nat) (wr : World) : Prop :=
  ∃ gs gl gn, Turns S w wr ∧ wr.heap[d]? = some (.cells (dcells s.off fused left ms ml L mn).toArray 69 (0, 0)) ∧ Maps3 wr T (s.loose.length - k) ms ml mn gs gl gn ∧ (∀ y, view gs gl y = settled t 0 s.sure (s.loose.take k) y) ∧
    (∀ y, gn y = none ∨ ∃ p ∈ s.loose.drop k, p.1 = y) ∧ (∀ y c, gs y = some c → c.length = 128) ∧ wr.ownsRow 0 97 129 L s.loose.length (s.loose.flatMap wcells)

theorem SetAt.start {t : Nat → Nat} {s : Dk} {S : Nat → Prop} {d T : Nat} {fused : Bool} {left : Int} {ms ml mn : Option Nat} {L : Value} {w : World} {gs : Int → Option (List UInt8)} {gl : Int → Bool} {gn : Int → Option Nat}
    (h : Rep w S d T s fused left ms ml mn L gs gl gn) : SetAt t s S d T fused left ms ml mn L w 0 w := by
  refine ⟨gs, gl, gn, Turns.refl _ _, h.hd, h.maps, fun y => by rw [List.take_zero, settled, h.sure]; rfl, fun y => ?_, h.glen, h.row⟩
  rcases h.newest y with hn | ⟨j, b, _, h2, _⟩
  · exact .inl hn.1
  · exact .inr ⟨_, List.mem_of_getElem? h2, rfl⟩

theorem SetAt.end {t : Nat → Nat} {s : Dk} {S : Nat → Prop} {d T : Nat} {fused : Bool} {left : Int} {ms ml mn : Option Nat} {L : Value} {w wr w' : World} {gs : Int → Option (List UInt8)} {gl : Int → Bool} {gn : Int → Option Nat}
    (h : Rep w S d T s fused left ms ml mn L gs gl gn) (hA : SetAt t s S d T fused left ms ml mn L w s.loose.length wr)
    (hd' : w'.heap[d]? = some (.cells (dcells s.off fused left ms ml (.slice none 0 0) mn).toArray 69 (0, 0))) (hg' : wr.grownBy w' (some d)) : DiskIs w' S d T (s.settle t) ∧ Turns S w w' := by
  obtain ⟨gs1, gl1, gn1, ht, hd1, hm, hv, hnw, hg, _⟩ := hA
  have hSd := h.own d (.inl rfl)
  have htw : Turns S w w' := ht.grown hg' (by rintro g e; cases e; exact .inl hSd)
  refine ⟨⟨fused, left, ms, ml, mn, .slice none 0 0, gs1, gl1, gn1, hd', h.fuse, h.left, ?_, Nat.zero_le _, World.ownsRow_nil _ _ _ _, ?_, ?_, (fun p hp => by cases hp), hg, ?_, fun k hk => Nat.lt_of_lt_of_le (h.lt k hk) htw.size⟩, htw⟩
  · rw [Nat.sub_self] at hm
    refine maps_kept hm fun b hb => ?_
    have hlt : b < wr.heap.size := by
      rcases hm with ⟨rfl, rfl, rfl, _⟩ | ⟨bs, bl, bn, rfl, rfl, rfl, _, _, _, h7, h8, h9⟩
      · simp at hb
      · rcases hb with e | e | e
        · cases e; exact mapAt_lt h7
        · cases e; exact mapAt_lt h8
        · cases e; exact mapAt_lt h9
    exact hg'.block b hlt (fun e => by injection e with e; exact h.apart.1 b hb e)
  · intro y
    have := hv y
    rw [List.take_of_length_le (Nat.le_refl _)] at this
    exact this.symm
  · intro y
    rcases hnw y with h0 | ⟨p, hp, _⟩
    · exact .inl ⟨h0, rfl⟩
    · rw [List.drop_of_length_le (Nat.le_refl _)] at hp; cases hp
  · intro k hk
    rcases hk with e | e | e | e | e
    · exact h.own k (.inl e)
    · exact h.own k (by simp [e])
    · exact h.own k (by simp [e])
    · exact h.own k (by simp [e])
    · cases e
theorem SetAt.next {t : Nat → Nat} {s : Dk} {S : Nat → Prop} {d T : Nat} {fused : Bool} {left : Int} {bs bl bn : Nat} {L : Value} {w wr w2 w3 w4 : World} {gs gs1 gs2 : Int → Option (List UInt8)} {gl gl1 gl2 : Int → Bool} {gn gn1 : Int → Option Nat} {k : Nat} {x : Int} {b : List UInt8}
    (h : Rep w S d T s fused left (some bs) (some bl) (some bn) L gs gl gn) (hk : k < s.loose.length) (hp : s.loose[k]? = some (x, b)) (h4 : bs ≠ bl) (h5 : bs ≠ bn) (h6 : bl ≠ bn)
    (ht : Turns S w wr) (hd1 : wr.heap[d]? = some (.cells (dcells s.off fused left (some bs) (some bl) L (some bn)).toArray 69 (0, 0))) (hv : ∀ y, view gs1 gl1 y = settled t 0 s.sure (s.loose.take k) y)
    (hnw : ∀ y, gn1 y = none ∨ ∃ p ∈ s.loose.drop k, p.1 = y) (hr1 : wr.ownsRow 0 97 129 L s.loose.length (s.loose.flatMap wcells))
    (t2 : wr.grownBy w2 none) (t3 : Turns (fun k => k = bs ∨ k = bl) w2 w3) (m1 : World.mapAt w3 bs (T - (s.loose.length - k) + 1) (vS gs2)) (m2 : World.mapAt w3 bl (T - (s.loose.length - k) + 1) (vL gl2))
    (hv3 : ∀ y, view gs2 gl2 y = done (view gs1 gl1) (x, b) (t k) y) (hg3 : ∀ y c, gs2 y = some c → c.length = 128) (m4 : World.mapAt w4 bn T (upd (vN gn1) x none)) (t4 : w3.grownBy w4 (some bn)) :
    SetAt t s S d T fused left (some bs) (some bl) (some bn) L w (k + 1) w4 := by
  have hm := h.many
  have hz2 := t2.size
  have hz3 := t3.size
  obtain ⟨a1, a2⟩ := h.apart
  have hdr : d < wr.heap.size := (Array.getElem?_eq_some_iff.1 hd1).1
  have hS : ∀ k, (k = bs ∨ k = bl ∨ k = bn) → S k := fun k hk => h.own k (by rcases hk with e | e | e <;> simp [e])
  have keep : ∀ g, g < wr.heap.size → g ≠ bs → g ≠ bl → g ≠ bn → w4.heap[g]? = wr.heap[g]? := fun g h0 e1 e2 e3 => by
    rw [t4.block g (by omega) (fun e => e3 (by injection e)), t3.block g (by omega) (fun e => e.elim e1 e2), t2.block g h0 (by simp)]
  have hLne : ∀ g, L.ownBlock = some g → g < wr.heap.size ∧ g ≠ bs ∧ g ≠ bl ∧ g ≠ bn := by
    intro g hg
    have hlt := (hr1.lt g hg).2
    rcases h.row.2 with ⟨e0, _⟩ | ⟨g', cap, cur, e0, _, hgg, _⟩
    · rw [e0] at hg; simp [Value.ownBlock] at hg
    · rw [e0] at hg
      simp [Value.ownBlock] at hg
      subst hg
      rcases h.maps with ⟨h0, _⟩ | ⟨_, _, _, e1, e2, e3, _, _, _, h7, h8, h9⟩
      · cases h0
      · injection e1 with e1
        injection e2 with e2
        injection e3 with e3
        subst e1 e2 e3
        refine ⟨hlt, ?_, ?_, ?_⟩
        · rintro rfl; obtain ⟨es, c, h0⟩ := mapAt_block h7; rw [hgg] at h0; cases h0
        · rintro rfl; obtain ⟨es, c, h0⟩ := mapAt_block h8; rw [hgg] at h0; cases h0
        · rintro rfl; obtain ⟨es, c, h0⟩ := mapAt_block h9; rw [hgg] at h0; cases h0
  refine ⟨gs2, gl2, upd gn1 x none, ?_, ?_, .inr ⟨bs, bl, bn, rfl, rfl, rfl, h4, h5, h6, ?_, ?_, ?_⟩, ?_, ?_, hg3, ?_⟩
  · refine ((ht.grown t2 (by simp)).step t3 ?_).grown t4 ?_
    · rintro k (e | e)
      · exact .inl (hS k (.inl e))
      · exact .inl (hS k (.inr (.inl e)))
    · rintro g e; cases e; exact .inl (hS _ (.inr (.inr rfl)))
  · rw [keep d hdr (fun e => a1 bs (by simp) e.symm) (fun e => a1 bl (by simp) e.symm) (fun e => a1 bn (by simp) e.symm)]
    exact hd1
  · refine mapAt_mono (mapAt_kept m1 (t4.block bs (mapAt_lt m1) (fun e => h5 (by injection e)))) (by omega)
  · refine mapAt_mono (mapAt_kept m2 (t4.block bl (mapAt_lt m2) (fun e => h6 (by injection e)))) (by omega)
  · exact mapAt_congr m4 (vN_del gn1 x)
  · intro y
    have e1 : s.loose.take (k + 1) = s.loose.take k ++ [(x, b)] := by rw [List.take_add_one, hp]; rfl
    rw [e1, settled_snoc, hv3 y]
    have e2 : view gs1 gl1 = settled t 0 s.sure (s.loose.take k) := funext hv
    rw [e2, List.length_take, Nat.min_eq_left (by omega), Nat.zero_add]
  · intro y
    by_cases hy : y = x
    · subst hy; exact .inl (upd_same _ _ _)
    · rw [upd_other _ _ hy]
      rcases hnw y with h0 | ⟨p, hp1, hp2⟩
      · exact .inl h0
      · refine .inr ⟨p, ?_, hp2⟩
        rw [List.drop_eq_getElem_cons hk] at hp1
        rcases List.mem_cons.1 hp1 with e | e
        · exfalso
          have e3 : s.loose[k] = (x, b) := by rw [List.getElem?_eq_getElem hk] at hp; exact Option.some.inj hp
          rw [e3] at e
          subst e
          exact hy hp2.symm
        · exact e
  · exact row_kept hr1 fun g hg => by
      obtain ⟨h1, h2, h3, h4⟩ := hLne g hg
      exact keep g h1 h2 h3 h4

set_option maxHeartbeats 2000000 in
set_option maxRecDepth 100000 in
theorem settle_by (K : Nat) (caps : Array Value) (hE : ∀ args W, (callFunc K args).run Tryd.prog W = .ok (.enter K args) W) (t : Nat → Nat) {w : World} {S : Nat → Prop} {d T : Nat} {s : Dk} (h : DiskIs w S d T s) (hT : T < 1000000000)
    (hK : ∀ (i : Nat) (W : World), i < s.loose.length → Turns S w W → Calls Tryd.prog K (#[.int .i64 (i : Int)] ++ caps) W fun E w' => E = .returned (.int .u8 (t i : Int)) ∧ W = w') :
    Calls Tryd.prog 39 #[.pointer (some ⟨d, 0, none⟩), .func (.func K) #[] caps] w fun E w' => E = .returned (.tuple #[]) ∧ DiskIs w' S d T (s.settle t) ∧ Turns S w w' := by
  obtain ⟨fused, left, ms, ml, mn, L, gs, gl, gn, h⟩ := h
  have hSd := h.own d (.inl rfl)
  obtain ⟨A, c, rfl, hsl⟩ := row_shape h.row
  obtain ⟨c0, c1, c2, c3, c4, c5, c6⟩ := h.cells
  have HSt := Lib.hid (SetAt.start (t := t) h)
  have HR := Lib.hid h
  have HK := Lib.hid hK
  have HE := Lib.hid hE
  clear hE h c0 c1 c2 c3 c4 c6 hK
  go_enter Tryd.func39, Tryd.ntmps39
  go_wp2
  go_loopw [11] (fun v11 wr => ∃ k : Nat, k ≤ s.loose.length ∧ v11 = .int .i64 k ∧ Hid (SetAt t s S d T fused left ms ml mn (.slice A s.loose.length c) w k wr)) (fun v11 _ => s.loose.length - (intOf v11).toNat)
  case atStart => exact ⟨0, by omega, rfl, HSt⟩
  case round =>
    clear HSt c5
    obtain ⟨k, hkn, rfl, HA⟩ := hrel
    by_cases hkk : k < s.loose.length
    · obtain ⟨gs1, gl1, gn1, ht1, hd1, hm1, hv1, hnw1, hg1, hr1⟩ := HA.out
      rcases hm1 with ⟨_, _, _, h0, _⟩ | ⟨bs, bl, bn, rfl, rfl, rfl, h4, h5, h6, h7, h8, h9⟩
      · omega
      obtain ⟨g, c', e0, _, _, hrg⟩ := row_some hr1 (by omega)
      injection e0 with e0 _ e1
      subst e0 e1
      obtain ⟨⟨x, b⟩, hp⟩ : ∃ p, s.loose[k]? = some p := ⟨_, List.getElem?_eq_getElem hkk⟩
      obtain ⟨hb, hx⟩ := HR.out.len (x, b) (List.mem_of_getElem? hp)
      have hwl : (wcells (x, b)).length = 129 := wcells_length hb
      have HRG : Hid (wr.rangeAt g (k * 129) (wcells (x, b))) := Lib.hid fun i v hv => by
        have hi : i < 129 := by have := (List.getElem?_eq_some_iff.1 hv).1; omega
        have := hrg (k * 129 + i) v (by rw [flat_at _ (fun p hp => (HR.out.len p hp).1) k _ hp _ hi]; exact hv)
        rwa [Nat.zero_add] at this
      have HI : Hid ((Tryd.prog.info? 97).map (·.size) = some (wcells (x, b)).length) := Lib.hid (by rw [hwl]; exact Tryd.size97)
      obtain ⟨Z, hZ⟩ : ∃ Z, Z = Value.int .i64 0 :: u8s zeros := ⟨_, rfl⟩
      have hz : ∀ w, (zeroValue 97).run Tryd.prog w = .ok (.agg Z.toArray) w := by rw [hZ]; exact zero66
      have HZL : Hid (Z.length = (wcells (x, b)).length) := Lib.hid (by rw [hZ, hwl]; simp [u8s_length, zeros])
      have HP := Lib.hid hp
      have HN := Lib.hid (show s.loose.length - k ≤ T by have := HR.out.many; omega)
      have HV := Lib.hid hv1
      have HNW := Lib.hid hnw1
      have HG := Lib.hid hg1
      have HRR := Lib.hid hr1
      have HD := Lib.hid hd1
      have HT := Lib.hid ht1
      have H7 := Lib.hid h7
      have H8 := Lib.hid h8
      have H9 := Lib.hid h9
      have HB := Lib.hid hb
      have HX := Lib.hid hx
      have HIx : Hid (I64 x) := Lib.hid (i64_of (by omega))
      have hgl : g < wr.heap.size := World.block_lt_of_cell? wr _ (HRG.out 0 _ (List.getElem?_eq_getElem (by omega)))
      clear hZ hp hv1 hnw1 hg1 hr1 hd1 ht1 h7 h8 h9 hb hx hwl hrg
      go_wp2_with (first
        | (refine wpList_load_mid rfl 97 (.tmp 14) rfl g (k * 129) rfl (wcells (x, b)) _ HRG.out Tryd.underlying97 rfl HI.out ?_)
        | (refine wpList_store_all rfl 97 (.tmp 5) (.tmp 15) rfl wr.heap.size Z (wcells (x, b)) 97 (row_new wr Z 97) HZL.out rfl rfl HI.out (wcells_one _) ?_; intro w2 G2))
      try simp only [Act.put, List.setIfInBounds_toArray, List.set_cons_zero, List.set_cons_succ]
      have T2 : Hid (wr.grownBy w2 none) := Lib.hid ⟨G2.out.2.os, G2.out.2.tape, G2.out.2.output, Nat.le_trans (by simp) G2.out.2.size, fun j hj _ => (G2.out.2.block j (by simp; omega) (fun e => by injection e with e; omega)).trans (heap_alloc_old wr _ hj)⟩
      have HD2 : Hid ((w2.drewN 1).heap[d]? = some (.cells (dcells s.off fused left (some bs) (some bl) (.slice (some ⟨g, 0, none⟩) s.loose.length c) (some bn)).toArray 69 (0, 0))) := Lib.hid ((T2.out.block d (Array.getElem?_eq_some_iff.1 HD.out).1 (by simp)).trans HD.out)
      have J7 : Hid (World.mapAt (w2.drewN 1) bs (T - (s.loose.length - k)) (vS gs1)) := Lib.hid (mapAt_kept H7.out (T2.out.block bs (mapAt_lt H7.out) (by simp)))
      have J8 : Hid (World.mapAt (w2.drewN 1) bl (T - (s.loose.length - k)) (vL gl1)) := Lib.hid (mapAt_kept H8.out (T2.out.block bl (mapAt_lt H8.out) (by simp)))
      have J9 : Hid (World.mapAt (w2.drewN 1) bn T (vN gn1)) := Lib.hid (mapAt_kept H9.out (T2.out.block bn (mapAt_lt H9.out) (by simp)))
      have HQ : Hid (∀ W : World, W = w2.drewN 1 → W.rangeAt wr.heap.size 0 (wcells (x, b))) := Lib.hid (fun W hW => by subst hW; exact range_block (w := w2.drewN 1) G2.out.1 0 _ (fun j v hv => by rw [Nat.zero_add]; exact hv))
      have HTW : Hid (Turns S w (w2.drewN 1)) := Lib.hid ((HT.out.grown T2.out (by simp)).drewN 1)
      refine wp_region_quiet_tail 5 (by kernel_rfl) (by kernel_rfl) ?_
      simp only [List.take_succ_cons, List.take_zero, List.drop_succ_cons, List.drop_zero]
      repeat (first
        | go_big_quiet_skip
        | (refine wpQuiet_load_cells rfl 97 (.tmp 5) rfl wr.heap.size 0 rfl (wcells (x, b)) _ HQ.out Tryd.underlying97 rfl HI.out ?_; simp only [Act.put, List.setIfInBounds_toArray, List.set_cons_zero, List.set_cons_succ])
        | (refine wpQuiet_call_value rfl (.tmp 18) (.tmp 19) #[3] rfl K caps rfl (.int .i64 (k : Int)) rfl HE.out (.int .u8 (t k : Int)) (fun W hW => by subst hW; exact (HK.out k _ hkk HTW.out).mono fun _ _ h => ⟨h.1, h.2.symm⟩) ?_; simp only [Act.put, List.setIfInBounds_toArray, List.set_cons_zero, List.set_cons_succ])
        | (go_big_quiet_want; go_big_quiet_op; go_big_quiet_on))
      refine wpQuiet_nil ?_
      go_wp2_with (first
        | (go_at_call 63; refine (do_any HD2.out J7.out J8.out h4 x b (t k) HX.out HB.out (by omega) HG.out).mono ?_; rintro E w3 ⟨rfl, gs2, gl2, m1, m2, hv3, hg3, t3⟩; have M1 := Lib.hid m1; have M2 := Lib.hid m2; have HV3 := Lib.hid hv3; have HG3 := Lib.hid hg3; have T3 := Lib.hid t3; clear m1 m2 hv3 hg3 t3))
      try simp only [Act.put, List.setIfInBounds_toArray, List.set_cons_zero, List.set_cons_succ]
      have HD3 : Hid (w3.heap[d]? = some (.cells (dcells s.off fused left (some bs) (some bl) (.slice (some ⟨g, 0, none⟩) s.loose.length c) (some bn)).toArray 69 (0, 0))) := Lib.hid ((T3.out.block d (Array.getElem?_eq_some_iff.1 HD2.out).1 (fun e => by
        rcases e with e | e
        · exact HR.out.apart.1 bs (by simp) e.symm
        · exact HR.out.apart.1 bl (by simp) e.symm)).trans HD2.out)
      have k6 : w3.cell? ⟨d, 6, none⟩ = some (.map (some bn)) := block_cell HD3.out 6 _ rfl
      have kx : w3.cell? ⟨wr.heap.size, 0, none⟩ = some (.int .i64 x) := block_cell ((T3.out.block wr.heap.size (Array.getElem?_eq_some_iff.1 G2.out.1).1 (fun e => by
        rcases e with e | e
        · have := mapAt_lt H7.out; omega
        · have := mapAt_lt H8.out; omega)).trans G2.out.1) 0 _ rfl
      have J3 : Hid (World.mapAt w3 bn T (vN gn1)) := Lib.hid (mapAt_kept J9.out (T3.out.block bn (mapAt_lt J9.out) (fun e => by
        rcases e with e | e
        · exact h5 e.symm
        · exact h6 e.symm)))
      refine wp_region_quiet_tail 6 (by kernel_rfl) (by kernel_rfl) ?_
      simp only [List.take_succ_cons, List.take_zero, List.drop_succ_cons, List.drop_zero]
      repeat (first
        | go_big_quiet_skip
        | (go_big_quiet_want; go_big_quiet_op; go_big_quiet_on))
      refine wpQuiet_nil ?_
      refine wpList_del_at rfl (.tmp 25) (.tmp 27) 67 3 rfl Tryd.underlying67 bn T (vN gn1) rfl J3.out x rfl HIx.out ?_
      intro w4 M4 T4
      go_wp2
      go_roundw
      case measure => simp [intOf]; omega
      case rel => exact ⟨k + 1, by omega, by go_num, Lib.hid (SetAt.next HR.out hkk HP.out h4 h5 h6 HT.out HD.out HV.out HNW.out HRR.out T2.out (T3.out.of_drew) M1.out M2.out HV3.out HG3.out M4.out (gb_drew T4.out.grown))⟩
    · obtain rfl : k = s.loose.length := by omega
      go_wp2_with (first
        | (refine wpList_store_at rfl 66 (.tmp 31) (.const (Value.slice none 0 0)) rfl d 5 (dcells s.off fused left ms ml (.slice A s.loose.length c) mn) 69 (by obtain ⟨_, _, _, _, h0, _⟩ := HA.out; exact h0) (show 5 < 7 by omega) (.slice none 0 0) rfl rfl rfl rfl Tryd.size66 ?_; intro w5 G5))
      exact bodyPost_end (results_none rfl _ _ _) rfl ⟨rfl, SetAt.end HR.out HA.out G5.out.1 G5.out.2⟩
end Go.Proofs.YtepjfkmbmcfnoaaDoor

namespace Go.Proofs.YtepjfkmbmcfnoaaDoor
open Go.RowKit

theorem enter33 (args : Array Value) (W : World) : (callFunc 70 args).run Tryd.prog W = .ok (.enter 70 args) W := by kernel_rfl
theorem enter35 (args : Array Value) (W : World) : (callFunc 40 args).run Tryd.prog W = .ok (.enter 40 args) W := by kernel_rfl

theorem sync1_any (i : Int) (w : World) : Calls Tryd.prog 70 #[.int .i64 i] w fun E w' => E = .returned (.int .u8 1) ∧ w = w' := by
  go_enter Tryd.func70, Tryd.ntmps70
  go_wp2
  go_ret
  exact ⟨rfl, rfl⟩

theorem sync_any {w : World} {S : Nat → Prop} {d T : Nat} {s : Dk} (h : DiskIs w S d T s) (hT : T < 1000000000) :
    Calls Tryd.prog 50 #[.pointer (some ⟨d, 0, none⟩)] w fun E w' => E = .returned (.int .i64 s.sync.2) ∧ DiskIs w' S d T s.sync.1 ∧ Turns S w w' := by
  have HR := Lib.hid (rests_any h)
  have HB := Lib.hid (burn_any h)
  have HD := Lib.hid h
  have hs : s.rests = if s.off then 8 else 0 := rfl
  unfold Dk.sync
  clear h
  by_cases ho : s.off = true
  · rw [if_pos ho]
    rw [ho, if_pos rfl] at hs
    rw [hs] at HR
    clear hs
    go_enter Tryd.func50, Tryd.ntmps50
    go_wp2_with (first | (go_at_call 68; refine HR.out.mono ?_; rintro E w1 ⟨rfl, rfl⟩))
    go_ret
    exact ⟨rfl, HD.out, Turns.refl _ _⟩
  · rw [if_neg ho]
    rw [if_neg ho] at hs
    rw [hs] at HR
    clear hs
    by_cases he : s.burn.2 ≠ 0
    · rw [if_pos he]
      generalize s.burn = p at he HB ⊢
      obtain ⟨s', e⟩ := p
      simp only at he HB ⊢
      have he' : (e == 0) = false := by simpa using he
      go_enter Tryd.func50, Tryd.ntmps50
      go_wp2_with (first
        | (go_at_call 68; refine HR.out.mono ?_; rintro E w1 ⟨rfl, rfl⟩)
        | (go_at_call 48; refine HB.out.mono ?_; rintro E w2 ⟨rfl, h2, t2⟩))
      go_ret
      exact ⟨rfl, h2, t2⟩
    · rw [if_neg he]
      have he0 : s.burn.2 = 0 := by simpa using he
      generalize s.burn = p at he0 HB ⊢
      obtain ⟨s', e⟩ := p
      simp only at he0 HB ⊢
      subst he0
      clear he
      go_enter Tryd.func50, Tryd.ntmps50
      go_wp2_with (first
        | (go_at_call 68; refine HR.out.mono ?_; rintro E w1 ⟨rfl, rfl⟩)
        | (go_at_call 48; refine HB.out.mono ?_; rintro E w2 ⟨rfl, h2, t2⟩; have H2 := Lib.hid h2; have T2 := Lib.hid t2; clear h2 t2)
        | (go_at_call 39; refine (settle_by 70 #[] enter33 (fun _ => 1) H2.out hT (fun i W _ _ => sync1_any i W)).mono ?_; rintro E w3 ⟨rfl, h3, t3⟩))
      go_ret
      exact ⟨rfl, h3, T2.out.trans t3⟩

/-- A slice that reads as these bytes; each of its blocks is P. -/
def Rd (P : Nat → Prop) (w : World) (A : Option Addr) (n : Nat) (bs : List UInt8) : Prop :=
  bs.length = n ∧ (0 < n → ∃ b o, A = some ⟨b, o, none⟩ ∧ b < w.heap.size ∧ P b ∧ ∀ j u, bs[j]? = some u → w.cell? ⟨b, o + j, none⟩ = some (.int .u8 (u.toNat : Int)))
theorem Rd.turns {P : Nat → Prop} {S : Nat → Prop} {w w' : World} {A : Option Addr} {n : Nat} {bs : List UInt8} (h : Rd P w A n bs) (ht : Turns S w w') (hs : ∀ b, P b → ¬ S b) : Rd P w' A n bs := by
  refine ⟨h.1, fun hn => ?_⟩
  obtain ⟨b, o, e, hb, hp, hc⟩ := h.2 hn
  exact ⟨b, o, e, Nat.lt_of_lt_of_le hb ht.size, hp, fun j u hu => (World.cell?_of_block (a := ⟨b, o + j, none⟩) (ht.block b hb (hs b hp))).trans (hc j u hu)⟩

theorem on1_any {P : Nat → Prop} {w : World} {A : Option Addr} {n c : Nat} {bs : List UInt8} (q : Nat) (hq : w.cell? ⟨q, 0, none⟩ = some (.slice A n c)) (hr : Rd P w A n bs) (hs : Sl A n c) (i : Nat) :
    Calls Tryd.prog 40 #[.int .i64 (i : Int), .pointer (some ⟨q, 0, none⟩)] w fun E w' => E = .returned (.int .u8 ((bs.getD i 0).toNat : Int)) ∧ w = w' := by
  by_cases hi : i < n
  · obtain ⟨b, o, rfl, hb, _, hc⟩ := hr.2 (by omega)
    have hl := hr.1
    have ci := hc i _ (List.getElem?_eq_getElem (by omega))
    have e : bs.getD i 0 = bs[i] := by rw [List.getD_eq_getElem?_getD, List.getElem?_eq_getElem (by omega)]; rfl
    rw [e]
    generalize bs[i] = u at ci ⊢
    have hsc := hs.2
    clear hc hr e
    go_enter Tryd.func40, Tryd.ntmps40
    go_wp2
    go_ret
    exact ⟨rfl, rfl⟩
  · have e : bs.getD i 0 = 0 := by rw [List.getD_eq_getElem?_getD, List.getElem?_eq_none (by have := hr.1; omega)]; rfl
    rw [e]
    clear e hr
    go_enter Tryd.func40, Tryd.ntmps40
    go_wp2
    go_ret
    exact ⟨rfl, rfl⟩

theorem on_any {w : World} {S : Nat → Prop} {d T : Nat} {s : Dk} (h : DiskIs w S d T s) (hT : T < 1000000000) (A : Option Addr) (n c : Nat) (bs : List UInt8) (hr : Rd (fun b => ¬ S b) w A n bs) (hs : Sl A n c) :
    Calls Tryd.prog 19 #[.pointer (some ⟨d, 0, none⟩), .slice A n c] w fun E w' => E = .returned (.int .i64 (s.on bs).2) ∧ DiskIs w' S d T (s.on bs).1 ∧ Turns S w w' := by
  have hSd := h.here
  have hlt := h.lt
  have H1 := h.alloc (.cells #[.slice A n c] 29)
  have HR1 : Hid (Rd (fun b => ¬ S b) (w.alloc (.cells #[.slice A n c] 29)) A n bs) := Lib.hid (hr.turns ((Turns.refl S w).alloc _) (fun _ h => h))
  have HT1 : Hid (Turns S w (w.alloc (.cells #[.slice A n c] 29))) := Lib.hid ((Turns.refl S w).alloc _)
  have hq1 := row_new w [.slice A n c] 29
  obtain ⟨fused, left, ms, ml, mn, L, gs, gl, gn, h1⟩ := H1
  obtain ⟨c0, _⟩ := h1.cells
  have f0 := free_block h1.hd 0
  have HD := Lib.hid h1
  have HQ := Lib.hid hq1
  have HS := Lib.hid hs
  unfold Dk.on
  clear h h1 hr hq1
  by_cases ho : s.off = true
  · rw [if_pos ho]
    have HQS : Hid (¬ S w.heap.size) := Lib.hid (fun e => by have := hlt _ e; omega)
    generalize hW : w.alloc (.cells #[.slice A n c] 29) = W at *
    have HQ' : Hid (W.heap[w.heap.size]? = some (.cells [Value.slice A n c].toArray 29 (0, 0))) := Lib.hid (by rw [← hW]; exact row_new w _ _)
    clear HQ
    go_enter Tryd.func19, Tryd.ntmps19
    rw [ho] at c0
    go_wp2_with (first
      | (go_at_call 15; refine (fuse_any ⟨_, _, _, _, _, _, _, _, _, HD.out.set0 false⟩ (-1) (by omega)).mono ?_; rintro E w2 ⟨rfl, h2, t2⟩; have H2 := Lib.hid h2; have T2 : Hid (Turns S W w2) := Lib.hid ((turns_cell hSd _ _).trans t2); clear h2 t2)
      | (go_at_call 39; refine (settle_by 40 #[.pointer (some ⟨w.heap.size, 0, none⟩)] enter35 (fun i => (bs.getD i 0).toNat) H2.out hT (fun i W' _ ht => on1_any w.heap.size (block_cell (((T2.out.trans ht).block _ (Array.getElem?_eq_some_iff.1 HQ'.out).1 HQS.out).trans HQ'.out) 0 _ rfl) (HR1.out.turns (T2.out.trans ht) (fun _ h => h)) HS.out i)).mono ?_; rintro E w3 ⟨rfl, h3, t3⟩))
    go_ret
    exact ⟨rfl, h3, (HT1.out.trans T2.out).trans t3⟩
  · rw [if_neg ho]
    have ho' : s.off = false := by simpa using ho
    rw [ho'] at c0
    go_enter Tryd.func19, Tryd.ntmps19
    go_wp2
    go_ret
    exact ⟨rfl, ⟨_, _, _, _, _, _, _, _, _, HD.out⟩, HT1.out⟩
end Go.Proofs.YtepjfkmbmcfnoaaDoor

namespace Go.Proofs.YtepjfkmbmcfnoaaDoor
open Go.RowKit

def secOf (u : UInt8) : List UInt8 := List.replicate 128 u
theorem secOf_length (u : UInt8) : (secOf u).length = 128 := by simp [secOf]
theorem secOf_zero : secOf 0 = zeros := rfl

/-- While a sector of one byte is filled. -/
def BAt (u : UInt8) (w : World) (k : Nat) (wr : World) : Prop :=
  Below w.heap.size w wr ∧ wr.heap[w.heap.size]? = some (.cells (u8s zeros).toArray 61 (0, 0)) ∧ wr.heap[w.heap.size + 1]? = some (.cells (u8s (List.replicate k u ++ List.replicate (128 - k) 0)).toArray 61 (0, 0))

theorem u8s_set (l : List UInt8) (k : Nat) (x : UInt8) : (u8s l).set k (.int .u8 (x.toNat : Int)) = u8s (l.set k x) := by simp [u8s]
theorem fill_set (u : UInt8) (k : Nat) (hk : k < 128) : (List.replicate k u ++ List.replicate (128 - k) (0 : UInt8)).set k u = List.replicate (k + 1) u ++ List.replicate (128 - (k + 1)) 0 := by
  rw [List.set_append_right _ _ (by simp), List.length_replicate, Nat.sub_self, show 128 - k = (128 - (k + 1)) + 1 by omega, List.replicate_succ, List.set_cons_zero, List.replicate_succ' (n := k), List.append_assoc]
  rfl
theorem below_gb {B : Nat} {w a b : World} (h : Below B w a) {g : Nat} (hg : a.grownBy b (some g)) (hB : B ≤ g) (hz : B ≤ a.heap.size) : Below B w b :=
  ⟨hg.os.trans h.os, hg.tape.trans h.tape, hg.output.trans h.output, Nat.le_trans h.size hg.size, fun k hk => (hg.block k (by omega) (fun e => by injection e with e; omega)).trans (h.block k hk)⟩

theorem Tryd.size5 : (Tryd.prog.info? 5).map (·.size) = some 1 := by kernel_rfl

set_option maxHeartbeats 1000000 in
set_option maxRecDepth 100000 in
theorem bytes_any (u : UInt8) (w : World) : Calls Tryd.prog 25 #[.int .u8 (u.toNat : Int)] w fun E w' => E = .returned (.agg (u8s (secOf u)).toArray) ∧ Below w.heap.size w w' := by
  obtain ⟨Z, hZ⟩ : ∃ Z, Z = u8s zeros := ⟨_, rfl⟩
  have hz : ∀ w, (zeroValue 61).run Tryd.prog w = .ok (.agg Z.toArray) w := by rw [hZ]; exact zero33
  have HS : Hid (BAt u w 0 ((w.alloc (.cells Z.toArray 61)).alloc (.cells Z.toArray 61))) := Lib.hid (by
    rw [hZ]
    refine ⟨((Below.refl _ _).alloc (Nat.le_refl _) _).alloc (by simp) _, ?_, ?_⟩
    · rw [heap_alloc_old _ _ (by simp)]; exact row_new w _ _
    · have := row_new (w.alloc (.cells (u8s zeros).toArray 61)) (u8s zeros) 61
      rw [show (w.alloc (.cells (u8s zeros).toArray 61)).heap.size = w.heap.size + 1 by simp] at this
      exact this)
  clear hZ
  go_enter Tryd.func25, Tryd.ntmps25
  go_wp2
  go_loopw [4] (fun v4 wr => ∃ k : Nat, k ≤ 128 ∧ v4 = .int .i64 k ∧ Hid (BAt u w k wr)) (fun v4 _ => 128 - (intOf v4).toNat)
  case atStart => exact ⟨0, by omega, rfl, HS⟩
  case round =>
    clear HS
    obtain ⟨k, hk, rfl, HA⟩ := hrel
    by_cases hkk : k < 128
    · go_wp2_with (first
        | (refine wpList_store_at rfl 5 (.tmp 11) (.tmp 10) rfl (w.heap.size + 1) k (u8s (List.replicate k u ++ List.replicate (128 - k) 0)) 61 HA.out.2.2 (by simp [u8s]; omega) (.int .u8 (u.toNat : Int)) rfl rfl rfl rfl Tryd.size5 ?_; intro w2 G2))
      go_roundw
      case measure => simp [intOf]; omega
      case rel =>
        refine ⟨k + 1, by omega, by go_num, Lib.hid ⟨below_gb HA.out.1 G2.out.2 (Nat.le_succ _) HA.out.1.size, (G2.out.2.block _ (Array.getElem?_eq_some_iff.1 HA.out.2.1).1 (fun e => by injection e with e; omega)).trans HA.out.2.1, ?_⟩⟩
        rw [← fill_set u k hkk, ← u8s_set]
        exact G2.out.1
    · obtain rfl : k = 128 := by omega
      have HR : Hid (wr.heap[w.heap.size + 1]? = some (.cells (u8s (secOf u)).toArray 61 (0, 0))) := Lib.hid (by simpa [secOf] using HA.out.2.2)
      have HL : Hid ((u8s (secOf u)).length = 128) := Lib.hid (by rw [u8s_length, secOf_length])
      have HI : Hid ((Tryd.prog.info? 61).map (·.size) = some (u8s (secOf u)).length) := Lib.hid (by rw [HL.out]; exact Tryd.size61)
      go_wp2_with (first
        | (refine wpList_load_mid rfl 61 (.tmp 3) rfl (w.heap.size + 1) 0 rfl (u8s (secOf u)) _ (range_block HR.out 0 _ (fun j v hv => by rw [Nat.zero_add]; exact hv)) Tryd.underlying61 rfl HI.out ?_)
        | (refine wpList_store_all rfl 61 (.tmp 2) (.tmp 12) rfl w.heap.size (u8s zeros) (u8s (secOf u)) 61 HA.out.2.1 (by rw [HL.out, u8s_length]; rfl) rfl rfl HI.out (u8s_one _) ?_; intro w2 G2))
      exact bodyPost_ret (ret_range (cs := u8s (secOf u)) rfl rfl (range_block G2.out.1 0 _ (fun j v hv => by rw [Nat.zero_add]; exact hv)) Tryd.underlying61 rfl HI.out) rfl ⟨rfl, below_gb HA.out.1 G2.out.2 (Nat.le_refl _) HA.out.1.size⟩

/-- The call's own disk at d, and the call's own blocks L beside it: nothing that was there has turned. -/
def Dat (w : World) (d T : Nat) (s : Dk) (L : List (Nat × Obj)) (wr : World) : Prop :=
  ∃ S, DiskIs wr S d T s ∧ Own w (fun _ => False) wr S ∧ ∀ p ∈ L, w.heap.size ≤ p.1 ∧ ¬ S p.1 ∧ wr.heap[p.1]? = some p.2

section
variable {w wr w' : World} {d T : Nat} {s : Dk} {L : List (Nat × Obj)}

theorem Dat.below (h : Dat w d T s L wr) : Below w.heap.size w wr := let ⟨_, _, h2, _⟩ := h; h2.1.below (Nat.le_refl _) (fun _ x => x.elim)
theorem Dat.get (h : Dat w d T s L wr) {q : Nat} {o : Obj} (hq : (q, o) ∈ L) : wr.heap[q]? = some o := let ⟨_, _, _, h3⟩ := h; (h3 _ hq).2.2
theorem Dat.lt (h : Dat w d T s L wr) {q : Nat} {o : Obj} (hq : (q, o) ∈ L) : q < wr.heap.size := (Array.getElem?_eq_some_iff.1 (h.get hq)).1
/-- One step of the disk's. -/
theorem Dat.step {S S' : Nat → Prop} {s' : Dk} {T' : Nat} (h2 : Own w (fun _ => False) wr S) (h3 : ∀ p ∈ L, w.heap.size ≤ p.1 ∧ ¬ S p.1 ∧ wr.heap[p.1]? = some p.2) (h4 : DiskIs w' S' d T' s') (h5 : Own wr S w' S') : Dat w d T' s' L w' := by
  refine ⟨S', h4, h2.trans h5, fun p hp => ?_⟩
  obtain ⟨a, b, c⟩ := h3 p hp
  have hlt := (Array.getElem?_eq_some_iff.1 c).1
  exact ⟨a, fun x => (h5.2 _ x).elim b (fun y => by omega), (h5.1.block _ hlt b).trans c⟩
theorem Dat.next (h : Dat w d T s L wr) (hb : Below wr.heap.size wr w') : Dat w d T s L w' := by
  obtain ⟨S, h1, h2, h3⟩ := h
  exact Dat.step h2 h3 (h1.turns (Turns.of_below hb) (S' := fun _ => False) (fun _ _ x => x)) (Own.same (Turns.of_below hb))
theorem Dat.more (h : Dat w d T s L wr) {T' : Nat} (hT : T ≤ T') : Dat w d T' s L wr := let ⟨S, h1, h2, h3⟩ := h; ⟨S, h1.more hT, h2, h3⟩
/-- A new block is the call's own. -/
theorem Dat.alloc (h : Dat w d T s L wr) (o : Obj) : Dat w d T s ((wr.heap.size, o) :: L) (wr.alloc o) := by
  have hb := h.below
  have h' := h.next ((Below.refl _ wr).alloc (Nat.le_refl _) o)
  obtain ⟨S, h1, h2, h3⟩ := h
  obtain ⟨S', h1', h2', h3'⟩ := h'
  refine ⟨S, h1.alloc o, h2.trans (Own.same ((Turns.refl S wr).alloc o)), fun p hp => ?_⟩
  rcases List.mem_cons.1 hp with rfl | hp
  · exact ⟨hb.size, (fun x => Nat.lt_irrefl _ (h1.lt _ x)), heap_alloc_new wr o⟩
  · obtain ⟨a, b, c⟩ := h3 p hp
    exact ⟨a, b, (heap_alloc_old wr o (Array.getElem?_eq_some_iff.1 c).1).trans c⟩
/-- .. and may be written. -/
theorem Dat.upd {q : Nat} {o o' : Obj} (h : Dat w d T s ((q, o) :: L) wr) (hne : ∀ p ∈ L, p.1 ≠ q) (ho : w'.heap[q]? = some o') (hg : wr.grownBy w' (some q)) : Dat w d T s ((q, o') :: L) w' := by
  obtain ⟨S, h1, h2, h3⟩ := h
  obtain ⟨a, b, c⟩ := h3 (q, o) (by simp)
  refine ⟨S, h1.kept (fun k hk => hg.block k (h1.lt k hk) (fun e => by injection e with e; exact b (e ▸ hk))) hg.size, ⟨h2.1.grown hg (by rintro g e; cases e; exact .inr a), h2.2⟩, fun p hp => ?_⟩
  rcases List.mem_cons.1 hp with rfl | hp
  · exact ⟨a, b, ho⟩
  · obtain ⟨a', b', c'⟩ := h3 p (by simp [hp])
    exact ⟨a', b', (hg.block _ (Array.getElem?_eq_some_iff.1 c').1 (fun e => by injection e with e; exact hne p hp e)).trans c'⟩
theorem Dat.drop {p : Nat × Obj} (h : Dat w d T s (p :: L) wr) : Dat w d T s L wr := let ⟨S, h1, h2, h3⟩ := h; ⟨S, h1, h2, fun p hp => h3 p (by simp [hp])⟩

theorem dat_new {w0 w : World} (hb : Below w0.heap.size w0 w) : Calls Tryd.prog 10 #[] w fun E w' => ∃ d, E = .returned (.pointer (some ⟨d, 0, none⟩)) ∧ Dat w0 d 0 Dk.new [] w' ∧ w.heap.size ≤ d :=
  (new_any w).mono fun E w' ⟨d, h1, h2, h3, h4⟩ => ⟨d, h1, ⟨_, h2, ⟨(Turns.of_below hb).step (Turns.of_below h3 (S := fun _ => False)) (fun _ x => x.elim), fun k hk => .inr (by rw [hk]; exact Nat.le_trans hb.size h4)⟩, fun _ hp => (by cases hp)⟩, h4⟩
theorem dat_bytes (h : Dat w d T s L wr) (u : UInt8) : Calls Tryd.prog 25 #[.int .u8 (u.toNat : Int)] wr fun E w' => E = .returned (.agg (u8s (secOf u)).toArray) ∧ Dat w d T s L w' ∧ Below wr.heap.size wr w' :=
  (bytes_any u wr).mono fun _ _ ⟨h1, h2⟩ => ⟨h1, h.next h2, h2⟩
theorem dat_write (h : Dat w d T s L wr) (x : Int) (b : List UInt8) (hb : b.length = 128) (hT : T < 1000000000) :
    Calls Tryd.prog 24 #[.pointer (some ⟨d, 0, none⟩), .int .i64 x, .agg (u8s b).toArray] wr fun E w' => E = .returned (.int .i64 (s.write x b).2) ∧ Dat w d (T + 1) (s.write x b).1 L w' := by
  obtain ⟨S, h1, h2, h3⟩ := h
  exact (write_any h1 x b hb hT).mono fun _ _ ⟨e, S', h4, h5⟩ => ⟨e, Dat.step h2 h3 h4 h5⟩
theorem dat_read (h : Dat w d T s L wr) (x : Int) (hx : I64 x) :
    Calls Tryd.prog 64 #[.pointer (some ⟨d, 0, none⟩), .int .i64 x] wr fun E w' => E = .returned (.tuple #[.agg (u8s (s.read x).1).toArray, .int .i64 (s.read x).2]) ∧ Dat w d T s L w' ∧ Below wr.heap.size wr w' := by
  have h' := h
  obtain ⟨S, h1, h2⟩ := h
  exact (read_any h1 x hx).mono fun _ _ ⟨e, h3⟩ => ⟨e, h'.next h3, h3⟩
theorem dat_sync (h : Dat w d T s L wr) (hT : T < 1000000000) : Calls Tryd.prog 50 #[.pointer (some ⟨d, 0, none⟩)] wr fun E w' => E = .returned (.int .i64 s.sync.2) ∧ Dat w d T s.sync.1 L w' := by
  obtain ⟨S, h1, h2, h3⟩ := h
  exact (sync_any h1 hT).mono fun _ _ ⟨e, h4, h5⟩ => ⟨e, Dat.step h2 h3 h4 (Own.same h5)⟩
theorem dat_fuse (h : Dat w d T s L wr) (n : Int) (hn : n < 9223372036854775808) : Calls Tryd.prog 15 #[.pointer (some ⟨d, 0, none⟩), .int .i64 n] wr fun E w' => E = .returned (.tuple #[]) ∧ Dat w d T (s.fuseAt n) L w' := by
  obtain ⟨S, h1, h2, h3⟩ := h
  exact (fuse_any h1 n hn).mono fun _ _ ⟨e, h4, h5⟩ => ⟨e, Dat.step h2 h3 h4 (Own.same h5)⟩
theorem dat_off (h : Dat w d T s L wr) : Calls Tryd.prog 18 #[.pointer (some ⟨d, 0, none⟩)] wr fun E w' => E = .returned (.tuple #[]) ∧ Dat w d T s.offed L w' := by
  obtain ⟨S, h1, h2, h3⟩ := h
  exact (off_any h1).mono fun _ _ ⟨e, h4, h5⟩ => ⟨e, Dat.step h2 h3 h4 (Own.same h5)⟩
/-- Picks that came in. -/
theorem dat_on (h : Dat w d T s L wr) (hT : T < 1000000000) (A : Option Addr) (n c : Nat) (bs : List UInt8) (hr : Rd (fun b => b < w.heap.size) wr A n bs) (hs : Sl A n c) :
    Calls Tryd.prog 19 #[.pointer (some ⟨d, 0, none⟩), .slice A n c] wr fun E w' => E = .returned (.int .i64 (s.on bs).2) ∧ Dat w d T (s.on bs).1 L w' := by
  obtain ⟨S, h1, h2, h3⟩ := h
  refine (on_any h1 hT A n c bs ⟨hr.1, fun hn => ?_⟩ hs).mono fun _ _ ⟨e, h4, h5⟩ => ⟨e, Dat.step h2 h3 h4 (Own.same h5)⟩
  obtain ⟨b, o, e, hb, hp, hc⟩ := hr.2 hn
  exact ⟨b, o, e, hb, (fun x => (h2.2 b x).elim id (fun y => by have hp' : b < w.heap.size := hp; omega)), hc⟩
/-- Picks that are the call's own. -/
theorem dat_on_own (h : Dat w d T s L wr) (hT : T < 1000000000) (q n c : Nat) (o : Obj) (hq : (q, o) ∈ L) (bs : List UInt8) (hl : bs.length = n) (hc : ∀ j u, bs[j]? = some u → wr.cell? ⟨q, j, none⟩ = some (.int .u8 (u.toNat : Int))) (hn : n ≤ c) (hc9 : c ≤ 9223372036854775807) :
    Calls Tryd.prog 19 #[.pointer (some ⟨d, 0, none⟩), .slice (some ⟨q, 0, none⟩) n c] wr fun E w' => E = .returned (.int .i64 (s.on bs).2) ∧ Dat w d T (s.on bs).1 L w' := by
  obtain ⟨S, h1, h2, h3⟩ := h
  exact (on_any h1 hT _ n c bs ⟨hl, fun _ => ⟨q, 0, rfl, (Array.getElem?_eq_some_iff.1 (h3 _ hq).2.2).1, (h3 _ hq).2.1, fun j u hu => by rw [Nat.zero_add]; exact hc j u hu⟩⟩ ⟨(fun e => (by cases e)), hn, hc9⟩).mono fun _ _ ⟨e, h4, h5⟩ => ⟨e, Dat.step h2 h3 h4 (Own.same h5)⟩
/-- Picks in a block that was laid just now. -/
theorem dat_on_lit (h : Dat w d T s L wr) (hT : T < 1000000000) (bs : List UInt8) (hl : bs.length < 1000000) :
    Calls Tryd.prog 19 #[.pointer (some ⟨d, 0, none⟩), .slice (some ⟨wr.heap.size, 0, none⟩) bs.length bs.length] (wr.alloc (.cells (u8s bs).toArray 5)) fun E w' => E = .returned (.int .i64 (s.on bs).2) ∧ Dat w d T (s.on bs).1 L w' :=
  (dat_on_own (h.alloc (.cells (u8s bs).toArray 5)) hT wr.heap.size bs.length bs.length (.cells (u8s bs).toArray 5) (by simp) bs rfl (fun j u hu => block_cell (row_new wr (u8s bs) 5) j _ (by simp [u8s, hu])) (Nat.le_refl _) (by omega)).mono fun _ _ ⟨e, h4⟩ => ⟨e, h4.drop⟩
/-- No picks. -/
theorem dat_on_nil (h : Dat w d T s L wr) (hT : T < 1000000000) :
    Calls Tryd.prog 19 #[.pointer (some ⟨d, 0, none⟩), .slice none 0 0] wr fun E w' => E = .returned (.int .i64 (s.on []).2) ∧ Dat w d T (s.on []).1 L w' :=
  dat_on h hT none 0 0 [] ⟨rfl, fun h => absurd h (by omega)⟩ ⟨fun _ => ⟨rfl, rfl⟩, Nat.le_refl _, by omega⟩
end
end Go.Proofs.YtepjfkmbmcfnoaaDoor
