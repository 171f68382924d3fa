/-
  What is proved: what one loose write does when it is settled. Conditions as stated.
-/
import Derived.Test.YtfegffdhlkhjbaaDd
namespace Go.Proofs.Ytfegffdhlkhjbaa
open Go.RowKit

theorem wpQuiet_load_cells {P : Program} {ops : Array Oper} {C : World → Prop} {Q : Act → Prop} {rest : List Oper} {op : Oper} {a : Act} (hgd : op.guard = none) (ty : TypeId) (x : Operand) (ho : op.op = .load ty x)
    (b o : Nat) (hx : a.eval x = .pointer (some ⟨b, o, none⟩)) (cs : List Value) (d : TypeDesc) (hc : ∀ w, C w → w.rangeAt b o cs)
    (hu : P.underlying ty = some d) (hd : d.isRow = true) (hi : (P.info? ty).map (·.size) = some cs.length)
    (h : wpQuiet P ops C Q rest (a.put op.dst (.agg cs.toArray))) : wpQuiet P ops C Q (op :: rest) a := by
  have hw : Region.wanted op (yielded ops a.tmps) = true := by simp [Region.wanted, hgd]
  unfold wpQuiet
  rw [if_pos hw]
  refine ⟨.agg cs.toArray, fun w hC => ?_, h⟩
  unfold Oper.quietAt execOp
  simp only [ho, hx, Instr.loadAt, Instr.sureAddr, Sem.run_bind, Sem.run_pure, Result.andThen_ok, run_loadVar_mid w b o ty cs d (hc w hC) hu hd hi]
  exact ⟨rfl, rfl⟩

/-- What a sector has that is sure. -/
def view (gs : Int → Option (List UInt8)) (gl : Int → Bool) (x : Int) : Option (List UInt8) := if gl x then none else some ((gs x).getD zeros)

theorem view_put (gs : Int → Option (List UInt8)) (gl : Int → Bool) (x : Int) (b : List UInt8) (y : Int) : view (upd gs x (some b)) (upd gl x false) y = upd (view gs gl) x (some b) y := by
  unfold view
  by_cases h : y = x
  · subst h; simp [upd_same]
  · simp [upd_other _ _ h]
theorem view_tear (gs : Int → Option (List UInt8)) (gl : Int → Bool) (x : Int) (y : Int) : view (upd gs x none) (upd gl x true) y = upd (view gs gl) x none y := by
  unfold view
  by_cases h : y = x
  · subst h; simp [upd_same]
  · simp [upd_other _ _ h]
theorem vS_put (gs : Int → Option (List UInt8)) (x : Int) (b : List UInt8) (y : Int) : upd (vS gs) x (some (.agg (u8s b).toArray)) y = vS (upd gs x (some b)) y := by
  unfold vS
  by_cases h : y = x
  · subst h; simp [upd_same]
  · simp [upd_other _ _ h]
theorem vS_del (gs : Int → Option (List UInt8)) (x : Int) (y : Int) : upd (vS gs) x none y = vS (upd gs x none) y := by
  unfold vS
  by_cases h : y = x
  · subst h; simp [upd_same]
  · simp [upd_other _ _ h]
theorem vL_put (gl : Int → Bool) (x : Int) (y : Int) : upd (vL gl) x (some (.bool true)) y = vL (upd gl x true) y := by
  unfold vL
  by_cases h : y = x
  · subst h; simp [upd_same]
  · simp [upd_other _ _ h]
theorem vL_del (gl : Int → Bool) (x : Int) (y : Int) : upd (vL gl) x none y = vL (upd gl x false) y := by
  unfold vL
  by_cases h : y = x
  · subst h; simp [upd_same]
  · simp [upd_other _ _ h]
theorem vN_del (gn : Int → Option Nat) (x : Int) (y : Int) : upd (vN gn) x none y = vN (upd gn x none) y := by
  unfold vN
  by_cases h : y = x
  · subst h; simp [upd_same]
  · simp [upd_other _ _ h]

set_option maxHeartbeats 2000000 in
set_option maxRecDepth 100000 in
theorem do_any {w : World} {d n bs bl : Nat} {off fused : Bool} {left : Int} {mn : Option Nat} {L : Value} {gs : Int → Option (List UInt8)} {gl : Int → Bool}
    (hd : w.heap[d]? = some (.cells (dcells off fused left (some bs) (some bl) L mn).toArray 60 (0, 0))) (h1 : World.mapAt w bs n (vS gs)) (h2 : World.mapAt w bl n (vL gl)) (hne : bs ≠ bl)
    (x : Int) (b : List UInt8) (p : Nat) (hx : 0 ≤ x ∧ x < 32768) (hb : b.length = 128) (hn : n < 1000000000) (hg : ∀ y c, gs y = some c → c.length = 128) :
    Calls Try.prog 53 #[.pointer (some ⟨d, 0, none⟩), .agg (wcells (x, b)).toArray, .int .u8 (p : Int)] w fun E w' => E = .returned (.tuple #[]) ∧ ∃ gs' gl', World.mapAt w' bs (n + 1) (vS gs') ∧ World.mapAt w' bl (n + 1) (vL gl') ∧
      (∀ y, view gs' gl' y = done (view gs gl) (x, b) p y) ∧ (∀ y c, gs' y = some c → c.length = 128) ∧ Turns (fun k => k = bs ∨ k = bl) w w' := by
  have hIx : I64 x := i64_of (by omega)
  have hdl : d < w.heap.size := (Array.getElem?_eq_some_iff.1 hd).1
  have hd1 : (w.alloc (.cells (wcells (x, b)).toArray 75)).heap[d]? = some (.cells (dcells off fused left (some bs) (some bl) L mn).toArray 60 (0, 0)) := (heap_alloc_old _ _ hdl).trans hd
  have hq1 := row_new w (wcells (x, b)) 75
  have m1 := mapAt_kept h1 (heap_alloc_old w (.cells (wcells (x, b)).toArray 75) (mapAt_lt h1))
  have m2 := mapAt_kept h2 (heap_alloc_old w (.cells (wcells (x, b)).toArray 75) (mapAt_lt h2))
  have HT1 : Hid (Turns (fun k => k = bs ∨ k = bl) w (w.alloc (.cells (wcells (x, b)).toArray 75))) := Lib.hid ((Turns.refl _ w).alloc _)
  have hp : p % 4 = 0 ∨ p % 4 = 1 ∨ p % 4 = 2 ∨ p % 4 = 3 := by omega
  rcases hp with hp | hp | hp | hp
  · have e : ∀ y, view gs gl y = done (view gs gl) (x, b) p y := fun y => by simp [done, hp]
    have hp' : (p : Int) % 4 = 0 := by omega
    have M1 := Lib.hid m1
    have M2 := Lib.hid m2
    clear h1 h2 m1 m2 hd hd1 hq1
    go_enter Try.func53, Try.ntmps53
    go_wp2
    exact bodyPost_end (results_none rfl _ _ _) rfl ⟨rfl, gs, gl, mapAt_mono M1.out (Nat.le_succ _), mapAt_mono M2.out (Nat.le_succ _), e, hg, HT1.out⟩
  · have hp' : (p : Int) % 4 = 1 := by omega
    have e : ∀ y, view (upd gs x (some b)) (upd gl x false) y = done (view gs gl) (x, b) p y := fun y => by rw [view_put]; simp [done, hp]
    generalize hw1 : w.alloc (.cells (wcells (x, b)).toArray 75) = w1 at *
    have c3 : w1.cell? ⟨d, 3, none⟩ = some (.map (some bs)) := block_cell hd1 3 _ rfl
    have c4 : w1.cell? ⟨d, 4, none⟩ = some (.map (some bl)) := block_cell hd1 4 _ rfl
    have cq : w1.cell? ⟨w.heap.size, 0, none⟩ = some (.int .i64 x) := block_cell hq1 0 _ rfl
    have HQ : Hid (∀ W : World, W = w1.drewN 1 → W.rangeAt w.heap.size 1 (u8s b)) := Lib.hid (fun W hW => by subst hW; exact range_block (w := w1.drewN 1) hq1 1 _ (fun j v hv => by rw [Nat.add_comm]; simpa [wcells] using hv))
    have HI : Hid ((Try.prog.info? 43).map (·.size) = some (u8s b).length) := Lib.hid (by rw [u8s_length, hb]; exact Try.size43)
    have M1 := Lib.hid m1
    have M2 := Lib.hid m2
    have HD := Lib.hid hd1
    have HQ1 := Lib.hid hq1
    clear h1 h2 m1 m2 hd hd1 hq1
    go_enter Try.func53, Try.ntmps53
    go_wp2
    try simp only [Act.put, List.setIfInBounds_toArray, List.set_cons_zero, List.set_cons_succ]
    refine wp_region_quiet_tail 8 (by kernel_rfl) (by kernel_rfl) ?_
    simp only [List.take_succ_cons, List.take_zero, List.drop_succ_cons, List.drop_zero]
    repeat (first
      | go_big_quiet_skip
      | (refine wpQuiet_load_cells rfl 43 (.tmp 17) rfl w.heap.size 1 rfl (u8s b) _ HQ.out Try.underlying43 rfl HI.out ?_)
      | (go_big_quiet_want; go_big_quiet_op; go_big_quiet_on))
    refine wpQuiet_nil ?_
    refine wpList_put_at rfl (.tmp 14) (.tmp 16) (.tmp 18) 55 43 rfl Try.underlying55 bs n (vS gs) rfl M1.out (by unfold maxLen; omega) x (.agg (u8s b).toArray) rfl rfl hIx ?_
    intro w2 N1 T1
    clear c3 c4 cq
    have k4 : w2.cell? ⟨d, 4, none⟩ = some (.map (some bl)) := T1.out.grown.cell (block_cell HD.out 4 _ rfl) (fun e0 => by
      injection e0 with e0
      obtain ⟨es, c, h0⟩ := mapAt_block M1.out
      rw [← e0] at h0
      have := HD.out.symm.trans h0
      cases this)
    have kq : w2.cell? ⟨w.heap.size, 0, none⟩ = some (.int .i64 x) := T1.out.grown.cell (block_cell HQ1.out 0 _ rfl) (fun e0 => by
      injection e0 with e0
      obtain ⟨es, c, h0⟩ := mapAt_block M1.out
      rw [← e0] at h0
      have := HQ1.out.symm.trans h0
      cases this)
    have N2 : Hid (World.mapAt w2 bl n (vL gl)) := Lib.hid (mapAt_kept M2.out (T1.out.grown.block bl (mapAt_lt M2.out) (fun e0 => by injection e0 with e0; exact hne e0.symm)))
    go_wp2
    try simp only [Act.put, List.setIfInBounds_toArray, List.set_cons_zero, List.set_cons_succ]
    refine wp_region_quiet_tail 6 (by kernel_rfl) (by kernel_rfl) ?_
    simp only [List.take_succ_cons, List.take_zero, List.drop_succ_cons, List.drop_zero]
    repeat (first
      | go_big_quiet_skip
      | (go_big_quiet_want; go_big_quiet_op; go_big_quiet_on))
    refine wpQuiet_nil ?_
    refine wpList_del_at rfl (.tmp 22) (.tmp 24) 56 4 rfl Try.underlying56 bl n (vL gl) rfl N2.out x rfl hIx ?_
    intro w3 N3 T3
    go_wp2
    exact bodyPost_end (results_none rfl _ _ _) rfl ⟨rfl, _, _, mapAt_congr (mapAt_kept N1.out (T3.out.grown.block bs (mapAt_lt N1.out) (fun e0 => by injection e0 with e0; exact hne e0))) (vS_put gs x b), mapAt_mono (mapAt_congr N3.out (vL_del gl x)) (Nat.le_succ _), e,
      (fun y c h0 => by
        by_cases hy : y = x
        · subst hy; rw [upd_same] at h0; injection h0 with h0; rw [← h0]; exact hb
        · rw [upd_other _ _ hy] at h0; exact hg y c h0), (HT1.out.grown (gb_drew T1.out.grown) (by rintro g e0; cases e0; exact .inl (.inl rfl))).grown (gb_drew T3.out.grown) (by rintro g e0; cases e0; exact .inl (.inr rfl))⟩
  · have hp' : (p : Int) % 4 = 2 := by omega
    have e : ∀ y, view (upd gs x none) (upd gl x true) y = done (view gs gl) (x, b) p y := fun y => by rw [view_tear]; simp [done, hp]
    generalize hw1 : w.alloc (.cells (wcells (x, b)).toArray 75) = w1 at *
    have c3 : w1.cell? ⟨d, 3, none⟩ = some (.map (some bs)) := block_cell hd1 3 _ rfl
    have c4 : w1.cell? ⟨d, 4, none⟩ = some (.map (some bl)) := block_cell hd1 4 _ rfl
    have cq : w1.cell? ⟨w.heap.size, 0, none⟩ = some (.int .i64 x) := block_cell hq1 0 _ rfl
    have M1 := Lib.hid m1
    have M2 := Lib.hid m2
    have HD := Lib.hid hd1
    have HQ1 := Lib.hid hq1
    clear h1 h2 m1 m2 hd hd1 hq1
    go_enter Try.func53, Try.ntmps53
    go_wp2
    try simp only [Act.put]
    refine wp_region_quiet_tail 6 (by kernel_rfl) (by kernel_rfl) ?_
    simp only [List.take_succ_cons, List.take_zero, List.drop_succ_cons, List.drop_zero]
    repeat (first
      | go_big_quiet_skip
      | (go_big_quiet_want; go_big_quiet_op; go_big_quiet_on))
    refine wpQuiet_nil ?_
    refine wpList_put_at rfl (.tmp 30) (.tmp 32) (.const (Value.bool true)) 56 4 rfl Try.underlying56 bl n (vL gl) rfl M2.out (by unfold maxLen; omega) x (.bool true) rfl rfl hIx ?_
    intro w2 N2 T2
    clear c3 c4 cq
    have k3 : w2.cell? ⟨d, 3, none⟩ = some (.map (some bs)) := T2.out.grown.cell (block_cell HD.out 3 _ rfl) (fun e0 => by
      injection e0 with e0
      obtain ⟨es, c, h0⟩ := mapAt_block M2.out
      rw [← e0] at h0
      have := HD.out.symm.trans h0
      cases this)
    have kq : w2.cell? ⟨w.heap.size, 0, none⟩ = some (.int .i64 x) := T2.out.grown.cell (block_cell HQ1.out 0 _ rfl) (fun e0 => by
      injection e0 with e0
      obtain ⟨es, c, h0⟩ := mapAt_block M2.out
      rw [← e0] at h0
      have := HQ1.out.symm.trans h0
      cases this)
    have N1 : Hid (World.mapAt w2 bs n (vS gs)) := Lib.hid (mapAt_kept M1.out (T2.out.grown.block bs (mapAt_lt M1.out) (fun e0 => by injection e0 with e0; exact hne e0)))
    go_wp2
    try simp only [Act.put]
    refine wp_region_quiet_tail 6 (by kernel_rfl) (by kernel_rfl) ?_
    simp only [List.take_succ_cons, List.take_zero, List.drop_succ_cons, List.drop_zero]
    repeat (first
      | go_big_quiet_skip
      | (go_big_quiet_want; go_big_quiet_op; go_big_quiet_on))
    refine wpQuiet_nil ?_
    refine wpList_del_at rfl (.tmp 36) (.tmp 38) 55 43 rfl Try.underlying55 bs n (vS gs) rfl N1.out x rfl hIx ?_
    intro w3 N3 T3
    go_wp2
    exact bodyPost_end (results_none rfl _ _ _) rfl ⟨rfl, _, _, mapAt_mono (mapAt_congr N3.out (vS_del gs x)) (Nat.le_succ _), mapAt_congr (mapAt_kept N2.out (T3.out.grown.block bl (mapAt_lt N2.out) (fun e0 => by injection e0 with e0; exact hne e0.symm))) (vL_put gl x), e,
      (fun y c h0 => by
        by_cases hy : y = x
        · subst hy; rw [upd_same] at h0; cases h0
        · rw [upd_other _ _ hy] at h0; exact hg y c h0), (HT1.out.grown (gb_drew T2.out.grown) (by rintro g e0; cases e0; exact .inl (.inr rfl))).grown (gb_drew T3.out.grown) (by rintro g e0; cases e0; exact .inl (.inl rfl))⟩
  · have hp' : (p : Int) % 4 = 3 := by omega
    have e : ∀ y, view (upd gs x (some b)) (upd gl x false) y = done (view gs gl) (x, b) p y := fun y => by rw [view_put]; simp [done, hp]
    generalize hw1 : w.alloc (.cells (wcells (x, b)).toArray 75) = w1 at *
    have c3 : w1.cell? ⟨d, 3, none⟩ = some (.map (some bs)) := block_cell hd1 3 _ rfl
    have c4 : w1.cell? ⟨d, 4, none⟩ = some (.map (some bl)) := block_cell hd1 4 _ rfl
    have cq : w1.cell? ⟨w.heap.size, 0, none⟩ = some (.int .i64 x) := block_cell hq1 0 _ rfl
    have HQ : Hid (∀ W : World, W = w1.drewN 1 → W.rangeAt w.heap.size 1 (u8s b)) := Lib.hid (fun W hW => by subst hW; exact range_block (w := w1.drewN 1) hq1 1 _ (fun j v hv => by rw [Nat.add_comm]; simpa [wcells] using hv))
    have HI : Hid ((Try.prog.info? 43).map (·.size) = some (u8s b).length) := Lib.hid (by rw [u8s_length, hb]; exact Try.size43)
    have M1 := Lib.hid m1
    have M2 := Lib.hid m2
    have HD := Lib.hid hd1
    have HQ1 := Lib.hid hq1
    clear h1 h2 m1 m2 hd hd1 hq1
    go_enter Try.func53, Try.ntmps53
    go_wp2
    try simp only [Act.put, List.setIfInBounds_toArray, List.set_cons_zero, List.set_cons_succ]
    refine wp_region_quiet_tail 8 (by kernel_rfl) (by kernel_rfl) ?_
    simp only [List.take_succ_cons, List.take_zero, List.drop_succ_cons, List.drop_zero]
    repeat (first
      | go_big_quiet_skip
      | (refine wpQuiet_load_cells rfl 43 (.tmp 17) rfl w.heap.size 1 rfl (u8s b) _ HQ.out Try.underlying43 rfl HI.out ?_)
      | (go_big_quiet_want; go_big_quiet_op; go_big_quiet_on))
    refine wpQuiet_nil ?_
    refine wpList_put_at rfl (.tmp 14) (.tmp 16) (.tmp 18) 55 43 rfl Try.underlying55 bs n (vS gs) rfl M1.out (by unfold maxLen; omega) x (.agg (u8s b).toArray) rfl rfl hIx ?_
    intro w2 N1 T1
    clear c3 c4 cq
    have k4 : w2.cell? ⟨d, 4, none⟩ = some (.map (some bl)) := T1.out.grown.cell (block_cell HD.out 4 _ rfl) (fun e0 => by
      injection e0 with e0
      obtain ⟨es, c, h0⟩ := mapAt_block M1.out
      rw [← e0] at h0
      have := HD.out.symm.trans h0
      cases this)
    have kq : w2.cell? ⟨w.heap.size, 0, none⟩ = some (.int .i64 x) := T1.out.grown.cell (block_cell HQ1.out 0 _ rfl) (fun e0 => by
      injection e0 with e0
      obtain ⟨es, c, h0⟩ := mapAt_block M1.out
      rw [← e0] at h0
      have := HQ1.out.symm.trans h0
      cases this)
    have N2 : Hid (World.mapAt w2 bl n (vL gl)) := Lib.hid (mapAt_kept M2.out (T1.out.grown.block bl (mapAt_lt M2.out) (fun e0 => by injection e0 with e0; exact hne e0.symm)))
    go_wp2
    try simp only [Act.put, List.setIfInBounds_toArray, List.set_cons_zero, List.set_cons_succ]
    refine wp_region_quiet_tail 6 (by kernel_rfl) (by kernel_rfl) ?_
    simp only [List.take_succ_cons, List.take_zero, List.drop_succ_cons, List.drop_zero]
    repeat (first
      | go_big_quiet_skip
      | (go_big_quiet_want; go_big_quiet_op; go_big_quiet_on))
    refine wpQuiet_nil ?_
    refine wpList_del_at rfl (.tmp 22) (.tmp 24) 56 4 rfl Try.underlying56 bl n (vL gl) rfl N2.out x rfl hIx ?_
    intro w3 N3 T3
    go_wp2
    exact bodyPost_end (results_none rfl _ _ _) rfl ⟨rfl, _, _, mapAt_congr (mapAt_kept N1.out (T3.out.grown.block bs (mapAt_lt N1.out) (fun e0 => by injection e0 with e0; exact hne e0))) (vS_put gs x b), mapAt_mono (mapAt_congr N3.out (vL_del gl x)) (Nat.le_succ _), e,
      (fun y c h0 => by
        by_cases hy : y = x
        · subst hy; rw [upd_same] at h0; injection h0 with h0; rw [← h0]; exact hb
        · rw [upd_other _ _ hy] at h0; exact hg y c h0), (HT1.out.grown (gb_drew T1.out.grown) (by rintro g e0; cases e0; exact .inl (.inl rfl))).grown (gb_drew T3.out.grown) (by rintro g e0; cases e0; exact .inl (.inr rfl))⟩
end Go.Proofs.Ytfegffdhlkhjbaa
