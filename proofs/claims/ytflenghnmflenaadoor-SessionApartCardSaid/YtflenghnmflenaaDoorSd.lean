/-
  What is proved: Do of a table, done; Do of none. Conditions as stated.
-/
import Derived.Test.YtflenghnmflenaaDoorSc
namespace Go.Proofs.YtflenghnmflenaaDoor
open Go.RowKit
set_option maxRecDepth 100000

set_option maxHeartbeats 2000000 in
theorem sdo_new {w : World} {t : Nat} {T : List Lst} {g : Nat} {r : Option Nat} {c : Nat} {xs : List It} (hT : Tbl w t T) (h : Sys w g r c xs) (hne : ¬ On g r t) (ht : 4 ≤ t) {j : Nat} (hj : j < 8) {tm : Nat} (h0 : tm ≠ 0) (o : MOp) (tag : List Value) (hx : (lastOf T ((j : Int) + 1)).1 < tm) :
    Calls Tryd.prog 14 #[.pointer (some ⟨t, 0, none⟩), .pointer (some ⟨g, 0, none⟩), .agg (rqC (⟨(j : Int) + 1, tm, o, tag⟩ : MRq)).toArray] w fun E w' => SDoP w t T g r xs (⟨(j : Int) + 1, tm, o, tag⟩ : MRq) E w' := by
  have H0 := Lib.hid (SAt.start hT h hne ht (⟨(j : Int) + 1, tm, o, tag⟩ : MRq))
  have hcl : isCl ((j : Int) + 1) = true := isCl_iff.2 (by omega)
  obtain ⟨er, vl, he⟩ : ∃ er vl, (doR xs o).1 = (er, vl) := ⟨_, _, rfl⟩
  obtain ⟨zs, hzs⟩ : ∃ zs, zs = (doR xs o).2 := ⟨_, rfl⟩
  have HE : Hid (tR T xs (⟨(j : Int) + 1, tm, o, tag⟩ : MRq) = ((((er : Int), vl), true), T.set j (tm, ((er : Int), vl)), zs)) := Lib.hid (by rw [tR_new (mayQ_iff.2 ⟨by dsimp only; omega, h0⟩) hx, he, ← hzs]; simp [up])
  have HC : Hid (∀ W, Calls Tryd.prog 25 #[.int .i64 ((j : Int) + 1)] W fun E w' => E = .returned (.bool true) ∧ W = w') := Lib.hid fun W => by rw [← hcl]; exact client_any ((j : Int) + 1) W
  have HD : Hid (∀ W, Sys W g r c xs → Calls Tryd.prog 26 #[.pointer (some ⟨g, 0, none⟩), .agg (opC o).toArray] W fun E w' => E = .returned (.agg #[.int .i64 (er : Int), .string vl]) ∧ ∃ r' c', Sys w' g r' c' zs ∧ Own W (On g r) w' (On g r')) := Lib.hid fun W hs => (do_any hs o).mono fun E w' hd => by unfold DoP at hd; rw [he, ← hzs] at hd; exact hd
  have k0 : ((w.alloc (.cells (rqC (⟨(j : Int) + 1, tm, o, tag⟩ : MRq)).toArray 52)).alloc (.cells #[.int .i64 0, .string ⟨#[]⟩] 32)).cell? ⟨w.heap.size, 0, none⟩ = some (.int .i64 ((j : Int) + 1)) := H0.out.cell 0 _ (rq_0 _)
  have k1 : ((w.alloc (.cells (rqC (⟨(j : Int) + 1, tm, o, tag⟩ : MRq)).toArray 52)).alloc (.cells #[.int .i64 0, .string ⟨#[]⟩] 32)).cell? ⟨w.heap.size, 1, none⟩ = some (.int .u64 (tm : Int)) := H0.out.cell 1 _ (rq_1 _)
  have K1 : Hid ((rqC (⟨(j : Int) + 1, tm, o, tag⟩ : MRq))[1]? = some (.int .u64 (tm : Int))) := Lib.hid rfl
  have hwj : IntKind.i64.wrap ((j : Int) + 1 - 1) = (j : Int) := by rw [IntKind.wrap_i64]; omega
  obtain ⟨p, hp, hlast⟩ := last_at hT.len hj
  have m0 : ((w.alloc (.cells (rqC (⟨(j : Int) + 1, tm, o, tag⟩ : MRq)).toArray 52)).alloc (.cells #[.int .i64 0, .string ⟨#[]⟩] 32)).cell? ⟨t, j * 3, none⟩ = some (.int .u64 (p.1 : Int)) := H0.out.tbl.cell hp 0 _ rfl
  have hj0 : (0 : Int) ≤ (j : Int) := by omega
  have hj8 : (j : Int) < 8 := by omega
  have htn : ((j : Int)).toNat = j := by omega
  have h0' : ¬ ((tm : Int) = 0) := by omega
  have hx1 : ¬ ((tm : Int) < (p.1 : Int)) := by rw [hlast] at hx; omega
  have hx2 : ¬ ((tm : Int) = (p.1 : Int)) := by rw [hlast] at hx; omega
  have HN : Hid (T.length = 8) := Lib.hid hT.len
  clear hT h hne ht h0 hx hp hlast hcl he hzs
  go_enter Tryd.func14, Tryd.ntmps14
  go_wp2_with (go_at_call 25; refine (HC.out _).mono ?_; rintro E w1 ⟨rfl, rfl⟩)
  clear HC
  go_quiet (fail)
  go_wp2_with fail
  go_quiet (fail)
  go_wp2_with fail
  go_quiet (fail)
  go_wp2_with fail
  have HS := Lib.hid (fun k => H0.out.drewN k)
  clear H0 k0 k1 m0
  refine wp_region_any (by kernel_rfl) ?_
  change wpAny _ _ _ _ _ _ _ (World.drewN (World.drewN _ _) 1)
  refine held_gen (G := fun W => wpAny _ _ _ _ _ _ _ W) (fun W => SAt w t T g r (⟨(j : Int) + 1, tm, o, tag⟩ : MRq) W r c xs) (by first | exact (HS.out _).drewN 1 | exact ((HS.out _).drewN _).drewN 1 | exact (((HS.out _).drewN _).drewN _).drewN 1) (fun W HW0 => ?_)
  have HW := Lib.hid HW0
  clear HW0
  refine wpAny_of_held (S := fun W => W.heap[w.heap.size]? = some (.cells (rqC (⟨(j : Int) + 1, tm, o, tag⟩ : MRq)).toArray 52 (0, 0))) _ _ _ _ ?_
  refine wpAnyH_take (i := 0) (oi := { dst := some 56, op := Op.move (Operand.tmp 8), type := _, pos := _, after := _, guard := none }) (v := .pointer (some ⟨t, j * 3, none⟩)) rfl (by kernel_rfl) (by kernel_rfl) (by kernel_rfl) (fun _ _ _ h => h) (Or.inl ⟨by kernel_rfl, fun W hSW => by go_simp⟩) (HW.out.box) ?_
  try simp only [Act.put, List.setIfInBounds_toArray, List.set_cons_zero, List.set_cons_succ]
  refine wpAnyH_take (i := 1) (oi := { dst := some 57, op := Op.fieldAddr 52 (Operand.tmp 5) 1, type := _, pos := _, after := _, guard := none }) (v := .pointer (some ⟨w.heap.size, 1, none⟩)) rfl (by kernel_rfl) (by kernel_rfl) (by kernel_rfl) (fun _ _ _ h => h) (Or.inl ⟨by kernel_rfl, fun W hSW => by go_simp⟩) (HW.out.box) ?_
  try simp only [Act.put, List.setIfInBounds_toArray, List.set_cons_zero, List.set_cons_succ]
  refine wpAnyH_take (i := 2) (oi := { dst := some 58, op := Op.load 30 (Operand.tmp 57), type := _, pos := _, after := _, guard := none }) (v := .int .u64 (tm : Int)) rfl (by kernel_rfl) (by kernel_rfl) (by kernel_rfl) (fun _ _ _ h => h) (Or.inl ⟨by kernel_rfl, fun W hSW => by have hc := block_cell hSW 1 _ K1.out; go_simp⟩) (HW.out.box) ?_
  try simp only [Act.put, List.setIfInBounds_toArray, List.set_cons_zero, List.set_cons_succ]
  refine wpAnyH_take (i := 3) (oi := { dst := some 59, op := Op.move (Operand.tmp 1), type := _, pos := _, after := _, guard := none }) (v := .pointer (some ⟨g, 0, none⟩)) rfl (by kernel_rfl) (by kernel_rfl) (by kernel_rfl) (fun _ _ _ h => h) (Or.inl ⟨by kernel_rfl, fun W hSW => by go_simp⟩) (HW.out.box) ?_
  try simp only [Act.put, List.setIfInBounds_toArray, List.set_cons_zero, List.set_cons_succ]
  refine wpAnyH_take (i := 4) (oi := { dst := some 60, op := Op.fieldAddr 52 (Operand.tmp 5) 2, type := _, pos := _, after := _, guard := none }) (v := .pointer (some ⟨w.heap.size, 2, none⟩)) rfl (by kernel_rfl) (by kernel_rfl) (by kernel_rfl) (fun _ _ _ h => h) (Or.inl ⟨by kernel_rfl, fun W hSW => by go_simp⟩) (HW.out.box) ?_
  try simp only [Act.put, List.setIfInBounds_toArray, List.set_cons_zero, List.set_cons_succ]
  refine wpAnyH_take (i := 5) (oi := { dst := some 61, op := Op.load 49 (Operand.tmp 60), type := _, pos := _, after := _, guard := none }) (v := .agg (opC o).toArray) rfl (by kernel_rfl) (by kernel_rfl) (by kernel_rfl) (fun _ _ _ h => h) (Or.inl ⟨by kernel_rfl, fun W hSW => exec_load_mid 49 (.tmp 60) rfl w.heap.size 2 rfl (opC o) _ (range_block hSW 2 _ (rq_op (⟨(j : Int) + 1, tm, o, tag⟩ : MRq))) Tryd.underlying49 rfl Tryd.is49⟩) (HW.out.box) ?_
  try simp only [Act.put, List.setIfInBounds_toArray, List.set_cons_zero, List.set_cons_succ]
  refine wpAnyH_ready (rs := [6]) (by kernel_rfl) (by simp) ?_
  refine AllReadyH.cons (o := { dst := some 62, op := Op.call { callee := Callee.value (Operand.func 26), args := #[Operand.tmp 59, Operand.tmp 61], argTypes := #[40, 49] }, type := _, pos := _, after := _, guard := none }) rfl (fun K' hK' => ?_) AllReadyH.nil
  go_simp
  go_at_call 26
  refine (HD.out _ HW.out.sys).mono ?_
  rintro E w5 ⟨rfl, r5, c5, l5, q5⟩
  have H5 := Lib.hid (HW.out.next l5 q5)
  clear l5 q5
  refine hK'.out _ _ H5.out.box (fun _ => ?_)
  clear hK' K'
  try simp only [Act.put, List.setIfInBounds_toArray, List.set_cons_zero, List.set_cons_succ]
  refine wpAnyH_take (i := 7) (oi := { dst := some 63, op := Op.build 34 #[(0, Operand.tmp 58), (1, Operand.tmp 62)], type := _, pos := _, after := _, guard := none }) (v := .agg #[.int .u64 (tm : Int), .int .i64 (er : Int), .string vl]) rfl (by kernel_rfl) (by kernel_rfl) (by kernel_rfl) (fun _ _ _ h => h) (Or.inl ⟨by kernel_rfl, fun W hSW => by go_simp⟩) (H5.out.box) ?_
  try simp only [Act.put, List.setIfInBounds_toArray, List.set_cons_zero, List.set_cons_succ]
  refine wpAnyH_take (i := 8) (oi := { dst := some 64, op := Op.nilCheck (Operand.tmp 56), type := _, pos := _, after := _, guard := none }) (v := .pointer (some ⟨t, j * 3, none⟩)) rfl (by kernel_rfl) (by kernel_rfl) (by kernel_rfl) (fun _ _ _ h => h) (Or.inl ⟨by kernel_rfl, fun W hSW => by go_simp⟩) (H5.out.box) ?_
  try simp only [Act.put, List.setIfInBounds_toArray, List.set_cons_zero, List.set_cons_succ]
  refine wpAnyH_ready (rs := [9]) (by kernel_rfl) (by simp) ?_
  refine AllReadyH.cons (o := { dst := none, op := Op.store 34 (Operand.tmp 64) (Operand.tmp 63), type := _, pos := _, after := _, guard := none }) rfl (fun K' hK' => ?_) AllReadyH.nil
  rw [if_pos (by kernel_rfl)]
  refine wp_store_mid 34 (.tmp 64) (.tmp 63) rfl t (j * 3) #[.int .u64 (tm : Int), .int .i64 (er : Int), .string vl] rfl rfl (there_block H5.out.tbl.top (j * 3) 3 (by rw [tbC_length, H5.out.tbl.len]; omega)) Tryd.is34 (by simp [Value.oneCell']) ?_
  have H6 : Hid (SAt w t (T.set j (tm, ((er : Int), vl))) g r (⟨(j : Int) + 1, tm, o, tag⟩ : MRq) (w5.setCells t (j * 3) #[.int .u64 (tm : Int), .int .i64 (er : Int), .string vl].toList) r5 c5 zs) := Lib.hid (H5.out.put hj tm (er : Int) vl)
  refine hK'.out _ _ H6.out.box (fun _ => ?_)
  clear hK' K'
  try simp only [Act.put]
  refine wpAnyH_done (by kernel_rfl) ?_ _
  clear HD H5
  generalize w5.setCells t (j * 3) #[.int .u64 (tm : Int), .int .i64 (er : Int), .string vl].toList = w6 at H6 ⊢
  have HP : Hid ((T.set j (tm, ((er : Int), vl)))[j]? = some (tm, ((er : Int), vl))) := Lib.hid (List.getElem?_set_self (by rw [HN.out]; exact hj))
  have n1 : w6.cell? ⟨t, j * 3 + 1, none⟩ = some (.int .i64 (er : Int)) := H6.out.tbl.cell HP.out 1 _ rfl
  have n2 : w6.cell? ⟨t, j * 3 + 2, none⟩ = some (.string vl) := H6.out.tbl.cell HP.out 2 _ rfl
  have HZ := Lib.hid (fun x y => H6.out.fin x y)
  obtain ⟨d0, d1, f0, f1⟩ := H6.out.out
  clear H6
  go_wp2_with fail
  (try simp only [Exit.inBlock, Exit.then]); refine bodyPost_ret (ret_ct (g := w.heap.size + 1) rfl rfl rfl (range_all (HZ.out _ _).1) Tryd.underlying32 rfl Tryd.is32) rfl ?_
  show SDoP w t T g r xs _ _ _
  unfold SDoP
  rw [HE.out]
  exact ⟨rfl, (HZ.out _ _).2⟩
end Go.Proofs.YtflenghnmflenaaDoor
