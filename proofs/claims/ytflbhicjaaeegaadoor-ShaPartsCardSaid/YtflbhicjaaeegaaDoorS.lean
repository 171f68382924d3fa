/-
  What is proved: the walk of ShaBlocks for whatever comes in. Conditions as stated.
-/
import Derived.Test.YtflbhicjaaeegaaDoorO
import Derived.Test.YtflbhicjaaeegaaDoorN
import Derived.Lib.QuietBelow
import Derived.Great.BuildSlice
namespace Go.Proofs.YtflbhicjaaeegaaDoor
open Go.RowKit Go.Sort

theorem Tryd.zero42 : ((Tryd.prog.info? 42).bind (·.zero)).map (·.cells.size) = some (K.map fun x => (x.toNat : Int)).length := by kernel_rfl
theorem k_cells : (K.map fun x => (x.toNat : Int)).map (Value.int .u32) = u32s K := by rw [List.map_map]; rfl
theorem kRef_any (w : World) : Calls Tryd.prog 22 #[] w fun E w' => E = .returned (.agg (u32s K).toArray) ∧ Below w.heap.size w w' := by
  have HI : Hid ((Tryd.prog.info? 42).map (·.size) = some (u32s K).length) := Lib.hid (by rw [u32s_length]; exact Tryd.size42)
  have HT : Hid ((u32s K).length = 64) := Lib.hid (by rw [u32s_length]; rfl)
  go_enter Tryd.func22, Tryd.ntmps22
  go_wp2_with (first
    | (refine wpList_buildFlatArr rfl 42 22 64 _ rfl .u32 (K.map fun x => (x.toNat : Int)) Tryd.underlying42 Tryd.info22 Tryd.zero42 (by kernel_rfl) ?_; rw [k_cells])
    | (refine wpList_store_fresh rfl 42 (.tmp 0) (.tmp 1) rfl (u32s K) rfl rfl HT.out.symm HI.out (u32s_one _) ?_; intro w2 G2))
  exact bodyPost_ret (ret_range rfl rfl G2.out.2.1 Tryd.underlying42 rfl HI.out) rfl ⟨rfl, G2.out.1⟩

theorem zip_comm : ∀ (a b : List UInt32), List.zipWith (· + ·) a b = List.zipWith (· + ·) b a
  | [], b => by cases b <;> rfl
  | _ :: _, [] => rfl
  | x :: a, y :: b => by simp only [List.zipWith_cons_cons, UInt32.add_comm x y, zip_comm a b]
theorem first8_list (h : List UInt32) (hl : h.length = 8) : (first8 h).list = h := by
  match h, hl with
  | [a, b, c, d, e, f, g, h'], _ => rfl

theorem refBlock_any (h : List UInt32) (b : List UInt8) (w : World) (hl : h.length = 8) (hb64 : b.length = 64) :
    Calls Tryd.prog 10 #[.agg (u32s h).toArray, .agg (u8s b).toArray] w fun E w' => E = .returned (.agg (u32s (blockOf h b)).toArray) ∧ Below w.heap.size w w' := by
  have := refBlock_by h K b (sched b) (rnds K (sched b 48) (first8 h)) w hl hb64 (by decide) rfl (fun _ => rfl) (sched_length b) (first8_list h hl) (fun _ => rfl) kRef_any
  rw [zip_comm] at this
  exact this

set_option maxHeartbeats 400000 in
theorem shaBlocks_by (h r : List UInt32) (b : List UInt8) (w : World) (hW : Works) (hk : KIs w) (h0 : 0 < w.heap.size) (hl : h.length = 8) (hb64 : b.length = 64) (hr8 : r.length = 8)
    (hA : ∀ w : World, KIs w → 0 < w.heap.size → Calls Tryd.prog 9 #[.agg (u32s h).toArray, .agg (u8s b).toArray] w fun E w' => E = .returned (.agg (u32s r).toArray) ∧ Below w.heap.size w w')
    (hB : ∀ w : World, Calls Tryd.prog 10 #[.agg (u32s h).toArray, .agg (u8s b).toArray] w fun E w' => E = .returned (.agg (u32s r).toArray) ∧ Below w.heap.size w w') :
    Calls Tryd.prog 3 #[.agg (u32s h).toArray, .agg (u8s b).toArray] w fun E w' => E = .returned (.bool true) ∧ Below w.heap.size w w' := by
  have heq := eq_nums r hr8
  have hgd := Tryd.guard23
  have HI8 : Hid ((Tryd.prog.info? 23).map (·.size) = some (u32s h).length) := Lib.hid (by rw [u32s_length, hl]; exact Tryd.size23)
  have HLB : Hid ((Tryd.prog.info? 24).map (·.size) = some (u8s b).length) := Lib.hid (by simp only [u8s, List.length_map, hb64]; exact Tryd.size24)
  have HB1 : Hid (Below w.heap.size w ((w.alloc (.cells (u32s h).toArray 23)).alloc (.cells (u8s b).toArray 24))) := Lib.hid (((Below.refl _ _).alloc (Nat.le_refl _) _).alloc (by simp) _)
  have HR0 : Hid (((w.alloc (.cells (u32s h).toArray 23)).alloc (.cells (u8s b).toArray 24)).rangeAt w.heap.size 0 (u32s h)) := Lib.hid (World.rangeAt_alloc (range_new w _ _) _)
  have HR1 : Hid (((w.alloc (.cells (u32s h).toArray 23)).alloc (.cells (u8s b).toArray 24)).rangeAt (w.heap.size + 1) 0 (u8s b)) := Lib.hid (range_new2 w _ _ _)
  have HS1 : Hid (w.heap.size + 1 < ((w.alloc (.cells (u32s h).toArray 23)).alloc (.cells (u8s b).toArray 24)).heap.size) := Lib.hid (by simp)
  have HK := Lib.hid hk
  have HA := Lib.hid hA
  have HB := Lib.hid hB
  have HW := Lib.hid hW
  clear hA hB hW hk hl hb64 hr8
  go_enter Tryd.func3, Tryd.ntmps3
  go_wp2
  generalize (w.alloc (.cells (u32s h).toArray 23)).alloc (.cells (u8s b).toArray 24) = w1 at HB1 HR0 HR1 HS1 ⊢
  have hsz : ∀ d os, 0 < (grow (redrawn w1 d) os).heap.size := fun d os => Nat.lt_of_lt_of_le h0 (Nat.le_trans HB1.out.size (below_regrown w1 d os).size)
  have hkk : ∀ d os, KIs (grow (redrawn w1 d) os) := fun d os => (HK.out.below HB1.out h0).below (below_regrown w1 d os) (Nat.lt_of_lt_of_le h0 HB1.out.size)
  have cA : Hid (∀ d os, Calls Tryd.prog 9 #[.agg (u32s h).toArray, .agg (u8s b).toArray] (grow (redrawn w1 d) os) fun e w'' => e = .returned (.agg (u32s r).toArray) ∧ ∃ p : Regrown, w'' = grow (redrawn w1 p.d) p.os) := Lib.hid fun d os => Calls.regrown_of (HA.out _ (hkk d os) (hsz d os))
  have cB : Hid (∀ d os, Calls Tryd.prog 10 #[.agg (u32s h).toArray, .agg (u8s b).toArray] (grow (redrawn w1 d) os) fun e w'' => e = .returned (.agg (u32s r).toArray) ∧ ∃ p : Regrown, w'' = grow (redrawn w1 p.d) p.os) := Lib.hid fun d os => Calls.regrown_of (HB.out _)
  have cC : Hid (∀ d os, Calls Tryd.prog 11 #[] (grow (redrawn w1 d) os) fun e w'' => e = .returned (.bool true) ∧ ∃ p : Regrown, w'' = grow (redrawn w1 p.d) p.os) := Lib.hid fun d os => Calls.regrown_of (HW.out _ (hkk d os) (hsz d os))
  have r0 : Hid (∀ w', (∃ p : Regrown, w' = grow (redrawn w1 p.d) p.os) → w'.rangeAt w.heap.size 0 (u32s h)) := Lib.hid fun w' ⟨p, hp⟩ => by rw [hp]; exact rangeAt_below HR0.out (below_regrown w1 p.d p.os) (by have := HS1.out; omega)
  have r1 : Hid (∀ w', (∃ p : Regrown, w' = grow (redrawn w1 p.d) p.os) → w'.rangeAt (w.heap.size + 1) 0 (u8s b)) := Lib.hid fun w' ⟨p, hp⟩ => by rw [hp]; exact rangeAt_below HR1.out (below_regrown w1 p.d p.os) HS1.out
  clear hsz hkk
  refine wp_region_quiet_below (by kernel_rfl) (by kernel_rfl) ?_
  refine wpQuiet_load_cells rfl 23 (.tmp 2) rfl w.heap.size 0 rfl (u32s h) _ r0.out Tryd.underlying23 rfl HI8.out ?_
  simp only [Act.put, List.setIfInBounds_toArray, List.set_cons_succ, List.set_cons_zero]
  refine wpQuiet_load_cells rfl 24 (.tmp 3) rfl (w.heap.size + 1) 0 rfl (u8s b) _ r1.out Tryd.underlying24 rfl HLB.out ?_
  simp only [Act.put, List.setIfInBounds_toArray, List.set_cons_succ, List.set_cons_zero]
  quiet_step (exact cA.out _ _)
  refine wpQuiet_load_cells rfl 23 (.tmp 2) rfl w.heap.size 0 rfl (u32s h) _ r0.out Tryd.underlying23 rfl HI8.out ?_
  simp only [Act.put, List.setIfInBounds_toArray, List.set_cons_succ, List.set_cons_zero]
  refine wpQuiet_load_cells rfl 24 (.tmp 3) rfl (w.heap.size + 1) 0 rfl (u8s b) _ r1.out Tryd.underlying24 rfl HLB.out ?_
  simp only [Act.put, List.setIfInBounds_toArray, List.set_cons_succ, List.set_cons_zero]
  quiet_step (exact cB.out _ _)
  repeat (quiet_step (exact cC.out _ _))
  refine wpQuiet_nil ?_
  intro _ hw'
  obtain ⟨⟨dq, osq⟩, hw''⟩ := hw'
  subst hw''
  go_wp2
  go_ret
  exact ⟨rfl, HB1.out.trans ((below_regrown w1 dq osq).mono HB1.out.size)⟩

theorem shaBlocks_walk (hW : Works) (W : World) (hk : KIs W) (h0 : 0 < W.heap.size) (v : Value) (hv : ∃ h : List UInt32, v = .agg (u32s h).toArray ∧ h.length = 8) (u : Value) (hu : ∃ b : List UInt8, u = .agg (u8s b).toArray ∧ b.length = 64) :
    Calls Tryd.prog 3 #[v, u] W fun E w' => E = .returned (.bool true) ∧ Below W.heap.size W w' := by
  obtain ⟨h, rfl, hl⟩ := hv
  obtain ⟨b, rfl, hb⟩ := hu
  exact shaBlocks_by h (blockOf h b) b W hW hk h0 hl hb (by rw [blockOf, List.length_zipWith, hl, mixedOf_length]; rfl) (fun w hk h0 => block_any h b w hl hb hk h0) (fun w => refBlock_any h b w hl hb)
end Go.Proofs.YtflbhicjaaeegaaDoor
