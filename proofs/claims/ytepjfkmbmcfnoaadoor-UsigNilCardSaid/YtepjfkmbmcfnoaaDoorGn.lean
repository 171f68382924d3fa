/-
  What is proved: the walk of UsigNil for whatever comes in. Conditions as stated.
-/
import Derived.Test.YtepjfkmbmcfnoaaDoorGi
namespace Go.Proofs.YtepjfkmbmcfnoaaDoor
open Go.RowKit
set_option maxRecDepth 100000

set_option maxHeartbeats 4000000 in
theorem usigNil_walk (W : World) (hK : Sh.KIs W) (h0 : 0 < W.heap.size) (i : Int) (_ : (Lit.int .i64 i).wf = true) (x : Int) (_ : (Lit.int .i64 x).wf = true) (A : Option Addr) (n c : Nat) (_ : ∃ bs, Rd (fun _ => True) W A n bs ∧ Sl A n c) :
    Calls Tryd.prog 6 #[.int .i64 i, .int .i64 x, .slice A n c] W fun E w' => E = .returned (.bool true) ∧ Below W.heap.size W w' := by
  have HW : Hid (∀ W', Below W.heap.size W W' → Calls Tryd.prog 9 #[] W' fun E w' => E = .returned (.bool true) ∧ Below W'.heap.size W' w') := Lib.hid fun W' hb => works_any W' (hK.below hb h0) (Nat.lt_of_lt_of_le h0 hb.size)
  have HR : Hid (Below W.heap.size W W) := Lib.hid (Below.refl _ _)
  clear hK
  by_cases hn : 4096 < n
  · go_enter Tryd.func6, Tryd.ntmps6
    go_wp2_with (first | (go_at_call 9; refine (HW.out _ HR.out).mono ?_; rintro E wz ⟨rfl, hbz⟩))
    go_ret
    exact ⟨rfl, hbz⟩
  · obtain ⟨Z, hZ⟩ : ∃ Z, Z = u8s noTag := ⟨_, rfl⟩
    have hz : ∀ w, (zeroValue 36).run Tryd.prog w = .ok (.agg Z.toArray) w := by rw [hZ]; exact zero_tag
    have HIZ : Hid ((Tryd.prog.info? 36).map (·.size) = some Z.length) := Lib.hid (by rw [hZ]; exact tag_info rfl)
    have HOZ : Hid (∀ v ∈ Z, v.oneCell' = true) := Lib.hid (by rw [hZ]; exact u8s_one _)
    have HZZ := Lib.hid hZ
    clear hZ
    have HNW := Lib.hid (us_new_nil i x W)
    go_enter Tryd.func6, Tryd.ntmps6
    go_wp2_with fail
    refine HNW.out.mono ?_
    rintro E w1 ⟨rfl, HB1⟩
    clear HNW
    go_wp2_with fail
    refine (nil_next A n c w1).mono ?_
    rintro E w2 ⟨rfl, HB2⟩
    have HA2 : Hid ((w2.alloc (.cells Z.toArray 36)).heap[w2.heap.size]? = some (.cells Z.toArray 36 (0, 0))) := Lib.hid (row_new _ _ _)
    have HX2 : Hid (Below W.heap.size W w2) := Lib.hid (HB1.out.trans (HB2.out.mono HB1.out.size))
    unfold tagV
    rw [← HZZ.out]
    go_wp2_with (first | (refine wpList_store_all rfl 36 (.tmp 11) (.tmp 31) rfl w2.heap.size Z Z 36 HA2.out rfl rfl rfl HIZ.out HOZ.out ?_; intro w3 G3))
    have HX3 : Hid (Below W.heap.size W w3) := Lib.hid (below_gb (HX2.out.alloc HX2.out.size _) G3.out.2 HX2.out.size (by have := HX2.out.size; simp; omega))
    refine (nil_last w3).mono ?_
    rintro E w4 ⟨rfl, HB4⟩
    have HA4 : Hid ((w4.alloc (.cells Z.toArray 36)).heap[w4.heap.size]? = some (.cells Z.toArray 36 (0, 0))) := Lib.hid (row_new _ _ _)
    have HX4 : Hid (Below W.heap.size W w4) := Lib.hid (HX3.out.trans (HB4.out.mono HX3.out.size))
    unfold tagV
    rw [← HZZ.out]
    go_wp2_with (first | (refine wpList_store_all rfl 36 (.tmp 15) (.tmp 38) rfl w4.heap.size Z Z 36 HA4.out rfl rfl rfl HIZ.out HOZ.out ?_; intro w5 G5))
    have HX5 : Hid (Below W.heap.size W w5) := Lib.hid (below_gb (HX4.out.alloc HX4.out.size _) G5.out.2 HX4.out.size (by have := HX4.out.size; simp; omega))
    refine (us_format_nil x w5).mono ?_
    rintro E w6 ⟨rfl, HB6⟩
    have HX6 : Hid (Below W.heap.size W w6) := Lib.hid (HX5.out.trans (HB6.out.mono HX5.out.size))
    go_wp2_with fail
    refine (HW.out _ HX6.out).mono ?_
    rintro E w7 ⟨rfl, hb7⟩
    go_wp2_with fail
    go_ret
    exact ⟨rfl, HX6.out.trans (hb7.mono HX6.out.size)⟩
end Go.Proofs.YtepjfkmbmcfnoaaDoor
