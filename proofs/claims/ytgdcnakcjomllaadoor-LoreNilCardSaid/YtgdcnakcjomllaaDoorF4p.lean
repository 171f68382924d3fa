/-
  What is proved: whether numbers are below others. Conditions as stated.
-/
import Derived.Test.YtgdcnakcjomllaaDoorF3p
namespace Go.Proofs.YtgdcnakcjomllaaDoor.Sh
open Go.RowKit
set_option maxRecDepth 100000

/-- Is one of a's numbers below that of b? -/
def blwTo (a b : List Nat) (j : Nat) : Bool := ((a.zip b).take j).any fun p => decide (p.1 < p.2)
def blw (a b : List Nat) : Bool := blwTo a b 11
theorem blwTo_succ {a b : List Nat} {j x y : Nat} (ha : a[j]? = some x) (hb : b[j]? = some y) : blwTo a b (j + 1) = (blwTo a b j || decide (x < y)) := by
  have : (a.zip b)[j]? = some (x, y) := by simp [List.getElem?_zip_eq_some, ha, hb]
  simp [blwTo, List.take_add_one, this]
theorem blw_true {a b : List Nat} (ha : a.length = 11) (hb : b.length = 11) : blw a b = true ↔ ∃ (j x y : Nat), a[j]? = some x ∧ b[j]? = some y ∧ x < y := by
  have e : (a.zip b).take 11 = a.zip b := List.take_of_length_le (by simp; omega)
  rw [blw, blwTo, e]
  simp only [List.any_eq_true, decide_eq_true_eq]
  constructor
  · rintro ⟨p, hp, h⟩
    obtain ⟨j, hj⟩ := List.getElem?_of_mem hp
    rw [List.getElem?_zip_eq_some] at hj
    exact ⟨j, p.1, p.2, hj.1, hj.2, h⟩
  · rintro ⟨j, x, y, hx, hy, h⟩
    exact ⟨(x, y), List.mem_of_getElem? (List.getElem?_zip_eq_some.2 ⟨hx, hy⟩), h⟩
theorem held_gen {G : World → Prop} {V : World} (S : World → Prop) (h : S V) (k : ∀ W, S W → G W) : G V := k V h
set_option maxHeartbeats 2000000 in
theorem below_any (a c : List Nat) (ha : a.length = 11) (hc : c.length = 11) (w : World) :
    Calls Tryd.prog 19 #[.agg (u64s a).toArray, .agg (u64s c).toArray] w fun E w' => E = .returned (.bool (blw a c)) ∧ Below w.heap.size w w' := by
  have R := two_boxed w (u64s a) (u64s c) 24 24
  have HA := Lib.hid (fun (j x : Nat) (h : a[j]? = some x) => R.1 j (.int .u64 (x : Int)) (by simp [u64s, h]))
  have HC := Lib.hid (fun (j x : Nat) (h : c[j]? = some x) => R.2 j (.int .u64 (x : Int)) (by simp [u64s, h]))
  have HB : Hid (Below w.heap.size w ((w.alloc (.cells (u64s a).toArray 24)).alloc (.cells (u64s c).toArray 24)) ∧ w.heap.size + 1 < ((w.alloc (.cells (u64s a).toArray 24)).alloc (.cells (u64s c).toArray 24)).heap.size) := Lib.hid ⟨((Below.refl _ _).alloc (Nat.le_refl _) _).alloc (by simp) _, by simp⟩
  have HLa := Lib.hid ha
  have HLc := Lib.hid hc
  obtain ⟨w0, hw0⟩ : ∃ w0, w0 = ((w.alloc (.cells (u64s a).toArray 24)).alloc (.cells (u64s c).toArray 24)) := ⟨_, rfl⟩
  have HE := Lib.hid hw0
  rw [← hw0] at HA HC HB
  clear ha hc R hw0
  go_enter Tryd.func19, Tryd.ntmps19
  go_wp2_with fail
  rw [← HE.out]
  have H0 : Hid (Below w0.heap.size w0 w0) := Lib.hid (Below.refl _ _)
  go_loopw [6] (fun v6 wr => ∃ j : Nat, j ≤ 11 ∧ v6 = .int .i64 (j : Int) ∧ Hid (blwTo a c j = false) ∧ Hid (Below w0.heap.size w0 wr)) (fun v6 _ => 11 - (intOf v6).toNat)
  case atStart => exact ⟨0, by omega, rfl, Lib.hid rfl, H0⟩
  case round =>
    obtain ⟨j, hj, rfl, HBl, D⟩ := hrel
    by_cases hjj : j < 11
    · have hdec : decide ((j : Int) < (11 : Int)) = true := decide_eq_true (by omega)
      have hj0 : (0 : Int) ≤ (j : Int) := by omega
      have hjn : (j : Int) < (11 : Int) := by omega
      have htn : ((j : Int)).toNat = j := by omega
      have hw1 : IntKind.i64.wrap ((j : Int) + 1) = (j : Int) + 1 := by rw [IntKind.wrap_i64]; omega
      obtain ⟨x, hx⟩ : ∃ x, a[j]? = some x := ⟨_, List.getElem?_eq_getElem (by rw [HLa.out]; omega)⟩
      obtain ⟨y, hy⟩ : ∃ y, c[j]? = some y := ⟨_, List.getElem?_eq_getElem (by rw [HLc.out]; omega)⟩
      have HX : Hid (blwTo a c (j + 1) = decide (x < y)) := Lib.hid (by rw [blwTo_succ hx hy, HBl.out, Bool.false_or])
      have HCx := Lib.hid (HA.out j x hx)
      have HCy := Lib.hid (HC.out j y hy)
      rw [Nat.zero_add] at HCx HCy
      have HTr : Hid (x < y → blw a c = true) := Lib.hid fun h => (blw_true HLa.out HLc.out).2 ⟨j, x, y, hx, hy, h⟩
      clear hx hy
      by_cases hlt : x < y
      · have HLt := Lib.hid hlt
        clear hlt
        go_wp2_with fail
        refine wp_region_any (by kernel_rfl) ?_
        change wpAny _ _ _ _ _ _ _ (World.drewN _ 1)
        refine held_gen (G := fun W' => wpAny _ _ _ _ _ _ _ W') (fun W' => Below w0.heap.size w0 W') (below_drewN D.out 1) (fun x0 hw => ?_)
        have HX0 := Lib.hid hw
        clear hw D
        have c1 := (HX0.out.cell (p := ⟨w.heap.size, j, none⟩) (by have := HB.out.2; show w.heap.size < _; omega)).trans HCx.out
        have c2 := (HX0.out.cell (p := ⟨w.heap.size + 1, j, none⟩) HB.out.2).trans HCy.out
        have HS0 := Lib.hid (And.intro (Below.refl x0.heap.size x0) (And.intro c1 c2))
        clear c1 c2
        refine wpAny_of_held (S := fun W' => Below x0.heap.size x0 W' ∧ W'.cell? ⟨w.heap.size, j, none⟩ = some (.int .u64 (x : Int)) ∧ W'.cell? ⟨w.heap.size + 1, j, none⟩ = some (.int .u64 (y : Int))) _ _ _ _ ?_
        refine tk 0 ⟨some 9, .move (.tmp 5), _, _, _, none⟩ (.int .i64 (j : Int)) rfl (by kernel_rfl) (fun _ _ _ h => h) (HS0.out) (fun W hSW => by go_simp) ?_
        try simp only [Act.put, l0, l1, l2]
        refine tk 1 ⟨some 10, .indexAddr 24 (.tmp 2) (.tmp 9), _, _, _, none⟩ (.pointer (some ⟨w.heap.size, j, none⟩)) rfl (by kernel_rfl) (fun _ _ _ h => h) (HS0.out) (fun W hSW => by go_simp) ?_
        try simp only [Act.put, l0, l1, l2]
        refine tk 2 ⟨some 11, .load 22 (.tmp 10), _, _, _, none⟩ (.int .u64 (x : Int)) rfl (by kernel_rfl) (fun _ _ _ h => h) (HS0.out) (fun W hSW => by have hv := hSW.2.1; go_simp) ?_
        try simp only [Act.put, l0, l1, l2]
        refine tk 3 ⟨some 12, .move (.tmp 5), _, _, _, none⟩ (.int .i64 (j : Int)) rfl (by kernel_rfl) (fun _ _ _ h => h) (HS0.out) (fun W hSW => by go_simp) ?_
        try simp only [Act.put, l0, l1, l2]
        refine tk 4 ⟨some 13, .indexAddr 24 (.tmp 3) (.tmp 12), _, _, _, none⟩ (.pointer (some ⟨w.heap.size + 1, j, none⟩)) rfl (by kernel_rfl) (fun _ _ _ h => h) (HS0.out) (fun W hSW => by go_simp) ?_
        try simp only [Act.put, l0, l1, l2]
        refine tk 5 ⟨some 14, .load 22 (.tmp 13), _, _, _, none⟩ (.int .u64 (y : Int)) rfl (by kernel_rfl) (fun _ _ _ h => h) (HS0.out) (fun W hSW => by have hv := hSW.2.2; go_simp) ?_
        try simp only [Act.put, l0, l1, l2]
        refine tk 6 ⟨some 15, .binOp .lss 22 (.tmp 11) (.tmp 14) 22, _, _, _, none⟩ (.bool true) rfl (by kernel_rfl) (fun _ _ _ h => h) (HS0.out) (fun W hSW => by have hlt : (x : Int) < (y : Int) := (by have := HLt.out; omega); go_simp) ?_
        try simp only [Act.put, l0, l1, l2]
        refine wpAnyH_done (by kernel_rfl) ?_ _
        go_wp2_with fail
        go_ret
        exact ⟨by rw [HTr.out HLt.out]; rfl, HB.out.1.trans (HX0.out.mono HB.out.1.size)⟩
      · have HLt := Lib.hid hlt
        have HX2 : Hid (blwTo a c (j + 1) = false) := Lib.hid (by rw [HX.out]; exact decide_eq_false hlt)
        clear hlt
        go_wp2_with fail
        refine wp_region_any (by kernel_rfl) ?_
        change wpAny _ _ _ _ _ _ _ (World.drewN _ 1)
        refine held_gen (G := fun W' => wpAny _ _ _ _ _ _ _ W') (fun W' => Below w0.heap.size w0 W') (below_drewN D.out 1) (fun x0 hw => ?_)
        have HX0 := Lib.hid hw
        clear hw D
        have c1 := (HX0.out.cell (p := ⟨w.heap.size, j, none⟩) (by have := HB.out.2; show w.heap.size < _; omega)).trans HCx.out
        have c2 := (HX0.out.cell (p := ⟨w.heap.size + 1, j, none⟩) HB.out.2).trans HCy.out
        have HS0 := Lib.hid (And.intro (Below.refl x0.heap.size x0) (And.intro c1 c2))
        clear c1 c2
        refine wpAny_of_held (S := fun W' => Below x0.heap.size x0 W' ∧ W'.cell? ⟨w.heap.size, j, none⟩ = some (.int .u64 (x : Int)) ∧ W'.cell? ⟨w.heap.size + 1, j, none⟩ = some (.int .u64 (y : Int))) _ _ _ _ ?_
        refine tk 0 ⟨some 9, .move (.tmp 5), _, _, _, none⟩ (.int .i64 (j : Int)) rfl (by kernel_rfl) (fun _ _ _ h => h) (HS0.out) (fun W hSW => by go_simp) ?_
        try simp only [Act.put, l0, l1, l2]
        refine tk 1 ⟨some 10, .indexAddr 24 (.tmp 2) (.tmp 9), _, _, _, none⟩ (.pointer (some ⟨w.heap.size, j, none⟩)) rfl (by kernel_rfl) (fun _ _ _ h => h) (HS0.out) (fun W hSW => by go_simp) ?_
        try simp only [Act.put, l0, l1, l2]
        refine tk 2 ⟨some 11, .load 22 (.tmp 10), _, _, _, none⟩ (.int .u64 (x : Int)) rfl (by kernel_rfl) (fun _ _ _ h => h) (HS0.out) (fun W hSW => by have hv := hSW.2.1; go_simp) ?_
        try simp only [Act.put, l0, l1, l2]
        refine tk 3 ⟨some 12, .move (.tmp 5), _, _, _, none⟩ (.int .i64 (j : Int)) rfl (by kernel_rfl) (fun _ _ _ h => h) (HS0.out) (fun W hSW => by go_simp) ?_
        try simp only [Act.put, l0, l1, l2]
        refine tk 4 ⟨some 13, .indexAddr 24 (.tmp 3) (.tmp 12), _, _, _, none⟩ (.pointer (some ⟨w.heap.size + 1, j, none⟩)) rfl (by kernel_rfl) (fun _ _ _ h => h) (HS0.out) (fun W hSW => by go_simp) ?_
        try simp only [Act.put, l0, l1, l2]
        refine tk 5 ⟨some 14, .load 22 (.tmp 13), _, _, _, none⟩ (.int .u64 (y : Int)) rfl (by kernel_rfl) (fun _ _ _ h => h) (HS0.out) (fun W hSW => by have hv := hSW.2.2; go_simp) ?_
        try simp only [Act.put, l0, l1, l2]
        refine tk 6 ⟨some 15, .binOp .lss 22 (.tmp 11) (.tmp 14) 22, _, _, _, none⟩ (.bool false) rfl (by kernel_rfl) (fun _ _ _ h => h) (HS0.out) (fun W hSW => by have hlt : ¬ (x : Int) < (y : Int) := (by have := HLt.out; omega); go_simp) ?_
        try simp only [Act.put, l0, l1, l2]
        refine wpAnyH_done (by kernel_rfl) ?_ _
        go_wp2_with fail
        go_roundw
        case measure => simp [intOf] <;> omega
        case rel => exact ⟨j + 1, by omega, by go_num, HX2, HX0⟩
    · obtain rfl : j = 11 := by omega
      go_wp2_with fail
      go_ret
      exact ⟨by rw [show blw a c = false from HBl.out]; rfl, HB.out.1.trans (D.out.mono HB.out.1.size)⟩
end Go.Proofs.YtgdcnakcjomllaaDoor.Sh
