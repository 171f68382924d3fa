/- Laws and walks. -/
import Derived.Test.YtllbbcifcbkgeaaGreatDoorF2a
set_option maxHeartbeats 16000000
set_option maxRecDepth 100000
namespace Go.Proofs.YtllbbcifcbkgeaaGreatDoor.Sh
open Go.RowKit
def blwTo (a b : List Nat) (j : Nat) : Bool := ((a.zip b).take j).any fun p => decide (p.1 < p.2)
def blw (a b : List Nat) : Bool := blwTo a b 11
theorem blwTo_succ {a b : List Nat} {j x y : Nat} (ha : a[j]? = some x) (hb : b[j]? = some y) : blwTo a b (j + 1) = (blwTo a b j || decide (x < y)) := by
 have : (a.zip b)[j]? = some (x, y) := by simp [List.getElem?_zip_eq_some, ha, hb]
 simp [blwTo, List.take_add_one, this]
theorem blw_true {a b : List Nat} (ha : a.length = 11) (hb : b.length = 11) : blw a b = true ↔ ∃ (j x y : Nat), a[j]? = some x /\ b[j]? = some y /\ x < y := by
 have e : (a.zip b).take 11 = a.zip b := List.take_of_length_le (by simp; omega)
 rw [blw, blwTo, e]
 simp only [List.any_eq_true, decide_eq_true_eq]
 constructor
 ·rintro ⟨p, hp, h⟩
  obtain ⟨j, hj⟩ := List.getElem?_of_mem hp
  rw [List.getElem?_zip_eq_some] at hj
  exact ⟨j, p.1, p.2, hj.1, hj.2, h⟩
 ·rintro ⟨j, x, y, hx, hy, h⟩
  exact ⟨(x, y), List.mem_of_getElem? (List.getElem?_zip_eq_some.2 ⟨hx, hy⟩), h⟩
theorem held_gen {G : World -> Prop} {V : World} (S : World -> Prop) (h : S V) (k : ∀ W, S W -> G W) : G V := k V h
theorem below_any (a c : List Nat) (ha : a.length = 11) (hc : c.length = 11) (w : World) :
  Calls Tryz.prog 44 #[.agg (u64s a).toArray, .agg (u64s c).toArray] w fun E w' => E = .returned (.bool (blw a c)) /\ Below w.heap.size w w' := by
 have R := two_boxed w (u64s a) (u64s c) 27 27
 have HA := iq (fun (j x : Nat) (h : a[j]? = some x) => R.1 j (.int .u64 (x : Int)) (by simp [u64s, h]))
 have HC := iq (fun (j x : Nat) (h : c[j]? = some x) => R.2 j (.int .u64 (x : Int)) (by simp [u64s, h]))
 have HB : Hid (Below w.heap.size w ((w.alloc (.cells (u64s a).toArray 27)).alloc (.cells (u64s c).toArray 27)) /\ w.heap.size + 1 < ((w.alloc (.cells (u64s a).toArray 27)).alloc (.cells (u64s c).toArray 27)).heap.size) := iq ⟨(bl.alloc (Nat.le_refl _) _).alloc (by simp) _, by simp⟩
 have HLa := iq ha
 have HLc := iq hc
 obtain ⟨w0, hw0⟩ : ∃ w0, w0 = ((w.alloc (.cells (u64s a).toArray 27)).alloc (.cells (u64s c).toArray 27)) := ⟨_, rfl⟩
 have HE := iq hw0
 rw [<- hw0] at HA HC HB
 clear ha hc R hw0
 go_enter Tryz.func44, Tryz.ntmps44
 go_wp2_with fail
 rw [<- HE.out]
 have H0 : Hid (Below w0.heap.size w0 w0) := iq bl
 go_loopw [6] (fun v6 wr => ∃ j : Nat, j <= 11 /\ v6 = .int .i64 (j : Int) /\ Hid (blwTo a c j = false) /\ Hid (Below w0.heap.size w0 wr)) (fun v6 _ => 11 - (intOf v6).toNat)
 case atStart => exact ⟨0, by omega, rfl, iq rfl, H0⟩
 case round =>
  obtain ⟨j, hj, rfl, HBl, D⟩ := hrel
  by_cases hjj : j < 11
  ·have hdec : decide ((j : Int) < (11 : Int)) = true := decide_eq_true (by omega)
   have hj0 : (0 : Int) <= (j : Int) := by omega
   have hjn : (j : Int) < (11 : Int) := by omega
   have htn : ((j : Int)).toNat = j := by omega
   have hw1 : IntKind.i64.wrap ((j : Int) + 1) = (j : Int) + 1 := by rw [IntKind.wrap_i64]; omega
   obtain ⟨x, hx⟩ : ∃ x, a[j]? = some x := ⟨_, List.getElem?_eq_getElem (by rw [HLa.out]; omega)⟩
   obtain ⟨y, hy⟩ : ∃ y, c[j]? = some y := ⟨_, List.getElem?_eq_getElem (by rw [HLc.out]; omega)⟩
   have HX : Hid (blwTo a c (j + 1) = decide (x < y)) := iq (by rw [blwTo_succ hx hy, HBl.out, Bool.false_or])
   have HCx := iq (HA.out j x hx)
   have HCy := iq (HC.out j y hy)
   rw [Nat.zero_add] at HCx HCy
   have HTr : Hid (x < y -> blw a c = true) := iq fun h => (blw_true HLa.out HLc.out).2 ⟨j, x, y, hx, hy, h⟩
   clear hx hy
   by_cases hlt : x < y
   ·have HLt := iq hlt
    clear hlt
    go_wp2_with fail
    refine wp_region_any (by kernel_rfl) ?_
    change wpAny _ _ _ _ _ _ _ (World.drewN _ 1)
    refine held_gen (G := fun W' => wpAny _ _ _ _ _ _ _ W') (fun W' => Below w0.heap.size w0 W') (below_drewN D.out 1) (fun x0 hw => ?_)
    have HX0 := iq hw
    clear hw D
    have c1 := (HX0.out.cell (p := ⟨w.heap.size, j, none⟩) (by have := HB.out.2; show w.heap.size < _; omega)).trans HCx.out
    have c2 := (HX0.out.cell (p := ⟨w.heap.size + 1, j, none⟩) HB.out.2).trans HCy.out
    have HS0 := iq (And.intro (Below.refl x0.heap.size x0) (And.intro c1 c2))
    clear c1 c2
    refine wpAny_of_held (S := fun W' => Below x0.heap.size x0 W' /\ W'.cell? ⟨w.heap.size, j, none⟩ = some (.int .u64 (x : Int)) /\ W'.cell? ⟨w.heap.size + 1, j, none⟩ = some (.int .u64 (y : Int))) _ _ _ _ ?_
    refine tk 0 ⟨some 9, .move (.tmp 5), _, _, _, none⟩ (.int .i64 (j : Int)) rfl (by kernel_rfl) (fun _ _ _ => id) (HS0.out) (fun W hSW => by go_simp) ?_
    try simp only [Act.put, l0, l1, l2]
    refine tk 1 ⟨some 10, .indexAddr 27 (.tmp 2) (.tmp 9), _, _, _, none⟩ (.pointer (some ⟨w.heap.size, j, none⟩)) rfl (by kernel_rfl) (fun _ _ _ => id) (HS0.out) (fun W hSW => by go_simp) ?_
    try simp only [pu, l0, l1, l2]
    refine tk 2 ⟨some 11, .load 25 (.tmp 10), _, _, _, none⟩ (.int .u64 (x : Int)) rfl (by kernel_rfl) (fun _ _ _ => id) (HS0.out) (fun W hSW => by have hv := hSW.2.1; go_simp) ?_
    try simp only [pu, l0, l1, l2]
    refine tk 3 ⟨some 12, .move (.tmp 5), _, _, _, none⟩ (.int .i64 (j : Int)) rfl (by kernel_rfl) (fun _ _ _ => id) (HS0.out) (fun W hSW => by go_simp) ?_
    try simp only [pu, l0, l1, l2]
    refine tk 4 ⟨some 13, .indexAddr 27 (.tmp 3) (.tmp 12), _, _, _, none⟩ (.pointer (some ⟨w.heap.size + 1, j, none⟩)) rfl (by kernel_rfl) (fun _ _ _ => id) (HS0.out) (fun W hSW => by go_simp) ?_
    try simp only [pu, l0, l1, l2]
    refine tk 5 ⟨some 14, .load 25 (.tmp 13), _, _, _, none⟩ (.int .u64 (y : Int)) rfl (by kernel_rfl) (fun _ _ _ => id) (HS0.out) (fun W hSW => by have hv := hSW.2.2; go_simp) ?_
    try simp only [pu, l0, l1, l2]
    refine tk 6 ⟨some 15, .binOp .lss 25 (.tmp 11) (.tmp 14) 25, _, _, _, none⟩ (.bool true) rfl (by kernel_rfl) (fun _ _ _ => id) (HS0.out) (fun W hSW => by have hlt : (x : Int) < (y : Int) := (by have := HLt.out; omega); go_simp) ?_
    try simp only [pu, l0, l1, l2]
    refine wpAnyH_done (by kernel_rfl) ?_ _
    go_wp2_with fail
    go_ret
    exact ⟨by rw [HTr.out HLt.out]; rfl, HB.out.1.trans (HX0.out.mono HB.out.1.size)⟩
   ·have HLt := iq hlt
    have HX2 : Hid (blwTo a c (j + 1) = false) := iq (by rw [HX.out]; exact decide_eq_false hlt)
    clear hlt
    go_wp2_with fail
    refine wp_region_any (by kernel_rfl) ?_
    change wpAny _ _ _ _ _ _ _ (World.drewN _ 1)
    refine held_gen (G := fun W' => wpAny _ _ _ _ _ _ _ W') (fun W' => Below w0.heap.size w0 W') (below_drewN D.out 1) (fun x0 hw => ?_)
    have HX0 := iq hw
    clear hw D
    have c1 := (HX0.out.cell (p := ⟨w.heap.size, j, none⟩) (by have := HB.out.2; show w.heap.size < _; omega)).trans HCx.out
    have c2 := (HX0.out.cell (p := ⟨w.heap.size + 1, j, none⟩) HB.out.2).trans HCy.out
    have HS0 := iq (And.intro (Below.refl x0.heap.size x0) (And.intro c1 c2))
    clear c1 c2
    refine wpAny_of_held (S := fun W' => Below x0.heap.size x0 W' /\ W'.cell? ⟨w.heap.size, j, none⟩ = some (.int .u64 (x : Int)) /\ W'.cell? ⟨w.heap.size + 1, j, none⟩ = some (.int .u64 (y : Int))) _ _ _ _ ?_
    refine tk 0 ⟨some 9, .move (.tmp 5), _, _, _, none⟩ (.int .i64 (j : Int)) rfl (by kernel_rfl) (fun _ _ _ => id) (HS0.out) (fun W hSW => by go_simp) ?_
    try simp only [Act.put, l0, l1, l2]
    refine tk 1 ⟨some 10, .indexAddr 27 (.tmp 2) (.tmp 9), _, _, _, none⟩ (.pointer (some ⟨w.heap.size, j, none⟩)) rfl (by kernel_rfl) (fun _ _ _ => id) (HS0.out) (fun W hSW => by go_simp) ?_
    try simp only [pu, l0, l1, l2]
    refine tk 2 ⟨some 11, .load 25 (.tmp 10), _, _, _, none⟩ (.int .u64 (x : Int)) rfl (by kernel_rfl) (fun _ _ _ => id) (HS0.out) (fun W hSW => by have hv := hSW.2.1; go_simp) ?_
    try simp only [pu, l0, l1, l2]
    refine tk 3 ⟨some 12, .move (.tmp 5), _, _, _, none⟩ (.int .i64 (j : Int)) rfl (by kernel_rfl) (fun _ _ _ => id) (HS0.out) (fun W hSW => by go_simp) ?_
    try simp only [pu, l0, l1, l2]
    refine tk 4 ⟨some 13, .indexAddr 27 (.tmp 3) (.tmp 12), _, _, _, none⟩ (.pointer (some ⟨w.heap.size + 1, j, none⟩)) rfl (by kernel_rfl) (fun _ _ _ => id) (HS0.out) (fun W hSW => by go_simp) ?_
    try simp only [pu, l0, l1, l2]
    refine tk 5 ⟨some 14, .load 25 (.tmp 13), _, _, _, none⟩ (.int .u64 (y : Int)) rfl (by kernel_rfl) (fun _ _ _ => id) (HS0.out) (fun W hSW => by have hv := hSW.2.2; go_simp) ?_
    try simp only [pu, l0, l1, l2]
    refine tk 6 ⟨some 15, .binOp .lss 25 (.tmp 11) (.tmp 14) 25, _, _, _, none⟩ (.bool false) rfl (by kernel_rfl) (fun _ _ _ => id) (HS0.out) (fun W hSW => by have hlt : ¬ (x : Int) < (y : Int) := (by have := HLt.out; omega); go_simp) ?_
    try simp only [pu, l0, l1, l2]
    refine wpAnyH_done (by kernel_rfl) ?_ _
    go_wp2_with fail
    go_roundw
    case measure => simp [intOf] <;> omega
    case rel => exact ⟨j + 1, by omega, by go_num, HX2, HX0⟩
  ·obtain rfl : j = 11 := by omega
   go_wp2_with fail
   go_ret
   exact ⟨by rw [show blw a c = false from HBl.out]; rfl, HB.out.1.trans (D.out.mono HB.out.1.size)⟩
open Go.RowKit
theorem names1_any (x : Int) (y : Nat) (n b g : Nat) (w : World) (hg : w.cell? ⟨g, 0, none⟩ = some (.pointer (some ⟨b, 0, none⟩))) (hg2 : g < w.heap.size) (hn : w.cell? ⟨b, 0, none⟩ = some (.int .i64 (n : Int))) (hn2 : b < w.heap.size) :
  Calls Tryz.prog 64 #[.agg #[.int .i64 x, .int .u64 (y : Int)], .pointer (some ⟨g, 0, none⟩)] w fun E w' => E = .returned (.bool (decide (x > (n : Int)))) /\ Below w.heap.size w w' := by
 have HB : Hid ((w.alloc (.cells #[.int .i64 x, .int .u64 (y : Int)] 55)).heap[w.heap.size]? = some (.cells #[.int .i64 x, .int .u64 (y : Int)] 55 (0, 0)) /\ Below w.heap.size w (w.alloc (.cells #[.int .i64 x, .int .u64 (y : Int)] 55)) /\ w.heap.size < (w.alloc (.cells #[.int .i64 x, .int .u64 (y : Int)] 55)).heap.size) := iq ⟨heap_alloc_new w _, bl.alloc (Nat.le_refl _) _, by simp⟩
 obtain ⟨w0, hw0⟩ : ∃ w0, w0 = w.alloc (.cells #[.int .i64 x, .int .u64 (y : Int)] 55) := ⟨_, rfl⟩
 have HE := iq hw0
 have HG : Hid (w0.cell? ⟨g, 0, none⟩ = some (.pointer (some ⟨b, 0, none⟩)) /\ g < w0.heap.size) := iq (by rw [hw0]; exact ⟨(HB.out.2.1.cell (p := ⟨g, 0, none⟩) hg2).trans hg, Nat.lt_of_lt_of_le hg2 HB.out.2.1.size⟩)
 have HN : Hid (w0.cell? ⟨b, 0, none⟩ = some (.int .i64 (n : Int)) /\ b < w0.heap.size) := iq (by rw [hw0]; exact ⟨(HB.out.2.1.cell (p := ⟨b, 0, none⟩) hn2).trans hn, Nat.lt_of_lt_of_le hn2 HB.out.2.1.size⟩)
 rw [<- hw0] at HB
 clear hw0 hg hg2 hn hn2
 go_enter Tryz.func64, Tryz.ntmps64
 go_wp2_with fail
 rw [<- HE.out]
 refine wp_region_any (by kernel_rfl) ?_
 change wpAny _ _ _ _ _ _ _ (World.drewN _ 1)
 refine wpAny_of_held (S := fun W => Below w0.heap.size w0 W) _ _ _ _ ?_
 have H0 := iq (below_drewN (Below.refl w0.heap.size w0) 1)
 refine tk 0 ⟨some 4, .fieldAddr 55 (.tmp 2) 0, _, _, _, none⟩ (.pointer (some ⟨w.heap.size, 0, none⟩)) rfl (by kernel_rfl) (fun _ _ _ => id) (H0.out) (fun W hSW => by go_simp) ?_
 try simp only [Act.put, l0, l1, l2]
 refine tk 1 ⟨some 5, .load 3 (.tmp 4), _, _, _, none⟩ (.int .i64 x) rfl (by kernel_rfl) (fun _ _ _ => id) (H0.out) (fun W hSW => by have hv := (hSW.cell (p := ⟨w.heap.size, 0, none⟩) HB.out.2.2).trans (block_cell (C := [.int .i64 x, .int .u64 (y : Int)]) HB.out.1 0 _ rfl); go_simp) ?_
 try simp only [pu, l0, l1, l2]
 refine tk 2 ⟨some 6, .load 36 (.tmp 1), _, _, _, none⟩ (.pointer (some ⟨b, 0, none⟩)) rfl (by kernel_rfl) (fun _ _ _ => id) (H0.out) (fun W hSW => by have hv := (hSW.cell (p := ⟨g, 0, none⟩) HG.out.2).trans HG.out.1; go_simp) ?_
 try simp only [pu, l0, l1, l2]
 refine tk 3 ⟨some 7, .nilCheck (.tmp 6), _, _, _, none⟩ (.pointer (some ⟨b, 0, none⟩)) rfl (by kernel_rfl) (fun _ _ _ => id) (H0.out) (fun W hSW => by go_simp) ?_
 try simp only [pu, l0, l1, l2]
 refine tk 4 ⟨some 8, .fieldAddr 93 (.tmp 7) 0, _, _, _, none⟩ (.pointer (some ⟨b, 0, none⟩)) rfl (by kernel_rfl) (fun _ _ _ => id) (H0.out) (fun W hSW => by go_simp) ?_
 try simp only [pu, l0, l1, l2]
 refine tk 5 ⟨some 9, .load 3 (.tmp 8), _, _, _, none⟩ (.int .i64 (n : Int)) rfl (by kernel_rfl) (fun _ _ _ => id) (H0.out) (fun W hSW => by have hv := (hSW.cell (p := ⟨b, 0, none⟩) HN.out.2).trans HN.out.1; go_simp) ?_
 try simp only [pu, l0, l1, l2]
 refine tk 6 ⟨some 10, .binOp .gtr 3 (.tmp 5) (.tmp 9) 3, _, _, _, none⟩ (.bool (decide (x > (n : Int)))) rfl (by kernel_rfl) (fun _ _ _ => id) (H0.out) (fun W hSW => by go_simp) ?_
 try simp only [pu, l0, l1, l2]
 refine tk 7 ⟨some 3, .assign (.tmp 10), _, _, _, none⟩ (.bool (decide (x > (n : Int)))) rfl (by kernel_rfl) (fun _ _ _ => id) (H0.out) (fun W hSW => by go_simp) ?_
 try simp only [pu, l0, l1, l2]
 refine wpAnyH_done (by kernel_rfl) ?_ _
 go_wp2_with fail
 go_ret
 exact ⟨rfl, HB.out.2.1.trans (H0.out.mono HB.out.2.1.size)⟩
theorem names2_any (x : Nat) (w : World) : Calls Tryz.prog 65 #[.int .u64 (x : Int)] w fun E w' => E = .returned (.bool (decide (0 < x))) /\ w = w' := by
 go_enter Tryz.func65, Tryz.ntmps65
 go_wp2
 go_ret
 exact ⟨rfl, rfl⟩
theorem take_any {α : Type} {p : α -> Bool} {l : List α} {j : Nat} {x : α} (hx : l[j]? = some x) : ((l.take (j + 1)).any p) = ((l.take j).any p || p x) := by
 simp [List.take_add_one, hx]
theorem pair_range {W : World} {g o : Nat} {a c : Value} (h1 : W.cell? ⟨g, o, none⟩ = some a) (h2 : W.cell? ⟨g, o + 1, none⟩ = some c) : W.rangeAt g o [a, c] := fun j v hv => by
 match j, hv with
 | 0, hv => injection hv with hv; rw [<- hv]; exact h1
 | 1, hv => injection hv with hv; rw [<- hv]; exact h2
theorem ifP_any (A : Option Addr) (c : Nat) (qs : List (Int × Nat)) (n b g : Nat) (w : World) (hq : Prs w A qs) (hl : qs.length <= 140737488355328) (hg : w.cell? ⟨g, 0, none⟩ = some (.pointer (some ⟨b, 0, none⟩))) (hg2 : g < w.heap.size) (hn : w.cell? ⟨b, 0, none⟩ = some (.int .i64 (n : Int))) (hn2 : b < w.heap.size) :
  Calls Tryz.prog 84 #[.slice A qs.length c, .func (.func 64) #[] #[.pointer (some ⟨g, 0, none⟩)]] w fun E w' => (∃ r : Int, E = .returned (.int .i64 r) /\ (0 <= r ↔ qs.any (fun p => decide (p.1 > (n : Int))) = true)) /\ Below w.heap.size w w' := by
 have HQ := iq hq
 have HP := iq (fun (W : World) (hb : Below w.heap.size w W) (x : Int) (y : Nat) => names1_any x y n b g W ((hb.cell (p := ⟨g, 0, none⟩) hg2).trans hg) (Nat.lt_of_lt_of_le hg2 hb.size) ((hb.cell (p := ⟨b, 0, none⟩) hn2).trans hn) (Nat.lt_of_lt_of_le hn2 hb.size))
 have hent : ∀ v W, (callFunc 64 #[v, .pointer (some ⟨g, 0, none⟩)]).run Tryz.prog W = .ok (.enter 64 #[v, .pointer (some ⟨g, 0, none⟩)]) W := fun _ _ => by kernel_rfl
 obtain ⟨m, hm⟩ : ∃ m, m = qs.length := ⟨_, rfl⟩
 have HM := iq hm
 rw [<- hm] at hl ⊢
 clear hq hg hg2 hn hn2 hm
 go_enter Tryz.func84, Tryz.ntmps84
 go_wp2_with fail
 go_loopw [8] (fun v8 wr => ∃ j : Nat, j <= m /\ v8 = .int .i64 (j : Int) /\ Hid ((qs.take j).any (fun p => decide (p.1 > (n : Int))) = false) /\ Hid (Below w.heap.size w wr)) (fun v8 _ => m - (intOf v8).toNat)
 case atStart => exact ⟨0, by omega, rfl, iq rfl, iq bl⟩
 case round =>
  obtain ⟨j, hj, rfl, HF, D⟩ := hrel
  by_cases hjj : j < m
  ·have hdec : decide ((j : Int) < (m : Int)) = true := decide_eq_true (by omega)
   have hj0 : (0 : Int) <= (j : Int) := by omega
   have hjn : (j : Int) < (m : Int) := by omega
   have htn : ((j : Int)).toNat = j := by omega
   have hw1 : IntKind.i64.wrap ((j : Int) + 1) = (j : Int) + 1 := by rw [IntKind.wrap_i64]; omega
   obtain ⟨p, hp⟩ : ∃ p, qs[j]? = some p := ⟨_, List.getElem?_eq_getElem (by rw [<- HM.out]; omega)⟩
   obtain ⟨ab, o, rfl, hlt, hcs⟩ := HQ.out (by rw [<- HM.out]; omega)
   have hp1 := (hcs j p hp)
   have HR : Hid (wr.rangeAt ab (o + j * 2) [.int .i64 p.1, .int .u64 (p.2 : Int)]) := iq (pair_range ((D.out.cell (p := ⟨ab, o + j * 2, none⟩) hlt).trans hp1.1) ((D.out.cell (p := ⟨ab, o + j * 2 + 1, none⟩) hlt).trans hp1.2))
   have HI : Hid ((Tryz.prog.info? 55).map (·.size) = some ([.int .i64 p.1, .int .u64 (p.2 : Int)] : List Value).length) := iq (by kernel_rfl)
   have HT := iq (take_any (p := (fun p : Int × Nat => decide (p.1 > (n : Int)))) hp)
   have HC := iq (HP.out wr D.out p.1 p.2)
   have HAny : Hid ((p.1 > (n : Int)) -> qs.any (fun p => decide (p.1 > (n : Int))) = true) := iq fun h => List.any_eq_true.2 ⟨p, List.mem_of_getElem? hp, decide_eq_true h⟩
   clear hp hp1 hcs hlt
   by_cases hp0 : p.1 > (n : Int)
   ·have HP0 := iq hp0
    have hd0 : decide (p.1 > (n : Int)) = true := decide_eq_true hp0
    rw [hd0] at HC
    clear hp0 hd0
    go_wp2_with (first | ((with_reducible refine wpList_load_midG ?_ 55 (.tmp 14) ?_ ab (o + j * 2) ?_ [.int .i64 p.1, .int .u64 (p.2 : Int)] _ ?_ Tryz.underlying55 ?_ ?_ ?_); rotate_left; rfl; rfl; exact HR.out; rfl; exact HI.out; rotate_left; rfl) | (go_at_call 64; refine HC.out.mono ?_; rintro E w2 ⟨rfl, hb2⟩; have D2 := iq (D.out.trans (hb2.mono D.out.size)); clear hb2))
    go_ret
    exact ⟨⟨j, rfl, by rw [HAny.out HP0.out]; simp⟩, D2.out⟩
   ·have hd0 : decide (p.1 > (n : Int)) = false := decide_eq_false hp0
    have HF2 : Hid ((qs.take (j + 1)).any (fun p => decide (p.1 > (n : Int))) = false) := iq (by rw [HT.out, HF.out, Bool.false_or]; exact hd0)
    rw [hd0] at HC
    clear hp0 hd0
    go_wp2_with (first | ((with_reducible refine wpList_load_midG ?_ 55 (.tmp 14) ?_ ab (o + j * 2) ?_ [.int .i64 p.1, .int .u64 (p.2 : Int)] _ ?_ Tryz.underlying55 ?_ ?_ ?_); rotate_left; rfl; rfl; exact HR.out; rfl; exact HI.out; rotate_left; rfl) | (go_at_call 64; refine HC.out.mono ?_; rintro E w2 ⟨rfl, hb2⟩; have D2 := iq (D.out.trans (hb2.mono D.out.size)); clear hb2))
    go_roundw
    case measure => simp [intOf] <;> omega
    case rel => exact ⟨j + 1, by omega, by go_num, HF2, D2⟩
  ·obtain rfl : j = m := by omega
   have HN0 : Hid (qs.any (fun p => decide (p.1 > (n : Int))) = false) := iq (by have := HF.out; rwa [HM.out, List.take_length] at this)
   go_wp2_with fail
   go_ret
   exact ⟨⟨-1, rfl, by rw [HN0.out]; simp⟩, D.out⟩
theorem cfP_any (A : Option Addr) (c : Nat) (qs : List (Int × Nat)) (n b g : Nat) (w : World) (hq : Prs w A qs) (hl : qs.length <= 140737488355328) (hg : w.cell? ⟨g, 0, none⟩ = some (.pointer (some ⟨b, 0, none⟩))) (hg2 : g < w.heap.size) (hn : w.cell? ⟨b, 0, none⟩ = some (.int .i64 (n : Int))) (hn2 : b < w.heap.size) :
  Calls Tryz.prog 66 #[.slice A qs.length c, .func (.func 64) #[] #[.pointer (some ⟨g, 0, none⟩)]] w fun E w' => E = .returned (.bool (qs.any (fun p => decide (p.1 > (n : Int))))) /\ Below w.heap.size w w' := by
 have HC := iq (ifP_any A c qs n b g w hq hl hg hg2 hn hn2)
 obtain ⟨z, hz⟩ : ∃ z, z = qs.any (fun p => decide (p.1 > (n : Int))) := ⟨_, rfl⟩
 rw [<- hz] at HC ⊢
 obtain ⟨m, hm⟩ : ∃ m, m = qs.length := ⟨_, rfl⟩
 rw [<- hm] at HC ⊢
 clear hq hz hm hg hg2 hn hn2 hl
 go_enter Tryz.func66, Tryz.ntmps66
 go_wp2_with (go_at_call 84; refine HC.out.mono ?_)
 rintro E w2 ⟨⟨r, rfl, hr⟩, hb⟩
 have HB := iq hb
 clear hb HC
 cases z with
 | true =>
  have h0 : r >= 0 := hr.2 rfl
  clear hr
  go_wp2_with fail
  go_ret
  exact ⟨rfl, HB.out⟩
 | false =>
  have h0 : ¬ r >= 0 := fun h => by have := hr.1 h; cases this
  have h1 : decide (0 <= r) = false := decide_eq_false h0
  clear hr
  go_wp2_with fail
  go_ret
  exact ⟨rfl, HB.out⟩
theorem ifU_any (qs : List Nat) (ab o : Nat) (w : World) (hq : w.rangeAt ab o (u64s qs)) (hlt : ab < w.heap.size) (hl : qs.length <= 11) :
  Calls Tryz.prog 85 #[.slice (some ⟨ab, o, none⟩) qs.length qs.length, .func (.func 65) #[] #[]] w fun E w' => (∃ r : Int, E = .returned (.int .i64 r) /\ (0 <= r ↔ qs.any (fun p => decide (0 < p)) = true)) /\ Below w.heap.size w w' := by
 have HQ := iq (fun (j x : Nat) (h : qs[j]? = some x) => hq j (.int .u64 (x : Int)) (by simp [u64s, h]))
 have HLT := iq hlt
 have hent : ∀ v W, (callFunc 65 #[v]).run Tryz.prog W = .ok (.enter 65 #[v]) W := fun _ _ => by kernel_rfl
 obtain ⟨m, hm⟩ : ∃ m, m = qs.length := ⟨_, rfl⟩
 have HM := iq hm
 rw [<- hm] at hl ⊢
 clear hq hlt hm
 go_enter Tryz.func85, Tryz.ntmps85
 go_wp2_with fail
 go_loopw [8] (fun v8 wr => ∃ j : Nat, j <= m /\ v8 = .int .i64 (j : Int) /\ Hid ((qs.take j).any (fun p => decide (0 < p)) = false) /\ Hid (Below w.heap.size w wr)) (fun v8 _ => m - (intOf v8).toNat)
 case atStart => exact ⟨0, by omega, rfl, iq rfl, iq bl⟩
 case round =>
  obtain ⟨j, hj, rfl, HF, D⟩ := hrel
  by_cases hjj : j < m
  ·have hdec : decide ((j : Int) < (m : Int)) = true := decide_eq_true (by omega)
   have hj0 : (0 : Int) <= (j : Int) := by omega
   have hjn : (j : Int) < (m : Int) := by omega
   have htn : ((j : Int)).toNat = j := by omega
   have hw1 : IntKind.i64.wrap ((j : Int) + 1) = (j : Int) + 1 := by rw [IntKind.wrap_i64]; omega
   obtain ⟨p, hp⟩ : ∃ p, qs[j]? = some p := ⟨_, List.getElem?_eq_getElem (by rw [<- HM.out]; omega)⟩
   have hp1 := HQ.out j p hp
   have hc : wr.cell? ⟨ab, o + j, none⟩ = some (.int .u64 (p : Int)) := (D.out.cell (p := ⟨ab, o + j, none⟩) HLT.out).trans hp1
   have HT := iq (take_any (p := (fun p : Nat => decide (0 < p))) hp)
   have HC := iq (names2_any p wr)
   have HAny : Hid (0 < p -> qs.any (fun p => decide (0 < p)) = true) := iq fun h => List.any_eq_true.2 ⟨p, List.mem_of_getElem? hp, decide_eq_true h⟩
   clear hp hp1
   by_cases hp0 : 0 < p
   ·have HP0 := iq hp0
    have hd0 : decide (0 < p) = true := decide_eq_true hp0
    rw [hd0] at HC
    clear hp0 hd0
    go_wp2_with ((go_at_call 65; refine HC.out.mono ?_; rintro E w2 ⟨rfl, rfl⟩))
    go_ret
    exact ⟨⟨j, rfl, by rw [HAny.out HP0.out]; simp⟩, D.out⟩
   ·have hd0 : decide (0 < p) = false := decide_eq_false hp0
    have HF2 : Hid ((qs.take (j + 1)).any (fun p => decide (0 < p)) = false) := iq (by rw [HT.out, HF.out, Bool.false_or]; exact hd0)
    rw [hd0] at HC
    clear hp0 hd0
    go_wp2_with ((go_at_call 65; refine HC.out.mono ?_; rintro E w2 ⟨rfl, rfl⟩))
    go_roundw
    case measure => simp [intOf] <;> omega
    case rel => exact ⟨j + 1, by omega, by go_num, HF2, D⟩
  ·obtain rfl : j = m := by omega
   have HN0 : Hid (qs.any (fun p => decide (0 < p)) = false) := iq (by have := HF.out; rwa [HM.out, List.take_length] at this)
   go_wp2_with fail
   go_ret
   exact ⟨⟨-1, rfl, by rw [HN0.out]; simp⟩, D.out⟩
theorem cfU_any (qs : List Nat) (ab o : Nat) (w : World) (hq : w.rangeAt ab o (u64s qs)) (hlt : ab < w.heap.size) (hl : qs.length <= 11) :
  Calls Tryz.prog 67 #[.slice (some ⟨ab, o, none⟩) qs.length qs.length, .func (.func 65) #[] #[]] w fun E w' => E = .returned (.bool (qs.any (fun p => decide (0 < p)))) /\ Below w.heap.size w w' := by
 have HC := iq (ifU_any qs ab o w hq hlt hl)
 obtain ⟨z, hz⟩ : ∃ z, z = qs.any (fun p => decide (0 < p)) := ⟨_, rfl⟩
 rw [<- hz] at HC ⊢
 obtain ⟨m, hm⟩ : ∃ m, m = qs.length := ⟨_, rfl⟩
 rw [<- hm] at HC ⊢
 clear hq hz hm hlt hl
 go_enter Tryz.func67, Tryz.ntmps67
 go_wp2_with (go_at_call 85; refine HC.out.mono ?_)
 rintro E w2 ⟨⟨r, rfl, hr⟩, hb⟩
 have HB := iq hb
 clear hb HC
 cases z with
 | true =>
  have h0 : r >= 0 := hr.2 rfl
  clear hr
  go_wp2_with fail
  go_ret
  exact ⟨rfl, HB.out⟩
 | false =>
  have h0 : ¬ r >= 0 := fun h => by have := hr.1 h; cases this
  have h1 : decide (0 <= r) = false := decide_eq_false h0
  clear hr
  go_wp2_with fail
  go_ret
  exact ⟨rfl, HB.out⟩
end Go.Proofs.YtllbbcifcbkgeaaGreatDoor.Sh
