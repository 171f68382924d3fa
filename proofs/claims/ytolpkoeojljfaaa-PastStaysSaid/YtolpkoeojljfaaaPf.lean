/-
  What is proved: a view is entered: enter. Conditions as stated.
-/
import Derived.Test.YtolpkoeojljfaaaPe
namespace Go.Proofs.Ytolpkoeojljfaaa
open Go.RowKit
set_option maxRecDepth 100000

theorem MidAt.cells {W : World} {b : Nat} {rv : Value} {k g : Nat} {l : List Nat} {n : Nat} {f : Int → Option Value} (h : MidAt W b rv k g l n f) : W.cell? ⟨b, 0, none⟩ = some rv ∧ W.cell? ⟨b, 1, none⟩ = some (.map (some k)) ∧ W.cell? ⟨b, 2, none⟩ = some (.int .u64 (g : Int)) ∧ W.frozen? ⟨b, 2, none⟩ = false :=
  ⟨block_cell h.top 0 _ rfl, block_cell h.top 1 _ rfl, block_cell h.top 2 _ rfl, free_block h.top 2⟩
theorem eq50_some (k : Nat) (W : World) : (binOp BinOp.eql 50 (.map (some k)) (.map none)).run Try.prog W = .ok (.bool false) W := by kernel_rfl
theorem eq50_none (W : World) : (binOp BinOp.eql 50 (.map none) (.map none)).run Try.prog W = .ok (.bool true) W := by kernel_rfl
theorem make50 (W : World) : (Instr.makeMap 50 none).run Try.prog W = .ok (.map (some W.heap.size)) (W.alloc (.map #[] 0)) := by kernel_rfl
theorem vP_add {L : List (Nat × Nat)} {x n : Nat} (h : vot L x = none) : upd (vP L) (x : Int) (some (.int .i64 (n : Int))) = vP (L ++ [(x, n)]) := by
  funext y
  by_cases e : y = (x : Int)
  · subst e
    rw [upd_same, vP_nat, vot_snoc x x n L (.inl h), if_pos rfl]; rfl
  · rw [upd_other _ _ e, vP, vP]
    by_cases h0 : 0 ≤ y
    · rw [if_pos h0, if_pos h0, vot_snoc x y.toNat n L (.inr (by omega)), if_neg (by omega)]
    · rw [if_neg h0, if_neg h0]
set_option maxHeartbeats 4000000 in
theorem enter_some {v W : World} {os : List Thing} {b : Nat} {rv : Value} {k : Nat} {p : MPast} (H : Fr v W (paT b rv (some k) p :: os)) {x n : Nat} (hx : x < 1073741824) (hg : p.great ≤ x) (hn : n ≤ 9223372036854775807) (hv : vot p.L x = none) :
    Calls Try.prog 19 #[.pointer (some ⟨b, 0, none⟩), .int .u64 (x : Int), .int .i64 (n : Int)] W fun E W' => E = .returned (.tuple #[]) ∧ ∃ rv', Fr v W' (paT b rv' (some k) (p.add x n) :: os) := by
  have h : PastAt W b rv (some k) p := H.hd
  have hok := h.ok
  obtain ⟨A, c, rfl, _⟩ := row_shape h.row
  obtain ⟨c0, c1, c2⟩ := h.cells
  have HB := Lib.hid (md_of H)
  have e1 := eq50_some k
  have HOk := Lib.hid (hok.add hx hg hn hv)
  have HLn := Lib.hid hok.len
  have HV := Lib.hid hv
  have HX := Lib.hid hx
  clear H h hok hv hn hg
  have HC := Lib.hid (HB.out.below ((Below.refl _ _).alloc (Nat.le_refl _) (.cells #[.int .u64 (x : Int)] 23)))
  obtain ⟨rv', W1, r1, f0, ⟨y0, d0⟩, h1⟩ := md_row HC.out 39 W.heap.size x (block_cell (C := [.int .u64 (x : Int)]) (heap_alloc_new W _) 0 _ rfl) (by rw [List.length_map]; have := HLn.out; omega)
  obtain ⟨A', c', rfl, _⟩ := row_shape (MidAt.row h1.hd)
  obtain ⟨m, hm⟩ : ∃ m, m = (p.L.map (·.1) ++ [x]).length := ⟨_, rfl⟩
  rw [← hm] at r1 h1
  clear hm
  obtain ⟨W2, hW2⟩ : ∃ X, X = W1.setCell ⟨b, 0, none⟩ (.slice A' m c') := ⟨_, rfl⟩
  rw [← hW2] at h1
  have H1 := Lib.hid h1
  have hc2 := (MidAt.cells h1.hd).2.1
  rw [hW2] at hc2
  obtain ⟨W3, r3, h3⟩ := md_put h1 (by have := HLn.out; omega) (x := x) (by have := HX.out; omega) (.int .i64 (n : Int))
  rw [hW2] at r3
  have hc3 := (MidAt.cells h3.hd).2.2.1
  have hf3 := (MidAt.cells h3.hd).2.2.2
  have H4 := Lib.hid (md_great h3 x)
  have HF : Hid (Fr v (W3.setCell ⟨b, 2, none⟩ (.int .u64 (x : Int))) (paT b (.slice A' m c') (some k) (p.add x n) :: os)) := Lib.hid (by
    have h5 := H4.out
    have hz : ((vP p.L) (x : Int)).isSome = false := by rw [vP_nat, HV.out]; rfl
    rw [hz, vP_add HV.out] at h5
    refine pa_of (p := p.add x n) (f := vP (p.add x n).L) ?_ rfl HOk.out
    have e1 : ((p.add x n).L.map (·.1)) = p.L.map (·.1) ++ [x] := by simp [MPast.add]
    have e2 : (p.add x n).L.length = p.L.length + 1 := by simp [MPast.add]
    rw [e1, e2]
    exact h5)
  clear HB HC h1 h3 hW2 H1 H4
  go_enter Try.func19, Try.ntmps19
  go_wp2_with (first
    | ((with_reducible refine wpList_append_one ?_ (.tmp 19) (.tmp 21) 39 ?_ _ _ ?_ ?_ _ W1 r1 ?_); (· rfl); (· rfl); (· rfl); (· rfl))
    | ((with_reducible refine wpList_mapUpd ?_ (.tmp 28) (.tmp 29) (.tmp 30) 50 ?_ _ _ _ ?_ ?_ ?_ W3 r3 ?_); (· rfl); (· rfl); (· rfl); (· rfl); (· rfl)))
  try simp only [Exit.inBlock, Exit.then]
  exact bodyPost_end (results_none rfl _ _ _) rfl ⟨rfl, _, HF.out⟩
set_option maxHeartbeats 4000000 in
theorem enter_none {v W : World} {os : List Thing} {b : Nat} {rv : Value} {p : MPast} (H : Fr v W (paT b rv none p :: os)) {x n : Nat} (hx : x < 1073741824) (hg : p.great ≤ x) (hn : n ≤ 9223372036854775807) (hv : vot p.L x = none) :
    Calls Try.prog 19 #[.pointer (some ⟨b, 0, none⟩), .int .u64 (x : Int), .int .i64 (n : Int)] W fun E W' => E = .returned (.tuple #[]) ∧ ∃ rv' k, Fr v W' (paT b rv' (some k) (p.add x n) :: os) := by
  have h : PastAt W b rv none p := H.hd
  have hok := h.ok
  obtain ⟨A, c, rfl, _⟩ := row_shape h.row
  obtain ⟨c0, c1, c2⟩ := h.cells
  have h0 := pa_made H
  have fA : (W.alloc (.map #[] 0)).frozen? ⟨b, 1, none⟩ = false := PastAt.free (H.below ((Below.refl _ _).alloc (Nat.le_refl _) (.map #[] 0))).hd 1
  have gA : (W.alloc (.map #[] 0)).cell? ⟨b, 1, none⟩ = some (.map none) := (PastAt.cells (H.below ((Below.refl _ _).alloc (Nat.le_refl _) (.map #[] 0))).hd).2.1
  obtain ⟨k, hk⟩ : ∃ k, k = W.heap.size := ⟨_, rfl⟩
  rw [← hk] at h0
  obtain ⟨W0, hW0⟩ : ∃ X, X = (W.alloc (.map #[] 0)).setCell ⟨b, 1, none⟩ (.map (some k)) := ⟨_, rfl⟩
  have hz0 : W0.heap.size = W.heap.size + 1 := by rw [hW0]; simp [World.setCell]
  rw [← hW0] at h0
  have HB := Lib.hid (md_of h0)
  have b0 := (MidAt.cells HB.out.hd).1
  have b1 := (MidAt.cells HB.out.hd).2.1
  have e1 := eq50_none
  have e2 := make50
  have HOk := Lib.hid (hok.add hx hg hn hv)
  have HLn := Lib.hid hok.len
  have HV := Lib.hid hv
  have HX := Lib.hid hx
  clear H h hok hv hn hg
  have HC := Lib.hid (HB.out.below (W' := W0.alloc (.cells #[.int .u64 (x : Int)] 23)) ((Below.refl _ _).alloc (Nat.le_refl _) (.cells #[.int .u64 (x : Int)] 23)))
  obtain ⟨rv', W1, r1, f0, ⟨y0, d0⟩, h1⟩ := md_row HC.out 39 W0.heap.size x (block_cell (C := [.int .u64 (x : Int)]) (heap_alloc_new W0 _) 0 _ rfl) (by rw [List.length_map]; have := HLn.out; omega)
  obtain ⟨A', c', rfl, _⟩ := row_shape (MidAt.row h1.hd)
  obtain ⟨m, hm⟩ : ∃ m, m = (p.L.map (·.1) ++ [x]).length := ⟨_, rfl⟩
  rw [← hm] at r1 h1
  clear hm
  obtain ⟨W2, hW2⟩ : ∃ X, X = W1.setCell ⟨b, 0, none⟩ (.slice A' m c') := ⟨_, rfl⟩
  rw [← hW2] at h1
  have H1 := Lib.hid h1
  have hc2 := (MidAt.cells h1.hd).2.1
  rw [hW2] at hc2
  obtain ⟨W3, r3, h3⟩ := md_put h1 (by have := HLn.out; omega) (x := x) (by have := HX.out; omega) (.int .i64 (n : Int))
  rw [hW2] at r3
  have hc3 := (MidAt.cells h3.hd).2.2.1
  have hf3 := (MidAt.cells h3.hd).2.2.2
  have H4 := Lib.hid (md_great h3 x)
  have HF : Hid (Fr v (W3.setCell ⟨b, 2, none⟩ (.int .u64 (x : Int))) (paT b (.slice A' m c') (some k) (p.add x n) :: os)) := Lib.hid (by
    have h5 := H4.out
    have hz : ((vP p.L) (x : Int)).isSome = false := by rw [vP_nat, HV.out]; rfl
    rw [hz, vP_add HV.out] at h5
    refine pa_of (p := p.add x n) (f := vP (p.add x n).L) ?_ rfl HOk.out
    have e1 : ((p.add x n).L.map (·.1)) = p.L.map (·.1) ++ [x] := by simp [MPast.add]
    have e2 : (p.add x n).L.length = p.L.length + 1 := by simp [MPast.add]
    rw [e1, e2]
    exact h5)
  clear HB HC h1 h3 hW2 H1 H4 h0
  rw [hz0, hW0] at r1
  rw [hW0] at b0 b1
  rw [hk] at r1 b0 b1
  clear hW0 hz0
  have HK := Lib.hid hk
  clear hk
  go_enter Try.func19, Try.ntmps19
  go_wp2_with (first
    | ((with_reducible refine wpList_append_one ?_ (.tmp 19) (.tmp 21) 39 ?_ _ _ ?_ ?_ _ W1 r1 ?_); (· rfl); (· rfl); (· rfl); (· rfl))
    | ((with_reducible refine wpList_mapUpd ?_ (.tmp 28) (.tmp 29) (.tmp 30) 50 ?_ _ _ _ ?_ ?_ ?_ W3 r3 ?_); (· rfl); (· rfl); (· rfl); (· rfl); (· rfl)))
  try simp only [Exit.inBlock, Exit.then]
  exact bodyPost_end (results_none rfl _ _ _) rfl ⟨rfl, _, _, HF.out⟩
end Go.Proofs.Ytolpkoeojljfaaa
