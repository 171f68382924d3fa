/-
  What is proved: an item is put into a row at a place. Conditions as stated.
-/
import Derived.Test.YtflenghnmflenaaDoorLe
namespace Go.Proofs.YtflenghnmflenaaDoor
open Go.RowKit
set_option maxRecDepth 100000

def InsP (w : World) (r : Option Nat) (ys : List It) (E : Ending) (w' : World) : Prop := ∃ r' c', E = .returned (.slice (slA r') ys.length c') ∧ Rw w' r' c' ys ∧ Own w (fun k => r = some k) w' (fun k => r' = some k)
theorem src2 {w : World} {vb : Nat} {p : It} (hv : Blk w vb (pC p)) : Src Tryd.prog 2 43 (.slice (some ⟨vb, 0, none⟩) 1 1) 1 (pC p) w :=
  Src.ofSlice w Tryd.underlying43 ⟨vb, 0, none⟩ 1 1 (pC p) rfl (fun j u hj => by rw [Addr.add_lit, Nat.zero_add]; exact hv.cell hj) (pC_one p)

set_option maxHeartbeats 2000000 in
theorem ins_end_room {w : World} {b c : Nat} {xs : List It} (h : Rw w (some b) c xs) (hn : xs.length ≤ 1000) {vb : Nat} {p : It} (hv : Blk w vb (pC p)) (hr : xs.length + 1 ≤ c) :
    Calls Tryd.prog 60 #[.slice (some ⟨b, 0, none⟩) xs.length c, .int .i64 (xs.length : Int), .slice (some ⟨vb, 0, none⟩) 1 1] w fun E w' => InsP w (some b) (xs ++ [p]) E w' := by
  obtain ⟨R, hB, hl⟩ := h.blk
  obtain ⟨i0, hi0, hz0, hzs, hzb⟩ := info_parts Tryd.info64
  have hc := h.2.1
  have hsrc : Src Tryd.prog i0.size 43 (.slice (some ⟨vb, 0, none⟩) 1 1) 1 (pC p) w := by rw [hzs]; exact src2 hv
  have hfin : InsP w (some b) (xs ++ [p]) (.returned (.slice (some ⟨b, 0, none⟩) (xs.length + 1) c)) (w.setCells b (xs.length * 2) (pC p)) := by
    refine ⟨some b, c, by simp [slA], ?_, Own.same (Turns.setCells (S := fun k => some b = some k) (.inl rfl) _ _ _ (Turns.refl _ w))⟩
    refine Rw.of_blk (Blk.put hB (by simp [pC, itC_length]; omega)) (by rw [length_splice _ _ _ (by simp [pC, itC_length]; omega)]; simp [itC_length]; omega) (by simpa using hr) hc ?_
    unfold splice
    rw [List.take_left' (itC_length xs), itC_app, List.length_append]
    rw [← List.append_assoc, List.take_left' (by simp [itC_length, pC]; omega)]
    simp [itC, pC]
  have HF := Lib.hid hfin
  have HS := Lib.hid hsrc
  have HH := Lib.hid (fun j (hj : j < (pC p).length) => (by rw [hzs]; exact ⟨hB.isS (by simp [pC] at hj; simp [itC_length]; omega), hB.free _⟩ : (w.cell? ⟨b, 0 + xs.length * i0.size + j, none⟩).isSome = true ∧ w.frozen? ⟨b, 0 + xs.length * i0.size + j, none⟩ = false))
  obtain ⟨n, hnn⟩ : ∃ n, n = xs.length := ⟨_, rfl⟩
  rw [← hnn] at HF HH hr hn ⊢
  clear hfin hsrc hB hl h hnn
  go_enter Tryd.func60, Tryd.ntmps60
  go_wp2_with (at_builtin; refine wpList_append_room_src _ rfl _ _ 43 43 rfl 64 i0 Tryd.underlying43 hi0 b 0 n c rfl _ rfl 1 (pC p) HS.out hr (fun j hj => (HH.out j hj).1) (fun j hj => (HH.out j hj).2) ?_)
  go_ret
  exact HF.out
set_option maxHeartbeats 2000000 in
theorem ins_end_grow {w : World} {r : Option Nat} {c : Nat} {xs : List It} (h : Rw w r c xs) (hn : xs.length ≤ 1000) {vb : Nat} {p : It} (hv : Blk w vb (pC p)) (hr : c < xs.length + 1) :
    Calls Tryd.prog 60 #[.slice (slA r) xs.length c, .int .i64 (xs.length : Int), .slice (some ⟨vb, 0, none⟩) 1 1] w fun E w' => InsP w r (xs ++ [p]) E w' := by
  obtain ⟨i0, hi0, hz0, hzs, hzb⟩ := info_parts Tryd.info64
  have hsrc : Src Tryd.prog i0.size 43 (.slice (some ⟨vb, 0, none⟩) 1 1) 1 (pC p) w := by rw [hzs]; exact src2 hv
  have hold : (Builtin.firstCells i0.size xs.length (.slice (slA r) xs.length c)).run Tryd.prog w.drew = .ok (itC xs).toArray w.drew := by
    rw [hzs]
    cases r with
    | none =>
      rw [h.2]
      exact run_firstCells_none w.drew 2 0 0 c
    | some b =>
      obtain ⟨R, hB, _⟩ := h.blk
      exact run_firstCells_some w.drew 2 xs.length ⟨b, 0, none⟩ xs.length c (itC xs) (itC_length xs) (fun j v hj => by
        rw [Addr.add_lit, Nat.zero_add]
        exact hB.cell (by rw [List.getElem?_append_left (List.getElem?_eq_some_iff.1 hj).1]; exact hj))
  have hrun : ∀ ty, (Builtin.append_ #[43, 43] ty #[.slice (slA r) xs.length c, .slice (some ⟨vb, 0, none⟩) 1 1]).run Tryd.prog w = _ := fun ty =>
    run_append_grow_src w 43 43 ty 64 i0 _ Tryd.underlying43 hi0 hz0 (slA r) xs.length c (itC xs) hold _ 1 (pC p) hsrc hr (by omega) (by rw [hzb]; exact growslice_fits hr (by omega))
  obtain ⟨G, hG⟩ : ∃ G, G = grownCap w (xs.length + 1) c 64 := ⟨_, rfl⟩
  have hG1 : xs.length + 1 ≤ G := by rw [hG]; exact grownCap_ge w _ _ _
  have hG2 : G ≤ 9223372036854775807 := by
    have := grownCap_le_maxLen w (xs.length + 1) c 64 (by unfold maxLen; omega)
    rw [← hG] at this
    unfold maxLen at this
    omega
  rw [← hG] at hrun
  obtain ⟨Z, hZ⟩ : ∃ Z : List Value, Z = (Builtin.zeroCells (Value.agg #[.string ByteArray.empty, .string ByteArray.empty]).cells (G - (xs.length + 1))).toList := ⟨_, rfl⟩
  have hZl : Z.length = (G - (xs.length + 1)) * 2 := by rw [hZ]; simp [Builtin.zeroCells, Value.cells]
  have hZ' : ∀ X : List Value, X.toArray ++ Builtin.zeroCells (Value.agg #[.string ByteArray.empty, .string ByteArray.empty]).cells (G - (xs.length + 1)) = (X ++ Z).toArray := fun X => by rw [hZ]; simp
  simp only [hZ'] at hrun
  have hfin : InsP w r (xs ++ [p]) (.returned (.slice (some ⟨w.heap.size, 0, none⟩) (xs.length + 1) G)) (w.drew.alloc (.cells (itC xs ++ pC p ++ Z).toArray 64)) := by
    refine ⟨some w.heap.size, G, by simp [slA], ?_, ?_⟩
    · refine Rw.of_blk (C := itC xs ++ pC p ++ Z) (heap_alloc_new w.drew _) (by simp [itC_length, pC, hZl]; omega) (by simpa using hG1) hG2 ?_
      rw [itC_app, List.length_append, List.take_left' (by simp [itC_length, pC]; omega)]
      simp [itC, pC]
    · exact ⟨(Turns.refl _ w).trans ((Turns.drewN (Turns.refl _ w) 1).alloc _), fun k hk => .inr (by simp at hk; omega)⟩
  have HF := Lib.hid hfin
  have HR := Lib.hid hrun
  obtain ⟨W, hW⟩ : ∃ W, W = w.drew.alloc (.cells (itC xs ++ pC p ++ Z).toArray 64) := ⟨_, rfl⟩
  rw [← hW] at HF HR
  obtain ⟨A, hA⟩ : ∃ A, A = slA r := ⟨_, rfl⟩
  have hAn : A = none ∨ ∃ b, A = some ⟨b, 0, none⟩ := by rw [hA]; cases r with | none => exact .inl rfl | some b => exact .inr ⟨b, rfl⟩
  have hc := h.c
  rw [← hA] at HR ⊢
  obtain ⟨n, hnn⟩ : ∃ n, n = xs.length := ⟨_, rfl⟩
  have hn0 : A = none → n = 0 := fun e => by
    rw [hnn]
    cases r with
    | none => rw [h.2]; rfl
    | some b => rw [hA] at e; cases e
  rw [← hnn] at HF HR hr hn hc ⊢
  clear hfin hrun hW hA hold hsrc hv h hnn hG hG1 hG2 hZ hZl hZ'
  go_enter Tryd.func60, Tryd.ntmps60
  rcases hAn with rfl | ⟨b, rfl⟩
  · obtain rfl := hn0 rfl
    go_wp2_with (at_builtin; refine Lib.wpList_append_run _ rfl _ _ _ _ rfl _ _ rfl rfl _ _ (HR.out _) ?_)
    go_ret
    exact HF.out
  · clear hn0
    go_wp2_with (at_builtin; refine Lib.wpList_append_run _ rfl _ _ _ _ rfl _ _ rfl rfl _ _ (HR.out _) ?_)
    all_goals (go_ret; exact HF.out)
end Go.Proofs.YtflenghnmflenaaDoor
