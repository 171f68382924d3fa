/-
  What is proved: an item is put into the midst of a row that has room. Conditions as stated.
-/
import Derived.Test.YtflenghnmflenaaDoorLf
namespace Go.Proofs.YtflenghnmflenaaDoor
open Go.RowKit
set_option maxRecDepth 100000

theorem Blk.shape {w : World} {b : Nat} {C : List Value} (h : Blk w b C) : w.shape? b = some (64, C.length) := by
  simp [World.shape?, show w.heap[b]? = _ from h]
theorem heap_cong {w W : World} (h : ∀ k : Nat, W.heap[k]? = w.heap[k]?) (b : Nat) : ∀ (o : Nat) (cs : List Value) (k : Nat), (W.setCells b o cs).heap[k]? = (w.setCells b o cs).heap[k]? := by
  intro o cs
  induction cs generalizing w W o with
  | nil => exact h
  | cons v r ih =>
    intro k
    rw [World.setCells, World.setCells]
    refine ih (fun j => ?_) (o + 1) k
    simp only [World.setCell, Array.getElem?_modify, h]
set_option maxHeartbeats 4000000 in
theorem ins_shift {w : World} {b c : Nat} {xs : List It} (h : Rw w (some b) c xs) (hn : xs.length ≤ 1000) {vb : Nat} {p : It} (hv : Blk w vb (pC p)) (hvb : vb ≠ b) {i : Nat} (hi : i < xs.length) (hr : xs.length + 1 ≤ c) :
    Calls Tryd.prog 60 #[.slice (some ⟨b, 0, none⟩) xs.length c, .int .i64 (i : Int), .slice (some ⟨vb, 0, none⟩) 1 1] w fun E w' => InsP w (some b) (xs.take i ++ p :: xs.drop i) E w' := by
  obtain ⟨R, hB, hl⟩ := h.blk
  have hc := h.2.1
  have hov : ∀ o lb cb, (callFunc 66 #[.slice (some ⟨vb, 0, none⟩) 1 1, .slice (some ⟨b, o, none⟩) lb cb]).run Tryd.prog w = .ok (.value (.bool false)) w := fun o lb cb => by
    rw [run_callFunc_extern Tryd.func66 (by kernel_rfl) (by kernel_rfl) (by kernel_rfl) (e := Extern.SlicesOverlaps.overlaps #[43, 43] #[4]) (by kernel_rfl),
      Lib.run_overlaps_apart w 43 4 64 Tryd.underlying43 2 (Tryd.sizeOf64) ⟨vb, 0, none⟩ ⟨b, o, none⟩ 1 1 lb cb hvb 64 64 2 _ hv.shape hB.shape (by simp [itC_length]; omega) (hv.free _) (hv.free _)]
    rfl
  have hdl : (xs.drop i).length = xs.length - i := List.length_drop
  have hsr : ∀ j v, (itC (xs.drop i))[j]? = some v → (itC xs ++ R)[i * 2 + j]? = some v := fun j v hj => by
    rw [← itC_drop, List.getElem?_drop] at hj
    rw [List.getElem?_append_left (List.getElem?_eq_some_iff.1 hj).1]
    exact hj
  have hf1 : (i + 1) * 2 + (itC (xs.drop i)).length ≤ (itC xs ++ R).length := by simp [itC_length]; omega
  have hcp1 : ∀ W : World, (∀ k, W.heap[k]? = w.heap[k]?) → ∀ ty dl dc sl sc, Nat.min sl dl = xs.length - i → (Builtin.copy_ #[43, 43] ty #[.slice (some ⟨b, (i + 1) * 2, none⟩) dl dc, .slice (some ⟨b, i * 2, none⟩) sl sc]).run Tryd.prog W = .ok (goInt (xs.length - i : Nat)) (W.setCells b ((i + 1) * 2) (itC (xs.drop i))) := fun W hW ty dl dc sl sc hm => by
    have hB' : Blk W b (itC xs ++ R) := (hW b).trans hB
    exact run_copy2 ty hB' hm (by rw [itC_length, hdl]) (fun j v hj => by rw [Addr.add_lit]; exact hB'.cell (hsr j v hj)) hf1 (itC_one _)
  have hl1 : (splice (itC xs ++ R) ((i + 1) * 2) (itC (xs.drop i))).length = (itC xs ++ R).length := length_splice _ _ _ hf1
  have hf2 : i * 2 + (pC p).length ≤ (splice (itC xs ++ R) ((i + 1) * 2) (itC (xs.drop i))).length := by rw [hl1]; simp [itC_length, pC]; omega
  have hB1 : ∀ W : World, (∀ k, W.heap[k]? = w.heap[k]?) → Blk (W.setCells b ((i + 1) * 2) (itC (xs.drop i))) b (splice (itC xs ++ R) ((i + 1) * 2) (itC (xs.drop i))) := fun W hW => Blk.put (w := W) (show Blk W b _ from (hW b).trans hB) hf1
  have hv1 : ∀ W : World, (∀ k, W.heap[k]? = w.heap[k]?) → Blk (W.setCells b ((i + 1) * 2) (itC (xs.drop i))) vb (pC p) := fun W hW => Blk.other (show Blk W vb _ from (hW vb).trans hv) hvb _ _
  have hcp2 : ∀ V : World, (∀ k, V.heap[k]? = (w.setCells b ((i + 1) * 2) (itC (xs.drop i))).heap[k]?) → ∀ ty dl dc, 1 ≤ dl → (Builtin.copy_ #[43, 43] ty #[.slice (some ⟨b, i * 2, none⟩) dl dc, .slice (some ⟨vb, 0, none⟩) 1 1]).run Tryd.prog V = .ok (goInt 1) (V.setCells b (i * 2) (pC p)) := fun V hV ty dl dc hd => by
    have hB' : Blk V b _ := (hV b).trans (hB1 w fun _ => rfl)
    have hv' : Blk V vb (pC p) := (hV vb).trans (hv1 w fun _ => rfl)
    exact run_copy2 ty hB' (Nat.min_eq_left hd) rfl (fun j v hj => by rw [Addr.add_lit, Nat.zero_add]; exact hv'.cell hj) hf2 (pC_one p)
  have hfin : ∀ W : World, (∀ k, W.heap[k]? = w.heap[k]?) → Turns (fun k => some b = some k) w W → InsP w (some b) (xs.take i ++ p :: xs.drop i) (.returned (.slice (some ⟨b, 0, none⟩) (xs.length + 1) c)) ((W.setCells b ((i + 1) * 2) (itC (xs.drop i))).setCells b (i * 2) (pC p)) := fun W hW hT => by
    have hlen : (xs.take i ++ p :: xs.drop i).length = xs.length + 1 := by simp; omega
    refine ⟨some b, c, by rw [hlen]; rfl, ?_, Own.same (Turns.setCells (S := fun k => some b = some k) (.inl rfl) _ _ _ (Turns.setCells (S := fun k => some b = some k) (.inl rfl) _ _ _ hT))⟩
    refine Rw.of_blk (Blk.put (hB1 W hW) hf2) (by rw [length_splice _ _ _ hf2, hl1]; simp [itC_length]; omega) (by rw [hlen]; exact hr) hc ?_
    rw [hlen]
    exact shift_cells xs R p i (by omega) (by omega)
  have hst : ∀ W : World, (∀ k, W.heap[k]? = w.heap[k]?) → ∀ k, (W.setCells b ((i + 1) * 2) (itC (xs.drop i))).heap[k]? = (w.setCells b ((i + 1) * 2) (itC (xs.drop i))).heap[k]? := fun W hW => heap_cong hW _ _ _
  have H3 := Lib.hid hst
  have HF := Lib.hid hfin
  have H1 := Lib.hid hcp1
  have H2 := Lib.hid hcp2
  obtain ⟨D1, hD1⟩ : ∃ D, D = itC (xs.drop i) := ⟨_, rfl⟩
  obtain ⟨P1, hP1⟩ : ∃ D, D = pC p := ⟨_, rfl⟩
  obtain ⟨n, hnn⟩ : ∃ n, n = xs.length := ⟨_, rfl⟩
  rw [← hD1, ← hP1, ← hnn] at HF
  rw [← hD1, ← hnn] at H1
  rw [← hD1, ← hP1] at H2
  rw [← hD1] at H3
  rw [← hnn] at hi hr hn ⊢
  have hz2 : ¬ ((i : Int) = (n : Int)) := by omega
  have hw1 : IntKind.i64.wrap ((i : Int) + 1) = (i : Int) + 1 := by rw [IntKind.wrap_i64]; omega
  have hb1 : (0 : Int) ≤ (i : Int) + 1 := by omega
  have htn : ((i : Int) + 1).toNat = i + 1 := by omega
  have hb2 : ¬ (c = i + 1) := by omega
  have hb3 : (i : Int) ≤ (n : Int) + 1 := by omega
  have hb4 : ¬ (c = i) := by omega
  have hin : i ≤ n := by omega
  clear hst hfin hcp1 hcp2 hB1 hv1 hf1 hf2 hl1 hsr hdl hB hl h hnn hD1 hP1 hv
  go_enter Tryd.func60, Tryd.ntmps60
  go_wp2_with (simp only [hov])
  go_region_law (refine step_copy_runI rfl (.tmp 73) (.tmp 76) 43 43 rfl (.slice (some ⟨b, (i + 1) * 2, none⟩) (n - i) (c - (i + 1))) (.slice (some ⟨b, i * 2, none⟩) (n + 1 - i) (c - i)) (by simp [Act.eval, Act.put]) (by simp [Act.eval, Act.put]) (H1.out w.drew (fun _ => rfl) _ _ _ _ _ (by simp only [Nat.min_def]; split <;> omega)) ?_)
  have hc2 := H2.out (w.drew.setCells b ((i + 1) * 2) D1) (H3.out w.drew (fun _ => rfl)) 3 (n + 1 - i) (c - i) (by omega)
  go_wp2_with fail
  go_ret
  exact HF.out w.drew (fun _ => rfl) ((Turns.refl _ w).drewN 1)
end Go.Proofs.YtflenghnmflenaaDoor
