/-
  What is proved: an item is put into the midst of a row that has no room; into any row. Conditions as stated.
-/
import Derived.Test.YtflenghnmflenaaDoorLg
namespace Go.Proofs.YtflenghnmflenaaDoor
open Go.RowKit
set_option maxRecDepth 100000

theorem arr3 (A : List Value) (X Y : Array Value) : A.toArray ++ X ++ Y = (A ++ (X.toList ++ Y.toList)).toArray := by
  apply Array.toList_inj.1
  simp
theorem grow_cells (xs : List It) (Z : List Value) (p : It) (i : Nat) (hi : i ≤ xs.length) :
    (splice (splice (itC (xs.take i) ++ Z) (i * 2) (pC p)) ((i + 1) * 2) (itC (xs.drop i))).take ((xs.length + 1) * 2) = itC (xs.take i ++ p :: xs.drop i) := by
  have hl : (itC (xs.take i)).length = i * 2 := by rw [itC_length, List.length_take, Nat.min_eq_left hi]
  have e1 : splice (itC (xs.take i) ++ Z) (i * 2) (pC p) = itC (xs.take i) ++ pC p ++ Z.drop 2 := by
    unfold splice
    rw [List.take_left' hl, show i * 2 + (pC p).length = i * 2 + 2 from rfl, ← List.drop_drop, List.drop_left' hl, List.append_assoc]
  have hl2 : (itC (xs.take i) ++ pC p).length = (i + 1) * 2 := by rw [List.length_append, hl]; show i * 2 + 2 = _; omega
  rw [e1]
  unfold splice
  rw [List.take_left' hl2, ← List.append_assoc, List.take_left' (by rw [List.length_append, hl2, itC_length, List.length_drop]; omega)]
  rw [itC_app, itC_cons, List.append_assoc]
  rfl
set_option maxHeartbeats 4000000 in
theorem ins_grow {w : World} {b c : Nat} {xs : List It} (h : Rw w (some b) c xs) (hn : xs.length ≤ 1000) {vb : Nat} {p : It} (hv : Blk w vb (pC p)) {i : Nat} (hi : i < xs.length) (hr : c < xs.length + 1) :
    Calls Tryd.prog 60 #[.slice (some ⟨b, 0, none⟩) xs.length c, .int .i64 (i : Int), .slice (some ⟨vb, 0, none⟩) 1 1] w fun E w' => InsP w (some b) (xs.take i ++ p :: xs.drop i) E w' := by
  obtain ⟨R, hB, hl⟩ := h.blk
  obtain ⟨i0, hi0, hz0, hzs, hzb⟩ := info_parts Tryd.info64
  have hc := h.1
  have hbw := hB.lt
  have hvw := hv.lt
  have hdl : (xs.drop i).length = xs.length - i := List.length_drop
  have htl : (xs.take i).length = i := by rw [List.length_take]; omega
  have hkk : (xs.length : Int) + 1 - (i : Int) = ((xs.length + 1 - i : Nat) : Int) := by omega
  have hold : (Builtin.firstCells i0.size i (.slice (some ⟨b, 0, none⟩) i c)).run Tryd.prog w.drew = .ok (itC (xs.take i)).toArray w.drew := by
    rw [hzs]
    exact run_firstCells_some w.drew 2 i ⟨b, 0, none⟩ i c (itC (xs.take i)) (by rw [itC_length, htl]) (fun j v hj => by
      rw [Addr.add_lit, Nat.zero_add]
      have hjl := (List.getElem?_eq_some_iff.1 hj).1
      rw [itC_length, htl] at hjl
      rw [← itC_take, List.getElem?_take, if_pos hjl] at hj
      exact hB.cell (by rw [List.getElem?_append_left (List.getElem?_eq_some_iff.1 hj).1]; exact hj))
  obtain ⟨G, hG⟩ : ∃ G, G = grownCap w (xs.length + 1) c 64 := ⟨_, rfl⟩
  have hG1 : xs.length + 1 ≤ G := by rw [hG]; exact grownCap_ge w _ _ _
  have hG2 : G ≤ 9223372036854775807 := by
    have := grownCap_le_maxLen w (xs.length + 1) c 64 (by unfold maxLen; omega)
    rw [← hG] at this
    unfold maxLen at this
    omega
  obtain ⟨Z, hZ⟩ : ∃ Z : List Value, Z = (Builtin.zeroCells (Value.agg #[.string ByteArray.empty, .string ByteArray.empty]).cells (xs.length + 1 - i)).toList ++ (Builtin.zeroCells (Value.agg #[.string ByteArray.empty, .string ByteArray.empty]).cells (G - (xs.length + 1))).toList := ⟨_, rfl⟩
  have hZl : Z.length = (G - i) * 2 := by rw [hZ]; simp [Builtin.zeroCells, Value.cells]; omega
  have hrz : ∀ ty, (Builtin.append_ #[43, 3] ty #[.slice (some ⟨b, 0, none⟩) i c, .int .i64 ((xs.length : Int) + 1 - (i : Int))]).run Tryd.prog w = .ok (.slice (some ⟨w.heap.size, 0, none⟩) (xs.length + 1) G) (w.drew.alloc (.cells (itC (xs.take i) ++ Z).toArray 64)) := fun ty => by
    have h := Lib.run_append_grow_zeros w 43 3 ty 64 i0 _ .i64 .i64 Tryd.underlying43 Tryd.underlying3 hi0 hz0 (some ⟨b, 0, none⟩) i c (itC (xs.take i)) hold (xs.length + 1 - i) (by omega) (by omega) (by omega) (by omega) (by rw [hzb]; omega) (by rw [hzb, show i + (xs.length + 1 - i) = xs.length + 1 by omega]; exact growslice_fits hr (by omega))
    rw [show i + (xs.length + 1 - i) = xs.length + 1 by omega, ← hG] at h
    rw [hkk, h, hZ, arr3]
  obtain ⟨N, hN⟩ : ∃ N, N = w.heap.size := ⟨_, rfl⟩
  obtain ⟨W1, hW1⟩ : ∃ W1, W1 = w.drew.alloc (.cells (itC (xs.take i) ++ Z).toArray 64) := ⟨_, rfl⟩
  have hB1 : Blk W1 N (itC (xs.take i) ++ Z) := by rw [hW1, hN]; exact heap_alloc_new w.drew _
  have hk1 : ∀ k, k < w.heap.size → W1.heap[k]? = w.heap[k]? := fun k hk => by rw [hW1]; exact heap_alloc_old w.drew _ hk
  have hT1 : Turns (fun k => some b = some k) w W1 := by rw [hW1]; exact ((Turns.refl _ w).drewN 1).alloc _
  rw [← hW1, ← hN] at hrz
  have HN := Lib.hid hN
  have hf1 : i * 2 + (pC p).length ≤ (itC (xs.take i) ++ Z).length := by simp [itC_length, pC, hZl]; omega
  have hcp1 : ∀ V : World, (∀ k, V.heap[k]? = W1.heap[k]?) → ∀ ty dl dc, 1 ≤ dl → (Builtin.copy_ #[43, 43] ty #[.slice (some ⟨N, i * 2, none⟩) dl dc, .slice (some ⟨vb, 0, none⟩) 1 1]).run Tryd.prog V = .ok (goInt 1) (V.setCells N (i * 2) (pC p)) := fun V hV ty dl dc hd => by
    have hB' : Blk V N _ := (hV N).trans hB1
    have hv' : Blk V vb (pC p) := (hV vb).trans ((hk1 vb hvw).trans hv)
    exact run_copy2 ty hB' (Nat.min_eq_left hd) rfl (fun j v hj => by rw [Addr.add_lit, Nat.zero_add]; exact hv'.cell hj) hf1 (pC_one p)
  have hl1 : (splice (itC (xs.take i) ++ Z) (i * 2) (pC p)).length = (itC (xs.take i) ++ Z).length := length_splice _ _ _ hf1
  have hf2 : (i + 1) * 2 + (itC (xs.drop i)).length ≤ (splice (itC (xs.take i) ++ Z) (i * 2) (pC p)).length := by rw [hl1]; simp [itC_length, hZl]; omega
  have hsr : ∀ j v, (itC (xs.drop i))[j]? = some v → (itC xs ++ R)[i * 2 + j]? = some v := fun j v hj => by
    rw [← itC_drop, List.getElem?_drop] at hj
    rw [List.getElem?_append_left (List.getElem?_eq_some_iff.1 hj).1]
    exact hj
  have hcp2 : ∀ V : World, (∀ k, V.heap[k]? = (W1.setCells N (i * 2) (pC p)).heap[k]?) → ∀ ty dl dc sl sc, Nat.min sl dl = xs.length - i → (Builtin.copy_ #[43, 43] ty #[.slice (some ⟨N, (i + 1) * 2, none⟩) dl dc, .slice (some ⟨b, i * 2, none⟩) sl sc]).run Tryd.prog V = .ok (goInt (xs.length - i : Nat)) (V.setCells N ((i + 1) * 2) (itC (xs.drop i))) := fun V hV ty dl dc sl sc hm => by
    have hB' : Blk V N _ := (hV N).trans (Blk.put hB1 hf1)
    have hb' : Blk V b (itC xs ++ R) := (hV b).trans (Blk.other (show Blk W1 b _ from (hk1 b hbw).trans hB) (by omega) _ _)
    exact run_copy2 ty hB' hm (by rw [itC_length, hdl]) (fun j v hj => by rw [Addr.add_lit]; exact hb'.cell (hsr j v hj)) hf2 (itC_one _)
  have hfin : ∀ V : World, (∀ k, V.heap[k]? = (W1.setCells N (i * 2) (pC p)).heap[k]?) → Turns (fun k => some b = some k) w V → InsP w (some b) (xs.take i ++ p :: xs.drop i) (.returned (.slice (some ⟨N, 0, none⟩) (xs.length + 1) G)) (V.setCells N ((i + 1) * 2) (itC (xs.drop i))) := fun V hV hT => by
    have hlen : (xs.take i ++ p :: xs.drop i).length = xs.length + 1 := by simp; omega
    have hB' : Blk V N _ := (hV N).trans (Blk.put hB1 hf1)
    refine ⟨some N, G, by rw [hlen]; rfl, ?_, Turns.setCells (.inr (by rw [hN]; omega)) _ _ _ hT, fun k hk => .inr (by simp at hk; omega)⟩
    refine Rw.of_blk (Blk.put hB' hf2) (by rw [length_splice _ _ _ hf2, hl1]; simp [itC_length, hZl]; omega) (by rw [hlen]; exact hG1) hG2 ?_
    rw [hlen]
    exact grow_cells xs Z p i (by omega)
  have hst : ∀ V : World, (∀ k, V.heap[k]? = W1.heap[k]?) → ∀ k, (V.setCells N (i * 2) (pC p)).heap[k]? = (W1.setCells N (i * 2) (pC p)).heap[k]? := fun V hV => heap_cong hV _ _ _
  have HF := Lib.hid hfin
  have H1 := Lib.hid hcp1
  have H2 := Lib.hid hcp2
  have H3 := Lib.hid hst
  have HT : Hid (∀ V : World, Turns (fun k => some b = some k) w V → Turns (fun k => some b = some k) w (V.setCells N (i * 2) (pC p))) := Lib.hid fun V hT => Turns.setCells (.inr (by rw [hN]; omega)) _ _ _ hT
  have HT1 := Lib.hid hT1
  obtain ⟨D1, hD1⟩ : ∃ D, D = itC (xs.drop i) := ⟨_, rfl⟩
  obtain ⟨P1, hP1⟩ : ∃ D, D = pC p := ⟨_, rfl⟩
  obtain ⟨n, hnn⟩ : ∃ n, n = xs.length := ⟨_, rfl⟩
  rw [← hD1, ← hP1, ← hnn] at HF
  rw [← hP1] at H1 H3 HT
  rw [← hD1, ← hP1, ← hnn] at H2
  rw [← hnn] at hi hr hn hG1 hc hrz ⊢
  have hz2 : ¬ ((i : Int) = (n : Int)) := by omega
  have hz3 : (c : Int) < (n : Int) + 1 := by omega
  have hw1 : IntKind.i64.wrap ((i : Int) + 1) = (i : Int) + 1 := by rw [IntKind.wrap_i64]; omega
  have hb1 : (0 : Int) ≤ (i : Int) + 1 := by omega
  have htn : ((i : Int) + 1).toNat = i + 1 := by omega
  have hGi : ¬ (G = i) := by omega
  have hGi1 : ¬ (G = i + 1) := by omega
  have hci : ¬ (c = i) := by omega
  have hin : i ≤ n := by omega
  have hb3 : (i : Int) ≤ (n : Int) := by omega
  clear hfin hcp1 hcp2 hst hB1 hk1 hT1 hf1 hf2 hl1 hsr hdl htl hB hl h hnn hD1 hP1 hv hW1 hN hkk hold hG hZ hZl hi0 hz0 hzs hzb hbw hvw
  have hc1 := H1.out W1 (fun _ => rfl) 3 (n + 1 - i) (G - i) (by omega)
  go_enter Tryd.func60, Tryd.ntmps60
  go_wp2_with (at_builtin; refine Lib.wpList_append_run _ rfl _ _ _ _ rfl _ _ rfl rfl _ _ (hrz _) ?_)
  go_region_law (refine step_copy_runI rfl (.tmp 50) (.tmp 53) 43 43 rfl (.slice (some ⟨N, (i + 1) * 2, none⟩) (n - i) (G - (i + 1))) (.slice (some ⟨b, i * 2, none⟩) (n - i) (c - i)) (by simp [Act.eval, Act.put]) (by simp [Act.eval, Act.put]) (H2.out (W1.setCells N (i * 2) P1).drew (fun _ => rfl) _ _ _ _ _ (by simp only [Nat.min_def]; split <;> omega)) ?_)
  go_wp2_with fail
  go_ret
  exact HF.out _ (fun _ => rfl) ((HT.out W1 HT1.out).drewN 1)
/-- An item is put into a row at a place. -/
theorem insert_any {w : World} {r : Option Nat} {c : Nat} {xs : List It} (h : Rw w r c xs) (hn : xs.length ≤ 1000) {vb : Nat} {p : It} (hv : Blk w vb (pC p)) (hne : r ≠ some vb) {i : Nat} (hi : i ≤ xs.length) :
    Calls Tryd.prog 60 #[.slice (slA r) xs.length c, .int .i64 (i : Int), .slice (some ⟨vb, 0, none⟩) 1 1] w fun E w' => InsP w r (xs.take i ++ p :: xs.drop i) E w' := by
  rcases Nat.lt_or_eq_of_le hi with hlt | rfl
  · cases r with
    | none => have := h.2; rw [this] at hlt; simp at hlt
    | some b =>
      have hvb : vb ≠ b := fun e => hne (by rw [e])
      by_cases hr : xs.length + 1 ≤ c
      · exact ins_shift h hn hv hvb hlt hr
      · exact ins_grow h hn hv hlt (by omega)
  · rw [List.take_length, List.drop_length]
    by_cases hr : xs.length + 1 ≤ c
    · cases r with
      | none => have := h.1; omega
      | some b => exact ins_end_room h hn hv hr
    · exact ins_end_grow h hn hv (by omega)
end Go.Proofs.YtflenghnmflenaaDoor
