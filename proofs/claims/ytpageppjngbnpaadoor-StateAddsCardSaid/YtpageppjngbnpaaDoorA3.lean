/-
  What is proved: how an item is put into a row of them, and taken out. Conditions as stated.
  What is proved: an item is put into a row at a place. Conditions as stated.
  What is proved: an item is put into the midst of a row that has room. Conditions as stated.
  What is proved: an item is put into the midst of a row that has no room; into any row. Conditions as stated.
  What is proved: an item is taken out of a row. Conditions as stated.
-/
import Derived.Test.YtpageppjngbnpaaDoorA1
import Derived.Test.YtpageppjngbnpaaDoorA2
import Derived.Shelf.Spec.SlicesInsertGrow
namespace Go.Proofs.YtpageppjngbnpaaDoor
open Go.RowKit
set_option maxRecDepth 100000

theorem Tryd.is81 : (Tryd.prog.info? 81).map (·.size) = some 2 := by kernel_rfl
theorem Tryd.info81 : (Tryd.prog.info? 81).map (fun i => (i.zero, i.size, i.bytes)) = some (some (.agg #[.string ByteArray.empty, .string ByteArray.empty]), 2, 32) := by kernel_rfl
def pC (p : It) : List Value := [.string p.1, .string p.2]
theorem pC_one (p : It) : ∀ v ∈ pC p, v.oneCell' = true := by
  intro v hv
  simp only [pC, List.mem_cons, List.not_mem_nil, or_false] at hv
  rcases hv with rfl | rfl <;> rfl
/-- Block b is a row of items' cells. -/
def Blk (w : World) (b : Nat) (C : List Value) : Prop := w.heap[b]? = some (.cells C.toArray 81 (0, 0))
theorem Blk.cell {w : World} {b : Nat} {C : List Value} (h : Blk w b C) {j : Nat} {v : Value} (hv : C[j]? = some v) : w.cell? ⟨b, j, none⟩ = some v := block_cell h j v hv
theorem Blk.isS {w : World} {b : Nat} {C : List Value} (h : Blk w b C) {j : Nat} (hj : j < C.length) : (w.cell? ⟨b, j, none⟩).isSome = true := by
  rw [h.cell (List.getElem?_eq_getElem hj)]
  rfl
theorem Blk.free {w : World} {b : Nat} {C : List Value} (h : Blk w b C) (j : Nat) : w.frozen? ⟨b, j, none⟩ = false := free_block h j
theorem Blk.lt {w : World} {b : Nat} {C : List Value} (h : Blk w b C) : b < w.heap.size := (Array.getElem?_eq_some_iff.1 h).1
theorem splice_cons {C : List Value} {o : Nat} {v : Value} {r : List Value} (h : o < C.length) : splice (C.set o v) (o + 1) r = splice C o (v :: r) := by
  have h1 : (C.set o v).take (o + 1) = C.take o ++ [v] := by
    rw [List.set_eq_take_append_cons_drop, if_pos h, List.take_append, List.length_take, Nat.min_eq_left (Nat.le_of_lt h), List.take_of_length_le (by rw [List.length_take]; omega), show o + 1 - o = 1 by omega]
    rfl
  have h2 : (C.set o v).drop (o + 1 + r.length) = C.drop (o + (v :: r).length) := by
    rw [List.drop_set_of_lt (by omega), List.length_cons]
    congr 1
    omega
  unfold splice
  rw [h1, h2]
  simp
theorem Blk.put {b : Nat} : ∀ {cs : List Value} {w : World} {C : List Value} {o : Nat}, Blk w b C → o + cs.length ≤ C.length → Blk (w.setCells b o cs) b (splice C o cs)
  | [], w, C, o, h, _ => by
    have e : splice C o [] = C := by simp [splice]
    rw [e]
    exact h
  | v :: r, w, C, o, h, hl => by
    rw [World.setCells, ← splice_cons (by simp at hl; omega)]
    refine Blk.put ?_ (by simp at hl ⊢; omega)
    show (w.setCell ⟨b, o, none⟩ v).heap[b]? = _
    simp [World.setCell, Array.getElem?_modify, show w.heap[b]? = _ from h]
theorem Blk.other {w : World} {b b' : Nat} {C : List Value} (h : Blk w b C) (hne : b ≠ b') (cs : List Value) (o : Nat) : Blk (w.setCells b' o cs) b C := by
  have := (Turns.setCells (S := (· = b')) (a := w) (.inl rfl) cs o w (Turns.refl _ w)).block b h.lt hne
  exact this.trans h
theorem run_copy2 {w : World} (ty : TypeId) {b o dl dc sl sc n : Nat} {a : Addr} {C cs : List Value} (hb : Blk w b C) (hn : Nat.min sl dl = n) (hl : cs.length = n * 2) (hsrc : ∀ j v, cs[j]? = some v → w.cell? (a.add j) = some v)
    (hfit : o + cs.length ≤ C.length) (h1 : ∀ v ∈ cs, v.oneCell' = true) :
    (Builtin.copy_ #[45, 45] ty #[.slice (some ⟨b, o, none⟩) dl dc, .slice (some a) sl sc]).run Tryd.prog w = .ok (goInt n) (w.setCells b o cs) := by
  have hload := run_loadCells_list (P := Tryd.prog) w a cs hsrc
  have hst := run_storeCells_cells (P := Tryd.prog) b o cs 0 w (fun j hj => hb.isS (by omega)) (fun j _ => hb.free _) h1
  cases hq : Tryd.prog.info? 81 with
  | none => have := Tryd.is81; simp [hq] at this
  | some i =>
    have hi : i.size = 2 := by have := Tryd.is81; simpa [hq] using this
    simp [Builtin.copy_, run_underlying Tryd.underlying45, Builtin.lenOf, Builtin.firstCells, sizeOf, typeInfo, hq, hi, hn, ← hl, hload, hst]
theorem itC_app_take (xs : List It) (R : List Value) (i : Nat) (hi : i ≤ xs.length) : (itC xs ++ R).take (i * 2) = itC (xs.take i) := by
  rw [List.take_append_of_le_length (by rw [itC_length]; omega), itC_take]
theorem Rw.of_blk {w : World} {b c : Nat} {xs : List It} {C : List Value} (h : Blk w b C) (hc : C.length = c * 2) (hx : xs.length ≤ c) (hm : c ≤ 9223372036854775807) (ht : C.take (xs.length * 2) = itC xs) : Rw w (some b) c xs :=
  ⟨hx, hm, C.drop (xs.length * 2), by rw [← ht, List.take_append_drop]; exact h, by simp; omega⟩
theorem Rw.blk {w : World} {b c : Nat} {xs : List It} (h : Rw w (some b) c xs) : ∃ R, Blk w b (itC xs ++ R) ∧ xs.length * 2 + R.length = c * 2 := let ⟨_, _, R, hb, hl⟩ := h; ⟨R, hb, hl⟩
theorem shift_cells (xs : List It) (R : List Value) (p : It) (i : Nat) (hi : i ≤ xs.length) (hR : 2 ≤ R.length) :
    (splice (splice (itC xs ++ R) ((i + 1) * 2) (itC (xs.drop i))) (i * 2) (pC p)).take ((xs.length + 1) * 2) = itC (xs.take i ++ p :: xs.drop i) := by
  have e1 : (itC xs ++ R).take ((i + 1) * 2) = itC (xs.take i) ++ ((itC (xs.drop i) ++ R).take 2) := by
    have : itC xs ++ R = itC (xs.take i) ++ (itC (xs.drop i) ++ R) := by rw [← List.append_assoc, ← itC_app, List.take_append_drop]
    rw [this, List.take_append, itC_length, List.length_take, Nat.min_eq_left hi, show (i + 1) * 2 - i * 2 = 2 by omega, List.take_of_length_le (by rw [itC_length, List.length_take]; omega)]
  unfold splice
  rw [e1]
  have hl : (itC (xs.take i)).length = i * 2 := by rw [itC_length, List.length_take, Nat.min_eq_left hi]
  have hl2 : ((itC (xs.drop i) ++ R).take 2).length = 2 := by rw [List.length_take, List.length_append]; omega
  rw [List.append_assoc, List.take_left' hl, ← List.append_assoc, ← List.append_assoc]
  rw [show i * 2 + (pC p).length = (itC (xs.take i) ++ (itC (xs.drop i) ++ R).take 2).length by rw [List.length_append, hl, hl2]; rfl]
  rw [← List.append_assoc, List.append_assoc (itC (xs.take i) ++ (itC (xs.drop i) ++ R).take 2), List.drop_left, itC_app, itC_cons, List.append_assoc (itC (xs.take i)) (pC p)]
  show List.take _ (itC (xs.take i) ++ (pC p ++ (itC (xs.drop i) ++ _))) = itC (xs.take i) ++ (Value.string p.1 :: Value.string p.2 :: itC (xs.drop i))
  rw [← List.append_assoc (pC p), ← List.append_assoc (itC (xs.take i)), List.take_left' (by rw [List.length_append, List.length_append, hl, itC_length, List.length_drop]; simp [pC]; omega)]
  rfl
open Go.RowKit
set_option maxRecDepth 100000

def InsP (w : World) (r : Option Nat) (ys : List It) (E : Ending) (w' : World) : Prop := ∃ r' c', E = .returned (.slice (slA r') ys.length c') ∧ Rw w' r' c' ys ∧ Own w (fun k => r = some k) w' (fun k => r' = some k)
theorem src2 {w : World} {vb : Nat} {p : It} (hv : Blk w vb (pC p)) : Src Tryd.prog 2 45 (.slice (some ⟨vb, 0, none⟩) 1 1) 1 (pC p) w :=
  Src.ofSlice w Tryd.underlying45 ⟨vb, 0, none⟩ 1 1 (pC p) rfl (fun j u hj => by rw [Addr.add_lit, Nat.zero_add]; exact hv.cell hj) (pC_one p)

set_option maxHeartbeats 2000000 in
theorem ins_end_room {w : World} {b c : Nat} {xs : List It} (h : Rw w (some b) c xs) (hn : xs.length ≤ 1000) {vb : Nat} {p : It} (hv : Blk w vb (pC p)) (hr : xs.length + 1 ≤ c) :
    Calls Tryd.prog 60 #[.slice (some ⟨b, 0, none⟩) xs.length c, .int .i64 (xs.length : Int), .slice (some ⟨vb, 0, none⟩) 1 1] w fun E w' => InsP w (some b) (xs ++ [p]) E w' := by
  obtain ⟨R, hB, hl⟩ := h.blk
  obtain ⟨i0, hi0, hz0, hzs, hzb⟩ := info_parts Tryd.info81
  have hc := h.2.1
  have hsrc : Src Tryd.prog i0.size 45 (.slice (some ⟨vb, 0, none⟩) 1 1) 1 (pC p) w := by rw [hzs]; exact src2 hv
  have hfin : InsP w (some b) (xs ++ [p]) (.returned (.slice (some ⟨b, 0, none⟩) (xs.length + 1) c)) (w.setCells b (xs.length * 2) (pC p)) := by
    refine ⟨some b, c, by simp [slA], ?_, Own.same (Turns.setCells (S := fun k => some b = some k) (.inl rfl) _ _ _ (Turns.refl _ w))⟩
    refine Rw.of_blk (Blk.put hB (by simp [pC, itC_length]; omega)) (by rw [length_splice _ _ _ (by simp [pC, itC_length]; omega)]; simp [itC_length]; omega) (by simpa using hr) hc ?_
    unfold splice
    rw [List.take_left' (itC_length xs), itC_app, List.length_append]
    rw [← List.append_assoc, List.take_left' (by simp [itC_length, pC]; omega)]
    simp [itC, pC]
  have HF := Lib.hid hfin
  have HS := Lib.hid hsrc
  have HH := Lib.hid (fun j (hj : j < (pC p).length) => (by rw [hzs]; exact ⟨hB.isS (by simp [pC] at hj; simp [itC_length]; omega), hB.free _⟩ : (w.cell? ⟨b, 0 + xs.length * i0.size + j, none⟩).isSome = true ∧ w.frozen? ⟨b, 0 + xs.length * i0.size + j, none⟩ = false))
  obtain ⟨n, hnn⟩ : ∃ n, n = xs.length := ⟨_, rfl⟩
  rw [← hnn] at HF HH hr hn ⊢
  clear hfin hsrc hB hl h hnn
  go_enter Tryd.func60, Tryd.ntmps60
  go_wp2_with (at_builtin; refine wpList_append_room_src _ rfl _ _ 45 45 rfl 81 i0 Tryd.underlying45 hi0 b 0 n c rfl _ rfl 1 (pC p) HS.out hr (fun j hj => (HH.out j hj).1) (fun j hj => (HH.out j hj).2) ?_)
  go_ret
  exact HF.out
set_option maxHeartbeats 2000000 in
theorem ins_end_grow {w : World} {r : Option Nat} {c : Nat} {xs : List It} (h : Rw w r c xs) (hn : xs.length ≤ 1000) {vb : Nat} {p : It} (hv : Blk w vb (pC p)) (hr : c < xs.length + 1) :
    Calls Tryd.prog 60 #[.slice (slA r) xs.length c, .int .i64 (xs.length : Int), .slice (some ⟨vb, 0, none⟩) 1 1] w fun E w' => InsP w r (xs ++ [p]) E w' := by
  obtain ⟨i0, hi0, hz0, hzs, hzb⟩ := info_parts Tryd.info81
  have hsrc : Src Tryd.prog i0.size 45 (.slice (some ⟨vb, 0, none⟩) 1 1) 1 (pC p) w := by rw [hzs]; exact src2 hv
  have hold : (Builtin.firstCells i0.size xs.length (.slice (slA r) xs.length c)).run Tryd.prog w.drew = .ok (itC xs).toArray w.drew := by
    rw [hzs]
    cases r with
    | none =>
      rw [h.2]
      exact run_firstCells_none w.drew 2 0 0 c
    | some b =>
      obtain ⟨R, hB, _⟩ := h.blk
      exact run_firstCells_some w.drew 2 xs.length ⟨b, 0, none⟩ xs.length c (itC xs) (itC_length xs) (fun j v hj => by
        rw [Addr.add_lit, Nat.zero_add]
        exact hB.cell (by rw [List.getElem?_append_left (List.getElem?_eq_some_iff.1 hj).1]; exact hj))
  have hrun : ∀ ty, (Builtin.append_ #[45, 45] ty #[.slice (slA r) xs.length c, .slice (some ⟨vb, 0, none⟩) 1 1]).run Tryd.prog w = _ := fun ty =>
    run_append_grow_src w 45 45 ty 81 i0 _ Tryd.underlying45 hi0 hz0 (slA r) xs.length c (itC xs) hold _ 1 (pC p) hsrc hr (by omega) (by rw [hzb]; exact growslice_fits hr (by omega))
  obtain ⟨G, hG⟩ : ∃ G, G = grownCap w (xs.length + 1) c 81 := ⟨_, rfl⟩
  have hG1 : xs.length + 1 ≤ G := by rw [hG]; exact grownCap_ge w _ _ _
  have hG2 : G ≤ 9223372036854775807 := by
    have := grownCap_le_maxLen w (xs.length + 1) c 81 (by unfold maxLen; omega)
    rw [← hG] at this
    unfold maxLen at this
    omega
  rw [← hG] at hrun
  obtain ⟨Z, hZ⟩ : ∃ Z : List Value, Z = (Builtin.zeroCells (Value.agg #[.string ByteArray.empty, .string ByteArray.empty]).cells (G - (xs.length + 1))).toList := ⟨_, rfl⟩
  have hZl : Z.length = (G - (xs.length + 1)) * 2 := by rw [hZ]; simp [Builtin.zeroCells, Value.cells]
  have hZ' : ∀ X : List Value, X.toArray ++ Builtin.zeroCells (Value.agg #[.string ByteArray.empty, .string ByteArray.empty]).cells (G - (xs.length + 1)) = (X ++ Z).toArray := fun X => by rw [hZ]; simp
  simp only [hZ'] at hrun
  have hfin : InsP w r (xs ++ [p]) (.returned (.slice (some ⟨w.heap.size, 0, none⟩) (xs.length + 1) G)) (w.drew.alloc (.cells (itC xs ++ pC p ++ Z).toArray 81)) := by
    refine ⟨some w.heap.size, G, by simp [slA], ?_, ?_⟩
    · refine Rw.of_blk (C := itC xs ++ pC p ++ Z) (heap_alloc_new w.drew _) (by simp [itC_length, pC, hZl]; omega) (by simpa using hG1) hG2 ?_
      rw [itC_app, List.length_append, List.take_left' (by simp [itC_length, pC]; omega)]
      simp [itC, pC]
    · exact ⟨(Turns.refl _ w).trans ((Turns.drewN (Turns.refl _ w) 1).alloc _), fun k hk => .inr (by simp at hk; omega)⟩
  have HF := Lib.hid hfin
  have HR := Lib.hid hrun
  obtain ⟨W, hW⟩ : ∃ W, W = w.drew.alloc (.cells (itC xs ++ pC p ++ Z).toArray 81) := ⟨_, rfl⟩
  rw [← hW] at HF HR
  obtain ⟨A, hA⟩ : ∃ A, A = slA r := ⟨_, rfl⟩
  have hAn : A = none ∨ ∃ b, A = some ⟨b, 0, none⟩ := by rw [hA]; cases r with | none => exact .inl rfl | some b => exact .inr ⟨b, rfl⟩
  have hc := h.c
  rw [← hA] at HR ⊢
  obtain ⟨n, hnn⟩ : ∃ n, n = xs.length := ⟨_, rfl⟩
  have hn0 : A = none → n = 0 := fun e => by
    rw [hnn]
    cases r with
    | none => rw [h.2]; rfl
    | some b => rw [hA] at e; cases e
  rw [← hnn] at HF HR hr hn hc ⊢
  clear hfin hrun hW hA hold hsrc hv h hnn hG hG1 hG2 hZ hZl hZ'
  go_enter Tryd.func60, Tryd.ntmps60
  rcases hAn with rfl | ⟨b, rfl⟩
  · obtain rfl := hn0 rfl
    go_wp2_with (at_builtin; refine Lib.wpList_append_run _ rfl _ _ _ _ rfl _ _ rfl rfl _ _ (HR.out _) ?_)
    go_ret
    exact HF.out
  · clear hn0
    go_wp2_with (at_builtin; refine Lib.wpList_append_run _ rfl _ _ _ _ rfl _ _ rfl rfl _ _ (HR.out _) ?_)
    all_goals (go_ret; exact HF.out)
open Go.RowKit
set_option maxRecDepth 100000

theorem Blk.shape {w : World} {b : Nat} {C : List Value} (h : Blk w b C) : w.shape? b = some (81, C.length) := by
  simp [World.shape?, show w.heap[b]? = _ from h]
theorem heap_cong {w W : World} (h : ∀ k : Nat, W.heap[k]? = w.heap[k]?) (b : Nat) : ∀ (o : Nat) (cs : List Value) (k : Nat), (W.setCells b o cs).heap[k]? = (w.setCells b o cs).heap[k]? := by
  intro o cs
  induction cs generalizing w W o with
  | nil => exact h
  | cons v r ih =>
    intro k
    rw [World.setCells, World.setCells]
    refine ih (fun j => ?_) (o + 1) k
    simp only [World.setCell, Array.getElem?_modify, h]
set_option maxHeartbeats 4000000 in
theorem ins_shift {w : World} {b c : Nat} {xs : List It} (h : Rw w (some b) c xs) (hn : xs.length ≤ 1000) {vb : Nat} {p : It} (hv : Blk w vb (pC p)) (hvb : vb ≠ b) {i : Nat} (hi : i < xs.length) (hr : xs.length + 1 ≤ c) :
    Calls Tryd.prog 60 #[.slice (some ⟨b, 0, none⟩) xs.length c, .int .i64 (i : Int), .slice (some ⟨vb, 0, none⟩) 1 1] w fun E w' => InsP w (some b) (xs.take i ++ p :: xs.drop i) E w' := by
  obtain ⟨R, hB, hl⟩ := h.blk
  have hc := h.2.1
  have hov : ∀ o lb cb, (callFunc 66 #[.slice (some ⟨vb, 0, none⟩) 1 1, .slice (some ⟨b, o, none⟩) lb cb]).run Tryd.prog w = .ok (.value (.bool false)) w := fun o lb cb => by
    rw [run_callFunc_extern Tryd.func66 (by kernel_rfl) (by kernel_rfl) (by kernel_rfl) (e := Extern.SlicesOverlaps.overlaps #[45, 45] #[4]) (by kernel_rfl),
      Lib.run_overlaps_apart w 45 4 81 Tryd.underlying45 2 (Tryd.sizeOf81) ⟨vb, 0, none⟩ ⟨b, o, none⟩ 1 1 lb cb hvb 81 81 2 _ hv.shape hB.shape (by simp [itC_length]; omega) (hv.free _) (hv.free _)]
    rfl
  have hdl : (xs.drop i).length = xs.length - i := List.length_drop
  have hsr : ∀ j v, (itC (xs.drop i))[j]? = some v → (itC xs ++ R)[i * 2 + j]? = some v := fun j v hj => by
    rw [← itC_drop, List.getElem?_drop] at hj
    rw [List.getElem?_append_left (List.getElem?_eq_some_iff.1 hj).1]
    exact hj
  have hf1 : (i + 1) * 2 + (itC (xs.drop i)).length ≤ (itC xs ++ R).length := by simp [itC_length]; omega
  have hcp1 : ∀ W : World, (∀ k, W.heap[k]? = w.heap[k]?) → ∀ ty dl dc sl sc, Nat.min sl dl = xs.length - i → (Builtin.copy_ #[45, 45] ty #[.slice (some ⟨b, (i + 1) * 2, none⟩) dl dc, .slice (some ⟨b, i * 2, none⟩) sl sc]).run Tryd.prog W = .ok (goInt (xs.length - i : Nat)) (W.setCells b ((i + 1) * 2) (itC (xs.drop i))) := fun W hW ty dl dc sl sc hm => by
    have hB' : Blk W b (itC xs ++ R) := (hW b).trans hB
    exact run_copy2 ty hB' hm (by rw [itC_length, hdl]) (fun j v hj => by rw [Addr.add_lit]; exact hB'.cell (hsr j v hj)) hf1 (itC_one _)
  have hl1 : (splice (itC xs ++ R) ((i + 1) * 2) (itC (xs.drop i))).length = (itC xs ++ R).length := length_splice _ _ _ hf1
  have hf2 : i * 2 + (pC p).length ≤ (splice (itC xs ++ R) ((i + 1) * 2) (itC (xs.drop i))).length := by rw [hl1]; simp [itC_length, pC]; omega
  have hB1 : ∀ W : World, (∀ k, W.heap[k]? = w.heap[k]?) → Blk (W.setCells b ((i + 1) * 2) (itC (xs.drop i))) b (splice (itC xs ++ R) ((i + 1) * 2) (itC (xs.drop i))) := fun W hW => Blk.put (w := W) (show Blk W b _ from (hW b).trans hB) hf1
  have hv1 : ∀ W : World, (∀ k, W.heap[k]? = w.heap[k]?) → Blk (W.setCells b ((i + 1) * 2) (itC (xs.drop i))) vb (pC p) := fun W hW => Blk.other (show Blk W vb _ from (hW vb).trans hv) hvb _ _
  have hcp2 : ∀ V : World, (∀ k, V.heap[k]? = (w.setCells b ((i + 1) * 2) (itC (xs.drop i))).heap[k]?) → ∀ ty dl dc, 1 ≤ dl → (Builtin.copy_ #[45, 45] ty #[.slice (some ⟨b, i * 2, none⟩) dl dc, .slice (some ⟨vb, 0, none⟩) 1 1]).run Tryd.prog V = .ok (goInt 1) (V.setCells b (i * 2) (pC p)) := fun V hV ty dl dc hd => by
    have hB' : Blk V b _ := (hV b).trans (hB1 w fun _ => rfl)
    have hv' : Blk V vb (pC p) := (hV vb).trans (hv1 w fun _ => rfl)
    exact run_copy2 ty hB' (Nat.min_eq_left hd) rfl (fun j v hj => by rw [Addr.add_lit, Nat.zero_add]; exact hv'.cell hj) hf2 (pC_one p)
  have hfin : ∀ W : World, (∀ k, W.heap[k]? = w.heap[k]?) → Turns (fun k => some b = some k) w W → InsP w (some b) (xs.take i ++ p :: xs.drop i) (.returned (.slice (some ⟨b, 0, none⟩) (xs.length + 1) c)) ((W.setCells b ((i + 1) * 2) (itC (xs.drop i))).setCells b (i * 2) (pC p)) := fun W hW hT => by
    have hlen : (xs.take i ++ p :: xs.drop i).length = xs.length + 1 := by simp; omega
    refine ⟨some b, c, by rw [hlen]; rfl, ?_, Own.same (Turns.setCells (S := fun k => some b = some k) (.inl rfl) _ _ _ (Turns.setCells (S := fun k => some b = some k) (.inl rfl) _ _ _ hT))⟩
    refine Rw.of_blk (Blk.put (hB1 W hW) hf2) (by rw [length_splice _ _ _ hf2, hl1]; simp [itC_length]; omega) (by rw [hlen]; exact hr) hc ?_
    rw [hlen]
    exact shift_cells xs R p i (by omega) (by omega)
  have hst : ∀ W : World, (∀ k, W.heap[k]? = w.heap[k]?) → ∀ k, (W.setCells b ((i + 1) * 2) (itC (xs.drop i))).heap[k]? = (w.setCells b ((i + 1) * 2) (itC (xs.drop i))).heap[k]? := fun W hW => heap_cong hW _ _ _
  have H3 := Lib.hid hst
  have HF := Lib.hid hfin
  have H1 := Lib.hid hcp1
  have H2 := Lib.hid hcp2
  obtain ⟨D1, hD1⟩ : ∃ D, D = itC (xs.drop i) := ⟨_, rfl⟩
  obtain ⟨P1, hP1⟩ : ∃ D, D = pC p := ⟨_, rfl⟩
  obtain ⟨n, hnn⟩ : ∃ n, n = xs.length := ⟨_, rfl⟩
  rw [← hD1, ← hP1, ← hnn] at HF
  rw [← hD1, ← hnn] at H1
  rw [← hD1, ← hP1] at H2
  rw [← hD1] at H3
  rw [← hnn] at hi hr hn ⊢
  have hz2 : ¬ ((i : Int) = (n : Int)) := by omega
  have hw1 : IntKind.i64.wrap ((i : Int) + 1) = (i : Int) + 1 := by rw [IntKind.wrap_i64]; omega
  have hb1 : (0 : Int) ≤ (i : Int) + 1 := by omega
  have htn : ((i : Int) + 1).toNat = i + 1 := by omega
  have hb2 : ¬ (c = i + 1) := by omega
  have hb3 : (i : Int) ≤ (n : Int) + 1 := by omega
  have hb4 : ¬ (c = i) := by omega
  have hin : i ≤ n := by omega
  clear hst hfin hcp1 hcp2 hB1 hv1 hf1 hf2 hl1 hsr hdl hB hl h hnn hD1 hP1 hv
  go_enter Tryd.func60, Tryd.ntmps60
  go_wp2_with (simp only [hov])
  go_region_law (refine step_copy_runI rfl (.tmp 73) (.tmp 76) 45 45 rfl (.slice (some ⟨b, (i + 1) * 2, none⟩) (n - i) (c - (i + 1))) (.slice (some ⟨b, i * 2, none⟩) (n + 1 - i) (c - i)) (by simp [Act.eval, Act.put]) (by simp [Act.eval, Act.put]) (H1.out w.drew (fun _ => rfl) _ _ _ _ _ (by simp only [Nat.min_def]; split <;> omega)) ?_)
  have hc2 := H2.out (w.drew.setCells b ((i + 1) * 2) D1) (H3.out w.drew (fun _ => rfl)) 3 (n + 1 - i) (c - i) (by omega)
  go_wp2_with fail
  go_ret
  exact HF.out w.drew (fun _ => rfl) ((Turns.refl _ w).drewN 1)
open Go.RowKit
set_option maxRecDepth 100000

theorem arr3 (A : List Value) (X Y : Array Value) : A.toArray ++ X ++ Y = (A ++ (X.toList ++ Y.toList)).toArray := by
  apply Array.toList_inj.1
  simp
theorem grow_cells (xs : List It) (Z : List Value) (p : It) (i : Nat) (hi : i ≤ xs.length) :
    (splice (splice (itC (xs.take i) ++ Z) (i * 2) (pC p)) ((i + 1) * 2) (itC (xs.drop i))).take ((xs.length + 1) * 2) = itC (xs.take i ++ p :: xs.drop i) := by
  have hl : (itC (xs.take i)).length = i * 2 := by rw [itC_length, List.length_take, Nat.min_eq_left hi]
  have e1 : splice (itC (xs.take i) ++ Z) (i * 2) (pC p) = itC (xs.take i) ++ pC p ++ Z.drop 2 := by
    unfold splice
    rw [List.take_left' hl, show i * 2 + (pC p).length = i * 2 + 2 from rfl, ← List.drop_drop, List.drop_left' hl, List.append_assoc]
  have hl2 : (itC (xs.take i) ++ pC p).length = (i + 1) * 2 := by rw [List.length_append, hl]; show i * 2 + 2 = _; omega
  rw [e1]
  unfold splice
  rw [List.take_left' hl2, ← List.append_assoc, List.take_left' (by rw [List.length_append, hl2, itC_length, List.length_drop]; omega)]
  rw [itC_app, itC_cons, List.append_assoc]
  rfl
set_option maxHeartbeats 4000000 in
theorem ins_grow {w : World} {b c : Nat} {xs : List It} (h : Rw w (some b) c xs) (hn : xs.length ≤ 1000) {vb : Nat} {p : It} (hv : Blk w vb (pC p)) {i : Nat} (hi : i < xs.length) (hr : c < xs.length + 1) :
    Calls Tryd.prog 60 #[.slice (some ⟨b, 0, none⟩) xs.length c, .int .i64 (i : Int), .slice (some ⟨vb, 0, none⟩) 1 1] w fun E w' => InsP w (some b) (xs.take i ++ p :: xs.drop i) E w' := by
  obtain ⟨R, hB, hl⟩ := h.blk
  obtain ⟨i0, hi0, hz0, hzs, hzb⟩ := info_parts Tryd.info81
  have hc := h.1
  have hbw := hB.lt
  have hvw := hv.lt
  have hdl : (xs.drop i).length = xs.length - i := List.length_drop
  have htl : (xs.take i).length = i := by rw [List.length_take]; omega
  have hkk : (xs.length : Int) + 1 - (i : Int) = ((xs.length + 1 - i : Nat) : Int) := by omega
  have hold : (Builtin.firstCells i0.size i (.slice (some ⟨b, 0, none⟩) i c)).run Tryd.prog w.drew = .ok (itC (xs.take i)).toArray w.drew := by
    rw [hzs]
    exact run_firstCells_some w.drew 2 i ⟨b, 0, none⟩ i c (itC (xs.take i)) (by rw [itC_length, htl]) (fun j v hj => by
      rw [Addr.add_lit, Nat.zero_add]
      have hjl := (List.getElem?_eq_some_iff.1 hj).1
      rw [itC_length, htl] at hjl
      rw [← itC_take, List.getElem?_take, if_pos hjl] at hj
      exact hB.cell (by rw [List.getElem?_append_left (List.getElem?_eq_some_iff.1 hj).1]; exact hj))
  obtain ⟨G, hG⟩ : ∃ G, G = grownCap w (xs.length + 1) c 81 := ⟨_, rfl⟩
  have hG1 : xs.length + 1 ≤ G := by rw [hG]; exact grownCap_ge w _ _ _
  have hG2 : G ≤ 9223372036854775807 := by
    have := grownCap_le_maxLen w (xs.length + 1) c 81 (by unfold maxLen; omega)
    rw [← hG] at this
    unfold maxLen at this
    omega
  obtain ⟨Z, hZ⟩ : ∃ Z : List Value, Z = (Builtin.zeroCells (Value.agg #[.string ByteArray.empty, .string ByteArray.empty]).cells (xs.length + 1 - i)).toList ++ (Builtin.zeroCells (Value.agg #[.string ByteArray.empty, .string ByteArray.empty]).cells (G - (xs.length + 1))).toList := ⟨_, rfl⟩
  have hZl : Z.length = (G - i) * 2 := by rw [hZ]; simp [Builtin.zeroCells, Value.cells]; omega
  have hrz : ∀ ty, (Builtin.append_ #[45, 3] ty #[.slice (some ⟨b, 0, none⟩) i c, .int .i64 ((xs.length : Int) + 1 - (i : Int))]).run Tryd.prog w = .ok (.slice (some ⟨w.heap.size, 0, none⟩) (xs.length + 1) G) (w.drew.alloc (.cells (itC (xs.take i) ++ Z).toArray 81)) := fun ty => by
    have h := Lib.run_append_grow_zeros w 45 3 ty 81 i0 _ .i64 .i64 Tryd.underlying45 Tryd.underlying3 hi0 hz0 (some ⟨b, 0, none⟩) i c (itC (xs.take i)) hold (xs.length + 1 - i) (by omega) (by omega) (by omega) (by omega) (by rw [hzb]; omega) (by rw [hzb, show i + (xs.length + 1 - i) = xs.length + 1 by omega]; exact growslice_fits hr (by omega))
    rw [show i + (xs.length + 1 - i) = xs.length + 1 by omega, ← hG] at h
    rw [hkk, h, hZ, arr3]
  obtain ⟨N, hN⟩ : ∃ N, N = w.heap.size := ⟨_, rfl⟩
  obtain ⟨W1, hW1⟩ : ∃ W1, W1 = w.drew.alloc (.cells (itC (xs.take i) ++ Z).toArray 81) := ⟨_, rfl⟩
  have hB1 : Blk W1 N (itC (xs.take i) ++ Z) := by rw [hW1, hN]; exact heap_alloc_new w.drew _
  have hk1 : ∀ k, k < w.heap.size → W1.heap[k]? = w.heap[k]? := fun k hk => by rw [hW1]; exact heap_alloc_old w.drew _ hk
  have hT1 : Turns (fun k => some b = some k) w W1 := by rw [hW1]; exact ((Turns.refl _ w).drewN 1).alloc _
  rw [← hW1, ← hN] at hrz
  have HN := Lib.hid hN
  have hf1 : i * 2 + (pC p).length ≤ (itC (xs.take i) ++ Z).length := by simp [itC_length, pC, hZl]; omega
  have hcp1 : ∀ V : World, (∀ k, V.heap[k]? = W1.heap[k]?) → ∀ ty dl dc, 1 ≤ dl → (Builtin.copy_ #[45, 45] ty #[.slice (some ⟨N, i * 2, none⟩) dl dc, .slice (some ⟨vb, 0, none⟩) 1 1]).run Tryd.prog V = .ok (goInt 1) (V.setCells N (i * 2) (pC p)) := fun V hV ty dl dc hd => by
    have hB' : Blk V N _ := (hV N).trans hB1
    have hv' : Blk V vb (pC p) := (hV vb).trans ((hk1 vb hvw).trans hv)
    exact run_copy2 ty hB' (Nat.min_eq_left hd) rfl (fun j v hj => by rw [Addr.add_lit, Nat.zero_add]; exact hv'.cell hj) hf1 (pC_one p)
  have hl1 : (splice (itC (xs.take i) ++ Z) (i * 2) (pC p)).length = (itC (xs.take i) ++ Z).length := length_splice _ _ _ hf1
  have hf2 : (i + 1) * 2 + (itC (xs.drop i)).length ≤ (splice (itC (xs.take i) ++ Z) (i * 2) (pC p)).length := by rw [hl1]; simp [itC_length, hZl]; omega
  have hsr : ∀ j v, (itC (xs.drop i))[j]? = some v → (itC xs ++ R)[i * 2 + j]? = some v := fun j v hj => by
    rw [← itC_drop, List.getElem?_drop] at hj
    rw [List.getElem?_append_left (List.getElem?_eq_some_iff.1 hj).1]
    exact hj
  have hcp2 : ∀ V : World, (∀ k, V.heap[k]? = (W1.setCells N (i * 2) (pC p)).heap[k]?) → ∀ ty dl dc sl sc, Nat.min sl dl = xs.length - i → (Builtin.copy_ #[45, 45] ty #[.slice (some ⟨N, (i + 1) * 2, none⟩) dl dc, .slice (some ⟨b, i * 2, none⟩) sl sc]).run Tryd.prog V = .ok (goInt (xs.length - i : Nat)) (V.setCells N ((i + 1) * 2) (itC (xs.drop i))) := fun V hV ty dl dc sl sc hm => by
    have hB' : Blk V N _ := (hV N).trans (Blk.put hB1 hf1)
    have hb' : Blk V b (itC xs ++ R) := (hV b).trans (Blk.other (show Blk W1 b _ from (hk1 b hbw).trans hB) (by omega) _ _)
    exact run_copy2 ty hB' hm (by rw [itC_length, hdl]) (fun j v hj => by rw [Addr.add_lit]; exact hb'.cell (hsr j v hj)) hf2 (itC_one _)
  have hfin : ∀ V : World, (∀ k, V.heap[k]? = (W1.setCells N (i * 2) (pC p)).heap[k]?) → Turns (fun k => some b = some k) w V → InsP w (some b) (xs.take i ++ p :: xs.drop i) (.returned (.slice (some ⟨N, 0, none⟩) (xs.length + 1) G)) (V.setCells N ((i + 1) * 2) (itC (xs.drop i))) := fun V hV hT => by
    have hlen : (xs.take i ++ p :: xs.drop i).length = xs.length + 1 := by simp; omega
    have hB' : Blk V N _ := (hV N).trans (Blk.put hB1 hf1)
    refine ⟨some N, G, by rw [hlen]; rfl, ?_, Turns.setCells (.inr (by rw [hN]; omega)) _ _ _ hT, fun k hk => .inr (by simp at hk; omega)⟩
    refine Rw.of_blk (Blk.put hB' hf2) (by rw [length_splice _ _ _ hf2, hl1]; simp [itC_length, hZl]; omega) (by rw [hlen]; exact hG1) hG2 ?_
    rw [hlen]
    exact grow_cells xs Z p i (by omega)
  have hst : ∀ V : World, (∀ k, V.heap[k]? = W1.heap[k]?) → ∀ k, (V.setCells N (i * 2) (pC p)).heap[k]? = (W1.setCells N (i * 2) (pC p)).heap[k]? := fun V hV => heap_cong hV _ _ _
  have HF := Lib.hid hfin
  have H1 := Lib.hid hcp1
  have H2 := Lib.hid hcp2
  have H3 := Lib.hid hst
  have HT : Hid (∀ V : World, Turns (fun k => some b = some k) w V → Turns (fun k => some b = some k) w (V.setCells N (i * 2) (pC p))) := Lib.hid fun V hT => Turns.setCells (.inr (by rw [hN]; omega)) _ _ _ hT
  have HT1 := Lib.hid hT1
  obtain ⟨D1, hD1⟩ : ∃ D, D = itC (xs.drop i) := ⟨_, rfl⟩
  obtain ⟨P1, hP1⟩ : ∃ D, D = pC p := ⟨_, rfl⟩
  obtain ⟨n, hnn⟩ : ∃ n, n = xs.length := ⟨_, rfl⟩
  rw [← hD1, ← hP1, ← hnn] at HF
  rw [← hP1] at H1 H3 HT
  rw [← hD1, ← hP1, ← hnn] at H2
  rw [← hnn] at hi hr hn hG1 hc hrz ⊢
  have hz2 : ¬ ((i : Int) = (n : Int)) := by omega
  have hz3 : (c : Int) < (n : Int) + 1 := by omega
  have hw1 : IntKind.i64.wrap ((i : Int) + 1) = (i : Int) + 1 := by rw [IntKind.wrap_i64]; omega
  have hb1 : (0 : Int) ≤ (i : Int) + 1 := by omega
  have htn : ((i : Int) + 1).toNat = i + 1 := by omega
  have hGi : ¬ (G = i) := by omega
  have hGi1 : ¬ (G = i + 1) := by omega
  have hci : ¬ (c = i) := by omega
  have hin : i ≤ n := by omega
  have hb3 : (i : Int) ≤ (n : Int) := by omega
  clear hfin hcp1 hcp2 hst hB1 hk1 hT1 hf1 hf2 hl1 hsr hdl htl hB hl h hnn hD1 hP1 hv hW1 hN hkk hold hG hZ hZl hi0 hz0 hzs hzb hbw hvw
  have hc1 := H1.out W1 (fun _ => rfl) 3 (n + 1 - i) (G - i) (by omega)
  go_enter Tryd.func60, Tryd.ntmps60
  go_wp2_with (at_builtin; refine Lib.wpList_append_run _ rfl _ _ _ _ rfl _ _ rfl rfl _ _ (hrz _) ?_)
  go_region_law (refine step_copy_runI rfl (.tmp 50) (.tmp 53) 45 45 rfl (.slice (some ⟨N, (i + 1) * 2, none⟩) (n - i) (G - (i + 1))) (.slice (some ⟨b, i * 2, none⟩) (n - i) (c - i)) (by simp [Act.eval, Act.put]) (by simp [Act.eval, Act.put]) (H2.out (W1.setCells N (i * 2) P1).drew (fun _ => rfl) _ _ _ _ _ (by simp only [Nat.min_def]; split <;> omega)) ?_)
  go_wp2_with fail
  go_ret
  exact HF.out _ (fun _ => rfl) ((HT.out W1 HT1.out).drewN 1)
/-- An item is put into a row at a place. -/
theorem insert_any {w : World} {r : Option Nat} {c : Nat} {xs : List It} (h : Rw w r c xs) (hn : xs.length ≤ 1000) {vb : Nat} {p : It} (hv : Blk w vb (pC p)) (hne : r ≠ some vb) {i : Nat} (hi : i ≤ xs.length) :
    Calls Tryd.prog 60 #[.slice (slA r) xs.length c, .int .i64 (i : Int), .slice (some ⟨vb, 0, none⟩) 1 1] w fun E w' => InsP w r (xs.take i ++ p :: xs.drop i) E w' := by
  rcases Nat.lt_or_eq_of_le hi with hlt | rfl
  · cases r with
    | none => have := h.2; rw [this] at hlt; simp at hlt
    | some b =>
      have hvb : vb ≠ b := fun e => hne (by rw [e])
      by_cases hr : xs.length + 1 ≤ c
      · exact ins_shift h hn hv hvb hlt hr
      · exact ins_grow h hn hv hlt (by omega)
  · rw [List.take_length, List.drop_length]
    by_cases hr : xs.length + 1 ≤ c
    · cases r with
      | none => have := h.1; omega
      | some b => exact ins_end_room h hn hv hr
    · exact ins_end_grow h hn hv (by omega)
open Go.RowKit
set_option maxRecDepth 100000

theorem run_clear2 {w : World} (ty : TypeId) {b o c : Nat} {C : List Value} (hb : Blk w b C) (hl : o + 2 ≤ C.length) :
    (Builtin.clear_ #[45] ty #[.slice (some ⟨b, o, none⟩) 1 c]).run Tryd.prog w = .ok (.tuple #[]) (w.setCells b o [.string ByteArray.empty, .string ByteArray.empty]) := by
  have hst := run_storeCells_cells (P := Tryd.prog) b o [.string ByteArray.empty, .string ByteArray.empty] 0 w (fun j hj => hb.isS (by simp at hj; omega)) (fun j _ => hb.free _) (by simp [Value.oneCell'])
  simp only [Nat.add_zero] at hst
  have hzc' : (Builtin.zeroCells #[Value.string ⟨#[]⟩, Value.string ⟨#[]⟩] 1).toList = [.string ByteArray.empty, .string ByteArray.empty] := by
    first | kernel_rfl | (simp [Builtin.zeroCells, Array.range_succ, ByteArray.empty]; done) | (simp [Builtin.zeroCells]; rfl)
  simp [Builtin.clear_, run_underlying Tryd.underlying45, Tryd.zeroValue81, hzc', Value.cells, hst]
theorem del_cells (xs : List It) (R : List Value) (i : Nat) (hi : i < xs.length) :
    (splice (splice (itC xs ++ R) (i * 2) (itC (xs.drop (i + 1)))) ((xs.length - 1) * 2) [Value.string ByteArray.empty, .string ByteArray.empty]).take ((xs.length - 1) * 2) = itC (xs.take i ++ xs.drop (i + 1)) := by
  have hl : (itC (xs.take i)).length = i * 2 := by rw [itC_length, List.length_take]; omega
  have e1 : (itC xs ++ R).take (i * 2) = itC (xs.take i) := itC_app_take xs R i (by omega)
  have hl2 : (itC (xs.take i) ++ itC (xs.drop (i + 1))).length = (xs.length - 1) * 2 := by rw [List.length_append, hl, itC_length, List.length_drop]; omega
  have e2 : splice (itC xs ++ R) (i * 2) (itC (xs.drop (i + 1))) = itC (xs.take i) ++ itC (xs.drop (i + 1)) ++ (itC xs ++ R).drop (i * 2 + (itC (xs.drop (i + 1))).length) := by
    unfold splice
    rw [e1, List.append_assoc]
  rw [e2]
  unfold splice
  rw [List.take_left' hl2, List.take_left' hl2, itC_app]
def DelP (w : World) (b c : Nat) (ys : List It) (E : Ending) (w' : World) : Prop := E = .returned (.slice (some ⟨b, 0, none⟩) ys.length c) ∧ Rw w' (some b) c ys ∧ Turns (fun k => some b = some k) w w'
set_option maxHeartbeats 4000000 in
theorem delete_any {w : World} {b c : Nat} {xs : List It} (h : Rw w (some b) c xs) (hn : xs.length ≤ 1000) {i : Nat} (hi : i < xs.length) :
    Calls Tryd.prog 56 #[.slice (some ⟨b, 0, none⟩) xs.length c, .int .i64 (i : Int), .int .i64 ((i : Int) + 1)] w fun E w' => DelP w b c (xs.take i ++ xs.drop (i + 1)) E w' := by
  obtain ⟨R, hB, hl⟩ := h.blk
  obtain ⟨i0, hi0, hz0, hzs, hzb⟩ := info_parts Tryd.info81
  have hc := h.1
  have hc63 := h.2.1
  have hdl : (itC (xs.drop (i + 1))).length = (xs.length - (i + 1)) * 2 := by rw [itC_length, List.length_drop]
  have hsr : ∀ j v, (itC (xs.drop (i + 1)))[j]? = some v → (itC xs ++ R)[(i + 1) * 2 + j]? = some v := fun j v hj => by
    rw [← itC_drop, List.getElem?_drop] at hj
    rw [List.getElem?_append_left (List.getElem?_eq_some_iff.1 hj).1]
    exact hj
  have hf1 : i * 2 + (itC (xs.drop (i + 1))).length ≤ (itC xs ++ R).length := by rw [hdl]; simp [itC_length]; omega
  have hl1 : (splice (itC xs ++ R) (i * 2) (itC (xs.drop (i + 1)))).length = (itC xs ++ R).length := length_splice _ _ _ hf1
  have hf2 : (xs.length - 1) * 2 + 2 ≤ (splice (itC xs ++ R) (i * 2) (itC (xs.drop (i + 1)))).length := by rw [hl1]; simp [itC_length]; omega
  obtain ⟨W1, hW1⟩ : ∃ W1, W1 = w.drew.setCells b (0 + i * 2) (itC (xs.drop (i + 1))) := ⟨_, rfl⟩
  have hB1 : Blk W1 b (splice (itC xs ++ R) (i * 2) (itC (xs.drop (i + 1)))) := by rw [hW1, Nat.zero_add]; exact Blk.put (w := w.drew) hB hf1
  have hcl : ∀ ty dc, (Builtin.clear_ #[45] ty #[.slice (some ⟨b, (xs.length - 1) * 2, none⟩) 1 dc]).run Tryd.prog W1 = .ok (.tuple #[]) (W1.setCells b ((xs.length - 1) * 2) [.string ByteArray.empty, .string ByteArray.empty]) := fun ty dc => run_clear2 ty hB1 hf2
  have hfin : DelP w b c (xs.take i ++ xs.drop (i + 1)) (.returned (.slice (some ⟨b, 0, none⟩) (xs.length - 1) c)) (W1.setCells b ((xs.length - 1) * 2) [.string ByteArray.empty, .string ByteArray.empty]) := by
    have hlen : (xs.take i ++ xs.drop (i + 1)).length = xs.length - 1 := by simp; omega
    refine ⟨by rw [hlen], ?_, Turns.setCells (S := fun k => some b = some k) (.inl rfl) _ _ _ (by rw [hW1]; exact Turns.setCells (S := fun k => some b = some k) (.inl rfl) _ _ _ ((Turns.refl _ w).drewN 1))⟩
    refine Rw.of_blk (Blk.put hB1 hf2) (by rw [length_splice _ _ _ hf2, hl1]; simp [itC_length]; omega) (by rw [hlen]; omega) hc63 ?_
    rw [hlen]
    exact del_cells xs R i hi
  have s1 : Hid (∀ j u, (itC (xs.drop (i + 1)))[j]? = some u → w.drew.cell? ((⟨b, (i + 1) * 2, none⟩ : Addr).add j) = some u) := Lib.hid fun j u hj => by
    rw [Addr.add_lit]
    exact hB.cell (hsr j u hj)
  have s2 := Lib.hid (itC_one (xs.drop (i + 1)))
  have s3 : Hid (∀ j, j < (itC (xs.drop (i + 1))).length → (w.drew.cell? ⟨b, 0 + i * 2 + j, none⟩).isSome = true ∧ w.drew.frozen? ⟨b, 0 + i * 2 + j, none⟩ = false) := Lib.hid fun j hj => ⟨hB.isS (by omega), hB.free _⟩
  have s4 := Lib.hid hdl
  have s5 : Hid (xs.length = i + 1 → itC (xs.drop (i + 1)) = []) := Lib.hid fun e => by rw [List.drop_eq_nil_of_le (by omega)]; rfl
  have HW := Lib.hid hW1
  have HF := Lib.hid hfin
  obtain ⟨D1, hD1⟩ : ∃ D, D = itC (xs.drop (i + 1)) := ⟨_, rfl⟩
  obtain ⟨n, hnn⟩ : ∃ n, n = xs.length := ⟨_, rfl⟩
  rw [← hD1] at s1 s2 s3 s4 s5 HW
  rw [← hnn] at s4 s5 HF hcl hc hi hn ⊢
  obtain ⟨m, hm⟩ : ∃ m, m = n - 1 := ⟨_, rfl⟩
  rw [← hm] at HF hcl
  have hm1 : i + (n - (i + 1)) = m := by omega
  have hm2 : n - m = 1 := by omega
  have hm3 : ¬ (c = m) := by omega
  have hm4 : m ≤ n := by omega
  have hw1 : ¬ ((i : Int) = (i : Int) + 1) := by omega
  have hb1 : (0 : Int) ≤ (i : Int) + 1 := by omega
  have htn : ((i : Int) + 1).toNat = i + 1 := by omega
  have hci : ¬ (c = i) := by omega
  have hin : (i : Int) + 1 ≤ (n : Int) := by omega
  have hin2 : (i : Int) ≤ (n : Int) := by omega
  have hic : (i : Int) ≤ (c : Int) := by omega
  have hnc : (n : Int) ≤ (c : Int) := by omega
  clear hfin hB1 hf1 hf2 hl1 hsr hdl hB hl h hnn hD1 hW1 hm hz0 hzb
  by_cases hcc : c = i + 1
  · obtain rfl : n = i + 1 := by omega
    obtain rfl := hcc
    have HD := Lib.hid (s5.out rfl)
    have s6 : D1.length = 0 * 2 := by rw [HD.out]; rfl
    have s7 : ∀ j u, D1[j]? = some u → w.drew.cell? ((⟨b, 0, none⟩ : Addr).add j) = some u := fun j u hj => by rw [HD.out] at hj; cases hj
    have hmi : m = i := by omega
    subst hmi
    have HX := Lib.hid (And.intro s6 s7)
    have hx : (m : Int) ≤ (m : Int) + 1 := by omega
    clear s6 s7 hm1 hic hnc hin
    go_enter Tryd.func56, Tryd.ntmps56
    go_wp2_with fail
    go_region_law (refine step_append_room rfl (.tmp 22) (.tmp 25) 45 rfl 81 i0 2 Tryd.underlying45 hi0 hzs b 0 m (m + 1) (by simp [Act.eval, Act.put]) ⟨b, 0, none⟩ 0 0 D1 (by simp [Act.eval, Act.put]) HX.out.1 HX.out.2 s2.out (by omega) s3.out ?_; rw [← HW.out])
    go_wp2_with fail
    go_ret
    exact HF.out
  · go_enter Tryd.func56, Tryd.ntmps56
    go_wp2_with fail
    go_region_law (refine step_append_room rfl (.tmp 22) (.tmp 25) 45 rfl 81 i0 2 Tryd.underlying45 hi0 hzs b 0 i c (by simp [Act.eval, Act.put]) ⟨b, (i + 1) * 2, none⟩ (n - (i + 1)) (c - (i + 1)) D1 (by simp [Act.eval, Act.put]) s4.out s1.out s2.out (by omega) s3.out ?_; rw [← HW.out])
    go_wp2_with fail
    go_ret
    exact HF.out
end Go.Proofs.YtpageppjngbnpaaDoor
