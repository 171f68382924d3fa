/-
  What is proved: how an item is put into a row of them, and taken out. Conditions as stated.
-/
import Derived.Test.YtflenghnmflenaaDoorLb
import Derived.Test.YtflenghnmflenaaDoorLca
import Derived.Shelf.Spec.SlicesInsertGrow
namespace Go.Proofs.YtflenghnmflenaaDoor
open Go.RowKit
set_option maxRecDepth 100000

theorem Tryd.is64 : (Tryd.prog.info? 64).map (·.size) = some 2 := by kernel_rfl
theorem Tryd.info64 : (Tryd.prog.info? 64).map (fun i => (i.zero, i.size, i.bytes)) = some (some (.agg #[.string ByteArray.empty, .string ByteArray.empty]), 2, 32) := by kernel_rfl
def pC (p : It) : List Value := [.string p.1, .string p.2]
theorem pC_one (p : It) : ∀ v ∈ pC p, v.oneCell' = true := by
  intro v hv
  simp only [pC, List.mem_cons, List.not_mem_nil, or_false] at hv
  rcases hv with rfl | rfl <;> rfl
/-- Block b is a row of items' cells. -/
def Blk (w : World) (b : Nat) (C : List Value) : Prop := w.heap[b]? = some (.cells C.toArray 64 (0, 0))
theorem Blk.cell {w : World} {b : Nat} {C : List Value} (h : Blk w b C) {j : Nat} {v : Value} (hv : C[j]? = some v) : w.cell? ⟨b, j, none⟩ = some v := block_cell h j v hv
theorem Blk.isS {w : World} {b : Nat} {C : List Value} (h : Blk w b C) {j : Nat} (hj : j < C.length) : (w.cell? ⟨b, j, none⟩).isSome = true := by
  rw [h.cell (List.getElem?_eq_getElem hj)]
  rfl
theorem Blk.free {w : World} {b : Nat} {C : List Value} (h : Blk w b C) (j : Nat) : w.frozen? ⟨b, j, none⟩ = false := free_block h j
theorem Blk.lt {w : World} {b : Nat} {C : List Value} (h : Blk w b C) : b < w.heap.size := (Array.getElem?_eq_some_iff.1 h).1
theorem splice_cons {C : List Value} {o : Nat} {v : Value} {r : List Value} (h : o < C.length) : splice (C.set o v) (o + 1) r = splice C o (v :: r) := by
  have h1 : (C.set o v).take (o + 1) = C.take o ++ [v] := by
    rw [List.set_eq_take_append_cons_drop, if_pos h, List.take_append, List.length_take, Nat.min_eq_left (Nat.le_of_lt h), List.take_of_length_le (by rw [List.length_take]; omega), show o + 1 - o = 1 by omega]
    rfl
  have h2 : (C.set o v).drop (o + 1 + r.length) = C.drop (o + (v :: r).length) := by
    rw [List.drop_set_of_lt (by omega), List.length_cons]
    congr 1
    omega
  unfold splice
  rw [h1, h2]
  simp
theorem Blk.put {b : Nat} : ∀ {cs : List Value} {w : World} {C : List Value} {o : Nat}, Blk w b C → o + cs.length ≤ C.length → Blk (w.setCells b o cs) b (splice C o cs)
  | [], w, C, o, h, _ => by
    have e : splice C o [] = C := by simp [splice]
    rw [e]
    exact h
  | v :: r, w, C, o, h, hl => by
    rw [World.setCells, ← splice_cons (by simp at hl; omega)]
    refine Blk.put ?_ (by simp at hl ⊢; omega)
    show (w.setCell ⟨b, o, none⟩ v).heap[b]? = _
    simp [World.setCell, Array.getElem?_modify, show w.heap[b]? = _ from h]
theorem Blk.other {w : World} {b b' : Nat} {C : List Value} (h : Blk w b C) (hne : b ≠ b') (cs : List Value) (o : Nat) : Blk (w.setCells b' o cs) b C := by
  have := (Turns.setCells (S := (· = b')) (a := w) (.inl rfl) cs o w (Turns.refl _ w)).block b h.lt hne
  exact this.trans h
theorem run_copy2 {w : World} (ty : TypeId) {b o dl dc sl sc n : Nat} {a : Addr} {C cs : List Value} (hb : Blk w b C) (hn : Nat.min sl dl = n) (hl : cs.length = n * 2) (hsrc : ∀ j v, cs[j]? = some v → w.cell? (a.add j) = some v)
    (hfit : o + cs.length ≤ C.length) (h1 : ∀ v ∈ cs, v.oneCell' = true) :
    (Builtin.copy_ #[43, 43] ty #[.slice (some ⟨b, o, none⟩) dl dc, .slice (some a) sl sc]).run Tryd.prog w = .ok (goInt n) (w.setCells b o cs) := by
  have hload := run_loadCells_list (P := Tryd.prog) w a cs hsrc
  have hst := run_storeCells_cells (P := Tryd.prog) b o cs 0 w (fun j hj => hb.isS (by omega)) (fun j _ => hb.free _) h1
  cases hq : Tryd.prog.info? 64 with
  | none => have := Tryd.is64; simp [hq] at this
  | some i =>
    have hi : i.size = 2 := by have := Tryd.is64; simpa [hq] using this
    simp [Builtin.copy_, run_underlying Tryd.underlying43, Builtin.lenOf, Builtin.firstCells, sizeOf, typeInfo, hq, hi, hn, ← hl, hload, hst]
theorem itC_app_take (xs : List It) (R : List Value) (i : Nat) (hi : i ≤ xs.length) : (itC xs ++ R).take (i * 2) = itC (xs.take i) := by
  rw [List.take_append_of_le_length (by rw [itC_length]; omega), itC_take]
theorem Rw.of_blk {w : World} {b c : Nat} {xs : List It} {C : List Value} (h : Blk w b C) (hc : C.length = c * 2) (hx : xs.length ≤ c) (hm : c ≤ 9223372036854775807) (ht : C.take (xs.length * 2) = itC xs) : Rw w (some b) c xs :=
  ⟨hx, hm, C.drop (xs.length * 2), by rw [← ht, List.take_append_drop]; exact h, by simp; omega⟩
theorem Rw.blk {w : World} {b c : Nat} {xs : List It} (h : Rw w (some b) c xs) : ∃ R, Blk w b (itC xs ++ R) ∧ xs.length * 2 + R.length = c * 2 := let ⟨_, _, R, hb, hl⟩ := h; ⟨R, hb, hl⟩
theorem shift_cells (xs : List It) (R : List Value) (p : It) (i : Nat) (hi : i ≤ xs.length) (hR : 2 ≤ R.length) :
    (splice (splice (itC xs ++ R) ((i + 1) * 2) (itC (xs.drop i))) (i * 2) (pC p)).take ((xs.length + 1) * 2) = itC (xs.take i ++ p :: xs.drop i) := by
  have e1 : (itC xs ++ R).take ((i + 1) * 2) = itC (xs.take i) ++ ((itC (xs.drop i) ++ R).take 2) := by
    have : itC xs ++ R = itC (xs.take i) ++ (itC (xs.drop i) ++ R) := by rw [← List.append_assoc, ← itC_app, List.take_append_drop]
    rw [this, List.take_append, itC_length, List.length_take, Nat.min_eq_left hi, show (i + 1) * 2 - i * 2 = 2 by omega, List.take_of_length_le (by rw [itC_length, List.length_take]; omega)]
  unfold splice
  rw [e1]
  have hl : (itC (xs.take i)).length = i * 2 := by rw [itC_length, List.length_take, Nat.min_eq_left hi]
  have hl2 : ((itC (xs.drop i) ++ R).take 2).length = 2 := by rw [List.length_take, List.length_append]; omega
  rw [List.append_assoc, List.take_left' hl, ← List.append_assoc, ← List.append_assoc]
  rw [show i * 2 + (pC p).length = (itC (xs.take i) ++ (itC (xs.drop i) ++ R).take 2).length by rw [List.length_append, hl, hl2]; rfl]
  rw [← List.append_assoc, List.append_assoc (itC (xs.take i) ++ (itC (xs.drop i) ++ R).take 2), List.drop_left, itC_app, itC_cons, List.append_assoc (itC (xs.take i)) (pC p)]
  show List.take _ (itC (xs.take i) ++ (pC p ++ (itC (xs.drop i) ++ _))) = itC (xs.take i) ++ (Value.string p.1 :: Value.string p.2 :: itC (xs.drop i))
  rw [← List.append_assoc (pC p), ← List.append_assoc (itC (xs.take i)), List.take_left' (by rw [List.length_append, List.length_append, hl, itC_length, List.length_drop]; simp [pC]; omega)]
  rfl
end Go.Proofs.YtflenghnmflenaaDoor
