/-
  What is proved: what Read answers. Conditions as stated.
-/
import Derived.Test.YtfegffdhlkhjbaaDb
import Derived.Laws.Tables
import Derived.Great.FillDense
namespace Go.Proofs.Ytfegffdhlkhjbaa
open Go.RowKit

theorem zero33 (w : World) : (zeroValue 43).run Try.prog w = .ok (.agg (u8s zeros).toArray) w := by kernel_rfl
theorem zero4 (w : World) : (zeroValue 4).run Try.prog w = .ok (.bool false) w := by kernel_rfl
theorem zero3 (w : World) : (zeroValue 3).run Try.prog w = .ok (.int .i64 0) w := by kernel_rfl
theorem build33 (w : World) : (Instr.build 43 #[]).run Try.prog w = .ok (.agg (u8s zeros).toArray) w := by kernel_rfl
theorem alloc33 (w : World) : (Instr.alloc 43 true (.tuple #[])).run Try.prog w = .ok (.pointer (some ⟨w.heap.size, 0, none⟩)) (w.alloc (.cells (u8s zeros).toArray 43)) := by kernel_rfl
theorem fill_mid (p a c : List Value) (vs : List Value) (h : a.length = vs.length) :
    ((Value.agg vs.toArray).cells.zipIdx.foldl (fun cs (x : Value × Nat) => cs.setIfInBounds (p.length + x.2) x.1) (p ++ (a ++ c)).toArray) = (p ++ (vs ++ c)).toArray := by
  have e : (Value.agg vs.toArray).cells = vs.toArray := rfl
  rw [e]
  have e2 : (vs.toArray.zipIdx.foldl (fun cs (x : Value × Nat) => cs.setIfInBounds (p.length + x.2) x.1) (p ++ (a ++ c)).toArray) = ((vs.zipIdx 0).foldl (fun cs (x : Value × Nat) => cs.setIfInBounds (p.length + x.2) x.1) (p ++ (a ++ c)).toArray) := by simp
  rw [e2]
  obtain ⟨_, h2⟩ := Great.foldl_set p.length vs 0 (p ++ (a ++ c)).toArray
  apply Array.ext_getElem?
  intro k
  rw [h2 k]
  simp only [List.getElem?_toArray, List.size_toArray, List.length_append, Nat.add_zero]
  by_cases h3 : p.length ≤ k
  · rw [List.getElem?_append_right h3, List.getElem?_append_right h3]
    by_cases h4 : k - p.length < vs.length
    · rw [if_pos (by omega), List.getElem?_append_left h4]
    · rw [if_neg (by omega), List.getElem?_append_right (by omega), List.getElem?_append_right (by omega), h]
  · rw [if_neg (by omega), List.getElem?_append_left (by omega), List.getElem?_append_left (by omega)]
theorem fill_cons (place : Nat → Option (Nat × Nat)) (cells : Array Value) (i : Nat) (v : Value) (rest : List (Nat × Value)) (off size : Nat) (hp : place i = some (off, size)) (hs : v.cells.size = size) (hle : off + v.cells.size ≤ cells.size) :
    Instr.fill place cells ((i, v) :: rest) = Instr.fill place (v.cells.zipIdx.foldl (fun cs (x : Value × Nat) => cs.setIfInBounds (off + x.2) x.1) cells) rest := by
  rw [Instr.fill, hp]
  simp only
  rw [if_neg (by simp only [hs]; rw [hs] at hle; simp; omega)]
theorem fill_two (x : Int) (V Z : List Value) (hV : V.length = 128) (hZ : Z.length = 128) :
    Instr.fill (fun i => (#[(0, 1), (1, 128)] : Array (Nat × Nat))[i]?) (.int .i64 0 :: Z).toArray [(0, .int .i64 x), (1, .agg V.toArray)] = some (.int .i64 x :: V).toArray := by
  have m1 := fill_mid [] [.int .i64 0] Z [.int .i64 x] rfl
  have m2 := fill_mid [.int .i64 x] Z [] V (by rw [hV, hZ])
  have e0 : (Value.agg [Value.int .i64 x].toArray).cells = (Value.int .i64 x).cells := rfl
  have e1 : (Value.agg V.toArray).cells.size = 128 := by show V.toArray.size = 128; simpa using hV
  rw [e0] at m1
  rw [fill_cons _ _ 0 _ _ 0 1 rfl rfl (by simp [Value.cells])]
  simp only [List.length_nil, List.nil_append, List.cons_append] at m1
  rw [m1]
  rw [fill_cons _ _ 1 _ _ 1 128 rfl e1 (by rw [e1]; simp [hZ])]
  simp only [List.length_cons, List.length_nil, Nat.zero_add, List.append_nil, List.nil_append, List.cons_append] at m2
  rw [m2]
  rfl
theorem build66 (x : Int) (b : List UInt8) (hb : b.length = 128) (w : World) : (Instr.build 75 #[(0, .int .i64 x), (1, .agg (u8s b).toArray)]).run Try.prog w = .ok (.agg (wcells (x, b)).toArray) w := by
  refine run_build w 75 _ _ ?_
  have e : ∀ parts, Try.prog.built 75 parts = Instr.fill (fun i => (#[(0, 1), (1, 128)] : Array (Nat × Nat))[i]?) (.int .i64 0 :: u8s zeros).toArray parts := fun _ => by kernel_rfl
  rw [e]
  exact fill_two x (u8s b) (u8s zeros) (by rw [u8s_length, hb]) (by rw [u8s_length]; rfl)

theorem Try.size43 : (Try.prog.info? 43).map (·.size) = some 128 := by kernel_rfl
theorem Try.size75 : (Try.prog.info? 75).map (·.size) = some 129 := by kernel_rfl

/-- What two results read as, the first one in a cell. -/
theorem ret_pair {P : Program} {fn : Func} {p q : Tmp} {ty : TypeId} (h : fn.results = #[.cell p ty, .tmp q]) {tmps : Array Value} {w : World} {g : Nat} {cs : List Value} {d : TypeDesc} {v : Value}
    (hp : tmps.getD p undef = .pointer (some ⟨g, 0, none⟩)) (hq : tmps.getD q undef = v) (hc : w.rangeAt g 0 cs) (hu : P.underlying ty = some d) (hd : d.isRow = true) (hi : (P.info? ty).map (·.size) = some cs.length) :
    (results fn tmps).run P w = .ok (.tuple #[.agg cs.toArray, v]) w := by
  have hp' : tmps[p]?.getD undef = .pointer (some ⟨g, 0, none⟩) := by simpa using hp
  have hq' : tmps[q]?.getD undef = v := by simpa using hq
  simp [results, h, hp', hq', asAddr, run_loadVar_mid w g 0 ty cs d hc hu hd hi]

theorem row_new (w : World) (cs : List Value) (t : TypeId) : (w.alloc (.cells cs.toArray t)).heap[w.heap.size]? = some (.cells cs.toArray t (0, 0)) := heap_alloc_new w _
theorem there_block {w : World} {g : Nat} {C : List Value} {t : TypeId} (h : w.heap[g]? = some (.cells C.toArray t (0, 0))) (o n : Nat) (hn : o + n ≤ C.length) : w.there g o n := fun j hj => by
  refine ⟨?_, free_block h _⟩
  rw [cell_of_row w g (o + j) _ t (0, 0) h]
  simp; omega
/-- An array of cells goes into the middle of a block. -/
theorem wpList_store_cells {P : Program} {ops : Array Oper} {rest : List Oper} {op : Oper} {a : Act} {w : World} {Q : Exit → Act → World → Prop} (hgd : op.guard = none) (ty : TypeId) (x y : Operand) (ho : op.op = .store ty x y)
    (b o : Nat) (cs : List Value) (hx : a.eval x = .pointer (some ⟨b, o, none⟩)) (hy : a.eval y = .agg cs.toArray)
    (ht : w.there b o cs.length) (hi : (P.info? ty).map (·.size) = some cs.length) (h1 : ∀ v ∈ cs, v.oneCell' = true)
    (h : wpList P ops Q rest (a.put op.dst undef) (w.setCells b o cs)) : wpList P ops Q (op :: rest) a w :=
  wpList_store_mid hgd ty x y ho b o cs.toArray hx hy (by simpa using ht) (by simpa using hi) (all_oneCell_toArray h1) (by simpa using h)

/-- A result's cells anew, in the block that the call made for them. -/
theorem below_new (w : World) (Z vs : List Value) (t : TypeId) : Below w.heap.size w ((w.alloc (.cells Z.toArray t)).setCells w.heap.size 0 vs) :=
  (Turns.setCells (S := fun _ => False) (.inr (Nat.le_refl _)) vs 0 _ ((Turns.refl _ w).alloc _)).below (Nat.le_refl _) (fun _ h => h.elim)

theorem Maps3.or {w : World} {T k : Nat} {ms ml mn : Option Nat} {gs : Int → Option (List UInt8)} {gl : Int → Bool} {gn : Int → Option Nat} (h : Maps3 w T k ms ml mn gs gl gn) :
    World.mapOr w ms (T - k) (vS gs) ∧ World.mapOr w ml (T - k) (vL gl) ∧ World.mapOr w mn T (vN gn) := by
  rcases h with ⟨rfl, rfl, rfl, _, h1, h2, h3⟩ | ⟨bs, bl, bn, rfl, rfl, rfl, _, _, _, h7, h8, h9⟩
  · exact ⟨.inl ⟨rfl, fun x => by simp [vS, h1]⟩, .inl ⟨rfl, fun x => by simp [vL, h2]⟩, .inl ⟨rfl, fun x => by simp [vN, h3]⟩⟩
  · exact ⟨.inr ⟨_, rfl, h7⟩, .inr ⟨_, rfl, h8⟩, .inr ⟨_, rfl, h9⟩⟩
theorem wcells_length {p : Int × List UInt8} (h : p.2.length = 128) : (wcells p).length = 129 := by simp [wcells, u8s_length, h]
theorem flat_at : ∀ (l : List (Int × List UInt8)), (∀ p ∈ l, p.2.length = 128) → ∀ (j : Nat) (p : Int × List UInt8), l[j]? = some p → ∀ i, i < 129 → (l.flatMap wcells)[j * 129 + i]? = (wcells p)[i]?
  | [], _, j, p, hj, _, _ => by simp at hj
  | q :: r, hl, 0, p, hj, i, hi => by
    simp at hj
    subst hj
    rw [List.flatMap_cons, Nat.zero_mul, Nat.zero_add, List.getElem?_append_left (by rw [wcells_length (hl _ (by simp))]; exact hi)]
  | q :: r, hl, j + 1, p, hj, i, hi => by
    have h1 := wcells_length (hl q (by simp))
    rw [List.flatMap_cons, List.getElem?_append_right (by rw [h1]; omega), h1, show (j + 1) * 129 + i - 129 = j * 129 + i by omega]
    exact flat_at r (fun p hp => hl p (by simp [hp])) j p (by simpa using hj) i hi
theorem row_some {w : World} {B n e k : Nat} {v : Value} {xs : List Value} (h : w.ownsRow B e k v n xs) (hn : 0 < n) : ∃ g c, v = .slice (some ⟨g, 0, none⟩) n c ∧ n ≤ c ∧ c ≤ 9223372036854775807 ∧ w.rangeAt g 0 xs := by
  rcases h.2 with ⟨_, rfl⟩ | ⟨g, cap, cur, rfl, _, hg, h2, h3, _, _⟩
  · omega
  · refine ⟨g, cap, rfl, h2, by unfold maxLen at h3; omega, fun j u hu => ?_⟩
    have := h.cells (g := g) rfl j u hu
    rwa [Addr.add_mid] at this

set_option maxRecDepth 100000 in
theorem read_any {w : World} {S : Nat → Prop} {d T : Nat} {s : Dk} (h : DiskIs w S d T s) (x : Int) (hx : I64 x) : Calls Try.prog 19 #[.pointer (some ⟨d, 0, none⟩), .int .i64 x] w fun E w' =>
    E = .returned (.tuple #[.agg (u8s (s.read x).1).toArray, .int .i64 (s.read x).2]) ∧ Below w.heap.size w w' := by
  have HA := Lib.hid (h.turns ((Turns.refl (fun _ => False) w).alloc (.cells (u8s zeros).toArray 43)) (fun _ _ h => h))
  have HR := Lib.hid (refuses_any HA.out x)
  have hz33 := zero33
  have HZ : Hid ((Try.prog.info? 43).map (·.size) = some (u8s zeros).length) := Lib.hid Try.size43
  have HT : Hid ((w.alloc (.cells (u8s zeros).toArray 43)).there w.heap.size 0 128) := Lib.hid (there_block (row_new w _ _) 0 128 (by rw [u8s_length]; exact Nat.le_refl 128))
  unfold Dk.read
  by_cases he : s.refuses x ≠ 0
  · rw [if_pos he]
    generalize s.refuses x = e at he HR ⊢
    have hb := build33
    generalize hz : zeros = Z at *
    have hzl : Z.length = 128 := by rw [← hz]; rfl
    have HL : Hid ((u8s Z).length = 128) := Lib.hid (by rw [u8s_length, hzl])
    have he' : (e == 0) = false := by simpa using he
    clear hz hzl h
    go_enter Try.func19, Try.ntmps19
    go_wp2_with (first
      | (go_at_call 36; refine HR.out.mono ?_; rintro E w1 ⟨rfl, rfl⟩)
      | (refine wpList_store_cells rfl 43 (.tmp 4) (.tmp 14) rfl w.heap.size 0 (u8s Z) rfl rfl (by rw [HL.out]; exact HT.out) HZ.out (u8s_one _) ?_))
    exact bodyPost_ret (ret_pair (cs := u8s Z) rfl rfl rfl (World.rangeAt_setCells_same _ _ _ (u8s Z) (by rw [HL.out]; exact HT.out)) Try.underlying43 rfl HZ.out) rfl ⟨rfl, below_new _ _ _ _⟩
  · have he0 : s.refuses x = 0 := by simpa using he
    have hr : s.off = false ∧ 0 ≤ x ∧ x < 32768 := by
      unfold Dk.refuses at he0
      cases ho : s.off <;> rw [ho] at he0
      · refine ⟨rfl, ?_⟩
        simp only [Bool.false_eq_true, if_false] at he0
        split at he0 <;> omega
      · simp at he0
    rw [if_neg he]
    rw [he0] at HR
    obtain ⟨fused, left, ms, ml, mn, L, gs, gl, gn, h1⟩ := HA.out
    obtain ⟨c0, c1, c2, c3, c4, c5, c6⟩ := h1.cells
    obtain ⟨o1, o2, o3⟩ := h1.maps.or
    have l1 := (mapOr_look Try.underlying58 (zero3 _) o3 hx).1
    have l2 := (mapOr_look Try.underlying56 (zero4 _) o2 hx).2
    have l3 := (mapOr_look Try.underlying55 (zero33 _) o1 hx).2
    have hZ0 : zeros.length = 128 := rfl
    have HL : Hid ((u8s zeros).length = 128) := Lib.hid (by rw [u8s_length]; rfl)
    clear o1 o2 o3 c0 c1 c2 hr he he0 h
    rcases h1.newest x with ⟨hg, hw⟩ | ⟨j, b, hg, hj, hw⟩
    · rw [hw]
      simp only
      simp only [vN, hg] at l1
      have hsu := h1.sure x
      have HG := Lib.hid h1.glen
      clear h1 hg hw
      by_cases hl : gl x = true
      · rw [hl] at hsu
        simp only [if_true] at hsu
        rw [hsu]
        simp only [vL, hl, if_true, Option.getD_some] at l2
        simp only
        have hb := build33
        clear hsu hl
        generalize zeros = Z at *
        go_enter Try.func19, Try.ntmps19
        go_wp2_with (first
          | (go_at_call 36; refine HR.out.mono ?_; rintro E w1 ⟨rfl, rfl⟩)
          | (refine wpList_store_cells rfl 43 (.tmp 4) (.tmp 40) rfl w.heap.size 0 (u8s Z) rfl rfl (by rw [HL.out]; exact HT.out) HZ.out (u8s_one _) ?_))
        exact bodyPost_ret (ret_pair (cs := u8s Z) rfl rfl rfl (World.rangeAt_setCells_same _ _ _ (u8s Z) (by rw [HL.out]; exact HT.out)) Try.underlying43 rfl HZ.out) rfl ⟨rfl, below_new _ _ _ _⟩
      · rw [if_neg hl] at hsu
        rw [hsu]
        simp only [vL, if_neg hl, Option.getD_none] at l2
        simp only
        obtain ⟨B, hB⟩ : ∃ B, B = (gs x).getD zeros := ⟨_, rfl⟩
        have hBl : B.length = 128 := by
          rw [hB]
          cases hgx : gs x with
          | none => exact hZ0
          | some b => exact HG.out x b hgx
        have e3 : (vS gs x).getD (.agg (u8s zeros).toArray) = .agg (u8s B).toArray := by
          rw [hB]
          unfold vS
          cases gs x <;> rfl
        rw [e3] at l3
        rw [← hB]
        have HBL : Hid ((u8s B).length = 128) := Lib.hid (by rw [u8s_length, hBl])
        have HIB : Hid ((Try.prog.info? 43).map (·.size) = some (u8s B).length) := Lib.hid (by rw [HBL.out]; exact Try.size43)
        clear hsu hl hB e3 hBl hZ0
        generalize zeros = Z at *
        go_enter Try.func19, Try.ntmps19
        go_wp2_with (first
          | (go_at_call 36; refine HR.out.mono ?_; rintro E w1 ⟨rfl, rfl⟩)
          | (refine wpList_store_cells rfl 43 (.tmp 4) (.tmp 46) rfl w.heap.size 0 (u8s B) rfl rfl (by rw [HBL.out]; exact HT.out) HIB.out (u8s_one _) ?_))
        exact bodyPost_ret (ret_pair (cs := u8s B) rfl rfl rfl (World.rangeAt_setCells_same _ _ _ (u8s B) (by rw [HBL.out]; exact HT.out)) Try.underlying43 rfl HIB.out) rfl ⟨rfl, below_new _ _ _ _⟩
    · rw [hw]
      simp only
      simp only [vN, hg] at l1
      have hjn : j < s.loose.length := (List.getElem?_eq_some_iff.1 hj).1
      obtain ⟨g, c, rfl, hnc, hc9, hrow⟩ := row_some h1.row (by omega)
      have hBl : b.length = 128 := (h1.len (x, b) (List.mem_of_getElem? hj)).1
      have HRG : Hid ((w.alloc (.cells (u8s zeros).toArray 43)).rangeAt g (j * 129 + 1) (u8s b)) := Lib.hid fun i v hv => by
        have hi : i < 128 := by have := (List.getElem?_eq_some_iff.1 hv).1; rw [u8s_length, hBl] at this; exact this
        have := hrow (j * 129 + (i + 1)) v (by rw [flat_at _ (fun p hp => (h1.len p hp).1) j _ hj _ (by omega)]; simpa [wcells] using hv)
        rw [Nat.zero_add] at this
        rw [show j * 129 + 1 + i = j * 129 + (i + 1) by omega]
        exact this
      have HBL : Hid ((u8s b).length = 128) := Lib.hid (by rw [u8s_length, hBl])
      have HIB : Hid ((Try.prog.info? 43).map (·.size) = some (u8s b).length) := Lib.hid (by rw [HBL.out]; exact Try.size43)
      have hm := h1.many
      clear h1 hg hw hrow hj l2 l3 hBl hZ0
      generalize s.loose.length = n at *
      generalize zeros = Z at *
      go_enter Try.func19, Try.ntmps19
      go_wp2_with (first
        | (go_at_call 36; refine HR.out.mono ?_; rintro E w1 ⟨rfl, rfl⟩)
        | (refine wpList_load_mid rfl 43 (.tmp 32) rfl g (j * 129 + 1) rfl (u8s b) _ HRG.out Try.underlying43 rfl HIB.out ?_)
        | (refine wpList_store_cells rfl 43 (.tmp 4) (.tmp 33) rfl w.heap.size 0 (u8s b) rfl rfl (by rw [HBL.out]; exact HT.out) HIB.out (u8s_one _) ?_))
      exact bodyPost_ret (ret_pair (cs := u8s b) rfl rfl rfl (World.rangeAt_setCells_same _ _ _ (u8s b) (by rw [HBL.out]; exact HT.out)) Try.underlying43 rfl HIB.out) rfl ⟨rfl, below_new _ _ _ _⟩
end Go.Proofs.Ytfegffdhlkhjbaa
