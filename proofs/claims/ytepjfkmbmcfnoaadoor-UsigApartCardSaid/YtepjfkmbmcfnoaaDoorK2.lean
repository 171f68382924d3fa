/-
  What is proved: what Read answers. Conditions as stated.
  What is proved: what Write does. Conditions as stated.
-/
import Derived.Test.YtepjfkmbmcfnoaaDoorK1
import Derived.Laws.Tables
import Derived.Great.FillDense
import Derived.Great.BuildSlice
import Derived.Deep.RegionLaw

namespace Go.Proofs.YtepjfkmbmcfnoaaDoor
open Go.RowKit

theorem zero33 (w : World) : (zeroValue 61).run Tryd.prog w = .ok (.agg (u8s zeros).toArray) w := by kernel_rfl
theorem zero4 (w : World) : (zeroValue 4).run Tryd.prog w = .ok (.bool false) w := by kernel_rfl
theorem zero3 (w : World) : (zeroValue 3).run Tryd.prog w = .ok (.int .i64 0) w := by kernel_rfl
theorem build33 (w : World) : (Instr.build 61 #[]).run Tryd.prog w = .ok (.agg (u8s zeros).toArray) w := by kernel_rfl
theorem alloc33 (w : World) : (Instr.alloc 61 true (.tuple #[])).run Tryd.prog w = .ok (.pointer (some ⟨w.heap.size, 0, none⟩)) (w.alloc (.cells (u8s zeros).toArray 61)) := by kernel_rfl
theorem fill_mid (p a c : List Value) (vs : List Value) (h : a.length = vs.length) :
    ((Value.agg vs.toArray).cells.zipIdx.foldl (fun cs (x : Value × Nat) => cs.setIfInBounds (p.length + x.2) x.1) (p ++ (a ++ c)).toArray) = (p ++ (vs ++ c)).toArray := by
  have e : (Value.agg vs.toArray).cells = vs.toArray := rfl
  rw [e]
  have e2 : (vs.toArray.zipIdx.foldl (fun cs (x : Value × Nat) => cs.setIfInBounds (p.length + x.2) x.1) (p ++ (a ++ c)).toArray) = ((vs.zipIdx 0).foldl (fun cs (x : Value × Nat) => cs.setIfInBounds (p.length + x.2) x.1) (p ++ (a ++ c)).toArray) := by simp
  rw [e2]
  obtain ⟨_, h2⟩ := Great.foldl_set p.length vs 0 (p ++ (a ++ c)).toArray
  apply Array.ext_getElem?
  intro k
  rw [h2 k]
  simp only [List.getElem?_toArray, List.size_toArray, List.length_append, Nat.add_zero]
  by_cases h3 : p.length ≤ k
  · rw [List.getElem?_append_right h3, List.getElem?_append_right h3]
    by_cases h4 : k - p.length < vs.length
    · rw [if_pos (by omega), List.getElem?_append_left h4]
    · rw [if_neg (by omega), List.getElem?_append_right (by omega), List.getElem?_append_right (by omega), h]
  · rw [if_neg (by omega), List.getElem?_append_left (by omega), List.getElem?_append_left (by omega)]
theorem fill_cons (place : Nat → Option (Nat × Nat)) (cells : Array Value) (i : Nat) (v : Value) (rest : List (Nat × Value)) (off size : Nat) (hp : place i = some (off, size)) (hs : v.cells.size = size) (hle : off + v.cells.size ≤ cells.size) :
    Instr.fill place cells ((i, v) :: rest) = Instr.fill place (v.cells.zipIdx.foldl (fun cs (x : Value × Nat) => cs.setIfInBounds (off + x.2) x.1) cells) rest := by
  rw [Instr.fill, hp]
  simp only
  rw [if_neg (by simp only [hs]; rw [hs] at hle; simp; omega)]
theorem fill_two (x : Int) (V Z : List Value) (hV : V.length = 128) (hZ : Z.length = 128) :
    Instr.fill (fun i => (#[(0, 1), (1, 128)] : Array (Nat × Nat))[i]?) (.int .i64 0 :: Z).toArray [(0, .int .i64 x), (1, .agg V.toArray)] = some (.int .i64 x :: V).toArray := by
  have m1 := fill_mid [] [.int .i64 0] Z [.int .i64 x] rfl
  have m2 := fill_mid [.int .i64 x] Z [] V (by rw [hV, hZ])
  have e0 : (Value.agg [Value.int .i64 x].toArray).cells = (Value.int .i64 x).cells := rfl
  have e1 : (Value.agg V.toArray).cells.size = 128 := by show V.toArray.size = 128; simpa using hV
  rw [e0] at m1
  rw [fill_cons _ _ 0 _ _ 0 1 rfl rfl (by simp [Value.cells])]
  simp only [List.length_nil, List.nil_append, List.cons_append] at m1
  rw [m1]
  rw [fill_cons _ _ 1 _ _ 1 128 rfl e1 (by rw [e1]; simp [hZ])]
  simp only [List.length_cons, List.length_nil, Nat.zero_add, List.append_nil, List.nil_append, List.cons_append] at m2
  rw [m2]
  rfl
theorem build66 (x : Int) (b : List UInt8) (hb : b.length = 128) (w : World) : (Instr.build 97 #[(0, .int .i64 x), (1, .agg (u8s b).toArray)]).run Tryd.prog w = .ok (.agg (wcells (x, b)).toArray) w := by
  refine run_build w 97 _ _ ?_
  have e : ∀ parts, Tryd.prog.built 97 parts = Instr.fill (fun i => (#[(0, 1), (1, 128)] : Array (Nat × Nat))[i]?) (.int .i64 0 :: u8s zeros).toArray parts := fun _ => by kernel_rfl
  rw [e]
  exact fill_two x (u8s b) (u8s zeros) (by rw [u8s_length, hb]) (by rw [u8s_length]; rfl)

theorem Tryd.size61 : (Tryd.prog.info? 61).map (·.size) = some 128 := by kernel_rfl
theorem Tryd.size97 : (Tryd.prog.info? 97).map (·.size) = some 129 := by kernel_rfl

/-- What two results read as, the first one in a cell. -/
theorem ret_pair {P : Program} {fn : Func} {p q : Tmp} {ty : TypeId} (h : fn.results = #[.cell p ty, .tmp q]) {tmps : Array Value} {w : World} {g : Nat} {cs : List Value} {d : TypeDesc} {v : Value}
    (hp : tmps.getD p undef = .pointer (some ⟨g, 0, none⟩)) (hq : tmps.getD q undef = v) (hc : w.rangeAt g 0 cs) (hu : P.underlying ty = some d) (hd : d.isRow = true) (hi : (P.info? ty).map (·.size) = some cs.length) :
    (results fn tmps).run P w = .ok (.tuple #[.agg cs.toArray, v]) w := by
  have hp' : tmps[p]?.getD undef = .pointer (some ⟨g, 0, none⟩) := by simpa using hp
  have hq' : tmps[q]?.getD undef = v := by simpa using hq
  simp [results, h, hp', hq', asAddr, run_loadVar_mid w g 0 ty cs d hc hu hd hi]

theorem row_new (w : World) (cs : List Value) (t : TypeId) : (w.alloc (.cells cs.toArray t)).heap[w.heap.size]? = some (.cells cs.toArray t (0, 0)) := heap_alloc_new w _
theorem there_block {w : World} {g : Nat} {C : List Value} {t : TypeId} (h : w.heap[g]? = some (.cells C.toArray t (0, 0))) (o n : Nat) (hn : o + n ≤ C.length) : w.there g o n := fun j hj => by
  refine ⟨?_, free_block h _⟩
  rw [cell_of_row w g (o + j) _ t (0, 0) h]
  simp; omega
/-- An array of cells goes into the middle of a block. -/
theorem wpList_store_cells {P : Program} {ops : Array Oper} {rest : List Oper} {op : Oper} {a : Act} {w : World} {Q : Exit → Act → World → Prop} (hgd : op.guard = none) (ty : TypeId) (x y : Operand) (ho : op.op = .store ty x y)
    (b o : Nat) (cs : List Value) (hx : a.eval x = .pointer (some ⟨b, o, none⟩)) (hy : a.eval y = .agg cs.toArray)
    (ht : w.there b o cs.length) (hi : (P.info? ty).map (·.size) = some cs.length) (h1 : ∀ v ∈ cs, v.oneCell' = true)
    (h : wpList P ops Q rest (a.put op.dst undef) (w.setCells b o cs)) : wpList P ops Q (op :: rest) a w :=
  wpList_store_mid hgd ty x y ho b o cs.toArray hx hy (by simpa using ht) (by simpa using hi) (all_oneCell_toArray h1) (by simpa using h)

/-- A result's cells anew, in the block that the call made for them. -/
theorem below_new (w : World) (Z vs : List Value) (t : TypeId) : Below w.heap.size w ((w.alloc (.cells Z.toArray t)).setCells w.heap.size 0 vs) :=
  (Turns.setCells (S := fun _ => False) (.inr (Nat.le_refl _)) vs 0 _ ((Turns.refl _ w).alloc _)).below (Nat.le_refl _) (fun _ h => h.elim)

theorem Maps3.or {w : World} {T k : Nat} {ms ml mn : Option Nat} {gs : Int → Option (List UInt8)} {gl : Int → Bool} {gn : Int → Option Nat} (h : Maps3 w T k ms ml mn gs gl gn) :
    World.mapOr w ms (T - k) (vS gs) ∧ World.mapOr w ml (T - k) (vL gl) ∧ World.mapOr w mn T (vN gn) := by
  rcases h with ⟨rfl, rfl, rfl, _, h1, h2, h3⟩ | ⟨bs, bl, bn, rfl, rfl, rfl, _, _, _, h7, h8, h9⟩
  · exact ⟨.inl ⟨rfl, fun x => by simp [vS, h1]⟩, .inl ⟨rfl, fun x => by simp [vL, h2]⟩, .inl ⟨rfl, fun x => by simp [vN, h3]⟩⟩
  · exact ⟨.inr ⟨_, rfl, h7⟩, .inr ⟨_, rfl, h8⟩, .inr ⟨_, rfl, h9⟩⟩
theorem wcells_length {p : Int × List UInt8} (h : p.2.length = 128) : (wcells p).length = 129 := by simp [wcells, u8s_length, h]
theorem flat_at : ∀ (l : List (Int × List UInt8)), (∀ p ∈ l, p.2.length = 128) → ∀ (j : Nat) (p : Int × List UInt8), l[j]? = some p → ∀ i, i < 129 → (l.flatMap wcells)[j * 129 + i]? = (wcells p)[i]?
  | [], _, j, p, hj, _, _ => by simp at hj
  | q :: r, hl, 0, p, hj, i, hi => by
    simp at hj
    subst hj
    rw [List.flatMap_cons, Nat.zero_mul, Nat.zero_add, List.getElem?_append_left (by rw [wcells_length (hl _ (by simp))]; exact hi)]
  | q :: r, hl, j + 1, p, hj, i, hi => by
    have h1 := wcells_length (hl q (by simp))
    rw [List.flatMap_cons, List.getElem?_append_right (by rw [h1]; omega), h1, show (j + 1) * 129 + i - 129 = j * 129 + i by omega]
    exact flat_at r (fun p hp => hl p (by simp [hp])) j p (by simpa using hj) i hi
theorem row_some {w : World} {B n e k : Nat} {v : Value} {xs : List Value} (h : w.ownsRow B e k v n xs) (hn : 0 < n) : ∃ g c, v = .slice (some ⟨g, 0, none⟩) n c ∧ n ≤ c ∧ c ≤ 9223372036854775807 ∧ w.rangeAt g 0 xs := by
  rcases h.2 with ⟨_, rfl⟩ | ⟨g, cap, cur, rfl, _, hg, h2, h3, _, _⟩
  · omega
  · refine ⟨g, cap, rfl, h2, by unfold maxLen at h3; omega, fun j u hu => ?_⟩
    have := h.cells (g := g) rfl j u hu
    rwa [Addr.add_mid] at this

set_option maxRecDepth 100000 in
theorem read_any {w : World} {S : Nat → Prop} {d T : Nat} {s : Dk} (h : DiskIs w S d T s) (x : Int) (hx : I64 x) : Calls Tryd.prog 64 #[.pointer (some ⟨d, 0, none⟩), .int .i64 x] w fun E w' =>
    E = .returned (.tuple #[.agg (u8s (s.read x).1).toArray, .int .i64 (s.read x).2]) ∧ Below w.heap.size w w' := by
  have HA := Lib.hid (h.turns ((Turns.refl (fun _ => False) w).alloc (.cells (u8s zeros).toArray 61)) (fun _ _ h => h))
  have HR := Lib.hid (refuses_any HA.out x)
  have hz33 := zero33
  have HZ : Hid ((Tryd.prog.info? 61).map (·.size) = some (u8s zeros).length) := Lib.hid Tryd.size61
  have HT : Hid ((w.alloc (.cells (u8s zeros).toArray 61)).there w.heap.size 0 128) := Lib.hid (there_block (row_new w _ _) 0 128 (by rw [u8s_length]; exact Nat.le_refl 128))
  unfold Dk.read
  by_cases he : s.refuses x ≠ 0
  · rw [if_pos he]
    generalize s.refuses x = e at he HR ⊢
    have hb := build33
    generalize hz : zeros = Z at *
    have hzl : Z.length = 128 := by rw [← hz]; rfl
    have HL : Hid ((u8s Z).length = 128) := Lib.hid (by rw [u8s_length, hzl])
    have he' : (e == 0) = false := by simpa using he
    clear hz hzl h
    go_enter Tryd.func64, Tryd.ntmps64
    go_wp2_with (first
      | (go_at_call 46; refine HR.out.mono ?_; rintro E w1 ⟨rfl, rfl⟩)
      | (refine wpList_store_cells rfl 61 (.tmp 4) (.tmp 14) rfl w.heap.size 0 (u8s Z) rfl rfl (by rw [HL.out]; exact HT.out) HZ.out (u8s_one _) ?_))
    exact bodyPost_ret (ret_pair (cs := u8s Z) rfl rfl rfl (World.rangeAt_setCells_same _ _ _ (u8s Z) (by rw [HL.out]; exact HT.out)) Tryd.underlying61 rfl HZ.out) rfl ⟨rfl, below_new _ _ _ _⟩
  · have he0 : s.refuses x = 0 := by simpa using he
    have hr : s.off = false ∧ 0 ≤ x ∧ x < 32768 := by
      unfold Dk.refuses at he0
      cases ho : s.off <;> rw [ho] at he0
      · refine ⟨rfl, ?_⟩
        simp only [Bool.false_eq_true, if_false] at he0
        split at he0 <;> omega
      · simp at he0
    rw [if_neg he]
    rw [he0] at HR
    obtain ⟨fused, left, ms, ml, mn, L, gs, gl, gn, h1⟩ := HA.out
    obtain ⟨c0, c1, c2, c3, c4, c5, c6⟩ := h1.cells
    obtain ⟨o1, o2, o3⟩ := h1.maps.or
    have l1 := (mapOr_look Tryd.underlying67 (zero3 _) o3 hx).1
    have l2 := (mapOr_look Tryd.underlying65 (zero4 _) o2 hx).2
    have l3 := (mapOr_look Tryd.underlying64 (zero33 _) o1 hx).2
    have hZ0 : zeros.length = 128 := rfl
    have HL : Hid ((u8s zeros).length = 128) := Lib.hid (by rw [u8s_length]; rfl)
    clear o1 o2 o3 c0 c1 c2 hr he he0 h
    rcases h1.newest x with ⟨hg, hw⟩ | ⟨j, b, hg, hj, hw⟩
    · rw [hw]
      simp only
      simp only [vN, hg] at l1
      have hsu := h1.sure x
      have HG := Lib.hid h1.glen
      clear h1 hg hw
      by_cases hl : gl x = true
      · rw [hl] at hsu
        simp only [if_true] at hsu
        rw [hsu]
        simp only [vL, hl, if_true, Option.getD_some] at l2
        simp only
        have hb := build33
        clear hsu hl
        generalize zeros = Z at *
        go_enter Tryd.func64, Tryd.ntmps64
        go_wp2_with (first
          | (go_at_call 46; refine HR.out.mono ?_; rintro E w1 ⟨rfl, rfl⟩)
          | (refine wpList_store_cells rfl 61 (.tmp 4) (.tmp 40) rfl w.heap.size 0 (u8s Z) rfl rfl (by rw [HL.out]; exact HT.out) HZ.out (u8s_one _) ?_))
        exact bodyPost_ret (ret_pair (cs := u8s Z) rfl rfl rfl (World.rangeAt_setCells_same _ _ _ (u8s Z) (by rw [HL.out]; exact HT.out)) Tryd.underlying61 rfl HZ.out) rfl ⟨rfl, below_new _ _ _ _⟩
      · rw [if_neg hl] at hsu
        rw [hsu]
        simp only [vL, if_neg hl, Option.getD_none] at l2
        simp only
        obtain ⟨B, hB⟩ : ∃ B, B = (gs x).getD zeros := ⟨_, rfl⟩
        have hBl : B.length = 128 := by
          rw [hB]
          cases hgx : gs x with
          | none => exact hZ0
          | some b => exact HG.out x b hgx
        have e3 : (vS gs x).getD (.agg (u8s zeros).toArray) = .agg (u8s B).toArray := by
          rw [hB]
          unfold vS
          cases gs x <;> rfl
        rw [e3] at l3
        rw [← hB]
        have HBL : Hid ((u8s B).length = 128) := Lib.hid (by rw [u8s_length, hBl])
        have HIB : Hid ((Tryd.prog.info? 61).map (·.size) = some (u8s B).length) := Lib.hid (by rw [HBL.out]; exact Tryd.size61)
        clear hsu hl hB e3 hBl hZ0
        generalize zeros = Z at *
        go_enter Tryd.func64, Tryd.ntmps64
        go_wp2_with (first
          | (go_at_call 46; refine HR.out.mono ?_; rintro E w1 ⟨rfl, rfl⟩)
          | (refine wpList_store_cells rfl 61 (.tmp 4) (.tmp 46) rfl w.heap.size 0 (u8s B) rfl rfl (by rw [HBL.out]; exact HT.out) HIB.out (u8s_one _) ?_))
        exact bodyPost_ret (ret_pair (cs := u8s B) rfl rfl rfl (World.rangeAt_setCells_same _ _ _ (u8s B) (by rw [HBL.out]; exact HT.out)) Tryd.underlying61 rfl HIB.out) rfl ⟨rfl, below_new _ _ _ _⟩
    · rw [hw]
      simp only
      simp only [vN, hg] at l1
      have hjn : j < s.loose.length := (List.getElem?_eq_some_iff.1 hj).1
      obtain ⟨g, c, rfl, hnc, hc9, hrow⟩ := row_some h1.row (by omega)
      have hBl : b.length = 128 := (h1.len (x, b) (List.mem_of_getElem? hj)).1
      have HRG : Hid ((w.alloc (.cells (u8s zeros).toArray 61)).rangeAt g (j * 129 + 1) (u8s b)) := Lib.hid fun i v hv => by
        have hi : i < 128 := by have := (List.getElem?_eq_some_iff.1 hv).1; rw [u8s_length, hBl] at this; exact this
        have := hrow (j * 129 + (i + 1)) v (by rw [flat_at _ (fun p hp => (h1.len p hp).1) j _ hj _ (by omega)]; simpa [wcells] using hv)
        rw [Nat.zero_add] at this
        rw [show j * 129 + 1 + i = j * 129 + (i + 1) by omega]
        exact this
      have HBL : Hid ((u8s b).length = 128) := Lib.hid (by rw [u8s_length, hBl])
      have HIB : Hid ((Tryd.prog.info? 61).map (·.size) = some (u8s b).length) := Lib.hid (by rw [HBL.out]; exact Tryd.size61)
      have hm := h1.many
      clear h1 hg hw hrow hj l2 l3 hBl hZ0
      generalize s.loose.length = n at *
      generalize zeros = Z at *
      go_enter Tryd.func64, Tryd.ntmps64
      go_wp2_with (first
        | (go_at_call 46; refine HR.out.mono ?_; rintro E w1 ⟨rfl, rfl⟩)
        | (refine wpList_load_mid rfl 61 (.tmp 32) rfl g (j * 129 + 1) rfl (u8s b) _ HRG.out Tryd.underlying61 rfl HIB.out ?_)
        | (refine wpList_store_cells rfl 61 (.tmp 4) (.tmp 33) rfl w.heap.size 0 (u8s b) rfl rfl (by rw [HBL.out]; exact HT.out) HIB.out (u8s_one _) ?_))
      exact bodyPost_ret (ret_pair (cs := u8s b) rfl rfl rfl (World.rangeAt_setCells_same _ _ _ (u8s b) (by rw [HBL.out]; exact HT.out)) Tryd.underlying61 rfl HIB.out) rfl ⟨rfl, below_new _ _ _ _⟩
end Go.Proofs.YtepjfkmbmcfnoaaDoor

namespace Go.Proofs.YtepjfkmbmcfnoaaDoor
open Go.RowKit

theorem still_of_quiet {P : Program} {ops : Array Oper} {w : World} {Q : Act → Prop} : ∀ (l : List Oper) (a : Act), wpQuiet P ops (fun x => x = w) Q l a → wpStill P ops w Q l a
  | [], _, h => h
  | o :: rest, a, h => by
    unfold wpQuiet at h
    unfold wpStill
    split at h
    · rename_i hw
      rw [if_pos hw]
      obtain ⟨v, h1, h2⟩ := h
      have h3 := h1 w rfl
      have h4 := still_of_quiet rest _ h2
      unfold Oper.quietAt at h3
      unfold Oper.still
      generalize (execOp a.eval o).run P w = r at *
      cases r with
      | ok n w' =>
        cases n <;> simp only [Oper.quietUpon] at h3 <;> simp only [Oper.stillUpon]
        case value u => obtain ⟨rfl, rfl⟩ := h3; exact ⟨rfl, h4⟩
        case skip => obtain ⟨rfl, rfl⟩ := h3; exact ⟨rfl, h4⟩
        case enter f args => exact ⟨h3.1, v, h3.2, h4⟩
      | halt => simp only [Oper.quietUpon] at h3
    · rename_i hw
      rw [if_neg hw]
      exact still_of_quiet rest _ h
theorem wp_region_quiet_tail {P : Program} {id : Nat} {Q : Exit → Act → World → Prop} {a : Act} {w : World} {l : List Oper} (n : Nat) (hm : P.follows .mixedOrders = true) (hB : Region.lexTailB .any l.toArray n = true)
    (h : wpQuiet P l.toArray (fun x => x = w.drew) (fun a' => wpList P l.toArray Q (l.drop n) a' w.drew) (l.take n) a) : (Code.region id l.toArray true).wp P Q a w :=
  wp_region_still_tail n hm hB (still_of_quiet _ _ h)

theorem Tryd.info97 : (Tryd.prog.info? 97).map (fun i => (i.zero, i.size, i.bytes)) = some (some (.agg (.int .i64 0 :: u8s zeros).toArray), 129, 136) := by kernel_rfl

theorem build59 (p : Int × List UInt8) (hp : p.2.length = 128) (w : World) : (Instr.buildSlice 66 1 #[(0, .agg (wcells p).toArray)]).run Tryd.prog w = .ok (.slice (some ⟨w.heap.size, 0, none⟩) 1 1) (w.alloc (.cells (wcells p).toArray 97)) := by
  obtain ⟨i0, hi, hz0, hz1, _⟩ := info_parts Tryd.info97
  have hl := wcells_length hp
  refine run_buildSlice w 66 97 1 _ _ i0 _ Tryd.underlying66 hi hz0 (by rw [hz1]; decide) (by rw [hz1]; decide) ?_
  rw [hz1]
  generalize hA : (Array.range (1 * 129)).map (fun x => (Value.agg (.int .i64 0 :: u8s zeros).toArray).cells[x % (Value.agg (.int .i64 0 :: u8s zeros).toArray).cells.size]!) = A
  have hAs : A.toList.length = 129 := by rw [← hA]; simp
  have hAs' : A.size = 129 := by simpa using hAs
  have m1 := fill_mid [] A.toList [] (wcells p) (by rw [hAs, hl])
  have e1 : (Value.agg (wcells p).toArray).cells.size = 129 := by show (wcells p).toArray.size = 129; simpa using hl
  rw [fill_cons _ _ 0 _ _ 0 129 rfl e1 (by rw [e1]; omega)]
  simp only [List.length_nil, List.nil_append, List.append_nil] at m1
  rw [show A = A.toList.toArray by simp, m1]
  rfl

theorem wcells_one (p : Int × List UInt8) : ∀ v ∈ wcells p, v.oneCell' = true := by
  intro v hv
  rcases List.mem_cons.1 hv with rfl | h
  · rfl
  · exact u8s_one _ _ h

/-- One more write onto the row of those that are loose. -/
theorem step_append_w {w : World} {ops : Array Oper} {o : Oper} {a : Act} {K : Act → World → Prop} {Q : Exit → Act → World → Prop} {E : Prop} (hgd : o.guard = none) (s x : Operand)
    (ho : o.op = Op.call { callee := Callee.builtin Builtin.append, args := #[s, x], argTypes := #[66, 66] })
    (n : Nat) (L : Value) (xs : List Value) (p : Int × List UInt8) (hp : p.2.length = 128) (hs : a.eval s = L) (hx : a.eval x = .slice (some ⟨w.heap.size, 0, none⟩) 1 1)
    (hown : w.ownsRow 0 97 129 L n xs) (hm : n < 1000000000000)
    (h : ∀ A' c' w', Hid (w'.ownsRow 0 97 129 (.slice A' (n + 1) c') (n + 1) (xs ++ wcells p)) → Hid (w.grownBy w' L.ownBlock ∧ ((Value.slice A' (n + 1) c').ownBlock = L.ownBlock ∨ ∃ g, (Value.slice A' (n + 1) c').ownBlock = some g ∧ w.heap.size ≤ g)) → K (a.put o.dst (.slice A' (n + 1) c')) w') :
    if Region.wanted o (yielded ops a.tmps) = true then Oper.wp Tryd.prog o a (w.alloc (.cells (wcells p).toArray 97)) K Q else E := by
  have hw : Region.wanted o (yielded ops a.tmps) = true := by simp [Region.wanted, hgd]
  rw [if_pos hw]
  obtain ⟨i0, hi, hz0, hz1, hz2⟩ := info_parts Tryd.info97
  have hl := wcells_length hp
  obtain ⟨v', w', hr, h2, h3, _, h5⟩ := run_append_own_at (P := Tryd.prog) (w.alloc (.cells (wcells p).toArray 97)) 0 66 o.type 97 i0 _ 129 136 Tryd.underlying66 hi hz0 hz1 hz2 (by show (Value.int .i64 0 :: u8s zeros).toArray.size = 129; rfl) (by decide) L n xs (hown.alloc _) ⟨w.heap.size, 0, none⟩ 1 1 (wcells p) (by rw [hl])
    (fun j u hu => by rw [Addr.add_mid]; exact block_cell (row_new w (wcells p) 97) (0 + j) u (by simpa using hu)) (wcells_one p) (by unfold maxLen; omega) (by omega) (Nat.zero_le _)
  obtain ⟨A', c', rfl, _⟩ := row_shape h2
  unfold Oper.wp execOp
  simp only [ho, resolve, invoke, builtin, Sem.run_bind, Sem.run_pure, Result.andThen_ok, List.map_toArray, List.map_cons, List.map_nil, hs, hx, hr]
  refine h A' c' w' (Lib.hid h2) (Lib.hid ⟨?_, ?_⟩)
  · exact ⟨h3.os, h3.tape, h3.output, Nat.le_trans (by simp) h3.size, fun k hk hne => (h3.block k (by simp; omega) hne).trans (heap_alloc_old w _ hk)⟩
  · rcases h5 with h5 | h5
    · exact .inl h5
    · exact .inr ⟨_, h5, by simp⟩

theorem eq_nil60 (W : World) : (binOp BinOp.eql 67 (.map none) (.map none)).run Tryd.prog W = .ok (.bool true) W := by kernel_rfl
theorem eq_some60 (b : Nat) (W : World) : (binOp BinOp.eql 67 (.map (some b)) (.map none)).run Tryd.prog W = .ok (.bool false) W := by kernel_rfl
theorem Rep.row_lt {w : World} {S : Nat → Prop} {d T : Nat} {s : Dk} {fused : Bool} {left : Int} {ms ml mn : Option Nat} {L : Value} {gs : Int → Option (List UInt8)} {gl : Int → Bool} {gn : Int → Option Nat}
    (h : Rep w S d T s fused left ms ml mn L gs gl gn) : d < w.heap.size := h.lt d (h.own d (.inl rfl))
theorem Tryd.size64 : (Tryd.prog.info? 64).map (·.size) = some 1 := by kernel_rfl
theorem Tryd.size65 : (Tryd.prog.info? 65).map (·.size) = some 1 := by kernel_rfl
theorem Tryd.size67 : (Tryd.prog.info? 67).map (·.size) = some 1 := by kernel_rfl
theorem Tryd.size66 : (Tryd.prog.info? 66).map (·.size) = some 1 := by kernel_rfl

theorem run_store_at {P : Program} {w : World} {ty : TypeId} (g i : Nat) (C : List Value) (t : TypeId) (hC : w.heap[g]? = some (.cells C.toArray t (0, 0))) (hi : i < C.length) (v : Value) (hv : v.cells = #[v]) (h1 : v.oneCell' = true)
    (hsz : (P.info? ty).map (·.size) = some 1) : (storeVar ty ⟨g, i, none⟩ v).run P w = .ok () (w.setCell ⟨g, i, none⟩ v) := by
  have ht := there_block hC i 1 (by omega)
  have hr := run_storeCells_cells (P := P) g i [v] 0 w (fun j hj => by simpa using (ht j (by simpa using hj)).1) (fun j hj => by simpa using (ht j (by simpa using hj)).2) (fun u hu => by simp at hu; subst hu; exact h1)
  cases hq : P.info? ty with
  | none => simp [hq] at hsz
  | some i0 =>
    have hs : i0.size = 1 := by simpa [hq] using hsz
    simp only [Nat.add_zero] at hr
    simp [storeVar, sizeOf, typeInfo, hq, hv, hs]
    simpa [World.setCells] using hr
/-- One cell of a block anew: no other block has turned. -/
theorem wpList_store_at {P : Program} {ops : Array Oper} {rest : List Oper} {op : Oper} {a : Act} {w : World} {Q : Exit → Act → World → Prop} (hgd : op.guard = none) (ty : TypeId) (x y : Operand) (ho : op.op = .store ty x y)
    (g i : Nat) (C : List Value) (t : TypeId) (hC : w.heap[g]? = some (.cells C.toArray t (0, 0))) (hi : i < C.length) (v : Value) (hx : a.eval x = .pointer (some ⟨g, i, none⟩)) (hy : a.eval y = v) (hv : v.cells = #[v]) (h1 : v.oneCell' = true)
    (hsz : (P.info? ty).map (·.size) = some 1)
    (h : ∀ w', Hid (w'.heap[g]? = some (.cells (C.set i v).toArray t (0, 0)) ∧ w.grownBy w' (some g)) → wpList P ops Q rest (a.put op.dst undef) w') : wpList P ops Q (op :: rest) a w := by
  refine wpList_plain hgd fun K hK => ?_
  have ht := there_block hC i 1 (by omega)
  have hr := run_storeCells_cells (P := P) g i [v] 0 w (fun j hj => by simpa using (ht j (by simpa using hj)).1) (fun j hj => by simpa using (ht j (by simpa using hj)).2) (fun u hu => by simp at hu; subst hu; exact h1)
  have h2 := h (w.setCell ⟨g, i, none⟩ v) (Lib.hid ⟨heap_set hC v, ⟨rfl, rfl, rfl, by simp [World.setCell], fun k _ hk => Below.heap_setCell _ _ _ _ (fun e => hk (by rw [e]))⟩⟩)
  unfold Oper.wp execOp
  cases hq : P.info? ty with
  | none => simp [hq] at hsz
  | some i0 =>
    have hs : i0.size = 1 := by simpa [hq] using hsz
    have hst : (storeVar ty ⟨g, i, none⟩ v).run P w = .ok () (w.setCell ⟨g, i, none⟩ v) := by
      simp only [Nat.add_zero] at hr
      simp [storeVar, sizeOf, typeInfo, hq, hv, hs]
      simpa [World.setCells] using hr
    simp only [ho, hx, hy, Instr.storeAt, Instr.sureAddr, Sem.run_bind, Sem.run_pure, Result.andThen_ok, hst]
    exact hK _ _ h2
theorem heap_drewN (w : World) (q k : Nat) : (w.drewN q).heap[k]? = w.heap[k]? := rfl

theorem step_load_cells {P : Program} {ops : Array Oper} {o : Oper} {a : Act} {w : World} {K : Act → World → Prop} {Q : Exit → Act → World → Prop} {E : Prop} (hgd : o.guard = none) (ty : TypeId) (x : Operand) (ho : o.op = .load ty x)
    (b off : Nat) (hx : a.eval x = .pointer (some ⟨b, off, none⟩)) (cs : List Value) (d : TypeDesc) (hc : w.rangeAt b off cs)
    (hu : P.underlying ty = some d) (hd : d.isRow = true) (hi : (P.info? ty).map (·.size) = some cs.length)
    (h : K (a.put o.dst (.agg cs.toArray)) w) : if Region.wanted o (yielded ops a.tmps) = true then Oper.wp P o a w K Q else E := by
  have hw : Region.wanted o (yielded ops a.tmps) = true := by simp [Region.wanted, hgd]
  rw [if_pos hw]
  exact wp_load_mid ty x ho b off hx cs d hc hu hd hi h
theorem step_build59 {ops : Array Oper} {o : Oper} {a : Act} {w : World} {K : Act → World → Prop} {Q : Exit → Act → World → Prop} {E : Prop} (hgd : o.guard = none) (x : Operand) (ho : o.op = .buildSlice 66 1 #[(0, x)])
    (p : Int × List UInt8) (hp : p.2.length = 128) (hx : a.eval x = .agg (wcells p).toArray)
    (h : K (a.put o.dst (.slice (some ⟨w.heap.size, 0, none⟩) 1 1)) (w.alloc (.cells (wcells p).toArray 97))) : if Region.wanted o (yielded ops a.tmps) = true then Oper.wp Tryd.prog o a w K Q else E := by
  have hw : Region.wanted o (yielded ops a.tmps) = true := by simp [Region.wanted, hgd]
  rw [if_pos hw]
  unfold Oper.wp execOp
  simp only [ho, List.map_toArray, List.map_cons, List.map_nil, hx, Sem.run_bind, build59 p hp w, Result.andThen_ok]
  exact h
theorem step_store_at {P : Program} {ops : Array Oper} {op : Oper} {a : Act} {w : World} {K : Act → World → Prop} {Q : Exit → Act → World → Prop} {E : Prop} (hgd : op.guard = none) (ty : TypeId) (x y : Operand) (ho : op.op = .store ty x y)
    (g i : Nat) (C : List Value) (t : TypeId) (hC : w.heap[g]? = some (.cells C.toArray t (0, 0))) (hi : i < C.length) (v : Value) (hx : a.eval x = .pointer (some ⟨g, i, none⟩)) (hy : a.eval y = v) (hv : v.cells = #[v]) (h1 : v.oneCell' = true)
    (hsz : (P.info? ty).map (·.size) = some 1)
    (h : ∀ w', Hid (w'.heap[g]? = some (.cells (C.set i v).toArray t (0, 0)) ∧ w.grownBy w' (some g)) → K (a.put op.dst undef) w') : if Region.wanted op (yielded ops a.tmps) = true then Oper.wp P op a w K Q else E := by
  have hw : Region.wanted op (yielded ops a.tmps) = true := by simp [Region.wanted, hgd]
  rw [if_pos hw]
  have h0 := h _ (Lib.hid ⟨heap_set (k := i) hC v, ⟨rfl, rfl, rfl, by simp [World.setCell], fun k _ hk => Below.heap_setCell _ _ _ _ (fun e => hk (by rw [e]))⟩⟩)
  unfold Oper.wp execOp
  simp only [ho, hx, hy, Instr.storeAt, Instr.sureAddr, Sem.run_bind, Sem.run_pure, Result.andThen_ok, run_store_at g i C t hC hi v hv h1 hsz]
  exact h0

/-- All that is new beside what was S. -/
def plus (S : Nat → Prop) (w w' : World) : Nat → Prop := fun k => S k ∨ (w.heap.size ≤ k ∧ k < w'.heap.size)

theorem mapAt_congr {w : World} {b n : Nat} {f f' : Int → Option Value} (h : World.mapAt w b n f) (he : ∀ x, f x = f' x) : World.mapAt w b n f' := by
  obtain rfl : f = f' := funext he
  exact h
/-- The maps are made. -/
theorem Rep.made {w W w3 : World} {S : Nat → Prop} {d T : Nat} {s : Dk} {fused : Bool} {left : Int} {L : Value} {gs : Int → Option (List UInt8)} {gl : Int → Bool} {gn : Int → Option Nat} (o : Obj)
    (h : Rep w S d T s fused left none none none L gs gl gn) (hW : W = ((((w.alloc o).alloc (.map #[] 0)).alloc (.map #[] 0)).alloc (.map #[] 0)))
    (hd3 : w3.heap[d]? = some (.cells (dcells s.off fused left (some (w.heap.size + 1)) (some (w.heap.size + 1 + 1)) L (some (w.heap.size + 1 + 1 + 1))).toArray 69 (0, 0)))
    (hk : W.grownBy w3 (some d)) : Rep w3 (plus S w w3) d T s fused left (some (w.heap.size + 1)) (some (w.heap.size + 1 + 1)) (some (w.heap.size + 1 + 1 + 1)) L gs gl gn := by
  have hd := h.row_lt
  have hz : W.heap.size = w.heap.size + 4 := by rw [hW]; simp
  have hz3 : w.heap.size + 4 ≤ w3.heap.size := by have := hk.size; omega
  obtain ⟨_, a2⟩ := h.apart
  have hm := h.maps
  have hold : ∀ k, k < w.heap.size → k ≠ d → w3.heap[k]? = w.heap[k]? := fun k h1 h2 => by
    rw [hk.block k (by omega) (fun e => h2 (by injection e)), hW, heap_alloc_old _ _ (by simp; omega), heap_alloc_old _ _ (by simp; omega), heap_alloc_old _ _ (by simp; omega), heap_alloc_old _ _ h1]
  have m1 := mapAt_made (w.alloc o)
  have m2 := mapAt_made ((w.alloc o).alloc (.map #[] 0))
  have m3 := mapAt_made (((w.alloc o).alloc (.map #[] 0)).alloc (.map #[] 0))
  have e1 : (w.alloc o).heap.size = w.heap.size + 1 := by simp
  have e2 : ((w.alloc o).alloc (.map #[] 0)).heap.size = w.heap.size + 1 + 1 := by simp
  have e3 : (((w.alloc o).alloc (.map #[] 0)).alloc (.map #[] 0)).heap.size = w.heap.size + 1 + 1 + 1 := by simp
  rw [e1] at m1
  rw [e2] at m2
  rw [e3] at m3
  rcases hm with ⟨_, _, _, hk0, h1, h2, h3⟩ | ⟨_, _, _, h1, _⟩
  · refine ⟨hd3, h.fuse, h.left, .inr ⟨_, _, _, rfl, rfl, rfl, by omega, by omega, by omega, ?_, ?_, ?_⟩, h.many, row_kept h.row (fun g hg => hold g (h.lt g (h.own g (by simp [hg]))) (a2 g hg)), h.sure, h.newest, h.len, h.glen, ?_, ?_⟩
    · refine mapAt_congr (mapAt_mono (mapAt_kept m1 ?_) (Nat.zero_le _)) (fun x => by simp [vS, h1])
      rw [hk.block _ (by omega) (fun e => by injection e with e; omega), hW, heap_alloc_old _ _ (by simp), heap_alloc_old _ _ (by simp)]
    · refine mapAt_congr (mapAt_mono (mapAt_kept m2 ?_) (Nat.zero_le _)) (fun x => by simp [vL, h2])
      rw [hk.block _ (by omega) (fun e => by injection e with e; omega), hW, heap_alloc_old _ _ (by simp)]
    · refine mapAt_congr (mapAt_mono (mapAt_kept m3 ?_) (Nat.zero_le _)) (fun x => by simp [vN, h3])
      rw [hk.block _ (by omega) (fun e => by injection e with e; omega), hW]
    · intro k hk
      rcases hk with rfl | e | e | e | e
      · exact .inl (h.own k (.inl rfl))
      · injection e with e; exact .inr (by omega)
      · injection e with e; exact .inr (by omega)
      · injection e with e; exact .inr (by omega)
      · exact .inl (h.own k (by simp [e]))
    · intro k hk
      rcases hk with hk | hk
      · have := h.lt k hk; omega
      · exact hk.2
  · cases h1

/-- The maps being made already: one block more. -/
theorem Rep.more {w : World} {S : Nat → Prop} {d T : Nat} {s : Dk} {fused : Bool} {left : Int} {ms ml mn : Option Nat} {L : Value} {gs : Int → Option (List UInt8)} {gl : Int → Bool} {gn : Int → Option Nat} (o : Obj)
    (h : Rep w S d T s fused left ms ml mn L gs gl gn) : Rep (w.alloc o) (plus S w (w.alloc o)) d T s fused left ms ml mn L gs gl gn := by
  have h1 := h.turned (w' := w.alloc o) (fun k hs _ => heap_alloc_old w o (h.lt k hs)) (by simp) ((heap_alloc_old w o h.row_lt).trans h.hd) h.fuse h.left
  exact ⟨h1.hd, h1.fuse, h1.left, h1.maps, h1.many, h1.row, h1.sure, h1.newest, h1.len, h1.glen, fun k hk => .inl (h1.own k hk), fun k hk => hk.elim (fun x => Nat.lt_of_lt_of_le (h.lt k x) (by simp)) (fun x => x.2)⟩

theorem Rep.m3 {w : World} {S : Nat → Prop} {d T : Nat} {s : Dk} {fused : Bool} {left : Int} {ms ml : Option Nat} {bn : Nat} {L : Value} {gs : Int → Option (List UInt8)} {gl : Int → Bool} {gn : Int → Option Nat}
    (h : Rep w S d T s fused left ms ml (some bn) L gs gl gn) : World.mapAt w bn T (vN gn) := by
  rcases h.maps with ⟨_, _, h0, _⟩ | ⟨_, _, _, _, _, e3, _, _, _, _, _, h9⟩
  · cases h0
  · injection e3 with e3
    subst e3
    exact h9
/-- One more write is loose. -/
theorem Rep.loosened {w w4 w6 : World} {S : Nat → Prop} {d T : Nat} {s : Dk} {fused : Bool} {left : Int} {bs bl bn : Nat} {L L' : Value} {gs : Int → Option (List UInt8)} {gl : Int → Bool} {gn : Int → Option Nat}
    (h : Rep w S d T s fused left (some bs) (some bl) (some bn) L gs gl gn) (x : Int) (b : List UInt8) (hx : 0 ≤ x ∧ x < 32768) (hb : b.length = 128)
    (hm4 : World.mapAt w4 bn (T + 1) (upd (vN gn) x (some (.int .i64 (s.loose.length : Int))))) (hg4 : w.grownBy w4 (some bn))
    (hd6 : w6.heap[d]? = some (.cells (dcells s.off fused left (some bs) (some bl) L' (some bn)).toArray 69 (0, 0)))
    (hr6 : w6.ownsRow 0 97 129 L' (s.loose.length + 1) (s.loose.flatMap wcells ++ wcells (x, b))) (hl6 : L'.ownBlock = L.ownBlock ∨ ∃ g, L'.ownBlock = some g ∧ w4.heap.size ≤ g)
    (hk6 : ∀ k, k < w4.heap.size → k ≠ d → some k ≠ L.ownBlock → w6.heap[k]? = w4.heap[k]?) (hz6 : w4.heap.size ≤ w6.heap.size) :
    Rep w6 (plus S w w6) d (T + 1) { s with loose := s.loose ++ [(x, b)] } fused left (some bs) (some bl) (some bn) L' gs gl (upd gn x (some s.loose.length)) := by
  have hd := h.row_lt
  obtain ⟨a1, a2⟩ := h.apart
  have hz4 := hg4.size
  have hmany := h.many
  have hap : ∀ k, (k = bs ∨ k = bl ∨ k = bn) → some k ≠ L.ownBlock := by
    intro k hk e
    rcases h.row.2 with ⟨rfl, _⟩ | ⟨g, cap, cur, rfl, _, hg, _⟩
    · cases e
    · have e' : k = g := by simpa [Value.ownBlock] using e
      subst e'
      rcases h.maps with ⟨h0, _⟩ | ⟨_, _, _, e1, e2, e3, _, _, _, h7, h8, h9⟩
      · cases h0
      · injection e1 with e1
        injection e2 with e2
        injection e3 with e3
        subst e1 e2 e3
        rcases hk with rfl | rfl | rfl
        · obtain ⟨es, c, h0⟩ := mapAt_block h7; rw [hg] at h0; cases h0
        · obtain ⟨es, c, h0⟩ := mapAt_block h8; rw [hg] at h0; cases h0
        · obtain ⟨es, c, h0⟩ := mapAt_block h9; rw [hg] at h0; cases h0
  have hLlt : ∀ g, L'.ownBlock = some g → g < w6.heap.size := fun g hg => (hr6.lt g hg).2
  rcases h.maps with ⟨h0, _⟩ | ⟨_, _, _, e1, e2, e3, h4, h5, h6, h7, h8, h9⟩
  · cases h0
  injection e1 with e1
  injection e2 with e2
  injection e3 with e3
  subst e1 e2 e3
  have keep : ∀ k, (k = bs ∨ k = bl) → w6.heap[k]? = w.heap[k]? := fun k hk => by
    have hlt : k < w.heap.size := hk.elim (fun e => e ▸ mapAt_lt h7) (fun e => e ▸ mapAt_lt h8)
    rw [hk6 k (by omega) (a1 k (by rcases hk with rfl | rfl <;> simp)) (hap k (by rcases hk with rfl | rfl <;> simp)), hg4.block k hlt (fun e => by injection e with e; rcases hk with rfl | rfl <;> omega)]
  refine ⟨hd6, h.fuse, h.left, .inr ⟨_, _, _, rfl, rfl, rfl, h4, h5, h6, ?_, ?_, ?_⟩, by simp; omega, ?_, h.sure, ?_, ?_, h.glen, ?_, ?_⟩
  · simp only [List.length_append, List.length_cons, List.length_nil, Nat.zero_add, Nat.add_sub_add_right]
    exact mapAt_kept h7 (keep _ (.inl rfl))
  · simp only [List.length_append, List.length_cons, List.length_nil, Nat.zero_add, Nat.add_sub_add_right]
    exact mapAt_kept h8 (keep _ (.inr rfl))
  · refine mapAt_congr (mapAt_kept hm4 (hk6 _ (mapAt_lt hm4) (a1 _ (by simp)) (hap _ (by simp)))) (fun y => ?_)
    unfold vN
    by_cases hy : y = x
    · subst hy; simp [upd_same]
    · simp [upd_other _ _ hy]
  · simp only [List.length_append, List.length_cons, List.length_nil, Nat.zero_add, List.flatMap_append, List.flatMap_cons, List.flatMap_nil, List.append_nil]
    exact hr6
  · intro y
    simp only
    rw [lastW_snoc]
    by_cases hy : y = x
    · subst hy
      exact .inr ⟨_, b, upd_same _ _ _, by simp, by simp⟩
    · rw [upd_other _ _ hy, if_neg (fun e => hy e.symm)]
      rcases h.newest y with hn | ⟨j, b', h1, h2, h3⟩
      · exact .inl hn
      · exact .inr ⟨j, b', h1, by rw [List.getElem?_append_left (List.getElem?_eq_some_iff.1 h2).1]; exact h2, h3⟩
  · intro p hp
    rcases List.mem_append.1 hp with hp | hp
    · exact h.len p hp
    · simp at hp
      subst hp
      exact ⟨hb, hx⟩
  · intro k hk
    rcases hk with rfl | e | e | e | e
    · exact .inl (h.own k (.inl rfl))
    · exact .inl (h.own k (by simp [e]))
    · exact .inl (h.own k (by simp [e]))
    · exact .inl (h.own k (by simp [e]))
    · rcases hl6 with h0 | ⟨g, h0, h1⟩
      · exact .inl (h.own k (by rw [← h0, e]; simp))
      · rw [h0] at e
        injection e with e
        subst e
        exact .inr ⟨by omega, hLlt _ h0⟩
  · intro k hk
    rcases hk with hk | hk
    · have := h.lt k hk; omega
    · exact hk.2

theorem gb_drew {w w' : World} {row : Option Nat} (h : (w.drewN 1).grownBy w' row) : w.grownBy w' row := ⟨h.os, h.tape, h.output, h.size, h.block⟩
theorem loosen_end {w w3 w4 w5 w6 : World} {S : Nat → Prop} {d T : Nat} {s : Dk} {fused : Bool} {left : Int} {bs bl bn : Nat} {L L' : Value} {gs : Int → Option (List UInt8)} {gl : Int → Bool} {gn : Int → Option Nat} (HT3 : Turns S w w3)
    (h3 : Rep w3 (plus S w w3) d T s fused left (some bs) (some bl) (some bn) L gs gl gn) {x : Int} {b : List UInt8} (hx : 0 ≤ x ∧ x < 32768) (hb : b.length = 128)
    (M4 : World.mapAt w4 bn (T + 1) (upd (vN gn) x (some (.int .i64 (s.loose.length : Int))))) (T4 : w3.grownBy w4 (some bn))
    (M5 : w5.ownsRow 0 97 129 L' (s.loose.length + 1) (s.loose.flatMap wcells ++ wcells (x, b))) (T5 : w4.grownBy w5 L.ownBlock ∧ (L'.ownBlock = L.ownBlock ∨ ∃ g, L'.ownBlock = some g ∧ w4.heap.size ≤ g))
    (G6 : w6.heap[d]? = some (.cells (dcells s.off fused left (some bs) (some bl) L' (some bn)).toArray 69 (0, 0)) ∧ w5.grownBy w6 (some d)) :
    ∃ S', DiskIs w6 S' d (T + 1) { s with loose := s.loose ++ [(x, b)] } ∧ Own w S w6 S' := by
  have hd := h3.row_lt
  have hsz : w.heap.size ≤ w3.heap.size := HT3.size
  have hin : ∀ k, plus S w w3 k → S k ∨ w.heap.size ≤ k := fun k hk => hk.imp id fun x => x.1
  have z4 := T4.size
  have z5 := T5.1.size
  have z6 := G6.2.size
  have hne : ∀ g, L'.ownBlock = some g → g ≠ d := by
    intro g hg e
    subst e
    rcases T5.2 with h0 | ⟨g', h0, h1⟩
    · exact h3.apart.2 g (by rw [← h0, hg]) rfl
    · rw [h0] at hg
      injection hg with hg
      omega
  refine ⟨_, ⟨fused, left, some bs, some bl, some bn, L', gs, gl, _, h3.loosened x b hx hb M4 T4 G6.1 (row_kept M5 fun g hg => G6.2.block g (M5.lt g hg).2 (fun e => hne g hg (by injection e))) T5.2
    (fun k h1 h2 h4 => (G6.2.block k (by omega) (fun e => h2 (by injection e))).trans (T5.1.block k h1 h4)) (by omega)⟩, ?_, ?_⟩
  · refine ((HT3.grown T4 ?_).grown T5.1 ?_).grown G6.2 ?_
    · rintro g e; cases e; exact hin _ (h3.own _ (by simp))
    · rintro g e; exact hin _ (h3.own _ (by simp [e]))
    · rintro g e; cases e; exact hin _ (h3.own _ (.inl rfl))
  · rintro k (hk | hk)
    · exact hin k hk
    · exact .inr (by omega)

set_option maxHeartbeats 2000000 in
set_option maxRecDepth 100000 in
/-- One more write is loose, the maps being made. -/
theorem loosen_any {w : World} {S : Nat → Prop} {d T : Nat} {s : Dk} (h : DiskIs w S d T s) (x : Int) (b : List UInt8) (hx : 0 ≤ x ∧ x < 32768) (hb : b.length = 128) (hT : T < 1000000000) :
    Calls Tryd.prog 47 #[.pointer (some ⟨d, 0, none⟩), .agg (wcells (x, b)).toArray] w fun E w' => E = .returned (.tuple #[]) ∧ ∃ S', DiskIs w' S' d (T + 1) { s with loose := s.loose ++ [(x, b)] } ∧ Own w S w' S' := by
  obtain ⟨fused, left, ms, ml, mn, L, gs, gl, gn, h⟩ := h
  have hd := h.row_lt
  have hSd := h.own d (.inl rfl)
  obtain ⟨A, c, rfl, hsl⟩ := row_shape h.row
  obtain ⟨c0, c1, c2, c3, c4, c5, c6⟩ := h.cells
  obtain ⟨q, hq⟩ : ∃ q, q = w.heap.size := ⟨_, rfl⟩
  have hIx : I64 x := i64_of (by omega)
  rcases h.maps with ⟨rfl, rfl, rfl, hk, h1, h2, h3⟩ | ⟨bs, bl, bn, rfl, rfl, rfl, h4, h5, h6, h7, h8, h9⟩
  · obtain ⟨W, hW⟩ : ∃ W, W = ((((w.alloc (.cells (wcells (x, b)).toArray 97)).alloc (.map #[] 0)).alloc (.map #[] 0)).alloc (.map #[] 0)) := ⟨_, rfl⟩
    have HC : Hid (W.heap[d]? = some (.cells (dcells s.off fused left none none (.slice A s.loose.length c) none).toArray 69 (0, 0))) := Lib.hid (by
      rw [hW, heap_alloc_old _ _ (by simp; omega), heap_alloc_old _ _ (by simp; omega), heap_alloc_old _ _ (by simp; omega), heap_alloc_old _ _ hd]
      exact h.hd)
    have HW := Lib.hid hW
    have HR := Lib.hid h
    have hmm := @run_makeMap Tryd.prog
    have he := eq_nil60
    clear hW h c0 c1 c2 c3 c4 c5 h1 h2 h3 hk
    go_enter Tryd.func47, Tryd.ntmps47
    go_wp2_with (first
      | (refine wpList_store_at rfl 64 (.tmp 16) (.tmp 12) rfl d 3 (dcells s.off fused left none none (.slice A s.loose.length c) none) 69 (by rw [← HW.out]; exact HC.out) (show 3 < 7 by omega) (.map (some (w.heap.size + 1))) rfl rfl rfl rfl Tryd.size64 ?_; intro w1 G1)
      | (refine wpList_store_at rfl 65 (.tmp 18) (.tmp 13) rfl d 4 _ 69 G1.out.1 (show 4 < 7 by omega) (.map (some (w.heap.size + 1 + 1))) rfl rfl rfl rfl Tryd.size65 ?_; intro w2 G2)
      | (refine wpList_store_at rfl 67 (.tmp 20) (.tmp 14) rfl d 6 _ 69 G2.out.1 (show 6 < 7 by omega) (.map (some (w.heap.size + 1 + 1 + 1))) rfl rfl rfl rfl Tryd.size67 ?_; intro w3 G3))
    have HR3 := Lib.hid (HR.out.made (w3 := w3) _ HW.out G3.out.1 (((G1.out.2).trans G2.out.2).trans G3.out.2 |> fun h => HW.out ▸ h))
    have HT3 : Hid (Turns S w w3) := Lib.hid ((((Turns.refl S w).alloc _).alloc _ |>.alloc _ |>.alloc _).grown (((G1.out.2).trans G2.out.2).trans G3.out.2) (by rintro g e; cases e; exact .inl hSd))
    have HB3 : Hid (w3.heap[w.heap.size]? = some (.cells (wcells (x, b)).toArray 97 (0, 0))) := Lib.hid (by
      rw [(((G1.out.2).trans G2.out.2).trans G3.out.2).block _ (by simp; omega) (fun e => by injection e with e; omega), heap_alloc_old _ _ (by simp; omega), heap_alloc_old _ _ (by simp; omega), heap_alloc_old _ _ (by simp)]
      exact row_new w _ _)
    obtain ⟨_, _, _, k3, _, k5, k6⟩ := HR3.out.cells
    clear HR HW HC G1 G2 G3 c6 hmm he
    have kb : w3.cell? ⟨w.heap.size, 0, none⟩ = some (.int .i64 x) := block_cell HB3.out 0 _ rfl
    try simp only [Act.put]
    refine wp_region_quiet_tail 11 (by kernel_rfl) (by kernel_rfl) ?_
    simp only [List.take_succ_cons, List.take_zero, List.drop_succ_cons, List.drop_zero]
    repeat (first
      | go_big_quiet_skip
      | (go_big_quiet_want; go_big_quiet_op; go_big_quiet_on))
    refine wpQuiet_nil ?_
    refine wpList_put_at rfl (.tmp 24) (.tmp 26) (.tmp 31) 67 3 rfl Tryd.underlying67 (w.heap.size + 1 + 1 + 1) T (vN gn) rfl HR3.out.m3 (by unfold maxLen; omega) x (.int .i64 (s.loose.length : Int)) rfl rfl hIx ?_
    intro w4 M4 T4
    clear kb k3 k5 k6
    have HN4 := Lib.hid (HR3.out.apart.1 (w.heap.size + 1 + 1 + 1) (by simp))
    have HD4 : Hid (w4.heap[d]? = some (.cells (dcells s.off fused left (some (w.heap.size + 1)) (some (w.heap.size + 1 + 1)) (.slice A s.loose.length c) (some (w.heap.size + 1 + 1 + 1))).toArray 69 (0, 0))) := Lib.hid ((T4.out.grown.block d (by have := HR3.out.row_lt; simpa using this) (fun e => HN4.out (by injection e with e; exact e.symm))).trans HR3.out.hd)
    go_wp2
    try simp only [Act.put]
    have HZ4 : Hid (w.heap.size < w4.heap.size ∧ w4.heap[w.heap.size]? = some (.cells (wcells (x, b)).toArray 97 (0, 0))) := Lib.hid (by
      have hb3 := HB3.out
      have hlt : w.heap.size < w3.heap.size := (Array.getElem?_eq_some_iff.1 hb3).1
      refine ⟨Nat.lt_of_lt_of_le hlt T4.out.grown.size, (T4.out.grown.block _ hlt (fun e => ?_)).trans hb3⟩
      injection e with e
      obtain ⟨es, c, h0⟩ := mapAt_block HR3.out.m3
      rw [← e, hb3] at h0
      cases h0)
    have HO4 : Hid (w4.ownsRow 0 97 129 (.slice A s.loose.length c) s.loose.length (s.loose.flatMap wcells)) := Lib.hid (row_kept HR3.out.row fun g hg => T4.out.grown.block g (HR3.out.row.lt g hg).2 (fun e => by
      injection e with e
      subst e
      rcases HR3.out.row.2 with ⟨e0, _⟩ | ⟨g', cap, cur, e0, _, hgg, _⟩
      · rw [e0] at hg; simp [Value.ownBlock] at hg
      · rw [e0] at hg
        simp [Value.ownBlock] at hg
        subst hg
        obtain ⟨es, c, h0⟩ := mapAt_block HR3.out.m3
        rw [hgg] at h0
        cases h0))
    have k5 : w4.cell? ⟨d, 5, none⟩ = some (.slice A s.loose.length c) := block_cell HD4.out 5 _ rfl
    have k5' : ((w4.drewN 1).alloc (.cells (wcells (x, b)).toArray 97)).cell? ⟨d, 5, none⟩ = some (.slice A s.loose.length c) := by
      rw [World.cell?_alloc_lt _ _ _ (show d < (w4.drewN 1).heap.size from World.block_lt_of_cell? w4 _ k5)]; exact k5
    have k5w : (w4.drewN 1).cell? ⟨d, 5, none⟩ = some (.slice A s.loose.length c) := k5
    have HQ4 : Hid ((w4.drewN 1).rangeAt w.heap.size 0 (wcells (x, b))) := Lib.hid (range_block (w := w4.drewN 1) HZ4.out.2 0 _ (fun j v hv => by rw [Nat.zero_add]; exact hv))
    have HI : Hid ((Tryd.prog.info? 97).map (·.size) = some (wcells (x, b)).length) := Lib.hid (by rw [wcells_length hb]; exact Tryd.size97)
    have HN5 : Hid ((Value.slice A s.loose.length c).ownBlock ≠ some d) := Lib.hid (fun e => HR3.out.apart.2 d e rfl)
    have HM : Hid (s.loose.length < 1000000000000) := Lib.hid (by have := HR3.out.many; omega)
    clear k5
    refine wp_region_any (by kernel_rfl) ?_
    change wpAny _ _ _ _ _ _ _ (w4.drewN 1)
    refine wpAny_take (i := 0) (oi := { dst := some 32, op := Op.move (Operand.tmp 0), type := 24, pos := "disk.go:162", after := #[], guard := none }) (v := .pointer (some ⟨d, 0, none⟩)) rfl (by kernel_rfl) (by kernel_rfl) (by kernel_rfl) (fun _ _ _ h => h) (Or.inl ⟨by kernel_rfl, fun W => by go_simp⟩) ?_
    simp only [Act.put, List.setIfInBounds_toArray, List.set_cons_zero, List.set_cons_succ]
    refine wpAny_take (i := 1) (oi := { dst := some 33, op := Op.move (Operand.tmp 0), type := 24, pos := "disk.go:162", after := #[], guard := none }) (v := .pointer (some ⟨d, 0, none⟩)) rfl (by kernel_rfl) (by kernel_rfl) (by kernel_rfl) (fun _ _ _ h => h) (Or.inl ⟨by kernel_rfl, fun W => by go_simp⟩) ?_
    simp only [Act.put, List.setIfInBounds_toArray, List.set_cons_zero, List.set_cons_succ]
    refine wpAny_take (i := 2) (oi := { dst := some 34, op := Op.nilCheck (Operand.tmp 33), type := 0, pos := "disk.go:162", after := #[{ on := 1, ground := Ground.data }], guard := none }) (v := .pointer (some ⟨d, 0, none⟩)) rfl (by kernel_rfl) (by kernel_rfl) (by kernel_rfl) (fun _ _ _ h => h) (Or.inl ⟨by kernel_rfl, fun W => by go_simp⟩) ?_
    simp only [Act.put, List.setIfInBounds_toArray, List.set_cons_zero, List.set_cons_succ]
    refine wpAny_take (i := 3) (oi := { dst := some 35, op := Op.fieldAddr 69 (Operand.tmp 34) 5, type := 0, pos := "disk.go:162", after := #[{ on := 2, ground := Ground.data }], guard := none }) (v := .pointer (some ⟨d, 5, none⟩)) rfl (by kernel_rfl) (by kernel_rfl) (by kernel_rfl) (fun _ _ _ h => h) (Or.inl ⟨by kernel_rfl, fun W => by go_simp⟩) ?_
    simp only [Act.put, List.setIfInBounds_toArray, List.set_cons_zero, List.set_cons_succ]
    refine wpAny_ready (rs := [4, 5]) (by kernel_rfl) (by simp) ?_
    refine (AllReady.cons (o := { dst := some 36, op := Op.load 66 (Operand.tmp 35), type := 66, pos := "disk.go:162", after := #[{ on := 3, ground := Ground.data }], guard := none }) rfl (fun K hK => ?_) (AllReady.cons (o := { dst := some 37, op := Op.load 97 (Operand.tmp 3), type := 97, pos := "disk.go:162", after := #[], guard := none }) rfl (fun K hK => ?_) AllReady.nil))
    · go_simp
      refine hK _ _ ?_
      clear hK K
      try simp only [Act.put, List.setIfInBounds_toArray, List.set_cons_zero, List.set_cons_succ]
      refine wpAny_ready (rs := [5]) (by kernel_rfl) (by simp) ?_
      refine (AllReady.cons (o := { dst := some 37, op := Op.load 97 (Operand.tmp 3), type := 97, pos := "disk.go:162", after := #[], guard := none }) rfl (fun K hK => ?_) AllReady.nil)
      refine step_load_cells rfl 97 (.tmp 3) rfl w.heap.size 0 rfl (wcells (x, b)) _ HQ4.out Tryd.underlying97 rfl HI.out ?_
      refine hK _ _ ?_
      clear hK K
      try simp only [Act.put, List.setIfInBounds_toArray, List.set_cons_zero, List.set_cons_succ]
      refine wpAny_ready (rs := [6]) (by kernel_rfl) (by simp) ?_
      refine (AllReady.cons (o := { dst := some 38, op := Op.buildSlice 66 1 #[(0, Operand.tmp 37)], type := 66, pos := "disk.go:162", after := #[{ on := 5, ground := Ground.data }], guard := none }) rfl (fun K hK => ?_) AllReady.nil)
      refine step_build59 rfl (.tmp 37) rfl (x, b) hb rfl ?_
      refine hK _ _ ?_
      clear hK K
      try simp only [Act.put, List.setIfInBounds_toArray, List.set_cons_zero, List.set_cons_succ]
      refine wpAny_ready (rs := [7]) (by kernel_rfl) (by simp) ?_
      refine (AllReady.cons (o := { dst := some 39, op := Op.call { callee := Callee.builtin Builtin.append, args := #[Operand.tmp 36, Operand.tmp 38], argTypes := #[66, 66] }, type := 66, pos := "disk.go:162", after := #[{ on := 4, ground := Ground.data }, { on := 6, ground := Ground.data }], guard := none }) rfl (fun K hK => ?_) AllReady.nil)
      refine step_append_w rfl (.tmp 36) (.tmp 38) rfl s.loose.length (.slice A s.loose.length c) (s.loose.flatMap wcells) (x, b) hb rfl rfl HO4.out HM.out ?_
      intro A' c' w5 M5 T5
      refine hK _ _ ?_
      clear hK K
      simp only [Act.put, List.setIfInBounds_toArray, List.set_cons_zero, List.set_cons_succ]
      have H5 : w5.heap[d]? = some (.cells (dcells s.off fused left (some (w.heap.size + 1)) (some (w.heap.size + 1 + 1)) (.slice A s.loose.length c) (some (w.heap.size + 1 + 1 + 1))).toArray 69 (0, 0)) := (T5.out.1.block d (by have := HR3.out.row_lt; exact Nat.lt_of_lt_of_le this T4.out.grown.size) (fun e => HN5.out e.symm)).trans HD4.out
      refine wpAny_take (i := 8) (oi := { dst := some 40, op := Op.nilCheck (Operand.tmp 32), type := 0, pos := "disk.go:162", after := #[{ on := 0, ground := Ground.data }, { on := 0, ground := Ground.phase }, { on := 1, ground := Ground.phase }, { on := 2, ground := Ground.phase }, { on := 3, ground := Ground.phase }, { on := 4, ground := Ground.phase }, { on := 5, ground := Ground.phase }, { on := 6, ground := Ground.phase }, { on := 7, ground := Ground.phase }], guard := none }) (v := .pointer (some ⟨d, 0, none⟩)) rfl (by kernel_rfl) (by kernel_rfl) (by kernel_rfl) (fun _ _ _ h => h) (Or.inl ⟨by kernel_rfl, fun W => by go_simp⟩) ?_
      simp only [Act.put, List.setIfInBounds_toArray, List.set_cons_zero, List.set_cons_succ]
      refine wpAny_take (i := 9) (oi := { dst := some 41, op := Op.fieldAddr 69 (Operand.tmp 40) 5, type := 0, pos := "disk.go:162", after := #[{ on := 8, ground := Ground.data }, { on := 0, ground := Ground.phase }, { on := 1, ground := Ground.phase }, { on := 2, ground := Ground.phase }, { on := 3, ground := Ground.phase }, { on := 4, ground := Ground.phase }, { on := 5, ground := Ground.phase }, { on := 6, ground := Ground.phase }, { on := 7, ground := Ground.phase }], guard := none }) (v := .pointer (some ⟨d, 5, none⟩)) rfl (by kernel_rfl) (by kernel_rfl) (by kernel_rfl) (fun _ _ _ h => h) (Or.inl ⟨by kernel_rfl, fun W => by go_simp⟩) ?_
      simp only [Act.put, List.setIfInBounds_toArray, List.set_cons_zero, List.set_cons_succ]
      refine wpAny_ready (rs := [10]) (by kernel_rfl) (by simp) ?_
      refine (AllReady.cons (o := { dst := none, op := Op.store 66 (Operand.tmp 41) (Operand.tmp 39), type := 0, pos := "disk.go:162", after := #[{ on := 9, ground := Ground.data }, { on := 7, ground := Ground.data }, { on := 7, ground := Ground.chain }, { on := 0, ground := Ground.phase }, { on := 1, ground := Ground.phase }, { on := 2, ground := Ground.phase }, { on := 3, ground := Ground.phase }, { on := 4, ground := Ground.phase }, { on := 5, ground := Ground.phase }, { on := 6, ground := Ground.phase }, { on := 7, ground := Ground.phase }], guard := none }) rfl (fun K hK => ?_) AllReady.nil)
      refine step_store_at rfl 66 (.tmp 41) (.tmp 39) rfl d 5 (dcells s.off fused left (some (w.heap.size + 1)) (some (w.heap.size + 1 + 1)) (.slice A s.loose.length c) (some (w.heap.size + 1 + 1 + 1))) 69 H5 (show 5 < 7 by omega) (.slice A' (s.loose.length + 1) c') rfl rfl rfl rfl Tryd.size66 ?_
      intro w6 G6
      refine hK _ _ ?_
      clear hK K
      refine wpAny_done (by kernel_rfl) ?_ _
      go_wp2
      exact bodyPost_end (results_none rfl _ _ _) rfl ⟨rfl, loosen_end (w3 := w3) (w4 := w4) (w5 := w5) HT3.out HR3.out hx hb M4.out (gb_drew T4.out.grown) M5.out ⟨gb_drew T5.out.1, T5.out.2⟩ G6.out⟩
    · refine step_load_cells rfl 97 (.tmp 3) rfl w.heap.size 0 rfl (wcells (x, b)) _ HQ4.out Tryd.underlying97 rfl HI.out ?_
      refine hK _ _ ?_
      clear hK K
      try simp only [Act.put, List.setIfInBounds_toArray, List.set_cons_zero, List.set_cons_succ]
      refine wpAny_ready (rs := [4, 6]) (by kernel_rfl) (by simp) ?_
      refine (AllReady.cons (o := { dst := some 36, op := Op.load 66 (Operand.tmp 35), type := 66, pos := "disk.go:162", after := #[{ on := 3, ground := Ground.data }], guard := none }) rfl (fun K hK => ?_) (AllReady.cons (o := { dst := some 38, op := Op.buildSlice 66 1 #[(0, Operand.tmp 37)], type := 66, pos := "disk.go:162", after := #[{ on := 5, ground := Ground.data }], guard := none }) rfl (fun K hK => ?_) AllReady.nil))
      · go_simp
        refine hK _ _ ?_
        clear hK K
        try simp only [Act.put, List.setIfInBounds_toArray, List.set_cons_zero, List.set_cons_succ]
        refine wpAny_ready (rs := [6]) (by kernel_rfl) (by simp) ?_
        refine (AllReady.cons (o := { dst := some 38, op := Op.buildSlice 66 1 #[(0, Operand.tmp 37)], type := 66, pos := "disk.go:162", after := #[{ on := 5, ground := Ground.data }], guard := none }) rfl (fun K hK => ?_) AllReady.nil)
        refine step_build59 rfl (.tmp 37) rfl (x, b) hb rfl ?_
        refine hK _ _ ?_
        clear hK K
        try simp only [Act.put, List.setIfInBounds_toArray, List.set_cons_zero, List.set_cons_succ]
        refine wpAny_ready (rs := [7]) (by kernel_rfl) (by simp) ?_
        refine (AllReady.cons (o := { dst := some 39, op := Op.call { callee := Callee.builtin Builtin.append, args := #[Operand.tmp 36, Operand.tmp 38], argTypes := #[66, 66] }, type := 66, pos := "disk.go:162", after := #[{ on := 4, ground := Ground.data }, { on := 6, ground := Ground.data }], guard := none }) rfl (fun K hK => ?_) AllReady.nil)
        refine step_append_w rfl (.tmp 36) (.tmp 38) rfl s.loose.length (.slice A s.loose.length c) (s.loose.flatMap wcells) (x, b) hb rfl rfl HO4.out HM.out ?_
        intro A' c' w5 M5 T5
        refine hK _ _ ?_
        clear hK K
        simp only [Act.put, List.setIfInBounds_toArray, List.set_cons_zero, List.set_cons_succ]
        have H5 : w5.heap[d]? = some (.cells (dcells s.off fused left (some (w.heap.size + 1)) (some (w.heap.size + 1 + 1)) (.slice A s.loose.length c) (some (w.heap.size + 1 + 1 + 1))).toArray 69 (0, 0)) := (T5.out.1.block d (by have := HR3.out.row_lt; exact Nat.lt_of_lt_of_le this T4.out.grown.size) (fun e => HN5.out e.symm)).trans HD4.out
        refine wpAny_take (i := 8) (oi := { dst := some 40, op := Op.nilCheck (Operand.tmp 32), type := 0, pos := "disk.go:162", after := #[{ on := 0, ground := Ground.data }, { on := 0, ground := Ground.phase }, { on := 1, ground := Ground.phase }, { on := 2, ground := Ground.phase }, { on := 3, ground := Ground.phase }, { on := 4, ground := Ground.phase }, { on := 5, ground := Ground.phase }, { on := 6, ground := Ground.phase }, { on := 7, ground := Ground.phase }], guard := none }) (v := .pointer (some ⟨d, 0, none⟩)) rfl (by kernel_rfl) (by kernel_rfl) (by kernel_rfl) (fun _ _ _ h => h) (Or.inl ⟨by kernel_rfl, fun W => by go_simp⟩) ?_
        simp only [Act.put, List.setIfInBounds_toArray, List.set_cons_zero, List.set_cons_succ]
        refine wpAny_take (i := 9) (oi := { dst := some 41, op := Op.fieldAddr 69 (Operand.tmp 40) 5, type := 0, pos := "disk.go:162", after := #[{ on := 8, ground := Ground.data }, { on := 0, ground := Ground.phase }, { on := 1, ground := Ground.phase }, { on := 2, ground := Ground.phase }, { on := 3, ground := Ground.phase }, { on := 4, ground := Ground.phase }, { on := 5, ground := Ground.phase }, { on := 6, ground := Ground.phase }, { on := 7, ground := Ground.phase }], guard := none }) (v := .pointer (some ⟨d, 5, none⟩)) rfl (by kernel_rfl) (by kernel_rfl) (by kernel_rfl) (fun _ _ _ h => h) (Or.inl ⟨by kernel_rfl, fun W => by go_simp⟩) ?_
        simp only [Act.put, List.setIfInBounds_toArray, List.set_cons_zero, List.set_cons_succ]
        refine wpAny_ready (rs := [10]) (by kernel_rfl) (by simp) ?_
        refine (AllReady.cons (o := { dst := none, op := Op.store 66 (Operand.tmp 41) (Operand.tmp 39), type := 0, pos := "disk.go:162", after := #[{ on := 9, ground := Ground.data }, { on := 7, ground := Ground.data }, { on := 7, ground := Ground.chain }, { on := 0, ground := Ground.phase }, { on := 1, ground := Ground.phase }, { on := 2, ground := Ground.phase }, { on := 3, ground := Ground.phase }, { on := 4, ground := Ground.phase }, { on := 5, ground := Ground.phase }, { on := 6, ground := Ground.phase }, { on := 7, ground := Ground.phase }], guard := none }) rfl (fun K hK => ?_) AllReady.nil)
        refine step_store_at rfl 66 (.tmp 41) (.tmp 39) rfl d 5 (dcells s.off fused left (some (w.heap.size + 1)) (some (w.heap.size + 1 + 1)) (.slice A s.loose.length c) (some (w.heap.size + 1 + 1 + 1))) 69 H5 (show 5 < 7 by omega) (.slice A' (s.loose.length + 1) c') rfl rfl rfl rfl Tryd.size66 ?_
        intro w6 G6
        refine hK _ _ ?_
        clear hK K
        refine wpAny_done (by kernel_rfl) ?_ _
        go_wp2
        exact bodyPost_end (results_none rfl _ _ _) rfl ⟨rfl, loosen_end (w3 := w3) (w4 := w4) (w5 := w5) HT3.out HR3.out hx hb M4.out (gb_drew T4.out.grown) M5.out ⟨gb_drew T5.out.1, T5.out.2⟩ G6.out⟩
      · refine step_build59 rfl (.tmp 37) rfl (x, b) hb rfl ?_
        refine hK _ _ ?_
        clear hK K
        try simp only [Act.put, List.setIfInBounds_toArray, List.set_cons_zero, List.set_cons_succ]
        refine wpAny_ready (rs := [4]) (by kernel_rfl) (by simp) ?_
        refine (AllReady.cons (o := { dst := some 36, op := Op.load 66 (Operand.tmp 35), type := 66, pos := "disk.go:162", after := #[{ on := 3, ground := Ground.data }], guard := none }) rfl (fun K hK => ?_) AllReady.nil)
        go_simp
        refine hK _ _ ?_
        clear hK K
        try simp only [Act.put, List.setIfInBounds_toArray, List.set_cons_zero, List.set_cons_succ]
        refine wpAny_ready (rs := [7]) (by kernel_rfl) (by simp) ?_
        refine (AllReady.cons (o := { dst := some 39, op := Op.call { callee := Callee.builtin Builtin.append, args := #[Operand.tmp 36, Operand.tmp 38], argTypes := #[66, 66] }, type := 66, pos := "disk.go:162", after := #[{ on := 4, ground := Ground.data }, { on := 6, ground := Ground.data }], guard := none }) rfl (fun K hK => ?_) AllReady.nil)
        refine step_append_w rfl (.tmp 36) (.tmp 38) rfl s.loose.length (.slice A s.loose.length c) (s.loose.flatMap wcells) (x, b) hb rfl rfl HO4.out HM.out ?_
        intro A' c' w5 M5 T5
        refine hK _ _ ?_
        clear hK K
        simp only [Act.put, List.setIfInBounds_toArray, List.set_cons_zero, List.set_cons_succ]
        have H5 : w5.heap[d]? = some (.cells (dcells s.off fused left (some (w.heap.size + 1)) (some (w.heap.size + 1 + 1)) (.slice A s.loose.length c) (some (w.heap.size + 1 + 1 + 1))).toArray 69 (0, 0)) := (T5.out.1.block d (by have := HR3.out.row_lt; exact Nat.lt_of_lt_of_le this T4.out.grown.size) (fun e => HN5.out e.symm)).trans HD4.out
        refine wpAny_take (i := 8) (oi := { dst := some 40, op := Op.nilCheck (Operand.tmp 32), type := 0, pos := "disk.go:162", after := #[{ on := 0, ground := Ground.data }, { on := 0, ground := Ground.phase }, { on := 1, ground := Ground.phase }, { on := 2, ground := Ground.phase }, { on := 3, ground := Ground.phase }, { on := 4, ground := Ground.phase }, { on := 5, ground := Ground.phase }, { on := 6, ground := Ground.phase }, { on := 7, ground := Ground.phase }], guard := none }) (v := .pointer (some ⟨d, 0, none⟩)) rfl (by kernel_rfl) (by kernel_rfl) (by kernel_rfl) (fun _ _ _ h => h) (Or.inl ⟨by kernel_rfl, fun W => by go_simp⟩) ?_
        simp only [Act.put, List.setIfInBounds_toArray, List.set_cons_zero, List.set_cons_succ]
        refine wpAny_take (i := 9) (oi := { dst := some 41, op := Op.fieldAddr 69 (Operand.tmp 40) 5, type := 0, pos := "disk.go:162", after := #[{ on := 8, ground := Ground.data }, { on := 0, ground := Ground.phase }, { on := 1, ground := Ground.phase }, { on := 2, ground := Ground.phase }, { on := 3, ground := Ground.phase }, { on := 4, ground := Ground.phase }, { on := 5, ground := Ground.phase }, { on := 6, ground := Ground.phase }, { on := 7, ground := Ground.phase }], guard := none }) (v := .pointer (some ⟨d, 5, none⟩)) rfl (by kernel_rfl) (by kernel_rfl) (by kernel_rfl) (fun _ _ _ h => h) (Or.inl ⟨by kernel_rfl, fun W => by go_simp⟩) ?_
        simp only [Act.put, List.setIfInBounds_toArray, List.set_cons_zero, List.set_cons_succ]
        refine wpAny_ready (rs := [10]) (by kernel_rfl) (by simp) ?_
        refine (AllReady.cons (o := { dst := none, op := Op.store 66 (Operand.tmp 41) (Operand.tmp 39), type := 0, pos := "disk.go:162", after := #[{ on := 9, ground := Ground.data }, { on := 7, ground := Ground.data }, { on := 7, ground := Ground.chain }, { on := 0, ground := Ground.phase }, { on := 1, ground := Ground.phase }, { on := 2, ground := Ground.phase }, { on := 3, ground := Ground.phase }, { on := 4, ground := Ground.phase }, { on := 5, ground := Ground.phase }, { on := 6, ground := Ground.phase }, { on := 7, ground := Ground.phase }], guard := none }) rfl (fun K hK => ?_) AllReady.nil)
        refine step_store_at rfl 66 (.tmp 41) (.tmp 39) rfl d 5 (dcells s.off fused left (some (w.heap.size + 1)) (some (w.heap.size + 1 + 1)) (.slice A s.loose.length c) (some (w.heap.size + 1 + 1 + 1))) 69 H5 (show 5 < 7 by omega) (.slice A' (s.loose.length + 1) c') rfl rfl rfl rfl Tryd.size66 ?_
        intro w6 G6
        refine hK _ _ ?_
        clear hK K
        refine wpAny_done (by kernel_rfl) ?_ _
        go_wp2
        exact bodyPost_end (results_none rfl _ _ _) rfl ⟨rfl, loosen_end (w3 := w3) (w4 := w4) (w5 := w5) HT3.out HR3.out hx hb M4.out (gb_drew T4.out.grown) M5.out ⟨gb_drew T5.out.1, T5.out.2⟩ G6.out⟩
  · have HR3 := Lib.hid (h.more (.cells (wcells (x, b)).toArray 97))
    have HB3 : Hid ((w.alloc (.cells (wcells (x, b)).toArray 97)).heap[w.heap.size]? = some (.cells (wcells (x, b)).toArray 97 (0, 0))) := Lib.hid (row_new w _ _)
    have HT3 : Hid (Turns S w (w.alloc (.cells (wcells (x, b)).toArray 97))) := Lib.hid ((Turns.refl S w).alloc _)
    have he := eq_some60 bn
    clear h c0 c1 c2 c3 c4 c5 c6 h7 h8 h9
    generalize hw3 : w.alloc (.cells (wcells (x, b)).toArray 97) = w3 at *
    obtain ⟨_, _, _, k3, _, k5, k6⟩ := HR3.out.cells
    go_enter Tryd.func47, Tryd.ntmps47
    go_wp2
    clear hw3 he
    have kb : w3.cell? ⟨w.heap.size, 0, none⟩ = some (.int .i64 x) := block_cell HB3.out 0 _ rfl
    try simp only [Act.put]
    refine wp_region_quiet_tail 11 (by kernel_rfl) (by kernel_rfl) ?_
    simp only [List.take_succ_cons, List.take_zero, List.drop_succ_cons, List.drop_zero]
    repeat (first
      | go_big_quiet_skip
      | (go_big_quiet_want; go_big_quiet_op; go_big_quiet_on))
    refine wpQuiet_nil ?_
    refine wpList_put_at rfl (.tmp 24) (.tmp 26) (.tmp 31) 67 3 rfl Tryd.underlying67 (bn) T (vN gn) rfl HR3.out.m3 (by unfold maxLen; omega) x (.int .i64 (s.loose.length : Int)) rfl rfl hIx ?_
    intro w4 M4 T4
    clear kb k3 k5 k6
    have HN4 := Lib.hid (HR3.out.apart.1 (bn) (by simp))
    have HD4 : Hid (w4.heap[d]? = some (.cells (dcells s.off fused left (some (bs)) (some (bl)) (.slice A s.loose.length c) (some (bn))).toArray 69 (0, 0))) := Lib.hid ((T4.out.grown.block d (by have := HR3.out.row_lt; simpa using this) (fun e => HN4.out (by injection e with e; exact e.symm))).trans HR3.out.hd)
    go_wp2
    try simp only [Act.put]
    have HZ4 : Hid (w.heap.size < w4.heap.size ∧ w4.heap[w.heap.size]? = some (.cells (wcells (x, b)).toArray 97 (0, 0))) := Lib.hid (by
      have hb3 := HB3.out
      have hlt : w.heap.size < w3.heap.size := (Array.getElem?_eq_some_iff.1 hb3).1
      refine ⟨Nat.lt_of_lt_of_le hlt T4.out.grown.size, (T4.out.grown.block _ hlt (fun e => ?_)).trans hb3⟩
      injection e with e
      obtain ⟨es, c, h0⟩ := mapAt_block HR3.out.m3
      rw [← e, hb3] at h0
      cases h0)
    have HO4 : Hid (w4.ownsRow 0 97 129 (.slice A s.loose.length c) s.loose.length (s.loose.flatMap wcells)) := Lib.hid (row_kept HR3.out.row fun g hg => T4.out.grown.block g (HR3.out.row.lt g hg).2 (fun e => by
      injection e with e
      subst e
      rcases HR3.out.row.2 with ⟨e0, _⟩ | ⟨g', cap, cur, e0, _, hgg, _⟩
      · rw [e0] at hg; simp [Value.ownBlock] at hg
      · rw [e0] at hg
        simp [Value.ownBlock] at hg
        subst hg
        obtain ⟨es, c, h0⟩ := mapAt_block HR3.out.m3
        rw [hgg] at h0
        cases h0))
    have k5 : w4.cell? ⟨d, 5, none⟩ = some (.slice A s.loose.length c) := block_cell HD4.out 5 _ rfl
    have k5' : ((w4.drewN 1).alloc (.cells (wcells (x, b)).toArray 97)).cell? ⟨d, 5, none⟩ = some (.slice A s.loose.length c) := by
      rw [World.cell?_alloc_lt _ _ _ (show d < (w4.drewN 1).heap.size from World.block_lt_of_cell? w4 _ k5)]; exact k5
    have k5w : (w4.drewN 1).cell? ⟨d, 5, none⟩ = some (.slice A s.loose.length c) := k5
    have HQ4 : Hid ((w4.drewN 1).rangeAt w.heap.size 0 (wcells (x, b))) := Lib.hid (range_block (w := w4.drewN 1) HZ4.out.2 0 _ (fun j v hv => by rw [Nat.zero_add]; exact hv))
    have HI : Hid ((Tryd.prog.info? 97).map (·.size) = some (wcells (x, b)).length) := Lib.hid (by rw [wcells_length hb]; exact Tryd.size97)
    have HN5 : Hid ((Value.slice A s.loose.length c).ownBlock ≠ some d) := Lib.hid (fun e => HR3.out.apart.2 d e rfl)
    have HM : Hid (s.loose.length < 1000000000000) := Lib.hid (by have := HR3.out.many; omega)
    clear k5
    refine wp_region_any (by kernel_rfl) ?_
    change wpAny _ _ _ _ _ _ _ (w4.drewN 1)
    refine wpAny_take (i := 0) (oi := { dst := some 32, op := Op.move (Operand.tmp 0), type := 24, pos := "disk.go:162", after := #[], guard := none }) (v := .pointer (some ⟨d, 0, none⟩)) rfl (by kernel_rfl) (by kernel_rfl) (by kernel_rfl) (fun _ _ _ h => h) (Or.inl ⟨by kernel_rfl, fun W => by go_simp⟩) ?_
    simp only [Act.put, List.setIfInBounds_toArray, List.set_cons_zero, List.set_cons_succ]
    refine wpAny_take (i := 1) (oi := { dst := some 33, op := Op.move (Operand.tmp 0), type := 24, pos := "disk.go:162", after := #[], guard := none }) (v := .pointer (some ⟨d, 0, none⟩)) rfl (by kernel_rfl) (by kernel_rfl) (by kernel_rfl) (fun _ _ _ h => h) (Or.inl ⟨by kernel_rfl, fun W => by go_simp⟩) ?_
    simp only [Act.put, List.setIfInBounds_toArray, List.set_cons_zero, List.set_cons_succ]
    refine wpAny_take (i := 2) (oi := { dst := some 34, op := Op.nilCheck (Operand.tmp 33), type := 0, pos := "disk.go:162", after := #[{ on := 1, ground := Ground.data }], guard := none }) (v := .pointer (some ⟨d, 0, none⟩)) rfl (by kernel_rfl) (by kernel_rfl) (by kernel_rfl) (fun _ _ _ h => h) (Or.inl ⟨by kernel_rfl, fun W => by go_simp⟩) ?_
    simp only [Act.put, List.setIfInBounds_toArray, List.set_cons_zero, List.set_cons_succ]
    refine wpAny_take (i := 3) (oi := { dst := some 35, op := Op.fieldAddr 69 (Operand.tmp 34) 5, type := 0, pos := "disk.go:162", after := #[{ on := 2, ground := Ground.data }], guard := none }) (v := .pointer (some ⟨d, 5, none⟩)) rfl (by kernel_rfl) (by kernel_rfl) (by kernel_rfl) (fun _ _ _ h => h) (Or.inl ⟨by kernel_rfl, fun W => by go_simp⟩) ?_
    simp only [Act.put, List.setIfInBounds_toArray, List.set_cons_zero, List.set_cons_succ]
    refine wpAny_ready (rs := [4, 5]) (by kernel_rfl) (by simp) ?_
    refine (AllReady.cons (o := { dst := some 36, op := Op.load 66 (Operand.tmp 35), type := 66, pos := "disk.go:162", after := #[{ on := 3, ground := Ground.data }], guard := none }) rfl (fun K hK => ?_) (AllReady.cons (o := { dst := some 37, op := Op.load 97 (Operand.tmp 3), type := 97, pos := "disk.go:162", after := #[], guard := none }) rfl (fun K hK => ?_) AllReady.nil))
    · go_simp
      refine hK _ _ ?_
      clear hK K
      try simp only [Act.put, List.setIfInBounds_toArray, List.set_cons_zero, List.set_cons_succ]
      refine wpAny_ready (rs := [5]) (by kernel_rfl) (by simp) ?_
      refine (AllReady.cons (o := { dst := some 37, op := Op.load 97 (Operand.tmp 3), type := 97, pos := "disk.go:162", after := #[], guard := none }) rfl (fun K hK => ?_) AllReady.nil)
      refine step_load_cells rfl 97 (.tmp 3) rfl w.heap.size 0 rfl (wcells (x, b)) _ HQ4.out Tryd.underlying97 rfl HI.out ?_
      refine hK _ _ ?_
      clear hK K
      try simp only [Act.put, List.setIfInBounds_toArray, List.set_cons_zero, List.set_cons_succ]
      refine wpAny_ready (rs := [6]) (by kernel_rfl) (by simp) ?_
      refine (AllReady.cons (o := { dst := some 38, op := Op.buildSlice 66 1 #[(0, Operand.tmp 37)], type := 66, pos := "disk.go:162", after := #[{ on := 5, ground := Ground.data }], guard := none }) rfl (fun K hK => ?_) AllReady.nil)
      refine step_build59 rfl (.tmp 37) rfl (x, b) hb rfl ?_
      refine hK _ _ ?_
      clear hK K
      try simp only [Act.put, List.setIfInBounds_toArray, List.set_cons_zero, List.set_cons_succ]
      refine wpAny_ready (rs := [7]) (by kernel_rfl) (by simp) ?_
      refine (AllReady.cons (o := { dst := some 39, op := Op.call { callee := Callee.builtin Builtin.append, args := #[Operand.tmp 36, Operand.tmp 38], argTypes := #[66, 66] }, type := 66, pos := "disk.go:162", after := #[{ on := 4, ground := Ground.data }, { on := 6, ground := Ground.data }], guard := none }) rfl (fun K hK => ?_) AllReady.nil)
      refine step_append_w rfl (.tmp 36) (.tmp 38) rfl s.loose.length (.slice A s.loose.length c) (s.loose.flatMap wcells) (x, b) hb rfl rfl HO4.out HM.out ?_
      intro A' c' w5 M5 T5
      refine hK _ _ ?_
      clear hK K
      simp only [Act.put, List.setIfInBounds_toArray, List.set_cons_zero, List.set_cons_succ]
      have H5 : w5.heap[d]? = some (.cells (dcells s.off fused left (some (bs)) (some (bl)) (.slice A s.loose.length c) (some (bn))).toArray 69 (0, 0)) := (T5.out.1.block d (by have := HR3.out.row_lt; exact Nat.lt_of_lt_of_le this T4.out.grown.size) (fun e => HN5.out e.symm)).trans HD4.out
      refine wpAny_take (i := 8) (oi := { dst := some 40, op := Op.nilCheck (Operand.tmp 32), type := 0, pos := "disk.go:162", after := #[{ on := 0, ground := Ground.data }, { on := 0, ground := Ground.phase }, { on := 1, ground := Ground.phase }, { on := 2, ground := Ground.phase }, { on := 3, ground := Ground.phase }, { on := 4, ground := Ground.phase }, { on := 5, ground := Ground.phase }, { on := 6, ground := Ground.phase }, { on := 7, ground := Ground.phase }], guard := none }) (v := .pointer (some ⟨d, 0, none⟩)) rfl (by kernel_rfl) (by kernel_rfl) (by kernel_rfl) (fun _ _ _ h => h) (Or.inl ⟨by kernel_rfl, fun W => by go_simp⟩) ?_
      simp only [Act.put, List.setIfInBounds_toArray, List.set_cons_zero, List.set_cons_succ]
      refine wpAny_take (i := 9) (oi := { dst := some 41, op := Op.fieldAddr 69 (Operand.tmp 40) 5, type := 0, pos := "disk.go:162", after := #[{ on := 8, ground := Ground.data }, { on := 0, ground := Ground.phase }, { on := 1, ground := Ground.phase }, { on := 2, ground := Ground.phase }, { on := 3, ground := Ground.phase }, { on := 4, ground := Ground.phase }, { on := 5, ground := Ground.phase }, { on := 6, ground := Ground.phase }, { on := 7, ground := Ground.phase }], guard := none }) (v := .pointer (some ⟨d, 5, none⟩)) rfl (by kernel_rfl) (by kernel_rfl) (by kernel_rfl) (fun _ _ _ h => h) (Or.inl ⟨by kernel_rfl, fun W => by go_simp⟩) ?_
      simp only [Act.put, List.setIfInBounds_toArray, List.set_cons_zero, List.set_cons_succ]
      refine wpAny_ready (rs := [10]) (by kernel_rfl) (by simp) ?_
      refine (AllReady.cons (o := { dst := none, op := Op.store 66 (Operand.tmp 41) (Operand.tmp 39), type := 0, pos := "disk.go:162", after := #[{ on := 9, ground := Ground.data }, { on := 7, ground := Ground.data }, { on := 7, ground := Ground.chain }, { on := 0, ground := Ground.phase }, { on := 1, ground := Ground.phase }, { on := 2, ground := Ground.phase }, { on := 3, ground := Ground.phase }, { on := 4, ground := Ground.phase }, { on := 5, ground := Ground.phase }, { on := 6, ground := Ground.phase }, { on := 7, ground := Ground.phase }], guard := none }) rfl (fun K hK => ?_) AllReady.nil)
      refine step_store_at rfl 66 (.tmp 41) (.tmp 39) rfl d 5 (dcells s.off fused left (some (bs)) (some (bl)) (.slice A s.loose.length c) (some (bn))) 69 H5 (show 5 < 7 by omega) (.slice A' (s.loose.length + 1) c') rfl rfl rfl rfl Tryd.size66 ?_
      intro w6 G6
      refine hK _ _ ?_
      clear hK K
      refine wpAny_done (by kernel_rfl) ?_ _
      go_wp2
      exact bodyPost_end (results_none rfl _ _ _) rfl ⟨rfl, loosen_end (w3 := w3) (w4 := w4) (w5 := w5) HT3.out HR3.out hx hb M4.out (gb_drew T4.out.grown) M5.out ⟨gb_drew T5.out.1, T5.out.2⟩ G6.out⟩
    · refine step_load_cells rfl 97 (.tmp 3) rfl w.heap.size 0 rfl (wcells (x, b)) _ HQ4.out Tryd.underlying97 rfl HI.out ?_
      refine hK _ _ ?_
      clear hK K
      try simp only [Act.put, List.setIfInBounds_toArray, List.set_cons_zero, List.set_cons_succ]
      refine wpAny_ready (rs := [4, 6]) (by kernel_rfl) (by simp) ?_
      refine (AllReady.cons (o := { dst := some 36, op := Op.load 66 (Operand.tmp 35), type := 66, pos := "disk.go:162", after := #[{ on := 3, ground := Ground.data }], guard := none }) rfl (fun K hK => ?_) (AllReady.cons (o := { dst := some 38, op := Op.buildSlice 66 1 #[(0, Operand.tmp 37)], type := 66, pos := "disk.go:162", after := #[{ on := 5, ground := Ground.data }], guard := none }) rfl (fun K hK => ?_) AllReady.nil))
      · go_simp
        refine hK _ _ ?_
        clear hK K
        try simp only [Act.put, List.setIfInBounds_toArray, List.set_cons_zero, List.set_cons_succ]
        refine wpAny_ready (rs := [6]) (by kernel_rfl) (by simp) ?_
        refine (AllReady.cons (o := { dst := some 38, op := Op.buildSlice 66 1 #[(0, Operand.tmp 37)], type := 66, pos := "disk.go:162", after := #[{ on := 5, ground := Ground.data }], guard := none }) rfl (fun K hK => ?_) AllReady.nil)
        refine step_build59 rfl (.tmp 37) rfl (x, b) hb rfl ?_
        refine hK _ _ ?_
        clear hK K
        try simp only [Act.put, List.setIfInBounds_toArray, List.set_cons_zero, List.set_cons_succ]
        refine wpAny_ready (rs := [7]) (by kernel_rfl) (by simp) ?_
        refine (AllReady.cons (o := { dst := some 39, op := Op.call { callee := Callee.builtin Builtin.append, args := #[Operand.tmp 36, Operand.tmp 38], argTypes := #[66, 66] }, type := 66, pos := "disk.go:162", after := #[{ on := 4, ground := Ground.data }, { on := 6, ground := Ground.data }], guard := none }) rfl (fun K hK => ?_) AllReady.nil)
        refine step_append_w rfl (.tmp 36) (.tmp 38) rfl s.loose.length (.slice A s.loose.length c) (s.loose.flatMap wcells) (x, b) hb rfl rfl HO4.out HM.out ?_
        intro A' c' w5 M5 T5
        refine hK _ _ ?_
        clear hK K
        simp only [Act.put, List.setIfInBounds_toArray, List.set_cons_zero, List.set_cons_succ]
        have H5 : w5.heap[d]? = some (.cells (dcells s.off fused left (some (bs)) (some (bl)) (.slice A s.loose.length c) (some (bn))).toArray 69 (0, 0)) := (T5.out.1.block d (by have := HR3.out.row_lt; exact Nat.lt_of_lt_of_le this T4.out.grown.size) (fun e => HN5.out e.symm)).trans HD4.out
        refine wpAny_take (i := 8) (oi := { dst := some 40, op := Op.nilCheck (Operand.tmp 32), type := 0, pos := "disk.go:162", after := #[{ on := 0, ground := Ground.data }, { on := 0, ground := Ground.phase }, { on := 1, ground := Ground.phase }, { on := 2, ground := Ground.phase }, { on := 3, ground := Ground.phase }, { on := 4, ground := Ground.phase }, { on := 5, ground := Ground.phase }, { on := 6, ground := Ground.phase }, { on := 7, ground := Ground.phase }], guard := none }) (v := .pointer (some ⟨d, 0, none⟩)) rfl (by kernel_rfl) (by kernel_rfl) (by kernel_rfl) (fun _ _ _ h => h) (Or.inl ⟨by kernel_rfl, fun W => by go_simp⟩) ?_
        simp only [Act.put, List.setIfInBounds_toArray, List.set_cons_zero, List.set_cons_succ]
        refine wpAny_take (i := 9) (oi := { dst := some 41, op := Op.fieldAddr 69 (Operand.tmp 40) 5, type := 0, pos := "disk.go:162", after := #[{ on := 8, ground := Ground.data }, { on := 0, ground := Ground.phase }, { on := 1, ground := Ground.phase }, { on := 2, ground := Ground.phase }, { on := 3, ground := Ground.phase }, { on := 4, ground := Ground.phase }, { on := 5, ground := Ground.phase }, { on := 6, ground := Ground.phase }, { on := 7, ground := Ground.phase }], guard := none }) (v := .pointer (some ⟨d, 5, none⟩)) rfl (by kernel_rfl) (by kernel_rfl) (by kernel_rfl) (fun _ _ _ h => h) (Or.inl ⟨by kernel_rfl, fun W => by go_simp⟩) ?_
        simp only [Act.put, List.setIfInBounds_toArray, List.set_cons_zero, List.set_cons_succ]
        refine wpAny_ready (rs := [10]) (by kernel_rfl) (by simp) ?_
        refine (AllReady.cons (o := { dst := none, op := Op.store 66 (Operand.tmp 41) (Operand.tmp 39), type := 0, pos := "disk.go:162", after := #[{ on := 9, ground := Ground.data }, { on := 7, ground := Ground.data }, { on := 7, ground := Ground.chain }, { on := 0, ground := Ground.phase }, { on := 1, ground := Ground.phase }, { on := 2, ground := Ground.phase }, { on := 3, ground := Ground.phase }, { on := 4, ground := Ground.phase }, { on := 5, ground := Ground.phase }, { on := 6, ground := Ground.phase }, { on := 7, ground := Ground.phase }], guard := none }) rfl (fun K hK => ?_) AllReady.nil)
        refine step_store_at rfl 66 (.tmp 41) (.tmp 39) rfl d 5 (dcells s.off fused left (some (bs)) (some (bl)) (.slice A s.loose.length c) (some (bn))) 69 H5 (show 5 < 7 by omega) (.slice A' (s.loose.length + 1) c') rfl rfl rfl rfl Tryd.size66 ?_
        intro w6 G6
        refine hK _ _ ?_
        clear hK K
        refine wpAny_done (by kernel_rfl) ?_ _
        go_wp2
        exact bodyPost_end (results_none rfl _ _ _) rfl ⟨rfl, loosen_end (w3 := w3) (w4 := w4) (w5 := w5) HT3.out HR3.out hx hb M4.out (gb_drew T4.out.grown) M5.out ⟨gb_drew T5.out.1, T5.out.2⟩ G6.out⟩
      · refine step_build59 rfl (.tmp 37) rfl (x, b) hb rfl ?_
        refine hK _ _ ?_
        clear hK K
        try simp only [Act.put, List.setIfInBounds_toArray, List.set_cons_zero, List.set_cons_succ]
        refine wpAny_ready (rs := [4]) (by kernel_rfl) (by simp) ?_
        refine (AllReady.cons (o := { dst := some 36, op := Op.load 66 (Operand.tmp 35), type := 66, pos := "disk.go:162", after := #[{ on := 3, ground := Ground.data }], guard := none }) rfl (fun K hK => ?_) AllReady.nil)
        go_simp
        refine hK _ _ ?_
        clear hK K
        try simp only [Act.put, List.setIfInBounds_toArray, List.set_cons_zero, List.set_cons_succ]
        refine wpAny_ready (rs := [7]) (by kernel_rfl) (by simp) ?_
        refine (AllReady.cons (o := { dst := some 39, op := Op.call { callee := Callee.builtin Builtin.append, args := #[Operand.tmp 36, Operand.tmp 38], argTypes := #[66, 66] }, type := 66, pos := "disk.go:162", after := #[{ on := 4, ground := Ground.data }, { on := 6, ground := Ground.data }], guard := none }) rfl (fun K hK => ?_) AllReady.nil)
        refine step_append_w rfl (.tmp 36) (.tmp 38) rfl s.loose.length (.slice A s.loose.length c) (s.loose.flatMap wcells) (x, b) hb rfl rfl HO4.out HM.out ?_
        intro A' c' w5 M5 T5
        refine hK _ _ ?_
        clear hK K
        simp only [Act.put, List.setIfInBounds_toArray, List.set_cons_zero, List.set_cons_succ]
        have H5 : w5.heap[d]? = some (.cells (dcells s.off fused left (some (bs)) (some (bl)) (.slice A s.loose.length c) (some (bn))).toArray 69 (0, 0)) := (T5.out.1.block d (by have := HR3.out.row_lt; exact Nat.lt_of_lt_of_le this T4.out.grown.size) (fun e => HN5.out e.symm)).trans HD4.out
        refine wpAny_take (i := 8) (oi := { dst := some 40, op := Op.nilCheck (Operand.tmp 32), type := 0, pos := "disk.go:162", after := #[{ on := 0, ground := Ground.data }, { on := 0, ground := Ground.phase }, { on := 1, ground := Ground.phase }, { on := 2, ground := Ground.phase }, { on := 3, ground := Ground.phase }, { on := 4, ground := Ground.phase }, { on := 5, ground := Ground.phase }, { on := 6, ground := Ground.phase }, { on := 7, ground := Ground.phase }], guard := none }) (v := .pointer (some ⟨d, 0, none⟩)) rfl (by kernel_rfl) (by kernel_rfl) (by kernel_rfl) (fun _ _ _ h => h) (Or.inl ⟨by kernel_rfl, fun W => by go_simp⟩) ?_
        simp only [Act.put, List.setIfInBounds_toArray, List.set_cons_zero, List.set_cons_succ]
        refine wpAny_take (i := 9) (oi := { dst := some 41, op := Op.fieldAddr 69 (Operand.tmp 40) 5, type := 0, pos := "disk.go:162", after := #[{ on := 8, ground := Ground.data }, { on := 0, ground := Ground.phase }, { on := 1, ground := Ground.phase }, { on := 2, ground := Ground.phase }, { on := 3, ground := Ground.phase }, { on := 4, ground := Ground.phase }, { on := 5, ground := Ground.phase }, { on := 6, ground := Ground.phase }, { on := 7, ground := Ground.phase }], guard := none }) (v := .pointer (some ⟨d, 5, none⟩)) rfl (by kernel_rfl) (by kernel_rfl) (by kernel_rfl) (fun _ _ _ h => h) (Or.inl ⟨by kernel_rfl, fun W => by go_simp⟩) ?_
        simp only [Act.put, List.setIfInBounds_toArray, List.set_cons_zero, List.set_cons_succ]
        refine wpAny_ready (rs := [10]) (by kernel_rfl) (by simp) ?_
        refine (AllReady.cons (o := { dst := none, op := Op.store 66 (Operand.tmp 41) (Operand.tmp 39), type := 0, pos := "disk.go:162", after := #[{ on := 9, ground := Ground.data }, { on := 7, ground := Ground.data }, { on := 7, ground := Ground.chain }, { on := 0, ground := Ground.phase }, { on := 1, ground := Ground.phase }, { on := 2, ground := Ground.phase }, { on := 3, ground := Ground.phase }, { on := 4, ground := Ground.phase }, { on := 5, ground := Ground.phase }, { on := 6, ground := Ground.phase }, { on := 7, ground := Ground.phase }], guard := none }) rfl (fun K hK => ?_) AllReady.nil)
        refine step_store_at rfl 66 (.tmp 41) (.tmp 39) rfl d 5 (dcells s.off fused left (some (bs)) (some (bl)) (.slice A s.loose.length c) (some (bn))) 69 H5 (show 5 < 7 by omega) (.slice A' (s.loose.length + 1) c') rfl rfl rfl rfl Tryd.size66 ?_
        intro w6 G6
        refine hK _ _ ?_
        clear hK K
        refine wpAny_done (by kernel_rfl) ?_ _
        go_wp2
        exact bodyPost_end (results_none rfl _ _ _) rfl ⟨rfl, loosen_end (w3 := w3) (w4 := w4) (w5 := w5) HT3.out HR3.out hx hb M4.out (gb_drew T4.out.grown) M5.out ⟨gb_drew T5.out.1, T5.out.2⟩ G6.out⟩

theorem DiskIs.more {w : World} {S : Nat → Prop} {d T T' : Nat} {s : Dk} (h : DiskIs w S d T s) (hT : T ≤ T') : DiskIs w S d T' s := by
  obtain ⟨fused, left, ms, ml, mn, L, gs, gl, gn, h⟩ := h
  refine ⟨fused, left, ms, ml, mn, L, gs, gl, gn, h.hd, h.fuse, h.left, ?_, Nat.le_trans h.many hT, h.row, h.sure, h.newest, h.len, h.glen, h.own, h.lt⟩
  rcases h.maps with h0 | ⟨bs, bl, bn, h1, h2, h3, h4, h5, h6, h7, h8, h9⟩
  · exact .inl h0
  · exact .inr ⟨bs, bl, bn, h1, h2, h3, h4, h5, h6, mapAt_mono h7 (by omega), mapAt_mono h8 (by omega), mapAt_mono h9 hT⟩
theorem DiskIs.alloc {w : World} {S : Nat → Prop} {d T : Nat} {s : Dk} (h : DiskIs w S d T s) (o : Obj) : DiskIs (w.alloc o) S d T s := h.turns ((Turns.refl (fun _ => False) w).alloc o) (fun _ _ h => h)

theorem refuses_zero {s : Dk} {x : Int} (h : s.refuses x = 0) : s.off = false ∧ 0 ≤ x ∧ x < 32768 := by
  unfold Dk.refuses at h
  cases ho : s.off <;> rw [ho] at h
  · refine ⟨rfl, ?_⟩
    simp only [Bool.false_eq_true, if_false] at h
    split at h <;> omega
  · simp at h

theorem wpList_build66 {w : World} {ops : Array Oper} {rest : List Oper} {o : Oper} {a : Act} {Q : Exit → Act → World → Prop} (hgd : o.guard = none) (x y : Operand) (ho : o.op = .build 97 #[(0, x), (1, y)]) (v : Int) (b : List UInt8) (hb : b.length = 128)
    (hx : a.eval x = .int .i64 v) (hy : a.eval y = .agg (u8s b).toArray) (h : wpList Tryd.prog ops Q rest (a.put o.dst (.agg (wcells (v, b)).toArray)) w) : wpList Tryd.prog ops Q (o :: rest) a w := by
  refine wpList_plain hgd fun K hK => ?_
  unfold Oper.wp execOp
  simp only [ho, List.map_toArray, List.map_cons, List.map_nil, hx, hy, Sem.run_bind, build66 v b hb w, Result.andThen_ok]
  exact hK _ _ h
theorem write_any {w : World} {S : Nat → Prop} {d T : Nat} {s : Dk} (h : DiskIs w S d T s) (x : Int) (b : List UInt8) (hb : b.length = 128) (hT : T < 1000000000) :
    Calls Tryd.prog 24 #[.pointer (some ⟨d, 0, none⟩), .int .i64 x, .agg (u8s b).toArray] w fun E w' => E = .returned (.int .i64 (s.write x b).2) ∧ ∃ S', DiskIs w' S' d (T + 1) (s.write x b).1 ∧ Own w S w' S' := by
  have HA := Lib.hid (h.alloc (.cells (u8s b).toArray 61))
  have HR := Lib.hid (refuses_any HA.out x)
  have HB := Lib.hid hb
  unfold Dk.write
  clear h
  by_cases he : s.refuses x ≠ 0
  · rw [if_pos he]
    generalize s.refuses x = e at he HR ⊢
    have he' : (e == 0) = false := by simpa using he
    go_enter Tryd.func24, Tryd.ntmps24
    go_wp2_with (first | (go_at_call 46; refine HR.out.mono ?_; rintro E w1 ⟨rfl, rfl⟩))
    go_ret
    exact ⟨rfl, S, HA.out.more (Nat.le_succ _), Own.same ((Turns.refl _ _).alloc _)⟩
  · have he0 : s.refuses x = 0 := by simpa using he
    have hr := refuses_zero he0
    rw [if_neg he]
    rw [he0] at HR
    have HL := Lib.hid (loosen_any HA.out x b hr.2 hb hT)
    obtain ⟨s', hs'⟩ : ∃ s' : Dk, s' = { s with loose := s.loose ++ [(x, b)] } := ⟨_, rfl⟩
    rw [← hs'] at HL ⊢
    have HI : Hid ((Tryd.prog.info? 61).map (·.size) = some (u8s b).length) := Lib.hid (by rw [u8s_length, hb]; exact Tryd.size61)
    have HG : Hid ((w.alloc (.cells (u8s b).toArray 61)).rangeAt w.heap.size 0 (u8s b)) := Lib.hid (range_block (row_new w (u8s b) 61) 0 _ (fun j v hv => by rw [Nat.zero_add]; exact hv))
    clear hr he he0 hs' hb
    go_enter Tryd.func24, Tryd.ntmps24
    go_wp2_with (first
      | (go_at_call 46; refine HR.out.mono ?_; rintro E w1 ⟨rfl, rfl⟩)
      | (refine wpList_load_mid rfl 61 (.tmp 5) rfl w.heap.size 0 rfl (u8s b) _ HG.out Tryd.underlying61 rfl HI.out ?_)
      | (refine wpList_build66 rfl (.tmp 15) (.tmp 16) rfl x b HB.out rfl rfl ?_)
      | (go_at_call 47; refine HL.out.mono ?_; rintro E w2 ⟨rfl, S2, h2, o2⟩; have H2 := Lib.hid h2; have O2 := Lib.hid o2; clear h2 o2)
      | (go_at_call 48; refine (burn_any H2.out).mono ?_; rintro E w3 ⟨rfl, h3, t3⟩))
    go_ret
    exact ⟨rfl, S2, h3, (Own.same ((Turns.refl S w).alloc _)).trans (O2.out.trans (Own.same t3))⟩
end Go.Proofs.YtepjfkmbmcfnoaaDoor
