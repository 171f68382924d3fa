/-
  What is proved: when two that were answered last are the same; a row of one request; what lies beside in memory. Conditions as stated.
-/
import Derived.Test.YtflenghnmflenaaDoorSg
import Derived.Test.YtflenghnmflenaaDoorSf
import Derived.Test.YtflenghnmflenaaDoorMa
import Derived.Great.BuildSlice
namespace Go.Proofs.YtflenghnmflenaaDoor
open Go.RowKit
set_option maxRecDepth 100000

theorem eq_lrp_of {d : Nat} (p q : Lrp) {b : Bool} (hb : b = true ↔ p = q) (w : World) : (Op.equalIn (d + 2) 32 (.agg (lrC p).toArray) (.agg (lrC q).toArray)).run Tryd.prog w = .ok b w := by
  rw [run_equalIn_struct w (d + 1) 32 _ _ (struct_of Tryd.underlying32) (by kernel_rfl), fields_of Tryd.underlying32]
  refine Eq.trans (eqF_cons rfl (run_part_cell Tryd.underlying27 rfl rfl w) (run_part_cell Tryd.underlying27 rfl rfl w) (eq_int_of Tryd.underlying27 w)
    (eqF_cons rfl (run_part_cell Tryd.underlying9 rfl rfl w) (run_part_cell Tryd.underlying9 rfl rfl w) (eq_str_of w) eqF_nil)) ?_
  congr 1
  rw [Bool.eq_iff_iff, hb]
  simp only [Bool.and_eq_true, beq_iff_eq, decide_eq_true_eq, and_true, Prod.ext_iff]
theorem eq_lst_of {d : Nat} (p q : Lst) {b : Bool} (hb : b = true ↔ p = q) (w : World) : (Op.equalIn (d + 3) 34 (.agg (lsC p).toArray) (.agg (lsC q).toArray)).run Tryd.prog w = .ok b w := by
  rw [run_equalIn_struct w (d + 2) 34 _ _ (struct_of Tryd.underlying34) (by kernel_rfl), fields_of Tryd.underlying34]
  refine Eq.trans (eqF_cons rfl (run_part_cell Tryd.underlying30 rfl rfl w) (run_part_cell Tryd.underlying30 rfl rfl w) (eq_int_of Tryd.underlying30 w)
    (eqF_cons rfl (run_part_agg (ys := lrC p.2) Tryd.underlying32 rfl Tryd.is32 rfl w) (run_part_agg (ys := lrC q.2) Tryd.underlying32 rfl Tryd.is32 rfl w) (eq_lrp_of p.2 q.2 (b := decide (p.2 = q.2)) (by simp) w) eqF_nil)) ?_
  congr 1
  rw [Bool.eq_iff_iff, hb]
  simp only [Bool.and_eq_true, beq_iff_eq, decide_eq_true_eq, and_true, Int.ofNat_inj, Prod.ext_iff]
theorem Tryd.guard34 : Tryd.prog.eqGuardType Tryd.prog.depth 34 = false := by kernel_rfl

/-! ### a row of one request -/
theorem fill_mid (p a c : List Value) (vs : List Value) (h : a.length = vs.length) :
    ((Value.agg vs.toArray).cells.zipIdx.foldl (fun cs (x : Value × Nat) => cs.setIfInBounds (p.length + x.2) x.1) (p ++ (a ++ c)).toArray) = (p ++ (vs ++ c)).toArray := by
  have e : (Value.agg vs.toArray).cells = vs.toArray := rfl
  rw [e]
  have e2 : (vs.toArray.zipIdx.foldl (fun cs (x : Value × Nat) => cs.setIfInBounds (p.length + x.2) x.1) (p ++ (a ++ c)).toArray) = ((vs.zipIdx 0).foldl (fun cs (x : Value × Nat) => cs.setIfInBounds (p.length + x.2) x.1) (p ++ (a ++ c)).toArray) := by simp
  rw [e2]
  obtain ⟨_, h2⟩ := Great.foldl_set p.length vs 0 (p ++ (a ++ c)).toArray
  apply Array.ext_getElem?
  intro k
  rw [h2 k]
  simp only [List.getElem?_toArray, List.size_toArray, List.length_append, Nat.add_zero]
  by_cases h3 : p.length ≤ k
  · rw [List.getElem?_append_right h3, List.getElem?_append_right h3]
    by_cases h4 : k - p.length < vs.length
    · rw [if_pos (by omega), List.getElem?_append_left h4]
    · rw [if_neg (by omega), List.getElem?_append_right (by omega), List.getElem?_append_right (by omega), h]
  · rw [if_neg (by omega), List.getElem?_append_left (by omega), List.getElem?_append_left (by omega)]
theorem fill_cons (place : Nat → Option (Nat × Nat)) (cells : Array Value) (i : Nat) (v : Value) (rest : List (Nat × Value)) (off size : Nat) (hp : place i = some (off, size)) (hs : v.cells.size = size) (hle : off + v.cells.size ≤ cells.size) :
    Instr.fill place cells ((i, v) :: rest) = Instr.fill place (v.cells.zipIdx.foldl (fun cs (x : Value × Nat) => cs.setIfInBounds (off + x.2) x.1) cells) rest := by
  rw [Instr.fill, hp]
  simp only
  rw [if_neg (by simp only [hs]; rw [hs] at hle; simp; omega)]
theorem Tryd.info52 : (Tryd.prog.info? 52).map (fun i => (i.zero, i.size, i.bytes)) = some (some (.agg (rqC zQ).toArray), 40, 128) := by kernel_rfl
theorem build_one (q : MRq) (ht : q.tag.length = 32) (w : World) : (Instr.buildSlice 23 1 #[(0, .agg (rqC q).toArray)]).run Tryd.prog w = .ok (.slice (some ⟨w.heap.size, 0, none⟩) 1 1) (w.alloc (.cells (rqC q).toArray 52)) := by
  obtain ⟨i0, hi, hz0, hz1, _⟩ := info_parts Tryd.info52
  have hl : (rqC q).length = 40 := by rw [rqC_length, ht]
  refine run_buildSlice w 23 52 1 _ _ i0 _ Tryd.underlying23 hi hz0 (by rw [hz1]; decide) (by rw [hz1]; decide) ?_
  rw [hz1]
  generalize hA : (Array.range (1 * 40)).map (fun x => (Value.agg (rqC zQ).toArray).cells[x % (Value.agg (rqC zQ).toArray).cells.size]!) = A
  have hAs : A.toList.length = 40 := by rw [← hA]; simp
  have hAs' : A.size = 40 := by simpa using hAs
  have m1 := fill_mid [] A.toList [] (rqC q) (by rw [hAs, hl])
  have e1 : (Value.agg (rqC q).toArray).cells.size = 40 := by show (rqC q).toArray.size = 40; simpa using hl
  rw [fill_cons _ _ 0 _ _ 0 40 rfl e1 (by rw [e1]; omega)]
  simp only [List.length_nil, List.nil_append, List.append_nil] at m1
  rw [show A = A.toList.toArray by simp, m1]
  rfl
theorem rqs_one {W : World} {b : Nat} {q : MRq} {ty : TypeId} (h : W.heap[b]? = some (.cells (rqC q).toArray ty (0, 0))) (ht : q.tag.length = 32) (hn : q.time < 18446744073709551616 ∧ q.op.amount < 18446744073709551616 ∧ (Lit.int .i64 q.client).wf = true) : Rqs W (some ⟨b, 0, none⟩) [q] :=
  ⟨fun _ => ⟨b, 0, rfl, (Array.getElem?_eq_some_iff.1 h).1, fun j p hp k v hv => by
    match j, hp with
    | 0, hp =>
      obtain rfl : q = p := by simpa using hp
      simp only [Nat.zero_mul, Nat.zero_add]
      exact block_cell h k v hv
    | j + 1, hp => simp at hp⟩, fun p hp => by rw [List.mem_singleton.1 hp]; exact ht, fun p hp => by rw [List.mem_singleton.1 hp]; exact hn⟩

/-! ### beside -/
/-- What was there stays, and so do these new blocks, which are not the same. -/
structure Kp (w : World) (bs : List Kept) (W : World) : Prop where
  bel : Below w.heap.size w W
  keep : ∀ p ∈ bs, W.heap[p.1]? = some (.cells p.2.1 p.2.2 (0, 0)) ∧ w.heap.size ≤ p.1
  nd : (bs.map Prod.fst).Nodup
theorem Kp.below {w W W' : World} {bs : List Kept} (H : Kp w bs W) (hb : Below W.heap.size W W') : Kp w bs W' :=
  ⟨H.bel.trans (hb.mono H.bel.size), fun p hp => ⟨(hb.block _ (Array.getElem?_eq_some_iff.1 (H.keep p hp).1).1).trans (H.keep p hp).1, (H.keep p hp).2⟩, H.nd⟩
theorem Kp.drewN {w W : World} {bs : List Kept} (H : Kp w bs W) (k : Nat) : Kp w bs (W.drewN k) := H.below (below_drewN (Below.refl _ _) k)
theorem Kp.start (w : World) : Kp w [] w := ⟨Below.refl _ _, fun p hp => (by cases hp), List.nodup_nil⟩
theorem Kp.box {w W : World} {bs : List Kept} (H : Kp w bs W) (C : Array Value) (ty : TypeId) : Kp w ((W.heap.size, C, ty) :: bs) (W.alloc (.cells C ty)) := by
  have H' := H.below ((Below.refl _ _).alloc (Nat.le_refl _) (.cells C ty))
  refine ⟨H'.bel, fun p hp => ?_, List.nodup_cons.2 ⟨fun hm => ?_, H.nd⟩⟩
  · rcases List.mem_cons.1 hp with rfl | hp
    · exact ⟨heap_alloc_new W _, H.bel.size⟩
    · exact H'.keep p hp
  · obtain ⟨p, hp, e⟩ := List.mem_map.1 hm
    have := (Array.getElem?_eq_some_iff.1 (H.keep p hp).1).1
    dsimp only at e
    omega
theorem Kp.at {w W : World} {bs : List Kept} (H : Kp w bs W) (i : Nat) {b : Nat} {C : Array Value} {ty : TypeId} (hi : bs[i]? = some (b, C, ty)) : W.heap[b]? = some (.cells C ty (0, 0)) ∧ w.heap.size ≤ b := H.keep _ (List.mem_of_getElem? hi)
theorem Kp.turn {w W W' : World} {bs : List Kept} (H : Kp w bs W) (i : Nat) {b : Nat} {C D : Array Value} {ty : TypeId} (hi : bs[i]? = some (b, C, ty)) (hh : W'.heap[b]? = some (.cells D ty (0, 0))) (hg : W.grownBy W' (some b)) : Kp w (bs.set i (b, D, ty)) W' := by
  obtain ⟨h1, h2⟩ := H.at i hi
  have hil := (List.getElem?_eq_some_iff.1 hi).1
  have hnd : ∀ (a c : Nat) (p q : Kept), bs[a]? = some p → bs[c]? = some q → a < c → p.1 ≠ q.1 := fun a c p q ha hc hac => by
    have ha' : (bs.map Prod.fst)[a]? = some p.1 := by rw [List.getElem?_map, ha]; rfl
    have hc' : (bs.map Prod.fst)[c]? = some q.1 := by rw [List.getElem?_map, hc]; rfl
    obtain ⟨x1, e1⟩ := List.getElem?_eq_some_iff.1 ha'
    obtain ⟨x2, e2⟩ := List.getElem?_eq_some_iff.1 hc'
    have := List.pairwise_iff_getElem.1 H.nd a c x1 x2 hac
    rwa [e1, e2] at this
  refine ⟨H.bel.grown hg H.bel.size (fun k hk => by injection hk with hk; omega), fun p hp => ?_, ?_⟩
  · obtain ⟨j, hj⟩ := List.mem_iff_getElem?.1 hp
    by_cases e : i = j
    · subst e
      rw [List.getElem?_set_self hil] at hj
      obtain rfl := Option.some.inj hj
      exact ⟨hh, h2⟩
    · rw [List.getElem?_set_ne e] at hj
      obtain ⟨k1, k2⟩ := H.keep p (List.mem_of_getElem? hj)
      have hne : p.1 ≠ b := by
        rcases Nat.lt_or_gt_of_ne e with h | h
        · exact fun e => hnd i j _ p hi hj h e.symm
        · exact hnd j i p _ hj hi h
      exact ⟨(hg.block _ (Array.getElem?_eq_some_iff.1 k1).1 (fun e => hne (by cases e; rfl))).trans k1, k2⟩
  · rw [List.map_set]
    have : (bs.map Prod.fst).set i b = bs.map Prod.fst := by
      have : (bs.map Prod.fst)[i]? = some b := by rw [List.getElem?_map, hi]; rfl
      obtain ⟨x, e⟩ := List.getElem?_eq_some_iff.1 this
      conv => lhs; rw [← e]
      exact List.set_getElem_self x
    rw [this]
    exact H.nd
/-- A pair of cells anew. -/
theorem Kp.two {w W : World} {bs : List Kept} (H : Kp w bs W) (i : Nat) {b : Nat} {x y : Value} {ty : TypeId} (hi : bs[i]? = some (b, #[x, y], ty)) (x' y' : Value) : Kp w (bs.set i (b, #[x', y'], ty)) (W.setCells b 0 [x', y']) :=
  H.turn i hi (pair_store (a := x) (b := y) (H.at i hi).1 x' y') (gb_setCells b [x', y'] 0 W)
theorem Kp.cell {w W : World} {bs : List Kept} (H : Kp w bs W) (i : Nat) {b : Nat} {C : Array Value} {ty : TypeId} (hi : bs[i]? = some (b, C, ty)) (k : Nat) (v : Value) (hv : C[k]? = some v) : W.cell? ⟨b, k, none⟩ = some v :=
  block_cell (C := C.toList) (t := ty) (H.at i hi).1 k v (by simpa using hv)
end Go.Proofs.YtflenghnmflenaaDoor
