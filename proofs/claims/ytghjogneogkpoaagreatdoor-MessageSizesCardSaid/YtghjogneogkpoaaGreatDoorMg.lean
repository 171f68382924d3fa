/-
  What is proved: what lies in memory while a body's own one is made. Conditions as stated.
-/
import Derived.Test.YtghjogneogkpoaaGreatDoorMf
namespace Go.Proofs.YtghjogneogkpoaaGreatDoor.Sh
open Go.RowKit
set_option maxRecDepth 100000


theorem exec_load_mid {P : Program} {o : Oper} {f : Operand → Value} {w : World} (ty : TypeId) (x : Operand) (ho : o.op = .load ty x) (b off : Nat) (hx : f x = .pointer (some ⟨b, off, none⟩)) (cs : List Value) (d : TypeDesc)
    (hc : w.rangeAt b off cs) (hu : P.underlying ty = some d) (hd : d.isRow = true) (hi : (P.info? ty).map (·.size) = some cs.length) : (execOp f o).run P w = .ok (.value (.agg cs.toArray)) w := by
  unfold execOp
  simp only [ho, hx, Instr.loadAt, Instr.sureAddr, Sem.run_bind, Sem.run_pure, Result.andThen_ok, run_loadVar_mid w b off ty cs d hc hu hd hi]
theorem there_block {w : World} {g : Nat} {C : List Value} {t : TypeId} (h : w.heap[g]? = some (.cells C.toArray t (0, 0))) (o n : Nat) (hn : o + n ≤ C.length) : w.there g o n := fun j hj => by
  have hc : (C[o + j]?).isSome = true := by simp; omega
  obtain ⟨v, hv⟩ := Option.isSome_iff_exists.1 hc
  exact ⟨by rw [cell_of_row _ _ (o + j) C.toArray t (0, 0) h]; simpa using (by omega : o + j < C.length), free_block h _⟩
/-- A part of a block's cells anew: no other block has turned. -/
theorem wpList_store_part {P : Program} {ops : Array Oper} {rest : List Oper} {op : Oper} {a : Act} {w : World} {Q : Exit → Act → World → Prop} (hgd : op.guard = none) (ty : TypeId) (x y : Operand) (ho : op.op = .store ty x y)
    (g o : Nat) (C D cs : List Value) (t : TypeId) (hC : w.heap[g]? = some (.cells C.toArray t (0, 0))) (hl : o + cs.length ≤ C.length) (hD : setAll C o cs = D) (hx : a.eval x = .pointer (some ⟨g, o, none⟩)) (hy : a.eval y = .agg cs.toArray)
    (hi : (P.info? ty).map (·.size) = some cs.length) (h1 : ∀ v ∈ cs, v.oneCell' = true)
    (h : ∀ w', Hid (w'.heap[g]? = some (.cells D.toArray t (0, 0)) ∧ w.grownBy w' (some g)) → wpList P ops Q rest (a.put op.dst undef) w') : wpList P ops Q (op :: rest) a w := by
  refine wpList_store_cells hgd ty x y ho g o cs hx hy (there_block hC o _ hl) hi h1 (h _ (Lib.hid ⟨?_, gb_setCells _ _ _ _⟩))
  rw [heap_setCells cs o w _ hC, hD]
theorem setAll_all {C cs : List Value} (h : C.length = cs.length) : setAll C 0 cs = cs := by simpa using setAll_mid cs [] C [] h
theorem range_of {w : World} {g : Nat} {C : List Value} {t : TypeId} (h : w.heap[g]? = some (.cells C.toArray t (0, 0))) : w.rangeAt g 0 C := range_of_heap h

def zeroOp : MOp := ⟨0, ⟨#[]⟩, ⟨#[]⟩, ⟨#[]⟩, ⟨#[]⟩, 0⟩
def noTag : List UInt8 := List.replicate 32 0
def zeroReq : MReq := ⟨0, 0, zeroOp, noTag⟩
def zeroBody : MBody := ⟨0, 0, 0, zeroReq, none, 0, [], noTag⟩
def zeroMsg : MMsg := ⟨0, 0, List.replicate 11 0, zeroBody, noTag⟩
theorem zero_wf : zeroBody.Wf := ⟨rfl, rfl⟩
theorem zero_body (w : World) : (zeroValue 32).run Tryz.prog w = .ok (.agg (bodyC zeroBody).toArray) w := by kernel_rfl
theorem zero_msg (w : World) : (zeroValue 34).run Tryz.prog w = .ok (.agg (msgC zeroMsg).toArray) w := by kernel_rfl
theorem build_own (k v : Int) (w : World) : (Instr.build 32 #[(0, .int .u8 k), (1, .int .u64 v)]).run Tryz.prog w = .ok (.agg (.int .u8 k :: .int .u64 v :: (bodyC zeroBody).drop 2).toArray) w := by kernel_rfl
theorem one_opC (o : MOp) : ∀ v ∈ opC o, v.oneCell' = true := by
  intro v hv
  simp only [opC, List.mem_cons, List.not_mem_nil, or_false] at hv
  rcases hv with rfl | rfl | rfl | rfl | rfl | rfl <;> rfl
theorem one_u64s (l : List Nat) : ∀ v ∈ u64s l, v.oneCell' = true := by
  intro v hv
  obtain ⟨n, _, rfl⟩ := List.mem_map.1 hv
  rfl
theorem one_reqC (r : MReq) : ∀ v ∈ reqC r, v.oneCell' = true := by
  intro v hv
  simp only [reqC, List.mem_cons, List.mem_append] at hv
  rcases hv with rfl | rfl | h | h
  · rfl
  · rfl
  · exact one_opC _ _ h
  · exact u8s_one _ _ h
theorem one_bodyC (b : MBody) : ∀ v ∈ bodyC b, v.oneCell' = true := by
  intro v hv
  simp only [bodyC, List.mem_cons, List.mem_append] at hv
  rcases hv with rfl | rfl | rfl | h | rfl | h
  · rfl
  · rfl
  · rfl
  · exact one_reqC _ _ h
  · rfl
  · exact u8s_one _ _ h
theorem one_msgC (m : MMsg) : ∀ v ∈ msgC m, v.oneCell' = true := by
  intro v hv
  simp only [msgC, List.mem_cons, List.mem_append] at hv
  rcases hv with rfl | rfl | h | h | h
  · rfl
  · rfl
  · exact one_u64s _ _ h
  · exact one_bodyC _ _ h
  · exact u8s_one _ _ h

/-- While a body's own one is made: it lies in the block behind the body's. -/
structure OwAt (w : World) (x o : MBody) (wr : World) : Prop where
  bel : Below w.heap.size w wr
  lt : w.heap.size + 1 < wr.heap.size
  src : wr.rangeAt w.heap.size 0 (bodyC x)
  own : wr.heap[w.heap.size + 1]? = some (.cells (bodyC o).toArray 32 (0, 0))
theorem OwAt.next {w : World} {x o : MBody} {wr w' : World} (H : OwAt w x o wr) (hb : Below wr.heap.size wr w') : OwAt w x o w' :=
  ⟨H.bel.trans (hb.mono H.bel.size), Nat.lt_of_lt_of_le H.lt hb.size, rangeAt_below H.src hb (by have := H.lt; omega), (hb.block _ H.lt).trans H.own⟩
theorem OwAt.drewN {w : World} {x o : MBody} {wr : World} (H : OwAt w x o wr) (q : Nat) : OwAt w x o (wr.drewN q) := ⟨below_drewN H.bel q, H.lt, H.src, H.own⟩
theorem OwAt.grown {w : World} {x o o' : MBody} {wr w' : World} (H : OwAt w x o wr) (h : w'.heap[w.heap.size + 1]? = some (.cells (bodyC o').toArray 32 (0, 0)) ∧ wr.grownBy w' (some (w.heap.size + 1))) : OwAt w x o' w' :=
  ⟨H.bel.grown h.2 H.bel.size (fun k hk => by injection hk with hk; omega), Nat.lt_of_lt_of_le H.lt h.2.size,
   fun j v hv => h.2.cell (H.src j v hv) (by simp), h.1⟩
end Go.Proofs.YtghjogneogkpoaaGreatDoor.Sh
