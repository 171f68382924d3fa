/- Laws and walks. -/
import Derived.Test.YtknpcmadghkaaaaGreatDoorV1w
set_option maxHeartbeats 16000000
set_option maxRecDepth 100000
namespace Go.Proofs.YtknpcmadghkaaaaGreatDoor.Sh
open Go.RowKit
theorem exec_load_mid {P : Program} {o : Oper} {f : Operand -> Value} {w : World} (ty : TypeId) (x : Operand) (ho : o.op = .load ty x) (b off : Nat) (hx : f x = .pointer (some ⟨b, off, none⟩)) (cs : List Value) (d : TypeDesc)
  (hc : w.rangeAt b off cs) (hu : P.underlying ty = some d) (hd : d.isRow = true) (hi : (P.info? ty).map (·.size) = some cs.length) : (execOp f o).run P w = .ok (.value (.agg cs.toArray)) w := by
 unfold execOp
 simp only [ho, hx, Instr.loadAt, Instr.sureAddr, Sem.run_bind, Sem.run_pure, Result.andThen_ok, run_loadVar_mid w b off ty cs d hc hu hd hi]
theorem there_block {w : World} {g : Nat} {C : List Value} {t : TypeId} (h : w.heap[g]? = some (.cells C.toArray t (0, 0))) (o n : Nat) (hn : o + n <= C.length) : w.there g o n := fun j hj => by
 have hc : (C[o + j]?).isSome = true := by simp; omega
 obtain ⟨v, hv⟩ := Option.isSome_iff_exists.1 hc
 exact ⟨by rw [cell_of_row _ _ (o + j) C.toArray t (0, 0) h]; simpa using (by omega : o + j < C.length), free_block h _⟩
theorem wpList_store_part {P : Program} {ops : Array Oper} {rest : List Oper} {op : Oper} {a : Act} {w : World} {Q : Exit -> Act -> World -> Prop} (hgd : op.guard = none) (ty : TypeId) (x y : Operand) (ho : op.op = .store ty x y)
  (g o : Nat) (C D cs : List Value) (t : TypeId) (hC : w.heap[g]? = some (.cells C.toArray t (0, 0))) (hl : o + cs.length <= C.length) (hD : setAll C o cs = D) (hx : a.eval x = .pointer (some ⟨g, o, none⟩)) (hy : a.eval y = .agg cs.toArray)
  (hi : (P.info? ty).map (·.size) = some cs.length) (h1 : ∀ v ∈ cs, v.oneCell' = true)
  (h : ∀ w', Hid (w'.heap[g]? = some (.cells D.toArray t (0, 0)) /\ w.grownBy w' (some g)) -> wpList P ops Q rest (a.put op.dst undef) w') : wpList P ops Q (op :: rest) a w := by
 refine wpList_store_cells hgd ty x y ho g o cs hx hy (there_block hC o _ hl) hi h1 (h _ (iq ⟨?_, gb_setCells _ _ _ _⟩))
 rw [heap_setCells cs o w _ hC, hD]
theorem setAll_all {C cs : List Value} (h : C.length = cs.length) : setAll C 0 cs = cs := by simpa using setAll_mid cs [] C [] h
theorem range_of {w : World} {g : Nat} {C : List Value} {t : TypeId} (h : w.heap[g]? = some (.cells C.toArray t (0, 0))) : w.rangeAt g 0 C := range_of_heap h
def zeroOp : MOp := ⟨0, ⟨#[]⟩, ⟨#[]⟩, ⟨#[]⟩, ⟨#[]⟩, 0⟩
def noTag : List UInt8 := List.replicate 32 0
def zeroReq : MReq := ⟨0, 0, zeroOp, noTag⟩
def zeroBody : MBody := ⟨0, 0, 0, zeroReq, none, 0, [], noTag⟩
def zeroMsg : MMsg := ⟨0, 0, List.replicate 11 0, zeroBody, noTag⟩
theorem zero_wf : zeroBody.Wf := ⟨rfl, rfl⟩
theorem zero_body (w : World) : (zeroValue 35).run Tryz.prog w = .ok (.agg (bodyC zeroBody).toArray) w := by kernel_rfl
theorem zero_msg (w : World) : (zeroValue 39).run Tryz.prog w = .ok (.agg (msgC zeroMsg).toArray) w := by kernel_rfl
theorem one_opC (o : MOp) : ∀ v ∈ opC o, v.oneCell' = true := by
 intro v hv
 simp only [opC, List.mem_cons, List.not_mem_nil, or_false] at hv
 rcases hv with rfl | rfl | rfl | rfl | rfl | rfl <;> rfl
theorem one_u64s (l : List Nat) : ∀ v ∈ u64s l, v.oneCell' = true := by
 intro v hv
 obtain ⟨n, _, rfl⟩ := List.mem_map.1 hv
 rfl
theorem one_reqC (r : MReq) : ∀ v ∈ reqC r, v.oneCell' = true := by
 intro v hv
 simp only [reqC, List.mem_cons, List.mem_append] at hv
 rcases hv with rfl | rfl | h | h
 ·rfl
 ·rfl
 ·exact one_opC _ _ h
 ·exact u8s_one _ _ h
theorem one_bodyC (b : MBody) : ∀ v ∈ bodyC b, v.oneCell' = true := by
 intro v hv
 simp only [bodyC, List.mem_cons, List.mem_append] at hv
 rcases hv with rfl | rfl | rfl | h | rfl | h
 ·rfl
 ·rfl
 ·rfl
 ·exact one_reqC _ _ h
 ·rfl
 ·exact u8s_one _ _ h
theorem one_msgC (m : MMsg) : ∀ v ∈ msgC m, v.oneCell' = true := by
 intro v hv
 simp only [msgC, List.mem_cons, List.mem_append] at hv
 rcases hv with rfl | rfl | h | h | h
 ·rfl
 ·rfl
 ·exact one_u64s _ _ h
 ·exact one_bodyC _ _ h
 ·exact u8s_one _ _ h
structure OwAt (w : World) (x o : MBody) (wr : World) : Prop where
 bel : Below w.heap.size w wr
 lt : w.heap.size + 1 < wr.heap.size
 src : wr.rangeAt w.heap.size 0 (bodyC x)
 own : wr.heap[w.heap.size + 1]? = some (.cells (bodyC o).toArray 35 (0, 0))
theorem OwAt.next {w : World} {x o : MBody} {wr w' : World} (H : OwAt w x o wr) (hb : Below wr.heap.size wr w') : OwAt w x o w' :=
 ⟨H.bel.trans (hb.mono H.bel.size), Nat.lt_of_lt_of_le H.lt hb.size, rangeAt_below H.src hb (by have := H.lt; omega), (hb.block _ H.lt).trans H.own⟩
theorem OwAt.drewN {w : World} {x o : MBody} {wr : World} (H : OwAt w x o wr) (q : Nat) : OwAt w x o (wr.drewN q) := ⟨below_drewN H.bel q, H.lt, H.src, H.own⟩
theorem OwAt.grown {w : World} {x o o' : MBody} {wr w' : World} (H : OwAt w x o wr) (h : w'.heap[w.heap.size + 1]? = some (.cells (bodyC o').toArray 35 (0, 0)) /\ wr.grownBy w' (some (w.heap.size + 1))) : OwAt w x o' w' :=
 ⟨H.bel.grown h.2 H.bel.size (fun k hk => by injection hk with hk; omega), Nat.lt_of_lt_of_le H.lt h.2.size,
   fun j v hv => h.2.cell (H.src j v hv) (by simp), h.1⟩
open Go.RowKit
def bodyOwn (x : MBody) : MBody :=
 if x.kind = 1 then { zeroBody with kind := x.kind, view := x.view, req := x.req }
 else if x.kind = 2 then { zeroBody with kind := x.kind, view := x.view, k := x.k }
 else if x.kind = 4 then { zeroBody with kind := x.kind, view := x.view, qa := x.qa, qc := x.qc, qs := x.qs }
 else if x.kind = 6 then { zeroBody with kind := x.kind, k := x.k, dig := x.dig }
 else { zeroBody with kind := x.kind, view := x.view }
def kindMay (x : MBody) : Bool :=
 if x.kind = 1 then reqMay x.req
 else if x.kind = 2 then isCnt x.k
 else if x.kind = 3 \/ x.kind = 5 then decide (1 <= x.view)
 else if x.kind = 4 then decide (1 <= x.view) && prsMay x.qs
 else if x.kind = 6 then isCnt x.k
 else false
theorem bodyOwn_wf {x : MBody} (h : x.Wf) : (bodyOwn x).Wf := by
 unfold bodyOwn
 split
 ·exact ⟨h.1, rfl⟩
 split
 ·exact ⟨rfl, rfl⟩
 split
 ·exact ⟨rfl, rfl⟩
 split
 ·exact ⟨rfl, h.2⟩
 ·exact ⟨rfl, rfl⟩
theorem OwAt.res {w : World} {x o : MBody} {wr : World} (H : OwAt w x o wr) (h : o.Wf) {tmps : Array Value} {b : Value} (hp : tmps.getD 2 undef = .pointer (some ⟨w.heap.size + 1, 0, none⟩)) (hu : tmps.getD 3 undef = b) :
  (results Tryz.f93 tmps).run Tryz.prog wr = .ok (.tuple #[.agg (bodyC o).toArray, b]) wr :=
 ret_range2 rfl hp hu (range_of H.own) Tryz.underlying35 rfl (by rw [bodyC_length h]; exact Tryz.is35)
theorem OwAt.set {w : World} {x o o' : MBody} {wr : World} (H : OwAt w x o wr) (k : Nat) (v : Value) (hC : (bodyC o).set k v = bodyC o') : OwAt w x o' (wr.setCell ⟨w.heap.size + 1, k, none⟩ v) := by
 refine H.grown ⟨?_, gb_set _ _ _ _⟩
 have := heap_set H.own v (k := k)
 rwa [hC] at this
theorem OwAt.cell {w : World} {x o : MBody} {wr : World} (H : OwAt w x o wr) (k : Nat) (v : Value) (hC : (bodyC o)[k]? = some v) : wr.cell? ⟨w.heap.size + 1, k, none⟩ = some v := by
 have := range_of H.own k v hC
 rwa [Nat.zero_add] at this
theorem set_req (o : MBody) (r : MReq) (ho : o.req.tag.length = 32) (hr : r.tag.length = 32) : setAll (bodyC o) 3 (reqC r) = bodyC { o with req := r } :=
 setAll_mid (reqC r) [.int .u8 (o.kind.toNat : Int), .int .u64 (o.view : Int), .int .u64 (o.k : Int)] (reqC o.req) (o.qv :: u8s o.dig) (by rw [reqC_length ho, reqC_length hr])
theorem bodyC_split (o : MBody) : bodyC o = (.int .u8 (o.kind.toNat : Int) :: .int .u64 (o.view : Int) :: .int .u64 (o.k : Int) :: (reqC o.req ++ [o.qv])) ++ (u8s o.dig ++ []) := by simp [bodyC]
theorem set_dig (o : MBody) (d : List UInt8) (h1 : o.req.tag.length = 32) (ho : o.dig.length = 32) (hr : d.length = 32) : setAll (bodyC o) 44 (u8s d) = bodyC { o with dig := d } := by
 have := setAll_mid (u8s d) (.int .u8 (o.kind.toNat : Int) :: .int .u64 (o.view : Int) :: .int .u64 (o.k : Int) :: (reqC o.req ++ [o.qv])) (u8s o.dig) [] (by rw [u8s_length, u8s_length, ho, hr])
 rw [<- bodyC_split] at this
 rw [show (.int .u8 (o.kind.toNat : Int) :: .int .u64 (o.view : Int) :: .int .u64 (o.k : Int) :: (reqC o.req ++ [o.qv]) : List Value).length = 44 by simp [reqC_length h1]] at this
 rw [this]
 simp [bodyC, MBody.qv]
theorem set_q (o : MBody) (A : Option Addr) (c : Nat) (qs : List (Int × Nat)) (h1 : o.req.tag.length = 32) : (bodyC o).set 43 (.slice A qs.length c) = bodyC { o with qa := A, qc := c, qs := qs } := by
 have : bodyC o = (.int .u8 (o.kind.toNat : Int) :: .int .u64 (o.view : Int) :: .int .u64 (o.k : Int) :: reqC o.req) ++ (o.qv :: u8s o.dig) := by simp [bodyC]
 rw [this, List.set_append_right _ _ (by simp [reqC_length h1])]
 simp [bodyC, MBody.qv, reqC_length h1]
theorem OwAt.same {w : World} {x o : MBody} {wr : World} (H : OwAt w x o wr) : OwAt w x o (wr.setCells (w.heap.size + 1) 0 (bodyC o)) :=
 H.grown ⟨by rw [heap_setCells _ _ _ _ H.own, setAll_all rfl], gb_setCells _ _ _ _⟩
theorem own_3 (x : MBody) (w : World) (hx : x.Wf) (HKI : Hid (x.kind = 3)) :
  Calls Tryz.prog 93 #[.agg (bodyC x).toArray] w fun E w' => E = .returned (.tuple #[.agg (bodyC ({ zeroBody with kind := 3, view := x.view })).toArray, .bool (decide (1 <= x.view))]) /\ Hid (Below w.heap.size w w') := by
 have HK : Hid (∀ o : MBody, o.Wf -> (Tryz.prog.info? 35).map (·.size) = some (bodyC o).length) := iq fun o h => by rw [bodyC_length h]; exact Tryz.is35
 have HX := iq hx
 have hz : ∀ w, (zeroValue 35).run Tryz.prog w = .ok (.agg (bodyC zeroBody).toArray) w := zero_body
 have R := body_lies (World.rangeAt_alloc (range_box w (bodyC x) 35) (.cells (bodyC zeroBody).toArray 35)) hx
 have x0 : ((w.alloc (.cells (bodyC x).toArray 35)).alloc (.cells (bodyC zeroBody).toArray 35)).cell? ⟨w.heap.size, 0, none⟩ = some (.int .u8 3) := R.kind.trans (by rw [HKI.out]; rfl)
 have x1 : ((w.alloc (.cells (bodyC x).toArray 35)).alloc (.cells (bodyC zeroBody).toArray 35)).cell? ⟨w.heap.size, 1, none⟩ = some (.int .u64 (x.view : Int)) := R.view
 have HZ : Hid (OwAt w x zeroBody ((w.alloc (.cells (bodyC x).toArray 35)).alloc (.cells (bodyC zeroBody).toArray 35))) := iq ⟨(bl.alloc (Nat.le_refl _) _).alloc (by simp) _, by simp, World.rangeAt_alloc (range_box w (bodyC x) 35) _, by simpa using heap_alloc_new (w.alloc (.cells (bodyC x).toArray 35)) (.cells (bodyC zeroBody).toArray 35)⟩
 have HLE : Hid (0 + (bodyC { zeroBody with kind := 3, view := x.view }).length <= (bodyC zeroBody).length /\ setAll (bodyC zeroBody) 0 (bodyC { zeroBody with kind := 3, view := x.view }) = bodyC { zeroBody with kind := 3, view := x.view }) := iq ⟨by rw [bodyC_length zero_wf, bodyC_length ⟨rfl, rfl⟩]; omega, setAll_all (by rw [bodyC_length zero_wf, bodyC_length ⟨rfl, rfl⟩])⟩
 clear R hx
 go_enter Tryz.func93, Tryz.ntmps93
 go_wp2_with ((refine wpList_store_part rfl 35 (.tmp 2) (.tmp 8) rfl (w.heap.size + 1) 0 (bodyC zeroBody) (bodyC { zeroBody with kind := 3, view := x.view }) (bodyC { zeroBody with kind := 3, view := x.view }) 35 HZ.out.own (HLE.out.1) (HLE.out.2) rfl rfl (HK.out _ ⟨rfl, rfl⟩) (one_bodyC _) ?_; intro w1 G1; have H1 := iq (HZ.out.grown G1.out); clear G1 HZ x0 x1; have y0 : w1.cell? ⟨w.heap.size, 0, none⟩ = some (.int .u8 3) := (body_lies H1.out.src HX.out).kind.trans (by rw [HKI.out]; rfl); have y1 : w1.cell? ⟨w.heap.size, 1, none⟩ = some (.int .u64 (x.view : Int)) := (body_lies H1.out.src HX.out).view; have y2 : w1.cell? ⟨w.heap.size, 2, none⟩ = some (.int .u64 (x.k : Int)) := (body_lies H1.out.src HX.out).k; have y43 : w1.cell? ⟨w.heap.size, 43, none⟩ = some (.slice x.qa x.qs.length x.qc) := (body_lies H1.out.src HX.out).q; have z2 : w1.cell? ⟨w.heap.size + 1, 2, none⟩ = some (.int .u64 0) := H1.out.cell 2 _ rfl; have z43 : w1.cell? ⟨w.heap.size + 1, 43, none⟩ = some (.slice none 0 0) := H1.out.cell 43 _ rfl; have hf := fun k => free_block H1.out.own k))
 refine wp_region_any (by kernel_rfl) ?_
 have H3 := iq (H1.out.drewN 1)
 change wpAny _ _ _ _ _ _ _ (w1.drewN 1)
 generalize w1.drewN 1 = w3 at H3 ⊢
 refine wpAny_of_held (S := fun W => OwAt w x ({ zeroBody with kind := 3, view := x.view }) W) _ _ _ _ ?_
 refine tk 0 ⟨some 32, .load 35 (.tmp 2), _, _, _, none⟩ (.agg (bodyC ({ zeroBody with kind := 3, view := x.view })).toArray) rfl (by kernel_rfl) (fun _ _ _ => id) (H3.out) (fun W hSW => exec_load_mid 35 (.tmp 2) rfl (w.heap.size + 1) 0 rfl (bodyC ({ zeroBody with kind := 3, view := x.view })) _ (range_of hSW.own) Tryz.underlying35 rfl (HK.out _ ⟨rfl, rfl⟩)) ?_
 try simp only [Act.put, l0, l1, l2]
 refine tk 1 ⟨some 33, .fieldAddr 35 (.tmp 1) 1, _, _, _, none⟩ (.pointer (some ⟨w.heap.size, 1, none⟩)) rfl (by kernel_rfl) (fun _ _ _ => id) (H3.out) (fun W hSW => by go_simp) ?_
 try simp only [pu, l0, l1, l2]
 refine tk 2 ⟨some 34, .load 25 (.tmp 33), _, _, _, none⟩ (.int .u64 (x.view : Int)) rfl (by kernel_rfl) (fun _ _ _ => id) (H3.out) (fun W hSW => by have hv := (body_lies hSW.src HX.out).view; go_simp) ?_
 try simp only [pu, l0, l1, l2]
 refine tk 3 ⟨some 35, .binOp .geq 25 (.tmp 34) (.const (.int .u64 1)) 25, _, _, _, none⟩ (.bool (decide (1 <= x.view))) rfl (by kernel_rfl) (fun _ _ _ => id) (H3.out) (fun W hSW => by go_simp; omega) ?_
 try simp only [pu, l0, l1, l2]
 refine rd1 4 ⟨none, .store 35 (.tmp 2) (.tmp 32), _, _, _, none⟩ (by kernel_rfl) rfl fun K' hK' => ?_
 refine step_store_cells rfl 35 (.tmp 2) (.tmp 32) rfl (w.heap.size + 1) 0 (bodyC ({ zeroBody with kind := 3, view := x.view })) rfl rfl (there_block H3.out.own 0 _ (by rw [Nat.zero_add]; exact Nat.le_refl _)) (HK.out _ ⟨rfl, rfl⟩) (one_bodyC _) ?_
 have H5 := iq (H3.out.same)
 refine hK'.out _ _ H5.out (fun _ => ?_)
 clear hK' K'
 refine tk 5 ⟨some 3, .assign (.tmp 35), _, _, _, none⟩ (.bool (decide (1 <= x.view))) rfl (by kernel_rfl) (fun _ _ _ => id) (H5.out) (fun W hSW => by go_simp) ?_
 try simp only [Act.put, l0, l1, l2]
 refine wpAnyH_done (by kernel_rfl) ?_ _
 go_wp2_with fail
 exact bodyPost_ret (H5.out.res ⟨rfl, rfl⟩ rfl rfl) rfl ⟨rfl, iq H5.out.bel⟩
theorem own_5 (x : MBody) (w : World) (hx : x.Wf) (HKI : Hid (x.kind = 5)) :
  Calls Tryz.prog 93 #[.agg (bodyC x).toArray] w fun E w' => E = .returned (.tuple #[.agg (bodyC ({ zeroBody with kind := 5, view := x.view })).toArray, .bool (decide (1 <= x.view))]) /\ Hid (Below w.heap.size w w') := by
 have HK : Hid (∀ o : MBody, o.Wf -> (Tryz.prog.info? 35).map (·.size) = some (bodyC o).length) := iq fun o h => by rw [bodyC_length h]; exact Tryz.is35
 have HX := iq hx
 have hz : ∀ w, (zeroValue 35).run Tryz.prog w = .ok (.agg (bodyC zeroBody).toArray) w := zero_body
 have R := body_lies (World.rangeAt_alloc (range_box w (bodyC x) 35) (.cells (bodyC zeroBody).toArray 35)) hx
 have x0 : ((w.alloc (.cells (bodyC x).toArray 35)).alloc (.cells (bodyC zeroBody).toArray 35)).cell? ⟨w.heap.size, 0, none⟩ = some (.int .u8 5) := R.kind.trans (by rw [HKI.out]; rfl)
 have x1 : ((w.alloc (.cells (bodyC x).toArray 35)).alloc (.cells (bodyC zeroBody).toArray 35)).cell? ⟨w.heap.size, 1, none⟩ = some (.int .u64 (x.view : Int)) := R.view
 have HZ : Hid (OwAt w x zeroBody ((w.alloc (.cells (bodyC x).toArray 35)).alloc (.cells (bodyC zeroBody).toArray 35))) := iq ⟨(bl.alloc (Nat.le_refl _) _).alloc (by simp) _, by simp, World.rangeAt_alloc (range_box w (bodyC x) 35) _, by simpa using heap_alloc_new (w.alloc (.cells (bodyC x).toArray 35)) (.cells (bodyC zeroBody).toArray 35)⟩
 have HLE : Hid (0 + (bodyC { zeroBody with kind := 5, view := x.view }).length <= (bodyC zeroBody).length /\ setAll (bodyC zeroBody) 0 (bodyC { zeroBody with kind := 5, view := x.view }) = bodyC { zeroBody with kind := 5, view := x.view }) := iq ⟨by rw [bodyC_length zero_wf, bodyC_length ⟨rfl, rfl⟩]; omega, setAll_all (by rw [bodyC_length zero_wf, bodyC_length ⟨rfl, rfl⟩])⟩
 clear R hx
 go_enter Tryz.func93, Tryz.ntmps93
 go_wp2_with ((refine wpList_store_part rfl 35 (.tmp 2) (.tmp 8) rfl (w.heap.size + 1) 0 (bodyC zeroBody) (bodyC { zeroBody with kind := 5, view := x.view }) (bodyC { zeroBody with kind := 5, view := x.view }) 35 HZ.out.own (HLE.out.1) (HLE.out.2) rfl rfl (HK.out _ ⟨rfl, rfl⟩) (one_bodyC _) ?_; intro w1 G1; have H1 := iq (HZ.out.grown G1.out); clear G1 HZ x0 x1; have y0 : w1.cell? ⟨w.heap.size, 0, none⟩ = some (.int .u8 5) := (body_lies H1.out.src HX.out).kind.trans (by rw [HKI.out]; rfl); have y1 : w1.cell? ⟨w.heap.size, 1, none⟩ = some (.int .u64 (x.view : Int)) := (body_lies H1.out.src HX.out).view; have y2 : w1.cell? ⟨w.heap.size, 2, none⟩ = some (.int .u64 (x.k : Int)) := (body_lies H1.out.src HX.out).k; have y43 : w1.cell? ⟨w.heap.size, 43, none⟩ = some (.slice x.qa x.qs.length x.qc) := (body_lies H1.out.src HX.out).q; have z2 : w1.cell? ⟨w.heap.size + 1, 2, none⟩ = some (.int .u64 0) := H1.out.cell 2 _ rfl; have z43 : w1.cell? ⟨w.heap.size + 1, 43, none⟩ = some (.slice none 0 0) := H1.out.cell 43 _ rfl; have hf := fun k => free_block H1.out.own k))
 refine wp_region_any (by kernel_rfl) ?_
 have H3 := iq (H1.out.drewN 1)
 change wpAny _ _ _ _ _ _ _ (w1.drewN 1)
 generalize w1.drewN 1 = w3 at H3 ⊢
 refine wpAny_of_held (S := fun W => OwAt w x ({ zeroBody with kind := 5, view := x.view }) W) _ _ _ _ ?_
 refine tk 0 ⟨some 32, .load 35 (.tmp 2), _, _, _, none⟩ (.agg (bodyC ({ zeroBody with kind := 5, view := x.view })).toArray) rfl (by kernel_rfl) (fun _ _ _ => id) (H3.out) (fun W hSW => exec_load_mid 35 (.tmp 2) rfl (w.heap.size + 1) 0 rfl (bodyC ({ zeroBody with kind := 5, view := x.view })) _ (range_of hSW.own) Tryz.underlying35 rfl (HK.out _ ⟨rfl, rfl⟩)) ?_
 try simp only [Act.put, l0, l1, l2]
 refine tk 1 ⟨some 33, .fieldAddr 35 (.tmp 1) 1, _, _, _, none⟩ (.pointer (some ⟨w.heap.size, 1, none⟩)) rfl (by kernel_rfl) (fun _ _ _ => id) (H3.out) (fun W hSW => by go_simp) ?_
 try simp only [pu, l0, l1, l2]
 refine tk 2 ⟨some 34, .load 25 (.tmp 33), _, _, _, none⟩ (.int .u64 (x.view : Int)) rfl (by kernel_rfl) (fun _ _ _ => id) (H3.out) (fun W hSW => by have hv := (body_lies hSW.src HX.out).view; go_simp) ?_
 try simp only [pu, l0, l1, l2]
 refine tk 3 ⟨some 35, .binOp .geq 25 (.tmp 34) (.const (.int .u64 1)) 25, _, _, _, none⟩ (.bool (decide (1 <= x.view))) rfl (by kernel_rfl) (fun _ _ _ => id) (H3.out) (fun W hSW => by go_simp; omega) ?_
 try simp only [pu, l0, l1, l2]
 refine rd1 4 ⟨none, .store 35 (.tmp 2) (.tmp 32), _, _, _, none⟩ (by kernel_rfl) rfl fun K' hK' => ?_
 refine step_store_cells rfl 35 (.tmp 2) (.tmp 32) rfl (w.heap.size + 1) 0 (bodyC ({ zeroBody with kind := 5, view := x.view })) rfl rfl (there_block H3.out.own 0 _ (by rw [Nat.zero_add]; exact Nat.le_refl _)) (HK.out _ ⟨rfl, rfl⟩) (one_bodyC _) ?_
 have H5 := iq (H3.out.same)
 refine hK'.out _ _ H5.out (fun _ => ?_)
 clear hK' K'
 refine tk 5 ⟨some 3, .assign (.tmp 35), _, _, _, none⟩ (.bool (decide (1 <= x.view))) rfl (by kernel_rfl) (fun _ _ _ => id) (H5.out) (fun W hSW => by go_simp) ?_
 try simp only [Act.put, l0, l1, l2]
 refine wpAnyH_done (by kernel_rfl) ?_ _
 go_wp2_with fail
 exact bodyPost_ret (H5.out.res ⟨rfl, rfl⟩ rfl rfl) rfl ⟨rfl, iq H5.out.bel⟩
theorem own_1 (x : MBody) (w : World) (hx : x.Wf) (HKI : Hid (x.kind = 1)) :
  Calls Tryz.prog 93 #[.agg (bodyC x).toArray] w fun E w' => E = .returned (.tuple #[.agg (bodyC ({ zeroBody with kind := 1, view := x.view, req := x.req })).toArray, .bool (reqMay x.req)]) /\ Hid (Below w.heap.size w w') := by
 have HK : Hid (∀ o : MBody, o.Wf -> (Tryz.prog.info? 35).map (·.size) = some (bodyC o).length) := iq fun o h => by rw [bodyC_length h]; exact Tryz.is35
 have HX := iq hx
 have hz : ∀ w, (zeroValue 35).run Tryz.prog w = .ok (.agg (bodyC zeroBody).toArray) w := zero_body
 have R := body_lies (World.rangeAt_alloc (range_box w (bodyC x) 35) (.cells (bodyC zeroBody).toArray 35)) hx
 have x0 : ((w.alloc (.cells (bodyC x).toArray 35)).alloc (.cells (bodyC zeroBody).toArray 35)).cell? ⟨w.heap.size, 0, none⟩ = some (.int .u8 1) := R.kind.trans (by rw [HKI.out]; rfl)
 have x1 : ((w.alloc (.cells (bodyC x).toArray 35)).alloc (.cells (bodyC zeroBody).toArray 35)).cell? ⟨w.heap.size, 1, none⟩ = some (.int .u64 (x.view : Int)) := R.view
 have HZ : Hid (OwAt w x zeroBody ((w.alloc (.cells (bodyC x).toArray 35)).alloc (.cells (bodyC zeroBody).toArray 35))) := iq ⟨(bl.alloc (Nat.le_refl _) _).alloc (by simp) _, by simp, World.rangeAt_alloc (range_box w (bodyC x) 35) _, by simpa using heap_alloc_new (w.alloc (.cells (bodyC x).toArray 35)) (.cells (bodyC zeroBody).toArray 35)⟩
 have HLE : Hid (0 + (bodyC { zeroBody with kind := 1, view := x.view }).length <= (bodyC zeroBody).length /\ setAll (bodyC zeroBody) 0 (bodyC { zeroBody with kind := 1, view := x.view }) = bodyC { zeroBody with kind := 1, view := x.view }) := iq ⟨by rw [bodyC_length zero_wf, bodyC_length ⟨rfl, rfl⟩]; omega, setAll_all (by rw [bodyC_length zero_wf, bodyC_length ⟨rfl, rfl⟩])⟩
 have HA := iq (asked_ms x.req)
 have HIR : Hid ((Tryz.prog.info? 32).map (·.size) = some (reqC x.req).length) := iq (by rw [reqC_length hx.1]; exact Tryz.is32)
 have HSL : Hid (3 + (reqC x.req).length <= (bodyC ({ zeroBody with kind := 1, view := x.view })).length /\ setAll (bodyC ({ zeroBody with kind := 1, view := x.view })) 3 (reqC x.req) = bodyC ({ zeroBody with kind := 1, view := x.view, req := x.req })) := iq ⟨by rw [reqC_length hx.1, bodyC_length ⟨rfl, rfl⟩]; decide, set_req ({ zeroBody with kind := 1, view := x.view }) x.req rfl hx.1⟩
 clear R hx
 go_enter Tryz.func93, Tryz.ntmps93
 go_wp2_with (first | (refine wpList_store_part rfl 35 (.tmp 2) (.tmp 8) rfl (w.heap.size + 1) 0 (bodyC zeroBody) (bodyC { zeroBody with kind := 1, view := x.view }) (bodyC { zeroBody with kind := 1, view := x.view }) 35 HZ.out.own (HLE.out.1) (HLE.out.2) rfl rfl (HK.out _ ⟨rfl, rfl⟩) (one_bodyC _) ?_; intro w1 G1; have H1 := iq (HZ.out.grown G1.out); clear G1 HZ x0 x1; have y0 : w1.cell? ⟨w.heap.size, 0, none⟩ = some (.int .u8 1) := (body_lies H1.out.src HX.out).kind.trans (by rw [HKI.out]; rfl); have y1 : w1.cell? ⟨w.heap.size, 1, none⟩ = some (.int .u64 (x.view : Int)) := (body_lies H1.out.src HX.out).view; have y2 : w1.cell? ⟨w.heap.size, 2, none⟩ = some (.int .u64 (x.k : Int)) := (body_lies H1.out.src HX.out).k; have y43 : w1.cell? ⟨w.heap.size, 43, none⟩ = some (.slice x.qa x.qs.length x.qc) := (body_lies H1.out.src HX.out).q; have z2 : w1.cell? ⟨w.heap.size + 1, 2, none⟩ = some (.int .u64 0) := H1.out.cell 2 _ rfl; have z43 : w1.cell? ⟨w.heap.size + 1, 43, none⟩ = some (.slice none 0 0) := H1.out.cell 43 _ rfl; have hf := fun k => free_block H1.out.own k) | ((with_reducible refine wpList_load_midG ?_ 32 (.tmp 13) ?_ w.heap.size 3 ?_ (reqC x.req) _ ?_ Tryz.underlying32 ?_ ?_ ?_); rfl; rfl; rfl; exact ((body_lies H1.out.src HX.out).req.all); rfl; exact HIR.out) | (refine wpList_store_part rfl 32 (.tmp 15) (.tmp 14) rfl (w.heap.size + 1) 3 (bodyC ({ zeroBody with kind := 1, view := x.view })) (bodyC ({ zeroBody with kind := 1, view := x.view, req := x.req })) (reqC x.req) 35 H1.out.own HSL.out.1 HSL.out.2 rfl rfl HIR.out (one_reqC _) ?_; intro w2 G2; have H2 := iq (H1.out.grown G2.out); clear G2 y0 y1 y2 y43 z2 z43 hf))
 refine wp_region_any (by kernel_rfl) ?_
 have H3 := iq (H2.out.drewN 1)
 change wpAny _ _ _ _ _ _ _ (w2.drewN 1)
 generalize w2.drewN 1 = w3 at H3 ⊢
 refine wpAny_of_held (S := fun W => OwAt w x ({ zeroBody with kind := 1, view := x.view, req := x.req }) W) _ _ _ _ ?_
 refine tk 0 ⟨some 16, .load 35 (.tmp 2), _, _, _, none⟩ (.agg (bodyC ({ zeroBody with kind := 1, view := x.view, req := x.req })).toArray) rfl (by kernel_rfl) (fun _ _ _ => id) (H3.out) (fun W hSW => exec_load_mid 35 (.tmp 2) rfl (w.heap.size + 1) 0 rfl (bodyC ({ zeroBody with kind := 1, view := x.view, req := x.req })) _ (range_of hSW.own) Tryz.underlying35 rfl (HK.out _ ⟨HX.out.1, rfl⟩)) ?_
 try simp only [Act.put, l0, l1, l2]
 refine tk 1 ⟨some 17, .fieldAddr 35 (.tmp 1) 3, _, _, _, none⟩ (.pointer (some ⟨w.heap.size, 3, none⟩)) rfl (by kernel_rfl) (fun _ _ _ => id) (H3.out) (fun W hSW => by go_simp) ?_
 try simp only [pu, l0, l1, l2]
 refine tk 2 ⟨some 18, .load 32 (.tmp 17), _, _, _, none⟩ (.agg (reqC x.req).toArray) rfl (by kernel_rfl) (fun _ _ _ => id) (H3.out) (fun W hSW => exec_load_mid 32 (.tmp 17) rfl w.heap.size 3 rfl (reqC x.req) _ ((body_lies hSW.src HX.out).req.all) Tryz.underlying32 rfl (HIR.out)) ?_
 try simp only [pu, l0, l1, l2]
 refine rd1 3 ⟨some 19, .call { callee := .value (.func 121), args := #[.tmp 18], argTypes := #[32] }, _, _, _, none⟩ (by kernel_rfl) rfl fun K' hK' => ?_
 go_simp
 go_at_call 121
 refine (HA.out w3).mono ?_
 rintro E w4 ⟨rfl, hb⟩
 have H4 := iq (H3.out.next hb)
 clear hb
 refine hK'.out _ _ H4.out (fun _ => ?_)
 clear hK' K'
 try simp only [Act.put, l0, l1, l2]
 refine rd1 4 ⟨none, .store 35 (.tmp 2) (.tmp 16), _, _, _, none⟩ (by kernel_rfl) rfl fun K' hK' => ?_
 refine step_store_cells rfl 35 (.tmp 2) (.tmp 16) rfl (w.heap.size + 1) 0 (bodyC ({ zeroBody with kind := 1, view := x.view, req := x.req })) rfl rfl (there_block H4.out.own 0 _ (by rw [Nat.zero_add]; exact Nat.le_refl _)) (HK.out _ ⟨HX.out.1, rfl⟩) (one_bodyC _) ?_
 have H5 := iq (H4.out.same)
 refine hK'.out _ _ H5.out (fun _ => ?_)
 clear hK' K'
 refine tk 5 ⟨some 3, .assign (.tmp 19), _, _, _, none⟩ (.bool (reqMay x.req)) rfl (by kernel_rfl) (fun _ _ _ => id) (H5.out) (fun W hSW => by go_simp) ?_
 try simp only [Act.put, l0, l1, l2]
 refine wpAnyH_done (by kernel_rfl) ?_ _
 go_wp2_with fail
 exact bodyPost_ret (H5.out.res ⟨HX.out.1, rfl⟩ rfl rfl) rfl ⟨rfl, iq H5.out.bel⟩
theorem own_2 (x : MBody) (w : World) (hx : x.Wf) (HKI : Hid (x.kind = 2)) :
  Calls Tryz.prog 93 #[.agg (bodyC x).toArray] w fun E w' => E = .returned (.tuple #[.agg (bodyC ({ zeroBody with kind := 2, view := x.view, k := x.k })).toArray, .bool (isCnt x.k)]) /\ Hid (Below w.heap.size w w') := by
 have HK : Hid (∀ o : MBody, o.Wf -> (Tryz.prog.info? 35).map (·.size) = some (bodyC o).length) := iq fun o h => by rw [bodyC_length h]; exact Tryz.is35
 have HX := iq hx
 have hz : ∀ w, (zeroValue 35).run Tryz.prog w = .ok (.agg (bodyC zeroBody).toArray) w := zero_body
 have R := body_lies (World.rangeAt_alloc (range_box w (bodyC x) 35) (.cells (bodyC zeroBody).toArray 35)) hx
 have x0 : ((w.alloc (.cells (bodyC x).toArray 35)).alloc (.cells (bodyC zeroBody).toArray 35)).cell? ⟨w.heap.size, 0, none⟩ = some (.int .u8 2) := R.kind.trans (by rw [HKI.out]; rfl)
 have x1 : ((w.alloc (.cells (bodyC x).toArray 35)).alloc (.cells (bodyC zeroBody).toArray 35)).cell? ⟨w.heap.size, 1, none⟩ = some (.int .u64 (x.view : Int)) := R.view
 have HZ : Hid (OwAt w x zeroBody ((w.alloc (.cells (bodyC x).toArray 35)).alloc (.cells (bodyC zeroBody).toArray 35))) := iq ⟨(bl.alloc (Nat.le_refl _) _).alloc (by simp) _, by simp, World.rangeAt_alloc (range_box w (bodyC x) 35) _, by simpa using heap_alloc_new (w.alloc (.cells (bodyC x).toArray 35)) (.cells (bodyC zeroBody).toArray 35)⟩
 have HLE : Hid (0 + (bodyC { zeroBody with kind := 2, view := x.view }).length <= (bodyC zeroBody).length /\ setAll (bodyC zeroBody) 0 (bodyC { zeroBody with kind := 2, view := x.view }) = bodyC { zeroBody with kind := 2, view := x.view }) := iq ⟨by rw [bodyC_length zero_wf, bodyC_length ⟨rfl, rfl⟩]; omega, setAll_all (by rw [bodyC_length zero_wf, bodyC_length ⟨rfl, rfl⟩])⟩
 have HA := iq (isCount_ms x.k)
 clear R hx
 go_enter Tryz.func93, Tryz.ntmps93
 go_wp2_with ((refine wpList_store_part rfl 35 (.tmp 2) (.tmp 8) rfl (w.heap.size + 1) 0 (bodyC zeroBody) (bodyC { zeroBody with kind := 2, view := x.view }) (bodyC { zeroBody with kind := 2, view := x.view }) 35 HZ.out.own (HLE.out.1) (HLE.out.2) rfl rfl (HK.out _ ⟨rfl, rfl⟩) (one_bodyC _) ?_; intro w1 G1; have H1 := iq (HZ.out.grown G1.out); clear G1 HZ x0 x1; have y0 : w1.cell? ⟨w.heap.size, 0, none⟩ = some (.int .u8 2) := (body_lies H1.out.src HX.out).kind.trans (by rw [HKI.out]; rfl); have y1 : w1.cell? ⟨w.heap.size, 1, none⟩ = some (.int .u64 (x.view : Int)) := (body_lies H1.out.src HX.out).view; have y2 : w1.cell? ⟨w.heap.size, 2, none⟩ = some (.int .u64 (x.k : Int)) := (body_lies H1.out.src HX.out).k; have y43 : w1.cell? ⟨w.heap.size, 43, none⟩ = some (.slice x.qa x.qs.length x.qc) := (body_lies H1.out.src HX.out).q; have z2 : w1.cell? ⟨w.heap.size + 1, 2, none⟩ = some (.int .u64 0) := H1.out.cell 2 _ rfl; have z43 : w1.cell? ⟨w.heap.size + 1, 43, none⟩ = some (.slice none 0 0) := H1.out.cell 43 _ rfl; have hf := fun k => free_block H1.out.own k))
 have H2 := iq (H1.out.set 2 (.int .u64 (x.k : Int)) (o' := { zeroBody with kind := 2, view := x.view, k := x.k }) rfl)
 clear H1 y0 y1 y2 y43 z2 z43 hf
 generalize w1.setCell ⟨w.heap.size + 1, 2, none⟩ (.int .u64 (x.k : Int)) = w2 at H2 ⊢
 refine wp_region_any (by kernel_rfl) ?_
 have H3 := iq (H2.out.drewN 1)
 change wpAny _ _ _ _ _ _ _ (w2.drewN 1)
 generalize w2.drewN 1 = w3 at H3 ⊢
 refine wpAny_of_held (S := fun W => OwAt w x ({ zeroBody with kind := 2, view := x.view, k := x.k }) W) _ _ _ _ ?_
 refine tk 0 ⟨some 25, .load 35 (.tmp 2), _, _, _, none⟩ (.agg (bodyC ({ zeroBody with kind := 2, view := x.view, k := x.k })).toArray) rfl (by kernel_rfl) (fun _ _ _ => id) (H3.out) (fun W hSW => exec_load_mid 35 (.tmp 2) rfl (w.heap.size + 1) 0 rfl (bodyC ({ zeroBody with kind := 2, view := x.view, k := x.k })) _ (range_of hSW.own) Tryz.underlying35 rfl (HK.out _ ⟨rfl, rfl⟩)) ?_
 try simp only [Act.put, l0, l1, l2]
 refine tk 1 ⟨some 26, .fieldAddr 35 (.tmp 1) 2, _, _, _, none⟩ (.pointer (some ⟨w.heap.size, 2, none⟩)) rfl (by kernel_rfl) (fun _ _ _ => id) (H3.out) (fun W hSW => by go_simp) ?_
 try simp only [pu, l0, l1, l2]
 refine tk 2 ⟨some 27, .load 25 (.tmp 26), _, _, _, none⟩ (.int .u64 (x.k : Int)) rfl (by kernel_rfl) (fun _ _ _ => id) (H3.out) (fun W hSW => by have hv := (body_lies hSW.src HX.out).k; go_simp) ?_
 try simp only [pu, l0, l1, l2]
 refine rd1 3 ⟨some 28, .call { callee := .value (.func 122), args := #[.tmp 27], argTypes := #[25] }, _, _, _, none⟩ (by kernel_rfl) rfl fun K' hK' => ?_
 go_simp
 go_at_call 122
 refine (HA.out w3).mono ?_
 rintro E w4 ⟨rfl, rfl⟩
 have H4 := H3
 skip
 refine hK'.out _ _ H4.out (fun _ => ?_)
 clear hK' K'
 try simp only [Act.put, l0, l1, l2]
 refine rd1 4 ⟨none, .store 35 (.tmp 2) (.tmp 25), _, _, _, none⟩ (by kernel_rfl) rfl fun K' hK' => ?_
 refine step_store_cells rfl 35 (.tmp 2) (.tmp 25) rfl (w.heap.size + 1) 0 (bodyC ({ zeroBody with kind := 2, view := x.view, k := x.k })) rfl rfl (there_block H4.out.own 0 _ (by rw [Nat.zero_add]; exact Nat.le_refl _)) (HK.out _ ⟨rfl, rfl⟩) (one_bodyC _) ?_
 have H5 := iq (H4.out.same)
 refine hK'.out _ _ H5.out (fun _ => ?_)
 clear hK' K'
 refine tk 5 ⟨some 3, .assign (.tmp 28), _, _, _, none⟩ (.bool (isCnt x.k)) rfl (by kernel_rfl) (fun _ _ _ => id) (H5.out) (fun W hSW => by go_simp) ?_
 try simp only [Act.put, l0, l1, l2]
 refine wpAnyH_done (by kernel_rfl) ?_ _
 go_wp2_with fail
 exact bodyPost_ret (H5.out.res ⟨rfl, rfl⟩ rfl rfl) rfl ⟨rfl, iq H5.out.bel⟩
theorem own_x (x : MBody) (w : World) (hx : x.Wf) (h1 : ¬ ((x.kind.toNat : Int) = 1)) (h2 : ¬ ((x.kind.toNat : Int) = 2)) (h3 : ¬ ((x.kind.toNat : Int) = 3)) (h4 : ¬ ((x.kind.toNat : Int) = 4)) (h5 : ¬ ((x.kind.toNat : Int) = 5)) (h6 : ¬ ((x.kind.toNat : Int) = 6)) :
  Calls Tryz.prog 93 #[.agg (bodyC x).toArray] w fun E w' => E = .returned (.tuple #[.agg (bodyC ({ zeroBody with kind := x.kind, view := x.view })).toArray, .bool (false)]) /\ Hid (Below w.heap.size w w') := by
 have HK : Hid (∀ o : MBody, o.Wf -> (Tryz.prog.info? 35).map (·.size) = some (bodyC o).length) := iq fun o h => by rw [bodyC_length h]; exact Tryz.is35
 have HX := iq hx
 have hz : ∀ w, (zeroValue 35).run Tryz.prog w = .ok (.agg (bodyC zeroBody).toArray) w := zero_body
 have R := body_lies (World.rangeAt_alloc (range_box w (bodyC x) 35) (.cells (bodyC zeroBody).toArray 35)) hx
 have x0 : ((w.alloc (.cells (bodyC x).toArray 35)).alloc (.cells (bodyC zeroBody).toArray 35)).cell? ⟨w.heap.size, 0, none⟩ = some (.int .u8 (x.kind.toNat : Int)) := R.kind.trans rfl
 have x1 : ((w.alloc (.cells (bodyC x).toArray 35)).alloc (.cells (bodyC zeroBody).toArray 35)).cell? ⟨w.heap.size, 1, none⟩ = some (.int .u64 (x.view : Int)) := R.view
 have HZ : Hid (OwAt w x zeroBody ((w.alloc (.cells (bodyC x).toArray 35)).alloc (.cells (bodyC zeroBody).toArray 35))) := iq ⟨(bl.alloc (Nat.le_refl _) _).alloc (by simp) _, by simp, World.rangeAt_alloc (range_box w (bodyC x) 35) _, by simpa using heap_alloc_new (w.alloc (.cells (bodyC x).toArray 35)) (.cells (bodyC zeroBody).toArray 35)⟩
 have HLE : Hid (0 + (bodyC { zeroBody with kind := x.kind, view := x.view }).length <= (bodyC zeroBody).length /\ setAll (bodyC zeroBody) 0 (bodyC { zeroBody with kind := x.kind, view := x.view }) = bodyC { zeroBody with kind := x.kind, view := x.view }) := iq ⟨by rw [bodyC_length zero_wf, bodyC_length ⟨rfl, rfl⟩]; omega, setAll_all (by rw [bodyC_length zero_wf, bodyC_length ⟨rfl, rfl⟩])⟩
 clear R hx
 go_enter Tryz.func93, Tryz.ntmps93
 go_wp2_with (first | (refine wpList_store_part rfl 35 (.tmp 2) (.tmp 8) rfl (w.heap.size + 1) 0 (bodyC zeroBody) (bodyC { zeroBody with kind := x.kind, view := x.view }) (bodyC { zeroBody with kind := x.kind, view := x.view }) 35 HZ.out.own (HLE.out.1) (HLE.out.2) rfl rfl (HK.out _ ⟨rfl, rfl⟩) (one_bodyC _) ?_; intro w1 G1; have H1 := iq (HZ.out.grown G1.out); clear G1 HZ x0 x1; have y0 : w1.cell? ⟨w.heap.size, 0, none⟩ = some (.int .u8 (x.kind.toNat : Int)) := (body_lies H1.out.src HX.out).kind.trans rfl; have y1 : w1.cell? ⟨w.heap.size, 1, none⟩ = some (.int .u64 (x.view : Int)) := (body_lies H1.out.src HX.out).view; have y2 : w1.cell? ⟨w.heap.size, 2, none⟩ = some (.int .u64 (x.k : Int)) := (body_lies H1.out.src HX.out).k; have y43 : w1.cell? ⟨w.heap.size, 43, none⟩ = some (.slice x.qa x.qs.length x.qc) := (body_lies H1.out.src HX.out).q; have z2 : w1.cell? ⟨w.heap.size + 1, 2, none⟩ = some (.int .u64 0) := H1.out.cell 2 _ rfl; have z43 : w1.cell? ⟨w.heap.size + 1, 43, none⟩ = some (.slice none 0 0) := H1.out.cell 43 _ rfl; have hf := fun k => free_block H1.out.own k) | ((with_reducible refine wpList_load_midG ?_ 35 (.tmp 2) ?_ (w.heap.size + 1) 0 ?_ (bodyC ({ zeroBody with kind := x.kind, view := x.view })) _ ?_ Tryz.underlying35 ?_ ?_ ?_); rfl; rfl; rfl; exact range_of H1.out.own; rfl; exact HK.out _ ⟨rfl, rfl⟩) | (refine wpList_store_part rfl 35 (.tmp 2) (.tmp 63) rfl (w.heap.size + 1) 0 (bodyC ({ zeroBody with kind := x.kind, view := x.view })) (bodyC ({ zeroBody with kind := x.kind, view := x.view })) (bodyC ({ zeroBody with kind := x.kind, view := x.view })) 35 H1.out.own (by rw [Nat.zero_add]; exact Nat.le_refl _) (setAll_all rfl) rfl rfl (HK.out _ ⟨rfl, rfl⟩) (one_bodyC _) ?_; intro w5 G5; have H5 := iq (H1.out.grown G5.out)))
 exact bodyPost_ret (H5.out.res ⟨rfl, rfl⟩ rfl rfl) rfl ⟨rfl, iq H5.out.bel⟩
theorem own_4 (x : MBody) (w : World) (hx : x.Wf) (HKI : Hid (x.kind = 4)) (hq : Prs w x.qa x.qs) (hn : x.qs.length <= 140737488355328) (hvw : (1 : Int) <= (x.view : Int)) :
  Calls Tryz.prog 93 #[.agg (bodyC x).toArray] w fun E w' => E = .returned (.tuple #[.agg (bodyC ({ zeroBody with kind := 4, view := x.view, qa := x.qa, qc := x.qc, qs := x.qs })).toArray, .bool (prsMay x.qs)]) /\ Hid (Below w.heap.size w w') := by
 have HK : Hid (∀ o : MBody, o.Wf -> (Tryz.prog.info? 35).map (·.size) = some (bodyC o).length) := iq fun o h => by rw [bodyC_length h]; exact Tryz.is35
 have HX := iq hx
 have hz : ∀ w, (zeroValue 35).run Tryz.prog w = .ok (.agg (bodyC zeroBody).toArray) w := zero_body
 have R := body_lies (World.rangeAt_alloc (range_box w (bodyC x) 35) (.cells (bodyC zeroBody).toArray 35)) hx
 have x0 : ((w.alloc (.cells (bodyC x).toArray 35)).alloc (.cells (bodyC zeroBody).toArray 35)).cell? ⟨w.heap.size, 0, none⟩ = some (.int .u8 4) := R.kind.trans (by rw [HKI.out]; rfl)
 have x1 : ((w.alloc (.cells (bodyC x).toArray 35)).alloc (.cells (bodyC zeroBody).toArray 35)).cell? ⟨w.heap.size, 1, none⟩ = some (.int .u64 (x.view : Int)) := R.view
 have HZ : Hid (OwAt w x zeroBody ((w.alloc (.cells (bodyC x).toArray 35)).alloc (.cells (bodyC zeroBody).toArray 35))) := iq ⟨(bl.alloc (Nat.le_refl _) _).alloc (by simp) _, by simp, World.rangeAt_alloc (range_box w (bodyC x) 35) _, by simpa using heap_alloc_new (w.alloc (.cells (bodyC x).toArray 35)) (.cells (bodyC zeroBody).toArray 35)⟩
 have HLE : Hid (0 + (bodyC { zeroBody with kind := 4, view := x.view }).length <= (bodyC zeroBody).length /\ setAll (bodyC zeroBody) 0 (bodyC { zeroBody with kind := 4, view := x.view }) = bodyC { zeroBody with kind := 4, view := x.view }) := iq ⟨by rw [bodyC_length zero_wf, bodyC_length ⟨rfl, rfl⟩]; omega, setAll_all (by rw [bodyC_length zero_wf, bodyC_length ⟨rfl, rfl⟩])⟩
 have HA : Hid (∀ W, Below w.heap.size w W -> Calls Tryz.prog 123 #[.slice x.qa x.qs.length x.qc] W fun E w' => E = .returned (.bool (prsMay x.qs)) /\ Below W.heap.size W w') := iq fun W h => mayPairs_ms x.qa x.qc x.qs W (hq.below h) hn
 clear hq hn
 clear R hx
 go_enter Tryz.func93, Tryz.ntmps93
 go_wp2_with ((refine wpList_store_part rfl 35 (.tmp 2) (.tmp 8) rfl (w.heap.size + 1) 0 (bodyC zeroBody) (bodyC { zeroBody with kind := 4, view := x.view }) (bodyC { zeroBody with kind := 4, view := x.view }) 35 HZ.out.own (HLE.out.1) (HLE.out.2) rfl rfl (HK.out _ ⟨rfl, rfl⟩) (one_bodyC _) ?_; intro w1 G1; have H1 := iq (HZ.out.grown G1.out); clear G1 HZ x0 x1; have y0 : w1.cell? ⟨w.heap.size, 0, none⟩ = some (.int .u8 4) := (body_lies H1.out.src HX.out).kind.trans (by rw [HKI.out]; rfl); have y1 : w1.cell? ⟨w.heap.size, 1, none⟩ = some (.int .u64 (x.view : Int)) := (body_lies H1.out.src HX.out).view; have y2 : w1.cell? ⟨w.heap.size, 2, none⟩ = some (.int .u64 (x.k : Int)) := (body_lies H1.out.src HX.out).k; have y43 : w1.cell? ⟨w.heap.size, 43, none⟩ = some (.slice x.qa x.qs.length x.qc) := (body_lies H1.out.src HX.out).q; have z2 : w1.cell? ⟨w.heap.size + 1, 2, none⟩ = some (.int .u64 0) := H1.out.cell 2 _ rfl; have z43 : w1.cell? ⟨w.heap.size + 1, 43, none⟩ = some (.slice none 0 0) := H1.out.cell 43 _ rfl; have hf := fun k => free_block H1.out.own k))
 have H2 := iq (H1.out.set 43 (.slice x.qa x.qs.length x.qc) (set_q _ _ _ _ rfl))
 clear H1 y0 y1 y2 y43 z2 z43 hf
 generalize w1.setCell ⟨w.heap.size + 1, 43, none⟩ (.slice x.qa x.qs.length x.qc) = w2 at H2 ⊢
 refine wp_region_any (by kernel_rfl) ?_
 have H3 := iq (H2.out.drewN 1)
 change wpAny _ _ _ _ _ _ _ (w2.drewN 1)
 generalize w2.drewN 1 = w3 at H3 ⊢
 refine wpAny_of_held (S := fun W => OwAt w x ({ zeroBody with kind := 4, view := x.view, qa := x.qa, qc := x.qc, qs := x.qs }) W) _ _ _ _ ?_
 refine tk 0 ⟨some 41, .load 35 (.tmp 2), _, _, _, none⟩ (.agg (bodyC ({ zeroBody with kind := 4, view := x.view, qa := x.qa, qc := x.qc, qs := x.qs })).toArray) rfl (by kernel_rfl) (fun _ _ _ => id) (H3.out) (fun W hSW => exec_load_mid 35 (.tmp 2) rfl (w.heap.size + 1) 0 rfl (bodyC ({ zeroBody with kind := 4, view := x.view, qa := x.qa, qc := x.qc, qs := x.qs })) _ (range_of hSW.own) Tryz.underlying35 rfl (HK.out _ ⟨rfl, rfl⟩)) ?_
 try simp only [Act.put, l0, l1, l2]
 refine tk 1 ⟨some 42, .fieldAddr 35 (.tmp 1) 1, _, _, _, none⟩ (.pointer (some ⟨w.heap.size, 1, none⟩)) rfl (by kernel_rfl) (fun _ _ _ => id) (H3.out) (fun W hSW => by go_simp) ?_
 try simp only [pu, l0, l1, l2]
 refine tk 2 ⟨some 43, .load 25 (.tmp 42), _, _, _, none⟩ (.int .u64 (x.view : Int)) rfl (by kernel_rfl) (fun _ _ _ => id) (H3.out) (fun W hSW => by have hv := (body_lies hSW.src HX.out).view; go_simp) ?_
 try simp only [pu, l0, l1, l2]
 refine tk 3 ⟨some 44, .binOp .geq 25 (.tmp 43) (.const (.int .u64 1)) 25, _, _, _, none⟩ (.bool true) rfl (by kernel_rfl) (fun _ _ _ => id) (H3.out) (fun W hSW => by go_simp) ?_
 try simp only [pu, l0, l1, l2]
 refine tk 4 ⟨some 45, .move (.tmp 44), _, _, _, none⟩ (.bool true) rfl (by kernel_rfl) (fun _ _ _ => id) (H3.out) (fun W hSW => by go_simp) ?_
 try simp only [pu, l0, l1, l2]
 refine tk 5 ⟨some 46, .fieldAddr 35 (.tmp 1) 4, _, _, _, some (4, true)⟩ (.pointer (some ⟨w.heap.size, 43, none⟩)) rfl (by kernel_rfl) (fun _ _ _ => id) (H3.out) (fun W hSW => by go_simp) ?_
 try simp only [pu, l0, l1, l2]
 refine tk 6 ⟨some 47, .load 33 (.tmp 46), _, _, _, some (4, true)⟩ (.slice x.qa x.qs.length x.qc) rfl (by kernel_rfl) (fun _ _ _ => id) (H3.out) (fun W hSW => by have hv : W.cell? ⟨w.heap.size, 43, none⟩ = some (.slice x.qa x.qs.length x.qc) := (body_lies hSW.src HX.out).q; go_simp) ?_
 try simp only [pu, l0, l1, l2]
 refine rd1 7 ⟨some 48, .call { callee := .value (.func 123), args := #[.tmp 47], argTypes := #[33] }, _, _, _, some (4, true)⟩ (by kernel_rfl) rfl fun K' hK' => ?_
 go_simp
 go_at_call 123
 refine (HA.out w3 H3.out.bel).mono ?_
 rintro E w4 ⟨rfl, hb⟩
 have H4 := iq (H3.out.next hb)
 clear hb
 refine hK'.out _ _ H4.out (fun _ => ?_)
 clear hK' K'
 try simp only [Act.put, l0, l1, l2]
 refine tk 8 ⟨some 49, .pick (.tmp 45) (.tmp 48) (.const (.bool false)), _, _, _, none⟩ (.bool (prsMay x.qs)) rfl (by kernel_rfl) (fun _ _ _ => id) (H4.out) (fun W hSW => by go_simp) ?_
 try simp only [pu, l0, l1, l2]
 refine rd1 9 ⟨none, .store 35 (.tmp 2) (.tmp 41), _, _, _, none⟩ (by kernel_rfl) rfl fun K' hK' => ?_
 refine step_store_cells rfl 35 (.tmp 2) (.tmp 41) rfl (w.heap.size + 1) 0 (bodyC ({ zeroBody with kind := 4, view := x.view, qa := x.qa, qc := x.qc, qs := x.qs })) rfl rfl (there_block H4.out.own 0 _ (by rw [Nat.zero_add]; exact Nat.le_refl _)) (HK.out _ ⟨rfl, rfl⟩) (one_bodyC _) ?_
 have H5 := iq (H4.out.same)
 refine hK'.out _ _ H5.out (fun _ => ?_)
 clear hK' K'
 refine tk 10 ⟨some 3, .assign (.tmp 49), _, _, _, none⟩ (.bool (prsMay x.qs)) rfl (by kernel_rfl) (fun _ _ _ => id) (H5.out) (fun W hSW => by go_simp) ?_
 try simp only [Act.put, l0, l1, l2]
 refine wpAnyH_done (by kernel_rfl) ?_ _
 go_wp2_with fail
 exact bodyPost_ret (H5.out.res ⟨rfl, rfl⟩ rfl rfl) rfl ⟨rfl, iq H5.out.bel⟩
theorem own_4n (x : MBody) (w : World) (hx : x.Wf) (HKI : Hid (x.kind = 4)) (hq : Prs w x.qa x.qs) (hn : x.qs.length <= 140737488355328) (hvw : ¬ ((1 : Int) <= (x.view : Int))) :
  Calls Tryz.prog 93 #[.agg (bodyC x).toArray] w fun E w' => E = .returned (.tuple #[.agg (bodyC ({ zeroBody with kind := 4, view := x.view, qa := x.qa, qc := x.qc, qs := x.qs })).toArray, .bool (false)]) /\ Hid (Below w.heap.size w w') := by
 have HK : Hid (∀ o : MBody, o.Wf -> (Tryz.prog.info? 35).map (·.size) = some (bodyC o).length) := iq fun o h => by rw [bodyC_length h]; exact Tryz.is35
 have HX := iq hx
 have hz : ∀ w, (zeroValue 35).run Tryz.prog w = .ok (.agg (bodyC zeroBody).toArray) w := zero_body
 have R := body_lies (World.rangeAt_alloc (range_box w (bodyC x) 35) (.cells (bodyC zeroBody).toArray 35)) hx
 have x0 : ((w.alloc (.cells (bodyC x).toArray 35)).alloc (.cells (bodyC zeroBody).toArray 35)).cell? ⟨w.heap.size, 0, none⟩ = some (.int .u8 4) := R.kind.trans (by rw [HKI.out]; rfl)
 have x1 : ((w.alloc (.cells (bodyC x).toArray 35)).alloc (.cells (bodyC zeroBody).toArray 35)).cell? ⟨w.heap.size, 1, none⟩ = some (.int .u64 (x.view : Int)) := R.view
 have HZ : Hid (OwAt w x zeroBody ((w.alloc (.cells (bodyC x).toArray 35)).alloc (.cells (bodyC zeroBody).toArray 35))) := iq ⟨(bl.alloc (Nat.le_refl _) _).alloc (by simp) _, by simp, World.rangeAt_alloc (range_box w (bodyC x) 35) _, by simpa using heap_alloc_new (w.alloc (.cells (bodyC x).toArray 35)) (.cells (bodyC zeroBody).toArray 35)⟩
 have HLE : Hid (0 + (bodyC { zeroBody with kind := 4, view := x.view }).length <= (bodyC zeroBody).length /\ setAll (bodyC zeroBody) 0 (bodyC { zeroBody with kind := 4, view := x.view }) = bodyC { zeroBody with kind := 4, view := x.view }) := iq ⟨by rw [bodyC_length zero_wf, bodyC_length ⟨rfl, rfl⟩]; omega, setAll_all (by rw [bodyC_length zero_wf, bodyC_length ⟨rfl, rfl⟩])⟩
 have HA : Hid (∀ W, Below w.heap.size w W -> Calls Tryz.prog 123 #[.slice x.qa x.qs.length x.qc] W fun E w' => E = .returned (.bool (prsMay x.qs)) /\ Below W.heap.size W w') := iq fun W h => mayPairs_ms x.qa x.qc x.qs W (hq.below h) hn
 clear hq hn
 clear R hx
 go_enter Tryz.func93, Tryz.ntmps93
 go_wp2_with ((refine wpList_store_part rfl 35 (.tmp 2) (.tmp 8) rfl (w.heap.size + 1) 0 (bodyC zeroBody) (bodyC { zeroBody with kind := 4, view := x.view }) (bodyC { zeroBody with kind := 4, view := x.view }) 35 HZ.out.own (HLE.out.1) (HLE.out.2) rfl rfl (HK.out _ ⟨rfl, rfl⟩) (one_bodyC _) ?_; intro w1 G1; have H1 := iq (HZ.out.grown G1.out); clear G1 HZ x0 x1; have y0 : w1.cell? ⟨w.heap.size, 0, none⟩ = some (.int .u8 4) := (body_lies H1.out.src HX.out).kind.trans (by rw [HKI.out]; rfl); have y1 : w1.cell? ⟨w.heap.size, 1, none⟩ = some (.int .u64 (x.view : Int)) := (body_lies H1.out.src HX.out).view; have y2 : w1.cell? ⟨w.heap.size, 2, none⟩ = some (.int .u64 (x.k : Int)) := (body_lies H1.out.src HX.out).k; have y43 : w1.cell? ⟨w.heap.size, 43, none⟩ = some (.slice x.qa x.qs.length x.qc) := (body_lies H1.out.src HX.out).q; have z2 : w1.cell? ⟨w.heap.size + 1, 2, none⟩ = some (.int .u64 0) := H1.out.cell 2 _ rfl; have z43 : w1.cell? ⟨w.heap.size + 1, 43, none⟩ = some (.slice none 0 0) := H1.out.cell 43 _ rfl; have hf := fun k => free_block H1.out.own k))
 have H2 := iq (H1.out.set 43 (.slice x.qa x.qs.length x.qc) (set_q _ _ _ _ rfl))
 clear H1 y0 y1 y2 y43 z2 z43 hf
 generalize w1.setCell ⟨w.heap.size + 1, 43, none⟩ (.slice x.qa x.qs.length x.qc) = w2 at H2 ⊢
 refine wp_region_any (by kernel_rfl) ?_
 have H3 := iq (H2.out.drewN 1)
 change wpAny _ _ _ _ _ _ _ (w2.drewN 1)
 generalize w2.drewN 1 = w3 at H3 ⊢
 refine wpAny_of_held (S := fun W => OwAt w x ({ zeroBody with kind := 4, view := x.view, qa := x.qa, qc := x.qc, qs := x.qs }) W) _ _ _ _ ?_
 refine tk 0 ⟨some 41, .load 35 (.tmp 2), _, _, _, none⟩ (.agg (bodyC ({ zeroBody with kind := 4, view := x.view, qa := x.qa, qc := x.qc, qs := x.qs })).toArray) rfl (by kernel_rfl) (fun _ _ _ => id) (H3.out) (fun W hSW => exec_load_mid 35 (.tmp 2) rfl (w.heap.size + 1) 0 rfl (bodyC ({ zeroBody with kind := 4, view := x.view, qa := x.qa, qc := x.qc, qs := x.qs })) _ (range_of hSW.own) Tryz.underlying35 rfl (HK.out _ ⟨rfl, rfl⟩)) ?_
 try simp only [Act.put, l0, l1, l2]
 refine tk 1 ⟨some 42, .fieldAddr 35 (.tmp 1) 1, _, _, _, none⟩ (.pointer (some ⟨w.heap.size, 1, none⟩)) rfl (by kernel_rfl) (fun _ _ _ => id) (H3.out) (fun W hSW => by go_simp) ?_
 try simp only [pu, l0, l1, l2]
 refine tk 2 ⟨some 43, .load 25 (.tmp 42), _, _, _, none⟩ (.int .u64 (x.view : Int)) rfl (by kernel_rfl) (fun _ _ _ => id) (H3.out) (fun W hSW => by have hv := (body_lies hSW.src HX.out).view; go_simp) ?_
 try simp only [pu, l0, l1, l2]
 refine tk 3 ⟨some 44, .binOp .geq 25 (.tmp 43) (.const (.int .u64 1)) 25, _, _, _, none⟩ (.bool false) rfl (by kernel_rfl) (fun _ _ _ => id) (H3.out) (fun W hSW => by go_simp) ?_
 try simp only [pu, l0, l1, l2]
 refine tk 4 ⟨some 45, .move (.tmp 44), _, _, _, none⟩ (.bool false) rfl (by kernel_rfl) (fun _ _ _ => id) (H3.out) (fun W hSW => by go_simp) ?_
 try simp only [pu, l0, l1, l2]
 refine sk 5 ⟨some 46, .fieldAddr 35 (.tmp 1) 4, _, _, _, some (4, true)⟩ rfl (by kernel_rfl) (fun _ _ _ => id) (H3.out) ?_
 try simp only [pu, l0, l1, l2]
 refine sk 6 ⟨some 47, .load 33 (.tmp 46), _, _, _, some (4, true)⟩ rfl (by kernel_rfl) (fun _ _ _ => id) (H3.out) ?_
 try simp only [pu, l0, l1, l2]
 refine sk 7 ⟨some 48, .call { callee := .value (.func 123), args := #[.tmp 47], argTypes := #[33] }, _, _, _, some (4, true)⟩ rfl (by kernel_rfl) (fun _ _ _ => id) (H3.out) ?_
 try simp only [pu, l0, l1, l2]
 refine tk 8 ⟨some 49, .pick (.tmp 45) (.tmp 48) (.const (.bool false)), _, _, _, none⟩ (.bool false) rfl (by kernel_rfl) (fun _ _ _ => id) (H3.out) (fun W hSW => by go_simp) ?_
 try simp only [pu, l0, l1, l2]
 refine rd1 9 ⟨none, .store 35 (.tmp 2) (.tmp 41), _, _, _, none⟩ (by kernel_rfl) rfl fun K' hK' => ?_
 refine step_store_cells rfl 35 (.tmp 2) (.tmp 41) rfl (w.heap.size + 1) 0 (bodyC ({ zeroBody with kind := 4, view := x.view, qa := x.qa, qc := x.qc, qs := x.qs })) rfl rfl (there_block H3.out.own 0 _ (by rw [Nat.zero_add]; exact Nat.le_refl _)) (HK.out _ ⟨rfl, rfl⟩) (one_bodyC _) ?_
 have H5 := iq (H3.out.same)
 refine hK'.out _ _ H5.out (fun _ => ?_)
 clear hK' K'
 refine tk 10 ⟨some 3, .assign (.tmp 49), _, _, _, none⟩ (.bool (false)) rfl (by kernel_rfl) (fun _ _ _ => id) (H5.out) (fun W hSW => by go_simp) ?_
 try simp only [Act.put, l0, l1, l2]
 refine wpAnyH_done (by kernel_rfl) ?_ _
 go_wp2_with fail
 exact bodyPost_ret (H5.out.res ⟨rfl, rfl⟩ rfl rfl) rfl ⟨rfl, iq H5.out.bel⟩
open Go.RowKit
theorem own_6 (x : MBody) (w : World) (hx : x.Wf) (HKI : Hid (x.kind = 6)) :
  Calls Tryz.prog 93 #[.agg (bodyC x).toArray] w fun E w' => E = .returned (.tuple #[.agg (bodyC ({ zeroBody with kind := 6, k := x.k, dig := x.dig })).toArray, .bool (isCnt x.k)]) /\ Hid (Below w.heap.size w w') := by
 have HK : Hid (∀ o : MBody, o.Wf -> (Tryz.prog.info? 35).map (·.size) = some (bodyC o).length) := iq fun o h => by rw [bodyC_length h]; exact Tryz.is35
 have HX := iq hx
 have hz : ∀ w, (zeroValue 35).run Tryz.prog w = .ok (.agg (bodyC zeroBody).toArray) w := zero_body
 have R := body_lies (World.rangeAt_alloc (range_box w (bodyC x) 35) (.cells (bodyC zeroBody).toArray 35)) hx
 have x0 : ((w.alloc (.cells (bodyC x).toArray 35)).alloc (.cells (bodyC zeroBody).toArray 35)).cell? ⟨w.heap.size, 0, none⟩ = some (.int .u8 6) := R.kind.trans (by rw [HKI.out]; rfl)
 have x1 : ((w.alloc (.cells (bodyC x).toArray 35)).alloc (.cells (bodyC zeroBody).toArray 35)).cell? ⟨w.heap.size, 1, none⟩ = some (.int .u64 (x.view : Int)) := R.view
 have HZ : Hid (OwAt w x zeroBody ((w.alloc (.cells (bodyC x).toArray 35)).alloc (.cells (bodyC zeroBody).toArray 35))) := iq ⟨(bl.alloc (Nat.le_refl _) _).alloc (by simp) _, by simp, World.rangeAt_alloc (range_box w (bodyC x) 35) _, by simpa using heap_alloc_new (w.alloc (.cells (bodyC x).toArray 35)) (.cells (bodyC zeroBody).toArray 35)⟩
 have HLE : Hid (0 + (bodyC { zeroBody with kind := 6, view := x.view }).length <= (bodyC zeroBody).length /\ setAll (bodyC zeroBody) 0 (bodyC { zeroBody with kind := 6, view := x.view }) = bodyC { zeroBody with kind := 6, view := x.view }) := iq ⟨by rw [bodyC_length zero_wf, bodyC_length ⟨rfl, rfl⟩]; omega, setAll_all (by rw [bodyC_length zero_wf, bodyC_length ⟨rfl, rfl⟩])⟩
 have HA := iq (isCount_ms x.k)
 have HIR : Hid ((Tryz.prog.info? 30).map (·.size) = some (u8s x.dig).length) := iq (by rw [u8s_length, hx.2]; exact Tryz.size30)
 have HSD : Hid (44 + (u8s x.dig).length <= (bodyC ({ zeroBody with kind := 6, k := x.k })).length /\ setAll (bodyC ({ zeroBody with kind := 6, k := x.k })) 44 (u8s x.dig) = bodyC ({ zeroBody with kind := 6, k := x.k, dig := x.dig })) := iq ⟨by rw [u8s_length, hx.2, bodyC_length ⟨rfl, rfl⟩]; decide, set_dig ({ zeroBody with kind := 6, k := x.k }) x.dig rfl rfl hx.2⟩
 clear R hx
 go_enter Tryz.func93, Tryz.ntmps93
 go_wp2_with ((refine wpList_store_part rfl 35 (.tmp 2) (.tmp 8) rfl (w.heap.size + 1) 0 (bodyC zeroBody) (bodyC { zeroBody with kind := 6, view := x.view }) (bodyC { zeroBody with kind := 6, view := x.view }) 35 HZ.out.own (HLE.out.1) (HLE.out.2) rfl rfl (HK.out _ ⟨rfl, rfl⟩) (one_bodyC _) ?_; intro w1 G1; have H1 := iq (HZ.out.grown G1.out); clear G1 HZ x0 x1; have y0 : w1.cell? ⟨w.heap.size, 0, none⟩ = some (.int .u8 6) := (body_lies H1.out.src HX.out).kind.trans (by rw [HKI.out]; rfl); have y1 : w1.cell? ⟨w.heap.size, 1, none⟩ = some (.int .u64 (x.view : Int)) := (body_lies H1.out.src HX.out).view; have y2 : w1.cell? ⟨w.heap.size, 2, none⟩ = some (.int .u64 (x.k : Int)) := (body_lies H1.out.src HX.out).k; have y43 : w1.cell? ⟨w.heap.size, 43, none⟩ = some (.slice x.qa x.qs.length x.qc) := (body_lies H1.out.src HX.out).q; have z2 : w1.cell? ⟨w.heap.size + 1, 2, none⟩ = some (.int .u64 0) := H1.out.cell 2 _ rfl; have z43 : w1.cell? ⟨w.heap.size + 1, 43, none⟩ = some (.slice none 0 0) := H1.out.cell 43 _ rfl; have hf := fun k => free_block H1.out.own k))
 refine wp_region_any (by kernel_rfl) ?_
 have H3 := iq (H1.out.drewN 1)
 clear H1 y0 y1 y2 y43 z2 z43 hf
 change wpAny _ _ _ _ _ _ _ (w1.drewN 1)
 generalize w1.drewN 1 = w3 at H3 ⊢
 refine wpAny_of_held (S := fun W => ∃ o, OwAt w x o W) _ _ _ _ ?_
 refine tk 0 ⟨some 52, .fieldAddr 35 (.tmp 1) 2, _, _, _, none⟩ (.pointer (some ⟨w.heap.size, 2, none⟩)) rfl (by kernel_rfl) (fun _ _ _ => id) (⟨_, H3.out⟩) (fun W hSW => by go_simp) ?_
 try simp only [Act.put, l0, l1, l2]
 refine tk 1 ⟨some 53, .load 25 (.tmp 52), _, _, _, none⟩ (.int .u64 (x.k : Int)) rfl (by kernel_rfl) (fun _ _ _ => id) (⟨_, H3.out⟩) (fun W hSW => by obtain ⟨o, hSW⟩ := hSW; have hv := (body_lies hSW.src HX.out).k; go_simp) ?_
 try simp only [pu, l0, l1, l2]
 refine tk 2 ⟨some 54, .fieldAddr 35 (.tmp 1) 5, _, _, _, none⟩ (.pointer (some ⟨w.heap.size, 44, none⟩)) rfl (by kernel_rfl) (fun _ _ _ => id) (⟨_, H3.out⟩) (fun W hSW => by go_simp) ?_
 try simp only [pu, l0, l1, l2]
 refine tk 3 ⟨some 55, .load 30 (.tmp 54), _, _, _, none⟩ (.agg (u8s x.dig).toArray) rfl (by kernel_rfl) (fun _ _ _ => id) (⟨_, H3.out⟩) (fun W hSW => exec_load_mid 30 (.tmp 54) rfl w.heap.size 44 rfl (u8s x.dig) _ ((body_lies (hSW.elim fun _ h => h.src) HX.out).dig) Tryz.underlying30 rfl (HIR.out)) ?_
 try simp only [pu, l0, l1, l2]
 refine tk 4 ⟨some 56, .fieldAddr 35 (.tmp 2) 1, _, _, _, none⟩ (.pointer (some ⟨w.heap.size + 1, 1, none⟩)) rfl (by kernel_rfl) (fun _ _ _ => id) (⟨_, H3.out⟩) (fun W hSW => by go_simp) ?_
 try simp only [pu, l0, l1, l2]
 have u1 : w3.cell? ⟨w.heap.size + 1, 1, none⟩ = some (.int .u64 (x.view : Int)) := H3.out.cell 1 _ rfl
 have uf1 := free_block H3.out.own 1
 refine rd1 5 ⟨none, .store 25 (.tmp 56) (.const (.int .u64 0)), _, _, _, none⟩ (by kernel_rfl) rfl fun K' hK' => ?_
 go_simp
 have H4 := iq (H3.out.set 1 (.int .u64 0) (o' := { zeroBody with kind := 6 }) rfl)
 refine hK'.out _ _ ⟨_, H4.out⟩ (fun _ => ?_)
 clear hK' K'
 clear u1 uf1
 generalize w3.setCell ⟨w.heap.size + 1, 1, none⟩ (.int .u64 0) = w4 at H4 ⊢
 refine tk 6 ⟨some 57, .fieldAddr 35 (.tmp 2) 2, _, _, _, none⟩ (.pointer (some ⟨w.heap.size + 1, 2, none⟩)) rfl (by kernel_rfl) (fun _ _ _ => id) (⟨_, H4.out⟩) (fun W hSW => by go_simp) ?_
 try simp only [Act.put, l0, l1, l2]
 have u2 : w4.cell? ⟨w.heap.size + 1, 2, none⟩ = some (.int .u64 0) := H4.out.cell 2 _ rfl
 have uf2 := free_block H4.out.own 2
 refine rd1 7 ⟨none, .store 25 (.tmp 57) (.tmp 53), _, _, _, none⟩ (by kernel_rfl) rfl fun K' hK' => ?_
 go_simp
 have H5 := iq (H4.out.set 2 (.int .u64 (x.k : Int)) (o' := { zeroBody with kind := 6, k := x.k }) rfl)
 refine hK'.out _ _ ⟨_, H5.out⟩ (fun _ => ?_)
 clear hK' K'
 clear u2 uf2
 generalize w4.setCell ⟨w.heap.size + 1, 2, none⟩ (.int .u64 (x.k : Int)) = w5 at H5 ⊢
 refine tk 8 ⟨some 58, .fieldAddr 35 (.tmp 2) 5, _, _, _, none⟩ (.pointer (some ⟨w.heap.size + 1, 44, none⟩)) rfl (by kernel_rfl) (fun _ _ _ => id) (⟨_, H5.out⟩) (fun W hSW => by go_simp) ?_
 try simp only [Act.put, l0, l1, l2]
 refine rd1 9 ⟨none, .store 30 (.tmp 58) (.tmp 55), _, _, _, none⟩ (by kernel_rfl) rfl fun K' hK' => ?_
 refine step_store_cells rfl 30 (.tmp 58) (.tmp 55) rfl (w.heap.size + 1) 44 (u8s x.dig) rfl rfl (there_block H5.out.own 44 _ HSD.out.1) HIR.out (u8s_one _) ?_
 have H6 : Hid (OwAt w x ({ zeroBody with kind := 6, k := x.k, dig := x.dig }) (w5.setCells (w.heap.size + 1) 44 (u8s x.dig))) := iq (H5.out.grown ⟨by rw [heap_setCells _ _ _ _ H5.out.own, HSD.out.2], gb_setCells _ _ _ _⟩)
 refine hK'.out _ _ ⟨_, H6.out⟩ (fun _ => ?_)
 clear hK' K'
 generalize w5.setCells (w.heap.size + 1) 44 (u8s x.dig) = w6 at H6 ⊢
 refine wpAnyH_done (by kernel_rfl) ?_ _
 go_wp2_with fail
 refine wp_region_any (by kernel_rfl) ?_
 have K3 := iq (H6.out.drewN 1)
 change wpAny _ _ _ _ _ _ _ (w6.drewN 1)
 generalize w6.drewN 1 = w8 at K3 ⊢
 refine wpAny_of_held (S := fun W => OwAt w x ({ zeroBody with kind := 6, k := x.k, dig := x.dig }) W) _ _ _ _ ?_
 refine tk 0 ⟨some 59, .load 35 (.tmp 2), _, _, _, none⟩ (.agg (bodyC ({ zeroBody with kind := 6, k := x.k, dig := x.dig })).toArray) rfl (by kernel_rfl) (fun _ _ _ => id) (K3.out) (fun W hSW => exec_load_mid 35 (.tmp 2) rfl (w.heap.size + 1) 0 rfl (bodyC ({ zeroBody with kind := 6, k := x.k, dig := x.dig })) _ (range_of hSW.own) Tryz.underlying35 rfl (HK.out _ ⟨rfl, HX.out.2⟩)) ?_
 try simp only [Act.put, l0, l1, l2]
 refine tk 1 ⟨some 60, .fieldAddr 35 (.tmp 1) 2, _, _, _, none⟩ (.pointer (some ⟨w.heap.size, 2, none⟩)) rfl (by kernel_rfl) (fun _ _ _ => id) (K3.out) (fun W hSW => by go_simp) ?_
 try simp only [pu, l0, l1, l2]
 refine tk 2 ⟨some 61, .load 25 (.tmp 60), _, _, _, none⟩ (.int .u64 (x.k : Int)) rfl (by kernel_rfl) (fun _ _ _ => id) (K3.out) (fun W hSW => by have hv := (body_lies hSW.src HX.out).k; go_simp) ?_
 try simp only [pu, l0, l1, l2]
 refine rd1 3 ⟨some 62, .call { callee := .value (.func 122), args := #[.tmp 61], argTypes := #[25] }, _, _, _, none⟩ (by kernel_rfl) rfl fun K' hK' => ?_
 go_simp
 go_at_call 122
 refine (HA.out w8).mono ?_
 rintro E w9 ⟨rfl, rfl⟩
 have K4 := K3
 skip
 refine hK'.out _ _ K4.out (fun _ => ?_)
 clear hK' K'
 try simp only [Act.put, l0, l1, l2]
 refine rd1 4 ⟨none, .store 35 (.tmp 2) (.tmp 59), _, _, _, none⟩ (by kernel_rfl) rfl fun K' hK' => ?_
 refine step_store_cells rfl 35 (.tmp 2) (.tmp 59) rfl (w.heap.size + 1) 0 (bodyC ({ zeroBody with kind := 6, k := x.k, dig := x.dig })) rfl rfl (there_block K4.out.own 0 _ (by rw [Nat.zero_add]; exact Nat.le_refl _)) (HK.out _ ⟨rfl, HX.out.2⟩) (one_bodyC _) ?_
 have K5 := iq (K4.out.same)
 refine hK'.out _ _ K5.out (fun _ => ?_)
 clear hK' K'
 refine tk 5 ⟨some 3, .assign (.tmp 62), _, _, _, none⟩ (.bool (isCnt x.k)) rfl (by kernel_rfl) (fun _ _ _ => id) (K5.out) (fun W hSW => by go_simp) ?_
 try simp only [Act.put, l0, l1, l2]
 refine wpAnyH_done (by kernel_rfl) ?_ _
 go_wp2_with fail
 exact bodyPost_ret (K5.out.res ⟨rfl, HX.out.2⟩ rfl rfl) rfl ⟨rfl, iq K5.out.bel⟩
open Go.RowKit
theorem ownOf_ms (x : MBody) (w : World) (hx : x.Wf) (hq : Prs w x.qa x.qs) (hn : x.qs.length <= 140737488355328) :
  Calls Tryz.prog 93 #[.agg (bodyC x).toArray] w fun E w' => E = .returned (.tuple #[.agg (bodyC (bodyOwn x)).toArray, .bool (kindMay x)]) /\ Hid (Below w.heap.size w w') := by
 by_cases h1 : x.kind = 1
 ·have e1 : bodyOwn x = { zeroBody with kind := 1, view := x.view, req := x.req } := by simp [bodyOwn, h1]
  have e2 : kindMay x = reqMay x.req := by simp [kindMay, h1]
  rw [e1, e2]
  exact own_1 x w hx (iq h1)
 by_cases h2 : x.kind = 2
 ·have e1 : bodyOwn x = { zeroBody with kind := 2, view := x.view, k := x.k } := by simp [bodyOwn, h2]
  have e2 : kindMay x = isCnt x.k := by simp [kindMay, h2]
  rw [e1, e2]
  exact own_2 x w hx (iq h2)
 by_cases h3 : x.kind = 3
 ·have e1 : bodyOwn x = { zeroBody with kind := 3, view := x.view } := by simp [bodyOwn, h3]
  have e2 : kindMay x = decide (1 <= x.view) := by simp [kindMay, h3]
  rw [e1, e2]
  exact own_3 x w hx (iq h3)
 by_cases h4 : x.kind = 4
 ·have e1 : bodyOwn x = { zeroBody with kind := 4, view := x.view, qa := x.qa, qc := x.qc, qs := x.qs } := by simp [bodyOwn, h4]
  by_cases hv : 1 <= x.view
  ·have e2 : kindMay x = prsMay x.qs := by simp [kindMay, h4, hv]
   rw [e1, e2]
   exact own_4 x w hx (iq h4) hq hn (by omega)
  ·have e2 : kindMay x = false := by simp [kindMay, h4, hv]
   rw [e1, e2]
   exact own_4n x w hx (iq h4) hq hn (by omega)
 by_cases h5 : x.kind = 5
 ·have e1 : bodyOwn x = { zeroBody with kind := 5, view := x.view } := by simp [bodyOwn, h5]
  have e2 : kindMay x = decide (1 <= x.view) := by simp [kindMay, h5]
  rw [e1, e2]
  exact own_5 x w hx (iq h5)
 by_cases h6 : x.kind = 6
 ·have e1 : bodyOwn x = { zeroBody with kind := 6, k := x.k, dig := x.dig } := by simp [bodyOwn, h6]
  have e2 : kindMay x = isCnt x.k := by simp [kindMay, h6]
  rw [e1, e2]
  exact own_6 x w hx (iq h6)
 ·have e1 : bodyOwn x = { zeroBody with kind := x.kind, view := x.view } := by simp [bodyOwn, h1, h2, h4, h6]
  have e2 : kindMay x = false := by simp [kindMay, h1, h2, h3, h4, h5, h6]
  rw [e1, e2]
  have hne : ∀ (n : UInt8) (z : Int), z = (n.toNat : Int) -> ¬ x.kind = n -> ¬ ((x.kind.toNat : Int) = z) := fun n z hz h e => h (UInt8.toNat_inj.1 (by omega))
  exact own_x x w hx (hne 1 _ rfl h1) (hne 2 _ rfl h2) (hne 3 _ rfl h3) (hne 4 _ rfl h4) (hne 5 _ rfl h5) (hne 6 _ rfl h6)
theorem own_prs {w : World} {x : MBody} (h : Prs w x.qa x.qs) : Prs w (bodyOwn x).qa (bodyOwn x).qs := by
 have hz : Prs w none [] := fun h => absurd h (by simp)
 unfold bodyOwn
 split
 ·exact hz
 split
 ·exact hz
 split
 ·exact h
 split
 ·exact hz
 ·exact hz
theorem own_len (x : MBody) : (bodyOwn x).qs.length <= x.qs.length := by
 unfold bodyOwn
 split
 ·exact Nat.zero_le _
 split
 ·exact Nat.zero_le _
 split
 ·exact Nat.le_refl _
 split
 ·exact Nat.zero_le _
 ·exact Nat.zero_le _
def MBody.may (x : MBody) : Prop := kindMay x = true /\ x.view < 1073741824 /\ x.same (bodyOwn x)
theorem mayBody_by (x : MBody) (w : World) (m z : Bool) (o : MBody) (hx : x.Wf) (ho : o.Wf)
  (A : ∀ W, Below w.heap.size w W -> Calls Tryz.prog 93 #[.agg (bodyC x).toArray] W fun E w' => E = .returned (.tuple #[.agg (bodyC o).toArray, .bool m]) /\ Hid (Below W.heap.size W w'))
  (B : ∀ W, Below w.heap.size w W -> Calls Tryz.prog 94 #[.agg (bodyC x).toArray, .agg (bodyC o).toArray] W fun E w' => E = .returned (.bool z) /\ Below W.heap.size W w') (v : Bool) (hv : v = decide ((x.view : Int) < 1073741824)) :
  Calls Tryz.prog 61 #[.agg (bodyC x).toArray] w fun E w' => E = .returned (.bool (m && (v && z))) /\ Hid (Below w.heap.size w w') := by
 have HA := iq A
 have HB := iq B
 have HX := iq hx
 have HIX : Hid ((Tryz.prog.info? 35).map (·.size) = some (bodyC x).length) := iq (by rw [bodyC_length hx]; exact Tryz.is35)
 have HIO : Hid ((Tryz.prog.info? 35).map (·.size) = some (bodyC o).length) := iq (by rw [bodyC_length ho]; exact Tryz.is35)
 have hz : ∀ w, (zeroValue 35).run Tryz.prog w = .ok (.agg (bodyC zeroBody).toArray) w := zero_body
 have HLE : Hid (0 + (bodyC o).length <= (bodyC zeroBody).length /\ setAll (bodyC zeroBody) 0 (bodyC o) = bodyC o) := iq ⟨by rw [bodyC_length zero_wf, bodyC_length ho]; omega, setAll_all (by rw [bodyC_length zero_wf, bodyC_length ho])⟩
 have R := range_box w (bodyC x) 35
 have HR : Hid (∀ W, Below (w.alloc (.cells (bodyC x).toArray 35)).heap.size (w.alloc (.cells (bodyC x).toArray 35)) W -> W.rangeAt w.heap.size 0 (bodyC x)) := iq fun W h => rangeAt_below R h (by simp)
 have HB0 : Hid (Below w.heap.size w (w.alloc (.cells (bodyC x).toArray 35))) := iq (bl.alloc (Nat.le_refl _) _)
 clear A B hx ho R
 go_enter Tryz.func61, Tryz.ntmps61
 cases m
 ·go_wp2_with (first | ((with_reducible refine wpList_load_midG ?_ 35 (.tmp 1) ?_ w.heap.size 0 ?_ (bodyC x) _ ?_ Tryz.underlying35 ?_ ?_ ?_); rfl; rfl; rfl; exact HR.out _ bl; rfl; exact HIX.out) | (go_at_call 93; refine (HA.out _ HB0.out).mono ?_; rintro E w1 ⟨rfl, hb1⟩; have HR2 : Hid ((w1.alloc (.cells (bodyC zeroBody).toArray 35)).heap[w1.heap.size]? = some (.cells (bodyC zeroBody).toArray 35 (0, 0))) := iq (heap_alloc_new _ _)) | (refine wpList_store_part rfl 35 (.tmp 3) (.tmp 8) rfl w1.heap.size 0 (bodyC zeroBody) (bodyC o) (bodyC o) 35 HR2.out HLE.out.1 HLE.out.2 rfl rfl HIO.out (one_bodyC _) ?_; intro w2 G2; have HBA2 : Hid (Below (w.alloc (.cells (bodyC x).toArray 35)).heap.size (w.alloc (.cells (bodyC x).toArray 35)) w2) := iq ((hb1.out.alloc hb1.out.size _).grown G2.out.2 (Nat.le_trans hb1.out.size (by simp)) (fun k hk => by injection hk with hk; rw [<- hk]; exact hb1.out.size)); have HB2 : Hid (Below w.heap.size w w2) := iq (HB0.out.trans (HBA2.out.mono (by simp))); have hv1 : w2.cell? ⟨w.heap.size, 1, none⟩ = some (.int .u64 (x.view : Int)) := (body_lies (HR.out _ HBA2.out) HX.out).view) | ((with_reducible refine wpList_load_midG ?_ 35 (.tmp 1) ?_ w.heap.size 0 ?_ (bodyC x) _ ?_ Tryz.underlying35 ?_ ?_ ?_); rfl; rfl; rfl; exact HR.out _ HBA2.out; rfl; exact HIX.out) | ((with_reducible refine wpList_load_midG ?_ 35 (.tmp 3) ?_ w1.heap.size 0 ?_ (bodyC o) _ ?_ Tryz.underlying35 ?_ ?_ ?_); rfl; rfl; rfl; exact range_of G2.out.1; rfl; exact HIO.out) | (go_at_call 94; refine (HB.out _ HB2.out).mono ?_; rintro E w3 ⟨rfl, hb3⟩))
  go_ret
  exact ⟨rfl, HB2⟩
 ·by_cases hvv : (x.view : Int) < 1073741824
  ·have hv2 := iq (hv.trans (decide_eq_true hvv))
   clear hv
   go_wp2_with (first | ((with_reducible refine wpList_load_midG ?_ 35 (.tmp 1) ?_ w.heap.size 0 ?_ (bodyC x) _ ?_ Tryz.underlying35 ?_ ?_ ?_); rfl; rfl; rfl; exact HR.out _ bl; rfl; exact HIX.out) | (go_at_call 93; refine (HA.out _ HB0.out).mono ?_; rintro E w1 ⟨rfl, hb1⟩; have HR2 : Hid ((w1.alloc (.cells (bodyC zeroBody).toArray 35)).heap[w1.heap.size]? = some (.cells (bodyC zeroBody).toArray 35 (0, 0))) := iq (heap_alloc_new _ _)) | (refine wpList_store_part rfl 35 (.tmp 3) (.tmp 8) rfl w1.heap.size 0 (bodyC zeroBody) (bodyC o) (bodyC o) 35 HR2.out HLE.out.1 HLE.out.2 rfl rfl HIO.out (one_bodyC _) ?_; intro w2 G2; have HBA2 : Hid (Below (w.alloc (.cells (bodyC x).toArray 35)).heap.size (w.alloc (.cells (bodyC x).toArray 35)) w2) := iq ((hb1.out.alloc hb1.out.size _).grown G2.out.2 (Nat.le_trans hb1.out.size (by simp)) (fun k hk => by injection hk with hk; rw [<- hk]; exact hb1.out.size)); have HB2 : Hid (Below w.heap.size w w2) := iq (HB0.out.trans (HBA2.out.mono (by simp))); have hv1 : w2.cell? ⟨w.heap.size, 1, none⟩ = some (.int .u64 (x.view : Int)) := (body_lies (HR.out _ HBA2.out) HX.out).view) | ((with_reducible refine wpList_load_midG ?_ 35 (.tmp 1) ?_ w.heap.size 0 ?_ (bodyC x) _ ?_ Tryz.underlying35 ?_ ?_ ?_); rfl; rfl; rfl; exact HR.out _ HBA2.out; rfl; exact HIX.out) | ((with_reducible refine wpList_load_midG ?_ 35 (.tmp 3) ?_ w1.heap.size 0 ?_ (bodyC o) _ ?_ Tryz.underlying35 ?_ ?_ ?_); rfl; rfl; rfl; exact range_of G2.out.1; rfl; exact HIO.out) | (go_at_call 94; refine (HB.out _ HB2.out).mono ?_; rintro E w3 ⟨rfl, hb3⟩))
   go_ret
   rw [hv2.out]
   exact ⟨rfl, iq (HB2.out.trans (hb3.mono HB2.out.size))⟩
  ·have hv2 := iq (hv.trans (decide_eq_false hvv))
   clear hv
   have hvn : ¬ x.view < 1073741824 := by omega
   have hvo : decide ((x.view : Int) < 1073741824) = false := decide_eq_false hvv
   go_wp2_with (first | ((with_reducible refine wpList_load_midG ?_ 35 (.tmp 1) ?_ w.heap.size 0 ?_ (bodyC x) _ ?_ Tryz.underlying35 ?_ ?_ ?_); rfl; rfl; rfl; exact HR.out _ bl; rfl; exact HIX.out) | (go_at_call 93; refine (HA.out _ HB0.out).mono ?_; rintro E w1 ⟨rfl, hb1⟩; have HR2 : Hid ((w1.alloc (.cells (bodyC zeroBody).toArray 35)).heap[w1.heap.size]? = some (.cells (bodyC zeroBody).toArray 35 (0, 0))) := iq (heap_alloc_new _ _)) | (refine wpList_store_part rfl 35 (.tmp 3) (.tmp 8) rfl w1.heap.size 0 (bodyC zeroBody) (bodyC o) (bodyC o) 35 HR2.out HLE.out.1 HLE.out.2 rfl rfl HIO.out (one_bodyC _) ?_; intro w2 G2; have HBA2 : Hid (Below (w.alloc (.cells (bodyC x).toArray 35)).heap.size (w.alloc (.cells (bodyC x).toArray 35)) w2) := iq ((hb1.out.alloc hb1.out.size _).grown G2.out.2 (Nat.le_trans hb1.out.size (by simp)) (fun k hk => by injection hk with hk; rw [<- hk]; exact hb1.out.size)); have HB2 : Hid (Below w.heap.size w w2) := iq (HB0.out.trans (HBA2.out.mono (by simp))); have hv1 : w2.cell? ⟨w.heap.size, 1, none⟩ = some (.int .u64 (x.view : Int)) := (body_lies (HR.out _ HBA2.out) HX.out).view) | ((with_reducible refine wpList_load_midG ?_ 35 (.tmp 1) ?_ w.heap.size 0 ?_ (bodyC x) _ ?_ Tryz.underlying35 ?_ ?_ ?_); rfl; rfl; rfl; exact HR.out _ HBA2.out; rfl; exact HIX.out) | ((with_reducible refine wpList_load_midG ?_ 35 (.tmp 3) ?_ w1.heap.size 0 ?_ (bodyC o) _ ?_ Tryz.underlying35 ?_ ?_ ?_); rfl; rfl; rfl; exact range_of G2.out.1; rfl; exact HIO.out) | (go_at_call 94; refine (HB.out _ HB2.out).mono ?_; rintro E w3 ⟨rfl, hb3⟩))
   go_ret
   rw [hv2.out]
   exact ⟨rfl, HB2⟩
theorem mayBody_ms (x : MBody) (w : World) (hx : x.Wf) (hq : Prs w x.qa x.qs) (hn : x.qs.length <= 140737488355328) :
  Calls Tryz.prog 61 #[.agg (bodyC x).toArray] w fun E w' => (∃ z, E = .returned (.bool z) /\ (z = true ↔ x.may)) /\ Hid (Below w.heap.size w w') := by
 have hS : ∀ W, Below w.heap.size w W -> Calls Tryz.prog 94 #[.agg (bodyC x).toArray, .agg (bodyC (bodyOwn x)).toArray] W fun E w' => (∃ z, E = .returned (.bool z) /\ (z = true ↔ x.same (bodyOwn x))) /\ Below W.heap.size W w' := fun W h =>
  same_ms x (bodyOwn x) W hx (bodyOwn_wf hx) (hq.below h) (own_prs (hq.below h)) hn (Nat.le_trans (own_len x) hn)
 have hO : ∀ W, Below w.heap.size w W -> Calls Tryz.prog 93 #[.agg (bodyC x).toArray] W fun E w' => E = .returned (.tuple #[.agg (bodyC (bodyOwn x)).toArray, .bool (kindMay x)]) /\ Hid (Below W.heap.size W w') := fun W h => ownOf_ms x W hx (hq.below h) hn
 by_cases hs : x.same (bodyOwn x)
 ·refine (mayBody_by x w (kindMay x) true (bodyOwn x) hx (bodyOwn_wf hx) hO (fun W h => (hS W h).mono fun E w' hE => ⟨bool_of hE.1 hs, hE.2⟩) (decide ((x.view : Int) < 1073741824)) rfl).mono fun E w' hE => ⟨⟨_, hE.1, ?_⟩, hE.2⟩
  simp only [Bool.and_true, Bool.and_eq_true, decide_eq_true_eq, MBody.may, hs, and_true]
  exact and_congr_right fun _ => by omega
 ·refine (mayBody_by x w (kindMay x) false (bodyOwn x) hx (bodyOwn_wf hx) hO (fun W h => (hS W h).mono fun E w' hE => ⟨bool_not hE.1 hs, hE.2⟩) (decide ((x.view : Int) < 1073741824)) rfl).mono fun E w' hE => ⟨⟨_, hE.1, ?_⟩, hE.2⟩
  simp only [Bool.and_false, MBody.may, hs, and_false, Bool.false_eq_true]
open Go.RowKit
theorem num_0 (m : MMsg) (i d : Nat) (w : World) (hm : m.Wf) (ho : m.origin = (i : Int) + 1) (hi : i < 11) (hd : m.deps[i]? = some d) (hn : isNum m.number = false) :
  Calls Tryz.prog 60 #[.agg (msgC m).toArray] w fun E w' => E = .returned (.bool (false)) /\ Hid (Below w.heap.size w w') := by
 have HM := iq hm
 have HN := iq (fun W => isNumber_ms m.number W)
 rw [hn] at HN
 have HX := iq (fun b o W h => max_ms m.deps b o W hm.1 h)
 have HD : Hid ((u64s m.deps)[i]? = some (.int .u64 (d : Int))) := iq (by simp [u64s, hd])
 have HI : Hid (IntKind.i64.wrap (m.origin - 1) = (i : Int) /\ i < 11) := iq ⟨by rw [IntKind.wrap_i64]; omega, hi⟩
 clear hm ho hi hd hn
 go_enter Tryz.func60, Tryz.ntmps60
 go_wp2_with fail
 refine wp_region_any (by kernel_rfl) ?_
 change wpAny _ _ _ _ _ _ _ ((w.alloc (.cells (msgC m).toArray 39)).drewN 1)
 have HQ : Hid (MsgLies ((w.alloc (.cells (msgC m).toArray 39)).drewN 1) w.heap.size m /\ Below w.heap.size w ((w.alloc (.cells (msgC m).toArray 39)).drewN 1) /\ w.heap.size < ((w.alloc (.cells (msgC m).toArray 39)).drewN 1).heap.size) := iq ⟨msg_lies (range_box w (msgC m) 39) HM.out, below_drewN (bl.alloc (Nat.le_refl _) _) 1, by simp⟩
 generalize (w.alloc (.cells (msgC m).toArray 39)).drewN 1 = w3 at HQ ⊢
 refine wpAny_of_held (S := fun W => Below w3.heap.size w3 W) _ _ _ _ ?_
 refine tk 0 ⟨some 3, .fieldAddr 39 (.tmp 1) 1, _, _, _, none⟩ (.pointer (some ⟨w.heap.size, 1, none⟩)) rfl (by kernel_rfl) (fun _ _ _ => id) bl (fun W hSW => by go_simp) ?_
 try simp only [Act.put, l0, l1, l2]
 refine tk 1 ⟨some 4, .load 25 (.tmp 3), _, _, _, none⟩ (.int .u64 (m.number : Int)) rfl (by kernel_rfl) (fun _ _ _ => id) bl (fun W hSW => by have hv := (hSW.cell (p := ⟨w.heap.size, 1, none⟩) HQ.out.2.2).trans HQ.out.1.number; go_simp) ?_
 try simp only [pu, l0, l1, l2]
 refine rd1 2 ⟨some 5, .call { callee := .value (.func 91), args := #[.tmp 4], argTypes := #[25] }, _, _, _, none⟩ (by kernel_rfl) rfl fun K' hK' => ?_
 go_simp
 go_at_call 91
 refine (HN.out w3).mono ?_
 rintro E w4 ⟨rfl, rfl⟩
 refine hK'.out _ _ bl (fun _ => ?_)
 clear hK' K'
 try simp only [Act.put, l0, l1, l2]
 refine tk 3 ⟨some 6, .move (.tmp 5), _, _, _, none⟩ (.bool false) rfl (by kernel_rfl) (fun _ _ _ => id) bl (fun W hSW => by go_simp) ?_
 try simp only [pu, l0, l1, l2]
 refine sk 4 ⟨some 7, .fieldAddr 39 (.tmp 1) 0, _, _, _, some (3, true)⟩ rfl (by kernel_rfl) (fun _ _ _ => id) bl ?_
 try simp only [pu, l0, l1, l2]
 refine sk 5 ⟨some 8, .load 3 (.tmp 7), _, _, _, some (3, true)⟩ rfl (by kernel_rfl) (fun _ _ _ => id) bl ?_
 try simp only [pu, l0, l1, l2]
 refine sk 6 ⟨some 9, .binOp .sub 3 (.tmp 8) (.const (.int .i64 1)) 3, _, _, _, some (3, true)⟩ rfl (by kernel_rfl) (fun _ _ _ => id) bl ?_
 try simp only [pu, l0, l1, l2]
 refine sk 7 ⟨some 10, .fieldAddr 39 (.tmp 1) 2, _, _, _, some (3, true)⟩ rfl (by kernel_rfl) (fun _ _ _ => id) bl ?_
 try simp only [pu, l0, l1, l2]
 refine sk 8 ⟨some 11, .indexAddr 37 (.tmp 10) (.tmp 9), _, _, _, some (3, true)⟩ rfl (by kernel_rfl) (fun _ _ _ => id) bl ?_
 try simp only [pu, l0, l1, l2]
 refine sk 9 ⟨some 12, .load 25 (.tmp 11), _, _, _, some (3, true)⟩ rfl (by kernel_rfl) (fun _ _ _ => id) bl ?_
 try simp only [pu, l0, l1, l2]
 refine sk 10 ⟨some 13, .fieldAddr 39 (.tmp 1) 1, _, _, _, some (3, true)⟩ rfl (by kernel_rfl) (fun _ _ _ => id) bl ?_
 try simp only [pu, l0, l1, l2]
 refine sk 11 ⟨some 14, .load 25 (.tmp 13), _, _, _, some (3, true)⟩ rfl (by kernel_rfl) (fun _ _ _ => id) bl ?_
 try simp only [pu, l0, l1, l2]
 refine sk 12 ⟨some 15, .binOp .sub 25 (.tmp 14) (.const (.int .u64 1)) 25, _, _, _, some (3, true)⟩ rfl (by kernel_rfl) (fun _ _ _ => id) bl ?_
 try simp only [pu, l0, l1, l2]
 refine sk 13 ⟨some 16, .binOp .eql 25 (.tmp 12) (.tmp 15) 25, _, _, _, some (3, true)⟩ rfl (by kernel_rfl) (fun _ _ _ => id) bl ?_
 try simp only [pu, l0, l1, l2]
 refine tk 14 ⟨some 17, .pick (.tmp 6) (.tmp 16) (.const (.bool false)), _, _, _, none⟩ (.bool false) rfl (by kernel_rfl) (fun _ _ _ => id) bl (fun W hSW => by go_simp) ?_
 try simp only [pu, l0, l1, l2]
 refine tk 15 ⟨some 18, .move (.tmp 17), _, _, _, none⟩ (.bool false) rfl (by kernel_rfl) (fun _ _ _ => id) bl (fun W hSW => by go_simp) ?_
 try simp only [pu, l0, l1, l2]
 refine sk 16 ⟨some 19, .fieldAddr 39 (.tmp 1) 2, _, _, _, some (15, true)⟩ rfl (by kernel_rfl) (fun _ _ _ => id) bl ?_
 try simp only [pu, l0, l1, l2]
 refine sk 17 ⟨some 20, .slice 37 (.tmp 19) none none none, _, _, _, some (15, true)⟩ rfl (by kernel_rfl) (fun _ _ _ => id) bl ?_
 try simp only [pu, l0, l1, l2]
 refine sk 18 ⟨some 21, .call { callee := .value (.func 92), args := #[.tmp 20], argTypes := #[62] }, _, _, _, some (15, true)⟩ rfl (by kernel_rfl) (fun _ _ _ => id) bl ?_
 try simp only [pu, l0, l1, l2]
 refine sk 19 ⟨some 22, .binOp .leq 25 (.tmp 21) (.const (.int .u64 65536)) 25, _, _, _, some (15, true)⟩ rfl (by kernel_rfl) (fun _ _ _ => id) bl ?_
 try simp only [pu, l0, l1, l2]
 refine tk 20 ⟨some 23, .pick (.tmp 18) (.tmp 22) (.const (.bool false)), _, _, _, none⟩ (.bool false) rfl (by kernel_rfl) (fun _ _ _ => id) bl (fun W hSW => by go_simp) ?_
 try simp only [pu, l0, l1, l2]
 refine tk 21 ⟨some 2, .assign (.tmp 23), _, _, _, none⟩ (.bool false) rfl (by kernel_rfl) (fun _ _ _ => id) bl (fun W hSW => by go_simp) ?_
 try simp only [pu, l0, l1, l2]
 refine wpAnyH_done (by kernel_rfl) ?_ _
 go_wp2_with fail
 go_ret
 exact ⟨rfl, iq HQ.out.2.1⟩
theorem num_1 (m : MMsg) (i d : Nat) (w : World) (hm : m.Wf) (ho : m.origin = (i : Int) + 1) (hi : i < 11) (hd : m.deps[i]? = some d) (hn : isNum m.number = true) (he : ¬ d = m.number - 1) :
  Calls Tryz.prog 60 #[.agg (msgC m).toArray] w fun E w' => E = .returned (.bool (false)) /\ Hid (Below w.heap.size w w') := by
 have HM := iq hm
 have HN := iq (fun W => isNumber_ms m.number W)
 rw [hn] at HN
 have HX := iq (fun b o W h => max_ms m.deps b o W hm.1 h)
 have HD : Hid ((u64s m.deps)[i]? = some (.int .u64 (d : Int))) := iq (by simp [u64s, hd])
 have HI : Hid (IntKind.i64.wrap (m.origin - 1) = (i : Int) /\ i < 11) := iq ⟨by rw [IntKind.wrap_i64]; omega, hi⟩
 have HU : Hid (IntKind.u64.wrap ((m.number : Int) - 1) = ((m.number - 1 : Nat) : Int)) := iq (by simp only [isNum, decide_eq_true_eq] at hn; unfold IntKind.wrap; simp [IntKind.bits, IntKind.signed]; omega)
 have HE : ¬ ((d : Int) = ((m.number - 1 : Nat) : Int)) := by omega
 clear hm ho hi hd hn he
 go_enter Tryz.func60, Tryz.ntmps60
 go_wp2_with fail
 refine wp_region_any (by kernel_rfl) ?_
 change wpAny _ _ _ _ _ _ _ ((w.alloc (.cells (msgC m).toArray 39)).drewN 1)
 have HQ : Hid (MsgLies ((w.alloc (.cells (msgC m).toArray 39)).drewN 1) w.heap.size m /\ Below w.heap.size w ((w.alloc (.cells (msgC m).toArray 39)).drewN 1) /\ w.heap.size < ((w.alloc (.cells (msgC m).toArray 39)).drewN 1).heap.size) := iq ⟨msg_lies (range_box w (msgC m) 39) HM.out, below_drewN (bl.alloc (Nat.le_refl _) _) 1, by simp⟩
 generalize (w.alloc (.cells (msgC m).toArray 39)).drewN 1 = w3 at HQ ⊢
 refine wpAny_of_held (S := fun W => Below w3.heap.size w3 W) _ _ _ _ ?_
 refine tk 0 ⟨some 3, .fieldAddr 39 (.tmp 1) 1, _, _, _, none⟩ (.pointer (some ⟨w.heap.size, 1, none⟩)) rfl (by kernel_rfl) (fun _ _ _ => id) bl (fun W hSW => by go_simp) ?_
 try simp only [Act.put, l0, l1, l2]
 refine tk 1 ⟨some 4, .load 25 (.tmp 3), _, _, _, none⟩ (.int .u64 (m.number : Int)) rfl (by kernel_rfl) (fun _ _ _ => id) bl (fun W hSW => by have hv := (hSW.cell (p := ⟨w.heap.size, 1, none⟩) HQ.out.2.2).trans HQ.out.1.number; go_simp) ?_
 try simp only [pu, l0, l1, l2]
 refine rd1 2 ⟨some 5, .call { callee := .value (.func 91), args := #[.tmp 4], argTypes := #[25] }, _, _, _, none⟩ (by kernel_rfl) rfl fun K' hK' => ?_
 go_simp
 go_at_call 91
 refine (HN.out w3).mono ?_
 rintro E w4 ⟨rfl, rfl⟩
 refine hK'.out _ _ bl (fun _ => ?_)
 clear hK' K'
 try simp only [Act.put, l0, l1, l2]
 refine tk 3 ⟨some 6, .move (.tmp 5), _, _, _, none⟩ (.bool true) rfl (by kernel_rfl) (fun _ _ _ => id) bl (fun W hSW => by go_simp) ?_
 try simp only [pu, l0, l1, l2]
 refine tk 4 ⟨some 7, .fieldAddr 39 (.tmp 1) 0, _, _, _, some (3, true)⟩ (.pointer (some ⟨w.heap.size, 0, none⟩)) rfl (by kernel_rfl) (fun _ _ _ => id) bl (fun W hSW => by go_simp) ?_
 try simp only [pu, l0, l1, l2]
 refine tk 5 ⟨some 8, .load 3 (.tmp 7), _, _, _, some (3, true)⟩ (.int .i64 m.origin) rfl (by kernel_rfl) (fun _ _ _ => id) bl (fun W hSW => by have hv := (hSW.cell (p := ⟨w.heap.size, 0, none⟩) HQ.out.2.2).trans HQ.out.1.origin; go_simp) ?_
 try simp only [pu, l0, l1, l2]
 refine tk 6 ⟨some 9, .binOp .sub 3 (.tmp 8) (.const (.int .i64 1)) 3, _, _, _, some (3, true)⟩ (.int .i64 (i : Int)) rfl (by kernel_rfl) (fun _ _ _ => id) bl (fun W hSW => by have hv := HI.out.1; go_simp) ?_
 try simp only [pu, l0, l1, l2]
 refine tk 7 ⟨some 10, .fieldAddr 39 (.tmp 1) 2, _, _, _, some (3, true)⟩ (.pointer (some ⟨w.heap.size, 2, none⟩)) rfl (by kernel_rfl) (fun _ _ _ => id) bl (fun W hSW => by go_simp) ?_
 try simp only [pu, l0, l1, l2]
 refine tk 8 ⟨some 11, .indexAddr 37 (.tmp 10) (.tmp 9), _, _, _, some (3, true)⟩ (.pointer (some ⟨w.heap.size, 2 + i, none⟩)) rfl (by kernel_rfl) (fun _ _ _ => id) bl (fun W hSW => by have hv : ¬ (11 <= (i : Int)) := (by have := HI.out.2; omega); go_simp) ?_
 try simp only [pu, l0, l1, l2]
 refine tk 9 ⟨some 12, .load 25 (.tmp 11), _, _, _, some (3, true)⟩ (.int .u64 (d : Int)) rfl (by kernel_rfl) (fun _ _ _ => id) bl (fun W hSW => by have hv := (hSW.cell (p := ⟨w.heap.size, 2 + i, none⟩) HQ.out.2.2).trans (HQ.out.1.deps i _ HD.out); go_simp) ?_
 try simp only [pu, l0, l1, l2]
 refine tk 10 ⟨some 13, .fieldAddr 39 (.tmp 1) 1, _, _, _, some (3, true)⟩ (.pointer (some ⟨w.heap.size, 1, none⟩)) rfl (by kernel_rfl) (fun _ _ _ => id) bl (fun W hSW => by go_simp) ?_
 try simp only [pu, l0, l1, l2]
 refine tk 11 ⟨some 14, .load 25 (.tmp 13), _, _, _, some (3, true)⟩ (.int .u64 (m.number : Int)) rfl (by kernel_rfl) (fun _ _ _ => id) bl (fun W hSW => by have hv := (hSW.cell (p := ⟨w.heap.size, 1, none⟩) HQ.out.2.2).trans HQ.out.1.number; go_simp) ?_
 try simp only [pu, l0, l1, l2]
 refine tk 12 ⟨some 15, .binOp .sub 25 (.tmp 14) (.const (.int .u64 1)) 25, _, _, _, some (3, true)⟩ (.int .u64 ((m.number - 1 : Nat) : Int)) rfl (by kernel_rfl) (fun _ _ _ => id) bl (fun W hSW => by have hv := HU.out; go_simp) ?_
 try simp only [pu, l0, l1, l2]
 refine tk 13 ⟨some 16, .binOp .eql 25 (.tmp 12) (.tmp 15) 25, _, _, _, some (3, true)⟩ (.bool false) rfl (by kernel_rfl) (fun _ _ _ => id) bl (fun W hSW => by have hv := HE; go_simp) ?_
 try simp only [pu, l0, l1, l2]
 refine tk 14 ⟨some 17, .pick (.tmp 6) (.tmp 16) (.const (.bool false)), _, _, _, none⟩ (.bool false) rfl (by kernel_rfl) (fun _ _ _ => id) bl (fun W hSW => by go_simp) ?_
 try simp only [pu, l0, l1, l2]
 refine tk 15 ⟨some 18, .move (.tmp 17), _, _, _, none⟩ (.bool false) rfl (by kernel_rfl) (fun _ _ _ => id) bl (fun W hSW => by go_simp) ?_
 try simp only [pu, l0, l1, l2]
 refine sk 16 ⟨some 19, .fieldAddr 39 (.tmp 1) 2, _, _, _, some (15, true)⟩ rfl (by kernel_rfl) (fun _ _ _ => id) bl ?_
 try simp only [pu, l0, l1, l2]
 refine sk 17 ⟨some 20, .slice 37 (.tmp 19) none none none, _, _, _, some (15, true)⟩ rfl (by kernel_rfl) (fun _ _ _ => id) bl ?_
 try simp only [pu, l0, l1, l2]
 refine sk 18 ⟨some 21, .call { callee := .value (.func 92), args := #[.tmp 20], argTypes := #[62] }, _, _, _, some (15, true)⟩ rfl (by kernel_rfl) (fun _ _ _ => id) bl ?_
 try simp only [pu, l0, l1, l2]
 refine sk 19 ⟨some 22, .binOp .leq 25 (.tmp 21) (.const (.int .u64 65536)) 25, _, _, _, some (15, true)⟩ rfl (by kernel_rfl) (fun _ _ _ => id) bl ?_
 try simp only [pu, l0, l1, l2]
 refine tk 20 ⟨some 23, .pick (.tmp 18) (.tmp 22) (.const (.bool false)), _, _, _, none⟩ (.bool false) rfl (by kernel_rfl) (fun _ _ _ => id) bl (fun W hSW => by go_simp) ?_
 try simp only [pu, l0, l1, l2]
 refine tk 21 ⟨some 2, .assign (.tmp 23), _, _, _, none⟩ (.bool false) rfl (by kernel_rfl) (fun _ _ _ => id) bl (fun W hSW => by go_simp) ?_
 try simp only [pu, l0, l1, l2]
 refine wpAnyH_done (by kernel_rfl) ?_ _
 go_wp2_with fail
 go_ret
 exact ⟨rfl, iq HQ.out.2.1⟩
theorem num_2 (m : MMsg) (i d : Nat) (w : World) (hm : m.Wf) (ho : m.origin = (i : Int) + 1) (hi : i < 11) (hd : m.deps[i]? = some d) (hn : isNum m.number = true) (he : d = m.number - 1) :
  Calls Tryz.prog 60 #[.agg (msgC m).toArray] w fun E w' => E = .returned (.bool (decide (maxTo m.deps 11 <= 65536))) /\ Hid (Below w.heap.size w w') := by
 have HM := iq hm
 have HN := iq (fun W => isNumber_ms m.number W)
 rw [hn] at HN
 have HX := iq (fun b o W h => max_ms m.deps b o W hm.1 h)
 have HD : Hid ((u64s m.deps)[i]? = some (.int .u64 (d : Int))) := iq (by simp [u64s, hd])
 have HI : Hid (IntKind.i64.wrap (m.origin - 1) = (i : Int) /\ i < 11) := iq ⟨by rw [IntKind.wrap_i64]; omega, hi⟩
 have HU : Hid (IntKind.u64.wrap ((m.number : Int) - 1) = ((m.number - 1 : Nat) : Int)) := iq (by simp only [isNum, decide_eq_true_eq] at hn; unfold IntKind.wrap; simp [IntKind.bits, IntKind.signed]; omega)
 have HE : ((d : Int) = ((m.number - 1 : Nat) : Int)) := by omega
 clear hm ho hi hd hn he
 go_enter Tryz.func60, Tryz.ntmps60
 go_wp2_with fail
 refine wp_region_any (by kernel_rfl) ?_
 change wpAny _ _ _ _ _ _ _ ((w.alloc (.cells (msgC m).toArray 39)).drewN 1)
 have HQ : Hid (MsgLies ((w.alloc (.cells (msgC m).toArray 39)).drewN 1) w.heap.size m /\ Below w.heap.size w ((w.alloc (.cells (msgC m).toArray 39)).drewN 1) /\ w.heap.size < ((w.alloc (.cells (msgC m).toArray 39)).drewN 1).heap.size) := iq ⟨msg_lies (range_box w (msgC m) 39) HM.out, below_drewN (bl.alloc (Nat.le_refl _) _) 1, by simp⟩
 generalize (w.alloc (.cells (msgC m).toArray 39)).drewN 1 = w3 at HQ ⊢
 refine wpAny_of_held (S := fun W => Below w3.heap.size w3 W) _ _ _ _ ?_
 refine tk 0 ⟨some 3, .fieldAddr 39 (.tmp 1) 1, _, _, _, none⟩ (.pointer (some ⟨w.heap.size, 1, none⟩)) rfl (by kernel_rfl) (fun _ _ _ => id) bl (fun W hSW => by go_simp) ?_
 try simp only [Act.put, l0, l1, l2]
 refine tk 1 ⟨some 4, .load 25 (.tmp 3), _, _, _, none⟩ (.int .u64 (m.number : Int)) rfl (by kernel_rfl) (fun _ _ _ => id) bl (fun W hSW => by have hv := (hSW.cell (p := ⟨w.heap.size, 1, none⟩) HQ.out.2.2).trans HQ.out.1.number; go_simp) ?_
 try simp only [pu, l0, l1, l2]
 refine rd1 2 ⟨some 5, .call { callee := .value (.func 91), args := #[.tmp 4], argTypes := #[25] }, _, _, _, none⟩ (by kernel_rfl) rfl fun K' hK' => ?_
 go_simp
 go_at_call 91
 refine (HN.out w3).mono ?_
 rintro E w4 ⟨rfl, rfl⟩
 refine hK'.out _ _ bl (fun _ => ?_)
 clear hK' K'
 try simp only [Act.put, l0, l1, l2]
 refine tk 3 ⟨some 6, .move (.tmp 5), _, _, _, none⟩ (.bool true) rfl (by kernel_rfl) (fun _ _ _ => id) bl (fun W hSW => by go_simp) ?_
 try simp only [pu, l0, l1, l2]
 refine tk 4 ⟨some 7, .fieldAddr 39 (.tmp 1) 0, _, _, _, some (3, true)⟩ (.pointer (some ⟨w.heap.size, 0, none⟩)) rfl (by kernel_rfl) (fun _ _ _ => id) bl (fun W hSW => by go_simp) ?_
 try simp only [pu, l0, l1, l2]
 refine tk 5 ⟨some 8, .load 3 (.tmp 7), _, _, _, some (3, true)⟩ (.int .i64 m.origin) rfl (by kernel_rfl) (fun _ _ _ => id) bl (fun W hSW => by have hv := (hSW.cell (p := ⟨w.heap.size, 0, none⟩) HQ.out.2.2).trans HQ.out.1.origin; go_simp) ?_
 try simp only [pu, l0, l1, l2]
 refine tk 6 ⟨some 9, .binOp .sub 3 (.tmp 8) (.const (.int .i64 1)) 3, _, _, _, some (3, true)⟩ (.int .i64 (i : Int)) rfl (by kernel_rfl) (fun _ _ _ => id) bl (fun W hSW => by have hv := HI.out.1; go_simp) ?_
 try simp only [pu, l0, l1, l2]
 refine tk 7 ⟨some 10, .fieldAddr 39 (.tmp 1) 2, _, _, _, some (3, true)⟩ (.pointer (some ⟨w.heap.size, 2, none⟩)) rfl (by kernel_rfl) (fun _ _ _ => id) bl (fun W hSW => by go_simp) ?_
 try simp only [pu, l0, l1, l2]
 refine tk 8 ⟨some 11, .indexAddr 37 (.tmp 10) (.tmp 9), _, _, _, some (3, true)⟩ (.pointer (some ⟨w.heap.size, 2 + i, none⟩)) rfl (by kernel_rfl) (fun _ _ _ => id) bl (fun W hSW => by have hv : ¬ (11 <= (i : Int)) := (by have := HI.out.2; omega); go_simp) ?_
 try simp only [pu, l0, l1, l2]
 refine tk 9 ⟨some 12, .load 25 (.tmp 11), _, _, _, some (3, true)⟩ (.int .u64 (d : Int)) rfl (by kernel_rfl) (fun _ _ _ => id) bl (fun W hSW => by have hv := (hSW.cell (p := ⟨w.heap.size, 2 + i, none⟩) HQ.out.2.2).trans (HQ.out.1.deps i _ HD.out); go_simp) ?_
 try simp only [pu, l0, l1, l2]
 refine tk 10 ⟨some 13, .fieldAddr 39 (.tmp 1) 1, _, _, _, some (3, true)⟩ (.pointer (some ⟨w.heap.size, 1, none⟩)) rfl (by kernel_rfl) (fun _ _ _ => id) bl (fun W hSW => by go_simp) ?_
 try simp only [pu, l0, l1, l2]
 refine tk 11 ⟨some 14, .load 25 (.tmp 13), _, _, _, some (3, true)⟩ (.int .u64 (m.number : Int)) rfl (by kernel_rfl) (fun _ _ _ => id) bl (fun W hSW => by have hv := (hSW.cell (p := ⟨w.heap.size, 1, none⟩) HQ.out.2.2).trans HQ.out.1.number; go_simp) ?_
 try simp only [pu, l0, l1, l2]
 refine tk 12 ⟨some 15, .binOp .sub 25 (.tmp 14) (.const (.int .u64 1)) 25, _, _, _, some (3, true)⟩ (.int .u64 ((m.number - 1 : Nat) : Int)) rfl (by kernel_rfl) (fun _ _ _ => id) bl (fun W hSW => by have hv := HU.out; go_simp) ?_
 try simp only [pu, l0, l1, l2]
 refine tk 13 ⟨some 16, .binOp .eql 25 (.tmp 12) (.tmp 15) 25, _, _, _, some (3, true)⟩ (.bool true) rfl (by kernel_rfl) (fun _ _ _ => id) bl (fun W hSW => by have hv := HE; go_simp) ?_
 try simp only [pu, l0, l1, l2]
 refine tk 14 ⟨some 17, .pick (.tmp 6) (.tmp 16) (.const (.bool false)), _, _, _, none⟩ (.bool true) rfl (by kernel_rfl) (fun _ _ _ => id) bl (fun W hSW => by go_simp) ?_
 try simp only [pu, l0, l1, l2]
 refine tk 15 ⟨some 18, .move (.tmp 17), _, _, _, none⟩ (.bool true) rfl (by kernel_rfl) (fun _ _ _ => id) bl (fun W hSW => by go_simp) ?_
 try simp only [pu, l0, l1, l2]
 refine tk 16 ⟨some 19, .fieldAddr 39 (.tmp 1) 2, _, _, _, some (15, true)⟩ (.pointer (some ⟨w.heap.size, 2, none⟩)) rfl (by kernel_rfl) (fun _ _ _ => id) bl (fun W hSW => by go_simp) ?_
 try simp only [pu, l0, l1, l2]
 refine tk 17 ⟨some 20, .slice 37 (.tmp 19) none none none, _, _, _, some (15, true)⟩ (.slice (some ⟨w.heap.size, 2, none⟩) 11 11) rfl (by kernel_rfl) (fun _ _ _ => id) bl (fun W hSW => by go_simp) ?_
 try simp only [pu, l0, l1, l2]
 refine rd1 18 ⟨some 21, .call { callee := .value (.func 92), args := #[.tmp 20], argTypes := #[62] }, _, _, _, some (15, true)⟩ (by kernel_rfl) rfl fun K' hK' => ?_
 go_simp
 go_at_call 92
 refine (HX.out w.heap.size 2 w3 HQ.out.1.deps).mono ?_
 rintro E w4 ⟨rfl, rfl⟩
 refine hK'.out _ _ bl (fun _ => ?_)
 clear hK' K'
 try simp only [Act.put, l0, l1, l2]
 refine tk 19 ⟨some 22, .binOp .leq 25 (.tmp 21) (.const (.int .u64 65536)) 25, _, _, _, some (15, true)⟩ (.bool (decide (maxTo m.deps 11 <= 65536))) rfl (by kernel_rfl) (fun _ _ _ => id) bl (fun W hSW => by go_simp; omega) ?_
 try simp only [pu, l0, l1, l2]
 refine tk 20 ⟨some 23, .pick (.tmp 18) (.tmp 22) (.const (.bool false)), _, _, _, none⟩ (.bool (decide (maxTo m.deps 11 <= 65536))) rfl (by kernel_rfl) (fun _ _ _ => id) bl (fun W hSW => by go_simp) ?_
 try simp only [pu, l0, l1, l2]
 refine tk 21 ⟨some 2, .assign (.tmp 23), _, _, _, none⟩ (.bool (decide (maxTo m.deps 11 <= 65536))) rfl (by kernel_rfl) (fun _ _ _ => id) bl (fun W hSW => by go_simp) ?_
 try simp only [pu, l0, l1, l2]
 refine wpAnyH_done (by kernel_rfl) ?_ _
 go_wp2_with fail
 go_ret
 exact ⟨rfl, iq HQ.out.2.1⟩
def MMsg.numMay (m : MMsg) : Prop := isNum m.number = true /\ m.deps[m.origin.toNat - 1]? = some (m.number - 1) /\ ∀ x ∈ m.deps, x <= 65536
theorem mayNumber_ms (m : MMsg) (w : World) (hm : m.Wf) (ho : isRepl m.origin = true) :
  Calls Tryz.prog 60 #[.agg (msgC m).toArray] w fun E w' => (∃ z, E = .returned (.bool z) /\ (z = true ↔ m.numMay)) /\ Hid (Below w.heap.size w w') := by
 have ho' : 1 <= m.origin /\ m.origin <= 11 := by simpa [isRepl] using ho
 obtain ⟨i, hi⟩ : ∃ i : Nat, m.origin = (i : Int) + 1 := ⟨m.origin.toNat - 1, by omega⟩
 have hi11 : i < 11 := by omega
 obtain ⟨d, hd⟩ : ∃ d, m.deps[i]? = some d := ⟨_, List.getElem?_eq_getElem (by rw [hm.1]; exact hi11)⟩
 have hii : m.origin.toNat - 1 = i := by omega
 cases hn : isNum m.number with
 | false => exact (num_0 m i d w hm hi hi11 hd hn).mono fun E w' hE => ⟨⟨_, hE.1, by simp [MMsg.numMay, hn]⟩, hE.2⟩
 | true =>
  by_cases he : d = m.number - 1
  ·refine (num_2 m i d w hm hi hi11 hd hn he).mono fun E w' hE => ⟨⟨_, hE.1, ?_⟩, hE.2⟩
   rw [decide_eq_true_eq, maxTo_le, List.take_of_length_le (by rw [hm.1]; exact Nat.le_refl _)]
   simp only [MMsg.numMay, hn, hii, hd, he, true_and]
  ·refine (num_1 m i d w hm hi hi11 hd hn he).mono fun E w' hE => ⟨⟨_, hE.1, ?_⟩, hE.2⟩
   simp only [MMsg.numMay, hn, hii, hd, Option.some.injEq, he, false_and, and_false, Bool.false_eq_true]
def MMsg.may (m : MMsg) : Prop := isRepl m.origin = true /\ m.numMay /\ m.body.may
theorem may_by (m : MMsg) (w : World) (hm : m.Wf) (r n b : Bool) (HR : Hid (∀ W, Calls Tryz.prog 59 #[.int .i64 m.origin] W fun E w' => E = .returned (.bool r) /\ W = w'))
  (HN : Hid (r = true -> ∀ W, Below w.heap.size w W -> Calls Tryz.prog 60 #[.agg (msgC m).toArray] W fun E w' => E = .returned (.bool n) /\ Hid (Below W.heap.size W w')))
  (HB : Hid (∀ W, Below w.heap.size w W -> Calls Tryz.prog 61 #[.agg (bodyC m.body).toArray] W fun E w' => E = .returned (.bool b) /\ Hid (Below W.heap.size W w'))) :
  Calls Tryz.prog 36 #[.agg (msgC m).toArray] w fun E w' => E = .returned (.bool (r && (n && b))) /\ Hid (Below w.heap.size w w') := by
 have L := msg_lies (range_box w (msgC m) 39) hm
 have c0 : (w.alloc (.cells (msgC m).toArray 39)).cell? ⟨w.heap.size, 0, none⟩ = some (.int .i64 m.origin) := L.origin
 have HL : Hid (∀ W, Below (w.alloc (.cells (msgC m).toArray 39)).heap.size (w.alloc (.cells (msgC m).toArray 39)) W -> W.rangeAt w.heap.size 0 (msgC m) /\ W.rangeAt w.heap.size 13 (bodyC m.body)) := iq fun W h => ⟨rangeAt_below L.all h (by simp), rangeAt_below L.body.all h (by simp)⟩
 have HA : Hid (Below w.heap.size w (w.alloc (.cells (msgC m).toArray 39))) := iq (bl.alloc (Nat.le_refl _) _)
 have HI : Hid ((Tryz.prog.info? 39).map (·.size) = some (msgC m).length) := iq (by rw [msgC_length hm]; exact Tryz.is39)
 have HJ : Hid ((Tryz.prog.info? 35).map (·.size) = some (bodyC m.body).length) := iq (by rw [bodyC_length hm.2.1]; exact Tryz.is35)
 clear L hm
 cases r
 ·go_enter Tryz.func36, Tryz.ntmps36
  go_wp2_with (first | (go_at_call 59; refine (HR.out _).mono ?_; rintro E w1 ⟨rfl, rfl⟩) | ((with_reducible refine wpList_load_midG ?_ 39 (.tmp 1) ?_ w.heap.size 0 ?_ (msgC m) _ ?_ Tryz.underlying39 ?_ ?_ ?_); rfl; rfl; rfl; exact (HL.out _ bl).1; rfl; exact HI.out) | (go_at_call 60; refine (HN.out (by simp) _ HA.out).mono ?_; rintro E w1 ⟨rfl, hb1⟩; have HB1 : Hid (Below w.heap.size w w1) := iq (HA.out.trans (hb1.out.mono HA.out.size))) | ((with_reducible refine wpList_load_midG ?_ 35 (.tmp 11) ?_ w.heap.size 13 ?_ (bodyC m.body) _ ?_ Tryz.underlying35 ?_ ?_ ?_); rfl; rfl; rfl; exact (HL.out _ hb1.out).2; rfl; exact HJ.out) | (go_at_call 61; refine (HB.out _ HB1.out).mono ?_; rintro E w2 ⟨rfl, hb2⟩))
  go_ret
  exact ⟨rfl, HA⟩
 ·cases n
  ·go_enter Tryz.func36, Tryz.ntmps36
   go_wp2_with (first | (go_at_call 59; refine (HR.out _).mono ?_; rintro E w1 ⟨rfl, rfl⟩) | ((with_reducible refine wpList_load_midG ?_ 39 (.tmp 1) ?_ w.heap.size 0 ?_ (msgC m) _ ?_ Tryz.underlying39 ?_ ?_ ?_); rfl; rfl; rfl; exact (HL.out _ bl).1; rfl; exact HI.out) | (go_at_call 60; refine (HN.out (by simp) _ HA.out).mono ?_; rintro E w1 ⟨rfl, hb1⟩; have HB1 : Hid (Below w.heap.size w w1) := iq (HA.out.trans (hb1.out.mono HA.out.size))) | ((with_reducible refine wpList_load_midG ?_ 35 (.tmp 11) ?_ w.heap.size 13 ?_ (bodyC m.body) _ ?_ Tryz.underlying35 ?_ ?_ ?_); rfl; rfl; rfl; exact (HL.out _ hb1.out).2; rfl; exact HJ.out) | (go_at_call 61; refine (HB.out _ HB1.out).mono ?_; rintro E w2 ⟨rfl, hb2⟩))
   go_ret
   exact ⟨rfl, HB1⟩
  ·go_enter Tryz.func36, Tryz.ntmps36
   go_wp2_with (first | (go_at_call 59; refine (HR.out _).mono ?_; rintro E w1 ⟨rfl, rfl⟩) | ((with_reducible refine wpList_load_midG ?_ 39 (.tmp 1) ?_ w.heap.size 0 ?_ (msgC m) _ ?_ Tryz.underlying39 ?_ ?_ ?_); rfl; rfl; rfl; exact (HL.out _ bl).1; rfl; exact HI.out) | (go_at_call 60; refine (HN.out (by simp) _ HA.out).mono ?_; rintro E w1 ⟨rfl, hb1⟩; have HB1 : Hid (Below w.heap.size w w1) := iq (HA.out.trans (hb1.out.mono HA.out.size))) | ((with_reducible refine wpList_load_midG ?_ 35 (.tmp 11) ?_ w.heap.size 13 ?_ (bodyC m.body) _ ?_ Tryz.underlying35 ?_ ?_ ?_); rfl; rfl; rfl; exact (HL.out _ hb1.out).2; rfl; exact HJ.out) | (go_at_call 61; refine (HB.out _ HB1.out).mono ?_; rintro E w2 ⟨rfl, hb2⟩))
   go_ret
   exact ⟨rfl, iq (HB1.out.trans (hb2.out.mono HB1.out.size))⟩
theorem calls_bool {P : Program} {f : Nat} {args : Array Value} {w : World} {Q : Prop} {K : World -> Prop} (h : Calls P f args w fun E w' => (∃ z, E = .returned (.bool z) /\ (z = true ↔ Q)) /\ K w') {z : Bool} (hz : z = true ↔ Q) : Calls P f args w fun E w' => E = .returned (.bool z) /\ K w' :=
 h.mono fun E w' hE => by
  obtain ⟨⟨y, rfl, hy⟩, hk⟩ := hE
  exact ⟨ret_bool (by rw [Bool.eq_iff_iff, hy, hz]), hk⟩
open Classical in
theorem may_ms (m : MMsg) (w : World) (hm : m.Wf) (hq : Prs w m.body.qa m.body.qs) (hn : m.body.qs.length <= 140737488355328) :
  Calls Tryz.prog 36 #[.agg (msgC m).toArray] w fun E w' => E = .returned (.bool (decide m.may)) /\ Hid (Below w.heap.size w w') := by
 refine (may_by m w hm (isRepl m.origin) (decide m.numMay) (decide m.body.may) (iq fun W => isReplica_ms m.origin W) (iq fun hr W _ => calls_bool (mayNumber_ms m W hm hr) (by simp)) (iq fun W h => calls_bool (mayBody_ms m.body W hm.2.1 (hq.below h) hn) (by simp))).mono fun E w' hE => ⟨hE.1.trans (ret_bool ?_), hE.2⟩
 rw [Bool.eq_iff_iff, decide_eq_true_iff]
 simp only [MMsg.may, Bool.and_eq_true, decide_eq_true_eq]
end Go.Proofs.YtknpcmadghkaaaaGreatDoor.Sh
