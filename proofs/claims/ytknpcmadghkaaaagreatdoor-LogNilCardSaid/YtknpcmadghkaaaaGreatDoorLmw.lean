/- Laws and walks. -/
import Derived.Test.YtknpcmadghkaaaaGreatDoorLiw
import Derived.Laws.CopyRow
import Derived.Laws.Shifts
set_option maxHeartbeats 16000000
set_option maxRecDepth 100000
namespace Go.Proofs.YtknpcmadghkaaaaGreatDoor.Sh
open Go.RowKit
theorem elem54 : Tryz.prog.underlying 54 = some (.slice (Tryz.prog.elem 54)) := by kernel_rfl
theorem size54 (W : World) : (sizeOf (Tryz.prog.elem 54)).run Tryz.prog W = .ok 40 W := by kernel_rfl
theorem slice_low (W : World) (a : Option Addr) (n c l : Nat) (h : l <= n) : (Instr.sliceAt 54 (.slice a n c) (some (.int .i64 (l : Int))) none none).run Tryz.prog W = .ok (sliced a l n c 40) W := by
 rw [run_sliceAt_slice W 54 _ _ _ _ elem54, run_slice_l W 54 a n c elem54 .i64 (l : Int) (by omega) (by omega), size54]
 rfl
theorem slice_high (W : World) (g n c h : Nat) (hc : h <= c) : (Instr.sliceAt 54 (.slice (some ⟨g, 0, none⟩) n c) none (some (.int .i64 (h : Int))) none).run Tryz.prog W = .ok (.slice (some ⟨g, 0, none⟩) h c) W := by
 rw [run_sliceAt_slice W 54 _ _ _ _ elem54, run_slice_h W 54 _ n c elem54 .i64 (h : Int) (by omega) (by omega), size54]
 have e : sliced (some ⟨g, 0, none⟩) 0 ((h : Int).toNat) c 40 = .slice (some ⟨g, 0, none⟩) h c := by
  unfold sliced
  rw [Int.toNat_natCast, Nat.zero_mul]
  simp [Addr.add]
 simp only [Result.andThen_ok, e]
theorem exec_sl {P : Program} {o : Oper} {f : Operand -> Value} {w : World} {t : TypeId} {x y : Operand} {u i r : Value} (ho : o.op = Op.slice t x (some y) none none) (hx : f x = u) (hy : f y = i) (hr : (Instr.sliceAt t u (some i) none none).run P w = .ok r w) : (execOp f o).run P w = .ok (.value r) w := by
 unfold execOp
 simp [ho, hx, hy, hr]
theorem exec_sh {P : Program} {o : Oper} {f : Operand -> Value} {w : World} {t : TypeId} {x y : Operand} {u i r : Value} (ho : o.op = Op.slice t x none (some y) none) (hx : f x = u) (hy : f y = i) (hr : (Instr.sliceAt t u none (some i) none).run P w = .ok r w) : (execOp f o).run P w = .ok (.value r) w := by
 unfold execOp
 simp [ho, hx, hy, hr]
theorem run_copy_zero (w : World) (ty : TypeId) (d a : Option Addr) (dLen dCap sLen sCap : Nat) (hn : Nat.min sLen dLen = 0) :
  (Builtin.copy_ #[54, 54] ty #[.slice d dLen dCap, .slice a sLen sCap]).run Tryz.prog w = .ok (goInt 0) w := by
 have hs : ((Tryz.prog.info? 32).map (·.size)) = some 40 := by kernel_rfl
 cases hq : Tryz.prog.info? 32 with
 | none => simp [hq] at hs
 | some i =>
  have hl : ∀ (x : Addr), (loadCells x 0).run Tryz.prog w = .ok #[] w := fun x => by simpa using run_loadCells_list (P := Tryz.prog) w x [] (by simp)
  cases d <;> cases a <;> simp [Builtin.copy_, run_underlying Tryz.underlying54, Builtin.lenOf, Builtin.firstCells, sizeOf, typeInfo, hq, hn, storeCells, hl]
theorem run_copy_some (w : World) (ty : TypeId) (g o dLen dCap : Nat) (a : Addr) (sLen sCap m : Nat) (cur : Array Value) (t : TypeId) (cs : List Value) (hm : m = Nat.min sLen dLen)
  (hg : w.heap[g]? = some (.cells cur t (0, 0))) (hn : cs.length = m * 40) (hsrc : ∀ j v, cs[j]? = some v -> w.cell? (a.add j) = some v) (hfit : o + cs.length <= cur.size) (h1 : ∀ v ∈ cs, v.oneCell' = true) :
  (Builtin.copy_ #[54, 54] ty #[.slice (some ⟨g, o, none⟩) dLen dCap, .slice (some a) sLen sCap]).run Tryz.prog w =
   .ok (goInt m) (w.setRow g (cur.toList.take o ++ cs ++ cur.toList.drop (o + cs.length)).toArray) := by
 have hl := run_loadCells_list (P := Tryz.prog) w a cs hsrc
 have hst := run_storeCells_at Tryz.prog g o t cs 0 cur w hg (by simpa using hfit) h1
 have hs : ((Tryz.prog.info? 32).map (·.size)) = some 40 := by kernel_rfl
 cases hq : Tryz.prog.info? 32 with
 | none => simp [hq] at hs
 | some i =>
  have hi : i.size = 40 := by simpa [hq] using hs
  simp [Builtin.copy_, run_underlying Tryz.underlying54, Builtin.lenOf, Builtin.firstCells, sizeOf, typeInfo, hq, hi, <- hm, <- hn, hl, hst]
theorem run_copyR (w : World) (ty : TypeId) (B l f n : Nat) (src : Value) (p c : Nat) (xs : List Value) (hl : l <= f) (hfn : f <= n) (hp : f - l <= p) (hr : w.ownsRow 0 32 40 src p xs) (hsrc : ∃ A, src = .slice A p c) (C : List Value) (hC : w.heap[B]? = some (.cells C.toArray 32 (0, 0))) (hn : C.length = n * 40) (h1 : ∀ v ∈ xs, v.oneCell' = true) :
  ∃ w', (Builtin.copy_ #[54, 54] ty #[sliced (some ⟨B, 0, none⟩) l f n 40, src]).run Tryz.prog w = .ok (goInt ((f - l : Nat) : Int)) w' /\ w'.heap[B]? = some (.cells (C.take (l * 40) ++ xs.take ((f - l) * 40) ++ C.drop (f * 40)).toArray 32 (0, 0)) /\ w.grownBy w' (some B) := by
 obtain ⟨A, rfl⟩ := hsrc
 have hlen := hr.1
 by_cases h0 : f - l = 0
 ·have e : f = l := by omega
  subst e
  refine ⟨w, ?_, ?_, World.grownBy.refl w _⟩
  ·unfold sliced
   rw [h0]
   exact run_copy_zero w ty _ _ 0 _ p _ (Nat.min_zero p)
  ·rw [Nat.sub_self, Nat.zero_mul, List.take_zero, List.append_nil, List.take_append_drop]; exact hC
 ·obtain ⟨g, cap, e, _, hg, _⟩ := ownsRow_some hr (by omega)
  injection e with e1 e2 e3
  subst e1 e3
  have hcs : (xs.take ((f - l) * 40)).length = (f - l) * 40 := by rw [List.length_take, hlen]; exact Nat.min_eq_left (Nat.mul_le_mul_right _ hp)
  have hrun := run_copy_some w ty B (l * 40) (f - l) (n - l) ⟨g, 0, none⟩ p c (f - l) C.toArray 32 (xs.take ((f - l) * 40)) (by simp [Nat.min_def]; omega) hC hcs
   (fun j v hv => by
    rw [add_at]
    have := hg j v (by
     have hj := (List.getElem?_eq_some_iff.1 hv).1
     rw [List.getElem?_take_of_lt (by omega)] at hv
     exact hv)
    rwa [Nat.zero_add] at this) (by rw [hcs]; simp only [List.size_toArray, hn]; omega) (fun v hv => h1 v (List.mem_of_mem_take hv))
  have e9 : (C.toArray.toList.take (l * 40) ++ xs.take ((f - l) * 40) ++ C.toArray.toList.drop (l * 40 + (xs.take ((f - l) * 40)).length)).toArray = (C.take (l * 40) ++ xs.take ((f - l) * 40) ++ C.drop (f * 40)).toArray := by
   rw [hcs]
   congr 2
   show C.drop _ = C.drop _
   congr 1
   omega
  rw [e9] at hrun
  refine ⟨w.setRow B (C.take (l * 40) ++ xs.take ((f - l) * 40) ++ C.drop (f * 40)).toArray, ?_, setRow_heap w B C.toArray _ 32 (0, 0) hC, gb_setRow _ _ _⟩
  have e : sliced (some ⟨B, 0, none⟩) l f n 40 = .slice (some ⟨B, l * 40, none⟩) (f - l) (n - l) := by
   unfold sliced
   rw [if_neg (by omega)]
   simp [add_at]
  rw [e]
  exact hrun
open Go.RowKit
theorem wpList_exec {P : Program} {ops : Array Oper} {rest : List Oper} {o : Oper} {a : Act} {w : World} {Q : Exit -> Act -> World -> Prop} (hgd : o.guard = none) {v : Value} (hr : (execOp a.eval o).run P w = .ok (.value v) w) (h : wpList P ops Q rest (a.put o.dst v) w) : wpList P ops Q (o :: rest) a w :=
 wpList_plain hgd fun K hK => by
  unfold Oper.wp
  rw [hr]
  exact hK _ _ h
theorem wpList_run {P : Program} {ops : Array Oper} {rest : List Oper} {o : Oper} {a : Act} {w : World} {Q : Exit -> Act -> World -> Prop} (hgd : o.guard = none) {v : Value} {w' : World} (hr : (execOp a.eval o).run P w = .ok (.value v) w') (h : wpList P ops Q rest (a.put o.dst v) w') : wpList P ops Q (o :: rest) a w :=
 wpList_plain hgd fun K hK => by
  unfold Oper.wp
  rw [hr]
  exact hK _ _ h
theorem step_run {P : Program} {ops : Array Oper} {o : Oper} {a : Act} {w : World} {K : Act -> World -> Prop} {Q : Exit -> Act -> World -> Prop} {E : Prop} (hgd : o.guard = none) {v : Value} {w' : World} (hr : (execOp a.eval o).run P w = .ok (.value v) w') (h : K (a.put o.dst v) w') : if Region.wanted o (yielded ops a.tmps) = true then Oper.wp P o a w K Q else E := by
 have hw : Region.wanted o (yielded ops a.tmps) = true := by simp [Region.wanted, hgd]
 rw [if_pos hw]
 unfold Oper.wp
 rw [hr]
 exact h
theorem exec_copy {P : Program} {o : Oper} {f : Operand -> Value} {w w' : World} {t s : TypeId} {x y : Operand} {u v r : Value} (ho : o.op = Op.call { callee := Callee.builtin Builtin.copy, args := #[x, y], argTypes := #[t, s] }) (hx : f x = u) (hy : f y = v) (hr : (Builtin.copy_ #[t, s] o.type #[u, v]).run P w = .ok r w') : (execOp f o).run P w = .ok (.value r) w' := by
 unfold execOp
 simp only [ho, resolve, invoke, builtin, Sem.run_bind, Sem.run_pure, Result.andThen_ok, List.map_toArray, List.map_cons, List.map_nil, hx, hy, hr]
theorem exec_make {P : Program} {o : Oper} {f : Operand -> Value} {w w' : World} {t : TypeId} {x y : Operand} {u v r : Value} (ho : o.op = Op.makeSlice t x y) (hx : f x = u) (hy : f y = v) (hr : (Instr.makeSlice t u v).run P w = .ok r w') : (execOp f o).run P w = .ok (.value r) w' := by
 unfold execOp
 simp only [ho, hx, hy, Sem.run_bind, hr, Result.andThen_ok, Sem.run_pure]
theorem LogFr.front {v W : World} {A : LA} {M : MLogs} {o : Thing} {os : List Thing} (H : LogFr v W A M (o :: os)) : Fr v W (o :: ([hdT A M] ++ (pT A.sa M.strs ++ (cT A.sa M.strs ++ (vT A.va M.vs ++ os))))) := by
 refine H.fr.perm ?_
 rw [<- List.append_assoc, <- List.append_assoc, <- List.append_assoc, <- List.append_assoc, <- List.append_assoc, <- List.append_assoc]
 exact List.perm_middle
theorem LogFr.push {v W W' : World} {A : LA} {M : MLogs} {o : Thing} {os : List Thing} (h : LogFr v W A M os) (H : Fr v W' (o :: ([hdT A M] ++ (pT A.sa M.strs ++ (cT A.sa M.strs ++ (vT A.va M.vs ++ os)))))) : LogFr v W' A M (o :: os) := by
 refine ⟨H.perm ?_, h.ls, h.lv, h.ok⟩
 rw [<- List.append_assoc, <- List.append_assoc, <- List.append_assoc, <- List.append_assoc, <- List.append_assoc, <- List.append_assoc]
 exact List.perm_middle.symm
theorem LogFr.pop {v W : World} {A : LA} {M : MLogs} {o : Thing} {os : List Thing} (H : LogFr v W A M (o :: os)) : LogFr v W A M os := ⟨H.front.pop, H.ls, H.lv, H.ok⟩
theorem LogFr.top {v W : World} {A : LA} {M : MLogs} {o : Thing} {os : List Thing} (H : LogFr v W A M (o :: os)) : o.P W := H.front.hd
theorem Tryz.infReq : (Tryz.prog.info? 32).map (fun i => (i.zero, i.size, i.bytes)) = some (some (.agg (reqC zeroReq).toArray), 40, 128) := by kernel_rfl
def zRow (n : Nat) : List Value := (madeCells (Value.agg (reqC zeroReq).toArray).cells (n * 40)).toList
theorem zRow_length (n : Nat) : (zRow n).length = n * 40 := by simp [zRow, madeCells]
theorem make_reqs (n : Nat) (hn : n <= 1000000000) (w : World) : (Instr.makeSlice 54 (.int .i64 (n : Int)) (.int .i64 (n : Int))).run Tryz.prog w = .ok (.slice (some ⟨w.heap.size, 0, none⟩) n n) (w.alloc (.cells (zRow n).toArray 32)) := by
 obtain ⟨i0, hi, hz0, hz1, hz2⟩ := info_parts Tryz.infReq
 have hr := run_make (P := Tryz.prog) w 54 32 i0 _ Tryz.underlying54 hi hz0 .i64 .i64 (n : Int) (n : Int) (by omega) (Int.le_refl _) (by rw [hz2]; omega) (by omega)
 rw [hz1] at hr
 simp only [Int.toNat_natCast] at hr
 rw [hr, zRow]
def flatR (l : List MReq) : List Value := l.flatMap reqC
theorem flatR_length {l : List MReq} (h : ∀ r ∈ l, r.tag.length = 32) : (flatR l).length = l.length * 40 := by
 induction l with
 | nil => rfl
 | cons r t ih =>
  have e : flatR (r :: t) = reqC r ++ flatR t := rfl
  rw [e, List.length_append, ih fun x hx => h x (List.mem_cons_of_mem _ hx), reqC_length (h r (List.mem_cons_self ..)), List.length_cons]
  omega
theorem flatR_app (l m : List MReq) : flatR (l ++ m) = flatR l ++ flatR m := by simp [flatR]
theorem flatR_take {l : List MReq} (h : ∀ r ∈ l, r.tag.length = 32) (n : Nat) : (flatR l).take (n * 40) = flatR (l.take n) := by
 by_cases hn : n <= l.length
 ·have e : l = l.take n ++ l.drop n := (List.take_append_drop n l).symm
  have hl : (flatR (l.take n)).length = n * 40 := by rw [flatR_length fun r hr => h r (List.mem_of_mem_take hr), List.length_take, Nat.min_eq_left hn]
  conv => lhs; rw [e, flatR_app]
  rw [List.take_append_of_le_length (by omega), List.take_of_length_le (by omega)]
 ·rw [List.take_of_length_le (by rw [flatR_length h]; omega), List.take_of_length_le (by omega)]
theorem flatR_one (l : List MReq) : ∀ v ∈ flatR l, v.oneCell' = true := by
 intro v hv
 obtain ⟨r, _, h⟩ := List.mem_flatMap.1 hv
 exact one_reqC r v h
theorem flatP (V : MV) : (V.P.flatMap fun p => reqC p.2) = flatR (V.P.map (·.2)) := by simp [flatR, List.flatMap_map]
def TellAt (v : World) (A : LA) (M : MLogs) (os : List Thing) (B : Nat) (l : List MReq) (f : Nat) (v0 : Value) (W : World) : Prop :=
 ∃ C : List Value, LogFr v W A M (blkT B C.toArray 32 :: os) /\ C.length = l.length * 40 /\ C.drop (f * 40) = flatR (l.drop f) /\ f <= l.length /\
  ((v0 = .pointer none /\ f = 0) \/ ∃ (i : Nat) (a : VA) (U : MV), v0 = .pointer (some ⟨a.b, 0, none⟩) /\ A.va[i]? = some a /\ M.vs[i]? = some U /\ U.S.length <= f /\ f <= U.log.length /\ U.log.take f = l.take f)
theorem tell_next {v W W' : World} {A : LA} {M : MLogs} {os : List Thing} {B : Nat} {l : List MReq} {f : Nat} {C : List Value} (H : LogFr v W A M (blkT B C.toArray 32 :: os)) (hl : C.length = l.length * 40) (hd : C.drop (f * 40) = flatR (l.drop f)) (hf : f <= l.length) (hw : ∀ r ∈ l, r.tag.length = 32)
  {i : Nat} {a : VA} {U : MV} (h1 : A.va[i]? = some a) (h2 : M.vs[i]? = some U) (hs : U.S.length <= f) (ht : U.log.take f = l.take f)
  (hB : W'.heap[B]? = some (.cells (C.take (U.S.length * 40) ++ (flatR (U.P.map (·.2))).take ((f - U.S.length) * 40) ++ C.drop (f * 40)).toArray 32 (0, 0))) (hg : W.grownBy W' (some B)) :
  TellAt v A M os B l U.S.length (ptO (sbO A.va U)) W' /\ vidx A.va (ptO (sbO A.va U)) < vidx A.va (.pointer (some ⟨a.b, 0, none⟩)) := by
 have hUw : ∀ r ∈ U.P.map (·.2), r.tag.length = 32 := fun r hr => ((H.ok.vw i U h2).wf r (List.mem_append_right _ hr)).1
 have hE : (U.P.map (·.2)).take (f - U.S.length) = (l.take f).drop U.S.length := by
  rw [<- ht]
  unfold MV.log
  rw [List.take_append, List.take_of_length_le hs, List.drop_left]
 have hF : LogFr v W' A M (blkT B (C.take (U.S.length * 40) ++ (flatR (U.P.map (·.2))).take ((f - U.S.length) * 40) ++ C.drop (f * 40)).toArray 32 :: os) :=
  H.pop.push (H.front.turn (o' := blkT B (C.take (U.S.length * 40) ++ (flatR (U.P.map (·.2))).take ((f - U.S.length) * 40) ++ C.drop (f * 40)).toArray 32) (Own.same ((Turns.refl _ W).grown hg fun g e => by cases e; exact .inl rfl)) hB (blkT_ok _ _ _))
 have hlen : ((flatR (U.P.map (·.2))).take ((f - U.S.length) * 40)).length = (f - U.S.length) * 40 := by
  rw [flatR_take hUw, hE, flatR_length fun r hr => hw r (List.mem_of_mem_take (List.mem_of_mem_drop hr)), List.length_drop, List.length_take]
  rw [Nat.min_eq_left hf]
 have hCl : (C.take (U.S.length * 40)).length = U.S.length * 40 := by rw [List.length_take, hl]; omega
 have hdr : (C.take (U.S.length * 40) ++ (flatR (U.P.map (·.2))).take ((f - U.S.length) * 40) ++ C.drop (f * 40)).drop (U.S.length * 40) = flatR (l.drop U.S.length) := by
  rw [List.append_assoc, List.drop_append_of_le_length (by omega), List.drop_of_length_le (by omega), List.nil_append, hd, flatR_take hUw, hE, <- flatR_app]
  congr 1
  have e : l.drop U.S.length = ((l.take f) ++ l.drop f).drop U.S.length := by rw [List.take_append_drop]
  rw [e, List.drop_append_of_le_length (by rw [List.length_take]; omega)]
 have hl2 : (C.take (U.S.length * 40) ++ (flatR (U.P.map (·.2))).take ((f - U.S.length) * 40) ++ C.drop (f * 40)).length = l.length * 40 := by
  rw [List.length_append, List.length_append, hCl, hlen, List.length_drop, hl]
  omega
 rw [H.vidx h1]
 rcases H.src h2 with ⟨e, hS⟩ | ⟨j, c, X, e, hj, hc, hX, hlX, hp⟩
 ·rw [e]
  exact ⟨⟨_, hF, hl2, hdr, by omega, .inl ⟨rfl, by rw [hS]; rfl⟩⟩, by show 0 < _; omega⟩
 ·rw [e, H.vidx hc]
  refine ⟨⟨_, hF, hl2, hdr, by omega, .inr ⟨j, c, X, rfl, hc, hX, Nat.le_of_lt hlX, hp.length_le, ?_⟩⟩, by omega⟩
  have e1 : X.log.take U.S.length = U.S := by
   obtain ⟨t, ht⟩ := hp
   rw [<- ht, List.take_left]
  have e2 : l.take U.S.length = (l.take f).take U.S.length := by rw [List.take_take, Nat.min_eq_left hs]
  rw [e1, e2, <- ht, List.take_take, Nat.min_eq_left hs]
  unfold MV.log
  rw [List.take_left]
theorem log_view {v w : World} {A : LA} {M : MLogs} {os : List Thing} (H : LogFr v w A M os) (hT : tot M.vs <= 1000000000) {i : Nat} {a : VA} {V : MV} (ha : A.va[i]? = some a) (hV : M.vs[i]? = some V) :
  Calls Tryz.prog 44 #[.pointer (some ⟨a.b, 0, none⟩)] w fun E w' => ∃ B, E = .returned (.slice (some ⟨B, 0, none⟩) V.log.length V.log.length) /\ LogFr v w' A M (blkT B (flatR V.log).toArray 32 :: os) := by
 have HLen := Nat.le_trans (H.ok.len' hV) hT
 have hLg := length_any (H.vw ha hV) (by omega)
 have HW : Hid (∀ r ∈ V.log, r.tag.length = 32) := iq fun r hr => ((H.ok.vw i V hV).wf r hr).1
 have HLF := iq H
 obtain ⟨l, hl⟩ : ∃ l, l = V.log := ⟨_, rfl⟩
 have HSl : Hid (V.S.length <= l.length) := iq (by rw [hl, log_length]; omega)
 have HV2 := iq hV
 have HA := iq ha
 have HLv := iq hl
 rw [<- hl] at hLg HW HLen ⊢
 obtain ⟨n, hn⟩ : ∃ n, n = l.length := ⟨_, rfl⟩
 rw [<- hn] at hLg HLen ⊢
 have HN := iq hn
 have HG := iq hLg
 have HMk := iq (make_reqs n HLen)
 have HLe := iq HLen
 clear H hT ha hV hl hn hLg HLen
 go_enter Tryz.func44, Tryz.ntmps44
 go_wp2_with (first | (go_at_call 78; refine HG.out.mono ?_; rintro E w2 ⟨rfl, nq, rfl⟩) | ((with_reducible refine wpList_run ?_ (exec_make (x := .tmp 6) (y := .tmp 6) ?_ ?_ ?_ (HMk.out (w.drewN nq))) ?_); rfl; rfl; rfl; rfl))
 have HT0 : Hid (TellAt v A M os w.heap.size l n (.pointer (some ⟨a.b, 0, none⟩)) ((w.drewN nq).alloc (.cells (zRow n).toArray 32))) := iq ⟨zRow n, (HLF.out.drewN nq).push ((HLF.out.drewN nq).fr.box (zRow n).toArray 32), by rw [zRow_length, HN.out], by rw [List.drop_of_length_le (by rw [zRow_length]; omega), HN.out, List.drop_length]; rfl, by rw [HN.out]; exact Nat.le_refl _, .inr ⟨i, a, V, rfl, HA.out, HV2.out, by rw [HN.out]; exact HSl.out, by rw [<- HLv.out, HN.out]; exact Nat.le_refl _, by rw [<- HLv.out]⟩⟩
 obtain ⟨B, hB⟩ : ∃ B, B = w.heap.size := ⟨_, rfl⟩
 obtain ⟨w3, hw3⟩ : ∃ x, x = (w.drewN nq).alloc (.cells (zRow n).toArray 32) := ⟨_, rfl⟩
 rw [<- hB, <- hw3] at HT0
 rw [<- hB, <- hw3]
 clear hB hw3 HMk HG HLF HV2 HA HSl HLv
 go_loopw [4, 0] (fun v4 v0 wr => ∃ f : Nat, v4 = .slice (some ⟨B, 0, none⟩) f n /\ f <= n /\ Hid (TellAt v A M os B l f v0 wr)) (fun _ v0 _ => vidx A.va v0)
 case atStart => exact ⟨n, rfl, Nat.le_refl _, HT0⟩
 case round =>
  clear HT0
  obtain ⟨f, rfl, hfn, HTe⟩ := hrel
  obtain ⟨C, hF, hl, hd, hf, hor⟩ := HTe.out
  rcases hor with ⟨rfl, rfl⟩ | ⟨iu, c, U, rfl, hc, hU, h1, h2, h3⟩
  ·have HF : Hid (LogFr v wr A M (blkT B (flatR l).toArray 32 :: os)) := iq (by rw [Nat.zero_mul, List.drop_zero, List.drop_zero] at hd; rw [<- hd]; exact hF)
   clear hF hl hd hf HTe
   go_wp2_with fail
   go_ret
   exact ⟨B, rfl, HF.out⟩
  ·have HF := iq hF
   have HNx := iq (fun (Wa Wb : World) (hF : LogFr v Wa A M (blkT B C.toArray 32 :: os)) => tell_next (W' := Wb) hF hl hd hf HW.out hc hU h1 h3)
   have HVw := iq (fun (W : World) (C : List Value) (hF : LogFr v W A M (blkT B C.toArray 32 :: os)) => hF.vw hc hU)
   have HCl : Hid (C.length = n * 40) := iq (by rw [hl, <- HN.out])
   have HUl := iq (log_length U ▸ h2)
   obtain ⟨rA, rc, hrq, _⟩ := row_shape (hF.vw hc hU).reqs
   have HC := iq hc
   have HUU := iq hU
   have HSf := iq h1
   clear hF hl hd hf hc hU h1 h2 h3 HTe
   go_wp2_with fail
   refine wp_region_any (by kernel_rfl) ?_
   change wpAny _ _ _ _ _ _ _ (World.drewN _ 1)
   have D0 := iq (HF.out.drewN 1)
   generalize wr.drewN 1 = w4 at D0 ⊢
   clear HF
   refine wpAny_of_held (S := fun W => ViewAt W c (sbO A.va U) U) _ _ _ _ ?_
   refine tk 0 ⟨some 15, .move (.tmp 4), _, _, _, none⟩ (.slice (some ⟨B, 0, none⟩) f n) rfl (by kernel_rfl) (fun _ _ _ => id) ((HVw.out w4 C D0.out)) (fun W hSW => by go_simp) ?_
   try simp only [Act.put, l0, l1, l2]
   refine tk 1 ⟨some 16, .move (.tmp 0), _, _, _, none⟩ (.pointer (some ⟨c.b, 0, none⟩)) rfl (by kernel_rfl) (fun _ _ _ => id) ((HVw.out w4 C D0.out)) (fun W hSW => by go_simp) ?_
   try simp only [pu, l0, l1, l2]
   refine tk 2 ⟨some 17, .nilCheck (.tmp 16), _, _, _, none⟩ (.pointer (some ⟨c.b, 0, none⟩)) rfl (by kernel_rfl) (fun _ _ _ => id) ((HVw.out w4 C D0.out)) (fun W hSW => by go_simp) ?_
   try simp only [pu, l0, l1, l2]
   refine tk 3 ⟨some 18, .fieldAddr 133 (.tmp 17) 2, _, _, _, none⟩ (.pointer (some ⟨c.b, 2, none⟩)) rfl (by kernel_rfl) (fun _ _ _ => id) ((HVw.out w4 C D0.out)) (fun W hSW => by go_simp) ?_
   try simp only [pu, l0, l1, l2]
   refine tk 4 ⟨some 19, .load 3 (.tmp 18), _, _, _, none⟩ (.int .i64 (U.S.length : Int)) rfl (by kernel_rfl) (fun _ _ _ => id) ((HVw.out w4 C D0.out)) (fun W hSW => by have hv := hSW.cells.2.2.1; go_simp) ?_
   try simp only [pu, l0, l1, l2]
   refine tk 5 ⟨some 20, .slice 54 (.tmp 15) (some (.tmp 19)) none none, _, _, _, none⟩ (sliced (some ⟨B, 0, none⟩) U.S.length f n 40) rfl (by kernel_rfl) (fun _ _ _ => id) ((HVw.out w4 C D0.out)) (fun W hSW => exec_sl rfl rfl rfl (slice_low W _ f n U.S.length HSf.out)) ?_
   try simp only [pu, l0, l1, l2]
   refine tk 6 ⟨some 21, .move (.tmp 0), _, _, _, none⟩ (.pointer (some ⟨c.b, 0, none⟩)) rfl (by kernel_rfl) (fun _ _ _ => id) ((HVw.out w4 C D0.out)) (fun W hSW => by go_simp) ?_
   try simp only [pu, l0, l1, l2]
   refine tk 7 ⟨some 22, .nilCheck (.tmp 21), _, _, _, none⟩ (.pointer (some ⟨c.b, 0, none⟩)) rfl (by kernel_rfl) (fun _ _ _ => id) ((HVw.out w4 C D0.out)) (fun W hSW => by go_simp) ?_
   try simp only [pu, l0, l1, l2]
   refine tk 8 ⟨some 23, .fieldAddr 133 (.tmp 22) 4, _, _, _, none⟩ (.pointer (some ⟨c.b, 4, none⟩)) rfl (by kernel_rfl) (fun _ _ _ => id) ((HVw.out w4 C D0.out)) (fun W hSW => by go_simp) ?_
   try simp only [pu, l0, l1, l2]
   refine tk 9 ⟨some 24, .load 54 (.tmp 23), _, _, _, none⟩ (c.rq) rfl (by kernel_rfl) (fun _ _ _ => id) ((HVw.out w4 C D0.out)) (fun W hSW => by have hv := hSW.cells.2.2.2.2.1; go_simp) ?_
   try simp only [pu, l0, l1, l2]
   refine rd1 10 ⟨some 25, .call { callee := .builtin .copy, args := #[.tmp 20, .tmp 24], argTypes := #[54, 54] }, _, _, _, none⟩ (by kernel_rfl) rfl fun K' hK' => ?_
   obtain ⟨w5, hr5, hB5, hg5⟩ := run_copyR w4 3 B U.S.length f n c.rq U.P.length rc (flatR (U.P.map (·.2))) HSf.out hfn (by have := HUl.out; omega) (by rw [<- flatP]; exact (HVw.out w4 C D0.out).reqs) ⟨rA, hrq⟩ C D0.out.top HCl.out (flatR_one _)
   refine step_run rfl (exec_copy (t := 54) (s := 54) (x := .tmp 20) (y := .tmp 24) rfl rfl rfl hr5) ?_
   have HT5 := iq (HNx.out w4 w5 D0.out hB5 hg5)
   obtain ⟨C2, hF2, _⟩ := HT5.out.1
   have HV5 := iq (HVw.out w5 C2 hF2)
   clear hr5 hB5 hg5 hF2 D0
   refine hK'.out _ _ HV5.out (fun _ => ?_)
   clear hK' K'
   try simp only [Act.put, l0, l1, l2]
   refine wpAnyH_done (by kernel_rfl) ?_ _
   obtain ⟨c1, c2⟩ : w5.cell? ⟨c.b, 1, none⟩ = some (ptO (sbO A.va U)) /\ w5.cell? ⟨c.b, 2, none⟩ = some (.int .i64 (U.S.length : Int)) := ⟨HV5.out.cells.2.1, HV5.out.cells.2.2.1⟩
   obtain ⟨q, hq⟩ : ∃ q, q = ptO (sbO A.va U) := ⟨_, rfl⟩
   rw [<- hq] at HT5 c1
   have HSn : Hid (U.S.length <= n) := iq (by have := HSf.out; omega)
   obtain ⟨z, hz⟩ : ∃ z, z = U.S.length := ⟨_, rfl⟩
   rw [<- hz] at HT5 c2 HSn
   have HHi := iq (fun (W : World) (f : Nat) => slice_high W B f n z HSn.out)
   clear hq hz hrq
   go_wp2_with ((with_reducible refine wpList_exec ?_ (exec_sh (x := .tmp 26) (y := .tmp 30) ?_ ?_ ?_ (HHi.out _ _)) ?_); rfl; rfl; rfl; rfl)
   go_roundw
   case measure => exact HT5.out.2
   case rel => exact ⟨z, rfl, HSn.out, iq HT5.out.1⟩
open Go.RowKit
theorem search_any (n : Nat) (hn : n <= 1000000000) (w : World) (K : Nat) (caps : Array Value) (p : Nat -> Bool) (hE : ∀ args W, (callFunc K args).run Tryz.prog W = .ok (.enter K args) W) (hm : ∀ i j, i <= j -> j < n -> p i = true -> p j = true)
  (hp : ∀ i, i < n -> ∀ W, Below w.heap.size w W -> Calls Tryz.prog K (#[.int .i64 (i : Int)] ++ caps) W fun E w' => E = .returned (.bool (p i)) /\ Below W.heap.size W w') :
  Calls Tryz.prog 128 #[.int .i64 (n : Int), .func (.func K) #[] caps] w fun E w' => (∃ r : Nat, E = .returned (.int .i64 (r : Int)) /\ r <= n /\ (∀ i, i < r -> p i = false) /\ ∀ i, r <= i -> i < n -> p i = true) /\ Below w.heap.size w w' := by
 have HP := iq hp
 have HM := iq hm
 clear hp hm
 go_enter Tryz.func128, Tryz.ntmps128
 go_wp2_with fail
 go_loopw [5, 6] (fun v5 v6 wr => ∃ i j : Nat, i <= j /\ j <= n /\ v5 = .int .i64 (i : Int) /\ v6 = .int .i64 (j : Int) /\ Hid ((∀ k, k < i -> p k = false) /\ ∀ k, j <= k -> k < n -> p k = true) /\ Hid (Below w.heap.size w wr)) (fun v5 v6 _ => (intOf v6).toNat - (intOf v5).toNat)
 case atStart => exact ⟨0, n, by omega, by omega, rfl, rfl, iq ⟨fun k h => by omega, fun k h1 h2 => by omega⟩, iq bl⟩
 case round =>
  obtain ⟨i, j, hij, hj, rfl, rfl, HI, D⟩ := hrel
  by_cases h : i < j
  ·have kd : decide ((i : Int) < (j : Int)) = true := decide_eq_true (by omega)
   have kd2 : decide (i < j) = true := decide_eq_true h
   obtain ⟨m, hm⟩ : ∃ m, m = (i + j) / 2 := ⟨_, rfl⟩
   have k1 : IntKind.i64.wrap ((i : Int) + (j : Int)) = (i : Int) + (j : Int) := by rw [IntKind.wrap_i64]; omega
   have k2 : IntKind.u64.wrap ((i : Int) + (j : Int)) = (i : Int) + (j : Int) := by rw [IntKind.wrap_u64]; omega
   have k3 : IntKind.i64.wrap (m : Int) = (m : Int) := by rw [IntKind.wrap_i64]; omega
   have k4 : IntKind.u64.wrap (m : Int) = (m : Int) := by rw [IntKind.wrap_u64]; omega
   have k5 : ((i : Int) + (j : Int)) / 2 = (m : Int) := by omega
   have k6 : IntKind.i64.wrap ((m : Int) + 1) = (m : Int) + 1 := by rw [IntKind.wrap_i64]; omega
   have him : i <= m := by omega
   have hmj : m < j := by omega
   have HC := iq (HP.out m (by omega) wr D.out)
   have HI2 : Hid (p m = true -> (∀ k, k < i -> p k = false) /\ ∀ k, m <= k -> k < n -> p k = true) := iq fun h => ⟨HI.out.1, fun k h1 h2 => HM.out m k h1 h2 h⟩
   have h3 : p m = false -> ∀ k, k < m + 1 -> p k = false := fun h k h1 => by
    by_cases hk : k < i
    ·exact HI.out.1 k hk
    ·rw [Bool.eq_false_iff]
     intro h2
     have h4 := HM.out k m (by omega) (by omega) h2
     rw [h] at h4
     cases h4
   have HI3 : Hid (p m = false -> (∀ k, k < m + 1 -> p k = false) /\ ∀ k, j <= k -> k < n -> p k = true) := iq fun h => ⟨h3 h, HI.out.2⟩
   clear h3
   clear hm HI
   cases hpm : p m with
   | true =>
    have HI4 := iq (HI2.out hpm)
    rw [hpm] at HC
    clear hpm HI2 HI3
    go_wp2_with (refine HC.out.mono ?_; rintro E w2 ⟨rfl, hb2⟩; have D2 := iq (D.out.trans (hb2.mono D.out.size)); clear hb2)
    go_roundw
    case measure => simp [intOf] <;> omega
    case rel => exact ⟨i, m, him, by omega, rfl, rfl, HI4, D2⟩
   | false =>
    have HI4 := iq (HI3.out hpm)
    rw [hpm] at HC
    clear hpm HI2 HI3
    go_wp2_with (refine HC.out.mono ?_; rintro E w2 ⟨rfl, hb2⟩; have D2 := iq (D.out.trans (hb2.mono D.out.size)); clear hb2)
    go_roundw
    case measure => simp [intOf] <;> omega
    case rel => exact ⟨m + 1, j, by omega, by omega, by go_num, rfl, HI4, D2⟩
  ·obtain rfl : i = j := by omega
   have kd : decide ((i : Int) < (i : Int)) = false := decide_eq_false (by omega)
   go_wp2_with fail
   go_ret
   exact ⟨⟨i, rfl, hj, HI.out.1, HI.out.2⟩, D.out⟩
def MV.kn (V : MV) (x : Nat) : Nat := V.S.length + (V.P.filter fun p => decide (p.1 <= x)).length
theorem filter_cut (l : List (Nat × MReq)) (x r : Nat) (hr : r <= l.length) (h1 : ∀ i p, i < r -> l[i]? = some p -> p.1 <= x) (h2 : ∀ i p, r <= i -> l[i]? = some p -> ¬ p.1 <= x) : (l.filter fun p => decide (p.1 <= x)).length = r := by
 rw [<- List.take_append_drop r l, List.filter_append, List.length_append]
 have e1 : (l.take r).filter (fun p => decide (p.1 <= x)) = l.take r := List.filter_eq_self.2 fun p hp => by
  obtain ⟨i, hi, rfl⟩ := List.getElem_of_mem hp
  rw [List.length_take] at hi
  rw [List.getElem_take]
  exact decide_eq_true (h1 i _ (by omega) (List.getElem?_eq_getElem (by omega)))
 have e2 : (l.drop r).filter (fun p => decide (p.1 <= x)) = [] := List.filter_eq_nil_iff.2 fun p hp => by
  obtain ⟨i, hi, rfl⟩ := List.getElem_of_mem hp
  rw [List.length_drop] at hi
  rw [List.getElem_drop, decide_eq_true_iff]
  exact h2 (r + i) _ (by omega) (List.getElem?_eq_getElem (by omega))
 rw [e1, e2, List.length_take]
 simp
 omega
theorem kn_le (V : MV) (x : Nat) : V.kn x <= V.log.length := by
 rw [log_length, MV.kn]
 have := List.length_filter_le (fun p : Nat × MReq => decide (p.1 <= x)) V.P
 omega
theorem known1_any {W : World} {a : VA} {sb : Option Nat} {V : MV} (h : ViewAt W a sb V) {g1 g2 x i : Nat} {p : Nat × MReq} (hi : V.P[i]? = some p) (hg1 : W.cell? ⟨g1, 0, none⟩ = some (.pointer (some ⟨a.b, 0, none⟩))) (hg2 : W.cell? ⟨g2, 0, none⟩ = some (.int .u64 (x : Int))) (hP : V.P.length <= 1000000000) :
  Calls Tryz.prog 129 #[.int .i64 (i : Int), .pointer (some ⟨g1, 0, none⟩), .pointer (some ⟨g2, 0, none⟩)] W fun E w' => E = .returned (.bool (decide (x < p.1))) /\ ∃ n, w' = W.drewN n := by
 have hl := (List.getElem?_eq_some_iff.1 hi).1
 obtain ⟨gr, cap, e, _, hr, _, _⟩ := ownsRow_some h.nums (by omega)
 have c3 := h.cells.2.2.2.1
 rw [e] at c3
 have c4 : W.cell? ⟨gr, i, none⟩ = some (.int .u64 (p.1 : Int)) := by
  have := hr i (.int .u64 (p.1 : Int)) (nv_get (by simp [hi]))
  rwa [Nat.zero_add] at this
 have k1 : (i : Int) < (V.P.length : Int) := by omega
 have k2 : (0 : Int) <= (i : Int) := by omega
 have k3 : (i : Int).toNat = i := by omega
 have k4 : i < V.P.length := hl
 clear h hi hl e hr hP
 generalize V.P.length = n at *
 go_enter Tryz.func129, Tryz.ntmps129
 go_wp2
 go_quiet (fail)
 go_wp2_with fail
 go_ret
 exact ⟨rfl, _, rfl⟩
end Go.Proofs.YtknpcmadghkaaaaGreatDoor.Sh
