/-
  What is proved: what a cut is read as: a message without its number and its tag (cutTagged). Conditions as stated.
-/
import Derived.Test.YtghjogneogkpoaaGreatDoorCb
namespace Go.Proofs.YtghjogneogkpoaaGreatDoor.Sh
open Go.RowKit
set_option maxRecDepth 100000


def cDeps : Nat → Cst → List Nat × Cst
  | 0, s => ([], s)
  | j + 1, s => ((cDeps j s).1 ++ [(cWord (cDeps j s).2).1], (cWord (cDeps j s).2).2)
theorem cDeps_len : ∀ (j : Nat) (s : Cst), (cDeps j s).1.length = j
  | 0, _ => rfl
  | j + 1, s => by simp [cDeps, cDeps_len j s]
/-- A message while its places are read. -/
def depM (o : Int) (l : List Nat) : MMsg := { zeroMsg with origin := o, deps := l ++ List.replicate (11 - l.length) 0 }
theorem depM_wf {o : Int} {l : List Nat} (h : l.length ≤ 11) : (depM o l).Wf := ⟨by simp [depM]; omega, zero_wf, rfl⟩
theorem set_dep {o : Int} {l : List Nat} (h : l.length < 11) (x : Nat) : (msgC (depM o l)).set (2 + l.length) (.int .u64 (x : Int)) = msgC (depM o (l ++ [x])) := by
  have e : 11 - l.length = (11 - (l.length + 1)) + 1 := by omega
  simp only [msgC, depM, u64s, List.map_append, List.map_replicate, List.length_append, List.length_cons, List.length_nil, Nat.zero_add]
  rw [e, List.replicate_succ, show 2 + l.length = l.length + 1 + 1 by omega, List.set_cons_succ, List.set_cons_succ, List.append_assoc, List.set_append_right _ _ (by simp)]
  simp
theorem set_body (m : MMsg) (b : MBody) (hm : m.Wf) (hb : b.Wf) : setAll (msgC m) 13 (bodyC b) = msgC { m with body := b } := by
  have e : msgC m = (.int .i64 m.origin :: .int .u64 (m.number : Int) :: u64s m.deps) ++ (bodyC m.body ++ u8s m.tag) := by simp [msgC]
  have := setAll_mid (bodyC b) (.int .i64 m.origin :: .int .u64 (m.number : Int) :: u64s m.deps) (bodyC m.body) (u8s m.tag) (by rw [bodyC_length hm.2.1, bodyC_length hb])
  rw [← e] at this
  rw [show (.int .i64 m.origin :: .int .u64 (m.number : Int) :: u64s m.deps : List Value).length = 13 by simp [u64s_length, hm.1]] at this
  rw [this]
  simp [msgC]
theorem set_kind (m : MMsg) (k : UInt8) (hm : m.Wf) : (msgC m).set 13 (.int .u8 (k.toNat : Int)) = msgC { m with body := { m.body with kind := k } } := by
  have e : msgC m = (.int .i64 m.origin :: .int .u64 (m.number : Int) :: u64s m.deps) ++ (bodyC m.body ++ u8s m.tag) := by simp [msgC]
  rw [e, List.set_append_right _ _ (by simp [u64s_length, hm.1])]
  simp [msgC, u64s_length, hm.1, bodyC, MBody.qv]
/-- While a message is read of the cut g: it lies in the block gm, the result in the block w.heap.size. -/
structure CtM (w : World) (lo g gm : Nat) (s : Cst) (m : MMsg) (wr : World) : Prop where
  cut : CtS wr lo g s
  gb : w.grownBy wr (some g)
  res : wr.heap[w.heap.size]? = some (.cells (msgC zeroMsg).toArray 34 (0, 0))
  msg : wr.heap[gm]? = some (.cells (msgC m).toArray 34 (0, 0))
  lt : w.heap.size < gm ∧ g < w.heap.size
theorem CtM.ltm {w : World} {lo g gm : Nat} {s : Cst} {m : MMsg} {wr : World} (H : CtM w lo g gm s m wr) : gm < wr.heap.size := (Array.getElem?_eq_some_iff.1 H.msg).1
theorem CtM.turn {w : World} {lo g gm : Nat} {s s' : Cst} {m : MMsg} {wr w' : World} (H : CtM w lo g gm s m wr) (hg : wr.grownBy w' (some g)) (hc : CtS w' lo g s') : CtM w lo g gm s' m w' :=
  ⟨hc, gb_trans H.gb hg, (hg.block _ (by have := H.ltm; have := H.lt; omega) (fun e => by injection e with e; have := H.lt; omega)).trans H.res, (hg.block _ H.ltm (fun e => by injection e with e; have := H.lt; omega)).trans H.msg, H.lt⟩
theorem CtM.below {w : World} {lo g gm : Nat} {s : Cst} {m : MMsg} {wr w' : World} (H : CtM w lo g gm s m wr) (hb : Below wr.heap.size wr w') : CtM w lo g gm s m w' :=
  ⟨H.cut.below hb, gb_trans H.gb (gb_below hb _), (hb.block _ (by have := H.ltm; have := H.lt; omega)).trans H.res, (hb.block _ H.ltm).trans H.msg, H.lt⟩
theorem CtM.put {w : World} {lo g gm : Nat} {s : Cst} {m m' : MMsg} {wr w' : World} (H : CtM w lo g gm s m wr) (h : w'.heap[gm]? = some (.cells (msgC m').toArray 34 (0, 0)) ∧ wr.grownBy w' (some gm)) : CtM w lo g gm s m' w' :=
  ⟨H.cut.far h.2 (by have := H.lt; omega), gb_new H.gb h.2 (by have := H.lt; omega), (h.2.block _ (by have := H.ltm; have := H.lt; omega) (fun e => by injection e with e; have := H.lt; omega)).trans H.res, h.1, H.lt⟩
theorem CtM.set {w : World} {lo g gm : Nat} {s : Cst} {m m' : MMsg} {wr : World} (H : CtM w lo g gm s m wr) (k : Nat) (v : Value) (hC : (msgC m).set k v = msgC m') : CtM w lo g gm s m' (wr.setCell ⟨gm, k, none⟩ v) :=
  H.put ⟨by have := heap_set H.msg v (k := k); rwa [hC] at this, gb_set _ _ _ _⟩
theorem CtM.cell {w : World} {lo g gm : Nat} {s : Cst} {m : MMsg} {wr : World} (H : CtM w lo g gm s m wr) (k : Nat) (v : Value) (hC : (msgC m)[k]? = some v) : wr.cell? ⟨gm, k, none⟩ = some v := by
  have := range_of H.msg k v hC
  rwa [Nat.zero_add] at this
theorem build_msg (k : Int) (w : World) : (Instr.build 34 #[(0, .int .i64 k)]).run Tryz.prog w = .ok (.agg (.int .i64 k :: (msgC zeroMsg).drop 1).toArray) w := by kernel_rfl
theorem cByte_lt (s : Cst) : (cByte s).1 < 256 := Oct.num_out_lt s.1 s.2 1
theorem wpList_look_at {P : Program} {w : World} {ops : Array Oper} {rest : List Oper} {o : Oper} {a : Act} {Q : Exit → Act → World → Prop} (hg : o.guard = none) (m x : Operand) (t kt et : TypeId) (kd : IntKind) (hop : o.op = Op.lookup t m x true)
    (ht : P.underlying t = some (.map kt et)) (hk : P.underlying kt = some (.int kd)) (r : Nat) (es : Array MapEntry) (clock : Nat) (k : Int) (v : Value) (i : Nat) (hm : a.eval m = .map (some r)) (hb : w.heap[r]? = some (.map es clock)) (hx : a.eval x = .int kd k)
    (hn : Instr.findNow (.int kd) (.int kd k) es.toList 0 = some (some (i, v))) (h : wpList P ops Q rest (a.put o.dst (.tuple #[v, .bool true])) w) : wpList P ops Q (o :: rest) a w := by
  refine wpList_plain hg fun K hK => ?_
  unfold Oper.wp
  simp only [execOp, hop, hm, hx, Sem.run_bind, run_look_at ht hk hb k v i hn true, Result.andThen_ok, Sem.run_pure, if_true]
  exact hK _ _ h
theorem run_look_no {P : Program} {t kt et : TypeId} {kd : IntKind} {w : World} {r : Nat} {es : Array MapEntry} {clock : Nat} (ht : P.underlying t = some (.map kt et)) (hk : P.underlying kt = some (.int kd)) {z : Value} (hz : (zeroValue et).run P w = .ok z w)
    (hb : w.heap[r]? = some (.map es clock)) (x : Int) (hn : Instr.findNow (.int kd) (.int kd x) es.toList 0 = some none) :
    (Instr.lookup t (.map (some r)) (.int kd x) true).run P w = .ok (.tuple #[z, .bool false]) w := by
  have hc : ∀ b, (Instr.checkKey b 10000 kt (.int kd x)).run P w = .ok () w := fun b => run_key_int hk 9999 b x w
  have hf : (Instr.findKey kt (.int kd x) es.toList).run P w = .ok none w := by
    simp [Instr.findKey, run_underlying hk, hn]
  simp only [Instr.lookup, Sem.run_bind, run_underlying ht, Result.andThen_ok, run_getObj_mp hb, hc, hf, Sem.run_pure, hz, if_true]
theorem wpList_look_no {P : Program} {w : World} {ops : Array Oper} {rest : List Oper} {o : Oper} {a : Act} {Q : Exit → Act → World → Prop} (hg : o.guard = none) (m x : Operand) (t kt et : TypeId) (kd : IntKind) (hop : o.op = Op.lookup t m x true)
    (ht : P.underlying t = some (.map kt et)) (hk : P.underlying kt = some (.int kd)) (z : Value) (hz : ∀ w, (zeroValue et).run P w = .ok z w) (r : Nat) (es : Array MapEntry) (clock : Nat) (k : Int) (hm : a.eval m = .map (some r)) (hb : w.heap[r]? = some (.map es clock)) (hx : a.eval x = .int kd k)
    (hn : Instr.findNow (.int kd) (.int kd k) es.toList 0 = some none) (h : wpList P ops Q rest (a.put o.dst (.tuple #[z, .bool false])) w) : wpList P ops Q (o :: rest) a w := by
  refine wpList_plain hg fun K hK => ?_
  unfold Oper.wp
  simp only [execOp, hop, hm, hx, Sem.run_bind, run_look_no ht hk (hz w) hb k hn, Result.andThen_ok, Sem.run_pure]
  exact hK _ _ h
end Go.Proofs.YtghjogneogkpoaaGreatDoor.Sh
