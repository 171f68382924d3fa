/-
  What is proved: a map of functions that a function makes; the map of writers. Conditions as stated.
-/
import Derived.Test.YtghjogneogkpoaaGreatDoorMp
namespace Go.Proofs.YtghjogneogkpoaaGreatDoor.Sh
open Go.RowKit
set_option maxRecDepth 100000


theorem run_getObj_mp {P : Program} {w : World} {r : Nat} {es : Array MapEntry} {clock : Nat} (hb : w.heap[r]? = some (.map es clock)) : (getObj r).run P w = .ok (.map es clock) w := by
  simp [getObj, Sem.run, hb]
theorem run_setObj_mp {P : Program} {w : World} {r : Nat} {es : Array MapEntry} {clock : Nat} (o : Obj) (hb : w.heap[r]? = some (.map es clock)) : (setObj r o).run P w = .ok () { w with heap := w.heap.setIfInBounds r o } := by
  simp [setObj, Sem.run, hb]
theorem run_key_int {P : Program} {kt : TypeId} {kd : IntKind} (hk : P.underlying kt = some (.int kd)) (n : Nat) (b : Bool) (x : Int) (w : World) : (Instr.checkKey b (n + 1) kt (.int kd x)).run P w = .ok () w := by
  simp [Instr.checkKey, run_underlying hk]
/-- 'm[x] = v' of a map that has no x. -/
theorem run_put_new {P : Program} {t kt et : TypeId} {kd : IntKind} {w : World} {r : Nat} {es : Array MapEntry} {clock : Nat} (ht : P.underlying t = some (.map kt et)) (hk : P.underlying kt = some (.int kd))
    (hb : w.heap[r]? = some (.map es clock)) (x : Int) (v : Value) (hn : Instr.findNow (.int kd) (.int kd x) es.toList 0 = some none) :
    (Instr.mapUpdate t (.map (some r)) (.int kd x) v).run P w = .ok () { w with heap := w.heap.setIfInBounds r (.map (es.push { key := .int kd x, val := v, born := clock }) (clock + 1)) } := by
  have hc : (Instr.checkKey false 10000 kt (.int kd x)).run P w = .ok () w := run_key_int hk 9999 false x w
  have hf : (Instr.findKey kt (.int kd x) es.toList).run P w = .ok none w := by
    simp [Instr.findKey, run_underlying hk, hn]
  simp only [Instr.mapUpdate, Sem.run_bind, run_underlying ht, Result.andThen_ok, run_getObj_mp hb, hc, hf, run_setObj_mp _ hb]
theorem run_look_at {P : Program} {t kt et : TypeId} {kd : IntKind} {w : World} {r : Nat} {es : Array MapEntry} {clock : Nat} (ht : P.underlying t = some (.map kt et)) (hk : P.underlying kt = some (.int kd))
    (hb : w.heap[r]? = some (.map es clock)) (x : Int) (v : Value) (i : Nat) (hn : Instr.findNow (.int kd) (.int kd x) es.toList 0 = some (some (i, v))) (ok : Bool) :
    (Instr.lookup t (.map (some r)) (.int kd x) ok).run P w = .ok (if ok then .tuple #[v, .bool true] else v) w := by
  have hc : ∀ b, (Instr.checkKey b 10000 kt (.int kd x)).run P w = .ok () w := fun b => run_key_int hk 9999 b x w
  have hf : (Instr.findKey kt (.int kd x) es.toList).run P w = .ok (some (i, v)) w := by
    simp [Instr.findKey, run_underlying hk, hn]
  simp only [Instr.lookup, Sem.run_bind, run_underlying ht, Result.andThen_ok, run_getObj_mp hb, hc, hf, Sem.run_pure]
theorem wpList_insert {P : Program} {w : World} {ops : Array Oper} {rest : List Oper} {o : Oper} {a : Act} {Q : Exit → Act → World → Prop} (hg : o.guard = none) (m x v : Operand) (t kt et : TypeId) (kd : IntKind) (hop : o.op = Op.insert t m x v)
    (ht : P.underlying t = some (.map kt et)) (hk : P.underlying kt = some (.int kd)) (r : Nat) (es : Array MapEntry) (clock : Nat) (k : Int) (val : Value) (hm : a.eval m = .map (some r)) (hb : w.heap[r]? = some (.map es clock)) (hx : a.eval x = .int kd k) (hv : a.eval v = val)
    (hn : Instr.findNow (.int kd) (.int kd k) es.toList 0 = some none)
    (h : ∀ w', Hid (w'.heap[r]? = some (.map (es.push { key := .int kd k, val := val, born := clock }) (clock + 1)) ∧ w.grownBy w' (some r)) → wpList P ops Q rest (a.put o.dst undef) w') : wpList P ops Q (o :: rest) a w := by
  refine wpList_plain hg fun K hK => ?_
  unfold Oper.wp
  simp only [execOp, hop, hm, hx, hv, Sem.run_bind, run_put_new ht hk hb k val hn, Result.andThen_ok, Sem.run_pure]
  have hlt : r < w.heap.size := (Array.getElem?_eq_some_iff.1 hb).1
  refine hK _ _ (h _ (Lib.hid ⟨by simp [hlt], rfl, rfl, rfl, by simp, fun k _ hne => ?_⟩))
  rw [Array.getElem?_setIfInBounds_ne (fun e => hne (by rw [e]))]
def wrE : Array MapEntry := #[{ key := .int .u8 1, val := .func (.func 92) #[] #[], born := 0 }, { key := .int .u8 2, val := .func (.func 93) #[] #[], born := 1 }, { key := .int .u8 3, val := .func (.func 94) #[] #[], born := 2 }, { key := .int .u8 4, val := .func (.func 95) #[] #[], born := 3 }, { key := .int .u8 5, val := .func (.func 94) #[] #[], born := 4 }, { key := .int .u8 6, val := .func (.func 96) #[] #[], born := 5 }]
theorem below_at {r : Nat} {w w1 w2 : World} (h : Below w.heap.size w w1) (g : w1.grownBy w2 (some r)) (hr : w.heap.size ≤ r := by exact Nat.le_refl _) : Below w.heap.size w w2 := h.grown g h.size (fun k hk => by injection hk with e; omega)
theorem writers_ms (w : World) : Calls Tryz.prog 65 #[] w fun E w' => E = .returned (.map (some w.heap.size)) ∧ w'.heap[w.heap.size]? = some (.map wrE 6) ∧ Below w.heap.size w w' := by
  have hmk := run_makeMap (P := Tryz.prog) 86
  have HM0 : Hid ((w.alloc (.map #[] 0)).heap[w.heap.size]? = some (.map #[] 0)) := Lib.hid (heap_alloc_new w _)
  go_enter Tryz.func65, Tryz.ntmps65
  go_wp2_with (first | (refine wpList_insert rfl (.tmp 1) (.const (.int .u8 1)) (.func 92) 86 5 _ .u8 rfl Tryz.underlying86 Tryz.underlying5 w.heap.size (#[]) 0 1 _ rfl HM0.out rfl rfl (by kernel_rfl) ?_; intro w1 G1) | (refine wpList_insert rfl (.tmp 1) (.const (.int .u8 2)) (.func 93) 86 5 _ .u8 rfl Tryz.underlying86 Tryz.underlying5 w.heap.size (#[{ key := .int .u8 1, val := .func (.func 92) #[] #[], born := 0 }]) 1 2 _ rfl G1.out.1 rfl rfl (by kernel_rfl) ?_; intro w2 G2) | (refine wpList_insert rfl (.tmp 1) (.const (.int .u8 3)) (.func 94) 86 5 _ .u8 rfl Tryz.underlying86 Tryz.underlying5 w.heap.size (#[{ key := .int .u8 1, val := .func (.func 92) #[] #[], born := 0 }, { key := .int .u8 2, val := .func (.func 93) #[] #[], born := 1 }]) 2 3 _ rfl G2.out.1 rfl rfl (by kernel_rfl) ?_; intro w3 G3) | (refine wpList_insert rfl (.tmp 1) (.const (.int .u8 4)) (.func 95) 86 5 _ .u8 rfl Tryz.underlying86 Tryz.underlying5 w.heap.size (#[{ key := .int .u8 1, val := .func (.func 92) #[] #[], born := 0 }, { key := .int .u8 2, val := .func (.func 93) #[] #[], born := 1 }, { key := .int .u8 3, val := .func (.func 94) #[] #[], born := 2 }]) 3 4 _ rfl G3.out.1 rfl rfl (by kernel_rfl) ?_; intro w4 G4) | (refine wpList_insert rfl (.tmp 1) (.const (.int .u8 5)) (.func 94) 86 5 _ .u8 rfl Tryz.underlying86 Tryz.underlying5 w.heap.size (#[{ key := .int .u8 1, val := .func (.func 92) #[] #[], born := 0 }, { key := .int .u8 2, val := .func (.func 93) #[] #[], born := 1 }, { key := .int .u8 3, val := .func (.func 94) #[] #[], born := 2 }, { key := .int .u8 4, val := .func (.func 95) #[] #[], born := 3 }]) 4 5 _ rfl G4.out.1 rfl rfl (by kernel_rfl) ?_; intro w5 G5) | (refine wpList_insert rfl (.tmp 1) (.const (.int .u8 6)) (.func 96) 86 5 _ .u8 rfl Tryz.underlying86 Tryz.underlying5 w.heap.size (#[{ key := .int .u8 1, val := .func (.func 92) #[] #[], born := 0 }, { key := .int .u8 2, val := .func (.func 93) #[] #[], born := 1 }, { key := .int .u8 3, val := .func (.func 94) #[] #[], born := 2 }, { key := .int .u8 4, val := .func (.func 95) #[] #[], born := 3 }, { key := .int .u8 5, val := .func (.func 94) #[] #[], born := 4 }]) 5 6 _ rfl G5.out.1 rfl rfl (by kernel_rfl) ?_; intro w6 G6))
  go_ret
  exact ⟨rfl, G6.out.1, below_at (below_at (below_at (below_at (below_at (below_at ((Below.refl _ _).alloc (Nat.le_refl _) _) G1.out.2) G2.out.2) G3.out.2) G4.out.2) G5.out.2) G6.out.2⟩
end Go.Proofs.YtghjogneogkpoaaGreatDoor.Sh
