/- Laws and walks. -/
import Derived.Test.YtknpcmadghkaaaaGreatDoorF1w
import Derived.Great.FillDense
import Derived.Great.BuildSlice
set_option maxHeartbeats 16000000
set_option maxRecDepth 100000
namespace Go.Proofs.YtknpcmadghkaaaaGreatDoor.Sh
open Go.RowKit
def rdV (v : Value) : Option (DataW Value × List MemPlace) := some (.held v, [])
def upd {α : Type} (f : Int -> α) (k : Int) (v : α) : Int -> α := fun x => if x = k then v else f x
theorem upd_same {α : Type} (f : Int -> α) (k : Int) (v : α) : upd f k v k = v := by simp [upd]
theorem upd_other {α : Type} (f : Int -> α) {k x : Int} (v : α) (h : x ≠ k) : upd f k v x = f x := by simp [upd, h]
def World.mapU (w : World) (b n : Nat) (f : Int -> Option Value) : Prop :=
 ∃ D : DataW Value, w.ownsMap Tryz.prog 25 rdV b n D /\ (∀ x z, D.atKey (.int .u64 x) z = match f x with | some v => .held v | none => z) /\ (∀ x, Maps.has D (.int .u64 x) = (f x).isSome) /\ Maps.size D = n
theorem mapU_made (w : World) : World.mapU (w.alloc (.map #[] 0)) w.heap.size 0 fun _ => none :=
 ⟨_, World.ownsMap_made _ _ _ _, fun _ _ => rfl, fun _ => rfl, rfl⟩
theorem mapU_lt {w : World} {b n : Nat} {f : Int -> Option Value} (h : World.mapU w b n f) : b < w.heap.size := let ⟨_, h1, _⟩ := h; h1.lt
theorem mapU_block {w : World} {b n : Nat} {f : Int -> Option Value} (h : World.mapU w b n f) : ∃ es clock, w.heap[b]? = some (.map es clock) := let ⟨_, ⟨es, c, h1, _⟩, _⟩ := h; ⟨es, c, h1⟩
theorem mapU_kept {w w' : World} {b n : Nat} {f : Int -> Option Value} (h : World.mapU w b n f) (he : w'.heap[b]? = w.heap[b]?) : World.mapU w' b n f := by
 obtain ⟨D, ⟨es, clock, h1, h2⟩, h3⟩ := h
 exact ⟨D, ⟨es, clock, he.trans h1, h2⟩, h3⟩
theorem keyed23 : Maps.Keyed Tryz.prog 25 := Maps.int_keyed Tryz.underlying25
def U64 (x : Int) : Prop := (Lit.int .u64 x).wf = true
theorem u64_of {x : Int} (h : 0 <= x /\ x < 18446744073709551616) : U64 x := by
 simp [U64, Lit.wf, IntKind.min, IntKind.max, IntKind.signed, IntKind.bits]
 omega
theorem key23 {x : Int} (h : U64 x) : _root_.Go.keyOf Tryz.prog 25 (.int .u64 x) = some (.int .u64 x) := Maps.keyOf_int_mk Tryz.underlying25 h
theorem zero3 (w : World) : (zeroValue 3).run Tryz.prog w = .ok (.int .i64 0) w := by kernel_rfl
theorem mapU_look {w : World} {b n : Nat} {f : Int -> Option Value} (h : World.mapU w b n f) {x : Int} (hx : U64 x) :
  (Instr.lookup 134 (.map (some b)) (.int .u64 x) true).run Tryz.prog w = .ok (.tuple #[(f x).getD (.int .i64 0), .bool (f x).isSome]) w := by
 obtain ⟨D, h1, h2, h3, _⟩ := h
 obtain ⟨v, ps, hr, hv⟩ := h1.look_ok keyed23 Tryz.underlying134 (zero3 w) (zd := .held (.int .i64 0)) (zp := []) rfl (key23 hx)
 rw [h2] at hv
 rw [h3] at hr
 simp only [rdV, Option.some.injEq, Prod.mk.injEq] at hv
 have e1 : v = (f x).getD (.int .i64 0) := by cases hf : f x <;> rw [hf] at hv <;> simpa using hv.1
 rw [e1] at hr
 exact hr
theorem mapN_look (w : World) {x : Int} (hx : U64 x) :
  (Instr.lookup 134 (.map none) (.int .u64 x) true).run Tryz.prog w = .ok (.tuple #[.int .i64 0, .bool false]) w := Maps.look_nil true keyed23 Tryz.underlying134 (zero3 w) (key23 hx)
theorem mapU_update {w : World} {b n : Nat} {f : Int -> Option Value} (h : World.mapU w b n f) (hn : n <= 2000000000) {k : Int} (hk : U64 k) (val : Value) :
  ∃ w', (Instr.mapUpdate 134 (.map (some b)) (.int .u64 k) val).run Tryz.prog w = .ok () w' /\ World.mapU w' b (if (f k).isSome then n else n + 1) (upd f k (some val)) /\ w.grownBy w' (some b) := by
 obtain ⟨D, h1, h2, h3, h4⟩ := h
 obtain ⟨w', r1, ⟨es, clock, q1, q2, q3, q4⟩, r3⟩ := h1.update keyed23 Tryz.underlying134 (by unfold maxLen; omega) (key23 hk) (show rdV val = some (.held val, []) from rfl)
 have hs : Maps.size (D.put (.int .u64 k) (.held val)) = if (f k).isSome then n else n + 1 := by
  rw [Maps.size_put (h1.tidy keyed23), h3, h4]
 refine ⟨w', r1, ⟨_, ⟨es, clock, q1, q2, ?_, q4⟩, fun x z => ?_, fun x => ?_, hs⟩, r3⟩
 ·have : es.size = Maps.size (D.put (.int .u64 k) (.held val)) := by rw [q4, Maps.size_eq, length_sorted]; simp
  rw [this, hs]
  exact Nat.le_refl _
 ·by_cases e : x = k
  ·subst e; rw [upd_same, Maps.atKey_put_same h1.isMap (k := .int .u64 _) trivial]
  ·rw [upd_other _ _ e, Maps.atKey_put_other (by simpa using e), h2]
 ·by_cases e : x = k
  ·subst e; rw [upd_same, Maps.has_put_same h1.isMap (k := .int .u64 _) trivial]; rfl
  ·rw [upd_other _ _ e, Maps.has_put_other (by simpa using e), h3]
theorem wpList_mapUpd {P : Program} {ops : Array Oper} {rest : List Oper} {o : Oper} {a : Act} {w : World} {Q : Exit -> Act -> World -> Prop} (hgd : o.guard = none) (m x y : Operand) (t : TypeId)
  (ho : o.op = Op.mapUpdate t m x y) (v u z : Value) (hs : a.eval m = v) (hx : a.eval x = u) (hy : a.eval y = z) (w' : World) (hr : (Instr.mapUpdate t v u z).run P w = .ok () w') (h : wpList P ops Q rest (a.put o.dst undef) w') : wpList P ops Q (o :: rest) a w :=
 wpList_plain hgd fun K hK => by
  unfold Oper.wp
  simp [execOp, ho, hs, hx, hy, hr, Result.andThen]
  exact hK _ _ h
theorem wpList_look2 {P : Program} {ops : Array Oper} {rest : List Oper} {o : Oper} {a : Act} {w : World} {Q : Exit -> Act -> World -> Prop} (hgd : o.guard = none) (m x : Operand) (t : TypeId)
  (ho : o.op = Op.lookup t m x true) (v u r : Value) (hs : a.eval m = v) (hx : a.eval x = u) (hr : (Instr.lookup t v u true).run P w = .ok r w) (h : wpList P ops Q rest (a.put o.dst r) w) : wpList P ops Q (o :: rest) a w :=
 wpList_plain hgd fun K hK => by
  unfold Oper.wp
  simp [execOp, ho, hs, hx, hr, Result.andThen]
  exact hK _ _ h
theorem ownsRow_block {W : World} {B : Nat} {e : TypeId} {s n : Nat} {v : Value} {xs : List Value} (h : W.ownsRow B e s v n xs) : ∀ k, v.ownBlock = some k -> ∃ C, W.heap[k]? = some (.cells C e (0, 0)) := by
 rcases h.2 with ⟨rfl, _⟩ | ⟨g, cap, cur, rfl, _, b, _⟩
 ·intro k hk; cases hk
 ·intro k hk; cases hk; exact ⟨_, b⟩
theorem row_shape {w : World} {B : Nat} {e : TypeId} {s n : Nat} {v : Value} {xs : List Value} (h : w.ownsRow B e s v n xs) : ∃ A c, v = .slice A n c /\ (n <= c /\ c <= 9223372036854775807) /\ (∀ ad, A = some ad -> ∃ g, ad = ⟨g, 0, none⟩ /\ w.rangeAt g 0 xs) /\ (A = none -> n = 0 /\ c = 0) := by
 rcases h.2 with ⟨rfl, e0⟩ | ⟨g, cap, cur, rfl, _, hg, h3, h4, _, h6⟩
 ·subst e0; exact ⟨none, 0, rfl, ⟨Nat.le_refl _, by omega⟩, fun _ h => (by cases h), fun _ => ⟨rfl, rfl⟩⟩
 ·refine ⟨_, cap, rfl, ⟨h3, h4⟩, fun ad e9 => ⟨g, (Option.some.inj e9).symm, fun j u hj => ?_⟩, fun e => (by cases e)⟩
  rw [Nat.zero_add]
  refine block_cell (C := cur.toList) (t := e) (by simpa using hg) j u ?_
  rw [<- h6] at hj
  have hlt : j < n * s := by have := (List.getElem?_eq_some_iff.1 hj).1; rw [List.length_take] at this; omega
  rwa [List.getElem?_take_of_lt hlt] at hj
def nv (k : IntKind) (l : List Nat) : List Value := l.map fun (x : Nat) => Value.int k (x : Int)
theorem nv_app (k : IntKind) (l r : List Nat) : nv k (l ++ r) = nv k l ++ nv k r := by simp [nv]
theorem nv_get {k : IntKind} {l : List Nat} {i : Nat} {x : Nat} (h : l[i]? = some x) : (nv k l)[i]? = some (.int k (x : Int)) := by simp [nv, h]
theorem info_parts {P : Program} {t : TypeId} {z : Value} {s b : Nat} (h : (P.info? t).map (fun i => (i.zero, i.size, i.bytes)) = some (some z, s, b)) : ∃ i, P.info? t = some i /\ i.zero = some z /\ i.size = s /\ i.bytes = b := by
 cases hi : P.info? t with
 | none => rw [hi] at h; cases h
 | some i => rw [hi] at h; simp only [Option.map_some, Option.some.injEq, Prod.mk.injEq] at h; exact ⟨i, rfl, h.1, h.2.1, h.2.2⟩
theorem Tryz.inf23 : (Tryz.prog.info? 25).map (fun i => (i.zero, i.size, i.bytes)) = some (some (.int .u64 0), 1, 8) := by kernel_rfl
theorem add_at (b j : Nat) : ((⟨b, 0, none⟩ : Addr).add j) = ⟨b, j, none⟩ := by rw [Addr.add_lit, Nat.zero_add]
theorem wpList_append_one {P : Program} {ops : Array Oper} {rest : List Oper} {o : Oper} {a : Act} {w : World} {Q : Exit -> Act -> World -> Prop} (hgd : o.guard = none) (s x : Operand) (t : TypeId)
  (ho : o.op = Op.call { callee := Callee.builtin Builtin.append, args := #[s, x], argTypes := #[t, t] }) (v u : Value) (hs : a.eval s = v) (hx : a.eval x = u)
  (v' : Value) (w' : World) (hr : (Builtin.append_ #[t, t] o.type #[v, u]).run P w = .ok v' w') (h : wpList P ops Q rest (a.put o.dst v') w') : wpList P ops Q (o :: rest) a w :=
 wpList_plain hgd fun K hK => by
  unfold Oper.wp execOp
  simp only [ho, resolve, invoke, builtin, Sem.run_bind, Sem.run_pure, Result.andThen_ok, List.map_toArray, List.map_cons, List.map_nil, hs, hx, hr]
  exact hK _ _ h
end Go.Proofs.YtknpcmadghkaaaaGreatDoor.Sh
