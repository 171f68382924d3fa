/- Laws and walks. -/
import Derived.Test.YtllbbcifcbkgeaaGreatDoorG1a
import Derived.Test.YtllbbcifcbkgeaaGreatDoorFba
import Derived.Maps.OwnSet
import Derived.Maps.RangeWalk
import Derived.DeepKeys4
import Derived.Test.YtllbbcifcbkgeaaGreatDoorF13a
import Derived.Test.YtllbbcifcbkgeaaGreatDoorF12a
set_option maxHeartbeats 16000000
set_option maxRecDepth 100000
namespace Go.Proofs.YtllbbcifcbkgeaaGreatDoor.Sh
open Go.RowKit
open Classical in
noncomputable def rdM (v : Value) : Option (DataW Value × List MemPlace) := if ∃ m : MMsg, m.Wf /\ v = .agg (msgC m).toArray then some (.held v, []) else none
theorem rdM_of {m : MMsg} (h : m.Wf) : rdM (.agg (msgC m).toArray) = some (.held (.agg (msgC m).toArray), []) := if_pos ⟨m, h, rfl⟩
theorem rdM_inv {v : Value} {y : DataW Value × List MemPlace} (h : rdM v = some y) : ∃ m : MMsg, m.Wf /\ v = .agg (msgC m).toArray /\ y = (.held v, []) := by
 unfold rdM at h
 by_cases hx : ∃ m : MMsg, m.Wf /\ v = .agg (msgC m).toArray
 ·rw [if_pos hx] at h
  obtain ⟨m, h1, h2⟩ := hx
  exact ⟨m, h1, h2, (Option.some.inj h).symm⟩
 ·rw [if_neg hx] at h; cases h
def kv (p : Int × Nat) : Value := .agg (prC p).toArray
def PkOk (p : Int × Nat) : Prop := (Lit.int .i64 p.1).wf = true /\ (Lit.int .u64 (p.2 : Int)).wf = true
theorem laidOutT : laidOutB Tryz.prog = true := by kernel_rfl
theorem keyedP : Maps.Keyed Tryz.prog 55 := Maps.Keyed.of_law (deep_law_laid laidOutT (m := 9) (by decide) (of_decide_eq_true (by kernel_rfl)) (by kernel_rfl) (by kernel_rfl))
theorem lits_int (d : Nat) {x : Int} (h : (Lit.int .i64 x).wf = true) : Program.keyLits Tryz.prog (d + 1) 3 [.int .i64 x] = some [.int .i64 x] := by
 unfold Program.keyLits
 simp only [Tryz.underlying3]
 rw [if_pos ⟨trivial, h⟩]
theorem lits_u64 (d : Nat) {x : Int} (h : (Lit.int .u64 x).wf = true) : Program.keyLits Tryz.prog (d + 1) 25 [.int .u64 x] = some [.int .u64 x] := by
 unfold Program.keyLits
 simp only [Tryz.underlying25]
 rw [if_pos ⟨trivial, h⟩]
theorem lits_pair (d : Nat) {p : Int × Nat} (h : PkOk p) : Program.keyLits Tryz.prog (d + 1 + 1) 55 [.int .i64 p.1, .int .u64 (p.2 : Int)] = some [.int .i64 p.1, .int .u64 (p.2 : Int)] := by
 have h3 := lits_int d h.1
 have h25 := lits_u64 d h.2
 unfold Program.keyLits
 simp only [Tryz.underlying55]
 rw [if_pos ⟨by rw [Tryz.cc55]; rfl, by kernel_rfl⟩]
 simp only [Tryz.cc3, Tryz.cells25, List.mapM_cons, List.mapM_nil, List.drop_zero, List.drop_succ_cons, List.take_succ_cons, List.take_zero, h3, h25]
 rfl
theorem key_some {p : Int × Nat} (h : PkOk p) : ∃ l, _root_.Go.keyOf Tryz.prog 55 (kv p) = some l := by
 have hs : Tryz.prog.types.size + 1 = 193 + 1 + 1 := by kernel_rfl
 have hkt : Tryz.prog.keyType 55 = true := by kernel_rfl
 have hfm : (kv p).formed Tryz.prog 55 = true := by kernel_rfl
 have hl := lits_pair 193 h
 unfold _root_.Go.keyOf
 simp only [Tryz.underlying55]
 rw [if_pos (by rw [hkt, hfm]; rfl), hs, show (kv p).cells.toList = [.int .i64 p.1, .int .u64 (p.2 : Int)] from rfl, hl]
 exact ⟨_, rfl⟩
open Classical in
noncomputable def kl (p : Int × Nat) : Lit := (_root_.Go.keyOf Tryz.prog 55 (kv p)).getD (.bool false)
theorem keyP {p : Int × Nat} (h : PkOk p) : _root_.Go.keyOf Tryz.prog 55 (kv p) = some (kl p) := by
 obtain ⟨l, hl⟩ := key_some h
 rw [kl, hl]; rfl
theorem kv_inj {p q : Int × Nat} (h : kv p = kv q) : p = q := by
 have h1 : prC p = prC q := by
  have : (prC p).toArray = (prC q).toArray := by injection h
  simpa using this
 simp only [prC, List.cons.injEq, Value.int.injEq, true_and, and_true] at h1
 obtain ⟨a, b⟩ := h1
 exact Prod.ext a (by omega)
theorem kl_inj {p q : Int × Nat} (hp : PkOk p) (hq : PkOk q) (h : kl p = kl q) : p = q := kv_inj (keyedP.inj (keyP hp) (h ▸ keyP hq))
open Go.RowKit
def Says (D : DataW Value) (f : Int × Nat -> Option MMsg) (s : Nat) : Prop :=
 (∀ p, PkOk p -> ∀ z, D.atKey (kl p) z = match f p with | some m => .held (.agg (msgC m).toArray) | none => z) /\ (∀ p, PkOk p -> Maps.has D (kl p) = (f p).isSome) /\ ((∀ p m, f p = some m -> m.Wf /\ PkOk p) /\ ∀ l, Maps.has D l = true -> ∃ p, PkOk p /\ l = kl p) /\ Maps.size D = s
def World.mapP (w : World) (b n : Nat) (f : Int × Nat -> Option MMsg) (s : Nat) : Prop := ∃ D : DataW Value, w.ownsMap Tryz.prog 55 rdM b n D /\ Says D f s
def updP (f : Int × Nat -> Option MMsg) (p : Int × Nat) (v : Option MMsg) : Int × Nat -> Option MMsg := fun q => if q = p then v else f q
theorem updP_same (f : Int × Nat -> Option MMsg) (p : Int × Nat) (v : Option MMsg) : updP f p v p = v := if_pos rfl
theorem updP_other (f : Int × Nat -> Option MMsg) {p q : Int × Nat} (v : Option MMsg) (h : q ≠ p) : updP f p v q = f q := if_neg h
theorem mapP_made (w : World) : World.mapP (w.alloc (.map #[] 0)) w.heap.size 0 (fun _ => none) 0 :=
 ⟨_, World.ownsMap_made _ _ _ _, fun _ _ _ => rfl, fun _ _ => rfl, ⟨fun _ _ h => (by cases h), fun _ h => (by cases h)⟩, rfl⟩
theorem mapP_lt {w : World} {b n s : Nat} {f : Int × Nat -> Option MMsg} (h : World.mapP w b n f s) : b < w.heap.size := let ⟨_, h1, _⟩ := h; h1.lt
theorem mapP_kept {w w' : World} {b n s : Nat} {f : Int × Nat -> Option MMsg} (h : World.mapP w b n f s) (he : w'.heap[b]? = w.heap[b]?) : World.mapP w' b n f s := by
 obtain ⟨D, ⟨es, clock, h1, h2⟩, h3⟩ := h
 exact ⟨D, ⟨es, clock, he.trans h1, h2⟩, h3⟩
theorem isKey_kl {p : Int × Nat} (h : PkOk p) : WideAt.IsKeyLit (kl p) := keyedP.key (keyP h)
theorem kl_ne {p q : Int × Nat} (hp : PkOk p) (hq : PkOk q) (h : q ≠ p) : kl q ≠ kl p := fun e => h (kl_inj hq hp e)
theorem says_put {D : DataW Value} {f : Int × Nat -> Option MMsg} {s : Nat} (hD : Maps.IsMap D) (ht : Maps.Tidy D) (h : Says D f s) {p : Int × Nat} (hp : PkOk p) {m : MMsg} (hm : m.Wf) (hn : f p = none) : Says (D.put (kl p) (.held (.agg (msgC m).toArray))) (updP f p (some m)) (s + 1) := by
 obtain ⟨h1, h2, h3, h4⟩ := h
 refine ⟨fun q hq z => ?_, fun q hq => ?_, ⟨fun q x hx => ?_, fun l hl => ?_⟩, ?_⟩
 ·by_cases e : q = p
  ·subst e; rw [updP_same, Maps.atKey_put_same hD (isKey_kl hq)]
  ·rw [updP_other _ _ e, Maps.atKey_put_other (kl_ne hp hq e), h1 q hq]
 ·by_cases e : q = p
  ·subst e; rw [updP_same, Maps.has_put_same hD (isKey_kl hq)]; rfl
  ·rw [updP_other _ _ e, Maps.has_put_other (kl_ne hp hq e), h2 q hq]
 ·by_cases e : q = p
  ·subst e; rw [updP_same] at hx; injection hx with hx; subst hx; exact ⟨hm, hp⟩
  ·rw [updP_other _ _ e] at hx; exact h3.1 q x hx
 ·by_cases e : l = kl p
  ·exact ⟨p, hp, e⟩
  ·rw [Maps.has_put_other e] at hl; exact h3.2 l hl
 ·rw [Maps.size_put ht, if_neg (by rw [h2 p hp, hn]; decide), h4]
theorem says_del {D : DataW Value} {f : Int × Nat -> Option MMsg} {s : Nat} (ht : Maps.Tidy D) (h : Says D f s) {p : Int × Nat} (hp : PkOk p) : Says (D.del (kl p)) (updP f p none) (s - (if (f p).isSome then 1 else 0)) := by
 obtain ⟨h1, h2, h3, h4⟩ := h
 refine ⟨fun q hq z => ?_, fun q hq => ?_, ⟨fun q x hx => ?_, fun l hl => ?_⟩, ?_⟩
 ·by_cases e : q = p
  ·subst e; rw [updP_same, Maps.atKey_del_same]
  ·rw [updP_other _ _ e, Maps.atKey_del_other (kl_ne hp hq e), h1 q hq]
 ·by_cases e : q = p
  ·subst e; rw [updP_same, Maps.has_del_same]; rfl
  ·rw [updP_other _ _ e, Maps.has_del_other (kl_ne hp hq e), h2 q hq]
 ·by_cases e : q = p
  ·subst e; rw [updP_same] at hx; cases hx
  ·rw [updP_other _ _ e] at hx; exact h3.1 q x hx
 ·by_cases e : l = kl p
  ·exact ⟨p, hp, e⟩
  ·rw [Maps.has_del_other e] at hl; exact h3.2 l hl
 ·have := Maps.size_del (k := kl p) ht
  rw [h2 p hp] at this
  omega
theorem mapP_look {w : World} {b n s : Nat} {f : Int × Nat -> Option MMsg} (h : World.mapP w b n f s) {p : Int × Nat} (hp : PkOk p) :
  (Instr.lookup 106 (.map (some b)) (kv p) true).run Tryz.prog w = .ok (.tuple #[.agg (msgC ((f p).getD zeroMsg)).toArray, .bool (f p).isSome]) w /\ (Instr.lookup 106 (.map (some b)) (kv p) false).run Tryz.prog w = .ok (.agg (msgC ((f p).getD zeroMsg)).toArray) w := by
 obtain ⟨D, h1, h2, h3, _, _⟩ := h
 have hz := rdM_of zeroMsg_wf
 obtain ⟨v, ps, hr, hv⟩ := h1.look_ok keyedP Tryz.underlying106 (zero_msg w) hz (keyP hp)
 obtain ⟨v', ps', hr', hv'⟩ := h1.lookup keyedP Tryz.underlying106 (zero_msg w) hz (keyP hp)
 rw [h2 p hp] at hv hv'
 rw [h3 p hp] at hr
 obtain ⟨m, _, e1, e2⟩ := rdM_inv hv
 obtain ⟨m', _, e1', e2'⟩ := rdM_inv hv'
 have k1 : v = .agg (msgC ((f p).getD zeroMsg)).toArray := by
  cases hf : f p <;> rw [hf] at e2 <;> simp only [Prod.mk.injEq, DataW.held.injEq] at e2 <;> exact e2.1.symm
 have k2 : v' = .agg (msgC ((f p).getD zeroMsg)).toArray := by
  cases hf : f p <;> rw [hf] at e2' <;> simp only [Prod.mk.injEq, DataW.held.injEq] at e2' <;> exact e2'.1.symm
 rw [k1] at hr
 rw [k2] at hr'
 exact ⟨hr, hr'⟩
theorem mapN_look (w : World) {p : Int × Nat} (hp : PkOk p) :
  (Instr.lookup 106 (.map none) (kv p) true).run Tryz.prog w = .ok (.tuple #[.agg (msgC zeroMsg).toArray, .bool false]) w /\ (Instr.lookup 106 (.map none) (kv p) false).run Tryz.prog w = .ok (.agg (msgC zeroMsg).toArray) w :=
 ⟨Maps.look_nil true keyedP Tryz.underlying106 (zero_msg w) (keyP hp), Maps.look_nil false keyedP Tryz.underlying106 (zero_msg w) (keyP hp)⟩
open Go.RowKit
theorem mayWait_any (x : Int) (w : World) : Calls Tryz.prog 54 #[.int .i64 x] w fun E w' => E = .returned (.bool (decide (x = 0) || decide (x = 12))) /\ w = w' := by
 by_cases h0 : x = 0
 ·have h1 : (x == 0) = true := by simp [h0]
  rw [show (decide (x = 0) || decide (x = 12)) = true by simp [h0]]
  clear h0
  go_enter Tryz.func54, Tryz.ntmps54
  go_wp2
  go_ret
  exact ⟨rfl, rfl⟩
 ·have h1 : (x == 0) = false := by simp [h0]
  by_cases h12 : x = 12
  ·have h2 : (x == 12) = true := by simp [h12]
   rw [show (decide (x = 0) || decide (x = 12)) = true by simp [h12]]
   clear h12
   go_enter Tryz.func54, Tryz.ntmps54
   go_wp2
   go_ret
   exact ⟨rfl, rfl⟩
  ·have h2 : (x == 12) = false := by simp [h12]
   rw [show (decide (x = 0) || decide (x = 12)) = false by simp [h0, h12]]
   go_enter Tryz.func54, Tryz.ntmps54
   go_wp2
   go_ret
   exact ⟨rfl, rfl⟩
theorem wnew_any (w : World) : Calls Tryz.prog 32 #[] w fun E w' => E = .returned (.pointer (some ⟨w.heap.size, 0, none⟩)) /\ w' = w.alloc (.cells #[.map none] 108) := by
 go_enter Tryz.func32, Tryz.ntmps32
 go_wp2
 go_ret
 exact ⟨rfl, rfl⟩
end Go.Proofs.YtllbbcifcbkgeaaGreatDoor.Sh
