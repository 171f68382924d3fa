/- Laws and walks. -/
import Derived.Test.YtknpcmadghkaaaaGreatDoorPbw
import Derived.Test.YtknpcmadghkaaaaGreatDoorFbw
import Derived.DeepKeys4
set_option maxHeartbeats 16000000
set_option maxRecDepth 100000
namespace Go.Proofs.YtknpcmadghkaaaaGreatDoor.Sh
open Go.RowKit
theorem mapU_lookG {t e : TypeId} {zv : Value} (hu : Tryz.prog.underlying t = some (.map 25 e)) (hz : ∀ w, (zeroValue e).run Tryz.prog w = .ok zv w) {w : World} {b n : Nat} {f : Int -> Option Value} (h : World.mapU w b n f) {x : Int} (hx : U64 x) :
  (Instr.lookup t (.map (some b)) (.int .u64 x) true).run Tryz.prog w = .ok (.tuple #[(f x).getD zv, .bool (f x).isSome]) w /\ (Instr.lookup t (.map (some b)) (.int .u64 x) false).run Tryz.prog w = .ok ((f x).getD zv) w := by
 obtain ⟨D, h1, h2, h3, _⟩ := h
 obtain ⟨v, ps, hr, hv⟩ := h1.look_ok keyed23 hu (hz w) (zd := .held zv) (zp := []) rfl (key23 hx)
 obtain ⟨v', ps', hr', hv'⟩ := h1.lookup keyed23 hu (hz w) (zd := .held zv) (zp := []) rfl (key23 hx)
 rw [h2] at hv hv'
 rw [h3] at hr
 simp only [rdV, Option.some.injEq, Prod.mk.injEq] at hv hv'
 have e1 : v = (f x).getD zv := by cases hf : f x <;> rw [hf] at hv <;> simpa using hv.1
 have e2 : v' = (f x).getD zv := by cases hf : f x <;> rw [hf] at hv' <;> simpa using hv'.1
 rw [e1] at hr
 rw [e2] at hr'
 exact ⟨hr, hr'⟩
theorem mapU_updateG {t e : TypeId} (hu : Tryz.prog.underlying t = some (.map 25 e)) {w : World} {b n : Nat} {f : Int -> Option Value} (h : World.mapU w b n f) (hn : n <= 2000000000) {k : Int} (hk : U64 k) (val : Value) :
  ∃ w', (Instr.mapUpdate t (.map (some b)) (.int .u64 k) val).run Tryz.prog w = .ok () w' /\ World.mapU w' b (if (f k).isSome then n else n + 1) (upd f k (some val)) /\ w.grownBy w' (some b) := by
 obtain ⟨D, h1, h2, h3, h4⟩ := h
 obtain ⟨w', r1, ⟨es, clock, q1, q2, q3, q4⟩, r3⟩ := h1.update keyed23 hu (by unfold maxLen; omega) (key23 hk) (show rdV val = some (.held val, []) from rfl)
 have hs : Maps.size (D.put (.int .u64 k) (.held val)) = if (f k).isSome then n else n + 1 := by
  rw [Maps.size_put (h1.tidy keyed23), h3, h4]
 refine ⟨w', r1, ⟨_, ⟨es, clock, q1, q2, ?_, q4⟩, fun x z => ?_, fun x => ?_, hs⟩, r3⟩
 ·have : es.size = Maps.size (D.put (.int .u64 k) (.held val)) := by rw [q4, Maps.size_eq, length_sorted]; simp
  rw [this, hs]
  exact Nat.le_refl _
 ·by_cases e : x = k
  ·subst e; rw [upd_same, Maps.atKey_put_same h1.isMap (k := .int .u64 _) trivial]
  ·rw [upd_other _ _ e, Maps.atKey_put_other (by simpa using e), h2]
 ·by_cases e : x = k
  ·subst e; rw [upd_same, Maps.has_put_same h1.isMap (k := .int .u64 _) trivial]; rfl
  ·rw [upd_other _ _ e, Maps.has_put_other (by simpa using e), h3]
def kv (p : Int × Nat) : Value := .agg (prC p).toArray
def PkOk (p : Int × Nat) : Prop := (Lit.int .i64 p.1).wf = true /\ (Lit.int .u64 (p.2 : Int)).wf = true
theorem laidOutT : laidOutB Tryz.prog = true := by kernel_rfl
theorem keyedA : Maps.Keyed Tryz.prog 117 := Maps.Keyed.of_law (deep_law_laid laidOutT (m := 9) (by decide) (of_decide_eq_true (by kernel_rfl)) (by kernel_rfl) (by kernel_rfl))
theorem Tryz.c117 : Tryz.prog.cellsOf 117 = 2 := by kernel_rfl
theorem Tryz.c3 : Tryz.prog.cellsOf 3 = 1 := by kernel_rfl
theorem Tryz.c25 : Tryz.prog.cellsOf 25 = 1 := by kernel_rfl
theorem lits_int (d : Nat) {x : Int} (h : (Lit.int .i64 x).wf = true) : Program.keyLits Tryz.prog (d + 1) 3 [.int .i64 x] = some [.int .i64 x] := by
 unfold Program.keyLits
 simp only [Tryz.underlying3]
 rw [if_pos ⟨trivial, h⟩]
theorem lits_u64 (d : Nat) {x : Int} (h : (Lit.int .u64 x).wf = true) : Program.keyLits Tryz.prog (d + 1) 25 [.int .u64 x] = some [.int .u64 x] := by
 unfold Program.keyLits
 simp only [Tryz.underlying25]
 rw [if_pos ⟨trivial, h⟩]
theorem lits_pair (d : Nat) {p : Int × Nat} (h : PkOk p) : Program.keyLits Tryz.prog (d + 1 + 1) 117 [.int .i64 p.1, .int .u64 (p.2 : Int)] = some [.int .i64 p.1, .int .u64 (p.2 : Int)] := by
 have h3 := lits_int d h.1
 have h25 := lits_u64 d h.2
 unfold Program.keyLits
 simp only [Tryz.underlying117]
 rw [if_pos ⟨by rw [Tryz.c117]; rfl, by kernel_rfl⟩]
 simp only [Tryz.c3, Tryz.c25, List.mapM_cons, List.mapM_nil, List.drop_zero, List.drop_succ_cons, List.take_succ_cons, List.take_zero, h3, h25]
 rfl
theorem key_some {p : Int × Nat} (h : PkOk p) : ∃ l, _root_.Go.keyOf Tryz.prog 117 (kv p) = some l := by
 have h0 : 0 < Tryz.prog.types.size := by decide +kernel
 obtain ⟨s, hs⟩ : ∃ s, Tryz.prog.types.size = s + 1 := ⟨Tryz.prog.types.size - 1, by omega⟩
 have hkt : Tryz.prog.keyType 117 = true := by kernel_rfl
 have hfm : (kv p).formed Tryz.prog 117 = true := by kernel_rfl
 have hl := lits_pair s h
 unfold _root_.Go.keyOf
 simp only [Tryz.underlying117]
 rw [if_pos (by rw [hkt, hfm]; rfl), hs, show (kv p).cells.toList = [.int .i64 p.1, .int .u64 (p.2 : Int)] from rfl, hl]
 exact ⟨_, rfl⟩
open Classical in
noncomputable def kl (p : Int × Nat) : Lit := (_root_.Go.keyOf Tryz.prog 117 (kv p)).getD (.bool false)
theorem keyP {p : Int × Nat} (h : PkOk p) : _root_.Go.keyOf Tryz.prog 117 (kv p) = some (kl p) := by
 obtain ⟨l, hl⟩ := key_some h
 rw [kl, hl]; rfl
theorem kv_inj {p q : Int × Nat} (h : kv p = kv q) : p = q := by
 have h1 : prC p = prC q := by
  have : (prC p).toArray = (prC q).toArray := by injection h
  simpa using this
 simp only [prC, List.cons.injEq, Value.int.injEq, true_and, and_true] at h1
 obtain ⟨a, b⟩ := h1
 exact Prod.ext a (by omega)
theorem kl_inj {p q : Int × Nat} (hp : PkOk p) (hq : PkOk q) (h : kl p = kl q) : p = q := kv_inj (keyedA.inj (keyP hp) (h ▸ keyP hq))
theorem isKey_kl {p : Int × Nat} (h : PkOk p) : WideAt.IsKeyLit (kl p) := keyedA.key (keyP h)
theorem kl_ne {p q : Int × Nat} (hp : PkOk p) (hq : PkOk q) (h : q ≠ p) : kl q ≠ kl p := fun e => h (kl_inj hq hp e)
def World.mapA (w : World) (b n : Nat) (f : Int × Nat -> Option Value) : Prop :=
 ∃ D : DataW Value, w.ownsMap Tryz.prog 117 rdV b n D /\ (∀ p, PkOk p -> ∀ z, D.atKey (kl p) z = match f p with | some v => .held v | none => z) /\ ∀ p, PkOk p -> Maps.has D (kl p) = (f p).isSome
theorem mapA_made (w : World) : World.mapA (w.alloc (.map #[] 0)) w.heap.size 0 fun _ => none :=
 ⟨_, World.ownsMap_made _ _ _ _, fun _ _ _ => rfl, fun _ _ => rfl⟩
theorem mapA_lt {w : World} {b n : Nat} {f : Int × Nat -> Option Value} (h : World.mapA w b n f) : b < w.heap.size := let ⟨_, h1, _⟩ := h; h1.lt
theorem mapA_block {w : World} {b n : Nat} {f : Int × Nat -> Option Value} (h : World.mapA w b n f) : ∃ es clock, w.heap[b]? = some (.map es clock) := let ⟨_, ⟨es, c, h1, _⟩, _⟩ := h; ⟨es, c, h1⟩
theorem mapA_kept {w w' : World} {b n : Nat} {f : Int × Nat -> Option Value} (h : World.mapA w b n f) (he : w'.heap[b]? = w.heap[b]?) : World.mapA w' b n f := by
 obtain ⟨D, ⟨es, clock, h1, h2⟩, h3⟩ := h
 exact ⟨D, ⟨es, clock, he.trans h1, h2⟩, h3⟩
theorem mapA_look {w : World} {b n : Nat} {f : Int × Nat -> Option Value} (h : World.mapA w b n f) {p : Int × Nat} (hp : PkOk p) :
  (Instr.lookup 131 (.map (some b)) (kv p) true).run Tryz.prog w = .ok (.tuple #[(f p).getD (.int .i64 0), .bool (f p).isSome]) w := by
 obtain ⟨D, h1, h2, h3⟩ := h
 obtain ⟨v, ps, hr, hv⟩ := h1.look_ok keyedA Tryz.underlying131 (zero3 w) (zd := .held (.int .i64 0)) (zp := []) rfl (keyP hp)
 rw [h2 p hp] at hv
 rw [h3 p hp] at hr
 simp only [rdV, Option.some.injEq, Prod.mk.injEq] at hv
 have e1 : v = (f p).getD (.int .i64 0) := by cases hf : f p <;> rw [hf] at hv <;> simpa using hv.1
 rw [e1] at hr
 exact hr
def updA (f : Int × Nat -> Option Value) (k : Int × Nat) (v : Option Value) : Int × Nat -> Option Value := fun x => if x = k then v else f x
theorem mapA_update {w : World} {b n : Nat} {f : Int × Nat -> Option Value} (h : World.mapA w b n f) (hn : n <= 2000000000) {k : Int × Nat} (hk : PkOk k) (val : Value) :
  ∃ w', (Instr.mapUpdate 131 (.map (some b)) (kv k) val).run Tryz.prog w = .ok () w' /\ World.mapA w' b (n + 1) (updA f k (some val)) /\ w.grownBy w' (some b) := by
 obtain ⟨D, h1, h2, h3⟩ := h
 obtain ⟨w', r1, r2, r3⟩ := h1.update keyedA Tryz.underlying131 (by unfold maxLen; omega) (keyP hk) (show rdV val = some (.held val, []) from rfl)
 refine ⟨w', r1, ⟨_, r2, fun x hx z => ?_, fun x hx => ?_⟩, r3⟩
 ·by_cases e : x = k
  ·subst e; rw [updA, if_pos rfl, Maps.atKey_put_same h1.isMap (isKey_kl hx)]
  ·rw [updA, if_neg e, Maps.atKey_put_other (kl_ne hk hx e), h2 x hx]
 ·by_cases e : x = k
  ·subst e; rw [updA, if_pos rfl, Maps.has_put_same h1.isMap (isKey_kl hx)]; rfl
  ·rw [updA, if_neg e, Maps.has_put_other (kl_ne hk hx e), h3 x hx]
theorem perm_at {l : List Thing} {i : Nat} {o : Thing} (h : l[i]? = some o) : (o :: l.eraseIdx i).Perm l := by
 obtain ⟨hi, rfl⟩ := List.getElem?_eq_some_iff.1 h
 rw [List.eraseIdx_eq_take_drop_succ]
 refine (List.perm_middle (l₁ := l.take i) (a := l[i]) (l₂ := l.drop (i + 1))).symm.trans (List.Perm.of_eq ?_)
 rw [<- List.drop_eq_getElem_cons hi, List.take_append_drop]
theorem Fr.focus {w W : World} {a l c : List Thing} {i : Nat} {o : Thing} (h : l[i]? = some o) (H : Fr w W (a ++ (l ++ c))) : Fr w W (o :: (a ++ (l.eraseIdx i ++ c))) :=
 H.perm (((List.Perm.append_left a (List.Perm.append_right c (perm_at h))).symm).trans (by rw [List.cons_append]; exact List.perm_middle))
theorem set_at {l : List Thing} {i : Nat} (o : Thing) (hi : i < l.length) : (o :: l.eraseIdx i).Perm (l.set i o) := by
 rw [List.eraseIdx_eq_take_drop_succ, List.set_eq_take_append_cons_drop, if_pos hi]
 exact (List.perm_middle (l₁ := l.take i) (a := o) (l₂ := l.drop (i + 1))).symm
theorem Fr.unfocus {w W : World} {a l c : List Thing} {i : Nat} {o : Thing} (hi : i < l.length) (H : Fr w W (o :: (a ++ (l.eraseIdx i ++ c)))) : Fr w W (a ++ (l.set i o ++ c)) :=
 H.perm ((List.perm_middle (l₁ := a) (a := o) (l₂ := l.eraseIdx i ++ c)).symm.trans (List.Perm.append_left a (by rw [<- List.cons_append]; exact List.Perm.append_right c (set_at o hi))))
end Go.Proofs.YtknpcmadghkaaaaGreatDoor.Sh
