/-
  What is proved: plain laws on blocks, on what turns, and on maps from numbers to whatever values. Conditions as stated.
  What is proved: the disk as the document has it, and how it lies in memory; the calls that only look at it or turn its own cells. Conditions as stated.
-/
import Derived.Test.YtghjogneogkpoaaGreatDoorChecked
import Derived.WalkKit
import Derived.WalkSpells
import Derived.WalkLawsBesides
import Derived.Maps.OwnSet
import Derived.Maps.AppendAt
import Derived.Laws.CopyOwn
import Derived.Lib.Hide
import Derived.IntWalk
import Derived.Deep.DeepMust
import Derived.Deep.QuietTactic
import Derived.BigQuiet
import Derived.Deep.WholeRow
import Derived.Deep.MidRow
import Derived.Deep.RegionHeld3
import Derived.StillTailTactics
import Derived.ChangeKeysEq

namespace Go.Proofs.YtghjogneogkpoaaGreatDoor
open Go.RowKit

/-- Bytes as values. -/
def u8s (bs : List UInt8) : List Value := bs.map fun b => Value.int .u8 (b.toNat : Int)
theorem u8s_length (l : List UInt8) : (u8s l).length = l.length := by simp [u8s]
theorem u8s_one (l : List UInt8) : ∀ v ∈ u8s l, v.oneCell' = true := by
  intro v hv
  simp only [u8s, List.mem_map] at hv
  obtain ⟨x, _, rfl⟩ := hv
  rfl
theorem u8s_at (l : List UInt8) (k : Nat) (hk : k < l.length) : (u8s l)[k]? = some (.int .u8 ((l.getD k 0).toNat : Int)) := by
  simp [u8s, List.getElem?_eq_getElem hk, List.getD_eq_getElem?_getD]

theorem heap_set {w : World} {g k : Nat} {C : List Value} {t : TypeId} (h : w.heap[g]? = some (.cells C.toArray t (0, 0))) (v : Value) : (w.setCell ⟨g, k, none⟩ v).heap[g]? = some (.cells (C.set k v).toArray t (0, 0)) := by
  simp [World.setCell, Array.getElem?_modify, h]
theorem free_block {w : World} {g : Nat} {C : Array Value} {t : TypeId} (h : w.heap[g]? = some (.cells C t (0, 0))) (k : Nat) : w.frozen? ⟨g, k, none⟩ = false := by
  simp only [World.frozen?, h]
  simp
theorem block_cell {w : World} {g : Nat} {C : List Value} {t : TypeId} (h : w.heap[g]? = some (.cells C.toArray t (0, 0))) (k : Nat) (v : Value) (hv : C[k]? = some v) : w.cell? ⟨g, k, none⟩ = some v := by
  rw [cell_of_row w g k C.toArray t (0, 0) h]
  simpa using hv
theorem range_block {w : World} {g : Nat} {C : List Value} {t : TypeId} (h : w.heap[g]? = some (.cells C.toArray t (0, 0))) (o : Nat) (cs : List Value) (hc : ∀ j v, cs[j]? = some v → C[o + j]? = some v) : w.rangeAt g o cs := fun j v hv =>
  block_cell h (o + j) v (hc j v hv)
theorem ret_range {P : Program} {fn : Func} {p : Tmp} {ty : TypeId} (h : fn.results = #[.cell p ty]) {tmps : Array Value} {w : World} {g : Nat} {cs : List Value} {d : TypeDesc}
    (hp : tmps.getD p undef = .pointer (some ⟨g, 0, none⟩)) (hc : w.rangeAt g 0 cs) (hu : P.underlying ty = some d) (hd : d.isRow = true) (hi : (P.info? ty).map (·.size) = some cs.length) :
    (results fn tmps).run P w = .ok (.agg cs.toArray) w := by
  have hp' : tmps[p]?.getD undef = .pointer (some ⟨g, 0, none⟩) := by simpa using hp
  simp [results, h, hp', asAddr, run_loadVar_mid w g 0 ty cs d hc hu hd hi]

/-! ### what turns -/
/-- Of what was there no block but those of S has turned. -/
structure Turns (S : Nat → Prop) (w w' : World) : Prop where
  os : w'.os = w.os
  tape : w'.tape = w.tape
  output : w'.output = w.output
  size : w.heap.size ≤ w'.heap.size
  block : ∀ k, k < w.heap.size → ¬ S k → w'.heap[k]? = w.heap[k]?

/-- .. and whose S was is S' now, but for what is new. -/
def Own (w : World) (S : Nat → Prop) (w' : World) (S' : Nat → Prop) : Prop := Turns S w w' ∧ ∀ k, S' k → S k ∨ w.heap.size ≤ k

theorem Turns.refl (S : Nat → Prop) (w : World) : Turns S w w := ⟨rfl, rfl, rfl, Nat.le_refl _, fun _ _ _ => rfl⟩
theorem Turns.drewN {S : Nat → Prop} {a w : World} (h : Turns S a w) (q : Nat) : Turns S a (w.drewN q) := ⟨h.os, h.tape, h.output, h.size, h.block⟩
theorem Turns.mono {S S' : Nat → Prop} {a w : World} (h : Turns S a w) (hs : ∀ k, S k → S' k) : Turns S' a w := ⟨h.os, h.tape, h.output, h.size, fun k hk hn => h.block k hk fun x => hn (hs k x)⟩
theorem Turns.step {S S' : Nat → Prop} {a b c : World} (h : Turns S a b) (k : Turns S' b c) (hs : ∀ k, S' k → S k ∨ a.heap.size ≤ k) : Turns S a c :=
  ⟨k.os.trans h.os, k.tape.trans h.tape, k.output.trans h.output, Nat.le_trans h.size k.size, fun i hi hn => (k.block i (Nat.lt_of_lt_of_le hi h.size) (fun x => (hs i x).elim hn fun y => by omega)).trans (h.block i hi hn)⟩
theorem Turns.trans {S : Nat → Prop} {a b c : World} (h : Turns S a b) (k : Turns S b c) : Turns S a c := h.step k fun _ x => .inl x
theorem Turns.alloc {S : Nat → Prop} {a w : World} (h : Turns S a w) (o : Obj) : Turns S a (w.alloc o) :=
  h.trans ⟨rfl, rfl, rfl, by simp, fun k hk _ => heap_alloc_old w o hk⟩
theorem Turns.setCell {S : Nat → Prop} {a w : World} (h : Turns S a w) {g : Nat} (hg : S g ∨ a.heap.size ≤ g) (i : Nat) (v : Value) : Turns S a (w.setCell ⟨g, i, none⟩ v) :=
  h.step (S' := (· = g)) ⟨rfl, rfl, rfl, by simp [World.setCell], fun k _ hn => Below.heap_setCell w ⟨g, i, none⟩ v k hn⟩ (by rintro k rfl; exact hg)
theorem Turns.setCells {S : Nat → Prop} {a : World} {g : Nat} (hg : S g ∨ a.heap.size ≤ g) : ∀ (vs : List Value) (o : Nat) (w : World), Turns S a w → Turns S a (w.setCells g o vs)
  | [], _, _, h => h
  | v :: r, o, w, h => by
    rw [World.setCells]
    exact Turns.setCells hg r (o + 1) _ (h.setCell hg o v)
theorem Turns.grown {S : Nat → Prop} {a w w' : World} (h : Turns S a w) {row : Option Nat} (hg : w.grownBy w' row) (hr : ∀ g, row = some g → S g ∨ a.heap.size ≤ g) : Turns S a w' :=
  h.step (S' := fun k => row = some k) ⟨hg.os, hg.tape, hg.output, hg.size, fun k hk hn => hg.block k hk fun e => hn e.symm⟩ (fun k e => hr k e)
theorem Turns.turned {S : Nat → Prop} {a w w' : World} (h : Turns S a w) {b : Nat} (hg : w.mapTurned w' b) (hr : S b ∨ a.heap.size ≤ b) : Turns S a w' :=
  h.grown hg.grown (by rintro g e; cases e; exact hr)
theorem Turns.below {S : Nat → Prop} {a w : World} (h : Turns S a w) {B : Nat} (hB : B ≤ a.heap.size) (hs : ∀ k, S k → B ≤ k) : Below B a w :=
  ⟨h.os, h.tape, h.output, h.size, fun k hk => h.block k (by omega) fun x => by have := hs k x; omega⟩
theorem Turns.of_below {S : Nat → Prop} {a w : World} (h : Below a.heap.size a w) : Turns S a w := ⟨h.os, h.tape, h.output, h.size, fun k hk _ => h.block k hk⟩
theorem Own.trans {a b c : World} {S S' S'' : Nat → Prop} (h : Own a S b S') (k : Own b S' c S'') : Own a S c S'' :=
  ⟨h.1.step k.1 h.2, fun i hi => (k.2 i hi).elim (h.2 i) fun x => .inr (Nat.le_trans h.1.size x)⟩
theorem Own.same {a b : World} {S : Nat → Prop} (h : Turns S a b) : Own a S b S := ⟨h, fun _ x => .inl x⟩

/-! ### maps -/
/-- A value as it stands. -/
def rdV (v : Value) : Option (DataW Value × List MemPlace) := some (.held v, [])
/-- One number's value anew. -/
def upd {α : Type} (f : Int → α) (k : Int) (v : α) : Int → α := fun x => if x = k then v else f x
theorem upd_same {α : Type} (f : Int → α) (k : Int) (v : α) : upd f k v k = v := by simp [upd]
theorem upd_other {α : Type} (f : Int → α) {k x : Int} (v : α) (h : x ≠ k) : upd f k v x = f x := by simp [upd, h]

/-- Block b is a map of at most n entries: at x there stands f x. -/
def World.mapAt (w : World) (b n : Nat) (f : Int → Option Value) : Prop :=
  ∃ D : DataW Value, w.ownsMap Tryz.prog 3 rdV b n D ∧ (∀ x z, D.atKey (.int .i64 x) z = match f x with | some v => .held v | none => z) ∧ ∀ x, Maps.has D (.int .i64 x) = (f x).isSome

theorem mapAt_made (w : World) : World.mapAt (w.alloc (.map #[] 0)) w.heap.size 0 fun _ => none :=
  ⟨_, World.ownsMap_made _ _ _ _, fun _ _ => rfl, fun _ => rfl⟩
theorem mapAt_mono {w : World} {b n n' : Nat} {f : Int → Option Value} (h : World.mapAt w b n f) (hn : n ≤ n') : World.mapAt w b n' f :=
  let ⟨D, h1, h2⟩ := h; ⟨D, h1.mono hn, h2⟩
theorem mapAt_lt {w : World} {b n : Nat} {f : Int → Option Value} (h : World.mapAt w b n f) : b < w.heap.size := let ⟨_, h1, _⟩ := h; h1.lt
theorem mapAt_block {w : World} {b n : Nat} {f : Int → Option Value} (h : World.mapAt w b n f) : ∃ es clock, w.heap[b]? = some (.map es clock) := let ⟨_, ⟨es, c, h1, _⟩, _⟩ := h; ⟨es, c, h1⟩
theorem mapAt_kept {w w' : World} {b n : Nat} {f : Int → Option Value} (h : World.mapAt w b n f) (he : w'.heap[b]? = w.heap[b]?) : World.mapAt w' b n f := by
  obtain ⟨D, ⟨es, clock, h1, h2⟩, h3⟩ := h
  exact ⟨D, ⟨es, clock, he.trans h1, h2⟩, h3⟩

theorem keyed3 : Maps.Keyed Tryz.prog 3 := Maps.int_keyed Tryz.underlying3
/-- A number that an int can be. -/
def I64 (x : Int) : Prop := (Lit.int .i64 x).wf = true
theorem i64_of {x : Int} (h : -9223372036854775808 ≤ x ∧ x < 9223372036854775808) : I64 x := by
  simp [I64, Lit.wf, IntKind.min, IntKind.max, IntKind.signed, IntKind.bits]
  omega
theorem key3 {x : Int} (h : I64 x) : _root_.Go.keyOf Tryz.prog 3 (.int .i64 x) = some (.int .i64 x) := Maps.keyOf_int_mk Tryz.underlying3 h

theorem mapAt_look {w : World} {t e : TypeId} (ht : Tryz.prog.underlying t = some (.map 3 e)) {z : Value} (hz : (zeroValue e).run Tryz.prog w = .ok z w) {b n : Nat} {f : Int → Option Value} (h : World.mapAt w b n f) {x : Int} (hx : I64 x) :
    (Instr.lookup t (.map (some b)) (.int .i64 x) true).run Tryz.prog w = .ok (.tuple #[(f x).getD z, .bool (f x).isSome]) w ∧ (Instr.lookup t (.map (some b)) (.int .i64 x) false).run Tryz.prog w = .ok ((f x).getD z) w := by
  obtain ⟨D, h1, h2, h3⟩ := h
  obtain ⟨v, ps, hr, hv⟩ := h1.look_ok keyed3 ht hz (zd := .held z) (zp := []) rfl (key3 hx)
  obtain ⟨v', ps', hr', hv'⟩ := h1.lookup keyed3 ht hz (zd := .held z) (zp := []) rfl (key3 hx)
  rw [h2] at hv hv'
  rw [h3] at hr
  simp only [rdV, Option.some.injEq, Prod.mk.injEq] at hv hv'
  have e1 : v = (f x).getD z := by cases hf : f x <;> rw [hf] at hv <;> simpa using hv.1
  have e2 : v' = (f x).getD z := by cases hf : f x <;> rw [hf] at hv' <;> simpa using hv'.1
  rw [e1] at hr
  rw [e2] at hr'
  exact ⟨hr, hr'⟩

/-- A map or none at all. -/
def World.mapOr (w : World) (m : Option Nat) (n : Nat) (f : Int → Option Value) : Prop := (m = none ∧ ∀ x, f x = none) ∨ ∃ b, m = some b ∧ World.mapAt w b n f

theorem mapOr_look {w : World} {t e : TypeId} (ht : Tryz.prog.underlying t = some (.map 3 e)) {z : Value} (hz : (zeroValue e).run Tryz.prog w = .ok z w) {m : Option Nat} {n : Nat} {f : Int → Option Value} (h : World.mapOr w m n f) {x : Int} (hx : I64 x) :
    (Instr.lookup t (.map m) (.int .i64 x) true).run Tryz.prog w = .ok (.tuple #[(f x).getD z, .bool (f x).isSome]) w ∧ (Instr.lookup t (.map m) (.int .i64 x) false).run Tryz.prog w = .ok ((f x).getD z) w := by
  rcases h with ⟨rfl, h⟩ | ⟨b, rfl, h⟩
  · rw [h]
    exact ⟨Maps.look_nil true keyed3 ht hz (key3 hx), Maps.look_nil false keyed3 ht hz (key3 hx)⟩
  · exact mapAt_look ht hz h hx

theorem mapAt_put {D : DataW Value} {f : Int → Option Value} (hD : Maps.IsMap D) (h2 : ∀ x z, D.atKey (.int .i64 x) z = match f x with | some v => .held v | none => z) (h3 : ∀ x, Maps.has D (.int .i64 x) = (f x).isSome) (k : Int) (v : Value) :
    (∀ x z, (D.put (.int .i64 k) (.held v)).atKey (.int .i64 x) z = match upd f k (some v) x with | some v => .held v | none => z) ∧ ∀ x, Maps.has (D.put (.int .i64 k) (.held v)) (.int .i64 x) = (upd f k (some v) x).isSome := by
  refine ⟨fun x z => ?_, fun x => ?_⟩
  · by_cases hx : x = k
    · subst hx
      rw [upd_same, Maps.atKey_put_same hD (k := .int .i64 _) trivial]
    · rw [upd_other _ _ hx, Maps.atKey_put_other (by simpa using hx), h2]
  · by_cases hx : x = k
    · subst hx
      rw [upd_same, Maps.has_put_same hD (k := .int .i64 _) trivial]
      rfl
    · rw [upd_other _ _ hx, Maps.has_put_other (by simpa using hx), h3]
theorem mapAt_del {D : DataW Value} {f : Int → Option Value} (h2 : ∀ x z, D.atKey (.int .i64 x) z = match f x with | some v => .held v | none => z) (h3 : ∀ x, Maps.has D (.int .i64 x) = (f x).isSome) (k : Int) :
    (∀ x z, (D.del (.int .i64 k)).atKey (.int .i64 x) z = match upd f k none x with | some v => .held v | none => z) ∧ ∀ x, Maps.has (D.del (.int .i64 k)) (.int .i64 x) = (upd f k none x).isSome := by
  refine ⟨fun x z => ?_, fun x => ?_⟩
  · by_cases hx : x = k
    · subst hx
      rw [upd_same, Maps.atKey_del_same]
    · rw [upd_other _ _ hx, Maps.atKey_del_other (by simpa using hx), h2]
  · by_cases hx : x = k
    · subst hx
      rw [upd_same, Maps.has_del_same]
      rfl
    · rw [upd_other _ _ hx, Maps.has_del_other (by simpa using hx), h3]

/-- 'm[k] = v'. -/
theorem wpList_put_at {w : World} {ops : Array Oper} {rest : List Oper} {o : Oper} {a : Act} {Q : Exit → Act → World → Prop} (hg : o.guard = none) (m x v : Operand) (t e : TypeId) (hop : o.op = Op.mapUpdate t m x v)
    (ht : Tryz.prog.underlying t = some (.map 3 e)) (b n : Nat) (f : Int → Option Value) (hm : a.eval m = .map (some b)) (hown : World.mapAt w b n f) (hn : n < maxLen) (k : Int) (val : Value) (hx : a.eval x = .int .i64 k) (hv : a.eval v = val) (hk : I64 k)
    (h : ∀ w', Hid (World.mapAt w' b (n + 1) (upd f k (some val))) → Hid (w.mapTurned w' b) → wpList Tryz.prog ops Q rest (a.put o.dst undef) w') : wpList Tryz.prog ops Q (o :: rest) a w := by
  obtain ⟨D, h1, h2, h3⟩ := hown
  refine wpList_mapUpdate_in w hg m x v t hop 3 e keyed3 ht rdV b n D hm h1 hn _ val _ hx hv (key3 hk) (.held val) [] rfl ?_
  intro w' h4 h5
  exact h w' (Lib.hid ⟨_, h4, mapAt_put h1.isMap h2 h3 k val⟩) (Lib.hid h5)
/-- 'delete(m, k)'. -/
theorem wpList_del_at {w : World} {ops : Array Oper} {rest : List Oper} {o : Oper} {a : Act} {Q : Exit → Act → World → Prop} (hg : o.guard = none) (m x : Operand) (t e : TypeId) (hop : o.op = Op.call { callee := Callee.builtin Builtin.delete, args := #[m, x], argTypes := #[t, 3] })
    (ht : Tryz.prog.underlying t = some (.map 3 e)) (b n : Nat) (f : Int → Option Value) (hm : a.eval m = .map (some b)) (hown : World.mapAt w b n f) (k : Int) (hx : a.eval x = .int .i64 k) (hk : I64 k)
    (h : ∀ w', Hid (World.mapAt w' b n (upd f k none)) → Hid (w.mapTurned w' b) → wpList Tryz.prog ops Q rest (a.put o.dst (.tuple #[])) w') : wpList Tryz.prog ops Q (o :: rest) a w := by
  obtain ⟨D, h1, h2, h3⟩ := hown
  refine wpList_delete_own w hg m x t 3 hop e keyed3 ht rdV b n D hm h1 _ _ hx (key3 hk) ?_
  intro w' h4 h5
  exact h w' (Lib.hid ⟨_, h4, mapAt_del h2 h3 k⟩) (Lib.hid h5)
end Go.Proofs.YtghjogneogkpoaaGreatDoor

namespace Go.Proofs.YtghjogneogkpoaaGreatDoor
open Go.RowKit


def Sl (A : Option Addr) (n c : Nat) : Prop := (A = none → n = 0 ∧ c = 0) ∧ n ≤ c ∧ c ≤ 9223372036854775807
theorem row_shape {w : World} {B n : Nat} {v : Value} {xs : List Value} {e k : Nat} (h : w.ownsRow B e k v n xs) : ∃ A c, v = .slice A n c ∧ Sl A n c := by
  rcases h.2 with ⟨rfl, rfl⟩ | ⟨g, cap, cur, rfl, _, _, hn, hm, _⟩
  · exact ⟨none, 0, rfl, ⟨fun _ => ⟨rfl, rfl⟩, Nat.le_refl _, by omega⟩⟩
  · exact ⟨_, cap, rfl, ⟨(fun h => (by cases h)), hn, by unfold maxLen at hm; omega⟩⟩
/-! ### of no disk -/
end Go.Proofs.YtghjogneogkpoaaGreatDoor
