/-
  What is proved: plain laws on blocks, on what turns, and on maps from numbers to whatever values. Conditions as stated.
  What is proved: the disk as the document has it, and how it lies in memory; the calls that only look at it or turn its own cells. Conditions as stated.
  What is proved: plain facts on numbers as bytes, the highest first. No condition.
  What is proved: what the three width functions answer. No condition.
  What is proved: what put does. Conditions as stated.
  What is proved: what Word, Half, Text, bytes.Clone and New do. Conditions as stated.
  What is proved: what Ok, rest, Left and take of a cut do. Conditions as stated.
  What is proved: what Word, Half, Byte, Text and Raw of a cut answer. Conditions as stated.
  What is proved: what Text and Raw of a cut answer. Conditions as stated.
  What is proved: what Text and Byte of octet do. Conditions as stated.
-/
import Derived.Test.YtghjogneogkpoaaGreatDoorChecked
import Derived.WalkKit
import Derived.WalkSpells
import Derived.WalkLawsBesides
import Derived.Maps.OwnSet
import Derived.Maps.AppendAt
import Derived.Laws.CopyOwn
import Derived.Lib.Hide
import Derived.IntWalk
import Derived.Deep.DeepMust
import Derived.Deep.QuietTactic
import Derived.BigQuiet
import Derived.Deep.WholeRow
import Derived.Deep.MidRow
import Derived.Deep.RegionHeld3
import Derived.StillTailTactics
import Derived.ChangeKeysEq
import Derived.Lib.AppendStr
import Derived.Laws.Rows
namespace Go.Proofs.YtghjogneogkpoaaGreatDoor
open Go.RowKit

/-- Bytes as values. -/
def u8s (bs : List UInt8) : List Value := bs.map fun b => Value.int .u8 (b.toNat : Int)
theorem u8s_length (l : List UInt8) : (u8s l).length = l.length := by simp [u8s]
theorem u8s_one (l : List UInt8) : ∀ v ∈ u8s l, v.oneCell' = true := by
  intro v hv
  simp only [u8s, List.mem_map] at hv
  obtain ⟨x, _, rfl⟩ := hv
  rfl
theorem u8s_at (l : List UInt8) (k : Nat) (hk : k < l.length) : (u8s l)[k]? = some (.int .u8 ((l.getD k 0).toNat : Int)) := by
  simp [u8s, List.getElem?_eq_getElem hk, List.getD_eq_getElem?_getD]

theorem heap_set {w : World} {g k : Nat} {C : List Value} {t : TypeId} (h : w.heap[g]? = some (.cells C.toArray t (0, 0))) (v : Value) : (w.setCell ⟨g, k, none⟩ v).heap[g]? = some (.cells (C.set k v).toArray t (0, 0)) := by
  simp [World.setCell, Array.getElem?_modify, h]
theorem free_block {w : World} {g : Nat} {C : Array Value} {t : TypeId} (h : w.heap[g]? = some (.cells C t (0, 0))) (k : Nat) : w.frozen? ⟨g, k, none⟩ = false := by
  simp only [World.frozen?, h]
  simp
theorem block_cell {w : World} {g : Nat} {C : List Value} {t : TypeId} (h : w.heap[g]? = some (.cells C.toArray t (0, 0))) (k : Nat) (v : Value) (hv : C[k]? = some v) : w.cell? ⟨g, k, none⟩ = some v := by
  rw [cell_of_row w g k C.toArray t (0, 0) h]
  simpa using hv
theorem range_block {w : World} {g : Nat} {C : List Value} {t : TypeId} (h : w.heap[g]? = some (.cells C.toArray t (0, 0))) (o : Nat) (cs : List Value) (hc : ∀ j v, cs[j]? = some v → C[o + j]? = some v) : w.rangeAt g o cs := fun j v hv =>
  block_cell h (o + j) v (hc j v hv)
theorem ret_range {P : Program} {fn : Func} {p : Tmp} {ty : TypeId} (h : fn.results = #[.cell p ty]) {tmps : Array Value} {w : World} {g : Nat} {cs : List Value} {d : TypeDesc}
    (hp : tmps.getD p undef = .pointer (some ⟨g, 0, none⟩)) (hc : w.rangeAt g 0 cs) (hu : P.underlying ty = some d) (hd : d.isRow = true) (hi : (P.info? ty).map (·.size) = some cs.length) :
    (results fn tmps).run P w = .ok (.agg cs.toArray) w := by
  have hp' : tmps[p]?.getD undef = .pointer (some ⟨g, 0, none⟩) := by simpa using hp
  simp [results, h, hp', asAddr, run_loadVar_mid w g 0 ty cs d hc hu hd hi]

/-! ### what turns -/
/-- Of what was there no block but those of S has turned. -/
structure Turns (S : Nat → Prop) (w w' : World) : Prop where
  os : w'.os = w.os
  tape : w'.tape = w.tape
  output : w'.output = w.output
  size : w.heap.size ≤ w'.heap.size
  block : ∀ k, k < w.heap.size → ¬ S k → w'.heap[k]? = w.heap[k]?

/-- .. and whose S was is S' now, but for what is new. -/
def Own (w : World) (S : Nat → Prop) (w' : World) (S' : Nat → Prop) : Prop := Turns S w w' ∧ ∀ k, S' k → S k ∨ w.heap.size ≤ k

theorem Turns.refl (S : Nat → Prop) (w : World) : Turns S w w := ⟨rfl, rfl, rfl, Nat.le_refl _, fun _ _ _ => rfl⟩
theorem Turns.drewN {S : Nat → Prop} {a w : World} (h : Turns S a w) (q : Nat) : Turns S a (w.drewN q) := ⟨h.os, h.tape, h.output, h.size, h.block⟩
theorem Turns.mono {S S' : Nat → Prop} {a w : World} (h : Turns S a w) (hs : ∀ k, S k → S' k) : Turns S' a w := ⟨h.os, h.tape, h.output, h.size, fun k hk hn => h.block k hk fun x => hn (hs k x)⟩
theorem Turns.step {S S' : Nat → Prop} {a b c : World} (h : Turns S a b) (k : Turns S' b c) (hs : ∀ k, S' k → S k ∨ a.heap.size ≤ k) : Turns S a c :=
  ⟨k.os.trans h.os, k.tape.trans h.tape, k.output.trans h.output, Nat.le_trans h.size k.size, fun i hi hn => (k.block i (Nat.lt_of_lt_of_le hi h.size) (fun x => (hs i x).elim hn fun y => by omega)).trans (h.block i hi hn)⟩
theorem Turns.trans {S : Nat → Prop} {a b c : World} (h : Turns S a b) (k : Turns S b c) : Turns S a c := h.step k fun _ x => .inl x
theorem Turns.alloc {S : Nat → Prop} {a w : World} (h : Turns S a w) (o : Obj) : Turns S a (w.alloc o) :=
  h.trans ⟨rfl, rfl, rfl, by simp, fun k hk _ => heap_alloc_old w o hk⟩
theorem Turns.setCell {S : Nat → Prop} {a w : World} (h : Turns S a w) {g : Nat} (hg : S g ∨ a.heap.size ≤ g) (i : Nat) (v : Value) : Turns S a (w.setCell ⟨g, i, none⟩ v) :=
  h.step (S' := (· = g)) ⟨rfl, rfl, rfl, by simp [World.setCell], fun k _ hn => Below.heap_setCell w ⟨g, i, none⟩ v k hn⟩ (by rintro k rfl; exact hg)
theorem Turns.setCells {S : Nat → Prop} {a : World} {g : Nat} (hg : S g ∨ a.heap.size ≤ g) : ∀ (vs : List Value) (o : Nat) (w : World), Turns S a w → Turns S a (w.setCells g o vs)
  | [], _, _, h => h
  | v :: r, o, w, h => by
    rw [World.setCells]
    exact Turns.setCells hg r (o + 1) _ (h.setCell hg o v)
theorem Turns.grown {S : Nat → Prop} {a w w' : World} (h : Turns S a w) {row : Option Nat} (hg : w.grownBy w' row) (hr : ∀ g, row = some g → S g ∨ a.heap.size ≤ g) : Turns S a w' :=
  h.step (S' := fun k => row = some k) ⟨hg.os, hg.tape, hg.output, hg.size, fun k hk hn => hg.block k hk fun e => hn e.symm⟩ (fun k e => hr k e)
theorem Turns.turned {S : Nat → Prop} {a w w' : World} (h : Turns S a w) {b : Nat} (hg : w.mapTurned w' b) (hr : S b ∨ a.heap.size ≤ b) : Turns S a w' :=
  h.grown hg.grown (by rintro g e; cases e; exact hr)
theorem Turns.below {S : Nat → Prop} {a w : World} (h : Turns S a w) {B : Nat} (hB : B ≤ a.heap.size) (hs : ∀ k, S k → B ≤ k) : Below B a w :=
  ⟨h.os, h.tape, h.output, h.size, fun k hk => h.block k (by omega) fun x => by have := hs k x; omega⟩
theorem Turns.of_below {S : Nat → Prop} {a w : World} (h : Below a.heap.size a w) : Turns S a w := ⟨h.os, h.tape, h.output, h.size, fun k hk _ => h.block k hk⟩
theorem Own.trans {a b c : World} {S S' S'' : Nat → Prop} (h : Own a S b S') (k : Own b S' c S'') : Own a S c S'' :=
  ⟨h.1.step k.1 h.2, fun i hi => (k.2 i hi).elim (h.2 i) fun x => .inr (Nat.le_trans h.1.size x)⟩
theorem Own.same {a b : World} {S : Nat → Prop} (h : Turns S a b) : Own a S b S := ⟨h, fun _ x => .inl x⟩

/-! ### maps -/
/-- A value as it stands. -/
def rdV (v : Value) : Option (DataW Value × List MemPlace) := some (.held v, [])
/-- One number's value anew. -/
def upd {α : Type} (f : Int → α) (k : Int) (v : α) : Int → α := fun x => if x = k then v else f x
theorem upd_same {α : Type} (f : Int → α) (k : Int) (v : α) : upd f k v k = v := by simp [upd]
theorem upd_other {α : Type} (f : Int → α) {k x : Int} (v : α) (h : x ≠ k) : upd f k v x = f x := by simp [upd, h]

/-- Block b is a map of at most n entries: at x there stands f x. -/
def World.mapAt (w : World) (b n : Nat) (f : Int → Option Value) : Prop :=
  ∃ D : DataW Value, w.ownsMap Tryz.prog 3 rdV b n D ∧ (∀ x z, D.atKey (.int .i64 x) z = match f x with | some v => .held v | none => z) ∧ ∀ x, Maps.has D (.int .i64 x) = (f x).isSome

theorem mapAt_made (w : World) : World.mapAt (w.alloc (.map #[] 0)) w.heap.size 0 fun _ => none :=
  ⟨_, World.ownsMap_made _ _ _ _, fun _ _ => rfl, fun _ => rfl⟩
theorem mapAt_mono {w : World} {b n n' : Nat} {f : Int → Option Value} (h : World.mapAt w b n f) (hn : n ≤ n') : World.mapAt w b n' f :=
  let ⟨D, h1, h2⟩ := h; ⟨D, h1.mono hn, h2⟩
theorem mapAt_lt {w : World} {b n : Nat} {f : Int → Option Value} (h : World.mapAt w b n f) : b < w.heap.size := let ⟨_, h1, _⟩ := h; h1.lt
theorem mapAt_block {w : World} {b n : Nat} {f : Int → Option Value} (h : World.mapAt w b n f) : ∃ es clock, w.heap[b]? = some (.map es clock) := let ⟨_, ⟨es, c, h1, _⟩, _⟩ := h; ⟨es, c, h1⟩
theorem mapAt_kept {w w' : World} {b n : Nat} {f : Int → Option Value} (h : World.mapAt w b n f) (he : w'.heap[b]? = w.heap[b]?) : World.mapAt w' b n f := by
  obtain ⟨D, ⟨es, clock, h1, h2⟩, h3⟩ := h
  exact ⟨D, ⟨es, clock, he.trans h1, h2⟩, h3⟩

theorem keyed3 : Maps.Keyed Tryz.prog 3 := Maps.int_keyed Tryz.underlying3
/-- A number that an int can be. -/
def I64 (x : Int) : Prop := (Lit.int .i64 x).wf = true
theorem i64_of {x : Int} (h : -9223372036854775808 ≤ x ∧ x < 9223372036854775808) : I64 x := by
  simp [I64, Lit.wf, IntKind.min, IntKind.max, IntKind.signed, IntKind.bits]
  omega
theorem key3 {x : Int} (h : I64 x) : _root_.Go.keyOf Tryz.prog 3 (.int .i64 x) = some (.int .i64 x) := Maps.keyOf_int_mk Tryz.underlying3 h

theorem mapAt_look {w : World} {t e : TypeId} (ht : Tryz.prog.underlying t = some (.map 3 e)) {z : Value} (hz : (zeroValue e).run Tryz.prog w = .ok z w) {b n : Nat} {f : Int → Option Value} (h : World.mapAt w b n f) {x : Int} (hx : I64 x) :
    (Instr.lookup t (.map (some b)) (.int .i64 x) true).run Tryz.prog w = .ok (.tuple #[(f x).getD z, .bool (f x).isSome]) w ∧ (Instr.lookup t (.map (some b)) (.int .i64 x) false).run Tryz.prog w = .ok ((f x).getD z) w := by
  obtain ⟨D, h1, h2, h3⟩ := h
  obtain ⟨v, ps, hr, hv⟩ := h1.look_ok keyed3 ht hz (zd := .held z) (zp := []) rfl (key3 hx)
  obtain ⟨v', ps', hr', hv'⟩ := h1.lookup keyed3 ht hz (zd := .held z) (zp := []) rfl (key3 hx)
  rw [h2] at hv hv'
  rw [h3] at hr
  simp only [rdV, Option.some.injEq, Prod.mk.injEq] at hv hv'
  have e1 : v = (f x).getD z := by cases hf : f x <;> rw [hf] at hv <;> simpa using hv.1
  have e2 : v' = (f x).getD z := by cases hf : f x <;> rw [hf] at hv' <;> simpa using hv'.1
  rw [e1] at hr
  rw [e2] at hr'
  exact ⟨hr, hr'⟩

/-- A map or none at all. -/
def World.mapOr (w : World) (m : Option Nat) (n : Nat) (f : Int → Option Value) : Prop := (m = none ∧ ∀ x, f x = none) ∨ ∃ b, m = some b ∧ World.mapAt w b n f

theorem mapOr_look {w : World} {t e : TypeId} (ht : Tryz.prog.underlying t = some (.map 3 e)) {z : Value} (hz : (zeroValue e).run Tryz.prog w = .ok z w) {m : Option Nat} {n : Nat} {f : Int → Option Value} (h : World.mapOr w m n f) {x : Int} (hx : I64 x) :
    (Instr.lookup t (.map m) (.int .i64 x) true).run Tryz.prog w = .ok (.tuple #[(f x).getD z, .bool (f x).isSome]) w ∧ (Instr.lookup t (.map m) (.int .i64 x) false).run Tryz.prog w = .ok ((f x).getD z) w := by
  rcases h with ⟨rfl, h⟩ | ⟨b, rfl, h⟩
  · rw [h]
    exact ⟨Maps.look_nil true keyed3 ht hz (key3 hx), Maps.look_nil false keyed3 ht hz (key3 hx)⟩
  · exact mapAt_look ht hz h hx

theorem mapAt_put {D : DataW Value} {f : Int → Option Value} (hD : Maps.IsMap D) (h2 : ∀ x z, D.atKey (.int .i64 x) z = match f x with | some v => .held v | none => z) (h3 : ∀ x, Maps.has D (.int .i64 x) = (f x).isSome) (k : Int) (v : Value) :
    (∀ x z, (D.put (.int .i64 k) (.held v)).atKey (.int .i64 x) z = match upd f k (some v) x with | some v => .held v | none => z) ∧ ∀ x, Maps.has (D.put (.int .i64 k) (.held v)) (.int .i64 x) = (upd f k (some v) x).isSome := by
  refine ⟨fun x z => ?_, fun x => ?_⟩
  · by_cases hx : x = k
    · subst hx
      rw [upd_same, Maps.atKey_put_same hD (k := .int .i64 _) trivial]
    · rw [upd_other _ _ hx, Maps.atKey_put_other (by simpa using hx), h2]
  · by_cases hx : x = k
    · subst hx
      rw [upd_same, Maps.has_put_same hD (k := .int .i64 _) trivial]
      rfl
    · rw [upd_other _ _ hx, Maps.has_put_other (by simpa using hx), h3]
theorem mapAt_del {D : DataW Value} {f : Int → Option Value} (h2 : ∀ x z, D.atKey (.int .i64 x) z = match f x with | some v => .held v | none => z) (h3 : ∀ x, Maps.has D (.int .i64 x) = (f x).isSome) (k : Int) :
    (∀ x z, (D.del (.int .i64 k)).atKey (.int .i64 x) z = match upd f k none x with | some v => .held v | none => z) ∧ ∀ x, Maps.has (D.del (.int .i64 k)) (.int .i64 x) = (upd f k none x).isSome := by
  refine ⟨fun x z => ?_, fun x => ?_⟩
  · by_cases hx : x = k
    · subst hx
      rw [upd_same, Maps.atKey_del_same]
    · rw [upd_other _ _ hx, Maps.atKey_del_other (by simpa using hx), h2]
  · by_cases hx : x = k
    · subst hx
      rw [upd_same, Maps.has_del_same]
      rfl
    · rw [upd_other _ _ hx, Maps.has_del_other (by simpa using hx), h3]

/-- 'm[k] = v'. -/
theorem wpList_put_at {w : World} {ops : Array Oper} {rest : List Oper} {o : Oper} {a : Act} {Q : Exit → Act → World → Prop} (hg : o.guard = none) (m x v : Operand) (t e : TypeId) (hop : o.op = Op.mapUpdate t m x v)
    (ht : Tryz.prog.underlying t = some (.map 3 e)) (b n : Nat) (f : Int → Option Value) (hm : a.eval m = .map (some b)) (hown : World.mapAt w b n f) (hn : n < maxLen) (k : Int) (val : Value) (hx : a.eval x = .int .i64 k) (hv : a.eval v = val) (hk : I64 k)
    (h : ∀ w', Hid (World.mapAt w' b (n + 1) (upd f k (some val))) → Hid (w.mapTurned w' b) → wpList Tryz.prog ops Q rest (a.put o.dst undef) w') : wpList Tryz.prog ops Q (o :: rest) a w := by
  obtain ⟨D, h1, h2, h3⟩ := hown
  refine wpList_mapUpdate_in w hg m x v t hop 3 e keyed3 ht rdV b n D hm h1 hn _ val _ hx hv (key3 hk) (.held val) [] rfl ?_
  intro w' h4 h5
  exact h w' (Lib.hid ⟨_, h4, mapAt_put h1.isMap h2 h3 k val⟩) (Lib.hid h5)
/-- 'delete(m, k)'. -/
theorem wpList_del_at {w : World} {ops : Array Oper} {rest : List Oper} {o : Oper} {a : Act} {Q : Exit → Act → World → Prop} (hg : o.guard = none) (m x : Operand) (t e : TypeId) (hop : o.op = Op.call { callee := Callee.builtin Builtin.delete, args := #[m, x], argTypes := #[t, 3] })
    (ht : Tryz.prog.underlying t = some (.map 3 e)) (b n : Nat) (f : Int → Option Value) (hm : a.eval m = .map (some b)) (hown : World.mapAt w b n f) (k : Int) (hx : a.eval x = .int .i64 k) (hk : I64 k)
    (h : ∀ w', Hid (World.mapAt w' b n (upd f k none)) → Hid (w.mapTurned w' b) → wpList Tryz.prog ops Q rest (a.put o.dst (.tuple #[])) w') : wpList Tryz.prog ops Q (o :: rest) a w := by
  obtain ⟨D, h1, h2, h3⟩ := hown
  refine wpList_delete_own w hg m x t 3 hop e keyed3 ht rdV b n D hm h1 _ _ hx (key3 hk) ?_
  intro w' h4 h5
  exact h w' (Lib.hid ⟨_, h4, mapAt_del h2 h3 k⟩) (Lib.hid h5)
end Go.Proofs.YtghjogneogkpoaaGreatDoor

namespace Go.Proofs.YtghjogneogkpoaaGreatDoor
open Go.RowKit


def Sl (A : Option Addr) (n c : Nat) : Prop := (A = none → n = 0 ∧ c = 0) ∧ n ≤ c ∧ c ≤ 9223372036854775807
theorem row_shape {w : World} {B n : Nat} {v : Value} {xs : List Value} {e k : Nat} (h : w.ownsRow B e k v n xs) : ∃ A c, v = .slice A n c ∧ Sl A n c := by
  rcases h.2 with ⟨rfl, rfl⟩ | ⟨g, cap, cur, rfl, _, _, hn, hm, _⟩
  · exact ⟨none, 0, rfl, ⟨fun _ => ⟨rfl, rfl⟩, Nat.le_refl _, by omega⟩⟩
  · exact ⟨_, cap, rfl, ⟨(fun h => (by cases h)), hn, by unfold maxLen at hm; omega⟩⟩
/-! ### of no disk -/
end Go.Proofs.YtghjogneogkpoaaGreatDoor

namespace Go.Proofs.YtghjogneogkpoaaGreatDoor.Oct

/-- Byte i of a number of so many bytes, the highest one first. -/
def beAt (size n i : Nat) : UInt8 := UInt8.ofNat (n / 256 ^ (size - 1 - i))

/-- The first k bytes of a number of so many bytes. -/
def beTake (size n k : Nat) : List UInt8 := (List.range k).map (beAt size n)

/-- A number in so many bytes. -/
def be (size n : Nat) : List UInt8 := beTake size n size

theorem u8s_append (a b : List UInt8) : u8s (a ++ b) = u8s a ++ u8s b := by simp [u8s]
theorem beTake_length (size n k : Nat) : (beTake size n k).length = k := by simp [beTake]
theorem be_length (size n : Nat) : (be size n).length = size := beTake_length _ _ _
theorem beTake_zero (size n : Nat) : beTake size n 0 = [] := rfl
theorem beTake_succ (size n k : Nat) : beTake size n (k + 1) = beTake size n k ++ [beAt size n k] := by
  simp [beTake, List.range_succ]
theorem beAt_toNat (size n i : Nat) : ((beAt size n i).toNat : Int) = ((n / 256 ^ (size - 1 - i) % 256 : Nat) : Int) := by
  simp [beAt]
end Go.Proofs.YtghjogneogkpoaaGreatDoor.Oct

namespace Go.Proofs.YtghjogneogkpoaaGreatDoor.Oct
open Go.RowKit

set_option maxRecDepth 1000000 in
theorem len64_max (w : World) : Calls Tryz.prog 114 #[.int .u64 18446744073709551615] w fun e w' => e = .returned (.int .i64 64) ∧ w = w' := by
  go_enter Tryz.func114, Tryz.ntmps114
  go_wp2
  go_ret
  exact ⟨by kernel_rfl, rfl⟩

set_option maxRecDepth 1000000 in
theorem len64_u16 (w : World) : Calls Tryz.prog 114 #[.int .u64 65535] w fun e w' => e = .returned (.int .i64 16) ∧ w = w' := by
  go_enter Tryz.func114, Tryz.ntmps114
  go_wp2
  go_ret
  exact ⟨by kernel_rfl, rfl⟩

theorem w8_any (w : World) : Calls Tryz.prog 98 #[] w fun e w' => e = .returned (.int .i64 8) ∧ w = w' := by
  go_enter Tryz.func98, Tryz.ntmps98
  go_wp2_with (go_at_call 114; refine (len64_max _).mono ?_; rintro e w' ⟨rfl, rfl⟩)
  go_ret
  exact ⟨rfl, rfl⟩

theorem w2_any (w : World) : Calls Tryz.prog 128 #[] w fun e w' => e = .returned (.int .i64 2) ∧ w = w' := by
  go_enter Tryz.func128, Tryz.ntmps128
  go_wp2_with (go_at_call 114; refine (len64_u16 _).mono ?_; rintro e w' ⟨rfl, rfl⟩)
  go_ret
  exact ⟨rfl, rfl⟩

end Go.Proofs.YtghjogneogkpoaaGreatDoor.Oct

namespace Go.Proofs.YtghjogneogkpoaaGreatDoor.Oct
open Go.RowKit

theorem Tryz.info5 : (Tryz.prog.info? 5).map (fun i => (i.zero, i.size, i.bytes)) = some (some (.int .u8 0), 1, 1) := by kernel_rfl

/-- The slice at A of length n reads as the bytes bs. -/
def Rd (w : World) (A : Option Addr) (n : Nat) (bs : List UInt8) : Prop :=
  bs.length = n ∧ (0 < n → ∃ b o, A = some ⟨b, o, none⟩ ∧ b < w.heap.size ∧ ∀ j u, bs[j]? = some u → w.cell? ⟨b, o + j, none⟩ = some (.int .u8 (u.toNat : Int)))

/-- make with a length and a capacity, of bytes. -/
theorem wpList_make_lc (w : World) {ops : Array Oper} {rest : List Oper} {o : Oper} {a : Act} {Q : Exit → Act → World → Prop}
    (hg : o.guard = none) (l c : Operand) (hop : o.op = Op.makeSlice 38 l c)
    (L C : Int) (n m : Nat) (hl : a.eval l = .int .i64 L) (hc : a.eval c = .int .i64 C) (hL : L = (n : Int)) (hC : C = (m : Int)) (hnm : n ≤ m) (hm : m ≤ 281474976710656)
    (hK : ∀ w', Hid (w'.heap[w.heap.size]? = some (.cells (List.replicate m (Value.int .u8 0)).toArray 5 (0, 0))) → Below w.heap.size w w' → w.heap.size < w'.heap.size → wpList Tryz.prog ops Q rest (a.put o.dst (.slice (some ⟨w.heap.size, 0, none⟩) n m)) w') :
    wpList Tryz.prog ops Q (o :: rest) a w := by
  obtain ⟨i0, hi, hz0, hz1, hz2⟩ := info_parts Tryz.info5
  refine wpList_plain hg fun K hK' => ?_
  have hrun := run_make (P := Tryz.prog) w 38 5 i0 (.int .u8 0) Tryz.underlying38 hi hz0 .i64 .i64 n m (by omega) (by omega) (by rw [hz2]; omega) (by omega)
  subst hL hC
  unfold Oper.wp
  simp [execOp, hop, hl, hc, hrun, Result.andThen]
  refine hK' _ _ (hK _ ?_ ((Below.refl _ _).alloc (Nat.le_refl _) _) (by simp))
  show _ = _
  rw [heap_alloc_new, hz1]
  refine congrArg (fun c => some (Obj.cells c 5 (0, 0))) ?_
  rw [Nat.mul_one]
  exact Array.toList_inj.1 (by rw [show (Value.int IntKind.u8 0).cells = #[Value.int .u8 0] from rfl, toList_madeCells_one])

theorem copy_put {w : World} {cap n : Nat} {bs : List UInt8} {g : Nat} (hn : bs.length = n) (hcap : n ≤ cap) (hm : cap ≤ maxLen) {B : Nat} (hB : B ≤ g)
    (h : w.heap[g]? = some (.cells (splice (List.replicate cap (Value.int .u8 0)) 0 (u8s bs)).toArray 5 (0, 0))) :
    w.ownsRow B 5 1 (.slice (some ⟨g, 0, none⟩) n cap) n (u8s bs) := by
  refine ⟨by rw [u8s_length]; omega, .inr ⟨g, cap, _, rfl, hB, h, hcap, hm, ?_, ?_⟩⟩
  · rw [List.size_toArray, length_splice]
    · simp
    · simp [u8s_length]; omega
  · have : (u8s bs).length = n := by rw [u8s_length]; exact hn
    simp only [splice, List.take_zero, List.nil_append, Nat.mul_one, ← this]
    exact List.take_left

theorem Rd.src {w w1 : World} {A : Option Addr} {n : Nat} {bs : List UInt8} (h : Rd w A n bs) (hb : Below w.heap.size w w1) :
    0 < (u8s bs).length → ∃ ad, A = some ad ∧ ∀ j v, (u8s bs)[j]? = some v → w1.cell? (ad.add j) = some v := by
  intro hp
  obtain ⟨hl, hc⟩ := h
  rw [u8s_length] at hp
  obtain ⟨b, o, hA, hlt, hcell⟩ := hc (by omega)
  refine ⟨_, hA, fun j v hv => ?_⟩
  rw [Addr.add_lit]
  simp only [u8s, List.getElem?_map, Option.map_eq_some_iff] at hv
  obtain ⟨u, hu, rfl⟩ := hv
  exact (hb.cell (p := ⟨b, o + j, none⟩) hlt).trans (hcell j u hu)

theorem Tryz.size5 : (Tryz.prog.info? 5).map (·.size) = some 1 := by kernel_rfl

/-- copy of what came in to the head of a row just made. -/
theorem wpList_copy_in {w w1 : World} {ops : Array Oper} {rest : List Oper} {o : Oper} {a : Act} {Q : Exit → Act → World → Prop} (hgd : o.guard = none) (d s : Operand)
    (ho : o.op = .call { callee := .builtin .copy, args := #[d, s], argTypes := #[38, 38] })
    (A : Option Addr) (n c cap : Nat) (bs : List UInt8) (hd : a.eval d = .slice (some ⟨w.heap.size, 0, none⟩) n cap) (hs : a.eval s = .slice A n c)
    (hr : Rd w A n bs) (hb : Below w.heap.size w w1) (hcap : n ≤ cap) (hm : cap ≤ maxLen)
    (hg : Hid (w1.heap[w.heap.size]? = some (.cells (List.replicate cap (Value.int .u8 0)).toArray 5 (0, 0))))
    (h : ∀ w', w'.ownsRow w.heap.size 5 1 (.slice (some ⟨w.heap.size, 0, none⟩) n cap) n (u8s bs) → Below w.heap.size w w' → wpList Tryz.prog ops Q rest (a.put o.dst (goInt n)) w') :
    wpList Tryz.prog ops Q (o :: rest) a w1 := by
  have hl : (u8s bs).length = n := by rw [u8s_length]; exact hr.1
  refine wpList_copy_splice hgd d s 38 38 ho 5 Tryz.underlying38 Tryz.size5 _ _ n cap n c hd hs w.heap.size 0 _ 5 hg.out (u8s bs) (by rw [hl]; exact (Nat.min_self n).symm)
    (fun hp => ⟨rfl, hr.src hb hp⟩) (by simp; omega) (u8s_one bs) w.heap.size w hb (Nat.le_refl _) ?_
  intro w' hw' hb'
  rw [hl]
  exact h w' (copy_put hr.1 hcap hm (Nat.le_refl _) hw'.out) hb'

/-- append of one byte that fits. -/
theorem wpList_append_byte {w wr : World} {ops : Array Oper} {rest : List Oper} {o : Oper} {a : Act} {Q : Exit → Act → World → Prop} (hgd : o.guard = none) (s x : Operand)
    (ho : o.op = Op.call { callee := Callee.builtin Builtin.append, args := #[s, x], argTypes := #[38, 38] })
    (B g n cap : Nat) (bs : List UInt8) (z : Int) (u : UInt8) (hs : a.eval s = .slice (some ⟨g, 0, none⟩) n cap) (hx : a.eval x = .slice (some ⟨wr.heap.size, 0, none⟩) 1 1)
    (hown : Hid (wr.ownsRow B 5 1 (.slice (some ⟨g, 0, none⟩) n cap) n (u8s bs))) (hb : Below B w wr) (hBg : B ≤ g) (hB : B ≤ wr.heap.size) (hz : z = (u.toNat : Int)) (hfit : n + 1 ≤ cap)
    (h : ∀ w', Hid (w'.ownsRow B 5 1 (.slice (some ⟨g, 0, none⟩) (n + 1) cap) (n + 1) (u8s (bs ++ [u]))) → Below B w w' → wpList Tryz.prog ops Q rest (a.put o.dst (.slice (some ⟨g, 0, none⟩) (n + 1) cap)) w') :
    wpList Tryz.prog ops Q (o :: rest) a (wr.alloc (.cells #[.int .u8 z] 5)) := by
  obtain ⟨i0, hi, hz0, hz1, hz2⟩ := info_parts Tryz.info5
  refine wpList_append_fits _ hgd s x 38 ho B 5 i0 1 Tryz.underlying38 hi hz1 g n cap _ hs (hown.out.alloc _) ⟨wr.heap.size, 0, none⟩ 1 1 [.int .u8 z] hx rfl (cell_one_new _ _ _) (by intro v hv; simp at hv; subst hv; rfl) hfit ?_
  intro w' hown' hg'
  subst hz
  refine h w' ?_ ((hb.alloc hB _).grown hg' (by simp; omega) (fun k hk => by cases hk; exact hBg))
  rw [u8s_append]
  exact hown'

theorem be_cell (size n k : Nat) : ((n : Int) / 2 ^ (8 * (size - 1 - k)) % 256) = ((beAt size n k).toNat : Int) := by
  rw [beAt_toNat]
  have : (2 : Nat) ^ (8 * (size - 1 - k)) = 256 ^ (size - 1 - k) := by rw [Nat.pow_mul]
  rw [← this]
  simp only [Int.natCast_emod, Int.natCast_ediv, Int.natCast_pow]
  rfl

set_option maxHeartbeats 400000 in
theorem put64_any (A : Option Addr) (n c : Nat) (bs : List UInt8) (num : Nat) (w : World) (hr : Rd w A n bs) (hn : n ≤ 140737488355328) :
    Calls Tryz.prog 68 #[.slice A n c, .int .u64 num] w fun e w' => e = .returned (.slice (some ⟨w.heap.size, 0, none⟩) (n + 8) (n + 8)) ∧
      w'.ownsRow w.heap.size 5 1 (.slice (some ⟨w.heap.size, 0, none⟩) (n + 8) (n + 8)) (n + 8) (u8s (bs ++ be 8 num)) ∧ Below w.heap.size w w' := by
  have HR : Hid (Rd w A n bs) := hr
  clear hr
  go_enter Tryz.func68, Tryz.ntmps68
  go_wp2_with (first
    | (go_at_call 98; refine (w8_any _).mono ?_; rintro e w' ⟨rfl, rfl⟩)
    | (at_make; go_must (refine wpList_make_lc _ rfl _ _ rfl _ _ n (n + 8) rfl rfl (by omega) (by omega) (by omega) (by omega) ?_); intro w1 hw1 hb1 hs1)
    | (refine wpList_copy_in (w := w) rfl (.tmp 16) (.tmp 17) rfl A n c (n + 8) bs rfl rfl HR.out hb1 (by omega) (by unfold maxLen; omega) hw1 ?_; intro w2 hw2 hb2; clear hw1 hb1 hs1)
    | fail)
  have HO := Lib.hid hw2
  clear hw2
  go_loopw [6, 20] (fun v i wr => ∃ k : Nat, k ≤ 8 ∧ i = .int .i64 k ∧ v = .slice (some ⟨w.heap.size, 0, none⟩) (n + k) (n + 8) ∧
      Hid (wr.ownsRow w.heap.size 5 1 (.slice (some ⟨w.heap.size, 0, none⟩) (n + k) (n + 8)) (n + k) (u8s (bs ++ beTake 8 num k))) ∧ Below w.heap.size w wr)
    (fun _ i _ => 8 - (intOf i).toNat)
  case atStart => exact ⟨0, by omega, rfl, rfl, by simpa [beTake] using HO, hb2⟩
  case round =>
    obtain ⟨k, hk, rfl, rfl, HW, hb⟩ := hrel
    by_cases hk8 : k < 8
    · go_wp2_with (at_builtin; go_must (refine wpList_append_byte (w := w) rfl (.tmp 23) (.tmp 32) rfl w.heap.size w.heap.size (n + k) (n + 8) _ _ (beAt 8 num k) rfl rfl HW hb (Nat.le_refl _) hb.size (be_cell 8 num k) (by omega) ?_); intro w3 HW3 hb3)
      go_roundw
      case rel => exact ⟨k + 1, by omega, by go_num, rfl, by rw [beTake_succ, ← List.append_assoc]; exact HW3, hb3⟩
      case measure => simp [intOf]; omega
    · obtain rfl : k = 8 := by omega
      go_wp2
      go_ret
      exact ⟨rfl, HW.out, hb⟩
set_option maxHeartbeats 400000 in
theorem put16_any (A : Option Addr) (n c : Nat) (bs : List UInt8) (num : Nat) (w : World) (hr : Rd w A n bs) (hn : n ≤ 140737488355328) :
    Calls Tryz.prog 123 #[.slice A n c, .int .u16 num] w fun e w' => e = .returned (.slice (some ⟨w.heap.size, 0, none⟩) (n + 2) (n + 2)) ∧
      w'.ownsRow w.heap.size 5 1 (.slice (some ⟨w.heap.size, 0, none⟩) (n + 2) (n + 2)) (n + 2) (u8s (bs ++ be 2 num)) ∧ Below w.heap.size w w' := by
  have HR : Hid (Rd w A n bs) := hr
  clear hr
  go_enter Tryz.func123, Tryz.ntmps123
  go_wp2_with (first
    | (go_at_call 128; refine (w2_any _).mono ?_; rintro e w' ⟨rfl, rfl⟩)
    | (at_make; go_must (refine wpList_make_lc _ rfl _ _ rfl _ _ n (n + 2) rfl rfl (by omega) (by omega) (by omega) (by omega) ?_); intro w1 hw1 hb1 hs1)
    | (refine wpList_copy_in (w := w) rfl (.tmp 16) (.tmp 17) rfl A n c (n + 2) bs rfl rfl HR.out hb1 (by omega) (by unfold maxLen; omega) hw1 ?_; intro w2 hw2 hb2; clear hw1 hb1 hs1)
    | fail)
  have HO := Lib.hid hw2
  clear hw2
  go_loopw [6, 20] (fun v i wr => ∃ k : Nat, k ≤ 2 ∧ i = .int .i64 k ∧ v = .slice (some ⟨w.heap.size, 0, none⟩) (n + k) (n + 2) ∧
      Hid (wr.ownsRow w.heap.size 5 1 (.slice (some ⟨w.heap.size, 0, none⟩) (n + k) (n + 2)) (n + k) (u8s (bs ++ beTake 2 num k))) ∧ Below w.heap.size w wr)
    (fun _ i _ => 2 - (intOf i).toNat)
  case atStart => exact ⟨0, by omega, rfl, rfl, by simpa [beTake] using HO, hb2⟩
  case round =>
    obtain ⟨k, hk, rfl, rfl, HW, hb⟩ := hrel
    by_cases hk2 : k < 2
    · go_wp2_with (at_builtin; go_must (refine wpList_append_byte (w := w) rfl (.tmp 23) (.tmp 32) rfl w.heap.size w.heap.size (n + k) (n + 2) _ _ (beAt 2 num k) rfl rfl HW hb (Nat.le_refl _) hb.size (be_cell 2 num k) (by omega) ?_); intro w3 HW3 hb3)
      go_roundw
      case rel => exact ⟨k + 1, by omega, by go_num, rfl, by rw [beTake_succ, ← List.append_assoc]; exact HW3, hb3⟩
      case measure => simp [intOf]; omega
    · obtain rfl : k = 2 := by omega
      go_wp2
      go_ret
      exact ⟨rfl, HW.out, hb⟩
end Go.Proofs.YtghjogneogkpoaaGreatDoor.Oct

namespace Go.Proofs.YtghjogneogkpoaaGreatDoor.Oct
open Go.RowKit
set_option maxRecDepth 100000

theorem Rd.of_own {w : World} {B n : Nat} {bs : List UInt8} {A : Option Addr} {c : Nat} (h : w.ownsRow B 5 1 (.slice A n c) n (u8s bs)) : Rd w A n bs := by
  have hl : bs.length = n := by have := h.1; rw [u8s_length] at this; omega
  refine ⟨hl, fun hn => ?_⟩
  rcases h.2 with ⟨h0, h1⟩ | ⟨g, cap, cur, hv, _, hh, _⟩
  · omega
  · have hA : A = some ⟨g, 0, none⟩ := by injection hv
    subst hA
    refine ⟨g, 0, rfl, ?_, fun j u hu => ?_⟩
    · exact (h.lt g rfl).2
    · have := h.cells (g := g) rfl j (.int .u8 (u.toNat : Int)) (by simp [u8s, hu])
      rwa [Addr.add_lit] at this

theorem Rd.below {w w' : World} {A : Option Addr} {n : Nat} {bs : List UInt8} (h : Rd w A n bs) (hb : Below w.heap.size w w') : Rd w' A n bs := by
  refine ⟨h.1, fun hn => ?_⟩
  obtain ⟨b, o, hA, hlt, hc⟩ := h.2 hn
  exact ⟨b, o, hA, Nat.lt_of_lt_of_le hlt hb.size, fun j u hu => (hb.cell (p := ⟨b, o + j, none⟩) hlt).trans (hc j u hu)⟩

/-- The shape of a slice value: nil, or somewhere with room. -/
def Sl (A : Option Addr) (n c : Nat) : Prop := (A = none → n = 0 ∧ c = 0) ∧ n ≤ c ∧ c ≤ 9223372036854775807

theorem own_shape {w : World} {B n : Nat} {v : Value} {xs : List Value} (h : w.ownsRow B 5 1 v n xs) : ∃ A c, v = .slice A n c ∧ Sl A n c := by
  rcases h.2 with ⟨rfl, rfl⟩ | ⟨g, cap, cur, rfl, _, _, hn, hm, _⟩
  · exact ⟨none, 0, rfl, ⟨fun _ => ⟨rfl, rfl⟩, Nat.le_refl _, by omega⟩⟩
  · exact ⟨_, cap, rfl, ⟨(fun h => (by cases h)), hn, by unfold maxLen at hm; omega⟩⟩

theorem word_any (A : Option Addr) (n c : Nat) (bs : List UInt8) (num : Nat) (w : World) (hr : Rd w A n bs) (hn : n ≤ 140737488355328) :
    Calls Tryz.prog 40 #[.slice A n c, .int .u64 num] w fun e w' => ∃ g c', e = .returned (.slice (some ⟨g, 0, none⟩) (n + 8) c') ∧ w'.ownsRow w.heap.size 5 1 (.slice (some ⟨g, 0, none⟩) (n + 8) c') (n + 8) (u8s (bs ++ be 8 num)) ∧ Below w.heap.size w w' := by
  go_enter Tryz.func40, Tryz.ntmps40
  go_wp2_with (go_at_call 68; refine (put64_any A n c bs num w hr hn).mono ?_; rintro e w' ⟨rfl, ho, hb⟩)
  go_ret
  exact ⟨_, _, rfl, ho, hb⟩

theorem clone_nil (w : World) : Calls Tryz.prog 72 #[.slice none 0 0] w fun e w' => e = .returned (.slice none 0 0) ∧ w = w' := by
  have hq := fun wx : World => Lib.run_eql_slice_nil (P := Tryz.prog) wx 38 5 none 0 0 0 0 Tryz.underlying38
  go_enter Tryz.func72, Tryz.ntmps72
  go_wp2
  go_ret
  exact ⟨rfl, rfl⟩

theorem clone_some (ad : Addr) (n c : Nat) (bs : List UInt8) (w : World) (hr : Rd w (some ad) n bs) (hn : n ≤ 140737488355328) :
    Calls Tryz.prog 72 #[.slice (some ad) n c] w fun e w' => ∃ A' c', e = .returned (.slice A' n c') ∧
      w'.ownsRow w.heap.size 5 1 (.slice A' n c') n (u8s bs) ∧ Sl A' n c' ∧ Below w.heap.size w w' := by
  obtain ⟨i0, hi, hz0, hz1, hz2⟩ := info_parts Tryz.info5
  have hq := fun wx : World => Lib.run_eql_slice_nil (P := Tryz.prog) wx 38 5 (some ad) n c 0 0 Tryz.underlying38
  have hl : (u8s bs).length = n * 1 := by rw [u8s_length, hr.1]; omega
  have hcells : ∀ W : World, Below w.heap.size w W → ∀ j u, (u8s bs)[j]? = some u → W.cell? (ad.add j) = some u := by
    intro W hb j u hu
    have hp : 0 < (u8s bs).length := by have := (List.getElem?_eq_some_iff.1 hu).1; omega
    obtain ⟨ad2, had, h⟩ := hr.src hb hp
    injection had with had
    subst had
    exact h j u hu
  have HL := Lib.hid hl
  have HC := Lib.hid hcells
  clear hl hcells
  go_enter Tryz.func72, Tryz.ntmps72
  go_wp2_with (at_builtin; go_must (refine wpList_append_own _ rfl (.tmp 5) (.tmp 6) 38 rfl w.heap.size 5 i0 (.int .u8 0) 1 1 Tryz.underlying38 hi hz0 hz1 hz2 rfl (by decide) _ 0 [] rfl (World.ownsRow_lit w #[] 0 (Nat.le_refl _) (Nat.zero_le _) rfl) ad n c (u8s bs) rfl HL.out (HC.out _ ((Below.refl _ _).alloc (Nat.le_refl _) _)) (u8s_one bs) (by unfold maxLen; omega) (by omega) (by simp) ?_); intro v' w2 hv2 hg2 _; rw [Nat.zero_add, List.nil_append] at hv2; obtain ⟨A', c', rfl, hsl⟩ := own_shape hv2)
  go_ret
  exact ⟨_, _, rfl, hv2, hsl, ((Below.refl _ _).alloc (Nat.le_refl _) _).grown hg2 (by simp) (fun k hk => by cases hk; exact Nat.le_refl _)⟩

theorem clone_any (A : Option Addr) (n c : Nat) (bs : List UInt8) (w : World) (hr : Rd w A n bs) (hs : Sl A n c) (hn : n ≤ 140737488355328) :
    Calls Tryz.prog 72 #[.slice A n c] w fun e w' => ∃ A' c', e = .returned (.slice A' n c') ∧
      w'.ownsRow w.heap.size 5 1 (.slice A' n c') n (u8s bs) ∧ Sl A' n c' ∧ Below w.heap.size w w' := by
  rcases A with _ | ad
  · obtain ⟨rfl, rfl⟩ := hs.1 rfl
    have hb : bs = [] := List.eq_nil_of_length_eq_zero hr.1
    subst hb
    exact (clone_nil w).mono fun e w' ⟨he, hw⟩ => hw ▸ ⟨none, 0, he, World.ownsRow_nil _ _ _ _, hs, Below.refl _ _⟩
  · exact clone_some ad n c bs w hr hn

/-- Block g is a cut with rem left to cut. -/
def CutAt (w : World) (lo g : Nat) (rem : List UInt8) (sp : Bool) : Prop :=
  ∃ (A : Option Addr) (n c at_ : Nat) (all : List UInt8), w.heap[g]? = some (.cells #[.slice A n c, .int .i64 (at_ : Int), .bool sp] 94 (0, 0)) ∧ Rd w A n all ∧ Sl A n c ∧ at_ ≤ n ∧
    n ≤ 140737488355328 ∧ rem = all.drop at_ ∧ ∀ ad, A = some ad → lo ≤ ad.block ∧ ad.block < g

theorem new_any (A : Option Addr) (n c : Nat) (bs : List UInt8) (w : World) (hr : Rd w A n bs) (hs : Sl A n c) (hn : n ≤ 140737488355328) :
    Calls Tryz.prog 43 #[.slice A n c] w fun e w' => ∃ g, e = .returned (.pointer (some ⟨g, 0, none⟩)) ∧ w.heap.size ≤ g ∧ CutAt w' w.heap.size g bs false ∧ Below w.heap.size w w' := by
  go_enter Tryz.func43, Tryz.ntmps43
  go_wp2_with (go_at_call 72; refine (clone_any A n c bs w hr hs hn).mono ?_; rintro e w1 ⟨A', c', rfl, ho, hsl, hb⟩)
  go_ret
  refine ⟨_, rfl, hb.size, ⟨A', n, c', 0, bs, heap_alloc_new w1 _, (Rd.of_own ho).below ((Below.refl _ _).alloc (Nat.le_refl _) _), hsl, Nat.zero_le _, hn, by simp, fun ad had => ?_⟩, hb.alloc hb.size _⟩
  subst had
  exact ho.lt ad.block rfl

end Go.Proofs.YtghjogneogkpoaaGreatDoor.Oct

namespace Go.Proofs.YtghjogneogkpoaaGreatDoor.Oct
open Go.RowKit
set_option maxRecDepth 100000

theorem cells3 {w : World} {g : Nat} {a b c : Value} (h : w.heap[g]? = some (.cells #[a, b, c] 94 (0, 0))) :
    w.cell? ⟨g, 0, none⟩ = some a ∧ w.cell? ⟨g, 1, none⟩ = some b ∧ w.cell? ⟨g, 2, none⟩ = some c ∧ w.frozen? ⟨g, 1, none⟩ = false ∧ w.frozen? ⟨g, 2, none⟩ = false :=
  ⟨cell_of_row w g 0 _ 94 (0, 0) h, cell_of_row w g 1 _ 94 (0, 0) h, cell_of_row w g 2 _ 94 (0, 0) h, by simp [World.frozen?, h], by simp [World.frozen?, h]⟩

theorem ok_any {lo : Nat} (g : Nat) (rem : List UInt8) (sp : Bool) (w : World) (h : CutAt w lo g rem sp) :
    Calls Tryz.prog 78 #[.pointer (some ⟨g, 0, none⟩)] w fun e w' => e = .returned (.bool (!sp)) ∧ w = w' := by
  obtain ⟨A, n, c, at_, all, hg, _⟩ := h
  obtain ⟨_, _, h2, _, _⟩ := cells3 hg
  clear hg
  go_enter Tryz.func78, Tryz.ntmps78
  go_wp2
  go_ret
  exact ⟨rfl, rfl⟩

theorem rest_any (g : Nat) (A : Option Addr) (n c at_ : Nat) (sp : Bool) (w : World) (hg : w.heap[g]? = some (.cells #[.slice A n c, .int .i64 (at_ : Int), .bool sp] 94 (0, 0))) (ha : at_ ≤ n) (hs : Sl A n c) :
    Calls Tryz.prog 108 #[.pointer (some ⟨g, 0, none⟩)] w fun e w' => e = .returned (.slice (if c = at_ then A else A.map (·.add at_)) (n - at_) (c - at_)) ∧ ∃ q, w' = w.drewN q := by
  obtain ⟨h0, h1, _, _, _⟩ := cells3 hg
  clear hg
  obtain ⟨_, hs2, hs3⟩ := hs
  go_enter Tryz.func108, Tryz.ntmps108
  go_wp2
  go_quiet (fail)
  go_wp2
  all_goals (go_ret; exact ⟨rfl, _, rfl⟩)

theorem Rd.cut {w : World} {A : Option Addr} {n c k : Nat} {all : List UInt8} (h : Rd w A n all) (hk : k ≤ n) (hc : n ≤ c) :
    Rd w (if c = k then A else A.map (·.add k)) (n - k) (all.drop k) := by
  refine ⟨by rw [List.length_drop, h.1], fun hn => ?_⟩
  obtain ⟨b, o, rfl, hb, hcell⟩ := h.2 (by omega)
  rw [if_neg (by omega)]
  refine ⟨b, o + k, by simp [Addr.add_lit], hb, fun j u hu => ?_⟩
  rw [Nat.add_assoc]
  exact hcell _ u (by rw [← hu, List.getElem?_drop])

theorem Rd.take {w : World} {A : Option Addr} {n k : Nat} {all : List UInt8} (h : Rd w A n all) (hk : k ≤ n) : Rd w A k (all.take k) := by
  refine ⟨by rw [List.length_take, h.1]; omega, fun hn => ?_⟩
  obtain ⟨b, o, rfl, hb, hcell⟩ := h.2 (by omega)
  refine ⟨b, o, rfl, hb, fun j u hu => hcell j u ?_⟩
  rw [List.getElem?_take] at hu
  split at hu
  · exact hu
  · cases hu

theorem Rd.drewN {w : World} {A : Option Addr} {n : Nat} {bs : List UInt8} (h : Rd w A n bs) (q : Nat) : Rd (w.drewN q) A n bs := h
theorem CutAt.drewN {lo : Nat} {w : World} {g : Nat} {rem : List UInt8} {sp : Bool} (h : CutAt w lo g rem sp) (q : Nat) : CutAt (w.drewN q) lo g rem sp := h

theorem Sl.cut {A : Option Addr} {n c k m : Nat} (h : Sl A n c) (hk : k + m ≤ n) : Sl (if c = k then A else A.map (·.add k)) m (c - k) := by
  obtain ⟨h1, h2, h3⟩ := h
  refine ⟨fun he => ?_, by omega, by omega⟩
  split at he
  · obtain ⟨rfl, rfl⟩ := h1 he
    omega
  · have : A = none := by simpa using he
    obtain ⟨rfl, rfl⟩ := h1 this
    omega

theorem block_cut {A : Option Addr} {c k lo g : Nat} (h : ∀ ad, A = some ad → lo ≤ ad.block ∧ ad.block < g) : ∀ ad, (if c = k then A else A.map (·.add k)) = some ad → lo ≤ ad.block ∧ ad.block < g := by
  intro ad had
  split at had
  · exact h ad had
  · obtain ⟨a, rfl, rfl⟩ := Option.map_eq_some_iff.1 had
    have : (a.add k).block = a.block := by unfold Addr.add; split <;> rfl
    rw [this]
    exact h a rfl

theorem rest_cut {lo : Nat} (g : Nat) (rem : List UInt8) (sp : Bool) (w : World) (h : CutAt w lo g rem sp) :
    Calls Tryz.prog 108 #[.pointer (some ⟨g, 0, none⟩)] w fun e w' => ∃ A' c', e = .returned (.slice A' rem.length c') ∧
      Hid (Rd w A' rem.length rem ∧ Sl A' rem.length c' ∧ ∀ ad, A' = some ad → lo ≤ ad.block ∧ ad.block < g) ∧ ∃ q, w' = w.drewN q := by
  obtain ⟨A, n, c, at_, all, hg, hr, hs, ha, hn, rfl, hne⟩ := h
  have hl : (all.drop at_).length = n - at_ := by rw [List.length_drop, hr.1]
  rw [hl]
  exact (rest_any g A n c at_ sp w hg ha hs).mono fun e w' ⟨he, q, hw⟩ => ⟨_, _, he, ⟨hr.cut ha hs.2.1, hs.cut (by omega), block_cut hne⟩, q, hw⟩

theorem CutAt.flag {lo : Nat} {w : World} {g : Nat} {rem : List UInt8} {sp : Bool} (h : CutAt w lo g rem sp) : w.cell? ⟨g, 2, none⟩ = some (.bool sp) ∧ w.frozen? ⟨g, 2, none⟩ = false := by
  obtain ⟨A, n, c, at_, all, hg, _⟩ := h
  obtain ⟨_, _, h1, _, h2⟩ := cells3 hg
  exact ⟨h1, h2⟩

theorem CutAt.len {lo : Nat} {w : World} {g : Nat} {rem : List UInt8} {sp : Bool} (h : CutAt w lo g rem sp) : rem.length ≤ 140737488355328 := by
  obtain ⟨A, n, c, at_, all, hg, hr, hs, ha, hn, rfl, hne⟩ := h
  rw [List.length_drop, hr.1]
  omega

theorem left_any {lo : Nat} (g : Nat) (rem : List UInt8) (sp : Bool) (w : World) (h : CutAt w lo g rem sp) :
    Calls Tryz.prog 79 #[.pointer (some ⟨g, 0, none⟩)] w fun e w' => e = .returned (.int .i64 (rem.length : Int)) ∧ ∃ q, w' = w.drewN q := by
  go_enter Tryz.func79, Tryz.ntmps79
  go_wp2_with (go_at_call 108; refine (rest_cut g rem sp w h).mono ?_; rintro e w1 ⟨A', c', rfl, _, q, rfl⟩)
  go_ret
  exact ⟨rfl, q, rfl⟩

theorem take_spoilt {lo : Nat} (g : Nat) (rem : List UInt8) (k : Int) (w : World) (h : CutAt w lo g rem true) :
    Calls Tryz.prog 74 #[.pointer (some ⟨g, 0, none⟩), .int .i64 k] w fun e w' => e = .returned (.slice none 0 0) ∧ w = w' := by
  go_enter Tryz.func74, Tryz.ntmps74
  go_wp2_with (go_at_call 78; refine (ok_any g rem true w h).mono ?_; rintro e w1 ⟨rfl, rfl⟩)
  go_ret
  exact ⟨rfl, rfl⟩

theorem CutAt.grownBy_set {lo : Nat} {w : World} {g : Nat} {rem : List UInt8} (h : CutAt w lo g rem false) : CutAt (w.setCell ⟨g, 2, none⟩ (.bool true)) lo g rem true := by
  obtain ⟨A, n, c, at_, all, hg, hr, hs, ha, hn, rfl, hne⟩ := h
  refine ⟨A, n, c, at_, all, by simp [World.setCell, Array.getElem?_modify, hg], ⟨hr.1, fun hp => ?_⟩, hs, ha, hn, rfl, hne⟩
  obtain ⟨b, o, hA, hb, hc⟩ := hr.2 hp
  refine ⟨b, o, hA, by simpa [World.setCell] using hb, fun j u hu => ?_⟩
  rw [World.cell?_setCell_other _ _ _ _ (fun e => Nat.ne_of_lt (hne _ hA).2 (by have := congrArg Addr.block e; simpa using this.symm))]
  exact hc j u hu

theorem grownBy_set (w : World) (g i : Nat) (u : Value) : w.grownBy (w.setCell ⟨g, i, none⟩ u) (some g) :=
  ⟨rfl, rfl, rfl, by simp [World.setCell], fun k _ hk => Below.heap_setCell _ _ _ _ (fun e => hk (by rw [e]))⟩

theorem grownBy_drewN (w : World) (q : Nat) (row : Option Nat) : w.grownBy (w.drewN q) row := ⟨rfl, rfl, rfl, Nat.le_refl _, fun _ _ _ => rfl⟩

theorem grownBy_trans {a b c : World} {row : Option Nat} (h : a.grownBy b row) (k : b.grownBy c row) : a.grownBy c row :=
  ⟨k.os.trans h.os, k.tape.trans h.tape, k.output.trans h.output, Nat.le_trans h.size k.size, fun i hi hne => (k.block i (Nat.lt_of_lt_of_le hi h.size) hne).trans (h.block i hi hne)⟩

theorem take_neg {lo : Nat} (g : Nat) (rem : List UInt8) (k : Int) (w : World) (h : CutAt w lo g rem false) (hk : k < 0) :
    Calls Tryz.prog 74 #[.pointer (some ⟨g, 0, none⟩), .int .i64 k] w fun e w' => e = .returned (.slice none 0 0) ∧ CutAt w' lo g rem true ∧ w.grownBy w' (some g) := by
  have hset := h.grownBy_set
  obtain ⟨_, hf⟩ := h.flag
  go_enter Tryz.func74, Tryz.ntmps74
  go_wp2_with (go_at_call 78; refine (ok_any g rem false w h).mono ?_; rintro e w1 ⟨rfl, rfl⟩)
  go_ret
  exact ⟨rfl, hset, grownBy_set _ _ _ _⟩

theorem take_more {lo : Nat} (g : Nat) (rem : List UInt8) (k : Int) (w : World) (h : CutAt w lo g rem false) (hk : 0 ≤ k) (hm : (rem.length : Int) < k) :
    Calls Tryz.prog 74 #[.pointer (some ⟨g, 0, none⟩), .int .i64 k] w fun e w' => e = .returned (.slice none 0 0) ∧ CutAt w' lo g rem true ∧ w.grownBy w' (some g) := by
  have hset := fun q => (h.drewN q).grownBy_set
  obtain ⟨_, hf⟩ := h.flag
  go_enter Tryz.func74, Tryz.ntmps74
  go_wp2_with (first
    | (go_at_call 78; refine (ok_any g rem false w h).mono ?_; rintro e w1 ⟨rfl, rfl⟩)
    | (go_at_call 79; refine (left_any g rem false w h).mono ?_; rintro e w1 ⟨rfl, q, rfl⟩))
  go_ret
  exact ⟨rfl, hset q, grownBy_trans (grownBy_drewN w q _) (grownBy_set _ _ _ _)⟩

theorem take_cells {lo : Nat} (g : Nat) (rem : List UInt8) (A : Option Addr) (n c at_ : Nat) (w : World) (h : CutAt w lo g rem false) (k : Nat) (hk : k ≤ rem.length)
    (hg : w.heap[g]? = some (.cells #[.slice A n c, .int .i64 (at_ : Int), .bool false] 94 (0, 0))) (ha : at_ + k ≤ n) (_hn : n ≤ 140737488355328) (hs : n ≤ c) (hs3 : c ≤ 9223372036854775807) :
    Calls Tryz.prog 74 #[.pointer (some ⟨g, 0, none⟩), .int .i64 (k : Int)] w fun e w' => e = .returned (.slice (if c = at_ then A else A.map (·.add at_)) (at_ + k - at_) (c - at_)) ∧ ∃ q q', w' = ((w.drewN q).setCell ⟨g, 1, none⟩ (.int .i64 ((at_ : Int) + (k : Int)))).drewN q' := by
  obtain ⟨h0, h1, h2, hf, _⟩ := cells3 hg
  clear hg
  go_enter Tryz.func74, Tryz.ntmps74
  go_wp2_with (first
    | (go_at_call 78; refine (ok_any g rem false w h).mono ?_; rintro e w1 ⟨rfl, rfl⟩)
    | (go_at_call 79; refine (left_any g rem false w h).mono ?_; rintro e w1 ⟨rfl, q, rfl⟩))
  go_quiet (fail)
  go_wp2
  all_goals (go_ret; exact ⟨rfl, q, _, rfl⟩)

theorem Rd.set_far {w : World} {A : Option Addr} {n g i : Nat} {bs : List UInt8} (h : Rd w A n bs) (hne : ∀ ad, A = some ad → ad.block ≠ g) (u : Value) : Rd (w.setCell ⟨g, i, none⟩ u) A n bs := by
  refine ⟨h.1, fun hp => ?_⟩
  obtain ⟨b, o, hA, hb, hc⟩ := h.2 hp
  refine ⟨b, o, hA, by simpa [World.setCell] using hb, fun j u hu => ?_⟩
  rw [World.cell?_setCell_other _ _ _ _ (fun e => hne _ hA (by have := congrArg Addr.block e; simpa using this.symm))]
  exact hc j u hu

/-- Can so many be taken? -/
def fits (rem : List UInt8) (sp : Bool) (k : Int) : Bool := !sp && (decide (0 ≤ k) && decide (k ≤ (rem.length : Int)))
/-- What is taken. -/
def tkOut (rem : List UInt8) (sp : Bool) (k : Int) : List UInt8 := if fits rem sp k then rem.take k.toNat else []
/-- What is left then. -/
def tkRem (rem : List UInt8) (sp : Bool) (k : Int) : List UInt8 := if fits rem sp k then rem.drop k.toNat else rem

theorem tk_not {rem : List UInt8} {sp : Bool} {k : Int} (h : fits rem sp k = false) : tkOut rem sp k = [] ∧ tkRem rem sp k = rem := by simp [tkOut, tkRem, h]

theorem tk_post {lo : Nat} {w : World} {g : Nat} {rem : List UInt8} {sp : Bool} {k : Int} {e : Ending} {w' : World} (hf : fits rem sp k = false) (he : e = .returned (.slice none 0 0)) (hc : CutAt w' lo g rem true) (hg : w.grownBy w' (some g)) :
    ∃ A' c', e = .returned (.slice A' (tkOut rem sp k).length c') ∧ Hid (Rd w' A' (tkOut rem sp k).length (tkOut rem sp k) ∧ Sl A' (tkOut rem sp k).length c' ∧ ∀ ad, A' = some ad → lo ≤ ad.block ∧ ad.block < g) ∧
      CutAt w' lo g (tkRem rem sp k) (!fits rem sp k) ∧ w.grownBy w' (some g) := by
  obtain ⟨h1, h2⟩ := tk_not hf
  rw [h1, h2, hf]
  exact ⟨none, 0, he, ⟨⟨rfl, fun h => absurd h (by simp)⟩, ⟨fun _ => ⟨rfl, rfl⟩, Nat.le_refl _, by omega⟩, fun _ h => (by cases h)⟩, hc, hg⟩

theorem take_any {lo : Nat} (g : Nat) (rem : List UInt8) (sp : Bool) (k : Int) (w : World) (h : CutAt w lo g rem sp) :
    Calls Tryz.prog 74 #[.pointer (some ⟨g, 0, none⟩), .int .i64 k] w fun e w' => ∃ A' c', e = .returned (.slice A' (tkOut rem sp k).length c') ∧
      Hid (Rd w' A' (tkOut rem sp k).length (tkOut rem sp k) ∧ Sl A' (tkOut rem sp k).length c' ∧ ∀ ad, A' = some ad → lo ≤ ad.block ∧ ad.block < g) ∧
      CutAt w' lo g (tkRem rem sp k) (!fits rem sp k) ∧ w.grownBy w' (some g) := by
  cases sp with
  | true => exact (take_spoilt g rem k w h).mono fun e w' ⟨he, hw⟩ => hw ▸ tk_post (by simp [fits]) he h (World.grownBy.refl _ _)
  | false =>
    by_cases h0 : k < 0
    · exact (take_neg g rem k w h h0).mono fun e w' ⟨he, hc, hg⟩ => tk_post (by simp [fits]; omega) he hc hg
    · by_cases h1 : (rem.length : Int) < k
      · exact (take_more g rem k w h (by omega) h1).mono fun e w' ⟨he, hc, hg⟩ => tk_post (by simp [fits]; omega) he hc hg
      · obtain ⟨A, n, c, at_, all, hg, hr, hs, ha, hn, rfl, hne⟩ := id h
        obtain ⟨m, rfl⟩ : ∃ m : Nat, k = (m : Int) := ⟨k.toNat, by omega⟩
        have hm : m ≤ (all.drop at_).length := by omega
        have hl : (all.drop at_).length = n - at_ := by rw [List.length_drop, hr.1]
        have hf : fits (all.drop at_) false (m : Int) = true := by simp only [fits, Bool.not_false, Bool.true_and, Bool.and_eq_true, decide_eq_true_eq]; omega
        have e1 : tkOut (all.drop at_) false (m : Int) = (all.drop at_).take m := by rw [tkOut, if_pos hf]; rfl
        have e2 : tkRem (all.drop at_) false (m : Int) = all.drop (at_ + m) := by rw [tkRem, if_pos hf, List.drop_drop]; rfl
        have e3 : ((all.drop at_).take m).length = m := by rw [List.length_take]; omega
        rw [e1, e2, e3, hf]
        refine (take_cells g _ A n c at_ w h m hm hg (by omega) hn hs.2.1 hs.2.2).mono fun e w' ⟨he, q, q', hw⟩ => ?_
        subst hw
        rw [Nat.add_sub_cancel_left] at he
        have hr1 : Rd ((w.drewN q).setCell ⟨g, 1, none⟩ (.int .i64 ((at_ : Int) + (m : Int)))) A n all := (hr.drewN q).set_far (fun ad h => Nat.ne_of_lt (hne ad h).2) _
        refine ⟨_, _, he, ⟨((hr1.drewN q').cut ha hs.2.1).take (by omega), hs.cut (by omega), block_cut hne⟩, ?_, ?_⟩
        · exact ⟨A, n, c, at_ + m, all, by simp [World.setCell, Array.getElem?_modify, hg], hr1, hs, by omega, hn, rfl, hne⟩
        · exact grownBy_trans (grownBy_trans (grownBy_drewN w q _) (grownBy_set _ _ _ _)) (grownBy_drewN _ q' _)

theorem tkOut_length (rem : List UInt8) (sp : Bool) (k : Nat) : (tkOut rem sp (k : Int)).length ≤ k := by
  unfold tkOut
  split
  · rw [List.length_take]; omega
  · exact Nat.zero_le _

theorem tkOut_len (rem : List UInt8) (sp : Bool) (k : Int) : (tkOut rem sp k).length ≤ rem.length := by
  unfold tkOut
  split
  · rw [List.length_take]; omega
  · exact Nat.zero_le _

theorem take_open {lo : Nat} (g : Nat) (rem : List UInt8) (sp : Bool) (k : Int) (w : World) (h : CutAt w lo g rem sp) :
    Calls Tryz.prog 74 #[.pointer (some ⟨g, 0, none⟩), .int .i64 k] w fun e w' => ∃ A' m c', e = .returned (.slice A' m c') ∧
      Hid (m = (tkOut rem sp k).length ∧ Rd w' A' m (tkOut rem sp k) ∧ Sl A' m c' ∧ ∀ ad, A' = some ad → lo ≤ ad.block ∧ ad.block < g) ∧
      CutAt w' lo g (tkRem rem sp k) (!fits rem sp k) ∧ w.grownBy w' (some g) :=
  (take_any g rem sp k w h).mono fun _ _ ⟨A', c', he, hh, hc, hg⟩ => ⟨A', _, c', he, ⟨rfl, hh.out⟩, hc, hg⟩

theorem CutAt.lt {lo : Nat} {w : World} {g : Nat} {rem : List UInt8} {sp : Bool} (h : CutAt w lo g rem sp) : g < w.heap.size := by
  obtain ⟨A, n, c, at_, all, hg, _⟩ := h
  rcases Nat.lt_or_ge g w.heap.size with hlt | hge
  · exact hlt
  · rw [Array.getElem?_eq_none hge] at hg; cases hg

/-- A cut stays while another one is used. -/
theorem CutAt.far {lo lo' : Nat} {w w' : World} {g g' : Nat} {rem : List UInt8} {sp : Bool} (h : CutAt w lo g rem sp) (hg : w.grownBy w' (some g')) (hne : g' < lo ∧ lo ≤ g ∨ g < lo' ∧ lo' ≤ g') : CutAt w' lo g rem sp := by
  have hlt := h.lt
  obtain ⟨A, n, c, at_, all, hh, hr, hs, ha, hn, rfl, hb⟩ := h
  refine ⟨A, n, c, at_, all, (hg.block g hlt (fun e => by injection e with e; omega)).trans hh, ⟨hr.1, fun hp => ?_⟩, hs, ha, hn, rfl, hb⟩
  obtain ⟨b, o, hA, hbl, hc⟩ := hr.2 hp
  have h2 := hb _ hA
  simp only at h2
  exact ⟨b, o, hA, Nat.lt_of_lt_of_le hbl hg.size, fun j u hu => hg.cell (hc j u hu) (fun e => by injection e with e; simp only at e; omega)⟩

/-- A cut stays while new memory is made. -/
theorem CutAt.below {lo : Nat} {w w' : World} {g : Nat} {rem : List UInt8} {sp : Bool} (h : CutAt w lo g rem sp) (hb : Below w.heap.size w w') : CutAt w' lo g rem sp := by
  have hlt := h.lt
  obtain ⟨A, n, c, at_, all, hh, hr, hs, ha, hn, rfl, hbb⟩ := h
  exact ⟨A, n, c, at_, all, (hb.block g hlt).trans hh, hr.below hb, hs, ha, hn, rfl, hbb⟩

theorem grownBy_below {w w' : World} (hb : Below w.heap.size w w') (row : Option Nat) : w.grownBy w' row := ⟨hb.os, hb.tape, hb.output, hb.size, fun k hk _ => hb.block k hk⟩

end Go.Proofs.YtghjogneogkpoaaGreatDoor.Oct

namespace Go.Proofs.YtghjogneogkpoaaGreatDoor.Oct
open Go.RowKit
set_option maxRecDepth 100000

/-- The number that bytes are, the highest one first. -/
def num (bs : List UInt8) : Nat := bs.foldl (fun n b => n * 256 + b.toNat) 0

theorem num_snoc (bs : List UInt8) (b : UInt8) : num (bs ++ [b]) = num bs * 256 + b.toNat := by simp [num]
theorem num_lt : ∀ (n : Nat) (bs : List UInt8), bs.length = n → num bs < 256 ^ n := by
  intro n
  induction n with
  | zero => intro bs h; rw [List.eq_nil_of_length_eq_zero h]; simp [num]
  | succ n ih =>
    intro bs h
    have hne : bs ≠ [] := by intro e; subst e; simp at h
    have hd : bs.dropLast ++ [bs.getLast hne] = bs := List.dropLast_concat_getLast hne
    have h1 := ih bs.dropLast (by rw [List.length_dropLast, h]; rfl)
    have h2 := (bs.getLast hne).toNat_lt
    rw [← hd, num_snoc, Nat.pow_succ]
    omega

theorem or_step (q : Nat) (u : UInt8) (hq : q < 72057594037927936) : bits .or .u64 ((q : Int) * 256) (IntKind.u64.wrap (u.toNat : Int)) = ((q * 256 + u.toNat : Nat) : Int) := by
  have hu := u.toNat_lt
  have h1 : IntKind.u64.wrap (u.toNat : Int) = (u.toNat : Int) := by rw [IntKind.wrap_u64]; omega
  have h2 : ((q : Int) * 256) = ((q * 256 : Nat) : Int) := by omega
  rw [h1, h2, u64_or_nat (q * 256) u.toNat (by omega) (by omega)]
  have h3 := Nat.two_pow_add_eq_or_of_lt (i := 8) (b := u.toNat) (by omega) q
  rw [Nat.mul_comm q 256, ← h3]

theorem num_step {m j : Nat} {out : List UInt8} {u : UInt8} (hu : out[j]? = some u) (_hj : j < m) : num (out.take (j + 1)) = num (out.take j) * 256 + u.toNat := by
  rw [List.take_add_one, hu]
  exact num_snoc _ _

theorem num_take_lt {out : List UInt8} {m j : Nat} (hm : m ≤ 8) (hj : j < m) : num (out.take j) < 72057594037927936 :=
  Nat.lt_of_lt_of_le (num_lt _ _ rfl) (show 256 ^ (out.take j).length ≤ 256 ^ 7 from Nat.pow_le_pow_right (by decide) (by rw [List.length_take]; omega))

/-- What a round of the loop finds. -/
theorem round_at {w1 : World} {A' : Option Addr} {m c' j K : Nat} {rem : List UInt8} {sp : Bool} {lo g : Nat}
    (hh : Hid (m = (tkOut rem sp (K : Int)).length ∧ Rd w1 A' m (tkOut rem sp (K : Int)) ∧ Sl A' m c' ∧ ∀ ad, A' = some ad → lo ≤ ad.block ∧ ad.block < g)) (hj : j < m) (hK : K ≤ 8) :
    ∃ b o u, A' = some ⟨b, o, none⟩ ∧ Hid ((tkOut rem sp (K : Int))[j]? = some u) ∧ w1.cell? ⟨b, o + j, none⟩ = some (.int .u8 (u.toNat : Int)) ∧ m ≤ 8 := by
  obtain ⟨h1, h2, _⟩ := hh.out
  obtain ⟨b, o, hA, _, hcc⟩ := h2.2 (by omega)
  have hjl : j < (tkOut rem sp (K : Int)).length := by omega
  exact ⟨b, o, (tkOut rem sp (K : Int))[j], hA, List.getElem?_eq_getElem hjl, hcc j _ (List.getElem?_eq_getElem hjl), by rw [h1]; exact Nat.le_trans (tkOut_length _ _ K) hK⟩

theorem num_all {w1 : World} {A' : Option Addr} {m c' j : Nat} {out : List UInt8} {lo g : Nat} (hh : Hid (m = out.length ∧ Rd w1 A' m out ∧ Sl A' m c' ∧ ∀ ad, A' = some ad → lo ≤ ad.block ∧ ad.block < g)) (hj : m ≤ j) : out.take j = out :=
  List.take_of_length_le (by rw [← hh.out.1]; exact hj)

theorem num_out_lt (rem : List UInt8) (sp : Bool) (K : Nat) : num (tkOut rem sp (K : Int)) < 256 ^ K :=
  Nat.lt_of_lt_of_le (num_lt _ _ rfl) (Nat.pow_le_pow_right (by decide) (tkOut_length _ _ K))

theorem num_wrap16 (rem : List UInt8) (sp : Bool) : IntKind.u16.wrap ((num (tkOut rem sp 2) : Nat) : Int) = (num (tkOut rem sp 2) : Int) := by
  have h : num (tkOut rem sp 2) < 256 ^ 2 := num_out_lt rem sp 2
  rw [IntKind.wrap_u16]; omega
set_option maxHeartbeats 400000 in
theorem cutNumber64 {lo : Nat} (g : Nat) (rem : List UInt8) (sp : Bool) (w : World) (h : CutAt w lo g rem sp) :
    Calls Tryz.prog 73 #[.func (.func 74) #[.pointer (some ⟨g, 0, none⟩)] #[]] w fun e w' => e = .returned (.int .u64 (num (tkOut rem sp 8))) ∧
      CutAt w' lo g (tkRem rem sp 8) (!fits rem sp 8) ∧ w.grownBy w' (some g) := by
  go_enter Tryz.func73, Tryz.ntmps73
  go_wp2_with (first
    | (go_at_call 98; refine (w8_any _).mono ?_; rintro e w1 ⟨rfl, rfl⟩)
    | (go_at_call 74; refine (take_open g rem sp 8 w h).mono ?_; rintro e w1 ⟨A', m, c', rfl, hh, hc, hg⟩))
  go_loop [3, 10] (fun v i => ∃ j : Nat, j ≤ m ∧ i = .int .i64 j ∧ v = .int .u64 (num ((tkOut rem sp 8).take j))) (fun _ i => m - (intOf i).toNat)
  case atStart => exact ⟨0, Nat.zero_le _, rfl, rfl⟩
  case round =>
    obtain ⟨j, hj, rfl, rfl⟩ := hrel
    by_cases hlt : j < m
    · obtain ⟨b, o, u, rfl, hu, hcell, hm8⟩ := round_at (K := 8) hh hlt (by decide)
      have hnum := num_take_lt (out := tkOut rem sp 8) hm8 hlt
      have hstep := num_step (out := tkOut rem sp 8) hu.out hlt
      obtain ⟨q, hq⟩ : ∃ q, q = num ((tkOut rem sp 8).take j) := ⟨_, rfl⟩
      have hor := or_step q u (by rw [hq]; exact hnum)
      rw [← hq] at hnum ⊢
      have HQ := Lib.hid hq
      have HS := Lib.hid hstep
      have HO := Lib.hid hor
      clear hq hstep hor
      go_wp2
      go_round
      case rel => exact ⟨j + 1, by omega, by go_num, by rw [HO.out, HS.out, HQ.out]⟩
      case measure => simp [intOf]; omega
    · have HA := Lib.hid (num_all hh (Nat.le_of_not_lt hlt))
      go_wp2
      go_ret
      exact ⟨by first | (rw [HA.out]; done) | (rw [HA.out]; rfl) | (rw [HA.out]; done) | (rw [HA.out]; rfl), hc, hg⟩

set_option maxHeartbeats 400000 in
theorem cutNumber16 {lo : Nat} (g : Nat) (rem : List UInt8) (sp : Bool) (w : World) (h : CutAt w lo g rem sp) :
    Calls Tryz.prog 139 #[.func (.func 74) #[.pointer (some ⟨g, 0, none⟩)] #[]] w fun e w' => e = .returned (.int .u16 (num (tkOut rem sp 2))) ∧
      CutAt w' lo g (tkRem rem sp 2) (!fits rem sp 2) ∧ w.grownBy w' (some g) := by
  have HB := Lib.hid (num_wrap16 rem sp)
  go_enter Tryz.func139, Tryz.ntmps139
  go_wp2_with (first
    | (go_at_call 128; refine (w2_any _).mono ?_; rintro e w1 ⟨rfl, rfl⟩)
    | (go_at_call 74; refine (take_open g rem sp 2 w h).mono ?_; rintro e w1 ⟨A', m, c', rfl, hh, hc, hg⟩))
  go_loop [3, 10] (fun v i => ∃ j : Nat, j ≤ m ∧ i = .int .i64 j ∧ v = .int .u64 (num ((tkOut rem sp 2).take j))) (fun _ i => m - (intOf i).toNat)
  case atStart => exact ⟨0, Nat.zero_le _, rfl, rfl⟩
  case round =>
    obtain ⟨j, hj, rfl, rfl⟩ := hrel
    by_cases hlt : j < m
    · obtain ⟨b, o, u, rfl, hu, hcell, hm8⟩ := round_at (K := 2) hh hlt (by decide)
      have hnum := num_take_lt (out := tkOut rem sp 2) hm8 hlt
      have hstep := num_step (out := tkOut rem sp 2) hu.out hlt
      obtain ⟨q, hq⟩ : ∃ q, q = num ((tkOut rem sp 2).take j) := ⟨_, rfl⟩
      have hor := or_step q u (by rw [hq]; exact hnum)
      rw [← hq] at hnum ⊢
      have HQ := Lib.hid hq
      have HS := Lib.hid hstep
      have HO := Lib.hid hor
      clear hq hstep hor
      go_wp2
      go_round
      case rel => exact ⟨j + 1, by omega, by go_num, by rw [HO.out, HS.out, HQ.out]⟩
      case measure => simp [intOf]; omega
    · have HA := Lib.hid (num_all hh (Nat.le_of_not_lt hlt))
      go_wp2
      go_ret
      exact ⟨by first | (rw [HA.out]; done) | (rw [HA.out]; rfl) | (rw [HA.out, HB.out]; done) | (rw [HA.out, HB.out]; rfl), hc, hg⟩

theorem word_cut {lo : Nat} (g : Nat) (rem : List UInt8) (sp : Bool) (w : World) (h : CutAt w lo g rem sp) :
    Calls Tryz.prog 44 #[.pointer (some ⟨g, 0, none⟩)] w fun e w' => e = .returned (.int .u64 (num (tkOut rem sp 8))) ∧
      CutAt w' lo g (tkRem rem sp 8) (!fits rem sp 8) ∧ w.grownBy w' (some g) := by
  go_enter Tryz.func44, Tryz.ntmps44
  go_wp2_with (go_at_call 73; refine (cutNumber64 g rem sp w h).mono ?_; rintro e w1 ⟨rfl, hc, hg⟩)
  go_ret
  exact ⟨rfl, hc, hg⟩

theorem half_cut {lo : Nat} (g : Nat) (rem : List UInt8) (sp : Bool) (w : World) (h : CutAt w lo g rem sp) :
    Calls Tryz.prog 137 #[.pointer (some ⟨g, 0, none⟩)] w fun e w' => e = .returned (.int .u16 (num (tkOut rem sp 2))) ∧
      CutAt w' lo g (tkRem rem sp 2) (!fits rem sp 2) ∧ w.grownBy w' (some g) := by
  go_enter Tryz.func137, Tryz.ntmps137
  go_wp2_with (go_at_call 139; refine (cutNumber16 g rem sp w h).mono ?_; rintro e w1 ⟨rfl, hc, hg⟩)
  go_ret
  exact ⟨rfl, hc, hg⟩

theorem raw_of_take {lo : Nat} (g : Nat) (rem : List UInt8) (sp : Bool) (k : Int) (w : World) (h : CutAt w lo g rem sp) :
    Calls Tryz.prog 107 #[.func (.func 74) #[.pointer (some ⟨g, 0, none⟩)] #[], .int .i64 k] w fun e w' => ∃ A' m c', e = .returned (.slice A' m c') ∧
      Hid (m = (tkOut rem sp k).length ∧ w'.ownsRow w.heap.size 5 1 (.slice A' m c') m (u8s (tkOut rem sp k)) ∧ Sl A' m c') ∧
      CutAt w' lo g (tkRem rem sp k) (!fits rem sp k) ∧ w.grownBy w' (some g) := by
  have hlen := h.len
  have HL := Lib.hid hlen
  clear hlen
  go_enter Tryz.func107, Tryz.ntmps107
  go_wp2_with (first
    | (go_at_call 74; refine (take_open g rem sp k w h).mono ?_; rintro e w1 ⟨A', m, c', rfl, hh, hc, hg⟩)
    | (go_at_call 72; refine (clone_any A' m c' (tkOut rem sp k) w1 hh.out.2.1 hh.out.2.2.1 (by rw [hh.out.1]; exact Nat.le_trans (tkOut_len _ _ _) HL.out)).mono ?_; rintro e w2 ⟨A2, c2, rfl, ho, hs, hb⟩))
  go_ret
  refine ⟨A2, m, c2, rfl, ⟨hh.out.1, ?_, hs⟩, hc.below hb, grownBy_trans hg (grownBy_below hb _)⟩
  obtain ⟨h1, h2⟩ := ho
  refine ⟨h1, h2.imp id ?_⟩
  rintro ⟨g2, cap, cur, q1, q2, q3⟩
  exact ⟨g2, cap, cur, q1, Nat.le_trans hg.size q2, q3⟩

end Go.Proofs.YtghjogneogkpoaaGreatDoor.Oct

namespace Go.Proofs.YtghjogneogkpoaaGreatDoor.Oct
open Go.RowKit
set_option maxRecDepth 100000

theorem raw_cut {lo : Nat} (g : Nat) (rem : List UInt8) (sp : Bool) (k : Int) (w : World) (h : CutAt w lo g rem sp) :
    Calls Tryz.prog 77 #[.pointer (some ⟨g, 0, none⟩), .int .i64 k] w fun e w' => ∃ A' m c', e = .returned (.slice A' m c') ∧
      Hid (m = (tkOut rem sp k).length ∧ w'.ownsRow w.heap.size 5 1 (.slice A' m c') m (u8s (tkOut rem sp k)) ∧ Sl A' m c') ∧
      CutAt w' lo g (tkRem rem sp k) (!fits rem sp k) ∧ w.grownBy w' (some g) := by
  go_enter Tryz.func77, Tryz.ntmps77
  go_wp2_with (go_at_call 107; refine (raw_of_take g rem sp k w h).mono ?_; rintro e w1 ⟨A', m, c', rfl, hh, hc, hg⟩)
  go_ret
  exact ⟨A', m, c', rfl, hh, hc, hg⟩

/-- Bytes as a string. -/
def str (bs : List UInt8) : ByteArray := ⟨bs.toArray⟩

theorem run_string {w : World} {A : Option Addr} {n c : Nat} {bs : List UInt8} (h : Rd w A n bs) : (convert 38 9 (.slice A n c)).run Tryz.prog w = .ok (.string (str bs)) w := by
  rcases A with _ | ad
  · have h0 : n = 0 := by
      rcases Nat.eq_zero_or_pos n with h0 | h0
      · exact h0
      · obtain ⟨_, _, hA, _⟩ := h.2 h0
        cases hA
    subst h0
    have hb : bs = [] := List.eq_nil_of_length_eq_zero h.1
    subst hb
    exact run_convert_bytes_nil w 38 5 Tryz.underlying38 Tryz.underlying5 0 c 9 Tryz.underlying9
  · rcases Nat.eq_zero_or_pos n with h0 | h0
    · subst h0
      have hb : bs = [] := List.eq_nil_of_length_eq_zero h.1
      subst hb
      rw [run_convert_bytes_string w 38 9 5 _ 0 c Tryz.underlying38 Tryz.underlying5 Tryz.underlying9, run_bytesToString w ad 0 c [] (by simpa using run_loadCells_list (P := Tryz.prog) w ad [] (by simp))]
      rfl
    · obtain ⟨b, o, hA, _, hc⟩ := h.2 h0
      injection hA with hA
      subst hA
      have := run_convert_bytes_arg (P := Tryz.prog) w 38 5 Tryz.underlying38 Tryz.underlying5 b o n c (bs.map fun x => (x.toNat : Int)) (by rw [List.length_map]; exact h.1) (fun i hi => by
        have hi' : i < bs.length := by rw [h.1]; exact hi
        rw [hc i bs[i] (List.getElem?_eq_getElem hi')]
        simp [List.getD, hi']) 9 Tryz.underlying9
      rw [this]
      congr 2
      apply ByteArray.ext
      apply Array.toList_inj.1
      rw [strOfNums_data, List.map_map]
      simp only [str]
      conv => rhs; rw [← List.map_id bs]
      apply List.map_congr_left
      intro x _
      simp

/-- string(b). -/
theorem wpList_string {w : World} {ops : Array Oper} {rest : List Oper} {o : Oper} {a : Act} {Q : Exit → Act → World → Prop} (hgd : o.guard = none) (x : Operand)
    (ho : o.op = .convert 38 9 x) (A : Option Addr) (n c : Nat) (bs : List UInt8) (hx : a.eval x = .slice A n c) (hr : Rd w A n bs)
    (h : wpList Tryz.prog ops Q rest (a.put o.dst (.string (str bs))) w) : wpList Tryz.prog ops Q (o :: rest) a w := by
  refine wpList_plain hgd fun K hK => ?_
  have hrun := run_string (c := c) hr
  unfold Oper.wp
  simp [execOp, ho, hx, hrun, Result.andThen]
  exact hK _ _ h

end Go.Proofs.YtghjogneogkpoaaGreatDoor.Oct

namespace Go.Proofs.YtghjogneogkpoaaGreatDoor.Oct
open Go.RowKit

set_option maxRecDepth 1000000 in
theorem len64_u8 (w : World) : Calls Tryz.prog 114 #[.int .u64 255] w fun e w' => e = .returned (.int .i64 8) ∧ w = w' := by
  go_enter Tryz.func114, Tryz.ntmps114
  go_wp2
  go_ret
  exact ⟨by kernel_rfl, rfl⟩

theorem w1_any (w : World) : Calls Tryz.prog 118 #[] w fun e w' => e = .returned (.int .i64 1) ∧ w = w' := by
  go_enter Tryz.func118, Tryz.ntmps118
  go_wp2_with (go_at_call 114; refine (len64_u8 _).mono ?_; rintro e w' ⟨rfl, rfl⟩)
  go_ret
  exact ⟨rfl, rfl⟩

theorem text_many (v : Value) (s : ByteArray) (w : World) (hs : 65535 < s.size) (hm : s.size ≤ 140737488355328) :
    Calls Tryz.prog 113 #[v, .string s] w fun e w' => e = .returned (.tuple #[.slice none 0 0, .int .i64 6]) ∧ w = w' := by
  go_enter Tryz.func113, Tryz.ntmps113
  go_wp2
  go_ret2
  exact ⟨rfl, rfl⟩

theorem text_ok (A : Option Addr) (n c : Nat) (bs : List UInt8) (s : ByteArray) (w : World) (hr : Rd w A n bs) (hn : n ≤ 140737488289790) (hs : s.size ≤ 65535) :
    Calls Tryz.prog 113 #[.slice A n c, .string s] w fun e w' => ∃ A' c', e = .returned (.tuple #[.slice A' (n + 2 + s.size) c', .int .i64 0]) ∧
      w'.ownsRow w.heap.size 5 1 (.slice A' (n + 2 + s.size) c') (n + 2 + s.size) (u8s (bs ++ be 2 s.size ++ s.data.toList)) ∧ Sl A' (n + 2 + s.size) c' ∧ Below w.heap.size w w' := by
  obtain ⟨i0, hi, hz0, hz1, hz2⟩ := info_parts Tryz.info5
  have hso : ¬ ((s.size : Int) > 65535) := by omega
  have hsn : ¬ (65535 < s.size) := by omega
  have hsm : ¬ ((65535 : Int) < (s.size : Int)) := by omega
  have hw : (s.size : Int) % 65536 = (s.size : Int) := by omega
  go_enter Tryz.func113, Tryz.ntmps113
  go_wp2_with (first
    | (go_at_call 123; refine (put16_any A n c bs s.size w hr (by omega)).mono ?_; rintro e w' ⟨rfl, ho, hb⟩)
    | (at_builtin; go_must (refine Lib.wpList_append_own_string _ rfl (.tmp 13) (.tmp 14) 38 9 rfl w.heap.size 5 i0 Tryz.underlying38 Tryz.underlying9 hi hz0 hz1 hz2 _ (n + 2) _ rfl ho s rfl (by unfold maxLen; omega) (by omega) hb.size ?_); intro v' w2 hv2 hg2 _; obtain ⟨A', c', rfl, hsl⟩ := own_shape hv2))
  go_ret2
  refine ⟨_, _, rfl, ?_, hsl, hb.grown hg2 hb.size (fun k hk => by cases hk; exact Nat.le_refl _)⟩
  rw [u8s_append]
  exact hv2

theorem num_wrap8 (rem : List UInt8) (sp : Bool) : ((num (tkOut rem sp 1) : Nat) : Int) % 256 = (num (tkOut rem sp 1) : Int) := by
  have h : num (tkOut rem sp 1) < 256 ^ 1 := num_out_lt rem sp 1
  omega

set_option maxHeartbeats 400000 in
theorem cutNumber8 {lo : Nat} (g : Nat) (rem : List UInt8) (sp : Bool) (w : World) (h : CutAt w lo g rem sp) :
    Calls Tryz.prog 101 #[.func (.func 74) #[.pointer (some ⟨g, 0, none⟩)] #[]] w fun e w' => e = .returned (.int .u8 (num (tkOut rem sp 1))) ∧
      CutAt w' lo g (tkRem rem sp 1) (!fits rem sp 1) ∧ w.grownBy w' (some g) := by
  have HB := Lib.hid (num_wrap8 rem sp)
  go_enter Tryz.func101, Tryz.ntmps101
  go_wp2_with (first
    | (go_at_call 118; refine (w1_any _).mono ?_; rintro e w1 ⟨rfl, rfl⟩)
    | (go_at_call 74; refine (take_open g rem sp 1 w h).mono ?_; rintro e w1 ⟨A', m, c', rfl, hh, hc, hg⟩))
  go_loop [3, 10] (fun v i => ∃ j : Nat, j ≤ m ∧ i = .int .i64 j ∧ v = .int .u64 (num ((tkOut rem sp 1).take j))) (fun _ i => m - (intOf i).toNat)
  case atStart => exact ⟨0, Nat.zero_le _, rfl, rfl⟩
  case round =>
    obtain ⟨j, hj, rfl, rfl⟩ := hrel
    by_cases hlt : j < m
    · obtain ⟨b, o, u, rfl, hu, hcell, hm8⟩ := round_at (K := 1) hh hlt (by decide)
      have hnum := num_take_lt (out := tkOut rem sp 1) hm8 hlt
      have hstep := num_step (out := tkOut rem sp 1) hu.out hlt
      obtain ⟨q, hq⟩ : ∃ q, q = num ((tkOut rem sp 1).take j) := ⟨_, rfl⟩
      have hor := or_step q u (by rw [hq]; exact hnum)
      rw [← hq] at hnum ⊢
      have HQ := Lib.hid hq
      have HS := Lib.hid hstep
      have HO := Lib.hid hor
      clear hq hstep hor
      go_wp2
      go_round
      case rel => exact ⟨j + 1, by omega, by go_num, by rw [HO.out, HS.out, HQ.out]⟩
      case measure => simp [intOf]; omega
    · have HA := Lib.hid (num_all hh (Nat.le_of_not_lt hlt))
      go_wp2
      go_ret
      exact ⟨by first | (rw [HA.out]; done) | (rw [HA.out]; rfl) | (rw [HA.out, HB.out]; done) | (rw [HA.out, HB.out]; rfl), hc, hg⟩

theorem byte_cut {lo : Nat} (g : Nat) (rem : List UInt8) (sp : Bool) (w : World) (h : CutAt w lo g rem sp) :
    Calls Tryz.prog 75 #[.pointer (some ⟨g, 0, none⟩)] w fun e w' => e = .returned (.int .u8 (num (tkOut rem sp 1))) ∧
      CutAt w' lo g (tkRem rem sp 1) (!fits rem sp 1) ∧ w.grownBy w' (some g) := by
  go_enter Tryz.func75, Tryz.ntmps75
  go_wp2_with (go_at_call 101; refine (cutNumber8 g rem sp w h).mono ?_; rintro e w1 ⟨rfl, hc, hg⟩)
  go_ret
  exact ⟨rfl, hc, hg⟩

/-- How many bytes a text has with its length, or -1. -/
def tsz (rem : List UInt8) (most : Int) : Int := if fits rem false 2 = true ∧ (num (tkOut rem false 2) : Int) ≤ most then 2 + (num (tkOut rem false 2) : Int) else -1

theorem num2_lt (rem : List UInt8) (sp : Bool) : num (tkOut rem sp 2) < 65536 := num_out_lt rem sp 2

theorem local_cut {A : Option Addr} {n c : Nat} {rem : List UInt8} {w : World} (hr : Rd w A n rem) (hs : Sl A n c) (hn : n ≤ 140737488355328) (hA : ∀ ad, A = some ad → ad.block < w.heap.size) :
    CutAt (w.alloc (.cells #[.slice A n c, .int .i64 0, .bool false] 94)) 0 w.heap.size rem false :=
  ⟨A, n, c, 0, rem, heap_alloc_new w _, hr.below ((Below.refl _ _).alloc (Nat.le_refl _) _), hs, Nat.zero_le _, hn, by simp, fun ad had => ⟨Nat.zero_le _, hA ad had⟩⟩

theorem textSize_any (A : Option Addr) (n c : Nat) (rem : List UInt8) (most : Int) (w : World) (hr : Rd w A n rem) (hs : Sl A n c) (hn : n ≤ 140737488355328) (hA : ∀ ad, A = some ad → ad.block < w.heap.size) :
    Calls Tryz.prog 134 #[.slice A n c, .int .i64 most] w fun e w' => e = .returned (.int .i64 (tsz rem most)) ∧ Below w.heap.size w w' := by
  have hcut := local_cut hr hs hn hA
  have HB : Hid (Below w.heap.size w (w.alloc (.cells #[.slice A n c, .int .i64 0, .bool false] 94))) := (Below.refl _ _).alloc (Nat.le_refl _) _
  have hhalf := half_cut w.heap.size rem false _ hcut
  have HT : Hid (tsz rem most = if fits rem false 2 = true ∧ (num (tkOut rem false 2) : Int) ≤ most then 2 + (num (tkOut rem false 2) : Int) else -1) := rfl
  have hq2 := num2_lt rem false
  obtain ⟨q, hq⟩ : ∃ q, q = num (tkOut rem false 2) := ⟨_, rfl⟩
  rw [← hq] at hhalf HT hq2
  obtain ⟨t, ht⟩ : ∃ t, t = tsz rem most := ⟨_, rfl⟩
  rw [← ht] at HT ⊢
  obtain ⟨f, hf⟩ : ∃ f, f = fits rem false 2 := ⟨_, rfl⟩
  rw [← hf] at hhalf HT
  have HH := Lib.hid hhalf
  clear ht hf hq hcut hhalf hr hs hA
  cases f with
  | false =>
    obtain rfl : t = -1 := by rw [HT.out, if_neg (by simp)]
    clear HT
    go_enter Tryz.func134, Tryz.ntmps134
    go_wp2_with (first
      | (go_at_call 137; refine HH.out.mono ?_; rintro e w1 ⟨rfl, hc, hg⟩)
      | (go_at_call 78; refine (ok_any _ _ _ _ hc).mono ?_; rintro e w2 ⟨rfl, rfl⟩))
    go_ret
    exact ⟨rfl, HB.out.grown hg (by simp) (fun k hk => by cases hk; exact Nat.le_refl _)⟩
  | true =>
    by_cases hm : (q : Int) ≤ most
    · obtain rfl : t = 2 + (q : Int) := by rw [HT.out, if_pos ⟨rfl, hm⟩]
      clear HT
      go_enter Tryz.func134, Tryz.ntmps134
      go_wp2_with (first
        | (go_at_call 137; refine HH.out.mono ?_; rintro e w1 ⟨rfl, hc, hg⟩)
        | (go_at_call 78; refine (ok_any _ _ _ _ hc).mono ?_; rintro e w2 ⟨rfl, rfl⟩))
      go_ret
      exact ⟨rfl, HB.out.grown hg (by simp) (fun k hk => by cases hk; exact Nat.le_refl _)⟩
    · obtain rfl : t = -1 := by rw [HT.out, if_neg (fun h => hm h.2)]
      clear HT
      go_enter Tryz.func134, Tryz.ntmps134
      go_wp2_with (first
        | (go_at_call 137; refine HH.out.mono ?_; rintro e w1 ⟨rfl, hc, hg⟩)
        | (go_at_call 78; refine (ok_any _ _ _ _ hc).mono ?_; rintro e w2 ⟨rfl, rfl⟩))
      go_ret
      exact ⟨rfl, HB.out.grown hg (by simp) (fun k hk => by cases hk; exact Nat.le_refl _)⟩

theorem cutText_any {lo : Nat} (g : Nat) (rem : List UInt8) (sp : Bool) (k : Int) (w : World) (h : CutAt w lo g rem sp) :
    Calls Tryz.prog 133 #[.func (.func 74) #[.pointer (some ⟨g, 0, none⟩)] #[], .int .i64 k] w fun e w' => e = .returned (.string (str ((tkOut rem sp k).drop 2))) ∧
      CutAt w' lo g (tkRem rem sp k) (!fits rem sp k) ∧ w.grownBy w' (some g) := by
  have HT := Lib.hid (take_open g rem sp k w h)
  obtain ⟨out, ho⟩ : ∃ out, out = tkOut rem sp k := ⟨_, rfl⟩
  rw [← ho] at HT ⊢
  have hlen : out.length ≤ 140737488355328 := by rw [ho]; exact Nat.le_trans (tkOut_len _ _ _) h.len
  clear ho h
  by_cases hl : out.length < 2
  · have hd : out.drop 2 = [] := List.drop_of_length_le (by omega)
    rw [hd]
    clear hd
    go_enter Tryz.func133, Tryz.ntmps133
    go_wp2_with (go_at_call 74; refine HT.out.mono ?_; rintro e w1 ⟨A', m, c', rfl, hh, hc, hg⟩; have hm : m < 2 := (by rw [hh.out.1]; exact hl))
    go_ret
    exact ⟨rfl, hc, hg⟩
  · go_enter Tryz.func133, Tryz.ntmps133
    go_wp2_with (first
      | (go_at_call 74; refine HT.out.mono ?_; rintro e w1 ⟨A', m, c', rfl, hh, hc, hg⟩; have hm : 2 ≤ m := (by rw [hh.out.1]; omega); have hm2 : m ≤ 140737488355328 := (by rw [hh.out.1]; exact hlen); have hmc : m ≤ c' := hh.out.2.2.1.2.1; have hmc2 : c' ≤ 9223372036854775807 := hh.out.2.2.1.2.2)
      | (refine wpList_string rfl (.tmp 13) rfl _ (m - 2) (c' - 2) (out.drop 2) rfl (hh.out.2.1.cut hm hmc) ?_))
    all_goals (go_ret; exact ⟨rfl, hc, hg⟩)

/-- How many bytes Text takes. -/
theorem text_cut {lo : Nat} (g : Nat) (rem : List UInt8) (sp : Bool) (most : Int) (w : World) (h : CutAt w lo g rem sp) :
    Calls Tryz.prog 127 #[.pointer (some ⟨g, 0, none⟩), .int .i64 most] w fun e w' => e = .returned (.string (str ((tkOut rem sp (tsz rem most)).drop 2))) ∧
      CutAt w' lo g (tkRem rem sp (tsz rem most)) (!fits rem sp (tsz rem most)) ∧ w.grownBy w' (some g) := by
  have hlt := h.lt
  have hlen := h.len
  have HL := Lib.hid hlen
  have HLT := Lib.hid hlt
  clear hlt hlen
  go_enter Tryz.func127, Tryz.ntmps127
  go_wp2_with (first
    | (go_at_call 108; refine (rest_cut g rem sp w h).mono ?_; rintro e w1 ⟨A', c', rfl, hh, q, rfl⟩; have hc0 := h.drewN q)
    | (go_at_call 134; go_must (refine (textSize_any A' rem.length c' rem most _ (hh.out.1.drewN q) hh.out.2.1 HL.out (fun ad had => Nat.lt_trans (hh.out.2.2 ad had).2 HLT.out)).mono ?_); rintro e w2 ⟨rfl, hb⟩; have hc1 := hc0.below hb)
    | (go_at_call 133; refine (cutText_any g rem sp (tsz rem most) _ hc1).mono ?_; rintro e w3 ⟨rfl, hc, hg⟩))
  go_ret
  exact ⟨rfl, hc, grownBy_trans (grownBy_trans (grownBy_drewN w q _) (grownBy_below hb _)) hg⟩

end Go.Proofs.YtghjogneogkpoaaGreatDoor.Oct
