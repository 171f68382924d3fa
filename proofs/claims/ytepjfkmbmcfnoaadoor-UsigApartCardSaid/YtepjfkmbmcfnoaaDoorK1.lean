/-
  What is proved: plain laws on blocks, on what turns, and on maps from numbers to whatever values. Conditions as stated.
  What is proved: the disk as the document has it, and how it lies in memory; the calls that only look at it or turn its own cells. Conditions as stated.
-/
import Derived.Test.YtepjfkmbmcfnoaaDoorChecked
import Derived.WalkKit
import Derived.WalkSpells
import Derived.WalkLawsBesides
import Derived.Maps.OwnSet
import Derived.Maps.AppendAt
import Derived.Laws.CopyOwn
import Derived.Lib.Hide
import Derived.IntWalk
import Derived.Deep.DeepMust
import Derived.Deep.QuietTactic
import Derived.BigQuiet
import Derived.Deep.WholeRow
import Derived.Deep.MidRow
import Derived.Deep.RegionHeld3
import Derived.StillTailTactics
import Derived.ChangeKeysEq

namespace Go.Proofs.YtepjfkmbmcfnoaaDoor
open Go.RowKit

/-- Bytes as values. -/
def u8s (bs : List UInt8) : List Value := bs.map fun b => Value.int .u8 (b.toNat : Int)
theorem u8s_length (l : List UInt8) : (u8s l).length = l.length := by simp [u8s]
theorem u8s_one (l : List UInt8) : ∀ v ∈ u8s l, v.oneCell' = true := by
  intro v hv
  simp only [u8s, List.mem_map] at hv
  obtain ⟨x, _, rfl⟩ := hv
  rfl
theorem u8s_at (l : List UInt8) (k : Nat) (hk : k < l.length) : (u8s l)[k]? = some (.int .u8 ((l.getD k 0).toNat : Int)) := by
  simp [u8s, List.getElem?_eq_getElem hk, List.getD_eq_getElem?_getD]

theorem heap_set {w : World} {g k : Nat} {C : List Value} {t : TypeId} (h : w.heap[g]? = some (.cells C.toArray t (0, 0))) (v : Value) : (w.setCell ⟨g, k, none⟩ v).heap[g]? = some (.cells (C.set k v).toArray t (0, 0)) := by
  simp [World.setCell, Array.getElem?_modify, h]
theorem free_block {w : World} {g : Nat} {C : Array Value} {t : TypeId} (h : w.heap[g]? = some (.cells C t (0, 0))) (k : Nat) : w.frozen? ⟨g, k, none⟩ = false := by
  simp only [World.frozen?, h]
  simp
theorem block_cell {w : World} {g : Nat} {C : List Value} {t : TypeId} (h : w.heap[g]? = some (.cells C.toArray t (0, 0))) (k : Nat) (v : Value) (hv : C[k]? = some v) : w.cell? ⟨g, k, none⟩ = some v := by
  rw [cell_of_row w g k C.toArray t (0, 0) h]
  simpa using hv
theorem range_block {w : World} {g : Nat} {C : List Value} {t : TypeId} (h : w.heap[g]? = some (.cells C.toArray t (0, 0))) (o : Nat) (cs : List Value) (hc : ∀ j v, cs[j]? = some v → C[o + j]? = some v) : w.rangeAt g o cs := fun j v hv =>
  block_cell h (o + j) v (hc j v hv)
theorem ret_range {P : Program} {fn : Func} {p : Tmp} {ty : TypeId} (h : fn.results = #[.cell p ty]) {tmps : Array Value} {w : World} {g : Nat} {cs : List Value} {d : TypeDesc}
    (hp : tmps.getD p undef = .pointer (some ⟨g, 0, none⟩)) (hc : w.rangeAt g 0 cs) (hu : P.underlying ty = some d) (hd : d.isRow = true) (hi : (P.info? ty).map (·.size) = some cs.length) :
    (results fn tmps).run P w = .ok (.agg cs.toArray) w := by
  have hp' : tmps[p]?.getD undef = .pointer (some ⟨g, 0, none⟩) := by simpa using hp
  simp [results, h, hp', asAddr, run_loadVar_mid w g 0 ty cs d hc hu hd hi]

/-! ### what turns -/
/-- Of what was there no block but those of S has turned. -/
structure Turns (S : Nat → Prop) (w w' : World) : Prop where
  os : w'.os = w.os
  tape : w'.tape = w.tape
  output : w'.output = w.output
  size : w.heap.size ≤ w'.heap.size
  block : ∀ k, k < w.heap.size → ¬ S k → w'.heap[k]? = w.heap[k]?

/-- .. and whose S was is S' now, but for what is new. -/
def Own (w : World) (S : Nat → Prop) (w' : World) (S' : Nat → Prop) : Prop := Turns S w w' ∧ ∀ k, S' k → S k ∨ w.heap.size ≤ k

theorem Turns.refl (S : Nat → Prop) (w : World) : Turns S w w := ⟨rfl, rfl, rfl, Nat.le_refl _, fun _ _ _ => rfl⟩
theorem Turns.drewN {S : Nat → Prop} {a w : World} (h : Turns S a w) (q : Nat) : Turns S a (w.drewN q) := ⟨h.os, h.tape, h.output, h.size, h.block⟩
theorem Turns.mono {S S' : Nat → Prop} {a w : World} (h : Turns S a w) (hs : ∀ k, S k → S' k) : Turns S' a w := ⟨h.os, h.tape, h.output, h.size, fun k hk hn => h.block k hk fun x => hn (hs k x)⟩
theorem Turns.step {S S' : Nat → Prop} {a b c : World} (h : Turns S a b) (k : Turns S' b c) (hs : ∀ k, S' k → S k ∨ a.heap.size ≤ k) : Turns S a c :=
  ⟨k.os.trans h.os, k.tape.trans h.tape, k.output.trans h.output, Nat.le_trans h.size k.size, fun i hi hn => (k.block i (Nat.lt_of_lt_of_le hi h.size) (fun x => (hs i x).elim hn fun y => by omega)).trans (h.block i hi hn)⟩
theorem Turns.trans {S : Nat → Prop} {a b c : World} (h : Turns S a b) (k : Turns S b c) : Turns S a c := h.step k fun _ x => .inl x
theorem Turns.alloc {S : Nat → Prop} {a w : World} (h : Turns S a w) (o : Obj) : Turns S a (w.alloc o) :=
  h.trans ⟨rfl, rfl, rfl, by simp, fun k hk _ => heap_alloc_old w o hk⟩
theorem Turns.setCell {S : Nat → Prop} {a w : World} (h : Turns S a w) {g : Nat} (hg : S g ∨ a.heap.size ≤ g) (i : Nat) (v : Value) : Turns S a (w.setCell ⟨g, i, none⟩ v) :=
  h.step (S' := (· = g)) ⟨rfl, rfl, rfl, by simp [World.setCell], fun k _ hn => Below.heap_setCell w ⟨g, i, none⟩ v k hn⟩ (by rintro k rfl; exact hg)
theorem Turns.setCells {S : Nat → Prop} {a : World} {g : Nat} (hg : S g ∨ a.heap.size ≤ g) : ∀ (vs : List Value) (o : Nat) (w : World), Turns S a w → Turns S a (w.setCells g o vs)
  | [], _, _, h => h
  | v :: r, o, w, h => by
    rw [World.setCells]
    exact Turns.setCells hg r (o + 1) _ (h.setCell hg o v)
theorem Turns.grown {S : Nat → Prop} {a w w' : World} (h : Turns S a w) {row : Option Nat} (hg : w.grownBy w' row) (hr : ∀ g, row = some g → S g ∨ a.heap.size ≤ g) : Turns S a w' :=
  h.step (S' := fun k => row = some k) ⟨hg.os, hg.tape, hg.output, hg.size, fun k hk hn => hg.block k hk fun e => hn e.symm⟩ (fun k e => hr k e)
theorem Turns.turned {S : Nat → Prop} {a w w' : World} (h : Turns S a w) {b : Nat} (hg : w.mapTurned w' b) (hr : S b ∨ a.heap.size ≤ b) : Turns S a w' :=
  h.grown hg.grown (by rintro g e; cases e; exact hr)
theorem Turns.below {S : Nat → Prop} {a w : World} (h : Turns S a w) {B : Nat} (hB : B ≤ a.heap.size) (hs : ∀ k, S k → B ≤ k) : Below B a w :=
  ⟨h.os, h.tape, h.output, h.size, fun k hk => h.block k (by omega) fun x => by have := hs k x; omega⟩
theorem Turns.of_below {S : Nat → Prop} {a w : World} (h : Below a.heap.size a w) : Turns S a w := ⟨h.os, h.tape, h.output, h.size, fun k hk _ => h.block k hk⟩
theorem Own.trans {a b c : World} {S S' S'' : Nat → Prop} (h : Own a S b S') (k : Own b S' c S'') : Own a S c S'' :=
  ⟨h.1.step k.1 h.2, fun i hi => (k.2 i hi).elim (h.2 i) fun x => .inr (Nat.le_trans h.1.size x)⟩
theorem Own.same {a b : World} {S : Nat → Prop} (h : Turns S a b) : Own a S b S := ⟨h, fun _ x => .inl x⟩

/-! ### maps -/
/-- A value as it stands. -/
def rdV (v : Value) : Option (DataW Value × List MemPlace) := some (.held v, [])
/-- One number's value anew. -/
def upd {α : Type} (f : Int → α) (k : Int) (v : α) : Int → α := fun x => if x = k then v else f x
theorem upd_same {α : Type} (f : Int → α) (k : Int) (v : α) : upd f k v k = v := by simp [upd]
theorem upd_other {α : Type} (f : Int → α) {k x : Int} (v : α) (h : x ≠ k) : upd f k v x = f x := by simp [upd, h]

/-- Block b is a map of at most n entries: at x there stands f x. -/
def World.mapAt (w : World) (b n : Nat) (f : Int → Option Value) : Prop :=
  ∃ D : DataW Value, w.ownsMap Tryd.prog 3 rdV b n D ∧ (∀ x z, D.atKey (.int .i64 x) z = match f x with | some v => .held v | none => z) ∧ ∀ x, Maps.has D (.int .i64 x) = (f x).isSome

theorem mapAt_made (w : World) : World.mapAt (w.alloc (.map #[] 0)) w.heap.size 0 fun _ => none :=
  ⟨_, World.ownsMap_made _ _ _ _, fun _ _ => rfl, fun _ => rfl⟩
theorem mapAt_mono {w : World} {b n n' : Nat} {f : Int → Option Value} (h : World.mapAt w b n f) (hn : n ≤ n') : World.mapAt w b n' f :=
  let ⟨D, h1, h2⟩ := h; ⟨D, h1.mono hn, h2⟩
theorem mapAt_lt {w : World} {b n : Nat} {f : Int → Option Value} (h : World.mapAt w b n f) : b < w.heap.size := let ⟨_, h1, _⟩ := h; h1.lt
theorem mapAt_block {w : World} {b n : Nat} {f : Int → Option Value} (h : World.mapAt w b n f) : ∃ es clock, w.heap[b]? = some (.map es clock) := let ⟨_, ⟨es, c, h1, _⟩, _⟩ := h; ⟨es, c, h1⟩
theorem mapAt_kept {w w' : World} {b n : Nat} {f : Int → Option Value} (h : World.mapAt w b n f) (he : w'.heap[b]? = w.heap[b]?) : World.mapAt w' b n f := by
  obtain ⟨D, ⟨es, clock, h1, h2⟩, h3⟩ := h
  exact ⟨D, ⟨es, clock, he.trans h1, h2⟩, h3⟩

theorem keyed3 : Maps.Keyed Tryd.prog 3 := Maps.int_keyed Tryd.underlying3
/-- A number that an int can be. -/
def I64 (x : Int) : Prop := (Lit.int .i64 x).wf = true
theorem i64_of {x : Int} (h : -9223372036854775808 ≤ x ∧ x < 9223372036854775808) : I64 x := by
  simp [I64, Lit.wf, IntKind.min, IntKind.max, IntKind.signed, IntKind.bits]
  omega
theorem key3 {x : Int} (h : I64 x) : _root_.Go.keyOf Tryd.prog 3 (.int .i64 x) = some (.int .i64 x) := Maps.keyOf_int_mk Tryd.underlying3 h

theorem mapAt_look {w : World} {t e : TypeId} (ht : Tryd.prog.underlying t = some (.map 3 e)) {z : Value} (hz : (zeroValue e).run Tryd.prog w = .ok z w) {b n : Nat} {f : Int → Option Value} (h : World.mapAt w b n f) {x : Int} (hx : I64 x) :
    (Instr.lookup t (.map (some b)) (.int .i64 x) true).run Tryd.prog w = .ok (.tuple #[(f x).getD z, .bool (f x).isSome]) w ∧ (Instr.lookup t (.map (some b)) (.int .i64 x) false).run Tryd.prog w = .ok ((f x).getD z) w := by
  obtain ⟨D, h1, h2, h3⟩ := h
  obtain ⟨v, ps, hr, hv⟩ := h1.look_ok keyed3 ht hz (zd := .held z) (zp := []) rfl (key3 hx)
  obtain ⟨v', ps', hr', hv'⟩ := h1.lookup keyed3 ht hz (zd := .held z) (zp := []) rfl (key3 hx)
  rw [h2] at hv hv'
  rw [h3] at hr
  simp only [rdV, Option.some.injEq, Prod.mk.injEq] at hv hv'
  have e1 : v = (f x).getD z := by cases hf : f x <;> rw [hf] at hv <;> simpa using hv.1
  have e2 : v' = (f x).getD z := by cases hf : f x <;> rw [hf] at hv' <;> simpa using hv'.1
  rw [e1] at hr
  rw [e2] at hr'
  exact ⟨hr, hr'⟩

/-- A map or none at all. -/
def World.mapOr (w : World) (m : Option Nat) (n : Nat) (f : Int → Option Value) : Prop := (m = none ∧ ∀ x, f x = none) ∨ ∃ b, m = some b ∧ World.mapAt w b n f

theorem mapOr_look {w : World} {t e : TypeId} (ht : Tryd.prog.underlying t = some (.map 3 e)) {z : Value} (hz : (zeroValue e).run Tryd.prog w = .ok z w) {m : Option Nat} {n : Nat} {f : Int → Option Value} (h : World.mapOr w m n f) {x : Int} (hx : I64 x) :
    (Instr.lookup t (.map m) (.int .i64 x) true).run Tryd.prog w = .ok (.tuple #[(f x).getD z, .bool (f x).isSome]) w ∧ (Instr.lookup t (.map m) (.int .i64 x) false).run Tryd.prog w = .ok ((f x).getD z) w := by
  rcases h with ⟨rfl, h⟩ | ⟨b, rfl, h⟩
  · rw [h]
    exact ⟨Maps.look_nil true keyed3 ht hz (key3 hx), Maps.look_nil false keyed3 ht hz (key3 hx)⟩
  · exact mapAt_look ht hz h hx

theorem mapAt_put {D : DataW Value} {f : Int → Option Value} (hD : Maps.IsMap D) (h2 : ∀ x z, D.atKey (.int .i64 x) z = match f x with | some v => .held v | none => z) (h3 : ∀ x, Maps.has D (.int .i64 x) = (f x).isSome) (k : Int) (v : Value) :
    (∀ x z, (D.put (.int .i64 k) (.held v)).atKey (.int .i64 x) z = match upd f k (some v) x with | some v => .held v | none => z) ∧ ∀ x, Maps.has (D.put (.int .i64 k) (.held v)) (.int .i64 x) = (upd f k (some v) x).isSome := by
  refine ⟨fun x z => ?_, fun x => ?_⟩
  · by_cases hx : x = k
    · subst hx
      rw [upd_same, Maps.atKey_put_same hD (k := .int .i64 _) trivial]
    · rw [upd_other _ _ hx, Maps.atKey_put_other (by simpa using hx), h2]
  · by_cases hx : x = k
    · subst hx
      rw [upd_same, Maps.has_put_same hD (k := .int .i64 _) trivial]
      rfl
    · rw [upd_other _ _ hx, Maps.has_put_other (by simpa using hx), h3]
theorem mapAt_del {D : DataW Value} {f : Int → Option Value} (h2 : ∀ x z, D.atKey (.int .i64 x) z = match f x with | some v => .held v | none => z) (h3 : ∀ x, Maps.has D (.int .i64 x) = (f x).isSome) (k : Int) :
    (∀ x z, (D.del (.int .i64 k)).atKey (.int .i64 x) z = match upd f k none x with | some v => .held v | none => z) ∧ ∀ x, Maps.has (D.del (.int .i64 k)) (.int .i64 x) = (upd f k none x).isSome := by
  refine ⟨fun x z => ?_, fun x => ?_⟩
  · by_cases hx : x = k
    · subst hx
      rw [upd_same, Maps.atKey_del_same]
    · rw [upd_other _ _ hx, Maps.atKey_del_other (by simpa using hx), h2]
  · by_cases hx : x = k
    · subst hx
      rw [upd_same, Maps.has_del_same]
      rfl
    · rw [upd_other _ _ hx, Maps.has_del_other (by simpa using hx), h3]

/-- 'm[k] = v'. -/
theorem wpList_put_at {w : World} {ops : Array Oper} {rest : List Oper} {o : Oper} {a : Act} {Q : Exit → Act → World → Prop} (hg : o.guard = none) (m x v : Operand) (t e : TypeId) (hop : o.op = Op.mapUpdate t m x v)
    (ht : Tryd.prog.underlying t = some (.map 3 e)) (b n : Nat) (f : Int → Option Value) (hm : a.eval m = .map (some b)) (hown : World.mapAt w b n f) (hn : n < maxLen) (k : Int) (val : Value) (hx : a.eval x = .int .i64 k) (hv : a.eval v = val) (hk : I64 k)
    (h : ∀ w', Hid (World.mapAt w' b (n + 1) (upd f k (some val))) → Hid (w.mapTurned w' b) → wpList Tryd.prog ops Q rest (a.put o.dst undef) w') : wpList Tryd.prog ops Q (o :: rest) a w := by
  obtain ⟨D, h1, h2, h3⟩ := hown
  refine wpList_mapUpdate_in w hg m x v t hop 3 e keyed3 ht rdV b n D hm h1 hn _ val _ hx hv (key3 hk) (.held val) [] rfl ?_
  intro w' h4 h5
  exact h w' (Lib.hid ⟨_, h4, mapAt_put h1.isMap h2 h3 k val⟩) (Lib.hid h5)
/-- 'delete(m, k)'. -/
theorem wpList_del_at {w : World} {ops : Array Oper} {rest : List Oper} {o : Oper} {a : Act} {Q : Exit → Act → World → Prop} (hg : o.guard = none) (m x : Operand) (t e : TypeId) (hop : o.op = Op.call { callee := Callee.builtin Builtin.delete, args := #[m, x], argTypes := #[t, 3] })
    (ht : Tryd.prog.underlying t = some (.map 3 e)) (b n : Nat) (f : Int → Option Value) (hm : a.eval m = .map (some b)) (hown : World.mapAt w b n f) (k : Int) (hx : a.eval x = .int .i64 k) (hk : I64 k)
    (h : ∀ w', Hid (World.mapAt w' b n (upd f k none)) → Hid (w.mapTurned w' b) → wpList Tryd.prog ops Q rest (a.put o.dst (.tuple #[])) w') : wpList Tryd.prog ops Q (o :: rest) a w := by
  obtain ⟨D, h1, h2, h3⟩ := hown
  refine wpList_delete_own w hg m x t 3 hop e keyed3 ht rdV b n D hm h1 _ _ hx (key3 hk) ?_
  intro w' h4 h5
  exact h w' (Lib.hid ⟨_, h4, mapAt_del h2 h3 k⟩) (Lib.hid h5)
end Go.Proofs.YtepjfkmbmcfnoaaDoor

namespace Go.Proofs.YtepjfkmbmcfnoaaDoor
open Go.RowKit

def zeros : List UInt8 := List.replicate 128 0

/-- The disk: is the power off; the fuse; what each sector has that is sure (none: it is lost); the loose writes. -/
structure Dk where
  off : Bool
  fuse : Option Nat
  sure : Int → Option (List UInt8)
  loose : List (Int × List UInt8)

def Dk.new : Dk := ⟨false, none, fun _ => some zeros, []⟩
/-- The last write for a sector. -/
def lastW : List (Int × List UInt8) → Int → Option (List UInt8)
  | [], _ => none
  | p :: r, x => match lastW r x with
    | some b => some b
    | none => if p.1 = x then some p.2 else none
theorem lastW_snoc (x y : Int) (b : List UInt8) : ∀ l : List (Int × List UInt8), lastW (l ++ [(x, b)]) y = if x = y then some b else lastW l y
  | [] => by simp [lastW]
  | p :: r => by
    rw [List.cons_append, lastW, lastW_snoc x y b r, lastW]
    by_cases h : x = y <;> simp [h]
def Dk.rests (s : Dk) : Int := if s.off then 8 else 0
def Dk.refuses (s : Dk) (at' : Int) : Int := if s.off then 8 else if at' < 0 ∨ 32768 ≤ at' then 1 else 0
def Dk.read (s : Dk) (at' : Int) : List UInt8 × Int :=
  if s.refuses at' ≠ 0 then (zeros, s.refuses at') else match lastW s.loose at' with
    | some b => (b, 0)
    | none => match s.sure at' with
      | some b => (b, 0)
      | none => (zeros, 9)
def Dk.burn (s : Dk) : Dk × Int := match s.fuse with
  | none => (s, 0)
  | some 0 => ({ s with off := true, fuse := none }, 8)
  | some (n + 1) => ({ s with fuse := some n }, 0)
def Dk.write (s : Dk) (at' : Int) (b : List UInt8) : Dk × Int := if s.refuses at' ≠ 0 then (s, s.refuses at') else Dk.burn { s with loose := s.loose ++ [(at', b)] }
def done (f : Int → Option (List UInt8)) (p : Int × List UInt8) (pick : Nat) : Int → Option (List UInt8) :=
  if pick % 4 = 0 then f else if pick % 4 = 2 then upd f p.1 none else upd f p.1 (some p.2)
def settled (t : Nat → Nat) : Nat → (Int → Option (List UInt8)) → List (Int × List UInt8) → Int → Option (List UInt8)
  | _, f, [] => f
  | i, f, p :: r => settled t (i + 1) (done f p (t i)) r
theorem settled_snoc (t : Nat → Nat) (p : Int × List UInt8) : ∀ (l : List (Int × List UInt8)) (i : Nat) (f : Int → Option (List UInt8)), settled t i f (l ++ [p]) = done (settled t i f l) p (t (i + l.length))
  | [], _, _ => rfl
  | q :: r, i, f => by
    rw [List.cons_append, settled, settled_snoc t p r, settled, List.length_cons, show i + 1 + r.length = i + (r.length + 1) by omega]
def Dk.settle (s : Dk) (t : Nat → Nat) : Dk := { s with sure := settled t 0 s.sure s.loose, loose := [] }
def Dk.sync (s : Dk) : Dk × Int := if s.off then (s, 8) else if s.burn.2 ≠ 0 then s.burn else (s.burn.1.settle fun _ => 1, 0)
def Dk.fuseAt (s : Dk) (n : Int) : Dk := { s with fuse := if 0 ≤ n then some n.toNat else none }
def Dk.offed (s : Dk) : Dk := { s with off := true, fuse := none }
def Dk.on (s : Dk) (picks : List UInt8) : Dk × Int := if s.off then (Dk.settle { s with off := false, fuse := none } fun i => (picks.getD i 0).toNat, 0) else (s, 3)

/-! ### in memory -/
def dcells (off fused : Bool) (left : Int) (ms ml : Option Nat) (L : Value) (mn : Option Nat) : List Value := [.bool off, .bool fused, .int .i64 left, .map ms, .map ml, L, .map mn]
def wcells (p : Int × List UInt8) : List Value := .int .i64 p.1 :: u8s p.2
def vS (g : Int → Option (List UInt8)) (x : Int) : Option Value := (g x).map fun b => .agg (u8s b).toArray
def vL (g : Int → Bool) (x : Int) : Option Value := if g x then some (.bool true) else none
def vN (g : Int → Option Nat) (x : Int) : Option Value := (g x).map fun i => .int .i64 (i : Int)

/-- The three maps: none of them is made, or all. -/
def Maps3 (w : World) (T k : Nat) (ms ml mn : Option Nat) (gs : Int → Option (List UInt8)) (gl : Int → Bool) (gn : Int → Option Nat) : Prop :=
  (ms = none ∧ ml = none ∧ mn = none ∧ k = 0 ∧ (∀ x, gs x = none) ∧ (∀ x, gl x = false) ∧ ∀ x, gn x = none) ∨
  ∃ bs bl bn, ms = some bs ∧ ml = some bl ∧ mn = some bn ∧ bs ≠ bl ∧ bs ≠ bn ∧ bl ≠ bn ∧ World.mapAt w bs (T - k) (vS gs) ∧ World.mapAt w bl (T - k) (vL gl) ∧ World.mapAt w bn T (vN gn)

structure Rep (w : World) (S : Nat → Prop) (d T : Nat) (s : Dk) (fused : Bool) (left : Int) (ms ml mn : Option Nat) (L : Value) (gs : Int → Option (List UInt8)) (gl : Int → Bool) (gn : Int → Option Nat) : Prop where
  hd : w.heap[d]? = some (.cells (dcells s.off fused left ms ml L mn).toArray 69 (0, 0))
  fuse : s.fuse = if fused then some left.toNat else none
  left : 0 ≤ left ∧ left < 9223372036854775808
  maps : Maps3 w T s.loose.length ms ml mn gs gl gn
  many : s.loose.length ≤ T
  row : w.ownsRow 0 97 129 L s.loose.length (s.loose.flatMap wcells)
  sure : ∀ x, s.sure x = if gl x then none else some ((gs x).getD zeros)
  newest : ∀ y, (gn y = none ∧ lastW s.loose y = none) ∨ ∃ j b, gn y = some j ∧ s.loose[j]? = some (y, b) ∧ lastW s.loose y = some b
  len : ∀ p ∈ s.loose, p.2.length = 128 ∧ 0 ≤ p.1 ∧ p.1 < 32768
  glen : ∀ x b, gs x = some b → b.length = 128
  own : ∀ k, (k = d ∨ ms = some k ∨ ml = some k ∨ mn = some k ∨ L.ownBlock = some k) → S k
  lt : ∀ k, S k → k < w.heap.size

/-- A disk lies at d, in the blocks of S; T bounds how much was ever written. -/
def DiskIs (w : World) (S : Nat → Prop) (d T : Nat) (s : Dk) : Prop := ∃ fused left ms ml mn L gs gl gn, Rep w S d T s fused left ms ml mn L gs gl gn

theorem row_kept {w w' : World} {L : Value} {n : Nat} {xs : List Value} (h : w.ownsRow 0 97 129 L n xs) (he : ∀ g, L.ownBlock = some g → w'.heap[g]? = w.heap[g]?) : w'.ownsRow 0 97 129 L n xs := by
  refine ⟨h.1, ?_⟩
  rcases h.2 with hn | ⟨g, cap, cur, rfl, hb, hgg, rest⟩
  · exact .inl hn
  · exact .inr ⟨g, cap, cur, rfl, hb, (he g rfl).trans hgg, rest⟩
theorem maps_kept {w w' : World} {T k : Nat} {ms ml mn : Option Nat} {gs : Int → Option (List UInt8)} {gl : Int → Bool} {gn : Int → Option Nat} (h : Maps3 w T k ms ml mn gs gl gn)
    (he : ∀ b, (ms = some b ∨ ml = some b ∨ mn = some b) → w'.heap[b]? = w.heap[b]?) : Maps3 w' T k ms ml mn gs gl gn := by
  rcases h with h | ⟨bs, bl, bn, h1, h2, h3, h4, h5, h6, h7, h8, h9⟩
  · exact .inl h
  · exact .inr ⟨bs, bl, bn, h1, h2, h3, h4, h5, h6, mapAt_kept h7 (he _ (.inl h1)), mapAt_kept h8 (he _ (.inr (.inl h2))), mapAt_kept h9 (he _ (.inr (.inr h3)))⟩
/-- Neither a map nor the row lies in the disk's own block. -/
theorem Rep.apart {w : World} {S : Nat → Prop} {d T : Nat} {s : Dk} {fused : Bool} {left : Int} {ms ml mn : Option Nat} {L : Value} {gs : Int → Option (List UInt8)} {gl : Int → Bool} {gn : Int → Option Nat}
    (h : Rep w S d T s fused left ms ml mn L gs gl gn) : (∀ b, (ms = some b ∨ ml = some b ∨ mn = some b) → b ≠ d) ∧ ∀ g, L.ownBlock = some g → g ≠ d := by
  have hd := h.hd
  constructor
  · rintro b hb rfl
    rcases h.maps with ⟨rfl, rfl, rfl, _⟩ | ⟨bs, bl, bn, rfl, rfl, rfl, _, _, _, h7, h8, h9⟩
    · simp at hb
    · rcases hb with e | e | e <;> cases e
      · obtain ⟨es, c, h0⟩ := mapAt_block h7; rw [hd] at h0; simp at h0
      · obtain ⟨es, c, h0⟩ := mapAt_block h8; rw [hd] at h0; simp at h0
      · obtain ⟨es, c, h0⟩ := mapAt_block h9; rw [hd] at h0; simp at h0
  · rintro g hg rfl
    rcases h.row.2 with ⟨rfl, _⟩ | ⟨g', cap, cur, rfl, _, hgg, _⟩
    · simp [Value.ownBlock] at hg
    · simp [Value.ownBlock] at hg
      subst hg
      rw [hd] at hgg
      simp at hgg

/-- What is another block's leaves the disk; its own cells may tell something else of the power and the fuse. -/
theorem Rep.turned {w w' : World} {S : Nat → Prop} {d T : Nat} {s : Dk} {fused : Bool} {left : Int} {ms ml mn : Option Nat} {L : Value} {gs : Int → Option (List UInt8)} {gl : Int → Bool} {gn : Int → Option Nat}
    (h : Rep w S d T s fused left ms ml mn L gs gl gn) (hk : ∀ k, S k → k ≠ d → w'.heap[k]? = w.heap[k]?) (hz : w.heap.size ≤ w'.heap.size) {off' fused' : Bool} {left' : Int} {fuse' : Option Nat}
    (hd' : w'.heap[d]? = some (.cells (dcells off' fused' left' ms ml L mn).toArray 69 (0, 0))) (hf : fuse' = if fused' then some left'.toNat else none) (hl : 0 ≤ left' ∧ left' < 9223372036854775808) :
    Rep w' S d T { s with off := off', fuse := fuse' } fused' left' ms ml mn L gs gl gn := by
  obtain ⟨a1, a2⟩ := h.apart
  have ho := h.own
  exact ⟨hd', hf, hl, maps_kept h.maps fun b hb => hk b (ho b (by rcases hb with e | e | e <;> simp [e])) (a1 b hb), h.many, row_kept h.row fun g hg => hk g (ho g (by simp [hg])) (a2 g hg), h.sure, h.newest, h.len, h.glen, ho, fun k hk => Nat.lt_of_lt_of_le (h.lt k hk) hz⟩
theorem DiskIs.kept {w w' : World} {S : Nat → Prop} {d T : Nat} {s : Dk} (h : DiskIs w S d T s) (hk : ∀ k, S k → w'.heap[k]? = w.heap[k]?) (hz : w.heap.size ≤ w'.heap.size) : DiskIs w' S d T s := by
  obtain ⟨fused, left, ms, ml, mn, L, gs, gl, gn, h⟩ := h
  exact ⟨fused, left, ms, ml, mn, L, gs, gl, gn, h.turned (fun k hs _ => hk k hs) hz ((hk d (h.own d (.inl rfl))).trans h.hd) h.fuse h.left⟩
theorem DiskIs.turns {w w' : World} {S S' : Nat → Prop} {d T : Nat} {s : Dk} (h : DiskIs w S d T s) (ht : Turns S' w w') (ha : ∀ k, S k → ¬ S' k) : DiskIs w' S d T s :=
  h.kept (fun k hk => ht.block k (by obtain ⟨_, _, _, _, _, _, _, _, _, h⟩ := h; exact h.lt k hk) (ha k hk)) ht.size
theorem DiskIs.lt {w : World} {S : Nat → Prop} {d T : Nat} {s : Dk} (h : DiskIs w S d T s) : ∀ k, S k → k < w.heap.size := by obtain ⟨_, _, _, _, _, _, _, _, _, h⟩ := h; exact h.lt
theorem DiskIs.here {w : World} {S : Nat → Prop} {d T : Nat} {s : Dk} (h : DiskIs w S d T s) : S d := by obtain ⟨_, _, _, _, _, _, _, _, _, h⟩ := h; exact h.own d (.inl rfl)

/-- The cells, for a walk. -/
theorem Rep.cells {w : World} {S : Nat → Prop} {d T : Nat} {s : Dk} {fused : Bool} {left : Int} {ms ml mn : Option Nat} {L : Value} {gs : Int → Option (List UInt8)} {gl : Int → Bool} {gn : Int → Option Nat}
    (h : Rep w S d T s fused left ms ml mn L gs gl gn) : w.cell? ⟨d, 0, none⟩ = some (.bool s.off) ∧ w.cell? ⟨d, 1, none⟩ = some (.bool fused) ∧ w.cell? ⟨d, 2, none⟩ = some (.int .i64 left) ∧ w.cell? ⟨d, 3, none⟩ = some (.map ms) ∧
      w.cell? ⟨d, 4, none⟩ = some (.map ml) ∧ w.cell? ⟨d, 5, none⟩ = some L ∧ w.cell? ⟨d, 6, none⟩ = some (.map mn) :=
  ⟨block_cell h.hd 0 _ rfl, block_cell h.hd 1 _ rfl, block_cell h.hd 2 _ rfl, block_cell h.hd 3 _ rfl, block_cell h.hd 4 _ rfl, block_cell h.hd 5 _ rfl, block_cell h.hd 6 _ rfl⟩

theorem new_any (w : World) : Calls Tryd.prog 10 #[] w fun E w' => ∃ d, E = .returned (.pointer (some ⟨d, 0, none⟩)) ∧ DiskIs w' (· = d) d 0 Dk.new ∧ Below w.heap.size w w' ∧ w.heap.size ≤ d := by
  go_enter Tryd.func10, Tryd.ntmps10
  go_wp2
  go_ret
  refine ⟨_, rfl, ⟨false, 0, none, none, none, .slice none 0 0, fun _ => none, fun _ => false, fun _ => none, ?_⟩, (Below.refl _ _).alloc (Nat.le_refl _) _, Nat.le_refl _⟩
  exact ⟨heap_alloc_new w _, rfl, by omega, .inl ⟨rfl, rfl, rfl, rfl, fun _ => rfl, fun _ => rfl, fun _ => rfl⟩, Nat.le_refl _, World.ownsRow_nil _ _ _ _, fun _ => rfl, fun _ => .inl ⟨rfl, rfl⟩, fun _ h => (by cases h), fun _ _ h => (by cases h),
    fun k h => (by simpa [Value.ownBlock] using h), fun k h => (by rw [h]; simp)⟩

theorem rests_any {w : World} {S : Nat → Prop} {d T : Nat} {s : Dk} (h : DiskIs w S d T s) : Calls Tryd.prog 68 #[.pointer (some ⟨d, 0, none⟩)] w fun E w' => E = .returned (.int .i64 s.rests) ∧ w = w' := by
  obtain ⟨fused, left, ms, ml, mn, L, gs, gl, gn, h⟩ := h
  obtain ⟨c0, _⟩ := h.cells
  clear h
  unfold Dk.rests
  generalize s.off = off at c0 ⊢
  go_enter Tryd.func68, Tryd.ntmps68
  cases off
  all_goals (go_wp2; go_ret; exact ⟨rfl, rfl⟩)
theorem refuses_any {w : World} {S : Nat → Prop} {d T : Nat} {s : Dk} (h : DiskIs w S d T s) (x : Int) : Calls Tryd.prog 46 #[.pointer (some ⟨d, 0, none⟩), .int .i64 x] w fun E w' => E = .returned (.int .i64 (s.refuses x)) ∧ w = w' := by
  have HR := Lib.hid (rests_any h)
  have hs : s.rests = if s.off then 8 else 0 := rfl
  unfold Dk.refuses
  clear h
  generalize s.off = off at hs ⊢
  generalize s.rests = e at hs HR
  cases off
  · simp only [Bool.false_eq_true, if_false] at hs ⊢
    subst hs
    by_cases h1 : x < 0
    · rw [if_pos (Or.inl h1)]
      go_enter Tryd.func46, Tryd.ntmps46
      go_wp2_with (first | (go_at_call 68; refine HR.out.mono ?_; rintro E w1 ⟨rfl, rfl⟩))
      go_ret
      exact ⟨rfl, rfl⟩
    · by_cases h2 : 32768 ≤ x
      · rw [if_pos (Or.inr h2)]
        go_enter Tryd.func46, Tryd.ntmps46
        go_wp2_with (first | (go_at_call 68; refine HR.out.mono ?_; rintro E w1 ⟨rfl, rfl⟩))
        go_ret
        exact ⟨rfl, rfl⟩
      · rw [if_neg (by omega)]
        go_enter Tryd.func46, Tryd.ntmps46
        go_wp2_with (first | (go_at_call 68; refine HR.out.mono ?_; rintro E w1 ⟨rfl, rfl⟩))
        go_ret
        exact ⟨rfl, rfl⟩
  · simp only [if_true] at hs ⊢
    subst hs
    go_enter Tryd.func46, Tryd.ntmps46
    go_wp2_with (first | (go_at_call 68; refine HR.out.mono ?_; rintro E w1 ⟨rfl, rfl⟩))
    go_ret
    exact ⟨rfl, rfl⟩

/-- A store into the disk's own cells. -/
theorem turns_cell {S : Nat → Prop} {w : World} {d : Nat} (hd : S d) (i : Nat) (v : Value) : Turns S w (w.setCell ⟨d, i, none⟩ v) := (Turns.refl S w).setCell (.inl hd) i v

theorem Rep.set0 {w : World} {S : Nat → Prop} {d T : Nat} {s : Dk} {fused : Bool} {left : Int} {ms ml mn : Option Nat} {L : Value} {gs : Int → Option (List UInt8)} {gl : Int → Bool} {gn : Int → Option Nat}
    (h : Rep w S d T s fused left ms ml mn L gs gl gn) (o : Bool) : Rep (w.setCell ⟨d, 0, none⟩ (.bool o)) S d T { s with off := o } fused left ms ml mn L gs gl gn :=
  h.turned (fun k _ hk => Below.heap_setCell _ _ _ _ hk) (by simp [World.setCell]) (heap_set h.hd _) h.fuse h.left
theorem Rep.set2 {w : World} {S : Nat → Prop} {d T : Nat} {s : Dk} {fused : Bool} {left : Int} {ms ml mn : Option Nat} {L : Value} {gs : Int → Option (List UInt8)} {gl : Int → Bool} {gn : Int → Option Nat}
    (h : Rep w S d T s fused left ms ml mn L gs gl gn) (l : Int) (fs : Option Nat) (hf : fs = if fused then some l.toNat else none) (hl : 0 ≤ l ∧ l < 9223372036854775808) : Rep (w.setCell ⟨d, 2, none⟩ (.int .i64 l)) S d T { s with fuse := fs } fused l ms ml mn L gs gl gn :=
  h.turned (fun k _ hk => Below.heap_setCell _ _ _ _ hk) (by simp [World.setCell]) (heap_set h.hd _) hf hl
theorem Rep.set12 {w : World} {S : Nat → Prop} {d T : Nat} {s : Dk} {fused : Bool} {left : Int} {ms ml mn : Option Nat} {L : Value} {gs : Int → Option (List UInt8)} {gl : Int → Bool} {gn : Int → Option Nat}
    (h : Rep w S d T s fused left ms ml mn L gs gl gn) (b : Bool) (l : Int) (fs : Option Nat) (hf : fs = if b then some l.toNat else none) (hl : 0 ≤ l ∧ l < 9223372036854775808) :
    Rep ((w.setCell ⟨d, 1, none⟩ (.bool b)).setCell ⟨d, 2, none⟩ (.int .i64 l)) S d T { s with fuse := fs } b l ms ml mn L gs gl gn :=
  h.turned (fun k _ hk => (Below.heap_setCell _ _ _ _ hk).trans (Below.heap_setCell _ _ _ _ hk)) (by simp [World.setCell]) (heap_set (heap_set h.hd _) _) hf hl

theorem fuse_any {w : World} {S : Nat → Prop} {d T : Nat} {s : Dk} (h : DiskIs w S d T s) (n : Int) (hn : n < 9223372036854775808) : Calls Tryd.prog 15 #[.pointer (some ⟨d, 0, none⟩), .int .i64 n] w fun E w' => E = .returned (.tuple #[]) ∧ DiskIs w' S d T (s.fuseAt n) ∧ Turns S w w' := by
  have hS := h.here
  obtain ⟨fused, left, ms, ml, mn, L, gs, gl, gn, h⟩ := h
  obtain ⟨c0, c1, c2, c3, c4, c5, c6⟩ := h.cells
  have f1 := free_block h.hd 1
  have f2 := free_block h.hd 2
  have HR := Lib.hid h
  clear h
  unfold Dk.fuseAt
  by_cases hp : 0 ≤ n
  · rw [if_pos hp]
    go_enter Tryd.func15, Tryd.ntmps15
    go_wp2
    exact bodyPost_end (results_none rfl _ _ _) rfl ⟨rfl, ⟨_, _, _, _, _, _, _, _, _, HR.out.set12 true n _ rfl ⟨hp, hn⟩⟩, (turns_cell hS _ _).trans (turns_cell hS _ _)⟩
  · rw [if_neg hp]
    go_enter Tryd.func15, Tryd.ntmps15
    go_wp2
    exact bodyPost_end (results_none rfl _ _ _) rfl ⟨rfl, ⟨_, _, _, _, _, _, _, _, _, HR.out.set12 false 0 _ rfl (by omega)⟩, (turns_cell hS _ _).trans (turns_cell hS _ _)⟩
theorem off_any {w : World} {S : Nat → Prop} {d T : Nat} {s : Dk} (h : DiskIs w S d T s) : Calls Tryd.prog 18 #[.pointer (some ⟨d, 0, none⟩)] w fun E w' => E = .returned (.tuple #[]) ∧ DiskIs w' S d T s.offed ∧ Turns S w w' := by
  have hS := h.here
  obtain ⟨fused, left, ms, ml, mn, L, gs, gl, gn, h⟩ := h
  obtain ⟨c0, c1, c2, c3, c4, c5, c6⟩ := h.cells
  have f0 := free_block h.hd 0
  have HR := Lib.hid h
  clear h
  go_enter Tryd.func18, Tryd.ntmps18
  go_wp2_with (first | (go_at_call 15; refine (fuse_any ⟨_, _, _, _, _, _, _, _, _, HR.out.set0 true⟩ (-1) (by omega)).mono ?_; rintro E w1 ⟨rfl, h1, h2⟩))
  exact bodyPost_end (results_none rfl _ _ _) rfl ⟨rfl, h1, (turns_cell hS _ _).trans h2⟩
def Sl (A : Option Addr) (n c : Nat) : Prop := (A = none → n = 0 ∧ c = 0) ∧ n ≤ c ∧ c ≤ 9223372036854775807
theorem row_shape {w : World} {B n : Nat} {v : Value} {xs : List Value} {e k : Nat} (h : w.ownsRow B e k v n xs) : ∃ A c, v = .slice A n c ∧ Sl A n c := by
  rcases h.2 with ⟨rfl, rfl⟩ | ⟨g, cap, cur, rfl, _, _, hn, hm, _⟩
  · exact ⟨none, 0, rfl, ⟨fun _ => ⟨rfl, rfl⟩, Nat.le_refl _, by omega⟩⟩
  · exact ⟨_, cap, rfl, ⟨(fun h => (by cases h)), hn, by unfold maxLen at hm; omega⟩⟩
theorem burn_any {w : World} {S : Nat → Prop} {d T : Nat} {s : Dk} (h : DiskIs w S d T s) : Calls Tryd.prog 48 #[.pointer (some ⟨d, 0, none⟩)] w fun E w' => E = .returned (.int .i64 s.burn.2) ∧ DiskIs w' S d T s.burn.1 ∧ Turns S w w' := by
  have hS := h.here
  have HO := Lib.hid (off_any h)
  have H := Lib.hid h
  obtain ⟨fused, left, ms, ml, mn, L, gs, gl, gn, h⟩ := h
  obtain ⟨c0, c1, c2, c3, c4, c5, c6⟩ := h.cells
  have f2 := free_block h.hd 2
  have hf := h.fuse
  have hl := h.left
  have HR := Lib.hid h
  clear h
  cases fused
  · have e : s.burn = (s, 0) := by simp only [Dk.burn, hf]; rfl
    rw [e]
    clear e hf
    go_enter Tryd.func48, Tryd.ntmps48
    go_wp2
    go_ret
    exact ⟨rfl, H.out, Turns.refl _ _⟩
  · by_cases hp : 0 < left
    · have e : s.burn = ({ s with fuse := some (left - 1).toNat }, 0) := by
        obtain ⟨m, rfl⟩ : ∃ m : Nat, left = m + 1 := ⟨(left - 1).toNat, by omega⟩
        have : s.fuse = some (m + 1) := by rw [hf]; simp
        simp only [Dk.burn, this]
        congr 2
        simp
      rw [e]
      clear e hf
      go_enter Tryd.func48, Tryd.ntmps48
      go_wp2
      go_ret
      exact ⟨rfl, ⟨_, _, _, _, _, _, _, _, _, HR.out.set2 (left - 1) _ rfl (by omega)⟩, turns_cell hS _ _⟩
    · obtain rfl : left = 0 := by omega
      have e : s.burn = (s.offed, 8) := by
        have : s.fuse = some 0 := hf
        simp only [Dk.burn, this]
        rfl
      rw [e]
      clear e hf
      go_enter Tryd.func48, Tryd.ntmps48
      go_wp2_with (first | (go_at_call 18; refine HO.out.mono ?_; rintro E w1 ⟨rfl, h1, h2⟩))
      go_ret
      exact ⟨rfl, h1, h2⟩

/-! ### of no disk -/
theorem nil_rests (w : World) : Calls Tryd.prog 68 #[.pointer none] w fun E w' => E = .returned (.int .i64 2) ∧ w = w' := by
  go_enter Tryd.func68, Tryd.ntmps68
  go_wp2
  go_ret
  exact ⟨rfl, rfl⟩
theorem nil_refuses (x : Int) (w : World) : Calls Tryd.prog 46 #[.pointer none, .int .i64 x] w fun E w' => E = .returned (.int .i64 2) ∧ w = w' := by
  go_enter Tryd.func46, Tryd.ntmps46
  go_wp2_with (first | (go_at_call 68; refine (nil_rests _).mono ?_; rintro E w1 ⟨rfl, rfl⟩))
  go_ret
  exact ⟨rfl, rfl⟩
theorem nil_fuse (n : Int) (w : World) : Calls Tryd.prog 15 #[.pointer none, .int .i64 n] w fun E w' => E = .returned (.tuple #[]) ∧ w = w' := by
  go_enter Tryd.func15, Tryd.ntmps15
  go_wp2
  exact bodyPost_end (results_none rfl _ _ _) rfl ⟨rfl, rfl⟩
theorem nil_off (w : World) : Calls Tryd.prog 18 #[.pointer none] w fun E w' => E = .returned (.tuple #[]) ∧ w = w' := by
  go_enter Tryd.func18, Tryd.ntmps18
  go_wp2
  exact bodyPost_end (results_none rfl _ _ _) rfl ⟨rfl, rfl⟩
theorem nil_sync (w : World) : Calls Tryd.prog 50 #[.pointer none] w fun E w' => E = .returned (.int .i64 2) ∧ w = w' := by
  go_enter Tryd.func50, Tryd.ntmps50
  go_wp2_with (first | (go_at_call 68; refine (nil_rests _).mono ?_; rintro E w1 ⟨rfl, rfl⟩))
  go_ret
  exact ⟨rfl, rfl⟩
theorem nil_on (A : Option Addr) (n c : Nat) (w : World) : Calls Tryd.prog 19 #[.pointer none, .slice A n c] w fun E w' => E = .returned (.int .i64 2) ∧ Below w.heap.size w w' := by
  go_enter Tryd.func19, Tryd.ntmps19
  go_wp2
  go_ret
  exact ⟨rfl, (Below.refl _ _).alloc (Nat.le_refl _) _⟩
end Go.Proofs.YtepjfkmbmcfnoaaDoor
