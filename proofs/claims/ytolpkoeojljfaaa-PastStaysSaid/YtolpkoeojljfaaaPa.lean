/-
  What is proved: plain laws on blocks, on what turns, and on things in memory beside each other. Conditions as stated.
-/
import Derived.Test.YtolpkoeojljfaaaChecked
import Derived.WalkKit
import Derived.WalkSpells
import Derived.WalkLawsBesides
import Derived.Maps.OwnSet
import Derived.Maps.AppendAt
import Derived.Laws.CopyOwn
import Derived.Lib.Hide
import Derived.IntWalk
import Derived.Deep.DeepMust
import Derived.Deep.QuietTactic
import Derived.BigQuiet
import Derived.Deep.WholeRow
import Derived.Deep.MidRow
import Derived.Deep.RegionHeld3
import Derived.StillTailTactics
import Derived.ChangeKeysEq
namespace Go.Proofs.Ytolpkoeojljfaaa
open Go.RowKit

theorem heap_set {w : World} {g k : Nat} {C : List Value} {t : TypeId} (h : w.heap[g]? = some (.cells C.toArray t (0, 0))) (v : Value) : (w.setCell ⟨g, k, none⟩ v).heap[g]? = some (.cells (C.set k v).toArray t (0, 0)) := by
  simp [World.setCell, Array.getElem?_modify, h]
theorem free_block {w : World} {g : Nat} {C : Array Value} {t : TypeId} (h : w.heap[g]? = some (.cells C t (0, 0))) (k : Nat) : w.frozen? ⟨g, k, none⟩ = false := by
  simp only [World.frozen?, h]
  simp
theorem block_cell {w : World} {g : Nat} {C : List Value} {t : TypeId} (h : w.heap[g]? = some (.cells C.toArray t (0, 0))) (k : Nat) (v : Value) (hv : C[k]? = some v) : w.cell? ⟨g, k, none⟩ = some v := by
  rw [cell_of_row w g k C.toArray t (0, 0) h]
  simpa using hv
theorem range_block {w : World} {g : Nat} {C : List Value} {t : TypeId} (h : w.heap[g]? = some (.cells C.toArray t (0, 0))) (o : Nat) (cs : List Value) (hc : ∀ j v, cs[j]? = some v → C[o + j]? = some v) : w.rangeAt g o cs := fun j v hv =>
  block_cell h (o + j) v (hc j v hv)
theorem ret_range {P : Program} {fn : Func} {p : Tmp} {ty : TypeId} (h : fn.results = #[.cell p ty]) {tmps : Array Value} {w : World} {g : Nat} {cs : List Value} {d : TypeDesc}
    (hp : tmps.getD p undef = .pointer (some ⟨g, 0, none⟩)) (hc : w.rangeAt g 0 cs) (hu : P.underlying ty = some d) (hd : d.isRow = true) (hi : (P.info? ty).map (·.size) = some cs.length) :
    (results fn tmps).run P w = .ok (.agg cs.toArray) w := by
  have hp' : tmps[p]?.getD undef = .pointer (some ⟨g, 0, none⟩) := by simpa using hp
  simp [results, h, hp', asAddr, run_loadVar_mid w g 0 ty cs d hc hu hd hi]

/-! ### what turns -/
/-- Of what was there no block but those of S has turned. -/
structure Turns (S : Nat → Prop) (w w' : World) : Prop where
  os : w'.os = w.os
  tape : w'.tape = w.tape
  output : w'.output = w.output
  size : w.heap.size ≤ w'.heap.size
  block : ∀ k, k < w.heap.size → ¬ S k → w'.heap[k]? = w.heap[k]?

/-- .. and whose S was is S' now, but for what is new. -/
def Own (w : World) (S : Nat → Prop) (w' : World) (S' : Nat → Prop) : Prop := Turns S w w' ∧ ∀ k, S' k → S k ∨ w.heap.size ≤ k

theorem Turns.refl (S : Nat → Prop) (w : World) : Turns S w w := ⟨rfl, rfl, rfl, Nat.le_refl _, fun _ _ _ => rfl⟩
theorem Turns.drewN {S : Nat → Prop} {a w : World} (h : Turns S a w) (q : Nat) : Turns S a (w.drewN q) := ⟨h.os, h.tape, h.output, h.size, h.block⟩
theorem Turns.mono {S S' : Nat → Prop} {a w : World} (h : Turns S a w) (hs : ∀ k, S k → S' k) : Turns S' a w := ⟨h.os, h.tape, h.output, h.size, fun k hk hn => h.block k hk fun x => hn (hs k x)⟩
theorem Turns.step {S S' : Nat → Prop} {a b c : World} (h : Turns S a b) (k : Turns S' b c) (hs : ∀ k, S' k → S k ∨ a.heap.size ≤ k) : Turns S a c :=
  ⟨k.os.trans h.os, k.tape.trans h.tape, k.output.trans h.output, Nat.le_trans h.size k.size, fun i hi hn => (k.block i (Nat.lt_of_lt_of_le hi h.size) (fun x => (hs i x).elim hn fun y => by omega)).trans (h.block i hi hn)⟩
theorem Turns.trans {S : Nat → Prop} {a b c : World} (h : Turns S a b) (k : Turns S b c) : Turns S a c := h.step k fun _ x => .inl x
theorem Turns.alloc {S : Nat → Prop} {a w : World} (h : Turns S a w) (o : Obj) : Turns S a (w.alloc o) :=
  h.trans ⟨rfl, rfl, rfl, by simp, fun k hk _ => heap_alloc_old w o hk⟩
theorem Turns.setCell {S : Nat → Prop} {a w : World} (h : Turns S a w) {g : Nat} (hg : S g ∨ a.heap.size ≤ g) (i : Nat) (v : Value) : Turns S a (w.setCell ⟨g, i, none⟩ v) :=
  h.step (S' := (· = g)) ⟨rfl, rfl, rfl, by simp [World.setCell], fun k _ hn => Below.heap_setCell w ⟨g, i, none⟩ v k hn⟩ (by rintro k rfl; exact hg)
theorem Turns.setCells {S : Nat → Prop} {a : World} {g : Nat} (hg : S g ∨ a.heap.size ≤ g) : ∀ (vs : List Value) (o : Nat) (w : World), Turns S a w → Turns S a (w.setCells g o vs)
  | [], _, _, h => h
  | v :: r, o, w, h => by
    rw [World.setCells]
    exact Turns.setCells hg r (o + 1) _ (h.setCell hg o v)
theorem Turns.grown {S : Nat → Prop} {a w w' : World} (h : Turns S a w) {row : Option Nat} (hg : w.grownBy w' row) (hr : ∀ g, row = some g → S g ∨ a.heap.size ≤ g) : Turns S a w' :=
  h.step (S' := fun k => row = some k) ⟨hg.os, hg.tape, hg.output, hg.size, fun k hk hn => hg.block k hk fun e => hn e.symm⟩ (fun k e => hr k e)
theorem Turns.turned {S : Nat → Prop} {a w w' : World} (h : Turns S a w) {b : Nat} (hg : w.mapTurned w' b) (hr : S b ∨ a.heap.size ≤ b) : Turns S a w' :=
  h.grown hg.grown (by rintro g e; cases e; exact hr)
theorem Turns.below {S : Nat → Prop} {a w : World} (h : Turns S a w) {B : Nat} (hB : B ≤ a.heap.size) (hs : ∀ k, S k → B ≤ k) : Below B a w :=
  ⟨h.os, h.tape, h.output, h.size, fun k hk => h.block k (by omega) fun x => by have := hs k x; omega⟩
theorem Turns.of_below {S : Nat → Prop} {a w : World} (h : Below a.heap.size a w) : Turns S a w := ⟨h.os, h.tape, h.output, h.size, fun k hk _ => h.block k hk⟩
theorem Own.trans {a b c : World} {S S' S'' : Nat → Prop} (h : Own a S b S') (k : Own b S' c S'') : Own a S c S'' :=
  ⟨h.1.step k.1 h.2, fun i hi => (k.2 i hi).elim (h.2 i) fun x => .inr (Nat.le_trans h.1.size x)⟩
theorem Own.same {a b : World} {S : Nat → Prop} (h : Turns S a b) : Own a S b S := ⟨h, fun _ x => .inl x⟩

/-- What holds of a thing in memory, and which blocks are its. -/
structure Thing where
  P : World → Prop
  F : Nat → Prop
/-- It hangs on its own blocks alone. -/
structure Thing.Ok (o : Thing) : Prop where
  kept : ∀ W W' : World, o.P W → (∀ k, o.F k → W'.heap[k]? = W.heap[k]?) → o.P W'
  lt : ∀ W : World, o.P W → ∀ k, o.F k → k < W.heap.size
/-- Things beside each other, all made since w. -/
structure Fr (w W : World) (os : List Thing) : Prop where
  bel : Below w.heap.size w W
  all : ∀ o ∈ os, o.P W ∧ o.Ok ∧ ∀ k, o.F k → w.heap.size ≤ k
  apart : os.Pairwise fun a b => ∀ k, a.F k → ¬ b.F k
section
variable {w W W' : World} {o o' : Thing} {os os' : List Thing}
theorem Fr.start (w : World) : Fr w w [] := ⟨Below.refl _ _, fun _ h => (by cases h), List.Pairwise.nil⟩
theorem Fr.size (H : Fr w W os) : w.heap.size ≤ W.heap.size := H.bel.size
theorem Fr.keep (H : Fr w W os) (hb : Below w.heap.size w W') (hk : ∀ o ∈ os, ∀ k, o.F k → W'.heap[k]? = W.heap[k]?) : Fr w W' os :=
  ⟨hb, fun o ho => ⟨(H.all o ho).2.1.kept W W' (H.all o ho).1 (hk o ho), (H.all o ho).2⟩, H.apart⟩
theorem Fr.below (H : Fr w W os) (hb : Below W.heap.size W W') : Fr w W' os :=
  H.keep (H.bel.trans (hb.mono H.size)) (fun o ho k hk => hb.block k ((H.all o ho).2.1.lt W (H.all o ho).1 k hk))
theorem Fr.drewN (H : Fr w W os) (k : Nat) : Fr w (W.drewN k) os := H.below (below_drewN (Below.refl _ _) k)
theorem Fr.drew (H : Fr w W os) : Fr w W.drew os := H.drewN 1
/-- What is new lies beside. -/
theorem Fr.add (H : Fr w W os) (hb : Below W.heap.size W W') (hp : o.P W') (ok : o.Ok) (hf : ∀ k, o.F k → W.heap.size ≤ k) : Fr w W' (o :: os) := by
  have H' := H.below hb
  refine ⟨H'.bel, fun x hx => ?_, List.Pairwise.cons (fun b hb' k hk hk' => ?_) H'.apart⟩
  · rcases List.mem_cons.1 hx with rfl | hx
    · exact ⟨hp, ok, fun k hk => Nat.le_trans H.size (hf k hk)⟩
    · exact H'.all x hx
  · have h1 := (H.all b hb').2.1.lt W (H.all b hb').1 k hk'
    have := hf k hk
    omega
/-- One does to its own blocks what it wants. -/
theorem Fr.turn (H : Fr w W (o :: os)) (ho : Own W o.F W' o'.F) (hp : o'.P W') (ok : o'.Ok) : Fr w W' (o' :: os) := by
  obtain ⟨h1, h2, h3⟩ := H.all o (List.mem_cons_self ..)
  obtain ⟨ha, hp2⟩ := List.pairwise_cons.1 H.apart
  have hlt : ∀ x ∈ os, ∀ k, x.F k → k < W.heap.size := fun x hx k hk => (H.all x (List.mem_cons_of_mem _ hx)).2.1.lt W (H.all x (List.mem_cons_of_mem _ hx)).1 k hk
  have hbel : Below w.heap.size w W' := H.bel.trans ((ho.1.below H.size fun k hk => h3 k hk).mono (Nat.le_refl _))
  refine ⟨hbel, fun x hx => ?_, List.Pairwise.cons (fun b hb' k hk hk' => ?_) hp2⟩
  · rcases List.mem_cons.1 hx with rfl | hx
    · exact ⟨hp, ok, fun k hk => (ho.2 k hk).elim (fun e => h3 k e) (fun e => Nat.le_trans H.size e)⟩
    · obtain ⟨g1, g2, g3⟩ := H.all x (List.mem_cons_of_mem _ hx)
      exact ⟨g2.kept W W' g1 (fun k hk => ho.1.block k (hlt x hx k hk) fun e => ha x hx k e hk), g2, g3⟩
  · rcases ho.2 k hk with e | e
    · exact ha b hb' k e hk'
    · have := hlt b hb' k hk'
      omega
theorem Fr.sub (H : Fr w W os) (h : os'.Sublist os) : Fr w W os' := ⟨H.bel, fun o ho => H.all o (h.subset ho), H.apart.sublist h⟩
theorem Fr.pop (H : Fr w W (o :: os)) : Fr w W os := H.sub (List.sublist_cons_self ..)
theorem Fr.perm (H : Fr w W os) (h : os.Perm os') : Fr w W os' :=
  ⟨H.bel, fun o ho => H.all o (h.mem_iff.2 ho), (h.pairwise_iff (@fun _ _ hxy k hk hk' => hxy k hk' hk)).1 H.apart⟩
theorem Fr.swap {a b : Thing} (H : Fr w W (a :: b :: os)) : Fr w W (b :: a :: os) := H.perm (List.Perm.swap ..)
theorem Fr.third {a b c : Thing} (H : Fr w W (a :: b :: c :: os)) : Fr w W (c :: a :: b :: os) := H.perm ((List.Perm.cons a (List.Perm.swap ..)).trans (List.Perm.swap ..))
theorem Fr.hd (H : Fr w W (o :: os)) : o.P W := (H.all o (List.mem_cons_self ..)).1
theorem Fr.hd2 {a : Thing} (H : Fr w W (a :: o :: os)) : o.P W := H.pop.hd
theorem Fr.hd3 {a b : Thing} (H : Fr w W (a :: b :: o :: os)) : o.P W := H.pop.pop.hd
theorem Fr.ge (H : Fr w W (o :: os)) : ∀ k, o.F k → w.heap.size ≤ k := (H.all o (List.mem_cons_self ..)).2.2
theorem Fr.ok (H : Fr w W (o :: os)) : o.Ok := (H.all o (List.mem_cons_self ..)).2.1
/-- A thing that is told in another way. -/
theorem Fr.as (H : Fr w W (o :: os)) (hp : o'.P W) (ok : o'.Ok) (hf : ∀ k, o'.F k → o.F k) : Fr w W (o' :: os) := H.turn ⟨Turns.refl _ W, fun k hk => .inl (hf k hk)⟩ hp ok
end
theorem Thing.Ok.below {o : Thing} (h : o.Ok) {W W' : World} (hp : o.P W) (hb : Below W.heap.size W W') : o.P W' := h.kept W W' hp fun k hk => hb.block k (h.lt W hp k hk)
theorem own_below {F F' : Nat → Prop} {W W' : World} (hb : Below W.heap.size W W') (hf : ∀ k, F' k → F k ∨ W.heap.size ≤ k) : Own W F W' F' := ⟨Turns.of_below hb, hf⟩
theorem own_grown {W W' : World} {k : Nat} {F : Nat → Prop} (hg : W.grownBy W' (some k)) (hk : F k) : Own W F W' F := Own.same ((Turns.refl _ W).grown hg fun g e => by cases e; exact .inl hk)

/-! ### a block that holds just this -/
def blkT (k : Nat) (C : Array Value) (ty : TypeId) : Thing := ⟨fun W => W.heap[k]? = some (.cells C ty (0, 0)), fun j => j = k⟩
theorem blkT_ok (k : Nat) (C : Array Value) (ty : TypeId) : (blkT k C ty).Ok := ⟨fun _ _ h hk => (hk k rfl).trans h, fun _ h j hj => by cases hj; exact (Array.getElem?_eq_some_iff.1 h).1⟩
theorem Fr.box {w W : World} {os : List Thing} (H : Fr w W os) (C : Array Value) (ty : TypeId) : Fr w (W.alloc (.cells C ty)) (blkT W.heap.size C ty :: os) :=
  H.add ((Below.refl _ _).alloc (Nat.le_refl _) _) (heap_alloc_new W _) (blkT_ok _ _ _) fun k hk => by cases hk; exact Nat.le_refl _
theorem Fr.box' {w W : World} {os : List Thing} (H : Fr w W os) {k : Nat} (hk : k = W.heap.size) (C : Array Value) (ty : TypeId) : Fr w (W.alloc (.cells C ty)) (blkT k C ty :: os) := by
  subst hk; exact H.box C ty
theorem Fr.set {w W : World} {os : List Thing} {k : Nat} {C : List Value} {ty : TypeId} (H : Fr w W (blkT k C.toArray ty :: os)) (i : Nat) (v : Value) : Fr w (W.setCell ⟨k, i, none⟩ v) (blkT k (C.set i v).toArray ty :: os) :=
  H.turn (Own.same (Turns.setCell (S := (blkT k C.toArray ty).F) (Turns.refl _ W) (.inl rfl) i v)) (heap_set H.hd v) (blkT_ok _ _ _)
theorem cell_kept {W W' : World} {b : Nat} (h : W'.heap[b]? = W.heap[b]?) (o : Nat) : W'.cell? ⟨b, o, none⟩ = W.cell? ⟨b, o, none⟩ := by
  simp [World.cell?, h]
end Go.Proofs.Ytolpkoeojljfaaa
