/- Laws and walks. -/
import Derived.Test.YtknpcmadghkaaaaGreatDoorV1w
import Derived.Test.YtknpcmadghkaaaaGreatDoorV3w
set_option maxHeartbeats 16000000
set_option maxRecDepth 100000
namespace Go.Proofs.YtknpcmadghkaaaaGreatDoor.Sh
open Go.RowKit
structure Thing where
 P : World -> Prop
 F : Nat -> Prop
structure Thing.Ok (o : Thing) : Prop where
 kept : ∀ W W' : World, o.P W -> (∀ k, o.F k -> W'.heap[k]? = W.heap[k]?) -> o.P W'
 lt : ∀ W : World, o.P W -> ∀ k, o.F k -> k < W.heap.size
structure Fr (w W : World) (os : List Thing) : Prop where
 bel : Below w.heap.size w W
 ks : KIs w
 pos : 0 < w.heap.size
 all : ∀ o ∈ os, o.P W /\ o.Ok /\ ∀ k, o.F k -> w.heap.size <= k
 apart : os.Pairwise fun a b => ∀ k, a.F k -> ¬ b.F k
section
variable {w W W' : World} {o o' : Thing} {os os' : List Thing}
theorem Fr.start (hk : KIs w) (h0 : 0 < w.heap.size) : Fr w w [] := ⟨Below.refl _ _, hk, h0, fun _ h => (by cases h), List.Pairwise.nil⟩
theorem Fr.size (H : Fr w W os) : w.heap.size <= W.heap.size := H.bel.size
theorem Fr.ksW (H : Fr w W os) : KIs W := fun i hi => (H.bel.cell (p := ⟨0, i, none⟩) (by have := H.pos; exact this)).trans (H.ks i hi)
theorem Fr.posW (H : Fr w W os) : 0 < W.heap.size := by have := H.pos; have := H.size; omega
theorem Fr.keep (H : Fr w W os) (hb : Below w.heap.size w W') (hk : ∀ o ∈ os, ∀ k, o.F k -> W'.heap[k]? = W.heap[k]?) : Fr w W' os :=
 ⟨hb, H.ks, H.pos, fun o ho => ⟨(H.all o ho).2.1.kept W W' (H.all o ho).1 (hk o ho), (H.all o ho).2⟩, H.apart⟩
theorem Fr.below (H : Fr w W os) (hb : Below W.heap.size W W') : Fr w W' os :=
 H.keep (H.bel.trans (hb.mono H.size)) (fun o ho k hk => hb.block k ((H.all o ho).2.1.lt W (H.all o ho).1 k hk))
theorem Fr.drewN (H : Fr w W os) (k : Nat) : Fr w (W.drewN k) os := H.below (below_drewN bl k)
theorem Fr.drew (H : Fr w W os) : Fr w W.drew os := H.drewN 1
theorem Fr.add (H : Fr w W os) (hb : Below W.heap.size W W') (hp : o.P W') (ok : o.Ok) (hf : ∀ k, o.F k -> W.heap.size <= k) : Fr w W' (o :: os) := by
 have H' := H.below hb
 refine ⟨H'.bel, H'.ks, H'.pos, fun x hx => ?_, List.Pairwise.cons (fun b hb' k hk hk' => ?_) H'.apart⟩
 ·rcases List.mem_cons.1 hx with rfl | hx
  ·exact ⟨hp, ok, fun k hk => Nat.le_trans H.size (hf k hk)⟩
  ·exact H'.all x hx
 ·have h1 := (H.all b hb').2.1.lt W (H.all b hb').1 k hk'
  have := hf k hk
  omega
theorem Fr.turn (H : Fr w W (o :: os)) (ho : Own W o.F W' o'.F) (hp : o'.P W') (ok : o'.Ok) : Fr w W' (o' :: os) := by
 obtain ⟨h1, h2, h3⟩ := H.all o (List.mem_cons_self ..)
 obtain ⟨ha, hp2⟩ := List.pairwise_cons.1 H.apart
 have hlt : ∀ x ∈ os, ∀ k, x.F k -> k < W.heap.size := fun x hx k hk => (H.all x (List.mem_cons_of_mem _ hx)).2.1.lt W (H.all x (List.mem_cons_of_mem _ hx)).1 k hk
 have hbel : Below w.heap.size w W' := H.bel.trans ((ho.1.below H.size fun k hk => h3 k hk).mono (Nat.le_refl _))
 refine ⟨hbel, H.ks, H.pos, fun x hx => ?_, List.Pairwise.cons (fun b hb' k hk hk' => ?_) hp2⟩
 ·rcases List.mem_cons.1 hx with rfl | hx
  ·exact ⟨hp, ok, fun k hk => (ho.2 k hk).elim (fun e => h3 k e) (fun e => Nat.le_trans H.size e)⟩
  ·obtain ⟨g1, g2, g3⟩ := H.all x (List.mem_cons_of_mem _ hx)
   exact ⟨g2.kept W W' g1 (fun k hk => ho.1.block k (hlt x hx k hk) fun e => ha x hx k e hk), g2, g3⟩
 ·rcases ho.2 k hk with e | e
  ·exact ha b hb' k e hk'
  ·have := hlt b hb' k hk'
   omega
theorem Fr.sub (H : Fr w W os) (h : os'.Sublist os) : Fr w W os' := ⟨H.bel, H.ks, H.pos, fun o ho => H.all o (h.subset ho), H.apart.sublist h⟩
theorem Fr.pop (H : Fr w W (o :: os)) : Fr w W os := H.sub (List.sublist_cons_self ..)
theorem Fr.perm (H : Fr w W os) (h : os.Perm os') : Fr w W os' :=
 ⟨H.bel, H.ks, H.pos, fun o ho => H.all o (h.mem_iff.2 ho), (h.pairwise_iff (@fun _ _ hxy k hk hk' => hxy k hk' hk)).1 H.apart⟩
theorem Fr.swap {a b : Thing} (H : Fr w W (a :: b :: os)) : Fr w W (b :: a :: os) := H.perm (List.Perm.swap ..)
theorem Fr.hd (H : Fr w W (o :: os)) : o.P W := (H.all o (List.mem_cons_self ..)).1
theorem Fr.hd2 {a : Thing} (H : Fr w W (a :: o :: os)) : o.P W := H.pop.hd
theorem Fr.hd3 {a b : Thing} (H : Fr w W (a :: b :: o :: os)) : o.P W := H.pop.pop.hd
theorem Fr.ge (H : Fr w W (o :: os)) : ∀ k, o.F k -> w.heap.size <= k := (H.all o (List.mem_cons_self ..)).2.2
theorem Fr.ok (H : Fr w W (o :: os)) : o.Ok := (H.all o (List.mem_cons_self ..)).2.1
theorem Fr.as (H : Fr w W (o :: os)) (hp : o'.P W) (ok : o'.Ok) (hf : ∀ k, o'.F k -> o.F k) : Fr w W (o' :: os) := H.turn ⟨Turns.refl _ W, fun k hk => .inl (hf k hk)⟩ hp ok
end
theorem Thing.Ok.below {o : Thing} (h : o.Ok) {W W' : World} (hp : o.P W) (hb : Below W.heap.size W W') : o.P W' := h.kept W W' hp fun k hk => hb.block k (h.lt W hp k hk)
theorem own_grown {W W' : World} {k : Nat} {F : Nat -> Prop} (hg : W.grownBy W' (some k)) (hk : F k) : Own W F W' F := Own.same ((Turns.refl _ W).grown hg fun g e => by cases e; exact .inl hk)
def blkT (k : Nat) (C : Array Value) (ty : TypeId) : Thing := ⟨fun W => W.heap[k]? = some (.cells C ty (0, 0)), fun j => j = k⟩
theorem blkT_ok (k : Nat) (C : Array Value) (ty : TypeId) : (blkT k C ty).Ok := ⟨fun _ _ h hk => (hk k rfl).trans h, fun _ h j hj => by cases hj; exact (Array.getElem?_eq_some_iff.1 h).1⟩
theorem Fr.box {w W : World} {os : List Thing} (H : Fr w W os) (C : Array Value) (ty : TypeId) : Fr w (W.alloc (.cells C ty)) (blkT W.heap.size C ty :: os) :=
 H.add (bl.alloc (Nat.le_refl _) _) (heap_alloc_new W _) (blkT_ok _ _ _) fun k hk => by cases hk; exact Nat.le_refl _
theorem Fr.set {w W : World} {os : List Thing} {k : Nat} {C : List Value} {ty : TypeId} (H : Fr w W (blkT k C.toArray ty :: os)) (i : Nat) (v : Value) : Fr w (W.setCell ⟨k, i, none⟩ v) (blkT k (C.set i v).toArray ty :: os) :=
 H.turn (Own.same (Turns.setCell (S := (blkT k C.toArray ty).F) (Turns.refl _ W) (.inl rfl) i v)) (heap_set H.hd v) (blkT_ok _ _ _)
theorem Fr.setAll {w W : World} {os : List Thing} {k : Nat} {C : List Value} {ty : TypeId} (H : Fr w W (blkT k C.toArray ty :: os)) (o : Nat) (vs : List Value) : Fr w (W.setCells k o vs) (blkT k (setAll C o vs).toArray ty :: os) :=
 H.turn (Own.same (Turns.setCells (S := (blkT k C.toArray ty).F) (.inl rfl) vs o W (Turns.refl _ W))) (heap_setCells _ _ _ _ H.hd) (blkT_ok _ _ _)
theorem ownsRow_kept {W W' : World} {B : Nat} {e : TypeId} {s n : Nat} {v : Value} {xs : List Value} (h : W.ownsRow B e s v n xs) (hk : ∀ k, v.ownBlock = some k -> W'.heap[k]? = W.heap[k]?) : W'.ownsRow B e s v n xs := by
 obtain ⟨h1, h2⟩ := h
 refine ⟨h1, ?_⟩
 rcases h2 with h2 | ⟨g, cap, cur, rfl, a, b, c⟩
 ·exact .inl h2
 ·exact .inr ⟨g, cap, cur, rfl, a, (hk g rfl).trans b, c⟩
theorem ownsRow_lt {W : World} {B : Nat} {e : TypeId} {s n : Nat} {v : Value} {xs : List Value} (h : W.ownsRow B e s v n xs) : ∀ k, v.ownBlock = some k -> k < W.heap.size := by
 rcases h.2 with ⟨rfl, _⟩ | ⟨g, cap, cur, rfl, _, b, _⟩
 ·intro k hk; cases hk
 ·intro k hk; cases hk; exact (Array.getElem?_eq_some_iff.1 b).1
theorem cell_kept {W W' : World} {b : Nat} (h : W'.heap[b]? = W.heap[b]?) (o : Nat) : W'.cell? ⟨b, o, none⟩ = W.cell? ⟨b, o, none⟩ := by
 simp [World.cell?, h]
theorem ownsRow_some {W : World} {B : Nat} {e : TypeId} {s n : Nat} {v : Value} {xs : List Value} (h : W.ownsRow B e s v n xs) (hn : 0 < n) : ∃ g cap, v = .slice (some ⟨g, 0, none⟩) n cap /\ B <= g /\ W.rangeAt g 0 xs /\ n <= cap /\ cap <= 9223372036854775807 := by
 rcases h.2 with ⟨_, e0⟩ | ⟨g, cap, cur, e1, hb, hg, h3, h4, h5, h6⟩
 ·omega
 ·refine ⟨g, cap, e1, hb, fun j u hj => ?_, h3, h4⟩
  rw [Nat.zero_add]
  refine block_cell (C := cur.toList) (t := e) (by simpa using hg) j u ?_
  rw [<- h6] at hj
  have hlt : j < n * s := by have := (List.getElem?_eq_some_iff.1 hj).1; rw [List.length_take] at this; omega
  rwa [List.getElem?_take_of_lt hlt] at hj
end Go.Proofs.YtknpcmadghkaaaaGreatDoor.Sh
