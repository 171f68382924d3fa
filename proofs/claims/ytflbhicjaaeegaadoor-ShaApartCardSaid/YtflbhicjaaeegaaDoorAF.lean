/-
  What is proved: two hashes, two rows and a copy side by side in memory: what is kept under what. Conditions as stated.
-/
import Derived.Test.YtflbhicjaaeegaaDoorAE
namespace Go.Proofs.YtflbhicjaaeegaaDoor
open Go.RowKit

theorem HashIs.grown {g L : Nat} {w w' : World} {row : Option Nat} {xs : List UInt8} (h : HashIs w g xs L) (hb : w.grownBy w' row) (hB : ∀ j, row = some j → g ≠ j) : HashIs w' g xs L :=
  let hl := h.lt
  let ⟨blk, h1, h2, h3⟩ := h
  ⟨blk, h1, h2, (hb.block g hl (fun e => hB g e.symm rfl)).trans h3⟩
theorem own_kept {B : Nat} {w w' : World} {row : Option Nat} {v : Value} {n : Nat} {xs : List Value} (h : w.ownsRow B 5 1 v n xs) (hb : w.grownBy w' row) (hne : ∀ j, row = some j → v.ownBlock ≠ some j) : w'.ownsRow B 5 1 v n xs := by
  refine h.kept hb ?_
  rcases row with _ | j
  · rcases hv : v.ownBlock with _ | i
    · exact .inl rfl
    · exact .inr (by simp)
  · exact .inr (hne j rfl)
theorem own_ne {B g : Nat} {w : World} {v : Value} {n : Nat} {xs : List Value} (h : w.ownsRow B 5 1 v n xs) (hg : g < B) : v.ownBlock ≠ some g :=
  fun e => by have := (h.lt g e).1; omega

/-- Two hashes and two rows, each in a block of its own. -/
structure Two (B g1 g2 : Nat) (b1 b2 a1 a2 : List UInt8) (A1 : Option Addr) (c1 : Nat) (A2 : Option Addr) (c2 : Nat) (w wr : World) : Prop where
  bel : Below w.heap.size w wr
  h1 : HashIs wr g1 b1 b1.length
  h2 : HashIs wr g2 b2 b2.length
  o1 : wr.ownsRow B 5 1 (.slice A1 a1.length c1) a1.length (u8s a1)
  o2 : wr.ownsRow B 5 1 (.slice A2 a2.length c2) a2.length (u8s a2)
  s1 : Sl A1 a1.length c1
  s2 : Sl A2 a2.length c2
  ap : ∀ j, (Value.slice A1 a1.length c1).ownBlock = some j → (Value.slice A2 a2.length c2).ownBlock ≠ some j
  hg1 : w.heap.size ≤ g1
  hg2 : w.heap.size ≤ g2
  lt1 : g1 < B
  lt2 : g2 < B
  ne : g1 ≠ g2
  hB : B ≤ wr.heap.size

/-- A copy beside two values. -/
structure Cpy (B : Nat) (v1 v2 : Value) (v : Value) (n : Nat) (xs : List Value) (w : World) : Prop where
  own : w.ownsRow B 5 1 v n xs
  ne1 : ∀ j, v.ownBlock = some j → v1.ownBlock ≠ some j
  ne2 : ∀ j, v.ownBlock = some j → v2.ownBlock ≠ some j
  u8 : ∀ x ∈ xs, ∃ z, x = .int .u8 z

variable {B g1 g2 : Nat} {b1 b2 a1 a2 : List UInt8} {A1 A2 : Option Addr} {c1 c2 : Nat} {w wr wr' : World}

theorem Two.swap (H : Two B g1 g2 b1 b2 a1 a2 A1 c1 A2 c2 w wr) : Two B g2 g1 b2 b1 a2 a1 A2 c2 A1 c1 w wr :=
  ⟨H.bel, H.h2, H.h1, H.o2, H.o1, H.s2, H.s1, fun j hj e => H.ap j e hj, H.hg2, H.hg1, H.lt2, H.lt1, fun e => H.ne e.symm, H.hB⟩

theorem Two.grown (H : Two B g1 g2 b1 b2 a1 a2 A1 c1 A2 c2 w wr) {row : Option Nat} (h : wr.grownBy wr' row)
    (hr : ∀ j, row = some j → B ≤ j ∧ (Value.slice A1 a1.length c1).ownBlock ≠ some j ∧ (Value.slice A2 a2.length c2).ownBlock ≠ some j) : Two B g1 g2 b1 b2 a1 a2 A1 c1 A2 c2 w wr' :=
  ⟨H.bel.grown h H.bel.size (fun j hj => by have := (hr j hj).1; have := H.lt1; have := H.hg1; omega),
    H.h1.grown h (fun j hj => by have := (hr j hj).1; have := H.lt1; omega), H.h2.grown h (fun j hj => by have := (hr j hj).1; have := H.lt2; omega),
    own_kept H.o1 h (fun j hj => (hr j hj).2.1), own_kept H.o2 h (fun j hj => (hr j hj).2.2), H.s1, H.s2, H.ap, H.hg1, H.hg2, H.lt1, H.lt2, H.ne, Nat.le_trans H.hB h.size⟩
theorem Two.next (H : Two B g1 g2 b1 b2 a1 a2 A1 c1 A2 c2 w wr) (h : Below wr.heap.size wr wr') : Two B g1 g2 b1 b2 a1 a2 A1 c1 A2 c2 w wr' :=
  H.grown (gb_below h none) (fun j hj => by cases hj)

theorem Two.write (H : Two B g1 g2 b1 b2 a1 a2 A1 c1 A2 c2 w wr) {b : List UInt8} (h : wr.grownBy wr' (some g1)) (hh : HashIs wr' g1 b b.length) : Two B g1 g2 b b2 a1 a2 A1 c1 A2 c2 w wr' :=
  ⟨H.bel.grown h H.bel.size (fun j hj => by have := Option.some.inj hj; have := H.hg1; omega), hh,
    H.h2.grown h (fun j hj => by have := Option.some.inj hj; have := H.ne; omega),
    own_kept H.o1 h (fun j hj => by rw [← Option.some.inj hj]; exact own_ne H.o1 H.lt1), own_kept H.o2 h (fun j hj => by rw [← Option.some.inj hj]; exact own_ne H.o2 H.lt1),
    H.s1, H.s2, H.ap, H.hg1, H.hg2, H.lt1, H.lt2, H.ne, Nat.le_trans H.hB h.size⟩
theorem Cpy.write {v1 v2 v : Value} {n : Nat} {xs : List Value} {g : Nat} (C : Cpy B v1 v2 v n xs wr) (h : wr.grownBy wr' (some g)) (hg : g < B) : Cpy B v1 v2 v n xs wr' :=
  ⟨own_kept C.own h (fun j hj => by rw [← Option.some.inj hj]; exact own_ne C.own hg), C.ne1, C.ne2, C.u8⟩

theorem Two.app (H : Two B g1 g2 b1 b2 a1 a2 A1 c1 A2 c2 w wr) {A : Option Addr} {c : Nat} {a : List UInt8} (ho : wr'.ownsRow B 5 1 (.slice A a.length c) a.length (u8s a)) (hs : Sl A a.length c)
    (h : wr.grownBy wr' (Value.slice A1 a1.length c1).ownBlock) (hf : (Value.slice A a.length c).ownBlock = (Value.slice A1 a1.length c1).ownBlock ∨ (Value.slice A a.length c).ownBlock = some wr.heap.size) :
    Two B g1 g2 b1 b2 a a2 A c A2 c2 w wr' :=
  ⟨H.bel.grown h H.bel.size (fun j hj => by have := (H.o1.lt j hj).1; have := H.lt1; have := H.hg1; omega),
    H.h1.grown h (fun j hj => by have := (H.o1.lt j hj).1; have := H.lt1; omega), H.h2.grown h (fun j hj => by have := (H.o1.lt j hj).1; have := H.lt2; omega),
    ho, own_kept H.o2 h (fun j hj => H.ap j hj), hs, H.s2, fun j hj e => by
      rcases hf with hf | hf
      · exact H.ap j (hf.symm.trans hj) e
      · have := Option.some.inj (hf.symm.trans hj)
        have := (H.o2.lt j e).2
        omega, H.hg1, H.hg2, H.lt1, H.lt2, H.ne, Nat.le_trans H.hB h.size⟩
theorem Cpy.swap {v1 v2 v : Value} {n : Nat} {xs : List Value} (C : Cpy B v1 v2 v n xs wr) : Cpy B v2 v1 v n xs wr := ⟨C.own, C.ne2, C.ne1, C.u8⟩
theorem Cpy.app {v1 v2 v v' : Value} {n : Nat} {xs : List Value} (C : Cpy B v1 v2 v n xs wr) (h : wr.grownBy wr' v1.ownBlock) (hf : v'.ownBlock = v1.ownBlock ∨ v'.ownBlock = some wr.heap.size) : Cpy B v' v2 v n xs wr' :=
  ⟨own_kept C.own h (fun j hj e => C.ne1 j e hj), fun j hj e => by
      rcases hf with hf | hf
      · exact C.ne1 j hj (hf.symm.trans e)
      · have := Option.some.inj (hf.symm.trans e)
        have := (C.own.lt j hj).2
        omega, C.ne2, C.u8⟩

/-- A copy just made, above all. -/
theorem Two.copy (H : Two B g1 g2 b1 b2 a1 a2 A1 c1 A2 c2 w wr) {v : Value} {ys : List UInt8} (ho : wr'.ownsRow wr.heap.size 5 1 v ys.length (u8s ys)) : Cpy B (.slice A1 a1.length c1) (.slice A2 a2.length c2) v ys.length (u8s ys) wr' :=
  ⟨⟨ho.1, by
      rcases ho.2 with h | ⟨g, cap, cur, e, hb, rest⟩
      · exact .inl h
      · exact .inr ⟨g, cap, cur, e, Nat.le_trans H.hB hb, rest⟩⟩,
    fun j hj e => by have := (ho.lt j hj).1; have := (H.o1.lt j e).2; omega, fun j hj e => by have := (ho.lt j hj).1; have := (H.o2.lt j e).2; omega,
    fun x hx => by
      simp only [u8s, List.mem_map] at hx
      obtain ⟨u, _, rfl⟩ := hx
      exact ⟨_, rfl⟩⟩

theorem Cpy.set {v1 v2 : Value} {g n cap : Nat} {xs : List Value} (C : Cpy B v1 v2 (.slice (some ⟨g, 0, none⟩) n cap) n xs wr) (j : Nat) (z : Int) :
    Cpy B v1 v2 (.slice (some ⟨g, 0, none⟩) n cap) n (xs.set j (.int .u8 z)) (wr.setCell ⟨g, j, none⟩ (.int .u8 z)) :=
  ⟨(C.own.stored j _).1, C.ne1, C.ne2, fun x hx => by
    rcases List.mem_or_eq_of_mem_set hx with h | h
    · exact C.u8 x h
    · exact ⟨z, h⟩⟩
theorem Two.set (H : Two B g1 g2 b1 b2 a1 a2 A1 c1 A2 c2 w wr) {g n cap : Nat} {xs : List Value} (C : Cpy B (.slice A1 a1.length c1) (.slice A2 a2.length c2) (.slice (some ⟨g, 0, none⟩) n cap) n xs wr) (j : Nat) (u : Value) :
    Two B g1 g2 b1 b2 a1 a2 A1 c1 A2 c2 w (wr.setCell ⟨g, j, none⟩ u) :=
  H.grown (gb_set wr g j u) (fun i hi => by
    obtain rfl := Option.some.inj hi
    exact ⟨(C.own.lt _ rfl).1, C.ne1 _ rfl, C.ne2 _ rfl⟩)
/-- What the copy holds at a place. -/
theorem Cpy.at {v1 v2 : Value} {A : Option Addr} {n cap : Nat} {xs : List Value} (C : Cpy B v1 v2 (.slice A n cap) n xs wr) {j : Nat} (hj : j < n) :
    ∃ g z, A = some ⟨g, 0, none⟩ ∧ wr.cell? ⟨g, j, none⟩ = some (.int .u8 z) ∧ wr.frozen? ⟨g, j, none⟩ = false := by
  have hl : j < xs.length := by have := C.own.1; omega
  rcases C.own.2 with ⟨_, h⟩ | ⟨g, cp, cur, e, _⟩
  · omega
  · obtain ⟨rfl, rfl⟩ : A = some ⟨g, 0, none⟩ ∧ cap = cp := by injection e with e1 _ e3; exact ⟨e1, e3⟩
    obtain ⟨z, hz⟩ := C.u8 xs[j] (List.getElem_mem hl)
    exact ⟨g, z, rfl, by rw [C.own.cellAt j (by omega), List.getElem?_eq_getElem hl, hz], C.own.frozenAt j⟩
/-- A slice of slices of bytes: where each lies, its room, what it holds. -/
def Lists (w : World) (A : Option Addr) (n : Nat) (xs : List (Option Addr × Nat × List UInt8)) : Prop :=
  xs.length = n ∧ (0 < n → ∃ b o, A = some ⟨b, o, none⟩ ∧ b < w.heap.size ∧ ∀ j x, xs[j]? = some x → w.cell? ⟨b, o + j, none⟩ = some (.slice x.1 x.2.2.length x.2.1) ∧ Rd (fun _ => True) w x.1 x.2.2.length x.2.2 ∧ Sl x.1 x.2.2.length x.2.1)
end Go.Proofs.YtflbhicjaaeegaaDoor
