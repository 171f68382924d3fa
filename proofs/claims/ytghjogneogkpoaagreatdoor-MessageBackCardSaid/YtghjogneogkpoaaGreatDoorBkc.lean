/-
  What is proved: blocks and their cells. Conditions as stated.
-/
import Derived.Test.YtghjogneogkpoaaGreatDoorV6c
namespace Go.Proofs.YtghjogneogkpoaaGreatDoor.Sh
open Go.RowKit
set_option maxRecDepth 100000

/-- Block g holds these cells. -/
def Bk (W : World) (g : Nat) (C : List Value) (t : TypeId) : Prop := W.heap[g]? = some (.cells C.toArray t (0, 0))
theorem Bk.lt {W : World} {g : Nat} {C : List Value} {t : TypeId} (h : Bk W g C t) : g < W.heap.size := (Array.getElem?_eq_some_iff.1 h).1
theorem Bk.below {W W' : World} {g B : Nat} {C : List Value} {t : TypeId} (h : Bk W g C t) (hb : Below B W W') (hB : g < B) : Bk W' g C t := (hb.block g hB).trans h
theorem Bk.next {W W' : World} {g : Nat} {C : List Value} {t : TypeId} (h : Bk W g C t) (hb : Below W.heap.size W W') : Bk W' g C t := h.below hb h.lt
theorem Bk.other {W W' : World} {g k : Nat} {C : List Value} {t : TypeId} (h : Bk W g C t) (hg : W.grownBy W' (some k)) (hk : g ≠ k) : Bk W' g C t := (hg.block g h.lt (fun e => hk (by injection e))).trans h
theorem Bk.drewN {W : World} {g : Nat} {C : List Value} {t : TypeId} (h : Bk W g C t) (n : Nat) : Bk (W.drewN n) g C t := h
theorem Bk.src {W : World} {g : Nat} {C : List Value} {t : TypeId} (h : Bk W g C t) : W.rangeAt g 0 C := range_of h
/-- What was made and filled is new. -/
theorem below_made {W W' : World} {o : Obj} (G : (W.alloc o).grownBy W' (some W.heap.size)) : Below W.heap.size W W' :=
  ((Below.refl _ _).alloc (Nat.le_refl _) _).grown G (by simp) (fun k hk => by injection hk with hk; omega)
theorem RqAt.far {B : Nat} {w wr w' : World} {C : List Value} {k : Nat} (H : RqAt B w C wr) (hB : B ≤ w.heap.size) (hk : w.heap.size < k) (hg : wr.grownBy w' (some k)) : RqAt B w C w' :=
  ⟨H.bel.grown hg (Nat.le_trans hB H.bel.size) (fun j hj => by injection hj with hj; omega), Nat.lt_of_lt_of_le H.lt hg.size, fun j v hv => hg.cell (H.src j v hv) (fun e => by injection e with e; simp at e; omega)⟩
end Go.Proofs.YtghjogneogkpoaaGreatDoor.Sh
