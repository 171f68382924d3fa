/-
  What is proved: two ledgers side by side. Conditions as stated.
-/
import Derived.Test.YtflenghnmflenaaDoorMe
import Derived.Test.YtflenghnmflenaaDoorMm
namespace Go.Proofs.YtflenghnmflenaaDoor
open Go.RowKit
set_option maxRecDepth 100000

structure Duo (w : World) (g : Nat) (r : Option Nat) (c : Nat) (xs : List It) (g2 : Nat) (r2 : Option Nat) (c2 : Nat) (ys : List It) (W : World) : Prop where
  s1 : Sys W g r c xs
  s2 : Sys W g2 r2 c2 ys
  bel : Below w.heap.size w W
  own1 : ∀ k, On g r k → w.heap.size ≤ k
  own2 : ∀ k, On g2 r2 k → w.heap.size ≤ k
  apart : ∀ k, On g r k → ¬ On g2 r2 k
theorem Duo.swap {w : World} {g : Nat} {r : Option Nat} {c : Nat} {xs : List It} {g2 : Nat} {r2 : Option Nat} {c2 : Nat} {ys : List It} {W : World} (H : Duo w g r c xs g2 r2 c2 ys W) : Duo w g2 r2 c2 ys g r c xs W :=
  ⟨H.s2, H.s1, H.bel, H.own2, H.own1, fun k h1 h2 => H.apart k h2 h1⟩
theorem Duo.below {w : World} {g : Nat} {r : Option Nat} {c : Nat} {xs : List It} {g2 : Nat} {r2 : Option Nat} {c2 : Nat} {ys : List It} {W W' : World} (H : Duo w g r c xs g2 r2 c2 ys W) (hb : Below W.heap.size W W') : Duo w g r c xs g2 r2 c2 ys W' :=
  ⟨H.s1.below hb, H.s2.below hb, H.bel.trans (hb.mono H.bel.size), H.own1, H.own2, H.apart⟩
theorem Duo.do1 {w : World} {g : Nat} {r : Option Nat} {c : Nat} {xs : List It} {g2 : Nat} {r2 : Option Nat} {c2 : Nat} {ys : List It} {W : World} (H : Duo w g r c xs g2 r2 c2 ys W) (o : MOp) :
    Calls Tryd.prog 26 #[.pointer (some ⟨g, 0, none⟩), .agg (opC o).toArray] W fun E w' => E = .returned (.agg (repC (doR xs o).1).toArray) ∧ ∃ r' c', Duo w g r' c' (doR xs o).2 g2 r2 c2 ys w' :=
  (do_any H.s1 o).mono fun _ W' ⟨he, r', c', hs, ho⟩ => ⟨he, r', c', hs, ⟨H.s2.led.kept fun k hk => ho.1.block k (H.s2.led.on_lt k hk) fun h => H.apart k h hk, hs.vars, H.s2.low, H.s2.rise, H.s2.len, H.s2.small⟩,
    H.bel.trans (ho.1.below H.bel.size H.own1), fun k hk => by
      rcases ho.2 k hk with e | e
      · exact H.own1 k e
      · exact Nat.le_trans H.bel.size e, H.own2, fun k hk h2 => by
      rcases ho.2 k hk with e | e
      · exact H.apart k e h2
      · have := H.s2.led.on_lt k h2
        omega⟩
theorem Duo.do2 {w : World} {g : Nat} {r : Option Nat} {c : Nat} {xs : List It} {g2 : Nat} {r2 : Option Nat} {c2 : Nat} {ys : List It} {W : World} (H : Duo w g r c xs g2 r2 c2 ys W) (o : MOp) :
    Calls Tryd.prog 26 #[.pointer (some ⟨g2, 0, none⟩), .agg (opC o).toArray] W fun E w' => E = .returned (.agg (repC (doR ys o).1).toArray) ∧ ∃ r' c', Duo w g r c xs g2 r' c' (doR ys o).2 w' :=
  (H.swap.do1 o).mono fun _ _ ⟨he, r', c', h⟩ => ⟨he, r', c', h.swap⟩
theorem Ke.drop {w : World} {g : Nat} {bs : List (Nat × Obj)} {rows : List Row3} {W : World} {r : Option Nat} {c : Nat} {xs : List It} (H : Ke w g bs rows W r c xs) : Ke w g [] [] W r c xs :=
  ⟨H.sys, H.bel, H.own, (by intro p hp; cases hp), (by intro p hp; cases hp)⟩
theorem ke_start {w W W' : World} {g : Nat} (hb : Below w.heap.size w W) (hs : Sys W' g none 0 []) (hg : W.heap.size ≤ g) (hb' : Below W.heap.size W W') : Ke w g [] [] W' none 0 [] := by
  refine ⟨hs, hb.trans (hb'.mono hb.size), ?_, (by intro p hp; cases hp), (by intro p hp; cases hp)⟩
  rintro k (rfl | hk)
  · exact Nat.le_trans hb.size hg
  · cases hk
theorem Ke.duo {w : World} {g : Nat} {bs : List (Nat × Obj)} {rows : List Row3} {W W' : World} {r : Option Nat} {c : Nat} {xs : List It} (H : Ke w g bs rows W r c xs) {g2 : Nat} {r2 : Option Nat} {c2 : Nat} {ys : List It} (hb : Below W.heap.size W W') (hs : Sys W' g2 r2 c2 ys) (ho : ∀ k, On g2 r2 k → W.heap.size ≤ k) : Duo w g r c xs g2 r2 c2 ys W' :=
  ⟨H.sys.below hb, hs, H.bel.trans (hb.mono H.bel.size), H.own, fun k hk => Nat.le_trans H.bel.size (ho k hk), fun k h1 h2 => by
    have h3 := H.sys.led.on_lt k h1
    have h4 := ho k h2
    omega⟩
end Go.Proofs.YtflenghnmflenaaDoor
