/-
  What is proved: a ledger and the document's own, side by side. Conditions as stated.
-/
import Derived.Test.YtejckimplihmiaaDoorRi
import Derived.Test.YtejckimplihmiaaDoorRj
namespace Go.Proofs.YtejckimplihmiaaDoor
open Go.RowKit
set_option maxRecDepth 100000

structure Par (w : World) (g : Nat) (r : Option Nat) (c : Nat) (xs : List It) (g2 : Nat) (r2 : Option Nat) (c2 : Nat) (ys : List It) (W : World) : Prop where
  s1 : Sys W g r c xs
  s2 : RL W g2 r2 c2 ys
  bel : Below w.heap.size w W
  own1 : ∀ k, On g r k → w.heap.size ≤ k
  own2 : ∀ k, On g2 r2 k → w.heap.size ≤ k
  apart : ∀ k, On g r k → ¬ On g2 r2 k
  low : 4 ≤ w.heap.size
theorem Par.below {w : World} {g : Nat} {r : Option Nat} {c : Nat} {xs : List It} {g2 : Nat} {r2 : Option Nat} {c2 : Nat} {ys : List It} {W W' : World} (H : Par w g r c xs g2 r2 c2 ys W) (hb : Below W.heap.size W W') : Par w g r c xs g2 r2 c2 ys W' :=
  ⟨H.s1.below hb, H.s2.below hb, H.bel.trans (hb.mono H.bel.size), H.own1, H.own2, H.apart, H.low⟩
theorem Par.do1 {w : World} {g : Nat} {r : Option Nat} {c : Nat} {xs : List It} {g2 : Nat} {r2 : Option Nat} {c2 : Nat} {ys : List It} {W : World} (H : Par w g r c xs g2 r2 c2 ys W) (o : MOp) :
    Calls Tryd.prog 15 #[.pointer (some ⟨g, 0, none⟩), .agg (opC o).toArray] W fun E w' => E = .returned (.agg (repC (doR xs o).1).toArray) ∧ ∃ r' c', Par w g r' c' (doR xs o).2 g2 r2 c2 ys w' :=
  (do_any H.s1 o).mono fun _ W' ⟨he, r', c', hs, ho⟩ => ⟨he, r', c', hs, H.s2.kept fun k hk => ho.1.block k (H.s2.on_lt k hk) fun h => H.apart k h hk,
    H.bel.trans (ho.1.below H.bel.size H.own1), fun k hk => by
      rcases ho.2 k hk with e | e
      · exact H.own1 k e
      · exact Nat.le_trans H.bel.size e, H.own2, fun k hk h2 => by
      rcases ho.2 k hk with e | e
      · exact H.apart k e h2
      · have := H.s2.on_lt k h2
        omega, H.low⟩
theorem Par.do2 {w : World} {g : Nat} {r : Option Nat} {c : Nat} {xs : List It} {g2 : Nat} {r2 : Option Nat} {c2 : Nat} {ys : List It} {W : World} (H : Par w g r c xs g2 r2 c2 ys W) (hs : Rise ys) (hn : ys.length ≤ 900) (hsm : ∀ p ∈ ys, p.2.size ≤ 128) (o : MOp) :
    Calls Tryd.prog 16 #[.pointer (some ⟨g2, 0, none⟩), .agg (opC o).toArray] W fun E w' => E = .returned (.agg (repC (doR ys o).1).toArray) ∧ ∃ r' c', Par w g r c xs g2 r' c' (doR ys o).2 w' :=
  (rdo_any H.s2 hs hn hsm o).mono fun _ W' ⟨he, r', c', hs, ho⟩ => by
    have hk1 : ∀ k, On g r k → W'.heap[k]? = W.heap[k]? := fun k hk => ho.1.block k (H.s1.led.on_lt k hk) fun h => H.apart k hk h
    have hlow := H.s1.vars.low
    have hk2 : ∀ k, k < 4 → W'.heap[k]? = W.heap[k]? := fun k hk => ho.1.block k (by omega) fun h => by
      have := H.own2 k h
      have := H.low
      omega
    refine ⟨he, r', c', ⟨H.s1.led.kept hk1, H.s1.vars.kept hk2, H.s1.low, H.s1.rise, H.s1.len, H.s1.small⟩, hs, H.bel.trans (ho.1.below H.bel.size H.own2), H.own1, fun k hk => ?_, fun k hk h2 => ?_, H.low⟩
    · rcases ho.2 k hk with e | e
      · exact H.own2 k e
      · exact Nat.le_trans H.bel.size e
    · rcases ho.2 k h2 with e | e
      · exact H.apart k hk e
      · have := H.s1.led.on_lt k hk
        omega
theorem Par.store {w : World} {g : Nat} {r : Option Nat} {c : Nat} {xs : List It} {g2 : Nat} {r2 : Option Nat} {c2 : Nat} {ys : List It} {W : World} (H : Par w g r c xs g2 r2 c2 ys W) {b : Nat} (hb : w.heap.size ≤ b) (h1 : ¬ On g r b) (h2 : ¬ On g2 r2 b) (i : Nat) (v : Value) :
    Par w g r c xs g2 r2 c2 ys (W.setCell ⟨b, i, none⟩ v) := by
  have hk : ∀ k, k ≠ b → (W.setCell ⟨b, i, none⟩ v).heap[k]? = W.heap[k]? := fun k hn => Below.heap_setCell W ⟨b, i, none⟩ v k hn
  have hlow := H.low
  exact ⟨⟨H.s1.led.kept fun k h => hk k fun e => h1 (e ▸ h), H.s1.vars.kept fun k h => hk k (by omega), H.s1.low, H.s1.rise, H.s1.len, H.s1.small⟩, H.s2.kept fun k h => hk k fun e => h2 (e ▸ h), H.bel.setCell (p := ⟨b, i, none⟩) hb v, H.own1, H.own2, H.apart, H.low⟩
theorem par_of {w W W' : World} {g : Nat} {r : Option Nat} {c : Nat} {xs : List It} {g2 : Nat} {r2 : Option Nat} {c2 : Nat} {ys : List It} (hv : Vars w) (hb : Below w.heap.size w W) (hs : Sys W g r c xs) (ho : ∀ k, On g r k → w.heap.size ≤ k)
    (hb2 : Below W.heap.size W W') (hr : RL W' g2 r2 c2 ys) (ho2 : ∀ k, On g2 r2 k → W.heap.size ≤ k) : Par w g r c xs g2 r2 c2 ys W' :=
  ⟨hs.below hb2, hr, hb.trans (hb2.mono hb.size), ho, fun k hk => Nat.le_trans hb.size (ho2 k hk), fun k h1 h2 => by
    have h3 := hs.led.on_lt k h1
    have h4 := ho2 k h2
    omega, hv.low⟩
theorem par_new {w W W' : World} {g : Nat} (hv : Vars w) (hb : Below w.heap.size w W) (hs : Sys W' g none 0 []) (hg : W.heap.size ≤ g) (hb' : Below W.heap.size W W') :
    Par w g none 0 [] W'.heap.size none 0 [] (W'.alloc (.cells #[.slice none 0 0] 37)) := by
  have hb2 : Below W'.heap.size W' (W'.alloc (.cells #[.slice none 0 0] 37)) := (Below.refl _ _).alloc (Nat.le_refl _) _
  refine par_of hv (hb.trans (hb'.mono hb.size)) hs (fun k hk => ?_) hb2 ⟨heap_alloc_new W' _, ⟨rfl, rfl⟩⟩ fun k hk => ?_
  · rcases hk with rfl | hk
    · exact Nat.le_trans hb.size hg
    · cases hk
  · rcases hk with rfl | hk
    · exact Nat.le_refl _
    · cases hk
end Go.Proofs.YtejckimplihmiaaDoor
