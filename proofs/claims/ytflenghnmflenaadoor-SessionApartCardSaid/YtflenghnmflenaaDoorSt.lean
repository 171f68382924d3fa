/-
  What is proved: two tables with their ledgers side by side. Conditions as stated.
-/
import Derived.Test.YtflenghnmflenaaDoorSm
import Derived.Test.YtflenghnmflenaaDoorSr
import Derived.Test.YtflenghnmflenaaDoorMn
namespace Go.Proofs.YtflenghnmflenaaDoor
open Go.RowKit
set_option maxRecDepth 100000

structure Sp2 (w : World) (t g t2 g2 : Nat) (bs : List Kept) (W : World) (T : List Lst) (r : Option Nat) (c : Nat) (xs : List It) (T2 : List Lst) (r2 : Option Nat) (c2 : Nat) (ys : List It) : Prop where
  s1 : Sn w t g bs W T r c xs
  s2 : Sn w t2 g2 bs W T2 r2 c2 ys
  dis : ∀ k, OnT g r t k → ¬ OnT g2 r2 t2 k
theorem Sp2.swap {w : World} {t g t2 g2 : Nat} {bs : List Kept} {W : World} {T : List Lst} {r : Option Nat} {c : Nat} {xs : List It} {T2 : List Lst} {r2 : Option Nat} {c2 : Nat} {ys : List It} (H : Sp2 w t g t2 g2 bs W T r c xs T2 r2 c2 ys) : Sp2 w t2 g2 t g bs W T2 r2 c2 ys T r c xs :=
  ⟨H.s2, H.s1, fun k h1 h2 => H.dis k h2 h1⟩
theorem Sp2.below {w : World} {t g t2 g2 : Nat} {bs : List Kept} {W W' : World} {T : List Lst} {r : Option Nat} {c : Nat} {xs : List It} {T2 : List Lst} {r2 : Option Nat} {c2 : Nat} {ys : List It} (H : Sp2 w t g t2 g2 bs W T r c xs T2 r2 c2 ys) (hb : Below W.heap.size W W') : Sp2 w t g t2 g2 bs W' T r c xs T2 r2 c2 ys :=
  ⟨H.s1.below hb, H.s2.below hb, H.dis⟩
theorem Sp2.drewN {w : World} {t g t2 g2 : Nat} {bs : List Kept} {W : World} {T : List Lst} {r : Option Nat} {c : Nat} {xs : List It} {T2 : List Lst} {r2 : Option Nat} {c2 : Nat} {ys : List It} (H : Sp2 w t g t2 g2 bs W T r c xs T2 r2 c2 ys) (k : Nat) : Sp2 w t g t2 g2 bs (W.drewN k) T r c xs T2 r2 c2 ys := H.below (below_drewN (Below.refl _ _) k)
theorem Sn.ont_lt {w : World} {t g : Nat} {bs : List Kept} {W : World} {T : List Lst} {r : Option Nat} {c : Nat} {xs : List It} (H : Sn w t g bs W T r c xs) {k : Nat} (h : OnT g r t k) : k < W.heap.size := by
  rcases h with h | rfl
  · exact H.sys.led.on_lt k h
  · exact H.tbl.lt
theorem Sn.ont_ge {w : World} {t g : Nat} {bs : List Kept} {W : World} {T : List Lst} {r : Option Nat} {c : Nat} {xs : List It} (H : Sn w t g bs W T r c xs) {k : Nat} (h : OnT g r t k) : w.heap.size ≤ k := by
  rcases h with h | rfl
  · exact H.own k h
  · exact H.town
theorem Sp2.do1 {w : World} {t g t2 g2 : Nat} {bs : List Kept} {W : World} {T : List Lst} {r : Option Nat} {c : Nat} {xs : List It} {T2 : List Lst} {r2 : Option Nat} {c2 : Nat} {ys : List It} (H : Sp2 w t g t2 g2 bs W T r c xs T2 r2 c2 ys) (q : MRq) :
    Calls Tryd.prog 14 #[.pointer (some ⟨t, 0, none⟩), .pointer (some ⟨g, 0, none⟩), .agg (rqC q).toArray] W fun E W' => E = .returned (.tuple #[.agg (lrC (tR T xs q).1.1).toArray, .bool (tR T xs q).1.2]) ∧ ∃ r' c', Sp2 w t g t2 g2 bs W' (tR T xs q).2.1 r' c' (tR T xs q).2.2 T2 r2 c2 ys :=
  (sdo_any H.s1.tbl H.s1.sys H.s1.ne (Nat.le_trans H.s1.low H.s1.town) q).mono fun E W' h => by
    have hn := H.s1.next h
    obtain ⟨he, r', c', ht, hs, hne, ho⟩ := h
    have hlow := H.s1.low
    have hb1 : Below w.heap.size W W' := ho.1.below H.s1.bel.size fun k hk => H.s1.ont_ge hk
    have s1 : Sn w t g bs W' (tR T xs q).2.1 r' c' (tR T xs q).2.2 := by
      refine ⟨ht, hs, hne, H.s1.town, fun k hk => ?_, H.s1.bel.trans hb1, hlow, fun p hp => ?_⟩
      · rcases ho.2 k (.inl hk) with e | e
        · exact H.s1.ont_ge e
        · exact Nat.le_trans H.s1.bel.size e
      · obtain ⟨h1, h2, h3⟩ := H.s1.keep p hp
        have hlt := (Array.getElem?_eq_some_iff.1 h1).1
        refine ⟨(ho.1.block _ hlt (by rintro (e | e); exact h2 e; exact h3 e)).trans h1, fun e => ?_, h3⟩
        rcases ho.2 p.1 (.inl e) with (e' | e') | e'
        · exact h2 e'
        · exact h3 e'
        · omega
    have hk2 : ∀ k, OnT g2 r2 t2 k → W'.heap[k]? = W.heap[k]? := fun k hk => ho.1.block k (H.s2.ont_lt hk) fun h1 => H.dis k h1 hk
    have s2 : Sn w t2 g2 bs W' T2 r2 c2 ys := ⟨H.s2.tbl.kept (hk2 _ (.inr rfl)), H.s2.sys.off (fun k h4 => ho.1.block k (by have := H.s1.bel.size; omega) fun h1 => by have := H.s1.ont_ge h1; omega) (fun k hk => hk2 k (.inl hk)), H.s2.ne, H.s2.town, H.s2.own, H.s1.bel.trans hb1, hlow, fun p hp => by
      obtain ⟨h1, h2, h3⟩ := H.s1.keep p hp
      exact ⟨(ho.1.block _ (Array.getElem?_eq_some_iff.1 h1).1 (by rintro (e | e); exact h2 e; exact h3 e)).trans h1, (H.s2.keep p hp).2⟩⟩
    refine ⟨he, r', c', s1, s2, fun k hk h2 => ?_⟩
    rcases ho.2 k hk with e | e
    · exact H.dis k e h2
    · have := H.s2.ont_lt h2
      omega
theorem Sp2.do2 {w : World} {t g t2 g2 : Nat} {bs : List Kept} {W : World} {T : List Lst} {r : Option Nat} {c : Nat} {xs : List It} {T2 : List Lst} {r2 : Option Nat} {c2 : Nat} {ys : List It} (H : Sp2 w t g t2 g2 bs W T r c xs T2 r2 c2 ys) (q : MRq) :
    Calls Tryd.prog 14 #[.pointer (some ⟨t2, 0, none⟩), .pointer (some ⟨g2, 0, none⟩), .agg (rqC q).toArray] W fun E W' => E = .returned (.tuple #[.agg (lrC (tR T2 ys q).1.1).toArray, .bool (tR T2 ys q).1.2]) ∧ ∃ r' c', Sp2 w t g t2 g2 bs W' T r c xs (tR T2 ys q).2.1 r' c' (tR T2 ys q).2.2 :=
  (H.swap.do1 q).mono fun _ _ ⟨he, r', c', h⟩ => ⟨he, r', c', h.swap⟩
theorem Sp2.box {w : World} {t g t2 g2 : Nat} {bs : List Kept} {W : World} {T : List Lst} {r : Option Nat} {c : Nat} {xs : List It} {T2 : List Lst} {r2 : Option Nat} {c2 : Nat} {ys : List It} (H : Sp2 w t g t2 g2 bs W T r c xs T2 r2 c2 ys) (C : Array Value) (ty : TypeId) : Sp2 w t g t2 g2 ((W.heap.size, C, ty) :: bs) (W.alloc (.cells C ty)) T r c xs T2 r2 c2 ys :=
  ⟨H.s1.box C ty, H.s2.box C ty, H.dis⟩
theorem Sp2.pop {w : World} {t g t2 g2 : Nat} {b : Kept} {bs : List Kept} {W : World} {T : List Lst} {r : Option Nat} {c : Nat} {xs : List It} {T2 : List Lst} {r2 : Option Nat} {c2 : Nat} {ys : List It} (H : Sp2 w t g t2 g2 (b :: bs) W T r c xs T2 r2 c2 ys) : Sp2 w t g t2 g2 bs W T r c xs T2 r2 c2 ys :=
  ⟨H.s1.pop, H.s2.pop, H.dis⟩
/-- Two that are made one behind the other. -/
theorem sp2_of {w W W1 W2 : World} {t g t2 g2 : Nat} {T : List Lst} {r : Option Nat} {c : Nat} {xs : List It} {T2 : List Lst} {r2 : Option Nat} {c2 : Nat} {ys : List It} (H : Sn w t g [] W T r c xs) (hb : Below W.heap.size W W1) (ht : Tbl W1 t2 T2) (ht0 : W.heap.size ≤ t2) (hs : Sys W2 g2 r2 c2 ys) (hg : ∀ k, On g2 r2 k → W1.heap.size ≤ k) (hb2 : Below W1.heap.size W1 W2) : Sp2 w t g t2 g2 [] W2 T r c xs T2 r2 c2 ys := by
  have hz := H.bel.size
  have hz2 := hb.size
  have s1 := (H.below hb).below hb2
  have s2 : Sn w t2 g2 [] W2 T2 r2 c2 ys := ⟨ht.below hb2, hs, fun h => by have := hg _ h; have := ht.lt; omega, by omega, fun k hk => by have := hg k hk; omega, s1.bel, H.low, fun p hp => (by cases hp)⟩
  refine ⟨s1, s2, fun k h1 h2 => ?_⟩
  have hk := H.ont_lt h1
  rcases h2 with h2 | rfl
  · have := hg k h2
    omega
  · omega
end Go.Proofs.YtflenghnmflenaaDoor
