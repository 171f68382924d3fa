/-
  What is proved: lists that stay while requests are done; New of both; requests gone through. Conditions as stated.
-/
import Derived.Test.YtflenghnmflenaaDoorSi
namespace Go.Proofs.YtflenghnmflenaaDoor
open Go.RowKit
set_option maxRecDepth 100000

/-- The blocks of a list, that it may be kept. -/
theorem rw_kept {w : World} {r : Option Nat} {c : Nat} {xs : List It} (h : Rw w r c xs) : ∃ ks : List Kept, (∀ p ∈ ks, w.heap[p.1]? = some (.cells p.2.1 p.2.2 (0, 0)) ∧ r = some p.1) ∧ ∀ W : World, (∀ p ∈ ks, W.heap[p.1]? = some (.cells p.2.1 p.2.2 (0, 0))) → Its W (slA r) xs := by
  cases r with
  | none =>
    exact ⟨[], fun p hp => (by cases hp), fun W _ => by rw [h.2]; exact Its.nil W _⟩
  | some b =>
    obtain ⟨R, hB, _⟩ := h.blk
    refine ⟨[(b, (itC xs ++ R).toArray, 64)], fun p hp => ?_, fun W hW => ?_⟩
    · obtain rfl := List.mem_singleton.1 hp
      exact ⟨hB, rfl⟩
    · have hb := hW _ (List.mem_singleton.2 rfl)
      exact (h.kept (w' := W) fun b' e => by injection e with e; subst e; exact hb.trans (show w.heap[b]? = _ from hB).symm).its
theorem Sn.add {w : World} {t g : Nat} {bs : List Kept} {W W' : World} {T : List Lst} {r : Option Nat} {c : Nat} {xs : List It} (H : Sn w t g bs W T r c xs) (hb : Below W.heap.size W W') {ks : List Kept} (hk : ∀ p ∈ ks, W'.heap[p.1]? = some (.cells p.2.1 p.2.2 (0, 0)) ∧ W.heap.size ≤ p.1) : Sn w t g (ks ++ bs) W' T r c xs := by
  have H' := H.below hb
  refine ⟨H'.tbl, H'.sys, H'.ne, H'.town, H'.own, H'.bel, H'.low, fun p hp => ?_⟩
  rcases List.mem_append.1 hp with hp | hp
  · obtain ⟨h1, h2⟩ := hk p hp
    refine ⟨h1, fun e => ?_, fun e => ?_⟩
    · have := H.sys.led.on_lt _ e
      omega
    · have := H.tbl.lt
      omega
  · exact H'.keep p hp
/-- Requests that came in, wherever what was there stays. -/
theorem rqs_at {w : World} {A : Option Addr} {qs : List MRq} (h : Rqs w A qs) (j : Nat) (q : MRq) (hq : qs[j]? = some q) : ∃ b off, A = some ⟨b, off, none⟩ ∧ ∀ W, Below w.heap.size w W → W.rangeAt b (off + j * 40) (rqC q) := by
  obtain ⟨b, off, h1, hl, hc⟩ := h.at' (by have := (List.getElem?_eq_some_iff.1 hq).1; omega)
  exact ⟨b, off, h1, fun W hb k v hv => (hb.cell (p := ⟨b, off + j * 40 + k, none⟩) hl).trans (hc j q hq k v hv)⟩
theorem rq_info {w : World} {A : Option Addr} {qs : List MRq} (h : Rqs w A qs) {q : MRq} (hq : q ∈ qs) : (Tryd.prog.info? 52).map (·.size) = some (rqC q).length := by
  rw [rqC_length, h.tag q hq]
  exact Tryd.is52
theorem tR_rep (T : List Lst) (xs : List It) (q : MRq) : ∃ e v z, (tR T xs q).1 = ((e, v), z) := ⟨_, _, _, rfl⟩
end Go.Proofs.YtflenghnmflenaaDoor
