/-
  What is proved: a key has a value. Conditions as stated.
-/
import Derived.Test.YtflenghnmflenaaDoorLi
import Derived.Test.YtflenghnmflenaaDoorLl
import Derived.Test.YtflenghnmflenaaDoorLd
namespace Go.Proofs.YtflenghnmflenaaDoor
open Go.RowKit
set_option maxRecDepth 100000

theorem Blk.store {w : World} {b : Nat} {C : List Value} (h : Blk w b C) (j : Nat) (v : Value) : Blk (w.setCell ⟨b, j, none⟩ v) b (C.set j v) := by
  show (w.setCell ⟨b, j, none⟩ v).heap[b]? = _
  simp [World.setCell, Array.getElem?_modify, show w.heap[b]? = _ from h]
theorem itC_set : ∀ (xs : List It) (i : Nat) (k v v0 : ByteArray), xs[i]? = some (k, v0) → (itC xs).set (i * 2 + 1) (.string v) = itC (xs.set i (k, v))
  | [], i, k, v, v0, h => by simp at h
  | p :: r, 0, k, v, v0, h => by
    obtain rfl : p = (k, v0) := by simpa using h
    rw [itC_cons]
    simp [itC]
  | p :: r, i + 1, k, v, v0, h => by
    rw [show (i + 1) * 2 + 1 = i * 2 + 1 + 1 + 1 by omega, itC_cons, List.set_cons_succ, List.set_cons_succ, itC_set r i k v v0 (by simpa using h), List.set_cons_succ, itC_cons]
theorem Rw.store {w : World} {b c : Nat} {xs : List It} (h : Rw w (some b) c xs) {i : Nat} {k v0 : ByteArray} (hi : xs[i]? = some (k, v0)) (v : ByteArray) : Rw (w.setCell ⟨b, i * 2 + 1, none⟩ (.string v)) (some b) c (xs.set i (k, v)) := by
  obtain ⟨R, hB, hl⟩ := h.blk
  have hil : i < xs.length := (List.getElem?_eq_some_iff.1 hi).1
  have hs := hB.store (i * 2 + 1) (.string v)
  rw [List.set_append_left _ _ (by rw [itC_length]; omega), itC_set xs i k v v0 hi] at hs
  exact ⟨by simpa using h.1, h.2.1, R, hs, by simpa using hl⟩
theorem set_has {xs : List It} {k v : ByteArray} (h : hasK xs k = true) : xs.set (posOf xs k) (k, v) = setK xs k v := by
  have hl := pos_lt_of_has h
  rw [setK, h, if_pos rfl, List.set_eq_take_append_cons_drop, if_pos hl]
theorem set_not {xs : List It} {k v : ByteArray} (h : hasK xs k = false) : (xs.take (posOf xs k) ++ (k, ByteArray.empty) :: xs.drop (posOf xs k)).set (posOf xs k) (k, v) = setK xs k v := by
  have hl := posOf_le xs k
  rw [setK, h, List.set_append_right _ _ (by simp [Nat.min_eq_left hl])]
  simp [Nat.min_eq_left hl]
def SetP (w : World) (g : Nat) (r : Option Nat) (ys : List It) (w' : World) : Prop := ∃ r' c', Led w' g r' c' ys ∧ Own w (On g r) w' (On g r')
theorem top_store {w : World} {g : Nat} {v0 : Value} (h : w.heap[g]? = some (.cells #[v0] 75 (0, 0))) (v : Value) : (w.setCell ⟨g, 0, none⟩ v).heap[g]? = some (.cells #[v] 75 (0, 0)) := by
  simp [World.setCell, Array.getElem?_modify, h]
set_option maxHeartbeats 4000000 in
theorem set_any {w : World} {g : Nat} {r : Option Nat} {c : Nat} {xs : List It} (h : Led w g r c xs) (hs : Rise xs) (hn : xs.length ≤ 1000) (k v : ByteArray) :
    Calls Tryd.prog 54 #[.pointer (some ⟨g, 0, none⟩), .string k, .string v] w fun E w' => E = .returned (.tuple #[]) ∧ SetP w g r (setK xs k v) w' := by
  have HC := Lib.hid (find_any h hs (by omega) k)
  have HL := Lib.hid h
  have hgr := h.apart
  cases hz : hasK xs k with
  | true =>
    have hm := mem_of_has hz
    have hpl := pos_lt_of_has hz
    cases r with
    | none => have := h.row.2; rw [this] at hpl; simp at hpl
    | some b =>
      rw [hz] at HC
      have HF : Hid (∀ W, Below w.heap.size w W → SetP w g (some b) (setK xs k v) (W.setCell ⟨b, posOf xs k * 2 + 1, none⟩ (.string v))) := Lib.hid fun W hW => by
        have hL := h.below hW
        have hlen : (setK xs k v).length = xs.length := by rw [length_setK, if_pos hz]
        refine ⟨some b, c, ⟨?_, ?_⟩, Own.same (((Turns.of_below hW : Turns (On g (some b)) w W)).setCell (.inl (.inr rfl)) _ _)⟩
        · rw [hlen]
          exact (Below.heap_setCell W ⟨b, _, none⟩ _ g (fun e => hgr (by rw [e]))).trans hL.top
        · rw [← set_has hz]
          exact hL.row.store hm v
      obtain ⟨q, hq⟩ : ∃ q, q = posOf xs k := ⟨_, rfl⟩
      have HQ : Hid (∀ W, Below w.heap.size w W → W.cell? ⟨g, 0, none⟩ = some (.slice (some ⟨b, 0, none⟩) xs.length c) ∧ W.cell? ⟨b, q * 2 + 1, none⟩ = some (.string (valK xs k)) ∧ W.frozen? ⟨b, q * 2 + 1, none⟩ = false) := Lib.hid fun W hW => by
        have hL := h.below hW
        obtain ⟨b', o', hA, _, hc⟩ := hL.row.its (by omega)
        obtain ⟨R, hB, _⟩ := hL.row.blk
        injection hA with hA
        injection hA with h1 h2 h3
        subst h1 h2
        have := (hc _ _ hm).2
        rw [Nat.zero_add, ← hq] at this
        exact ⟨hL.cell, this, hB.free _⟩
      have hql : q < xs.length := by rw [hq]; exact hpl
      rw [← hq] at HC HF
      obtain ⟨n, hnn⟩ : ∃ n, n = xs.length := ⟨_, rfl⟩
      rw [← hnn] at HQ hql
      clear hq hm hz hpl hs hn h hnn HL
      go_enter Tryd.func54, Tryd.ntmps54
      go_wp2_with (go_at_call 55; refine HC.out.mono ?_)
      rintro E w1 ⟨rfl, b1⟩
      obtain ⟨c0, c1, f1⟩ := HQ.out w1 b1
      go_wp2_with fail
      go_end0
      exact ⟨rfl, HF.out w1 b1⟩
  | false =>
    have hpl := posOf_le xs k
    rw [hz] at HC
    obtain ⟨ys, hys⟩ : ∃ ys, ys = xs.take (posOf xs k) ++ (k, ByteArray.empty) :: xs.drop (posOf xs k) := ⟨_, rfl⟩
    have hyl : ys.length = xs.length + 1 := by rw [hys]; simp; omega
    have hyq : ys[posOf xs k]? = some (k, ByteArray.empty) := by rw [hys, List.getElem?_append_right (by simp [Nat.min_eq_left hpl])]; simp [Nat.min_eq_left hpl]
    have HI : Hid (∀ W, Below w.heap.size w W → Calls Tryd.prog 60 #[.slice (slA r) xs.length c, .int .i64 (posOf xs k : Int), .slice (some ⟨W.heap.size, 0, none⟩) 1 1] (W.alloc (.cells #[.string k, .string ⟨#[]⟩] 64)) fun E w' => InsP (W.alloc (.cells #[.string k, .string ⟨#[]⟩] 64)) r ys E w') := Lib.hid fun W hW => by
      have hL := h.below hW
      have hA := hL.below ((Below.refl W.heap.size W).alloc (Nat.le_refl _) (.cells #[.string k, .string ⟨#[]⟩] 64))
      rw [hys]
      exact insert_any hA.row hn (p := (k, ByteArray.empty)) (heap_alloc_new W _) (fun e => by have := hL.on_lt W.heap.size (.inr e); omega) hpl
    have HF : Hid (∀ W w2 r' c', Below w.heap.size w W → Rw w2 (some r') c' ys → Own (W.alloc (.cells #[.string k, .string ⟨#[]⟩] 64)) (fun j => r = some j) w2 (fun j => some r' = some j) →
        w2.cell? ⟨g, 0, none⟩ = some (.slice (slA r) xs.length c) ∧ w2.frozen? ⟨g, 0, none⟩ = false ∧ ¬ (g = r') ∧ w2.cell? ⟨r', posOf xs k * 2 + 1, none⟩ = some (.string ByteArray.empty) ∧ w2.frozen? ⟨r', posOf xs k * 2 + 1, none⟩ = false ∧
        SetP w g r (setK xs k v) ((w2.setCell ⟨g, 0, none⟩ (.slice (some ⟨r', 0, none⟩) ys.length c')).setCell ⟨r', posOf xs k * 2 + 1, none⟩ (.string v))) := Lib.hid fun W w2 r' c' hW hR hO => by
      have hL := h.below hW
      have hA := hL.below ((Below.refl W.heap.size W).alloc (Nat.le_refl _) (.cells #[.string k, .string ⟨#[]⟩] 64))
      have hgg : r' ≠ g := by
        rintro rfl
        rcases hO.2 r' rfl with e | e
        · exact hgr e
        · have := hA.lt; omega
      have htop : w2.heap[g]? = some (.cells #[.slice (slA r) xs.length c] 75 (0, 0)) := (hO.1.block g hA.lt hgr).trans hA.top
      obtain ⟨R, hB, _⟩ := hR.blk
      obtain ⟨b', o', hA', _, hc⟩ := hR.its (by omega)
      injection hA' with hA'
      injection hA' with e1 e2 e3
      subst e1 e2
      have hcell := (hc _ _ hyq).2
      rw [Nat.zero_add] at hcell
      refine ⟨by rw [cell_of_row w2 g 0 _ _ _ htop]; rfl, free_block htop 0, fun e => hgg e.symm, hcell, hB.free _, some r', c', ⟨?_, ?_⟩, ?_, ?_⟩
      · have hlen : (setK xs k v).length = ys.length := by rw [length_setK, hz, if_neg (by simp), hyl]
        rw [hlen]
        exact (Below.heap_setCell _ ⟨r', _, none⟩ _ g (fun e => hgg e.symm)).trans (top_store htop _)
      · have hR3 : Rw (w2.setCell ⟨g, 0, none⟩ (.slice (some ⟨r', 0, none⟩) ys.length c')) (some r') c' ys := hR.kept fun b e => by
          injection e with e
          subst e
          exact Below.heap_setCell _ ⟨g, 0, none⟩ _ r' hgg
        have h4 := hR3.store hyq v
        have e4 := set_not (v := v) hz
        rw [← hys] at e4
        rw [e4] at h4
        exact h4
      · have hT1 : Turns (On g r) w W := Turns.of_below hW
        have hT2 : Turns (On g r) w w2 := (hT1.alloc _).step hO.1 (fun j hj => .inl (.inr hj))
        refine (hT2.setCell (.inl (.inl rfl)) _ _).setCell ?_ _ _
        rcases hO.2 r' rfl with e | e
        · exact .inl (.inr e)
        · exact .inr (Nat.le_trans hW.size (Nat.le_trans (by simp) e))
      · rintro j (rfl | hj)
        · exact .inl (.inl rfl)
        · rcases hO.2 j hj with e | e
          · exact .inl (.inr e)
          · exact .inr (Nat.le_trans hW.size (Nat.le_trans (by simp) e))
    have HC0 : Hid (∀ W, Below w.heap.size w W → W.cell? ⟨g, 0, none⟩ = some (.slice (slA r) xs.length c)) := Lib.hid fun W hW => (h.below hW).cell
    obtain ⟨q, hq⟩ : ∃ q, q = posOf xs k := ⟨_, rfl⟩
    have hqy : q < ys.length := by rw [hq, hyl]; omega
    have hy0 : ¬ (ys = []) := fun e => by rw [e] at hyl; simp at hyl
    rw [← hq] at HC HF HI
    obtain ⟨n, hnn⟩ : ∃ n, n = xs.length := ⟨_, rfl⟩
    obtain ⟨A, hA⟩ : ∃ A, A = slA r := ⟨_, rfl⟩
    rw [← hnn, ← hA] at HI HF HC0
    have HY := Lib.hid hy0
    obtain ⟨m, hm⟩ : ∃ m, m = ys.length := ⟨_, rfl⟩
    have HM := Lib.hid hm
    rw [← hm] at HF hqy
    clear hq hz hpl hs hn h hnn hA hys hyl hyq hy0 HL hm
    go_enter Tryd.func54, Tryd.ntmps54
    go_wp2_with (go_at_call 55; refine HC.out.mono ?_)
    rintro E w1 ⟨rfl, b1⟩
    have c0 := HC0.out w1 b1
    go_wp2_with (go_at_call 60; refine (HI.out w1 b1).mono ?_)
    rintro E w2 ⟨r', c', rfl, hR, hO⟩
    cases r' with
    | none => exact absurd hR.2 HY.out
    | some b' =>
      obtain ⟨d0, f0, hne, d1, f1, hS⟩ := HF.out w1 w2 b' c' b1 hR hO
      have hne' : ¬ (b' = g) := fun e => hne e.symm
      have HS := Lib.hid hS
      rw [← HM.out, show slA (some b') = some ⟨b', 0, none⟩ from rfl]
      clear hS hR hO c0
      go_wp2_with fail
      go_end0
      exact ⟨rfl, HS.out⟩
end Go.Proofs.YtflenghnmflenaaDoor
