/-
  What is proved: a lore in memory: its streams, row by row. Conditions as stated.
-/
import Derived.Test.YtgdcnakcjomllaaDoorF1p
namespace Go.Proofs.YtgdcnakcjomllaaDoor.Sh
open Go.RowKit
set_option maxRecDepth 100000

/-! ### streams -/
abbrev Tk := MMsg × Nat
def tkC (t : Tk) : List Value := msgC t.1 ++ [.int .i64 (t.2 : Int)]
theorem tkC_length {t : Tk} (h : t.1.Wf) : (tkC t).length = 122 := by simp [tkC, msgC_length h]
/-- The stream of the replica i + 1, each message with its place. -/
def strm (L : List MMsg) (i : Nat) : List Tk := L.zipIdx.filter fun t => decide (t.1.origin = (i : Int) + 1)
def cnt (L : List MMsg) (i : Nat) : Nat := (strm L i).length
def kn (L : List MMsg) : List Nat := (List.range 11).map (cnt L)
theorem kn_length (L : List MMsg) : (kn L).length = 11 := by simp [kn]
theorem kn_get (L : List MMsg) {i : Nat} (hi : i < 11) : (kn L)[i]? = some (cnt L i) := by simp [kn, hi]
theorem strm_snoc (L : List MMsg) (m : MMsg) (i : Nat) : strm (L ++ [m]) i = strm L i ++ (if m.origin = (i : Int) + 1 then [(m, L.length)] else []) := by
  simp only [strm, List.zipIdx_append, List.filter_append, Nat.zero_add, List.zipIdx_singleton]
  congr 1
  by_cases h : m.origin = (i : Int) + 1 <;> simp [h]
theorem cnt_snoc (L : List MMsg) (m : MMsg) (i : Nat) : cnt (L ++ [m]) i = cnt L i + (if m.origin = (i : Int) + 1 then 1 else 0) := by
  rw [cnt, strm_snoc, List.length_append, cnt]
  split <;> rfl
theorem strm_mem {L : List MMsg} {i : Nat} {t : Tk} (h : t ∈ strm L i) : t.1 ∈ L ∧ t.1.origin = (i : Int) + 1 := by
  simp only [strm, List.mem_filter, decide_eq_true_eq] at h
  exact ⟨by have := List.mem_zipIdx h.1; simp at this; rw [this.2]; exact List.getElem_mem _, h.2⟩
theorem strm_nil (i : Nat) : strm [] i = [] := rfl
/-- How many there are of the first j replicas. -/
def sumTo (L : List MMsg) : Nat → Nat
  | 0 => 0
  | j + 1 => sumTo L j + cnt L j
theorem sumTo_snoc (L : List MMsg) (m : MMsg) : ∀ j, sumTo (L ++ [m]) j = sumTo L j + (if 1 ≤ m.origin ∧ m.origin ≤ (j : Int) then 1 else 0)
  | 0 => by
    simp only [sumTo]
    rw [if_neg (by omega)]
  | j + 1 => by
    simp only [sumTo, sumTo_snoc L m j, cnt_snoc]
    by_cases h : m.origin = (j : Int) + 1
    · rw [if_neg (by omega), if_pos h, if_pos (by omega)]; omega
    · rw [if_neg h]
      by_cases h2 : 1 ≤ m.origin ∧ m.origin ≤ (j : Int)
      · rw [if_pos h2, if_pos (by omega)]; omega
      · rw [if_neg h2, if_neg (by omega)]; omega
theorem snoc_rec {α : Type} {P : List α → Prop} (nil : P []) (snoc : ∀ l a, P l → P (l ++ [a])) (l : List α) : P l := by
  have h : ∀ n (l : List α), l.length = n → P l := by
    intro n
    induction n with
    | zero => intro l h; rw [List.eq_nil_of_length_eq_zero h]; exact nil
    | succ n ih =>
      intro l h
      have hne : l ≠ [] := by intro e; rw [e] at h; cases h
      rw [← List.dropLast_concat_getLast hne]
      exact snoc _ _ (ih _ (by simp [h]))
  exact h _ l rfl
theorem sumTo_all (L : List MMsg) (h : ∀ m ∈ L, 1 ≤ m.origin ∧ m.origin ≤ 11) : sumTo L 11 = L.length := by
  induction L using snoc_rec with
  | nil => rfl
  | snoc L m ih =>
    rw [sumTo_snoc, ih fun x hx => h x (List.mem_append_left _ hx), if_pos (by have := h m (by simp); omega), List.length_append]
    rfl
theorem sumTo_le (L : List MMsg) {j : Nat} (hj : j ≤ 11) : sumTo L j ≤ sumTo L 11 := by
  have h : ∀ a k, sumTo L a ≤ sumTo L (a + k) := fun a k => by
    induction k with
    | zero => exact Nat.le_refl _
    | succ k ih => exact Nat.le_trans ih (by rw [← Nat.add_assoc]; exact Nat.le_add_right _ _)
  have := h j (11 - j)
  rwa [show j + (11 - j) = 11 by omega] at this
theorem cnt_le_sum (L : List MMsg) {i : Nat} (hi : i < 11) : cnt L i ≤ sumTo L 11 := Nat.le_trans (show cnt L i ≤ sumTo L (i + 1) by simp [sumTo]) (sumTo_le L hi)

/-! ### a lore in memory -/
def sv (A : Nat → Option Addr) (C : Nat → Nat) (L : List MMsg) (i : Nat) : Value := .slice (A i) (cnt L i) (C i)
def svs (A : Nat → Option Addr) (C : Nat → Nat) (L : List MMsg) : List Value := (List.range 11).map (sv A C L)
def loC (n : Nat) (A : Nat → Option Addr) (C : Nat → Nat) (L : List MMsg) : List Value := .int .i64 (n : Int) :: svs A C L
theorem svs_length (A : Nat → Option Addr) (C : Nat → Nat) (L : List MMsg) : (svs A C L).length = 11 := by simp [svs]
theorem svs_get (A : Nat → Option Addr) (C : Nat → Nat) (L : List MMsg) {i : Nat} (hi : i < 11) : (svs A C L)[i]? = some (sv A C L i) := by simp [svs, hi]
/-- A block on which a message's pairs lie. -/
def MMsg.onQ (m : MMsg) (g : Nat) : Prop := 0 < m.body.qs.length ∧ ∃ o, m.body.qa = some ⟨g, o, none⟩
structure LoreAt (W : World) (b n : Nat) (A : Nat → Option Addr) (C : Nat → Nat) (L : List MMsg) : Prop where
  top : W.heap[b]? = some (.cells (loC n A C L).toArray 53 (0, 0))
  row : ∀ i, i < 11 → W.ownsRow 0 56 122 (sv A C L i) (cnt L i) ((strm L i).flatMap tkC)
  wf : ∀ m ∈ L, m.Wf ∧ (1 ≤ m.origin ∧ m.origin ≤ 11) ∧ Prs W m.body.qa m.body.qs
  ap : ∀ i j g, i < 11 → j < 11 → A i = some ⟨g, 0, none⟩ → A j = some ⟨g, 0, none⟩ → i = j
  nb : ∀ i g, i < 11 → A i = some ⟨g, 0, none⟩ → g ≠ b
  qb : ∀ m ∈ L, ∀ g, m.onQ g → g ≠ b ∧ ∀ i, i < 11 → A i ≠ some ⟨g, 0, none⟩
  n11 : n ≤ 11
  few : L.length ≤ 1000000
def OnL (b : Nat) (A : Nat → Option Addr) (L : List MMsg) (k : Nat) : Prop := k = b ∨ (∃ i, i < 11 ∧ A i = some ⟨k, 0, none⟩) ∨ ∃ m ∈ L, m.onQ k
def loT (b n : Nat) (A : Nat → Option Addr) (C : Nat → Nat) (L : List MMsg) : Thing := ⟨fun W => LoreAt W b n A C L, OnL b A L⟩
theorem prs_kept {W W' : World} {m : MMsg} (h : Prs W m.body.qa m.body.qs) (hk : ∀ g, m.onQ g → W'.heap[g]? = W.heap[g]?) : Prs W' m.body.qa m.body.qs := fun hn => by
  obtain ⟨g, o, e, hl, hc⟩ := h hn
  have hg := hk g ⟨hn, o, e⟩
  refine ⟨g, o, e, ?_, fun j p hp => ?_⟩
  · have := Array.getElem?_eq_getElem hl
    rw [← hg] at this
    exact (Array.getElem?_eq_some_iff.1 this).1
  · have := hc j p hp
    rw [← cell_kept hg, ← cell_kept hg] at this
    exact this
theorem prs_lt {W : World} {m : MMsg} (h : Prs W m.body.qa m.body.qs) {g : Nat} (hg : m.onQ g) : g < W.heap.size := by
  obtain ⟨hn, o, e⟩ := hg
  obtain ⟨g', o', e', hl, _⟩ := h hn
  rw [e] at e'
  injection e' with e'
  injection e' with e1 _
  rw [e1]; exact hl
theorem sv_block {A : Nat → Option Addr} {C : Nat → Nat} {L : List MMsg} {W : World} {i k : Nat} (h : W.ownsRow 0 56 122 (sv A C L i) (cnt L i) ((strm L i).flatMap tkC)) (hk : (sv A C L i).ownBlock = some k) : A i = some ⟨k, 0, none⟩ := by
  rcases h.2 with ⟨e, _⟩ | ⟨g, cap, cur, e, _⟩
  · rw [e] at hk; cases hk
  · rw [e] at hk
    rw [sv] at e
    injection e with e1
    rw [e1]
    injection hk with hk
    rw [← hk]
theorem loT_ok (b n : Nat) (A : Nat → Option Addr) (C : Nat → Nat) (L : List MMsg) : (loT b n A C L).Ok := by
  refine ⟨fun W W' (h : LoreAt W b n A C L) hk => ?_, fun W (h : LoreAt W b n A C L) k hk => ?_⟩
  · exact ⟨(hk b (.inl rfl)).trans h.top, fun i hi => ownsRow_kept (h.row i hi) fun k e => hk k (.inr (.inl ⟨i, hi, sv_block (h.row i hi) e⟩)), fun m hm => ⟨(h.wf m hm).1, (h.wf m hm).2.1, prs_kept (h.wf m hm).2.2 fun g hg => hk g (.inr (.inr ⟨m, hm, hg⟩))⟩, h.ap, h.nb, h.qb, h.n11, h.few⟩
  · rcases hk with rfl | ⟨i, hi, e⟩ | ⟨m, hm, hg⟩
    · exact (Array.getElem?_eq_some_iff.1 h.top).1
    · exact ownsRow_lt (h.row i hi) k (by rw [sv, e]; rfl)
    · exact prs_lt (h.wf m hm).2.2 hg
section
variable {W : World} {b n : Nat} {A : Nat → Option Addr} {C : Nat → Nat} {L : List MMsg}
theorem LoreAt.below {W' : World} (h : LoreAt W b n A C L) (hb : Below W.heap.size W W') : LoreAt W' b n A C L := (loT_ok b n A C L).below (o := loT b n A C L) h hb
theorem LoreAt.sum (h : LoreAt W b n A C L) : sumTo L 11 = L.length := sumTo_all L fun m hm => (h.wf m hm).2.1
theorem LoreAt.cnt_le (h : LoreAt W b n A C L) {i : Nat} (hi : i < 11) : cnt L i ≤ 1000000 := Nat.le_trans (cnt_le_sum L hi) (by rw [h.sum]; exact h.few)
theorem LoreAt.range (h : LoreAt W b n A C L) : W.rangeAt b 0 (loC n A C L) := range_of_heap h.top
theorem LoreAt.cellN (h : LoreAt W b n A C L) : W.cell? ⟨b, 0, none⟩ = some (.int .i64 (n : Int)) := h.range 0 _ rfl
theorem LoreAt.cell (h : LoreAt W b n A C L) {i : Nat} (hi : i < 11) : W.cell? ⟨b, 1 + i, none⟩ = some (.slice (A i) (cnt L i) (C i)) := by
  have := h.range (1 + i) (sv A C L i) (by rw [loC, Nat.add_comm, List.getElem?_cons_succ]; exact svs_get A C L hi)
  rwa [Nat.zero_add] at this
theorem LoreAt.all (h : LoreAt W b n A C L) : W.rangeAt b 1 (svs A C L) := by have := (range_cons h.range).2; rwa [Nat.zero_add] at this
/-- A message that was taken lies here. -/
theorem flat_get {l : List Tk} (hw : ∀ t ∈ l, t.1.Wf) {j : Nat} {t : Tk} (hj : l[j]? = some t) : ∀ k v, (tkC t)[k]? = some v → (l.flatMap tkC)[j * 122 + k]? = some v := by
  induction l generalizing j with
  | nil => simp at hj
  | cons x l ih =>
    intro k v hv
    have hx := tkC_length (hw x (by simp))
    rw [List.flatMap_cons]
    cases j with
    | zero =>
      simp at hj; subst hj
      rw [List.getElem?_append_left (by have := (List.getElem?_eq_some_iff.1 hv).1; omega)]
      simpa using hv
    | succ j =>
      simp at hj
      rw [List.getElem?_append_right (by omega), hx]
      have := ih (fun t ht => hw t (by simp [ht])) hj k v hv
      rwa [show (j + 1) * 122 + k - 122 = j * 122 + k by omega]
theorem LoreAt.tk (h : LoreAt W b n A C L) {i j : Nat} (hi : i < 11) {t : Tk} (ht : (strm L i)[j]? = some t) : ∃ g, A i = some ⟨g, 0, none⟩ ∧ W.rangeAt g (j * 122) (tkC t) ∧ cnt L i ≤ C i ∧ C i ≤ 9223372036854775807 := by
  have hj := (List.getElem?_eq_some_iff.1 ht).1
  obtain ⟨g, cap, e, _, hr, h1, h2⟩ := ownsRow_some (h.row i hi) (by rw [cnt]; omega)
  rw [sv] at e
  injection e with e1 _ e3
  subst e3
  refine ⟨g, e1, fun k v hv => ?_, h1, h2⟩
  have := hr (j * 122 + k) v (flat_get (fun t ht => (h.wf _ (strm_mem ht).1).1) ht k v hv)
  rwa [Nat.zero_add] at this
theorem LoreAt.sl (h : LoreAt W b n A C L) {i : Nat} (hi : i < 11) : (A i = none → cnt L i = 0 ∧ C i = 0) ∧ cnt L i ≤ C i ∧ C i ≤ 9223372036854775807 := by
  rcases (h.row i hi).2 with ⟨e, e0⟩ | ⟨g, cap, cur, e, _, _, h3, h4, _⟩
  · rw [sv] at e
    injection e with e1 e2 e3
    exact ⟨fun _ => ⟨e2, e3⟩, by omega, by omega⟩
  · rw [sv] at e
    injection e with e1 e2 e3
    exact ⟨fun e => (by rw [e1] at e; cases e), by omega, by rw [e3]; exact h4⟩
end
end Go.Proofs.YtgdcnakcjomllaaDoor.Sh
