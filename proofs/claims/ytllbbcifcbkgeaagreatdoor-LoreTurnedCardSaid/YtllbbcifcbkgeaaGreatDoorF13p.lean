/- Laws and walks. -/
import Derived.Test.YtllbbcifcbkgeaaGreatDoorF12p
set_option maxHeartbeats 16000000
set_option maxRecDepth 100000
namespace Go.Proofs.YtllbbcifcbkgeaaGreatDoor.Sh
open Go.RowKit
def MMsg.bare (m : MMsg) : MMsg := m.at none 0
def mrT (A : Option Addr) (c : Nat) (l : List MMsg) : Thing := ⟨fun W => W.ownsRow 0 52 121 (.slice A l.length c) l.length (l.flatMap msgC) /\ (∀ m ∈ l, m.Wf), fun k => (Value.slice A l.length c).ownBlock = some k⟩
theorem mrT_ok (A : Option Addr) (c : Nat) (l : List MMsg) : (mrT A c l).Ok := ⟨fun _ _ h hk => ⟨ownsRow_kept h.1 hk, h.2⟩, fun _ h k hk => ownsRow_lt h.1 k hk⟩
def qsT (l : List MMsg) : Thing := ⟨fun W => ∀ m ∈ l, Prs W m.body.qa m.body.qs, fun k => ∃ m ∈ l, m.onQ k⟩
theorem qsT_ok (l : List MMsg) : (qsT l).Ok := ⟨fun _ _ h hk m hm => prs_kept (h m hm) fun g hg => hk g ⟨m, hm, hg⟩, fun _ h _ ⟨m, hm, hg⟩ => prs_lt (h m hm) hg⟩
theorem mr_nil {v W : World} {os : List Thing} (H : Fr v W os) : Fr v W (mrT none 0 [] :: os) :=
 H.add bl ⟨World.ownsRow_nil _ _ _ _, fun _ h => (by cases h)⟩ (mrT_ok _ _ _) fun _ hk => (by cases hk)
theorem qs_nil {v W : World} {os : List Thing} (H : Fr v W os) : Fr v W (qsT [] :: os) :=
 H.add bl (fun _ h => (by cases h)) (qsT_ok _) fun _ ⟨_, h, _⟩ => (by cases h)
theorem flatM_get {l : List MMsg} (hw : ∀ t ∈ l, t.Wf) {j : Nat} {t : MMsg} (hj : l[j]? = some t) : ∀ k v, (msgC t)[k]? = some v -> (l.flatMap msgC)[j * 121 + k]? = some v := by
 induction l generalizing j with
 | nil => simp at hj
 | cons x l ih =>
  intro k v hv
  have hx := msgC_length (hw x (by simp))
  rw [List.flatMap_cons]
  cases j with
  | zero =>
   simp at hj; subst hj
   rw [List.getElem?_append_left (by have := (List.getElem?_eq_some_iff.1 hv).1; omega)]
   simpa using hv
  | succ j =>
   simp at hj
   rw [List.getElem?_append_right (by omega), hx]
   have := ih (fun t ht => hw t (by simp [ht])) hj k v hv
   rwa [show (j + 1) * 121 + k - 121 = j * 121 + k by omega]
theorem mr_get {W : World} {A : Option Addr} {c : Nat} {l : List MMsg} (h : (mrT A c l).P W) {j : Nat} {m : MMsg} (hj : l[j]? = some m) : ∃ g, A = some ⟨g, 0, none⟩ /\ g < W.heap.size /\ W.rangeAt g (j * 121) (msgC m) := by
 have hl := (List.getElem?_eq_some_iff.1 hj).1
 obtain ⟨g, cap, e, _, hr, h1, h2⟩ := ownsRow_some h.1 (by omega)
 injection e with e1
 refine ⟨g, e1, ownsRow_lt h.1 g (by rw [e1]; rfl), fun k v hv => ?_⟩
 have := hr (j * 121 + k) v (flatM_get h.2 hj k v hv)
 rwa [Nat.zero_add] at this
theorem mr_sl {W : World} {A : Option Addr} {c : Nat} {l : List MMsg} (h : (mrT A c l).P W) : (A = none -> l.length = 0 /\ c = 0) /\ l.length <= c /\ c <= 9223372036854775807 := by
 rcases h.1.2 with ⟨e, e0⟩ | ⟨g, cap, cur, e, _, _, h3, h4, _⟩
 ·injection e with e1 e2 e3
  exact ⟨fun _ => ⟨e2, e3⟩, by omega, by omega⟩
 ·injection e with e1 e2 e3
  exact ⟨fun e => (by rw [e1] at e; cases e), by omega, by rw [e3]; exact h4⟩
theorem mr_append {v W : World} {os : List Thing} {A : Option Addr} {c : Nat} {l : List MMsg} (H : Fr v W (mrT A c l :: os)) (ty : TypeId) (g : Nat) (m : MMsg) (hm : m.Wf) (hg : W.rangeAt g 0 (msgC m)) (hl : l.length <= 1000000) :
  ∃ A' c' W', (Builtin.append_ #[24, 24] ty #[.slice A l.length c, .slice (some ⟨g, 0, none⟩) 1 1]).run Tryz.prog W = .ok (.slice A' (l.length + 1) c') W' /\ Fr v W' (mrT A' c' (l ++ [m]) :: os) /\ W.grownBy W' (Value.slice A l.length c).ownBlock := by
 have h := H.hd
 obtain ⟨A', c', W', hr, hrow, hgr, hat⟩ := append_msg ty W (.slice A l.length c) l.length _ h.1 hl g m hm hg
 refine ⟨A', c', W', hr, H.turn (o' := mrT A' c' (l ++ [m])) ⟨(Turns.refl _ W).grown hgr fun k e => .inl e, fun k hk => ?_⟩ ⟨?_, fun x hx => ?_⟩ (mrT_ok _ _ _), hgr⟩
 ·have hk : (Value.slice A' (l.length + 1) c').ownBlock = some k := by rw [own_slice A' _ _ (l ++ [m]).length c']; exact hk
  rcases hat with e | e
  ·exact .inl (e.symm.trans hk)
  ·rw [e] at hk; injection hk with hk; exact .inr (Nat.le_of_eq hk)
 ·simpa using hrow
 ·rcases List.mem_append.1 hx with hx | hx
  ·exact h.2 x hx
  ·rw [List.mem_singleton.1 hx]; exact hm
theorem qs_snoc {v W : World} {os : List Thing} {l : List MMsg} {m : MMsg} (H : Fr v W (qT m :: qsT l :: os)) : Fr v W (qsT (l ++ [m]) :: os) := by
 have h1 := H.hd
 have h2 := H.hd2
 have hall := H.all
 refine ⟨H.bel, H.ks, H.pos, fun o ho => ?_, ?_⟩
 ·rcases List.mem_cons.1 ho with rfl | ho
  ·refine ⟨fun x hx => ?_, qsT_ok _, fun k hk => ?_⟩
   ·rcases List.mem_append.1 hx with hx | hx
    ·exact h2 x hx
    ·rw [List.mem_singleton.1 hx]; exact h1
   ·obtain ⟨x, hx, hg⟩ := hk
    rcases List.mem_append.1 hx with hx | hx
    ·exact H.pop.ge k ⟨x, hx, hg⟩
    ·rw [List.mem_singleton.1 hx] at hg; exact H.ge k hg
  ·exact hall o (by simp [ho])
 ·obtain ⟨ha, hp⟩ := List.pairwise_cons.1 H.apart
  obtain ⟨hb, hp⟩ := List.pairwise_cons.1 hp
  refine List.Pairwise.cons (fun b hb' k hk hk' => ?_) hp
  obtain ⟨x, hx, hg⟩ := hk
  rcases List.mem_append.1 hx with hx | hx
  ·exact hb b hb' k ⟨x, hx, hg⟩ hk'
  ·rw [List.mem_singleton.1 hx] at hg; exact ha b (by simp [hb']) k hg hk'
def er (N P : Nat -> Nat) : Nat -> Nat × Bool
 | 0 => (0, false)
 | j + 1 => if 0 < N j /\ ((er N P j).2 = false \/ P j < P (er N P j).1) then (j, true) else er N P j
theorem er_lt (N P : Nat -> Nat) : ∀ j, j <= 11 -> (er N P j).1 < 11 /\ ((er N P j).2 = true -> 0 < N (er N P j).1)
 | 0, _ => ⟨by simp [er], fun h => by simp [er] at h⟩
 | j + 1, hj => by
  rw [er]
  split
  ·rename_i h; exact ⟨by simp; omega, fun _ => h.1⟩
  ·exact er_lt N P j (by omega)
theorem er_none {N P : Nat -> Nat} : ∀ j, (∀ i, i < j -> N i = 0) -> (er N P j).2 = false
 | 0, _ => rfl
 | j + 1, h => by
  rw [er, if_neg (fun x => by have := h j (by omega); omega)]
  exact er_none j fun i hi => h i (by omega)
theorem er_some {N P : Nat -> Nat} {i0 : Nat} (h0 : 0 < N i0) (h : ∀ i, i < 11 -> i ≠ i0 -> 0 < N i -> P i0 < P i) : ∀ j, j <= 11 -> (j <= i0 -> (er N P j).2 = true -> (er N P j).1 ≠ i0) /\ (i0 < j -> er N P j = (i0, true))
 | 0, _ => ⟨fun _ h => by simp [er] at h, fun h => by omega⟩
 | j + 1, hj => by
  have ih := er_some h0 h j (by omega)
  have hl := er_lt N P j (by omega)
  constructor
  ·intro hji
   rw [er]
   split
   ·intro _; simp; omega
   ·exact ih.1 (by omega)
  ·intro hji
   by_cases e : j = i0
   ·subst e
    have hor : (er N P j).2 = false \/ P j < P (er N P j).1 := by
     cases hb : (er N P j).2 with
     | false => exact .inl rfl
     | true => exact .inr (h _ hl.1 (ih.1 (Nat.le_refl _) hb) (hl.2 hb))
    rw [er, if_pos ⟨h0, hor⟩]
   ·have e2 := ih.2 (by omega)
    rw [er, e2, if_neg (fun x => ?_)]
    rcases x.2 with y | y
    ·cases y
    ·have := h j (by omega) e x.1; simp at y; omega
end Go.Proofs.YtllbbcifcbkgeaaGreatDoor.Sh
