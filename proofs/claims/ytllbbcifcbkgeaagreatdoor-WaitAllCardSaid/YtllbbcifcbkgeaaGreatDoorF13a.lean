/- Laws and walks. -/
import Derived.Test.YtllbbcifcbkgeaaGreatDoorF12a
import Derived.Test.YtllbbcifcbkgeaaGreatDoorUda
set_option maxHeartbeats 16000000
set_option maxRecDepth 100000
namespace Go.Proofs.YtllbbcifcbkgeaaGreatDoor.Sh
open Go.RowKit
def MMsg.bare (m : MMsg) : MMsg := m.at none 0
def mrT (A : Option Addr) (c : Nat) (l : List MMsg) : Thing := ⟨fun W => W.ownsRow 0 52 121 (.slice A l.length c) l.length (l.flatMap msgC) /\ (∀ m ∈ l, m.Wf), fun k => (Value.slice A l.length c).ownBlock = some k⟩
theorem mrT_ok (A : Option Addr) (c : Nat) (l : List MMsg) : (mrT A c l).Ok := ⟨fun _ _ h hk => ⟨ownsRow_kept h.1 hk, h.2⟩, fun _ h k hk => ownsRow_lt h.1 k hk⟩
def qsT (l : List MMsg) : Thing := ⟨fun W => ∀ m ∈ l, Prs W m.body.qa m.body.qs, fun k => ∃ m ∈ l, m.onQ k⟩
theorem qsT_ok (l : List MMsg) : (qsT l).Ok := ⟨fun _ _ h hk m hm => prs_kept (h m hm) fun g hg => hk g ⟨m, hm, hg⟩, fun _ h _ ⟨m, hm, hg⟩ => prs_lt (h m hm) hg⟩
theorem mr_nil {v W : World} {os : List Thing} (H : Fr v W os) : Fr v W (mrT none 0 [] :: os) :=
 H.add bl ⟨World.ownsRow_nil _ _ _ _, fun _ h => (by cases h)⟩ (mrT_ok _ _ _) fun _ hk => (by cases hk)
theorem qs_nil {v W : World} {os : List Thing} (H : Fr v W os) : Fr v W (qsT [] :: os) :=
 H.add bl (fun _ h => (by cases h)) (qsT_ok _) fun _ ⟨_, h, _⟩ => (by cases h)
theorem flatM_get {l : List MMsg} (hw : ∀ t ∈ l, t.Wf) {j : Nat} {t : MMsg} (hj : l[j]? = some t) : ∀ k v, (msgC t)[k]? = some v -> (l.flatMap msgC)[j * 121 + k]? = some v := by
 induction l generalizing j with
 | nil => simp at hj
 | cons x l ih =>
  intro k v hv
  have hx := msgC_length (hw x (by simp))
  rw [List.flatMap_cons]
  cases j with
  | zero =>
   simp at hj; subst hj
   rw [List.getElem?_append_left (by have := (List.getElem?_eq_some_iff.1 hv).1; omega)]
   simpa using hv
  | succ j =>
   simp at hj
   rw [List.getElem?_append_right (by omega), hx]
   have := ih (fun t ht => hw t (by simp [ht])) hj k v hv
   rwa [show (j + 1) * 121 + k - 121 = j * 121 + k by omega]
theorem mr_get {W : World} {A : Option Addr} {c : Nat} {l : List MMsg} (h : (mrT A c l).P W) {j : Nat} {m : MMsg} (hj : l[j]? = some m) : ∃ g, A = some ⟨g, 0, none⟩ /\ g < W.heap.size /\ W.rangeAt g (j * 121) (msgC m) := by
 have hl := (List.getElem?_eq_some_iff.1 hj).1
 obtain ⟨g, cap, e, _, hr, h1, h2⟩ := ownsRow_some h.1 (by omega)
 injection e with e1
 refine ⟨g, e1, ownsRow_lt h.1 g (by rw [e1]; rfl), fun k v hv => ?_⟩
 have := hr (j * 121 + k) v (flatM_get h.2 hj k v hv)
 rwa [Nat.zero_add] at this
theorem mr_sl {W : World} {A : Option Addr} {c : Nat} {l : List MMsg} (h : (mrT A c l).P W) : (A = none -> l.length = 0 /\ c = 0) /\ l.length <= c /\ c <= 9223372036854775807 := by
 rcases h.1.2 with ⟨e, e0⟩ | ⟨g, cap, cur, e, _, _, h3, h4, _⟩
 ·injection e with e1 e2 e3
  exact ⟨fun _ => ⟨e2, e3⟩, by omega, by omega⟩
 ·injection e with e1 e2 e3
  exact ⟨fun e => (by rw [e1] at e; cases e), by omega, by rw [e3]; exact h4⟩
theorem mr_append {v W : World} {os : List Thing} {A : Option Addr} {c : Nat} {l : List MMsg} (H : Fr v W (mrT A c l :: os)) (ty : TypeId) (g : Nat) (m : MMsg) (hm : m.Wf) (hg : W.rangeAt g 0 (msgC m)) (hl : l.length <= 1000000) :
  ∃ A' c' W', (Builtin.append_ #[24, 24] ty #[.slice A l.length c, .slice (some ⟨g, 0, none⟩) 1 1]).run Tryz.prog W = .ok (.slice A' (l.length + 1) c') W' /\ Fr v W' (mrT A' c' (l ++ [m]) :: os) /\ W.grownBy W' (Value.slice A l.length c).ownBlock := by
 have h := H.hd
 obtain ⟨A', c', W', hr, hrow, hgr, hat⟩ := append_msg ty W (.slice A l.length c) l.length _ h.1 hl g m hm hg
 refine ⟨A', c', W', hr, H.turn (o' := mrT A' c' (l ++ [m])) ⟨(Turns.refl _ W).grown hgr fun k e => .inl e, fun k hk => ?_⟩ ⟨?_, fun x hx => ?_⟩ (mrT_ok _ _ _), hgr⟩
 ·have hk : (Value.slice A' (l.length + 1) c').ownBlock = some k := by rw [own_slice A' _ _ (l ++ [m]).length c']; exact hk
  rcases hat with e | e
  ·exact .inl (e.symm.trans hk)
  ·rw [e] at hk; injection hk with hk; exact .inr (Nat.le_of_eq hk)
 ·simpa using hrow
 ·rcases List.mem_append.1 hx with hx | hx
  ·exact h.2 x hx
  ·rw [List.mem_singleton.1 hx]; exact hm
theorem qs_snoc {v W : World} {os : List Thing} {l : List MMsg} {m : MMsg} (H : Fr v W (qT m :: qsT l :: os)) : Fr v W (qsT (l ++ [m]) :: os) := by
 have h1 := H.hd
 have h2 := H.hd2
 have hall := H.all
 refine ⟨H.bel, H.ks, H.pos, fun o ho => ?_, ?_⟩
 ·rcases List.mem_cons.1 ho with rfl | ho
  ·refine ⟨fun x hx => ?_, qsT_ok _, fun k hk => ?_⟩
   ·rcases List.mem_append.1 hx with hx | hx
    ·exact h2 x hx
    ·rw [List.mem_singleton.1 hx]; exact h1
   ·obtain ⟨x, hx, hg⟩ := hk
    rcases List.mem_append.1 hx with hx | hx
    ·exact H.pop.ge k ⟨x, hx, hg⟩
    ·rw [List.mem_singleton.1 hx] at hg; exact H.ge k hg
  ·exact hall o (by simp [ho])
 ·obtain ⟨ha, hp⟩ := List.pairwise_cons.1 H.apart
  obtain ⟨hb, hp⟩ := List.pairwise_cons.1 hp
  refine List.Pairwise.cons (fun b hb' k hk hk' => ?_) hp
  obtain ⟨x, hx, hg⟩ := hk
  rcases List.mem_append.1 hx with hx | hx
  ·exact hb b hb' k ⟨x, hx, hg⟩ hk'
  ·rw [List.mem_singleton.1 hx] at hg; exact ha b (by simp [hb']) k hg hk'
open Go.RowKit
structure Hds (W : World) (S : List Value) (A : Nat -> Option Addr) (N C P : Nat -> Nat) : Prop where
 len : S.length = 11
 get : ∀ i, i < 11 -> S[i]? = some (.slice (A i) (N i) (C i))
 head : ∀ i, i < 11 -> 0 < N i -> ∃ g o, A i = some ⟨g, o, none⟩ /\ g < W.heap.size /\ W.cell? ⟨g, o + 121, none⟩ = some (.int .i64 (P i : Int))
theorem Hds.below {W W' : World} {S : List Value} {A : Nat -> Option Addr} {N C P : Nat -> Nat} (h : Hds W S A N C P) (hb : Below W.heap.size W W') : Hds W' S A N C P :=
 ⟨h.len, h.get, fun i hi hn => let ⟨g, o, e, hl, hc⟩ := h.head i hi hn; ⟨g, o, e, Nat.lt_of_lt_of_le hl hb.size, (hb.cell (p := ⟨g, _, none⟩) hl).trans hc⟩⟩
open Go.RowKit
theorem drop_filter {α : Type} {f : α -> Nat} : ∀ (l : List α) (s q : Nat), (∀ (j : Nat) (t : α), l[j]? = some t -> f t = s + j + 1) -> l.drop (q - s) = l.filter fun t => decide (q < f t)
 | [], _, _, _ => by simp
 | x :: l, s, q, h => by
  have hx : f x = s + 1 := h 0 x rfl
  have ih := drop_filter (f := f) l (s + 1) q fun j t ht => by have := h (j + 1) t ht; omega
  by_cases hq : q <= s
  ·rw [List.filter_cons_of_pos (by simp; omega), <- ih, show q - s = 0 by omega, show q - (s + 1) = 0 by omega]
   rfl
  ·rw [List.filter_cons_of_neg (by simp; omega), <- ih, show q - s = (q - (s + 1)) + 1 by omega]
   rfl
def Nm (L : List MMsg) : Prop := (∀ m ∈ L, 1 <= m.origin /\ m.origin <= 11) /\ ∀ (i j : Nat) (t : Tk), (strm L i)[j]? = some t -> t.1.number = j + 1
def rem (L : List MMsg) (p : Nat -> Nat) : List Tk := L.zipIdx.filter fun t => decide (p t.1.oi < t.1.number)
theorem oi_of {m : MMsg} {i : Nat} (h : m.origin = (i : Int) + 1) : m.oi = i := by unfold MMsg.oi; omega
theorem of_oi {m : MMsg} (h : 1 <= m.origin /\ m.origin <= 11) : m.oi < 11 /\ m.origin = (m.oi : Int) + 1 := by unfold MMsg.oi; omega
theorem zip_filter {α : Type} (f : α -> Bool) : ∀ (l : List α) (k : Nat), ((l.zipIdx k).filter fun t => f t.1).map Prod.fst = l.filter f
 | [], _ => rfl
 | x :: l, k => by
  rw [List.zipIdx_cons]
  by_cases h : f x = true
  ·rw [List.filter_cons_of_pos (by exact h), List.filter_cons_of_pos h, List.map_cons, zip_filter f l (k + 1)]
  ·rw [List.filter_cons_of_neg (by exact h), List.filter_cons_of_neg h, zip_filter f l (k + 1)]
def rsv (A : Nat -> Option Addr) (N C : Nat -> Nat) : List Value := (List.range 11).map fun i => Value.slice (A i) (N i) (C i)
theorem rsv_length (A : Nat -> Option Addr) (N C : Nat -> Nat) : (rsv A N C).length = 11 := by simp [rsv]
theorem rsv_get (A : Nat -> Option Addr) (N C : Nat -> Nat) {i : Nat} (hi : i < 11) : (rsv A N C)[i]? = some (.slice (A i) (N i) (C i)) := by simp [rsv, hi]
structure RsOk (L : List MMsg) (A : Nat -> Option Addr) (p : Nat -> Nat) (RA : Nat -> Option Addr) (RN RC : Nat -> Nat) : Prop where
 ok : ∀ i, i < 11 -> p i <= cnt L i /\ RN i = cnt L i - p i /\ RN i <= RC i /\ RC i <= 9223372036854775807 /\ (RA i = none -> RC i = 0) /\ (0 < RN i -> ∃ g, A i = some ⟨g, 0, none⟩ /\ RA i = some ⟨g, p i * 122, none⟩)
theorem RsOk.start {W : World} {b n : Nat} {A : Nat -> Option Addr} {C : Nat -> Nat} {L : List MMsg} (h : LoreAt W b n A C L) : RsOk L A (fun _ => 0) A (cnt L) C :=
 ⟨fun i hi => by
  have hs := h.sl hi
  refine ⟨Nat.zero_le _, rfl, hs.2.1, hs.2.2, fun e => (hs.1 e).2, fun h0 => ?_⟩
  obtain ⟨g, e, _⟩ := h.tk hi (t := (strm L i)[0]'h0) (List.getElem?_eq_getElem h0)
  exact ⟨g, e, by rw [e, Nat.zero_mul]⟩⟩
def cutA (a : Option Addr) (c lo : Nat) : Option Addr := if c = lo then a else a.map fun x => x.add (lo * 122)
theorem RsOk.cut {L : List MMsg} {A : Nat -> Option Addr} {p : Nat -> Nat} {RA : Nat -> Option Addr} {RN RC : Nat -> Nat} (h : RsOk L A p RA RN RC) {i lo : Nat} (hi : i < 11) (hlo : lo <= RN i) :
  RsOk L A (upd p i (p i + lo)) (upd RA i (cutA (RA i) (RC i) lo)) (upd RN i (RN i - lo)) (upd RC i (RC i - lo)) := by
 refine ⟨fun j hj => ?_⟩
 by_cases hji : j = i
 ·subst hji
  rw [upd_same, upd_same, upd_same, upd_same]
  obtain ⟨h1, h2, h3, h4, h5, h6⟩ := h.ok j hj
  refine ⟨by omega, by omega, by omega, by omega, fun e => ?_, fun h0 => ?_⟩
  ·unfold cutA at e
   split at e
   ·omega
   ·cases hr : RA j with
    | none => have := h5 hr; omega
    | some x => rw [hr] at e; cases e
  ·obtain ⟨g, e1, e2⟩ := h6 (by omega)
   refine ⟨g, e1, ?_⟩
   rw [cutA, if_neg (by omega), e2, Option.map_some, add_at, <- Nat.add_mul]
 ·rw [upd_ne _ _ hji, upd_ne _ _ hji, upd_ne _ _ hji, upd_ne _ _ hji]
  exact h.ok j hj
def plc (L : List MMsg) (p : Nat -> Nat) (i : Nat) : Nat := match (strm L i)[p i]? with | some t => t.2 | none => 0
theorem RsOk.heads {W : World} {b n : Nat} {A : Nat -> Option Addr} {C : Nat -> Nat} {L : List MMsg} {p : Nat -> Nat} {RA : Nat -> Option Addr} {RN RC : Nat -> Nat} (h : LoreAt W b n A C L) (hr : RsOk L A p RA RN RC) : Hds W (rsv RA RN RC) RA RN RC (plc L p) := by
 refine ⟨rsv_length _ _ _, fun i hi => rsv_get _ _ _ hi, fun i hi h0 => ?_⟩
 obtain ⟨h1, h2, _, _, _, h6⟩ := hr.ok i hi
 obtain ⟨g, e1, e2⟩ := h6 h0
 have hlt : p i < (strm L i).length := by rw [cnt] at h2; omega
 have ht := List.getElem?_eq_getElem hlt
 obtain ⟨g', e', hrg, _⟩ := h.tk hi ht
 rw [e1] at e'
 injection e' with e'
 injection e' with e' _
 subst e'
 have hw := (h.wf _ (strm_mem (List.mem_of_getElem? ht)).1).1
 refine ⟨g, p i * 122, e2, ownsRow_lt (h.row i hi) g (by rw [sv, e1]; rfl), ?_⟩
 have := hrg 121 (.int .i64 (((strm L i)[p i]'hlt).2 : Int)) (by rw [tkC, List.getElem?_append_right (by rw [msgC_length hw]; exact Nat.le_refl _), msgC_length hw]; rfl)
 rw [this, plc, ht]
open Go.RowKit
def p0 (L : List MMsg) (v : List Nat) (i : Nat) : Nat := min (v.getD i 0) (cnt L i)
theorem Fr.rot3 {v W : World} {a b c : Thing} {os : List Thing} (H : Fr v W (a :: b :: c :: os)) : Fr v W (b :: c :: a :: os) := H.perm ((List.Perm.swap ..).trans ((List.Perm.swap ..).cons _))
structure InvS (L : List MMsg) (v : List Nat) (most : Int) (p : Nat -> Nat) (out : List MMsg) : Prop where
 left : rem L p = (rem L (p0 L v)).drop out.length
 told : out.map MMsg.bare = (((rem L (p0 L v)).map Prod.fst).take out.length).map MMsg.bare
 le : out.length <= (rem L (p0 L v)).length
 most : out.length <= most.toNat
open Go.RowKit
open Go.RowKit
theorem nm_nil : Nm [] := ⟨fun _ h => (by cases h), fun _ _ _ h => (by rw [strm_nil] at h; simp at h)⟩
theorem nm_snoc {n : Nat} {L : List MMsg} (h : Nm L) {m : MMsg} (hz : chk n L m = 0) (a : Option Addr) (c : Nat) : Nm (L ++ [m.at a c]) := by
 obtain ⟨h1, _, _, h4, _⟩ := chk_zero hz
 have ho1 : 1 <= m.origin /\ m.origin <= 11 := of_decide_eq_true h1.1
 refine ⟨fun x hx => ?_, fun i j t ht => ?_⟩
 ·rcases List.mem_append.1 hx with hx | hx
  ·exact h.1 x hx
  ·rw [List.mem_singleton.1 hx]; exact ho1
 ·rw [strm_snoc] at ht
  by_cases hj : j < (strm L i).length
  ·rw [List.getElem?_append_left hj] at ht
   exact h.2 i j t ht
  ·rw [List.getElem?_append_right (by omega)] at ht
   by_cases ho : (m.at a c).origin = (i : Int) + 1
   ·rw [if_pos ho] at ht
    have hl := (List.getElem?_eq_some_iff.1 ht).1
    simp at hl
    have e : j = (strm L i).length := by omega
    subst e
    simp at ht
    subst ht
    have hoi : m.oi = i := oi_of ho
    show m.number = _
    rw [h4, hoi, cnt]
   ·rw [if_neg ho] at ht; simp at ht
def bW : MBody := { zeroBody with kind := 3, view := 1 }
def v1 : List Nat := 1 :: List.replicate 10 0
def mW1 : MMsg := { zeroMsg with origin := 1, number := 1, body := bW }
def oW1 : MMsg := { mW1 with tag := numTag 1 1 (msgB mW1) }
theorem bW_wf : bW.Wf := ⟨rfl, rfl⟩
theorem mW1_wf : mW1.Wf := ⟨rfl, bW_wf, rfl⟩
theorem oW1_wf : oW1.Wf := ⟨rfl, bW_wf, numTag_length _ _ _⟩
theorem bW_may : bW.may := by
 refine ⟨by kernel_rfl, by decide, ?_⟩
 have e : bodyOwn bW = { zeroBody with kind := 3, view := 1 } := by simp [bodyOwn, bW, zeroBody]
 rw [e]
 exact ⟨rfl, rfl, rfl, rfl, rfl⟩
theorem mW1_may : mW1.may := ⟨by decide, ⟨by decide, rfl, fun x hx => by have : x = 0 := List.eq_of_mem_replicate hx; omega⟩, bW_may⟩
theorem oW1_may : oW1.may := mW1_may
theorem oW1_right : oW1.right := ⟨oW1_may, rfl⟩
theorem tag_w1 : tagM mW1 = oW1 := if_pos mW1_may
theorem prs_w (m : MMsg) (h : m.body.qs = []) (W : World) : Prs W m.body.qa m.body.qs := fun hn => by rw [h] at hn; cases hn
def MMsg.turned (m : MMsg) (i : Nat) (x : UInt8) : MMsg := { m with tag := m.tag.set i x }
theorem chk_w1 : chk 3 [] oW1 = 0 := by
 rw [chk_next oW1_may (by rfl) oW1_right (by rfl) (by rfl) false (by rfl)]
 rfl
open Go.RowKit
open Go.RowKit
def Ms (W : World) (A : Option Addr) (l : List MMsg) : Prop := (∀ m ∈ l, m.Wf) /\ (0 < l.length -> ∃ g o, A = some ⟨g, o, none⟩ /\ g < W.heap.size /\ ∀ (j : Nat) (m : MMsg), l[j]? = some m -> W.rangeAt g (o + j * 121) (msgC m))
theorem Ms.below {W W' : World} {A : Option Addr} {l : List MMsg} (h : Ms W A l) (hb : Below W.heap.size W W') : Ms W' A l :=
 ⟨h.1, fun hn => let ⟨g, o, e, hl, hc⟩ := h.2 hn; ⟨g, o, e, Nat.lt_of_lt_of_le hl hb.size, fun j m hm => rangeAt_below' (hc j m hm) hl W' hb⟩⟩
open Go.RowKit
end Go.Proofs.YtllbbcifcbkgeaaGreatDoor.Sh
