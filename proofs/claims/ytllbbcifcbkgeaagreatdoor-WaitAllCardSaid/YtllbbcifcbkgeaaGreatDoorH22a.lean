/- Laws and walks. -/
import Derived.Test.YtllbbcifcbkgeaaGreatDoorH17a
import Derived.Test.YtllbbcifcbkgeaaGreatDoorG1a
set_option maxHeartbeats 16000000
set_option maxRecDepth 100000
namespace Go.Proofs.YtllbbcifcbkgeaaGreatDoor.Sh
open Go.RowKit
theorem bare_pk {x y : MMsg} (h : x.bare = y.bare) : x.pk = y.pk := by
 have h1 : x.bare.origin = y.bare.origin := by rw [h]
 have h2 : x.bare.number = y.bare.number := by rw [h]
 exact Prod.ext h1 h2
theorem bare_oi {x y : MMsg} (h : x.bare = y.bare) : x.oi = y.oi := by
 have h1 : x.bare.oi = y.bare.oi := by rw [h]
 exact h1
theorem bare_num {x y : MMsg} (h : x.bare = y.bare) : x.number = y.number := congrArg Prod.snd (bare_pk h)
theorem pk_oi {x y : MMsg} (h : x.pk = y.pk) : x.oi = y.oi := by
 have h1 : x.origin = y.origin := congrArg Prod.fst h
 rw [MMsg.oi, MMsg.oi, h1]
theorem snoc_ind {p : List MMsg -> Prop} (h0 : p []) (h1 : ∀ l m, p l -> p (l ++ [m])) (l : List MMsg) : p l := by
 have key : ∀ (r l : List MMsg), p l -> p (l ++ r) := by
  intro r
  induction r with
  | nil => intro l h; rwa [List.append_nil]
  | cons a r ih => intro l h; rw [show l ++ a :: r = (l ++ [a]) ++ r by simp]; exact ih _ (h1 l a h)
 exact key l [] h0
theorem mx_mem (r : Int) (l : List MMsg) : 0 < cnN r l -> ∃ y ∈ l, y.origin = r /\ y.number = mxN r l := by
 refine snoc_ind (p := fun l => 0 < cnN r l -> ∃ y ∈ l, y.origin = r /\ y.number = mxN r l) (fun h => (by cases h)) (fun l m ih h => ?_) l
 ·rw [mxN_snoc]
  rw [cnN_snoc] at h
  by_cases ho : m.origin = r
  ·rw [if_pos ho]
   by_cases h0 : 0 < cnN r l
   ·obtain ⟨y, h1, h2, h3⟩ := ih h0
    by_cases hl : mxN r l <= m.number
    ·exact ⟨m, by simp, ho, by omega⟩
    ·exact ⟨y, List.mem_append_left _ h1, h2, by omega⟩
   ·have e : (l.filter fun m => decide (m.origin = r)) = [] := List.eq_nil_of_length_eq_zero (by rw [cnN] at h0; omega)
    have e2 : mxN r l = 0 := by rw [mxN, e]; rfl
    exact ⟨m, by simp, ho, by omega⟩
  ·rw [if_neg ho] at h ⊢
   obtain ⟨y, h1, h2, h3⟩ := ih (by omega)
   exact ⟨y, List.mem_append_left _ h1, h2, h3⟩
theorem cn_wdel (r : Int) {l : List MMsg} (hd : Dk l) {y : MMsg} (hy : y ∈ l) : cnN r (wdel l y.pk) + (if y.origin = r then 1 else 0) = cnN r l := by
 rw [<- cnN_perm r (wdel_perm hd hy), cnN, cnN, List.filter_cons]
 by_cases h : y.origin = r <;> simp [h]
theorem cn_filter (r : Int) (l : List MMsg) (f : MMsg -> Bool) : cnN r (l.filter f) <= cnN r l := by
 rw [cnN, cnN, List.filter_filter]
 have e : (l.filter fun a => decide (a.origin = r) && f a) = ((l.filter fun m => decide (m.origin = r)).filter f) := by
  rw [List.filter_filter]; exact List.filter_congr fun x _ => Bool.and_comm _ _
 rw [e]
 exact List.length_filter_le _ _
structure Wst (all L ws : List MMsg) (c : Nat -> Nat) : Prop where
 ks : At L all c
 dk : Dk ws
 of : ∀ x ∈ ws, ∃ m ∈ all, x.bare = m.bare
 cn : ∀ r, cnN r ws <= 11
section
variable {n : Nat} {all : List MMsg} (hg : ∀ (i : Nat) (m : MMsg), all[i]? = some m -> chk n (all.take i) m = 0) (hf : ∀ m ∈ all, m.Wf)
include hg in
theorem nm_all : Nm all := by have := nm_world hg all.length (Nat.le_refl _); rwa [List.take_length] at this
include hg in
theorem uniq {x y : MMsg} (hx : x ∈ all) (hy : y ∈ all) (h : x.pk = y.pk) : x = y := by
 have h1 := (st_at (nm_all hg) hx).1
 have h2 := (st_at (nm_all hg) hy).1
 rw [pk_oi h, show x.number = y.number from congrArg Prod.snd h, h2] at h1
 exact (Option.some.inj h1).symm
include hg hf in
theorem chk3 {L : List MMsg} {c : Nat -> Nat} (h : At L all c) {m : MMsg} (hm : m ∈ all) :
  (chk n L m = 0 /\ m.number = c m.oi + 1 /\ ∀ j, j < 11 -> m.deps.getD j 0 <= c j) \/ (chk n L m = 12 /\ c m.oi < m.number) \/ (chk n L m = 13 /\ m.number <= c m.oi) := by
 obtain ⟨p, hp⟩ := List.mem_iff_getElem?.1 hm
 have hn := nm_all hg
 obtain ⟨h1, h2, h3, h4, h5, h6⟩ := chk_zero (hg p m hp)
 have ho := (may_oi h1).1
 have e1 : Sh.cnt L m.oi = c m.oi := h.cnt ho
 by_cases ha : m.number < c m.oi + 1
 ·exact .inr (.inr ⟨chk_again h1 h2 h3 (by omega), by omega⟩)
 by_cases hb : c m.oi + 1 < m.number
 ·exact .inr (.inl ⟨chk_far h1 h2 h3 (by omega), by omega⟩)
 have e2 : Sh.ahd L m.oi = Sh.ahd (all.take p) m.oi := h.ahd (at_take hn p) ho (by show c m.oi = Sh.cnt (all.take p) m.oi; omega)
 have hx := chk_next h1 h2 h3 (show m.number = Sh.cnt L m.oi + 1 by omega) (by rw [e2]; exact h5)
 cases hz : blw (kn L) m.deps with
 | true => exact .inr (.inl ⟨hx true hz, by omega⟩)
 | false =>
  refine .inl ⟨hx false hz, by omega, fun j hj => ?_⟩
  have := blw_le (kn_length _) (hf m hm).1 hz hj
  rwa [kn_getD _ hj, h.cnt hj] at this
theorem chk_b {L : List MMsg} {x m : MMsg} (h : x.bare = m.bare) : chk n L x = chk n L m := chk_same rfl h
def Pend (n : Nat) (L ws : List MMsg) (c : Nat -> Nat) (m : MMsg) : Prop := m.number <= c m.oi \/ (chk n L m = 0 /\ ∃ y ∈ ws, y.pk = m.pk)
def Quiet (n : Nat) (L ws : List MMsg) : Prop := ∀ x ∈ ws, chk n L x = 12
include hg hf in
theorem put_step {L ws : List MMsg} {c : Nat -> Nat} (h : Wst all L ws c) (hq : Quiet n L ws) {x m : MMsg} (hm : m ∈ all) (hb : x.bare = m.bare) {e : Int} (he : e = chk n L m) :
  ((putW e ws x).1 = 0 \/ (putW e ws x).1 = 13 \/ (putW e ws x).1 = 7) /\ Wst all L (putW e ws x).2 c /\ (chk n L m = 0 -> Pend n L (putW e ws x).2 c m) := by
 have hpk := bare_pk hb
 have hor : x.origin = m.origin := congrArg Prod.fst hpk
 have hno : x.number = m.number := congrArg Prod.snd hpk
 have h3 := chk3 hg hf h.ks hm
 unfold putW
 by_cases hw : (!(decide (e = 0) || decide (e = 12))) = true
 ·rw [if_pos hw]
  rcases h3 with ⟨h1, _⟩ | ⟨h1, _⟩ | ⟨h1, h2⟩
  ·rw [he, h1] at hw; cases hw
  ·rw [he, h1] at hw; cases hw
  ·exact ⟨.inr (.inl (he.trans h1)), h, fun h0 => .inl h2⟩
 rw [if_neg hw]
 by_cases hfd : (fW ws x.pk).isSome = true
 ·rw [if_pos hfd]
  refine ⟨.inr (.inl rfl), h, fun h0 => .inr ⟨h0, ?_⟩⟩
  obtain ⟨y, hy⟩ := Option.isSome_iff_exists.1 hfd
  exact ⟨y, (fW_mem hy).1, (fW_mem hy).2.trans hpk⟩
 rw [if_neg hfd]
 have hno' : fW ws x.pk = none := by
  cases hx : fW ws x.pk with
  | none => rfl
  | some y => rw [hx] at hfd; exact absurd rfl hfd
 by_cases hc : cnN x.origin ws < 11
 ·rw [if_pos hc]
  refine ⟨.inl rfl, ⟨h.ks, dk_snoc h.dk hno', fun y hy => ?_, fun r => ?_⟩, fun h0 => .inr ⟨h0, x, by simp, hpk⟩⟩
  ·rcases List.mem_append.1 hy with hy | hy
   ·exact h.of y hy
   ·rw [List.mem_singleton.1 hy]; exact ⟨m, hm, hb⟩
  ·rw [cnN_snoc]
   have := h.cn r
   by_cases hr : x.origin = r
   ·rw [if_pos hr]; rw [hr] at hc; omega
   ·rw [if_neg hr]; omega
 rw [if_neg hc]
 obtain ⟨y, hy1, hy2, hy3⟩ := mx_mem x.origin ws (by omega)
 by_cases hl : mxN x.origin ws < x.number
 ·rw [if_pos hl]
  refine ⟨.inr (.inr rfl), h, fun h0 => ?_⟩
  obtain ⟨my, g1, g2⟩ := h.of y hy1
  have g3 := hq y hy1
  rw [chk_b g2] at g3
  have e1 : m.oi = my.oi := by
   have : y.oi = x.oi := by rw [MMsg.oi, MMsg.oi, hy2]
   rw [<- bare_oi hb, <- this, bare_oi g2]
  have h4 : c my.oi < my.number := by
   rcases chk3 hg hf h.ks g1 with ⟨k1, _⟩ | ⟨_, k2⟩ | ⟨k1, _⟩
   ·rw [k1] at g3; cases g3
   ·exact k2
   ·rw [k1] at g3; cases g3
  have h5 : m.number = c m.oi + 1 := by
   rcases h3 with ⟨_, k2, _⟩ | ⟨k1, _⟩ | ⟨k1, _⟩
   ·exact k2
   ·rw [k1] at h0; cases h0
   ·rw [k1] at h0; cases h0
  have h6 := bare_num g2
  rw [e1] at h5
  omega
 rw [if_neg hl]
 have hpy : y.pk = (x.origin, mxN x.origin ws) := Prod.ext hy2 hy3
 rw [<- hpy]
 have hsub : ∀ z ∈ wdel ws y.pk, z ∈ ws := fun z hz => (List.mem_filter.1 hz).1
 refine ⟨.inl rfl, ⟨h.ks, dk_snoc (dk_del h.dk _) (fW_none.2 fun z hz => fW_none.1 hno' z (hsub z hz)), fun z hz => ?_, fun r => ?_⟩, fun h0 => .inr ⟨h0, x, by simp, hpk⟩⟩
 ·rcases List.mem_append.1 hz with hz | hz
  ·exact h.of z (hsub z hz)
  ·rw [List.mem_singleton.1 hz]; exact ⟨m, hm, hb⟩
 ·rw [cnN_snoc]
  have h7 := cn_wdel r h.dk hy1
  have h8 := h.cn r
  rw [<- hy2]
  omega
include hg in
theorem none_step {L ws ws' : List MMsg} {c : Nat -> Nat} (h : Wst all L ws c) (hx : Nx n L ws ws' none) :
  Wst all L (wdel ws' (fstP none)) c /\ Quiet n L (wdel ws' (fstP none)) /\ ∀ m ∈ all, Pend n L ws c m -> m.number <= c m.oi := by
 have e : wdel ws' (fstP none) = ws' := wdel_none hx.zero
 rw [e]
 have hin : ∀ y ∈ ws', y ∈ ws /\ mwB n L y = true := fun y hy => List.mem_filter.1 (hx.perm.subset hy)
 refine ⟨⟨h.ks, ?_, fun y hy => h.of y (hin y hy).1, fun r => ?_⟩, fun y hy => ?_, fun m hm hp => ?_⟩
 ·exact (hx.perm.pairwise_iff (@fun _ _ h => Ne.symm h)).2 (h.dk.filter _)
 ·rw [cnN_perm r hx.perm]; exact Nat.le_trans (cn_filter r ws _) (h.cn r)
 ·have h1 := (hin y hy).2
  have h2 := hx.sel.no rfl y (hin y hy).1
  rw [mwB] at h1
  simpa [h2] using h1
 ·rcases hp with hp | ⟨h0, y, hy, hpk⟩
  ·exact hp
  ·obtain ⟨my, g1, g2⟩ := h.of y hy
   have e3 : my = m := uniq hg g1 hm ((bare_pk g2).symm.trans hpk)
   rw [e3] at g2
   exact absurd ((chk_b g2).trans h0) (hx.sel.no rfl y hy)
include hg hf in
theorem some_step {L ws ws' : List MMsg} {c : Nat -> Nat} (h : Wst all L ws c) {a a' : MMsg} (hx : Nx n L ws ws' (some a)) (ha : a'.bare = a.bare) :
  chk n L a = 0 /\ Wst all (L ++ [a']) (wdel ws' (fstP (some a))) (upd c a.oi (c a.oi + 1)) /\ (wdel ws' (fstP (some a))).length < ws.length /\ ∀ m ∈ all, Pend n L ws c m -> Pend n (L ++ [a']) (wdel ws' (fstP (some a))) (upd c a.oi (c a.oi + 1)) m := by
 obtain ⟨ha1, ha2, _⟩ := hx.sel.is a rfl
 obtain ⟨ma, g1, g2⟩ := h.of a ha1
 have hn := nm_all hg
 have hma : chk n L ma = 0 := (chk_b g2).symm.trans ha2
 have hnum : ma.number = c ma.oi + 1 := by
  rcases chk3 hg hf h.ks g1 with ⟨_, k2, _⟩ | ⟨k1, _⟩ | ⟨k1, _⟩
  ·exact k2
  ·rw [k1] at hma; cases hma
  ·rw [k1] at hma; cases hma
 have hat := h.ks.snoc hn g1 (ha.trans g2) hnum.symm
 rw [<- bare_oi g2] at hat
 have hin : ∀ y ∈ ws', y ∈ ws /\ mwB n L y = true := fun y hy => List.mem_filter.1 (hx.perm.subset hy)
 have hd' : Dk ws' := (hx.perm.pairwise_iff (@fun _ _ h => Ne.symm h)).2 (h.dk.filter _)
 have ha3 := (hx.is hd').1
 have hle : ws'.length <= ws.length := by rw [hx.perm.length_eq]; exact List.length_filter_le _ _
 have hlen := (wdel_perm hd' ha3).length_eq
 rw [List.length_cons] at hlen
 have hf1 : fstP (some a) = a.pk := rfl
 rw [hf1]
 have hsub : ∀ z ∈ wdel ws' a.pk, z ∈ ws' := fun z hz => (List.mem_filter.1 hz).1
 refine ⟨ha2, ⟨hat, dk_del hd' _, fun y hy => h.of y (hin y (hsub y hy)).1, fun r => ?_⟩, by omega, fun m hm hp => ?_⟩
 ·refine Nat.le_trans (cn_filter r ws' _) ?_
  rw [cnN_perm r hx.perm]; exact Nat.le_trans (cn_filter r ws _) (h.cn r)
 ·have hup : ∀ o, c o <= upd c a.oi (c a.oi + 1) o := fun o => by
   by_cases e : o = a.oi
   ·rw [e, upd_same]; omega
   ·rw [upd_ne _ _ e]; exact Nat.le_refl _
  rcases hp with hp | ⟨h0, y, hy, hpk⟩
  ·exact .inl (Nat.le_trans hp (hup _))
  ·obtain ⟨my, k1, k2⟩ := h.of y hy
   have e3 : my = m := uniq hg k1 hm ((bare_pk k2).symm.trans hpk)
   subst e3
   have hy0 : chk n L y = 0 := (chk_b k2).trans h0
   have hmn : my.number = c my.oi + 1 /\ ∀ j, j < 11 -> my.deps.getD j 0 <= c j := by
    rcases chk3 hg hf h.ks k1 with ⟨_, q2, q3⟩ | ⟨q1, _⟩ | ⟨q1, _⟩
    ·exact ⟨q2, q3⟩
    ·rw [q1] at h0; cases h0
    ·rw [q1] at h0; cases h0
   by_cases e : my.oi = a.oi
   ·refine .inl ?_
    rw [e, upd_same, <- e]
    omega
   ·obtain ⟨p, hp⟩ := List.mem_iff_getElem?.1 k1
    refine .inr ⟨at_chk hat hn (hf my k1) (hg p my hp) (by rw [upd_ne _ _ e]; exact hmn.1.symm) fun j hj => Nat.le_trans (hmn.2 j hj) (hup j), y, ?_, hpk⟩
    refine List.mem_filter.2 ⟨hx.perm.symm.subset (List.mem_filter.2 ⟨hy, by simp [mwB, hy0]⟩), ?_⟩
    have : y.pk ≠ a.pk := fun q => e (by rw [<- bare_oi k2]; exact pk_oi q)
    simp [this]
include hg hf in
theorem ready_at {L : List MMsg} {c : Nat -> Nat} (h : At L all c) {s : Nat} (hk : ∀ m ∈ all.take s, m.number <= c m.oi) {m : MMsg} (hs : all[s]? = some m) : chk n L m = 0 \/ m.number <= c m.oi := by
 have hm := List.mem_of_getElem? hs
 have hn := nm_all hg
 have hz := hg s m hs
 obtain ⟨_, _, _, h4, _, h6⟩ := chk_zero hz
 have hns := nm_world hg s (Nat.le_of_lt (List.getElem?_eq_some_iff.1 hs).1)
 have hc : ∀ o, Sh.cnt (all.take s) o <= c o := fun o => by
  by_cases h0 : Sh.cnt (all.take s) o = 0
  ·omega
  ·obtain ⟨x, hx⟩ : ∃ x, (st (all.take s) o)[Sh.cnt (all.take s) o - 1]? = some x := ⟨_, List.getElem?_eq_getElem (by rw [st_length]; omega)⟩
   have h1 := nm_st hns hx
   have h2 := List.mem_filter.1 (List.mem_of_getElem? hx)
   have h3 := hk x h2.1
   rw [oi_of (of_decide_eq_true h2.2)] at h3
   omega
 by_cases ha : m.number <= c m.oi
 ·exact .inr ha
 ·have := hc m.oi
  refine .inl (at_chk h hn (hf m hm) hz (by omega) fun j hj => ?_)
  have h7 := blw_le (kn_length _) (hf m hm).1 h6 hj
  rw [kn_getD _ hj] at h7
  exact Nat.le_trans h7 (hc j)
include hg hf in
theorem all_known {L ws : List MMsg} {c : Nat -> Nat} (h : Wst all L ws c) (hq : Quiet n L ws) (hk : ∀ m ∈ all, m.number <= c m.oi) : L.length = all.length /\ ws = [] := by
 have e : notYet c all = [] := List.filter_eq_nil_iff.2 fun m hm => by have := hk m hm; simp; omega
 have hl := notYet_length (nm_all hg) h.ks
 rw [e] at hl
 refine ⟨by simpa using hl, ?_⟩
 cases ws with
 | nil => rfl
 | cons y ws =>
  obtain ⟨m, h1, h2⟩ := h.of y (by simp)
  have h3 := hq y (by simp)
  rw [chk_b h2] at h3
  have h4 := hk m h1
  rcases chk3 hg hf h.ks h1 with ⟨k1, _⟩ | ⟨_, k2⟩ | ⟨k1, _⟩
  ·rw [k1] at h3; cases h3
  ·omega
  ·rw [k1] at h3; cases h3
end
open Go.RowKit
theorem turn_at (a : Nat) {M r : Nat} (hr : r < M) : ∃ t, a <= t /\ t < a + M /\ t % M = r := by
 have h1 := Nat.div_add_mod a M
 have h2 := Nat.mod_lt a (show 0 < M by omega)
 by_cases h : a % M <= r
 ·refine ⟨M * (a / M) + r, by omega, by omega, ?_⟩
  rw [Nat.mul_add_mod, Nat.mod_eq_of_lt hr]
 ·refine ⟨M * (a / M) + (M + r), by omega, by omega, ?_⟩
  rw [Nat.mul_add_mod, Nat.add_mod_left, Nat.mod_eq_of_lt hr]
def Sw (all : List MMsg) (p i : Nat) (c : Nat -> Nat) : Prop :=
 ∀ s, p + s * all.length <= i -> (∀ m ∈ all.take s, m.number <= c m.oi) /\ ∀ m t, all[s]? = some m -> p + s * all.length <= t -> t < i -> all.length - 1 - t % all.length = s -> m.number <= c m.oi
theorem sw_start (all : List MMsg) {p i : Nat} (hi : i <= p) (hp : 0 < all.length) (c : Nat -> Nat) : Sw all p i c := fun s hs => by
 have h0 : s = 0 := by
  cases s with
  | zero => rfl
  | succ s => rw [Nat.succ_mul] at hs; omega
 subst h0
 exact ⟨fun m hm => by simp at hm, fun m t _ h1 h2 => by omega⟩
section
variable {n : Nat} {all : List MMsg} (hg : ∀ (i : Nat) (m : MMsg), all[i]? = some m -> chk n (all.take i) m = 0) (hf : ∀ m ∈ all, m.Wf)
include hg hf
theorem Sw.step {p i : Nat} {c c' : Nat -> Nat} (h : Sw all p i c) (hM : 0 < all.length) {L : List MMsg} (hL : At L all c) (hc : ∀ o, c o <= c' o)
  (hm : ∀ m, all[all.length - 1 - i % all.length]? = some m -> (chk n L m = 0 \/ m.number <= c m.oi) -> m.number <= c' m.oi) : Sw all p (i + 1) c' := by
 have k1 : ∀ s, p + s * all.length <= i -> ∀ m ∈ all.take s, m.number <= c m.oi := fun s hs => (h s hs).1
 have k2 : ∀ s, p + s * all.length <= i -> ∀ m t, all[s]? = some m -> p + s * all.length <= t -> t < i + 1 -> all.length - 1 - t % all.length = s -> m.number <= c' m.oi := by
  intro s hs m t hm' h1 h2 h3
  by_cases ht : t < i
  ·exact Nat.le_trans ((h s hs).2 m t hm' h1 ht h3) (hc _)
  ·have e : t = i := by omega
   subst e
   exact hm m (by rw [h3]; exact hm') (ready_at hg hf hL (k1 s hs) hm')
 intro s hs
 by_cases hi : p + s * all.length <= i
 ·exact ⟨fun m hm' => Nat.le_trans (k1 s hi m hm') (hc _), k2 s hi⟩
 ·refine ⟨?_, fun m t _ h1 h2 => by omega⟩
  cases s with
  | zero => intro m hm'; simp at hm'
  | succ s =>
   have hs2 : p + s * all.length + all.length = i + 1 := by rw [Nat.succ_mul] at hs hi; omega
   have hs3 : p + s * all.length <= i := by omega
   intro m hm'
   rw [List.take_add_one] at hm'
   rcases List.mem_append.1 hm' with hm' | hm'
   ·exact Nat.le_trans (k1 s hs3 m hm') (hc _)
   ·cases hx : all[s]? with
    | none => rw [hx] at hm'; simp at hm'
    | some x =>
     rw [hx] at hm'
     have e : m = x := by simpa using hm'
     subst e
     have hsM := (List.getElem?_eq_some_iff.1 hx).1
     obtain ⟨t, t1, t2, t3⟩ := turn_at (p + s * all.length) (show all.length - 1 - s < all.length by omega)
     exact k2 s hs3 m t hx t1 (by omega) (by rw [t3]; omega)
end
theorem Sw.done {all : List MMsg} {p i : Nat} {c : Nat -> Nat} (h : Sw all p i c) (hi : p + all.length * all.length <= i) : ∀ m ∈ all, m.number <= c m.oi := by
 have := (h all.length hi).1
 rwa [List.take_length] at this
open Go.RowKit
theorem pk_may {m : MMsg} (h : m.may) : PkOk m.pk := by
 have h1 : 1 <= m.origin /\ m.origin <= 11 := of_decide_eq_true h.1
 have h2 : m.number <= 65536 := (of_decide_eq_true h.2.1.1).2
 refine ⟨?_, u64_lit (by show m.number < _; omega)⟩
 show (Lit.int .i64 m.origin).wf = true
 simp [Lit.wf, IntKind.min, IntKind.max, IntKind.signed, IntKind.bits]
 omega
section
variable {n : Nat} {all : List MMsg} (hg : ∀ (i : Nat) (m : MMsg), all[i]? = some m -> chk n (all.take i) m = 0)
include hg in
theorem world_m {m : MMsg} (hm : m ∈ all) : m.body.qs.length <= 1000000 /\ PkOk m.pk /\ 1 <= m.origin /\ m.origin <= 11 := by
 obtain ⟨j, hj⟩ := List.mem_iff_getElem?.1 hm
 have h0 := hg j m hj
 have h1 := (chk_zero h0).1
 exact ⟨Nat.le_trans (chk_few h0) (by decide), pk_may h1, of_decide_eq_true h1.1⟩
include hg in
theorem Wst.room {L ws : List MMsg} {c : Nat -> Nat} (h : Wst all L ws c) : ws.length <= 121 := by
 rw [<- sumTo_all ws fun x hx => by
  obtain ⟨m, h1, h2⟩ := h.of x hx
  have := (world_m hg h1).2.2
  have e : x.origin = m.origin := congrArg Prod.fst (bare_pk h2)
  rw [e]; exact this]
 have key : ∀ j, sumTo ws j <= 11 * j := fun j => by
  induction j with
  | zero => exact Nat.le_refl _
  | succ j ih =>
   have h1 := h.cn ((j : Int) + 1)
   have h2 : cnt ws j = cnN ((j : Int) + 1) ws := (st_length ws j).symm
   simp only [sumTo]
   omega
 exact key 11
end
end Go.Proofs.YtllbbcifcbkgeaaGreatDoor.Sh
