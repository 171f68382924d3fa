/- Laws and walks. -/
import Derived.Test.YtllbbcifcbkgeaaGreatDoorH13a
set_option maxHeartbeats 16000000
set_option maxRecDepth 100000
namespace Go.Proofs.YtllbbcifcbkgeaaGreatDoor.Sh
open Go.RowKit
theorem rl_kept {W W' : World} {k it : Nat} (h1 : W'.heap[k]? = W.heap[k]?) (h2 : W'.heap[it]? = W.heap[it]?) : W'.rangeLeft k it = W.rangeLeft k it := by
 unfold World.rangeLeft
 rw [h1, h2]
structure WgAt (W : World) (b k it n c : Nat) (ws rs : List MMsg) : Prop where
 top : W.heap[b]? = some (.cells #[.map (some k)] 108 (0, 0))
 kb : k ≠ b
 rg : ∃ D left cnt, W.ranges Tryz.prog 55 rdM k it n D left cnt /\ Says D (fW ws) ws.length /\ Left left rs
 sub : ∀ m ∈ rs, m ∈ ws
 dk : Dk ws
 wf : ∀ m ∈ ws, m.Wf /\ PkOk m.pk /\ Prs W m.body.qa m.body.qs /\ m.body.qs.length <= 1000000
 qb : ∀ m ∈ ws, ∀ g, m.onQ g -> g ≠ b /\ k ≠ g /\ it ≠ g
 itb : it ≠ b
 rl : W.rangeLeft k it = c
def OnWg (b k it : Nat) (ws : List MMsg) (j : Nat) : Prop := OnW b (some k) ws j \/ j = it
def wgT (b k it n c : Nat) (ws rs : List MMsg) : Thing := ⟨fun W => WgAt W b k it n c ws rs, OnWg b k it ws⟩
theorem wgT_ok (b k it n c : Nat) (ws rs : List MMsg) : (wgT b k it n c ws rs).Ok := by
 refine ⟨fun W W' (h : WgAt W b k it n c ws rs) hk => ⟨(hk b (.inl (.inl rfl))).trans h.top, h.kb, ?_, h.sub, h.dk, fun m hm => ⟨(h.wf m hm).1, (h.wf m hm).2.1, prs_kept (h.wf m hm).2.2.1 fun g hg => hk g (.inl (.inr (.inr ⟨m, hm, hg⟩))), (h.wf m hm).2.2.2⟩, h.qb, h.itb, (rl_kept (hk k (.inl (.inr (.inl rfl)))) (hk it (.inr rfl))).trans h.rl⟩, fun W (h : WgAt W b k it n c ws rs) j hj => ?_⟩
 ·obtain ⟨D, left, cnt, h1, h2⟩ := h.rg
  exact ⟨D, left, cnt, ranges_of h1 (hk k (.inl (.inr (.inl rfl)))) (hk it (.inr rfl)), h2⟩
 ·obtain ⟨D, left, cnt, h1, h2⟩ := h.rg
  rcases hj with (rfl | hj | ⟨m, hm, hg⟩) | rfl
  ·exact (Array.getElem?_eq_some_iff.1 h.top).1
  ·injection hj with hj; rw [<- hj]; exact h1.owns.lt
  ·exact prs_lt (h.wf m hm).2.2.1 hg
  ·exact h1.lt
theorem wr_begin {v W : World} {os : List Thing} {b k : Nat} {ws : List MMsg} (H : Fr v W (waT b (some k) ws :: os)) :
  ∃ D, W.ownsMap Tryz.prog 55 rdM k ws.length D /\ ∀ W' cnt, W'.ranges Tryz.prog 55 rdM k W.heap.size ws.length D (Maps.has D) cnt -> W.grownBy W' none -> Fr v W' (wgT b k W.heap.size ws.length cnt ws ws :: os) := by
 have h : WaitAt W b (some k) ws := H.hd
 obtain ⟨k', e, hkb, D, ho, hs⟩ := h.mp.resolve_left (fun x => by cases x.1)
 injection e with e
 subst e
 refine ⟨D, ho, fun W' cnt hr hg => ?_⟩
 have hb : Below W.heap.size W W' := ⟨hg.os, hg.tape, hg.output, hg.size, fun i hi => hg.block i hi (by simp)⟩
 have H' := H.below hb
 have h' : WaitAt W' b (some k) ws := H'.hd
 have hlb : b < W.heap.size := (Array.getElem?_eq_some_iff.1 h.top).1
 refine H.turn (o' := wgT b k W.heap.size ws.length cnt ws ws) ⟨Turns.of_below hb, fun j hj => hj.elim (fun x => .inl x) fun x => .inr (by rw [x]; exact Nat.le_refl _)⟩
  ⟨h'.top, hkb, ⟨D, _, cnt, hr, hs, left_all h.dk (fun m hm => (h.wf m hm).2.1) hs⟩, fun m hm => hm, h.dk, h'.wf, fun m hm g hg' => ⟨(h.qb m hm g hg').1, fun x => (h.qb m hm g hg').2 (by rw [x]), fun x => ?_⟩, by omega, hr.left_eq⟩ (wgT_ok _ _ _ _ _ _ _)
 have := prs_lt (h.wf m hm).2.2.1 hg'
 omega
theorem wr_end {v W : World} {os : List Thing} {b k it n c : Nat} {ws rs : List MMsg} (H : Fr v W (wgT b k it n c ws rs :: os)) : Fr v W (waT b (some k) ws :: os) := by
 have h : WgAt W b k it n c ws rs := H.hd
 obtain ⟨D, left, cnt, h1, h2, h3⟩ := h.rg
 refine H.as (o' := waT b (some k) ws) ⟨h.top, .inr ⟨k, rfl, h.kb, mapP_tight ⟨D, h1.owns, h2⟩⟩, h.dk, h.wf, fun m hm g hg => ⟨(h.qb m hm g hg).1, fun x => (h.qb m hm g hg).2.1 (by injection x)⟩⟩ (waT_ok _ _ _) fun j hj => .inl hj
theorem wpList_next_wg {v w : World} {os : List Thing} {b k it n c : Nat} {ws rs : List MMsg} {ops : Array Oper} {rest : List Oper} {o : Oper} {a : Act} {Q : Exit -> Act -> World -> Prop} (hgd : o.guard = none) (i : Operand) (hop : o.op = Op.next i false) (hit : a.eval i = .pointer (some ⟨it, 0, none⟩)) (H : Fr v w (wgT b k it n c ws rs :: os))
  (hDone : rs = [] -> wpList Tryz.prog ops Q rest (a.put o.dst (.tuple #[.bool false])) w)
  (hMore : ∀ (m : MMsg) (w' : World) (c' : Nat), m ∈ rs -> Fr v w' (wgT b k it n c' ws (wdel rs m.pk) :: os) -> c' < c -> (Instr.entry (.pointer (some ⟨it, 0, none⟩))).run Tryz.prog w' = .ok (.tuple #[kv m.pk, .agg (msgC m).toArray]) w' -> wpList Tryz.prog ops Q rest (a.put o.dst (.tuple #[.bool true, kv m.pk, .agg (msgC m).toArray])) w') :
  wpList Tryz.prog ops Q (o :: rest) a w := by
 have h : WgAt w b k it n c ws rs := H.hd
 obtain ⟨D, left, cnt, h1, h2, h3⟩ := h.rg
 refine wpList_next_wait hgd i hop hit h1 h3 h.sub h.dk h2 hDone fun m w' cnt' hm hr hlt hg hs hen => hMore m w' cnt' hm ?_ (by rw [<- h.rl, h1.left_eq]; exact hlt) hen
 have hne := h1.ne
 refine H.turn (o' := wgT b k it n cnt' ws (wdel rs m.pk)) (own_grown (F := OnWg b k it ws) hg (.inr rfl)) ⟨(hg.block b (Array.getElem?_eq_some_iff.1 h.top).1 (fun x => h.itb (by injection x with x; exact x.symm))).trans h.top, h.kb, ⟨D, _, cnt', hr, h2, left_next h3 hm⟩, fun x hx => h.sub x (List.mem_filter.1 hx).1, h.dk, fun x hx => ⟨(h.wf x hx).1, (h.wf x hx).2.1, prs_kept (h.wf x hx).2.2.1 fun g hg' => hg.block g (prs_lt (h.wf x hx).2.2.1 hg') (fun e => (h.qb x hx g hg').2.2 (by injection e with e; exact e.symm)), (h.wf x hx).2.2.2⟩, h.qb, h.itb, hr.left_eq⟩ (wgT_ok _ _ _ _ _ _ _)
theorem wg_del {v W : World} {os : List Thing} {b k it n c : Nat} {ws rs : List MMsg} {p : Int × Nat} (H : Fr v W (wgT b k it n c ws rs :: os)) (hp : PkOk p) (hr : ∀ m ∈ rs, m.pk ≠ p) (ty : TypeId) :
  ∃ W' c', (Builtin.delete_ #[106, 55] ty #[.map (some k), kv p]).run Tryz.prog W = .ok (.tuple #[]) W' /\ Fr v W' (wgT b k it n c' (wdel ws p) rs :: os) /\ c' <= c /\ W.grownBy W' (some k) := by
 have h : WgAt W b k it n c ws rs := H.hd
 obtain ⟨D, left, cnt, h1, h2, h3⟩ := h.rg
 obtain ⟨W', cnt', r1, r2, r3, r4⟩ := h1.drop keyedP Tryz.underlying106 (keyP hp) ty
 have hg := r4.grown
 have hsub : ∀ x ∈ wdel ws p, x ∈ ws := fun x hx => (List.mem_filter.1 hx).1
 have hsay : Says (D.del (kl p)) (fW (wdel ws p)) (wdel ws p).length := by
  rw [fW_del, wdel_length h.dk]
  exact says_del (h1.owns.tidy keyedP) h2 hp
 have hleft : Left (fun x => left x && !x.sameKey (kl p)) rs := by
  refine ⟨fun l hl => ?_, fun m hm => ?_, h3.2.2.1, h3.2.2.2⟩
  ·simp only [Bool.and_eq_true] at hl
   exact h3.1 l hl.1
  ·have hne : (kl m.pk).sameKey (kl p) = false := Maps.sameKey_ne (kl_ne hp (h3.2.2.1 m hm) (hr m hm))
   simp [h3.2.1 m hm, hne]
 refine ⟨W', cnt', r1, H.turn (o' := wgT b k it n cnt' (wdel ws p) rs) ⟨(Turns.refl _ W).grown hg fun g e => by cases e; exact .inl (.inl (.inr (.inl rfl))), fun j hj => ?_⟩ ⟨(hg.block b (Array.getElem?_eq_some_iff.1 h.top).1 (fun x => h.kb (by injection x with x; exact x.symm))).trans h.top, h.kb, ⟨_, _, cnt', r2, hsay, hleft⟩, fun m hm => List.mem_filter.2 ⟨h.sub m hm, by simpa using hr m hm⟩, dk_del h.dk p, fun x hx => ?_, fun x hx => h.qb x (hsub x hx), h.itb, r2.left_eq⟩ (wgT_ok _ _ _ _ _ _ _), by rw [<- h.rl, h1.left_eq]; exact r3, hg⟩
 ·rcases hj with (rfl | hj | ⟨x, hx, hg'⟩) | rfl
  ·exact .inl (.inl (.inl rfl))
  ·exact .inl (.inl (.inr (.inl hj)))
  ·exact .inl (.inl (.inr (.inr ⟨x, hsub x hx, hg'⟩)))
  ·exact .inl (.inr rfl)
 ·obtain ⟨a1, a2, a3, a4⟩ := h.wf x (hsub x hx)
  exact ⟨a1, a2, prs_kept a3 fun g hg' => hg.block g (prs_lt a3 hg') (fun e => (h.qb x (hsub x hx) g hg').2.1 (Option.some.inj e).symm), a4⟩
open Go.RowKit
noncomputable def mwB (n : Nat) (L : List MMsg) (m : MMsg) : Bool := decide (chk n L m = 0) || decide (chk n L m = 12)
structure Sel (n : Nat) (L good : List MMsg) (o : Option MMsg) : Prop where
 no : o = none -> ∀ m ∈ good, chk n L m ≠ 0
 is : ∀ a, o = some a -> a ∈ good /\ chk n L a = 0 /\ ∀ m ∈ good, chk n L m = 0 -> a.origin <= m.origin
theorem sel_nil (n : Nat) (L : List MMsg) : Sel n L [] none := ⟨fun _ _ h => (by cases h), fun _ h => (by cases h)⟩
theorem Sel.more {n : Nat} {L good : List MMsg} {o : Option MMsg} (h : Sel n L good o) {m : MMsg} (hm : chk n L m ≠ 0) : Sel n L (good ++ [m]) o := by
 refine ⟨fun e x hx => ?_, fun a e => ?_⟩
 ·rcases List.mem_append.1 hx with hx | hx
  ·exact h.no e x hx
  ·rw [List.mem_singleton.1 hx]; exact hm
 ·obtain ⟨h1, h2, h3⟩ := h.is a e
  refine ⟨List.mem_append_left _ h1, h2, fun x hx h0 => ?_⟩
  rcases List.mem_append.1 hx with hx | hx
  ·exact h3 x hx h0
  ·rw [List.mem_singleton.1 hx] at h0; exact absurd h0 hm
theorem Sel.first {n : Nat} {L good : List MMsg} (h : Sel n L good none) {m : MMsg} (hm : chk n L m = 0) : Sel n L (good ++ [m]) (some m) := by
 refine ⟨fun e => (by cases e), fun a e => ?_⟩
 injection e with e
 subst e
 refine ⟨List.mem_append_right _ (List.mem_singleton.2 rfl), hm, fun x hx h0 => ?_⟩
 rcases List.mem_append.1 hx with hx | hx
 ·exact absurd h0 (h.no rfl x hx)
 ·rw [List.mem_singleton.1 hx]; exact Int.le_refl _
theorem Sel.less {n : Nat} {L good : List MMsg} {b : MMsg} (h : Sel n L good (some b)) {m : MMsg} (hm : chk n L m = 0) (hl : m.origin < b.origin) : Sel n L (good ++ [m]) (some m) := by
 refine ⟨fun e => (by cases e), fun a e => ?_⟩
 injection e with e
 subst e
 refine ⟨List.mem_append_right _ (List.mem_singleton.2 rfl), hm, fun x hx h0 => ?_⟩
 rcases List.mem_append.1 hx with hx | hx
 ·have := (h.is b rfl).2.2 x hx h0; omega
 ·rw [List.mem_singleton.1 hx]; exact Int.le_refl _
theorem Sel.keep {n : Nat} {L good : List MMsg} {b : MMsg} (h : Sel n L good (some b)) {m : MMsg} (hl : b.origin <= m.origin) : Sel n L (good ++ [m]) (some b) := by
 refine ⟨fun e => (by cases e), fun a e => ?_⟩
 injection e with e
 subst e
 obtain ⟨h1, h2, h3⟩ := h.is b rfl
 refine ⟨List.mem_append_left _ h1, h2, fun x hx h0 => ?_⟩
 rcases List.mem_append.1 hx with hx | hx
 ·exact h3 x hx h0
 ·rw [List.mem_singleton.1 hx]; exact hl
structure Gone (n : Nat) (L ws rs ws' : List MMsg) (o : Option MMsg) : Prop where
 ex : ∃ good bad, (good ++ bad ++ rs).Perm ws /\ ws'.Perm (good ++ rs) /\ (∀ m ∈ good, mwB n L m = true) /\ (∀ m ∈ bad, mwB n L m = false) /\ Sel n L good o
theorem gone_start (n : Nat) (L ws : List MMsg) : Gone n L ws ws ws none := ⟨[], [], List.Perm.refl _, List.Perm.refl _, fun _ h => (by cases h), fun _ h => (by cases h), sel_nil n L⟩
theorem perm_mid (a b : List MMsg) (m : MMsg) (r : List MMsg) : ((a ++ [m]) ++ b ++ r).Perm (a ++ b ++ (m :: r)) := by
 rw [List.append_assoc, List.append_assoc, List.append_assoc]
 refine List.Perm.append_left a ?_
 show (m :: (b ++ r)).Perm (b ++ m :: r)
 exact (List.perm_middle).symm
theorem Gone.good {n : Nat} {L ws rs ws' : List MMsg} {o o' : Option MMsg} (h : Gone n L ws rs ws' o) (hd : Dk rs) {m : MMsg} (hm : m ∈ rs) (hw : mwB n L m = true) (hs : ∀ good, Sel n L good o -> Sel n L (good ++ [m]) o') : Gone n L ws (wdel rs m.pk) ws' o' := by
 obtain ⟨good, bad, h1, h2, h3, h4, h5⟩ := h.ex
 have hp := wdel_perm hd hm
 refine ⟨good ++ [m], bad, (perm_mid good bad m _).trans ((hp.append_left _).trans h1), h2.trans ?_, fun x hx => ?_, h4, hs good h5⟩
 ·rw [List.append_assoc]
  exact (hp.append_left good).symm
 ·rcases List.mem_append.1 hx with hx | hx
  ·exact h3 x hx
  ·rw [List.mem_singleton.1 hx]; exact hw
theorem Gone.bad {n : Nat} {L ws rs ws' : List MMsg} {o : Option MMsg} (h : Gone n L ws rs ws' o) (hd : Dk rs) (hd' : Dk ws') {m : MMsg} (hm : m ∈ rs) (hw : mwB n L m = false) : Gone n L ws (wdel rs m.pk) (wdel ws' m.pk) o := by
 obtain ⟨good, bad, h1, h2, h3, h4, h5⟩ := h.ex
 have hp := wdel_perm hd hm
 have hm' : m ∈ ws' := h2.symm.subset (List.mem_append_right _ hm)
 have hp' := wdel_perm hd' hm'
 refine ⟨good, bad ++ [m], ?_, ?_, h3, fun x hx => ?_, h5⟩
 ·refine List.Perm.trans ?_ h1
  rw [List.append_assoc, List.append_assoc, List.append_assoc]
  exact List.Perm.append_left _ (List.Perm.append_left _ hp)
 ·have h6 : (m :: wdel ws' m.pk).Perm (m :: (good ++ wdel rs m.pk)) := hp'.trans (h2.trans ((hp.symm.append_left good).trans List.perm_middle))
  exact (List.perm_cons m).1 h6
 ·rcases List.mem_append.1 hx with hx | hx
  ·exact h4 x hx
  ·rw [List.mem_singleton.1 hx]; exact hw
structure Nx (n : Nat) (L ws ws' : List MMsg) (o : Option MMsg) : Prop where
 perm : ws'.Perm (ws.filter (mwB n L))
 sel : Sel n L ws o
theorem Gone.done {n : Nat} {L ws ws' : List MMsg} {o : Option MMsg} (h : Gone n L ws [] ws' o) : Nx n L ws ws' o := by
 obtain ⟨good, bad, h1, h2, h3, h4, h5⟩ := h.ex
 rw [List.append_nil] at h1 h2
 refine ⟨h2.trans ?_, fun e m hm h0 => ?_, fun a e => ?_⟩
 ·have := h1.filter (mwB n L)
  rw [List.filter_append, List.filter_eq_self.2 h3, List.filter_eq_nil_iff.2 (fun x hx => by simp [h4 x hx]), List.append_nil] at this
  exact this
 ·rcases List.mem_append.1 (h1.symm.subset hm) with hx | hx
  ·exact h5.no e m hx h0
  ·have := h4 m hx; rw [mwB, h0] at this; simp at this
 ·obtain ⟨g1, g2, g3⟩ := h5.is a e
  refine ⟨h1.subset (List.mem_append_left _ g1), g2, fun m hm h0 => ?_⟩
  rcases List.mem_append.1 (h1.symm.subset hm) with hx | hx
  ·exact g3 m hx h0
  ·have := h4 m hx; rw [mwB, h0] at this; simp at this
theorem mwB_may {n : Nat} {L : List MMsg} {m : MMsg} (h : mwB n L m = true) : m.may := by
 refine Classical.byContradiction fun hm => ?_
 rw [mwB, chk_may hm] at h
 simp at h
theorem Nx.zero {n : Nat} {L ws ws' : List MMsg} {o : Option MMsg} (h : Nx n L ws ws' o) : fW ws' (0, 0) = none := fW_none.2 fun m hm e => by
 have h1 := (List.mem_filter.1 (h.perm.subset hm)).2
 have h2 : 1 <= m.origin /\ m.origin <= 11 := of_decide_eq_true (mwB_may h1).1
 have h3 : m.origin = 0 := congrArg Prod.fst e
 omega
theorem Nx.is {n : Nat} {L ws ws' : List MMsg} {a : MMsg} (h : Nx n L ws ws' (some a)) (hd : Dk ws') : a ∈ ws' /\ fW ws' a.pk = some a := by
 obtain ⟨h1, h2, _⟩ := h.sel.is a rfl
 have : a ∈ ws' := h.perm.symm.subset (List.mem_filter.2 ⟨h1, by simp [mwB, h2]⟩)
 exact ⟨this, fW_of hd this⟩
def fstP (o : Option MMsg) : Int × Nat := (o.map MMsg.pk).getD (0, 0)
theorem Nx.look {n : Nat} {L ws ws' : List MMsg} {o : Option MMsg} (h : Nx n L ws ws' o) (hd : Dk ws') : fW ws' (fstP o) = o := by
 cases o with
 | none => exact h.zero
 | some a => exact (h.is hd).2
theorem wdel_none {ws : List MMsg} {p : Int × Nat} (h : fW ws p = none) : wdel ws p = ws := List.filter_eq_self.2 fun m hm => by simpa using fW_none.1 h m hm
end Go.Proofs.YtllbbcifcbkgeaaGreatDoor.Sh
