/- Laws and walks. -/
import Derived.Test.YtllbbcifcbkgeaaGreatDoorH1a
set_option maxHeartbeats 16000000
set_option maxRecDepth 100000
namespace Go.Proofs.YtllbbcifcbkgeaaGreatDoor.Sh
open Go.RowKit
def MMsg.pk (m : MMsg) : Int × Nat := (m.origin, m.number)
def fW (ws : List MMsg) (p : Int × Nat) : Option MMsg := ws.find? fun m => decide (m.pk = p)
def Dk (ws : List MMsg) : Prop := ws.Pairwise fun a b => a.pk ≠ b.pk
theorem fW_mem {ws : List MMsg} {p : Int × Nat} {m : MMsg} (h : fW ws p = some m) : m ∈ ws /\ m.pk = p := ⟨List.mem_of_find?_eq_some h, by have := List.find?_some (p := fun m : MMsg => decide (m.pk = p)) h; exact of_decide_eq_true this⟩
theorem fW_of {ws : List MMsg} (hd : Dk ws) {m : MMsg} (h : m ∈ ws) : fW ws m.pk = some m := by
 induction ws with
 | nil => cases h
 | cons a ws ih =>
  obtain ⟨h1, h2⟩ := List.pairwise_cons.1 hd
  rw [fW, List.find?_cons]
  rcases List.mem_cons.1 h with e | h
  ·subst e; simp
  ·have := h1 m h
   simp only [this, decide_false]
   exact ih h2 h
theorem fW_none {ws : List MMsg} {p : Int × Nat} : fW ws p = none ↔ ∀ m ∈ ws, m.pk ≠ p := by
 rw [fW, List.find?_eq_none]
 exact ⟨fun h m hm e => h m hm (decide_eq_true e), fun h m hm e => h m hm (of_decide_eq_true e)⟩
theorem fW_snoc {ws : List MMsg} {m : MMsg} (h : fW ws m.pk = none) : fW (ws ++ [m]) = updP (fW ws) m.pk (some m) := by
 funext q
 rw [fW, List.find?_append]
 by_cases e : q = m.pk
 ·subst e
  have h' := h
  rw [fW] at h'
  rw [updP_same, h']
  simp
 ·rw [updP_other _ _ e]
  have : ¬ m.pk = q := fun x => e x.symm
  cases hx : ws.find? (fun m => decide (m.pk = q)) with
  | none => simp [this, fW, hx]
  | some a => simp [fW, hx]
theorem dk_snoc {ws : List MMsg} (hd : Dk ws) {m : MMsg} (h : fW ws m.pk = none) : Dk (ws ++ [m]) := by
 refine List.pairwise_append.2 ⟨hd, List.pairwise_singleton .., fun a ha b hb => ?_⟩
 rw [List.mem_singleton.1 hb]
 exact fW_none.1 h a ha
def wdel (ws : List MMsg) (p : Int × Nat) : List MMsg := ws.filter fun m => !decide (m.pk = p)
theorem fW_del (ws : List MMsg) (p : Int × Nat) : fW (wdel ws p) = updP (fW ws) p none := by
 funext q
 by_cases e : q = p
 ·subst e
  rw [updP_same, fW_none]
  intro m hm
  have := (List.mem_filter.1 hm).2
  simpa using this
 ·rw [updP_other _ _ e, fW, wdel, List.find?_filter, fW]
  congr 1
  funext m
  by_cases hx : m.pk = q
  ·have : ¬ m.pk = p := fun y => e (hx.symm.trans y)
   simp [hx, e]
  ·simp [hx]
theorem dk_del {ws : List MMsg} (hd : Dk ws) (p : Int × Nat) : Dk (wdel ws p) := hd.filter _
theorem wdel_length {ws : List MMsg} (hd : Dk ws) (p : Int × Nat) : (wdel ws p).length = ws.length - (if (fW ws p).isSome then 1 else 0) := by
 induction ws with
 | nil => rfl
 | cons a ws ih =>
  obtain ⟨h1, h2⟩ := List.pairwise_cons.1 hd
  have ih := ih h2
  by_cases e : a.pk = p
  ·have hn : fW ws p = none := fW_none.2 fun m hm => by rw [<- e]; exact fun x => h1 m hm x.symm
   rw [hn] at ih
   have hs : fW (a :: ws) p = some a := by rw [fW, List.find?_cons]; simp [e]
   rw [hs, wdel, List.filter_cons_of_neg (by simp [e])]
   rw [wdel] at ih
   simpa using ih
  ·have hs : fW (a :: ws) p = fW ws p := by rw [fW, List.find?_cons, fW]; simp [e]
   rw [hs, wdel, List.filter_cons_of_pos (by simp [e])]
   rw [wdel] at ih
   rw [List.length_cons, List.length_cons, ih]
   cases hx : (fW ws p).isSome with
   | false => simp
   | true =>
    have : 0 < ws.length := by
     obtain ⟨m, hm⟩ := Option.isSome_iff_exists.1 hx
     exact List.length_pos_of_mem (fW_mem hm).1
    simp
    omega
structure WaitAt (W : World) (b : Nat) (mb : Option Nat) (ws : List MMsg) : Prop where
 top : W.heap[b]? = some (.cells #[.map mb] 108 (0, 0))
 mp : (mb = none /\ ws = []) \/ ∃ k, mb = some k /\ k ≠ b /\ World.mapP W k ws.length (fW ws) ws.length
 dk : Dk ws
 wf : ∀ m ∈ ws, m.Wf /\ PkOk m.pk /\ Prs W m.body.qa m.body.qs /\ m.body.qs.length <= 1000000
 qb : ∀ m ∈ ws, ∀ g, m.onQ g -> g ≠ b /\ mb ≠ some g
def OnW (b : Nat) (mb : Option Nat) (ws : List MMsg) (k : Nat) : Prop := k = b \/ mb = some k \/ ∃ m ∈ ws, m.onQ k
def waT (b : Nat) (mb : Option Nat) (ws : List MMsg) : Thing := ⟨fun W => WaitAt W b mb ws, OnW b mb ws⟩
theorem waT_ok (b : Nat) (mb : Option Nat) (ws : List MMsg) : (waT b mb ws).Ok := by
 refine ⟨fun W W' (h : WaitAt W b mb ws) hk => ?_, fun W (h : WaitAt W b mb ws) k hk => ?_⟩
 ·refine ⟨(hk b (.inl rfl)).trans h.top, ?_, h.dk, fun m hm => ⟨(h.wf m hm).1, (h.wf m hm).2.1, prs_kept (h.wf m hm).2.2.1 fun g hg => hk g (.inr (.inr ⟨m, hm, hg⟩)), (h.wf m hm).2.2.2⟩, h.qb⟩
  rcases h.mp with h1 | ⟨k, h1, h2, h3⟩
  ·exact .inl h1
  ·exact .inr ⟨k, h1, h2, mapP_kept h3 (hk k (.inr (.inl h1)))⟩
 ·rcases hk with rfl | hk | ⟨m, hm, hg⟩
  ·exact (Array.getElem?_eq_some_iff.1 h.top).1
  ·rcases h.mp with ⟨h1, _⟩ | ⟨k', h1, _, h3⟩
   ·rw [h1] at hk; cases hk
   ·rw [h1] at hk; injection hk with hk; rw [<- hk]; exact mapP_lt h3
  ·exact prs_lt (h.wf m hm).2.2.1 hg
theorem wait_new {v W : World} {os : List Thing} (H : Fr v W os) : Fr v (W.alloc (.cells #[.map none] 108)) (waT W.heap.size none [] :: os) :=
 H.add (bl.alloc (Nat.le_refl _) _) (o := waT W.heap.size none []) ⟨heap_alloc_new W _, .inl ⟨rfl, rfl⟩, List.Pairwise.nil, fun _ h => (by cases h), fun _ h => (by cases h)⟩ (waT_ok _ _ _)
  fun k hk => by rcases hk with rfl | hk | ⟨_, h, _⟩ <;> first | exact Nat.le_refl _ | cases hk | cases h
theorem wlen_any {W : World} {b : Nat} {mb : Option Nat} {ws : List MMsg} (h : WaitAt W b mb ws) : Calls Tryz.prog 37 #[.pointer (some ⟨b, 0, none⟩)] W fun E w' => E = .returned (.int .i64 (ws.length : Int)) /\ W = w' := by
 have hc := block_cell (C := [.map mb]) h.top 0 _ rfl
 rcases h.mp with ⟨rfl, rfl⟩ | ⟨k, rfl, _, D, ho, _, _, _, hs⟩
 ·clear h
  go_enter Tryz.func37, Tryz.ntmps37
  go_wp2
  go_ret
  exact ⟨rfl, rfl⟩
 ·have HO := iq ho
  have HS := iq hs
  clear h ho hs
  go_enter Tryz.func37, Tryz.ntmps37
  go_wp2_with (refine wpList_len_own _ rfl (.tmp 8) 106 rfl 55 52 Tryz.underlying106 rdM k _ D rfl HO.out ?_; rw [HS.out])
  go_ret
  exact ⟨rfl, rfl⟩
open Go.RowKit
theorem Fr.merge {v W : World} {a b c : Thing} {os : List Thing} (H : Fr v W (a :: b :: os)) (hp : c.P W) (ok : c.Ok) (hf : ∀ k, c.F k -> a.F k \/ b.F k) : Fr v W (c :: os) := by
 have hall := H.all
 refine ⟨H.bel, H.ks, H.pos, fun o ho => ?_, ?_⟩
 ·rcases List.mem_cons.1 ho with rfl | ho
  ·exact ⟨hp, ok, fun k hk => (hf k hk).elim (H.ge k) (H.pop.ge k)⟩
  ·exact hall o (by simp [ho])
 ·obtain ⟨ha, hp⟩ := List.pairwise_cons.1 H.apart
  obtain ⟨hb, hp⟩ := List.pairwise_cons.1 hp
  exact List.Pairwise.cons (fun d hd k hk hk' => (hf k hk).elim (fun e => ha d (by simp [hd]) k e hk') (fun e => hb d hd k e hk')) hp
theorem mapP_tight {w : World} {b n s : Nat} {f : Int × Nat -> Option MMsg} (h : World.mapP w b n f s) : World.mapP w b s f s := by
 obtain ⟨D, ⟨es, clock, h1, h2, h3, h4⟩, h5⟩ := h
 have h6 : es.size = s := by rw [<- h5.2.2.2, h4, Maps.size_eq, length_sorted]; simp
 exact ⟨D, ⟨es, clock, h1, h2, by omega, h4⟩, h5⟩
theorem mapP_update {w : World} {b s : Nat} {f : Int × Nat -> Option MMsg} (h : World.mapP w b s f s) (hs : s <= 1000000) {p : Int × Nat} (hp : PkOk p) {m : MMsg} (hm : m.Wf) (hn : f p = none) :
  ∃ w', (Instr.mapUpdate 106 (.map (some b)) (kv p) (.agg (msgC m).toArray)).run Tryz.prog w = .ok () w' /\ World.mapP w' b (s + 1) (updP f p (some m)) (s + 1) /\ w.grownBy w' (some b) := by
 obtain ⟨D, h1, h2⟩ := h
 obtain ⟨w', r1, r2, r3⟩ := h1.update keyedP Tryz.underlying106 (by unfold maxLen; omega) (keyP hp) (rdM_of hm)
 exact ⟨w', r1, ⟨_, r2, says_put h1.isMap (h1.tidy keyedP) h2 hp hm hn⟩, r3⟩
theorem mapP_delete {w : World} {b s : Nat} {f : Int × Nat -> Option MMsg} (h : World.mapP w b s f s) {p : Int × Nat} (hp : PkOk p) (ty : TypeId) :
  ∃ w', (Builtin.delete_ #[106, 55] ty #[.map (some b), kv p]).run Tryz.prog w = .ok (.tuple #[]) w' /\ World.mapP w' b (s - (if (f p).isSome then 1 else 0)) (updP f p none) (s - (if (f p).isSome then 1 else 0)) /\ w.grownBy w' (some b) := by
 obtain ⟨D, h1, h2⟩ := h
 obtain ⟨w', r1, r2, r3⟩ := h1.drop keyedP Tryz.underlying106 (keyP hp) ty
 exact ⟨w', r1, mapP_tight ⟨_, r2, says_del (h1.tidy keyedP) h2 hp⟩, r3.grown⟩
theorem step_mapUpdate {P : Program} {ops : Array Oper} {o : Oper} {a : Act} {w : World} {K : Act -> World -> Prop} {Q : Exit -> Act -> World -> Prop} {E : Prop} (hgd : o.guard = none) (m x y : Operand) (t : TypeId)
  (ho : o.op = Op.mapUpdate t m x y) (v u z : Value) (hs : a.eval m = v) (hx : a.eval x = u) (hy : a.eval y = z) (w' : World) (hr : (Instr.mapUpdate t v u z).run P w = .ok () w') (h : K (a.put o.dst undef) w') : if Region.wanted o (yielded ops a.tmps) = true then Oper.wp P o a w K Q else E := by
 have hw : Region.wanted o (yielded ops a.tmps) = true := by simp [Region.wanted, hgd]
 rw [if_pos hw]
 unfold Oper.wp
 simp [execOp, ho, hs, hx, hy, hr, Result.andThen]
 exact h
theorem step_delete {P : Program} {ops : Array Oper} {o : Oper} {a : Act} {w : World} {K : Act -> World -> Prop} {Q : Exit -> Act -> World -> Prop} {E : Prop} (hgd : o.guard = none) (m x : Operand) (t k : TypeId)
  (ho : o.op = Op.call { callee := Callee.builtin Builtin.delete, args := #[m, x], argTypes := #[t, k] }) (v u : Value) (hs : a.eval m = v) (hx : a.eval x = u) (w' : World) (hr : (Builtin.delete_ #[t, k] o.type #[v, u]).run P w = .ok (.tuple #[]) w') (h : K (a.put o.dst (.tuple #[])) w') : if Region.wanted o (yielded ops a.tmps) = true then Oper.wp P o a w K Q else E := by
 have hw : Region.wanted o (yielded ops a.tmps) = true := by simp [Region.wanted, hgd]
 rw [if_pos hw]
 unfold Oper.wp
 simp [execOp, ho, resolve, invoke, builtin, hs, hx, hr, Result.andThen]
 exact h
theorem wait_made {v W : World} {os : List Thing} {b : Nat} (H : Fr v W (waT b none [] :: os)) : Fr v ((W.alloc (.map #[] 0)).setCell ⟨b, 0, none⟩ (.map (some W.heap.size))) (waT b (some W.heap.size) [] :: os) := by
 have h : WaitAt W b none [] := H.hd
 have hb : b < W.heap.size := (Array.getElem?_eq_some_iff.1 h.top).1
 refine H.turn (o' := waT b (some W.heap.size) []) ⟨((Turns.refl _ W).alloc _).setCell (.inl (.inl rfl)) 0 _, fun k hk => ?_⟩ ⟨?_, .inr ⟨_, rfl, by omega, ?_⟩, List.Pairwise.nil, fun _ h => (by cases h), fun _ h => (by cases h)⟩ (waT_ok _ _ _)
 ·rcases hk with rfl | hk | ⟨_, h, _⟩
  ·exact .inl (.inl rfl)
  ·injection hk with hk; exact .inr (by omega)
  ·cases h
 ·have h1 : (W.alloc (.map #[] 0)).heap[b]? = some (.cells [Value.map none].toArray 108 (0, 0)) := (heap_alloc_old W _ hb).trans h.top
  exact heap_set h1 _
 ·refine mapP_kept (w := W.alloc (.map #[] 0)) (mapP_made W) ?_
  exact Below.heap_setCell _ ⟨b, 0, none⟩ _ _ (by show ¬ W.heap.size = b; omega)
theorem wait_put {v W : World} {os : List Thing} {b k : Nat} {ws : List MMsg} {m : MMsg} (H : Fr v W (qT m :: waT b (some k) ws :: os)) (hm : m.Wf) (hp : PkOk m.pk) (hq : m.body.qs.length <= 1000000) (hn : fW ws m.pk = none) (hs : ws.length <= 1000000) :
  ∃ W', (Instr.mapUpdate 106 (.map (some k)) (kv m.pk) (.agg (msgC m).toArray)).run Tryz.prog W = .ok () W' /\ Fr v W' (waT b (some k) (ws ++ [m]) :: os) /\ W.grownBy W' (some k) := by
 have h : WaitAt W b (some k) ws := H.hd2
 have hap := (List.pairwise_cons.1 H.apart).1 _ (List.mem_cons_self ..)
 rcases h.mp with ⟨e, _⟩ | ⟨k', e, hkb, hmp⟩
 ·cases e
 injection e with e
 subst e
 obtain ⟨W', r1, r2, r3⟩ := mapP_update hmp hs hp hm hn
 have hlt := mapP_lt hmp
 have hb : b < W.heap.size := (Array.getElem?_eq_some_iff.1 h.top).1
 have hqm : Prs W m.body.qa m.body.qs := H.hd
 have H1 : Fr v W ((⟨fun W => Prs W m.body.qa m.body.qs /\ WaitAt W b (some k) ws, fun j => m.onQ j \/ OnW b (some k) ws j⟩ : Thing) :: os) := H.merge ⟨hqm, h⟩
  ⟨fun A B hA hk => ⟨prs_kept hA.1 fun g hg => hk g (.inl hg), (waT_ok b (some k) ws).kept A B hA.2 fun j hj => hk j (.inr hj)⟩, fun A hA j hj => hj.elim (fun e => prs_lt hA.1 e) (fun e => (waT_ok b (some k) ws).lt A hA.2 j e)⟩ (fun j hj => hj)
 refine ⟨W', r1, H1.turn (o' := waT b (some k) (ws ++ [m])) ⟨(Turns.refl _ W).grown r3 fun g e => by cases e; exact .inl (.inr (.inr (.inl rfl))), fun j hj => ?_⟩ ⟨(r3.block b hb fun e => hkb (by injection e with e; exact e.symm)).trans h.top, .inr ⟨k, rfl, hkb, ?_⟩, dk_snoc h.dk hn, fun x hx => ?_, fun x hx g hg => ?_⟩ (waT_ok _ _ _), r3⟩
 ·rcases hj with rfl | hj | ⟨x, hx, hg⟩
  ·exact .inl (.inr (.inl rfl))
  ·exact .inl (.inr (.inr (.inl hj)))
  ·rcases List.mem_append.1 hx with hx | hx
   ·exact .inl (.inr (.inr (.inr ⟨x, hx, hg⟩)))
   ·rw [List.mem_singleton.1 hx] at hg; exact .inl (.inl hg)
 ·rw [List.length_append, fW_snoc hn]; exact r2
 ·rcases List.mem_append.1 hx with hx | hx
  ·obtain ⟨a1, a2, a3, a4⟩ := h.wf x hx
   exact ⟨a1, a2, prs_kept a3 fun g hg => r3.block g (prs_lt a3 hg) fun e => (h.qb x hx g hg).2 e.symm, a4⟩
  ·rw [List.mem_singleton.1 hx]
   exact ⟨hm, hp, prs_kept hqm fun g hg => r3.block g (prs_lt hqm hg) fun e => hap g hg (.inr (.inl e.symm)), hq⟩
 ·rcases List.mem_append.1 hx with hx | hx
  ·exact h.qb x hx g hg
  ·rw [List.mem_singleton.1 hx] at hg
   exact ⟨fun e => hap g hg (.inl e), fun e => hap g hg (.inr (.inl e))⟩
theorem wait_del {v W : World} {os : List Thing} {b k : Nat} {ws : List MMsg} (H : Fr v W (waT b (some k) ws :: os)) {p : Int × Nat} (hp : PkOk p) (ty : TypeId) :
  ∃ W', (Builtin.delete_ #[106, 55] ty #[.map (some k), kv p]).run Tryz.prog W = .ok (.tuple #[]) W' /\ Fr v W' (waT b (some k) (wdel ws p) :: os) /\ W.grownBy W' (some k) := by
 have h : WaitAt W b (some k) ws := H.hd
 rcases h.mp with ⟨e, _⟩ | ⟨k', e, hkb, hmp⟩
 ·cases e
 injection e with e
 subst e
 obtain ⟨W', r1, r2, r3⟩ := mapP_delete hmp hp ty
 have hb : b < W.heap.size := (Array.getElem?_eq_some_iff.1 h.top).1
 have hsub : ∀ x ∈ wdel ws p, x ∈ ws := fun x hx => (List.mem_filter.1 hx).1
 refine ⟨W', r1, H.turn (o' := waT b (some k) (wdel ws p)) ⟨(Turns.refl _ W).grown r3 fun g e => by cases e; exact .inl (.inr (.inl rfl)), fun j hj => ?_⟩ ⟨(r3.block b hb fun e => hkb (by injection e with e; exact e.symm)).trans h.top, .inr ⟨k, rfl, hkb, ?_⟩, dk_del h.dk p, fun x hx => ?_, fun x hx g hg => h.qb x (hsub x hx) g hg⟩ (waT_ok _ _ _), r3⟩
 ·rcases hj with rfl | hj | ⟨x, hx, hg⟩
  ·exact .inl (.inl rfl)
  ·exact .inl (.inr (.inl hj))
  ·exact .inl (.inr (.inr ⟨x, hsub x hx, hg⟩))
 ·rw [wdel_length h.dk, fW_del]; exact r2
 ·obtain ⟨a1, a2, a3, a4⟩ := h.wf x (hsub x hx)
  exact ⟨a1, a2, prs_kept a3 fun g hg => r3.block g (prs_lt a3 hg) fun e => (h.qb x (hsub x hx) g hg).2 e.symm, a4⟩
end Go.Proofs.YtllbbcifcbkgeaaGreatDoor.Sh
