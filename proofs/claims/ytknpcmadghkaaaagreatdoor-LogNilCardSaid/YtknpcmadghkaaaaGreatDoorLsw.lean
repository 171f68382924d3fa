/- Laws and walks. -/
import Derived.Test.YtknpcmadghkaaaaGreatDoorLpw
set_option maxHeartbeats 16000000
set_option maxRecDepth 100000
namespace Go.Proofs.YtknpcmadghkaaaaGreatDoor.Sh
open Go.RowKit
def MLogs.upd (M : MLogs) (o : Nat) (s : MStr) : MLogs := ⟨M.strs.set o s, M.vs⟩
def MLogs.updV (M : MLogs) (i : Nat) (V : MV) : MLogs := ⟨M.strs, M.vs.set i V⟩
theorem set_id {α : Type} {l : List α} {i : Nat} {x : α} (h : l[i]? = some x) : l.set i x = l := by
 obtain ⟨hi, rfl⟩ := List.getElem?_eq_some_iff.1 h
 exact List.set_getElem_self hi
theorem upd_n (M : MLogs) (o : Nat) (s : MStr) : (M.upd o s).n = M.n := by simp [MLogs.n, MLogs.upd]
theorem lupd_at {M : MLogs} {o : Nat} {s s' : MStr} (h : M.strs[o]? = some s) : (M.upd o s').strs[o]? = some s' := by
 simp [MLogs.upd, (List.getElem?_eq_some_iff.1 h).1]
theorem lupd_other {M : MLogs} {o i : Nat} {s' : MStr} (h : i ≠ o) : (M.upd o s').strs[i]? = M.strs[i]? := by
 simp [MLogs.upd, Ne.symm h]
theorem tk_upd_same {M : MLogs} {o : Nat} {s s' : MStr} (h : M.strs[o]? = some s) : (M.upd o s').tk o = s'.tak := tk_some (lupd_at h)
theorem tk_upd_other {M : MLogs} {o i : Nat} {s' : MStr} (h : i ≠ o) : (M.upd o s').tk i = M.tk i := by simp [MLogs.tk, lupd_other h]
theorem tk_upd {M : MLogs} {o : Nat} {s s' : MStr} (h : M.strs[o]? = some s) (hl : s.tak <= s'.tak) (i : Nat) : M.tk i <= (M.upd o s').tk i := by
 by_cases e : i = o
 ·subst e; rw [tk_upd_same h, tk_some h]; exact hl
 ·rw [tk_upd_other e]; exact Nat.le_refl _
theorem MLogs.Ok.upd {M : MLogs} (H : M.Ok) {o : Nat} {s s' : MStr} (h : M.strs[o]? = some s) (h1 : s.tak <= s'.tak) (h2 : s'.tak <= 65536) (h3 : s'.chg.length <= s'.tak /\ ∀ c ∈ s'.chg, c.1 <= s'.tak /\ 1 <= c.1 /\ c.2 < 1073741824) : (M.upd o s').Ok := by
 refine ⟨by rw [upd_n]; exact H.n3, by rw [upd_n]; exact H.n11, H.uni, H.vw, fun x hx => ?_, fun V hV => ?_, fun x hx => ?_⟩
 ·rcases List.mem_or_eq_of_mem_set hx with hx | rfl
  ·exact H.tak x hx
  ·exact h2
 ·rw [upd_n]
  have := H.prm V hV
  exact ⟨Nat.le_trans this.1 (tk_upd h h1 _), fun p hp => Nat.le_trans (this.2 p hp) (tk_upd h h1 _)⟩
 ·rcases List.mem_or_eq_of_mem_set hx with hx | rfl
  ·exact H.chg x hx
  ·exact h3
theorem hdT_eq {A A' : LA} {M M' : MLogs} (h1 : A'.L = A.L) (h2 : A'.g = A.g) (h3 : A'.cap = A.cap) (h4 : A'.spare = A.spare) (h5 : A'.vb = A.vb) (h6 : M'.n = M.n) (h7 : stC A'.sa M'.strs = stC A.sa M.strs) (h8 : M'.vs.length = M.vs.length) (h9 : vF A'.va M'.vs = vF A.va M.vs) : hdT A' M' = hdT A M := by
 have e1 : ∀ W, HdAt W A' M' ↔ HdAt W A M := fun W => by
  constructor
  ·rintro ⟨a, b, c, d⟩
   exact ⟨by rw [<- h1, <- h2, <- h3, <- h5, <- h6]; exact a, by rw [<- h2, <- h4, <- h7]; exact b, by rw [<- h3, <- h6]; exact c, by rw [<- h5, <- h8, <- h9]; exact d⟩
  ·rintro ⟨a, b, c, d⟩
   exact ⟨by rw [h1, h2, h3, h5, h6]; exact a, by rw [h2, h4, h7]; exact b, by rw [h3, h6]; exact c, by rw [h5, h8, h9]; exact d⟩
 have e2 : ∀ k, OnH A' k ↔ OnH A k := fun k => by unfold OnH; rw [h1, h2, h5]
 unfold hdT
 congr 1
 ·funext W; exact propext (e1 W)
 ·funext k; exact propext (e2 k)
theorem stC_same {sa : List SA} {ss : List MStr} {o : Nat} {a a' : SA} {s s' : MStr} (h1 : sa[o]? = some a) (h2 : ss[o]? = some s) (e : srC a' s' = srC a s) : stC (sa.set o a') (ss.set o s') = stC sa ss := by
 unfold stC
 rw [<- zipWith_set, e, set_id (zipWith_at srC h1 h2)]
theorem stC_set : ∀ (sa : List SA) (ss : List MStr) (o : Nat) (a : SA) (s s' : MStr) (k : Nat) (v : Value), sa[o]? = some a -> ss[o]? = some s -> k < 4 -> (srC a s).set k v = srC a s' -> stC sa (ss.set o s') = (stC sa ss).set (o * 4 + k) v
 | x :: sa, y :: ss, 0, a, s, s', k, v, h1, h2, hk, e => by
  simp at h1 h2; subst h1 h2
  show srC x s' ++ stC sa ss = (srC x y ++ stC sa ss).set (0 * 4 + k) v
  rw [List.set_append_left _ _ (by show 0 * 4 + k < 4; omega), <- e]
  simp
 | x :: sa, y :: ss, o + 1, a, s, s', k, v, h1, h2, hk, e => by
  have ih := stC_set sa ss o a s s' k v (by simpa using h1) (by simpa using h2) hk e
  show srC x y ++ stC sa (ss.set o s') = (srC x y ++ stC sa ss).set ((o + 1) * 4 + k) v
  rw [List.set_append_right _ _ (by show 4 <= _; omega), ih]
  congr 2
  show _ = (o + 1) * 4 + k - 4
  omega
theorem pT_same {sa : List SA} {ss : List MStr} {o : Nat} {a a' : SA} {s s' : MStr} (h1 : sa[o]? = some a) (h2 : ss[o]? = some s) (e : paT a'.pb a'.rv a'.mb s'.past = paT a.pb a.rv a.mb s.past) : pT (sa.set o a') (ss.set o s') = pT sa ss := by
 unfold pT
 rw [<- zipWith_set (fun (a : SA) (s : MStr) => paT a.pb a.rv a.mb s.past), e, set_id (zipWith_at (fun (a : SA) (s : MStr) => paT a.pb a.rv a.mb s.past) h1 h2)]
theorem cT_same {sa : List SA} {ss : List MStr} {o : Nat} {a a' : SA} {s s' : MStr} (h1 : sa[o]? = some a) (h2 : ss[o]? = some s) (e : chT a'.cb s'.chg = chT a.cb s.chg) : cT (sa.set o a') (ss.set o s') = cT sa ss := by
 unfold cT
 rw [<- zipWith_set (fun (a : SA) (s : MStr) => chT a.cb s.chg), e, set_id (zipWith_at (fun (a : SA) (s : MStr) => chT a.cb s.chg) h1 h2)]
section
variable {v W W' : World} {A : LA} {M : MLogs} {os : List Thing}
theorem LogFr.tick (H : LogFr v W A M os) {o : Nat} {a : SA} {s : MStr} (ha : A.sa[o]? = some a) (hs : M.strs[o]? = some s) (hl : s.tak < 65536) :
  LogFr v (W.setCell ⟨A.g, o * 4, none⟩ (.int .u64 ((s.tak + 1 : Nat) : Int))) A (M.upd o { s with tak := s.tak + 1 }) os := by
 have h := H.hd
 obtain ⟨a1, a2, a3⟩ := h.apart
 have hc := H.ok.chg s (List.mem_of_getElem? hs)
 have hsa := set_id ha
 have hst : stC A.sa (M.strs.set o { s with tak := s.tak + 1 }) = (stC A.sa M.strs).set (o * 4 + 0) (.int .u64 ((s.tak + 1 : Nat) : Int)) := stC_set _ _ _ a s _ 0 _ ha hs (by decide) rfl
 have hlen : o * 4 + 0 < (stC A.sa M.strs).length := (List.getElem?_eq_some_iff.1 (stC_at _ _ o a s ha hs 0 _ rfl)).1
 have hf := H.fr.turn (o' := hdT A (M.upd o { s with tak := s.tak + 1 })) (Own.same ((Turns.refl _ W).setCell (.inl (.inr (.inl rfl))) (o * 4) (.int .u64 ((s.tak + 1 : Nat) : Int))))
  ⟨(Below.heap_setCell W ⟨A.g, o * 4, none⟩ _ A.L (Ne.symm a1)).trans (by rw [upd_n]; exact h.top), by
   have := heap_set (k := o * 4) h.row (.int .u64 ((s.tak + 1 : Nat) : Int))
   rw [this, List.set_append_left _ _ (by omega)]
   show _ = some (Obj.cells (stC A.sa (M.strs.set o { s with tak := s.tak + 1 }) ++ A.spare).toArray 96 (0, 0))
   rw [hst]
   rfl, by rw [upd_n]; exact h.cap, mapU_kept h.mp (Below.heap_setCell W ⟨A.g, o * 4, none⟩ _ A.vb a3)⟩ (hdT_ok _ _)
 refine ⟨?_, by simp [MLogs.upd, H.ls], H.lv, H.ok.upd hs (Nat.le_succ _) (by show s.tak + 1 <= _; omega) ⟨Nat.le_succ_of_le hc.1, fun c hm => ⟨Nat.le_succ_of_le (hc.2 c hm).1, (hc.2 c hm).2⟩⟩⟩
 have e1 : pT A.sa (M.upd o { s with tak := s.tak + 1 }).strs = pT A.sa M.strs := by
  have := pT_same (a' := a) (s' := { s with tak := s.tak + 1 }) ha hs rfl
  rwa [hsa] at this
 have e2 : cT A.sa (M.upd o { s with tak := s.tak + 1 }).strs = cT A.sa M.strs := by
  have := cT_same (a' := a) (s' := { s with tak := s.tak + 1 }) ha hs rfl
  rwa [hsa] at this
 rw [e1, e2]
 exact hf
theorem LogFr.past_put (H : LogFr v W A M os) {o : Nat} {a : SA} {s : MStr} (ha : A.sa[o]? = some a) (hs : M.strs[o]? = some s) {p : MPast}
  (h : PaIs v W' ([hdT A M] ++ ((pT A.sa M.strs).eraseIdx o ++ (cT A.sa M.strs ++ (vT A.va M.vs ++ os)))) a.pb p) :
  ∃ A' : LA, A'.L = A.L /\ A'.g = A.g /\ A'.va = A.va /\ LogFr v W' A' (M.upd o { s with past := p }) os := by
 obtain ⟨rv, mb, hf⟩ := h
 have hc := H.ok.chg s (List.mem_of_getElem? hs)
 have hlt : o < (pT A.sa M.strs).length := (List.getElem?_eq_some_iff.1 (zipWith_at (fun (a : SA) (s : MStr) => paT a.pb a.rv a.mb s.past) ha hs)).1
 have h1 := Fr.unfocus hlt hf
 refine ⟨{ A with sa := A.sa.set o { a with rv := rv, mb := mb } }, rfl, rfl, rfl, ?_, ?_, H.lv, H.ok.upd hs (Nat.le_refl _) (H.ok.tak s (List.mem_of_getElem? hs)) hc⟩
 ·have e0 : hdT { A with sa := A.sa.set o { a with rv := rv, mb := mb } } (M.upd o { s with past := p }) = hdT A M :=
   hdT_eq rfl rfl rfl rfl rfl (upd_n _ _ _) (stC_same ha hs rfl) rfl rfl
  have e1 : pT (A.sa.set o { a with rv := rv, mb := mb }) (M.strs.set o { s with past := p }) = (pT A.sa M.strs).set o (paT a.pb rv mb p) := (zipWith_set (fun (a : SA) (s : MStr) => paT a.pb a.rv a.mb s.past) _ _ _ _ _).symm
  have e2 : cT (A.sa.set o { a with rv := rv, mb := mb }) (M.strs.set o { s with past := p }) = cT A.sa M.strs := cT_same ha hs rfl
  rw [e0]
  show Fr v W' ([hdT A M] ++ (pT (A.sa.set o { a with rv := rv, mb := mb }) (M.strs.set o { s with past := p }) ++ (cT (A.sa.set o { a with rv := rv, mb := mb }) (M.strs.set o { s with past := p }) ++ (vT A.va M.vs ++ os))))
  rw [e1, e2]
  exact h1
 ·simp [MLogs.upd, H.ls]
end
open Go.RowKit
theorem vset_at {l : List MV} {i j : Nat} {V V' : MV} (h : l[i]? = some V) : (l.set i V')[j]? = if j = i then some V' else l[j]? := by
 by_cases e : j = i
 ·subst e; simp [(List.getElem?_eq_some_iff.1 h).1]
 ·rw [if_neg e, List.getElem?_set_ne (Ne.symm e)]
theorem vix_set {V' : MV} : ∀ (l : List MV) (i : Nat) (V : MV) (x : Nat), l[i]? = some V -> V'.v = V.v -> vix (l.set i V') x = vix l x
 | U :: r, 0, V, x, h, e => by
  simp at h; subst h
  show (if V'.v = x then _ else _) = vix (U :: r) x
  rw [e]; rfl
 | U :: r, i + 1, V, x, h, e => by
  show (if U.v = x then some 0 else (vix (r.set i V') x).map (· + 1)) = _
  rw [vix_set r i V x (by simpa using h) e]; rfl
theorem va_b {va : List VA} {i : Nat} {a a' : VA} (h : va[i]? = some a) (e : a'.b = a.b) (j : Nat) : ((va.set i a')[j]?).map (·.b) = (va[j]?).map (·.b) := by
 by_cases x : j = i
 ·subst x
  have hl := (List.getElem?_eq_some_iff.1 h).1
  rw [List.getElem?_set_self hl, h]
  simp [e]
 ·rw [List.getElem?_set_ne (Ne.symm x)]
theorem sbO_set {va : List VA} {i : Nat} {a a' : VA} (h : va[i]? = some a) (e : a'.b = a.b) (U : MV) : sbO (va.set i a') U = sbO va U := by
 unfold sbO
 cases U.src with
 | none => rfl
 | some j => exact va_b h e j
theorem vF_set {va : List VA} {vs : List MV} {i : Nat} {a a' : VA} {V V' : MV} (h1 : va[i]? = some a) (h2 : vs[i]? = some V) (e : a'.b = a.b) (ev : V'.v = V.v) : vF (va.set i a') (vs.set i V') = vF va vs := by
 funext x
 unfold vF
 rw [vix_set vs i V _ h2 ev]
 split
 ·congr 1
  funext j
  have h := va_b h1 e j
  have e1 : ∀ y : Option VA, y.map (fun a : VA => Value.pointer (some ⟨a.b, 0, none⟩)) = (y.map (·.b)).map fun b : Nat => Value.pointer (some ⟨b, 0, none⟩) := fun y => by cases y <;> rfl
  rw [e1, e1, h]
 ·rfl
theorem add_log (V : MV) (num : Nat) (r : MReq) : (V.add num r).log = V.log ++ [r] := by simp [MV.add, MV.log]
theorem MLogs.Ok.add {M : MLogs} (H : M.Ok) {i : Nat} {V : MV} (h : M.vs[i]? = some V) {num : Nat} {r : MReq} (h1 : has V.log (rk r) = false) (h2 : r.tag.length = 32 /\ PkOk (rk r)) (h3 : ∀ p ∈ V.P, p.1 < num) (h4 : num <= M.tk (V.v % M.n)) : (M.updV i (V.add num r)).Ok := by
 have hV := H.vw i V h
 refine ⟨H.n3, H.n11, ?_, fun j U hU => ?_, H.tak, fun U hU => ?_, H.chg⟩
 ·show ((M.vs.set i (V.add num r)).map (·.v)).Nodup
  rw [List.map_set]
  have : (M.vs.map (·.v)).set i (V.add num r).v = M.vs.map (·.v) := set_id (by simp [h, MV.add])
  rw [this]
  exact H.uni
 ·have hU' : (M.vs.set i (V.add num r))[j]? = some U := hU
  rw [vset_at h] at hU'
  have hsrc : ∀ (k : Nat) (X : MV), M.vs[k]? = some X -> ∃ Y : MV, (M.vs.set i (V.add num r))[k]? = some Y /\ Y.S = X.S /\ X.log <+: Y.log := fun k X hX => by
   by_cases e : k = i
   ·subst e
    rw [h] at hX; injection hX with hX; subst hX
    exact ⟨V.add num r, by rw [vset_at h, if_pos rfl], rfl, ⟨[r], (add_log V num r).symm⟩⟩
   ·exact ⟨X, by rw [vset_at h, if_neg e]; exact hX, rfl, List.prefix_refl _⟩
  have hold : ∀ (U0 : MV), M.vs[j]? = some U0 -> U.src = U0.src -> U.S = U0.S -> (match U.src with | none => U.S = [] | some k => k < j /\ ∃ Y, (M.updV i (V.add num r)).vs[k]? = some Y /\ Y.S.length < U.S.length /\ U.S <+: Y.log) := fun U0 h0 e1 e2 => by
   have hs := (H.vw j U0 h0).src
   rw [e1, e2]
   cases hq : U0.src with
   | none => rw [hq] at hs; exact hs
   | some k =>
    rw [hq] at hs
    obtain ⟨hk, X, hX, hl, hp⟩ := hs
    obtain ⟨Y, hY, eS, hpre⟩ := hsrc k X hX
    exact ⟨hk, Y, hY, by rw [eS]; exact hl, hp.trans hpre⟩
  by_cases e : j = i
  ·rw [if_pos e] at hU'
   injection hU' with hU'
   subst hU' e
   refine ⟨hold V h rfl rfl, ?_, fun x hx => ?_, ?_⟩
   ·rw [add_log, List.map_append]
    refine List.nodup_append.2 ⟨hV.keys, by simp, fun x hx y hy => ?_⟩
    rw [List.map_singleton, List.mem_singleton] at hy
    subst hy
    rintro rfl
    obtain ⟨q, hq, e⟩ := List.mem_map.1 hx
    rw [Bool.eq_false_iff] at h1
    exact h1 (has_iff.2 ⟨q, hq, e⟩)
   ·rw [add_log] at hx
    rcases List.mem_append.1 hx with hx | hx
    ·exact hV.wf x hx
    ·rw [List.mem_singleton.1 hx]; exact h2
   ·show ((V.P ++ [(num, r)]).map (·.1)).Pairwise (· < ·)
    rw [List.map_append]
    refine List.pairwise_append.2 ⟨hV.rise, by simp, fun x hx y hy => ?_⟩
    obtain ⟨q, hq, rfl⟩ := List.mem_map.1 hx
    rw [List.map_singleton, List.mem_singleton] at hy
    subst hy
    exact h3 q hq
  ·rw [if_neg e] at hU'
   have := H.vw j U hU'
   exact ⟨hold U hU' rfl rfl, this.keys, this.wf, this.rise⟩
 ·rcases List.mem_or_eq_of_mem_set hU with hU | rfl
  ·exact H.prm U hU
  ·have := H.prm V (List.mem_of_getElem? h)
   refine ⟨this.1, fun p hp => ?_⟩
   rcases List.mem_append.1 hp with hp | hp
   ·exact this.2 p hp
   ·rw [List.mem_singleton.1 hp]; exact h4
theorem LogFr.view_put {v W W' : World} {A : LA} {M : MLogs} {os : List Thing} (H : LogFr v W A M os) {i : Nat} {a a' : VA} {V : MV} (ha : A.va[i]? = some a) (hV : M.vs[i]? = some V) {num : Nat} {r : MReq} (e : a'.b = a.b)
  (h : Fr v W' (vwT a' (sbO A.va V) (V.add num r) :: ([hdT A M] ++ pT A.sa M.strs ++ cT A.sa M.strs ++ ((vT A.va M.vs).eraseIdx i ++ os)))) (ok : (M.updV i (V.add num r)).Ok) :
  LogFr v W' { A with va := A.va.set i a' } (M.updV i (V.add num r)) os := by
 have hlt : i < (vT A.va M.vs).length := (List.getElem?_eq_some_iff.1 (zipWith_at (fun a V => vwT a (sbO A.va V) V) ha hV)).1
 have h1 := Fr.unfocus hlt h
 refine ⟨?_, H.ls, by simp [MLogs.updV, H.lv], ok⟩
 have e0 : hdT { A with va := A.va.set i a' } (M.updV i (V.add num r)) = hdT A M := hdT_eq rfl rfl rfl rfl rfl rfl rfl (by simp [MLogs.updV]) (vF_set ha hV e rfl)
 have e1 : vT (A.va.set i a') (M.vs.set i (V.add num r)) = (vT A.va M.vs).set i (vwT a' (sbO A.va V) (V.add num r)) := by
  unfold vT
  have ef : (fun (a : VA) (V : MV) => vwT a (sbO (A.va.set i a') V) V) = fun (a : VA) (V : MV) => vwT a (sbO A.va V) V := by
   funext x U
   rw [sbO_set ha e]
  rw [ef, <- zipWith_set (fun (a : VA) (V : MV) => vwT a (sbO A.va V) V)]
  rfl
 rw [e0]
 show Fr v W' ([hdT A M] ++ (pT A.sa M.strs ++ (cT A.sa M.strs ++ (vT (A.va.set i a') (M.vs.set i (V.add num r)) ++ os))))
 rw [e1]
 simpa using h1
end Go.Proofs.YtknpcmadghkaaaaGreatDoor.Sh
