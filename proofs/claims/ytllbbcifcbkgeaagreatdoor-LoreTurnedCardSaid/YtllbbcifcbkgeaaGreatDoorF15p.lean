/- Laws and walks. -/
import Derived.Test.YtllbbcifcbkgeaaGreatDoorF14p
set_option maxHeartbeats 16000000
set_option maxRecDepth 100000
namespace Go.Proofs.YtllbbcifcbkgeaaGreatDoor.Sh
open Go.RowKit
theorem Fr.join {v w W : World} {os os2 : List Thing} (H : Fr v w os) (H2 : Fr w W os2) : Fr v W (os2 ++ os) := by
 have H' := H.below H2.bel
 refine ⟨H'.bel, H'.ks, H'.pos, fun o ho => ?_, List.pairwise_append.2 ⟨H2.apart, H'.apart, fun a ha c hc k hk hk' => ?_⟩⟩
 ·rcases List.mem_append.1 ho with ho | ho
  ·exact ⟨(H2.all o ho).1, (H2.all o ho).2.1, fun k hk => Nat.le_trans H.size ((H2.all o ho).2.2 k hk)⟩
  ·exact H'.all o ho
 ·have h1 := (H2.all a ha).2.2 k hk
  have h2 := (H.all c hc).2.1.lt w (H.all c hc).1 k hk'
  omega
theorem zipIdx_rise {α : Type} : ∀ (l : List α) (k : Nat), (l.zipIdx k).Pairwise fun a b => a.2 < b.2
 | [], _ => List.Pairwise.nil
 | x :: l, k => by
  rw [List.zipIdx_cons]
  refine List.Pairwise.cons (fun b hb => ?_) (zipIdx_rise l (k + 1))
  have := (List.mem_zipIdx hb).1
  show k < b.2
  omega
theorem drop_filter {α : Type} {f : α -> Nat} : ∀ (l : List α) (s q : Nat), (∀ (j : Nat) (t : α), l[j]? = some t -> f t = s + j + 1) -> l.drop (q - s) = l.filter fun t => decide (q < f t)
 | [], _, _, _ => by simp
 | x :: l, s, q, h => by
  have hx : f x = s + 1 := h 0 x rfl
  have ih := drop_filter (f := f) l (s + 1) q fun j t ht => by have := h (j + 1) t ht; omega
  by_cases hq : q <= s
  ·rw [List.filter_cons_of_pos (by simp; omega), <- ih, show q - s = 0 by omega, show q - (s + 1) = 0 by omega]
   rfl
  ·rw [List.filter_cons_of_neg (by simp; omega), <- ih, show q - s = (q - (s + 1)) + 1 by omega]
   rfl
def Nm (L : List MMsg) : Prop := (∀ m ∈ L, 1 <= m.origin /\ m.origin <= 11) /\ ∀ (i j : Nat) (t : Tk), (strm L i)[j]? = some t -> t.1.number = j + 1
def rem (L : List MMsg) (p : Nat -> Nat) : List Tk := L.zipIdx.filter fun t => decide (p t.1.oi < t.1.number)
theorem rem_mem {L : List MMsg} {p : Nat -> Nat} {t : Tk} (h : t ∈ rem L p) : t.1 ∈ L := by
 have := List.mem_zipIdx (List.mem_filter.1 h).1
 simp at this
 rw [this.2]; exact List.getElem_mem _
theorem oi_of {m : MMsg} {i : Nat} (h : m.origin = (i : Int) + 1) : m.oi = i := by unfold MMsg.oi; omega
theorem of_oi {m : MMsg} (h : 1 <= m.origin /\ m.origin <= 11) : m.oi < 11 /\ m.origin = (m.oi : Int) + 1 := by unfold MMsg.oi; omega
theorem strm_drop {L : List MMsg} (hn : Nm L) (i q : Nat) : (strm L i).drop q = (strm L i).filter fun t => decide (q < t.1.number) := by
 have := drop_filter (f := fun t : Tk => t.1.number) (strm L i) 0 q fun j t ht => by have := hn.2 i j t ht; omega
 simpa using this
theorem rem_strm {L : List MMsg} (hn : Nm L) (p : Nat -> Nat) (i : Nat) : (rem L p).filter (fun t => decide (t.1.origin = (i : Int) + 1)) = (strm L i).drop (p i) := by
 rw [strm_drop hn, rem, strm, List.filter_filter, List.filter_filter]
 refine List.filter_congr fun t _ => ?_
 by_cases h : t.1.origin = (i : Int) + 1
 ·simp [h, oi_of h]
 ·simp [h]
theorem rem_head {L : List MMsg} (hn : Nm L) {p : Nat -> Nat} {t : Tk} {R : List Tk} (h : rem L p = t :: R) :
  (strm L t.1.oi)[p t.1.oi]? = some t /\ t.1.oi < 11 /\ (∀ i u, i ≠ t.1.oi -> (strm L i)[p i]? = some u -> t.2 < u.2) /\ rem L (upd p t.1.oi (p t.1.oi + 1)) = R := by
 have ht : t ∈ rem L p := by rw [h]; simp
 have ho := of_oi (hn.1 t.1 (rem_mem ht))
 have h1 := rem_strm hn p t.1.oi
 rw [h, List.filter_cons_of_pos (by simpa using ho.2)] at h1
 have hd : (strm L t.1.oi)[p t.1.oi]? = some t := by
  have := congrArg (fun l => l[0]?) h1
  simp only [List.getElem?_cons_zero, List.getElem?_drop, Nat.add_zero] at this
  exact this.symm
 have hnum := hn.2 _ _ _ hd
 have hR : ∀ u ∈ R, u.1.oi = t.1.oi -> p t.1.oi + 1 < u.1.number := by
  intro u hu he
  have hou := of_oi (hn.1 u.1 (rem_mem (p := p) (by rw [h]; simp [hu])))
  have hm : u ∈ R.filter fun t' => decide (t'.1.origin = (t.1.oi : Int) + 1) := List.mem_filter.2 ⟨hu, by rw [<- he]; simpa using hou.2⟩
  have h2 : R.filter (fun t' => decide (t'.1.origin = (t.1.oi : Int) + 1)) = (strm L t.1.oi).drop (p t.1.oi + 1) := by
   have := congrArg List.tail h1
   rw [List.tail_cons, List.tail_drop] at this
   exact this
  rw [h2, strm_drop hn] at hm
  simpa using (List.mem_filter.1 hm).2
 have hpw : (rem L p).Pairwise fun a b => a.2 < b.2 := (zipIdx_rise L 0).filter _
 rw [h] at hpw
 refine ⟨hd, ho.1, fun i u hi hu => ?_, ?_⟩
 ·have hum : u ∈ (strm L i).drop (p i) := List.mem_of_getElem? (i := 0) (by rw [List.getElem?_drop, Nat.add_zero]; exact hu)
  rw [<- rem_strm hn, h] at hum
  obtain ⟨hu1, hu2⟩ := List.mem_filter.1 hum
  have hou : u.1.origin = (i : Int) + 1 := by simpa using hu2
  rcases List.mem_cons.1 hu1 with e | hu1
  ·subst e; exact absurd (oi_of hou) (Ne.symm hi)
  ·exact (List.pairwise_cons.1 hpw).1 u hu1
 ·have e : rem L (upd p t.1.oi (p t.1.oi + 1)) = (rem L p).filter fun u => decide (upd p t.1.oi (p t.1.oi + 1) u.1.oi < u.1.number) := by
   rw [rem, rem, List.filter_filter]
   refine List.filter_congr fun u _ => ?_
   by_cases he : u.1.oi = t.1.oi
   ·rw [he, upd_same]
    by_cases hx : p t.1.oi + 1 < u.1.number
    ·simp [hx]; omega
    ·simp [hx]
   ·rw [upd_ne _ _ he]; simp
  rw [e, h, List.filter_cons_of_neg (by rw [upd_same]; simp; omega)]
  refine List.filter_eq_self.2 fun u hu => ?_
  by_cases he : u.1.oi = t.1.oi
  ·rw [he, upd_same]; simpa using hR u hu he
  ·rw [upd_ne _ _ he]
   have : u ∈ rem L p := by rw [h]; simp [hu]
   exact (List.mem_filter.1 this).2
theorem rem_none {L : List MMsg} (hn : Nm L) {p : Nat -> Nat} (h : rem L p = []) (i : Nat) : cnt L i <= p i := by
 have := rem_strm hn p i
 rw [h] at this
 have := congrArg List.length this
 simp [cnt] at this ⊢
 omega
def snc (v : List Nat) (most : Int) (L : List MMsg) : List MMsg := (L.filter fun m => decide (v.getD m.oi 0 < m.number)).take most.toNat
theorem zip_filter {α : Type} (f : α -> Bool) : ∀ (l : List α) (k : Nat), ((l.zipIdx k).filter fun t => f t.1).map Prod.fst = l.filter f
 | [], _ => rfl
 | x :: l, k => by
  rw [List.zipIdx_cons]
  by_cases h : f x = true
  ·rw [List.filter_cons_of_pos (by exact h), List.filter_cons_of_pos h, List.map_cons, zip_filter f l (k + 1)]
  ·rw [List.filter_cons_of_neg (by exact h), List.filter_cons_of_neg h, zip_filter f l (k + 1)]
theorem rem_first {L : List MMsg} (hn : Nm L) (v : List Nat) : (rem L fun i => min (v.getD i 0) (cnt L i)).map Prod.fst = L.filter fun m => decide (v.getD m.oi 0 < m.number) := by
 rw [<- zip_filter _ L 0]
 congr 1
 rw [rem]
 refine List.filter_congr fun t ht => ?_
 have htL : t.1 ∈ L := by have := List.mem_zipIdx ht; simp at this; rw [this.2]; exact List.getElem_mem _
 have ho := of_oi (hn.1 _ htL)
 have hm : t ∈ strm L t.1.oi := List.mem_filter.2 ⟨ht, by simpa using ho.2⟩
 obtain ⟨j, hj⟩ := List.getElem?_of_mem hm
 have h1 := hn.2 _ _ _ hj
 have h2 := (List.getElem?_eq_some_iff.1 hj).1
 have h3 : (strm L t.1.oi).length = cnt L t.1.oi := rfl
 rw [decide_eq_decide]
 omega
def rsv (A : Nat -> Option Addr) (N C : Nat -> Nat) : List Value := (List.range 11).map fun i => Value.slice (A i) (N i) (C i)
theorem rsv_length (A : Nat -> Option Addr) (N C : Nat -> Nat) : (rsv A N C).length = 11 := by simp [rsv]
theorem rsv_get (A : Nat -> Option Addr) (N C : Nat -> Nat) {i : Nat} (hi : i < 11) : (rsv A N C)[i]? = some (.slice (A i) (N i) (C i)) := by simp [rsv, hi]
theorem rsv_set (A : Nat -> Option Addr) (N C : Nat -> Nat) {i : Nat} (hi : i < 11) (a : Option Addr) (n c : Nat) : (rsv A N C).set i (.slice a n c) = rsv (upd A i a) (upd N i n) (upd C i c) := by
 apply List.ext_getElem?
 intro j
 by_cases hj : j < 11
 ·rw [rsv_get _ _ _ hj, List.getElem?_set]
  by_cases hji : i = j
  ·subst hji
   rw [if_pos rfl, if_pos (by rw [rsv_length]; exact hi), upd_same, upd_same, upd_same]
  ·rw [if_neg hji, rsv_get _ _ _ hj, upd_ne _ _ (Ne.symm hji), upd_ne _ _ (Ne.symm hji), upd_ne _ _ (Ne.symm hji)]
 ·rw [List.getElem?_eq_none (by rw [List.length_set, rsv_length]; omega), List.getElem?_eq_none (by rw [rsv_length]; omega)]
structure RsOk (L : List MMsg) (A : Nat -> Option Addr) (p : Nat -> Nat) (RA : Nat -> Option Addr) (RN RC : Nat -> Nat) : Prop where
 ok : ∀ i, i < 11 -> p i <= cnt L i /\ RN i = cnt L i - p i /\ RN i <= RC i /\ RC i <= 9223372036854775807 /\ (RA i = none -> RC i = 0) /\ (0 < RN i -> ∃ g, A i = some ⟨g, 0, none⟩ /\ RA i = some ⟨g, p i * 122, none⟩)
theorem RsOk.start {W : World} {b n : Nat} {A : Nat -> Option Addr} {C : Nat -> Nat} {L : List MMsg} (h : LoreAt W b n A C L) : RsOk L A (fun _ => 0) A (cnt L) C :=
 ⟨fun i hi => by
  have hs := h.sl hi
  refine ⟨Nat.zero_le _, rfl, hs.2.1, hs.2.2, fun e => (hs.1 e).2, fun h0 => ?_⟩
  obtain ⟨g, e, _⟩ := h.tk hi (t := (strm L i)[0]'h0) (List.getElem?_eq_getElem h0)
  exact ⟨g, e, by rw [e, Nat.zero_mul]⟩⟩
def cutA (a : Option Addr) (c lo : Nat) : Option Addr := if c = lo then a else a.map fun x => x.add (lo * 122)
theorem RsOk.cut {L : List MMsg} {A : Nat -> Option Addr} {p : Nat -> Nat} {RA : Nat -> Option Addr} {RN RC : Nat -> Nat} (h : RsOk L A p RA RN RC) {i lo : Nat} (hi : i < 11) (hlo : lo <= RN i) :
  RsOk L A (upd p i (p i + lo)) (upd RA i (cutA (RA i) (RC i) lo)) (upd RN i (RN i - lo)) (upd RC i (RC i - lo)) := by
 refine ⟨fun j hj => ?_⟩
 by_cases hji : j = i
 ·subst hji
  rw [upd_same, upd_same, upd_same, upd_same]
  obtain ⟨h1, h2, h3, h4, h5, h6⟩ := h.ok j hj
  refine ⟨by omega, by omega, by omega, by omega, fun e => ?_, fun h0 => ?_⟩
  ·unfold cutA at e
   split at e
   ·omega
   ·cases hr : RA j with
    | none => have := h5 hr; omega
    | some x => rw [hr] at e; cases e
  ·obtain ⟨g, e1, e2⟩ := h6 (by omega)
   refine ⟨g, e1, ?_⟩
   rw [cutA, if_neg (by omega), e2, Option.map_some, add_at, <- Nat.add_mul]
 ·rw [upd_ne _ _ hji, upd_ne _ _ hji, upd_ne _ _ hji, upd_ne _ _ hji]
  exact h.ok j hj
def plc (L : List MMsg) (p : Nat -> Nat) (i : Nat) : Nat := match (strm L i)[p i]? with | some t => t.2 | none => 0
theorem RsOk.heads {W : World} {b n : Nat} {A : Nat -> Option Addr} {C : Nat -> Nat} {L : List MMsg} {p : Nat -> Nat} {RA : Nat -> Option Addr} {RN RC : Nat -> Nat} (h : LoreAt W b n A C L) (hr : RsOk L A p RA RN RC) : Hds W (rsv RA RN RC) RA RN RC (plc L p) := by
 refine ⟨rsv_length _ _ _, fun i hi => rsv_get _ _ _ hi, fun i hi h0 => ?_⟩
 obtain ⟨h1, h2, _, _, _, h6⟩ := hr.ok i hi
 obtain ⟨g, e1, e2⟩ := h6 h0
 have hlt : p i < (strm L i).length := by rw [cnt] at h2; omega
 have ht := List.getElem?_eq_getElem hlt
 obtain ⟨g', e', hrg, _⟩ := h.tk hi ht
 rw [e1] at e'
 injection e' with e'
 injection e' with e' _
 subst e'
 have hw := (h.wf _ (strm_mem (List.mem_of_getElem? ht)).1).1
 refine ⟨g, p i * 122, e2, ownsRow_lt (h.row i hi) g (by rw [sv, e1]; rfl), ?_⟩
 have := hrg 121 (.int .i64 (((strm L i)[p i]'hlt).2 : Int)) (by rw [tkC, List.getElem?_append_right (by rw [msgC_length hw]; exact Nat.le_refl _), msgC_length hw]; rfl)
 rw [this, plc, ht]
theorem er_rem {L : List MMsg} (hn : Nm L) {A : Nat -> Option Addr} {p : Nat -> Nat} {RA : Nat -> Option Addr} {RN RC : Nat -> Nat} (hr : RsOk L A p RA RN RC) :
  (rem L p = [] -> (er RN (plc L p) 11).2 = false) /\ (∀ t R, rem L p = t :: R -> er RN (plc L p) 11 = (t.1.oi, true)) := by
 constructor
 ·intro h
  refine er_none 11 fun i hi => ?_
  have := rem_none hn h i
  have := (hr.ok i hi).2.1
  omega
 ·intro t R h
  obtain ⟨h1, h2, h3, _⟩ := rem_head hn h
  have hl := (List.getElem?_eq_some_iff.1 h1).1
  have h0 : 0 < RN t.1.oi := by have := (hr.ok _ h2).2.1; rw [cnt] at this; omega
  refine (er_some h0 (fun i hi hne hp => ?_) 11 (Nat.le_refl _)).2 h2
  have hlt : p i < (strm L i).length := by have := (hr.ok i hi).2.1; rw [cnt] at this; omega
  have := h3 i _ hne (List.getElem?_eq_getElem hlt)
  rw [plc, h1, plc, List.getElem?_eq_getElem hlt]
  exact this
theorem rest_msg {W : World} {b n : Nat} {A : Nat -> Option Addr} {C : Nat -> Nat} {L : List MMsg} {p : Nat -> Nat} {RA : Nat -> Option Addr} {RN RC : Nat -> Nat} (h : LoreAt W b n A C L) (hr : RsOk L A p RA RN RC) {t : Tk} (hi : t.1.oi < 11) (ht : (strm L t.1.oi)[p t.1.oi]? = some t) :
  0 < RN t.1.oi /\ ∃ g, RA t.1.oi = some ⟨g, p t.1.oi * 122, none⟩ /\ W.rangeAt g (p t.1.oi * 122) (msgC t.1) /\ t.1.Wf /\ Prs W t.1.body.qa t.1.body.qs := by
 have hl := (List.getElem?_eq_some_iff.1 ht).1
 obtain ⟨h1, h2, _, _, _, h6⟩ := hr.ok _ hi
 have h0 : 0 < RN t.1.oi := by rw [cnt] at h2; omega
 obtain ⟨g, e1, e2⟩ := h6 h0
 obtain ⟨g', e', hrg, _⟩ := h.tk hi ht
 rw [e1] at e'
 injection e' with e'
 injection e' with e' _
 subst e'
 have hm := (strm_mem (List.mem_of_getElem? ht)).1
 exact ⟨h0, g, e2, (range_app hrg).1, (h.wf _ hm).1, (h.wf _ hm).2.2⟩
theorem slice_tks (a : Option Addr) (n c lo : Nat) (kd : IntKind) (h1 : lo <= n) (W : World) :
  (Instr.slice 90 (.slice a n c) (some (.int kd (lo : Int))) none none).run Tryz.prog W = .ok (.slice (cutA a c lo) (n - lo) (c - lo)) W := by
 have hs : (sizeOf (Tryz.prog.elem 90)).run Tryz.prog W = .ok 122 W := by kernel_rfl
 rw [run_slice_l W 90 a n c (by kernel_rfl) kd (lo : Int) (by omega) (by omega)]
 rw [hs]
 simp only [Result.andThen_ok, sliced, Int.toNat_natCast, cutA]
end Go.Proofs.YtllbbcifcbkgeaaGreatDoor.Sh
