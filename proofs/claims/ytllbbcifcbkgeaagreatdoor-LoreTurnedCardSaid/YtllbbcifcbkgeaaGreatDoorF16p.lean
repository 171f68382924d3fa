/- Laws and walks. -/
import Derived.Test.YtllbbcifcbkgeaaGreatDoorF15p
set_option maxHeartbeats 16000000
set_option maxRecDepth 100000
namespace Go.Proofs.YtllbbcifcbkgeaaGreatDoor.Sh
open Go.RowKit
theorem exec_sliceLo {P : Program} {o : Oper} {f : Operand -> Value} {w : World} (t : TypeId) (p q : Operand) (ho : o.op = .slice t p (some q) none none) (x y v : Value) (hp : f p = x) (hq : f q = y) (hr : (Instr.sliceAt t x (some y) none none).run P w = .ok v w) : (execOp f o).run P w = .ok (.value v) w := by
 unfold execOp
 simp only [ho, Option.map_some, Option.map_none, hp, hq, Sem.run_bind, hr, Result.andThen_ok]
 rfl
theorem wpList_sliceLo {P : Program} {ops : Array Oper} {rest : List Oper} {o : Oper} {a : Act} {w : World} {Q : Exit -> Act -> World -> Prop} (hgd : o.guard = none) (t : TypeId) (p q : Operand) (ho : o.op = .slice t p (some q) none none) (x y v : Value) (hp : a.eval p = x) (hq : a.eval q = y) (hr : (Instr.sliceAt t x (some y) none none).run P w = .ok v w)
  (h : wpList P ops Q rest (a.put o.dst v) w) : wpList P ops Q (o :: rest) a w :=
 wpList_plain hgd fun K hK => by
  unfold Oper.wp execOp
  simp only [ho, Option.map_some, Option.map_none, hp, hq, Sem.run_bind, hr, Result.andThen_ok]
  exact hK _ _ h
theorem sliceAt_tks (a : Option Addr) (n c lo : Nat) (kd : IntKind) (h1 : lo <= n) (W : World) :
  (Instr.sliceAt 90 (.slice a n c) (some (.int kd (lo : Int))) none none).run Tryz.prog W = .ok (.slice (cutA a c lo) (n - lo) (c - lo)) W := by
 rw [run_sliceAt_slice W 90 _ _ _ _ (by kernel_rfl)]
 exact slice_tks a n c lo kd h1 W
def slLen : Value -> Nat
 | .slice _ n _ => n
 | _ => 0
def p0 (L : List MMsg) (v : List Nat) (i : Nat) : Nat := min (v.getD i 0) (cnt L i)
def pTo (L : List MMsg) (v : List Nat) (j i : Nat) : Nat := if i < j then p0 L v i else 0
theorem pTo_next (L : List MMsg) (v : List Nat) (j : Nat) : upd (pTo L v j) j (pTo L v j j + p0 L v j) = pTo L v (j + 1) := by
 funext i
 by_cases h : i = j
 ·subst h; rw [upd_same, pTo, pTo, if_neg (by omega), if_pos (by omega), Nat.zero_add]
 ·rw [upd_ne _ _ h, pTo, pTo]
  by_cases h2 : i < j
  ·rw [if_pos h2, if_pos (by omega)]
  ·rw [if_neg h2, if_neg (by omega)]
theorem rsOk_congr {L : List MMsg} {A : Nat -> Option Addr} {p p' : Nat -> Nat} {RA : Nat -> Option Addr} {RN RC : Nat -> Nat} (h : RsOk L A p RA RN RC) (e : ∀ i, i < 11 -> p i = p' i) : RsOk L A p' RA RN RC :=
 ⟨fun i hi => by rw [<- e i hi]; exact h.ok i hi⟩
theorem rem_congr {L : List MMsg} (ho : ∀ m ∈ L, 1 <= m.origin /\ m.origin <= 11) {p p' : Nat -> Nat} (e : ∀ i, i < 11 -> p i = p' i) : rem L p = rem L p' :=
 List.filter_congr fun t ht => by
  have htL : t.1 ∈ L := by have := List.mem_zipIdx ht; simp at this; rw [this.2]; exact List.getElem_mem _
  rw [e _ (of_oi (ho _ htL)).1]
theorem since_fin {L : List MMsg} (hn : Nm L) {v : List Nat} {most : Int} {out : List MMsg} (h1 : out.map MMsg.bare = (((rem L (p0 L v)).map Prod.fst).take out.length).map MMsg.bare) (h2 : out.length <= most.toNat)
  (h3 : most.toNat <= out.length \/ (rem L (p0 L v)).length <= out.length) : out.map MMsg.bare = (snc v most L).map MMsg.bare := by
 have hf := rem_first hn v
 rw [show (fun i => min (v.getD i 0) (cnt L i)) = p0 L v from rfl] at hf
 rw [h1, hf, snc]
 have hl : (L.filter fun m => decide (v.getD m.oi 0 < m.number)).length = (rem L (p0 L v)).length := by rw [<- hf, List.length_map]
 rcases h3 with h3 | h3
 ·rw [show most.toNat = out.length by omega]
 ·rw [List.take_of_length_le (by omega), List.take_of_length_le (by omega)]
theorem zero_streams (w : World) : (zeroValue 91).run Tryz.prog w = .ok (.agg (rsv (fun _ => none) (fun _ => 0) (fun _ => 0)).toArray) w := by kernel_rfl
theorem one_rsv (A : Nat -> Option Addr) (N C : Nat -> Nat) : ∀ v ∈ rsv A N C, v.oneCell' = true := by
 intro v hv
 simp only [rsv, List.mem_map] at hv
 obtain ⟨i, _, rfl⟩ := hv
 rfl
theorem info_streams {S : List Value} (h : S.length = 11) : (Tryz.prog.info? 91).map (·.size) = some S.length := by rw [h]; kernel_rfl
theorem Fr.rot3 {v W : World} {a b c : Thing} {os : List Thing} (H : Fr v W (a :: b :: c :: os)) : Fr v W (b :: c :: a :: os) := H.perm ((List.Perm.swap ..).trans ((List.Perm.swap ..).cons _))
theorem rem_len (L : List MMsg) (p : Nat -> Nat) : (rem L p).length <= L.length := Nat.le_trans (List.length_filter_le _ _) (by simp)
theorem rest_lt {W : World} {g o : Nat} {m : MMsg} (h : W.rangeAt g o (msgC m)) : g < W.heap.size := by
 have := h 0 _ rfl
 rw [World.cell?] at this
 by_cases hl : g < W.heap.size
 ·exact hl
 ·rw [Array.getElem?_eq_none (by simpa using hl)] at this
  cases this
structure InvS (L : List MMsg) (v : List Nat) (most : Int) (p : Nat -> Nat) (out : List MMsg) : Prop where
 left : rem L p = (rem L (p0 L v)).drop out.length
 told : out.map MMsg.bare = (((rem L (p0 L v)).map Prod.fst).take out.length).map MMsg.bare
 le : out.length <= (rem L (p0 L v)).length
 most : out.length <= most.toNat
theorem invS_start {L : List MMsg} (hn : Nm L) (v : List Nat) (most : Int) : InvS L v most (pTo L v 11) [] :=
 ⟨by rw [rem_congr hn.1 (p' := p0 L v) fun i hi => by rw [pTo, if_pos hi]]; rfl, by simp, Nat.zero_le _, Nat.zero_le _⟩
theorem invS_next {L : List MMsg} (hn : Nm L) {v : List Nat} {most : Int} {p : Nat -> Nat} {out : List MMsg} (h : InvS L v most p out) {t : Tk} {R : List Tk} (ht : rem L p = t :: R) (hm : (out.length : Int) < most) (a : Option Addr) (c : Nat) :
  InvS L v most (upd p t.1.oi (p t.1.oi + 1)) (out ++ [t.1.at a c]) := by
 have hlt : out.length < (rem L (p0 L v)).length := by
  have := congrArg List.length h.left
  rw [ht, List.length_drop, List.length_cons] at this
  omega
 have hg : (rem L (p0 L v))[out.length]? = some t := by
  have := congrArg (fun l => l[0]?) h.left
  rw [ht] at this
  simp only [List.getElem?_cons_zero, List.getElem?_drop, Nat.add_zero] at this
  exact this.symm
 refine ⟨?_, ?_, by rw [List.length_append]; simp; omega, by rw [List.length_append]; simp; omega⟩
 ·rw [(rem_head hn ht).2.2.2, List.length_append]
  have := congrArg List.tail h.left
  rw [ht, List.tail_cons, List.tail_drop] at this
  exact this
 ·rw [List.length_append, List.map_append, h.told, List.length_singleton, List.take_add_one, List.getElem?_map, hg, List.map_append]
  rfl
theorem since_any {w : World} {b n : Nat} {A : Nat -> Option Addr} {C : Nat -> Nat} {L : List MMsg} (h : LoreAt w b n A C L) (hn : Nm L) (v : List Nat) (hv : v.length = 11) (most : Int) (hq : ∀ m ∈ L, m.body.qs.length <= 1000000) (hk : KIs w) (h0 : 0 < w.heap.size) :
  Calls Tryz.prog 26 #[.pointer (some ⟨b, 0, none⟩), .agg (u64s v).toArray, .int .i64 most] w fun E W' => ∃ A' c out, E = .returned (.slice A' out.length c) /\ out.map MMsg.bare = (snc v most L).map MMsg.bare /\ Fr w W' [mrT A' c out, qsT out] := by
 have hz := zero_streams
 have hzl := rsv_length (fun _ => none) (fun _ => 0) (fun _ => 0)
 have hzn : ¬ (rsv (fun _ => none) (fun _ => 0) (fun _ => 0) = []) := fun e => by rw [e] at hzl; cases hzl
 obtain ⟨Z, hZ⟩ : ∃ Z, Z = rsv (fun _ => none) (fun _ => 0) (fun _ => 0) := ⟨_, rfl⟩
 rw [<- hZ] at hz hzl hzn
 clear hZ
 have HZl := iq hzl
 have H0 := iq (((Fr.start hk h0).box (u64s v).toArray 27).box' (k := w.heap.size + 1) (by simp) Z.toArray 91)
 have HLo := iq (fun (W : World) (hb : Below w.heap.size w W) => h.below hb)
 have HIs := iq (fun (A' : Nat -> Option Addr) (N' C' : Nat -> Nat) => info_streams (rsv_length A' N' C'))
 have HOs := iq one_rsv
 have HKn := iq (fun (W : World) (hb : Below w.heap.size w W) (i : Nat) (hi : i < 11) => known_any (h.below hb) hi ((i : Int) + 1) rfl)
 have HRall : Hid (∀ W, Below w.heap.size w W -> W.rangeAt b 1 (rsv A (cnt L) C)) := iq fun W hb => (h.below hb).all
 have HVl := iq hv
 have HNm := iq hn
 have HQ := iq hq
 have HKs := iq (Fr.start hk h0)
 have HFw := iq h.few
 have HRs0 := iq (RsOk.start h)
 have HCl := iq (fun i hi => h.cnt_le (i := i) hi)
 clear h hn hv hq hk h0
 go_enter Tryz.func26, Tryz.ntmps26
 have HLE : Hid (0 + (rsv A (cnt L) C).length <= Z.length /\ setAll Z 0 (rsv A (cnt L) C) = rsv A (cnt L) C) := iq ⟨by rw [rsv_length, HZl.out]; omega, setAll_all (by rw [rsv_length, HZl.out])⟩
 go_wp2_with (first | ((with_reducible refine wpList_load_midG ?_ 91 (.tmp 17) ?_ b 1 ?_ (rsv A (cnt L) C) _ ?_ Tryz.underlying91 ?_ ?_ ?_); rotate_left; rfl; rfl; exact HRall.out _ (by first | exact (Fr.start HKs.out.ks HKs.out.pos).box _ _ |>.bel | exact H0.out.bel); rfl; exact HIs.out _ _ _; rotate_left; rfl) | (refine wpList_store_part rfl 91 (.tmp 7) (.tmp 18) rfl (w.heap.size + 1) 0 Z (rsv A (cnt L) C) (rsv A (cnt L) C) 91 H0.out.hd HLE.out.1 HLE.out.2 rfl rfl (HIs.out _ _ _) (HOs.out _ _ _) ?_; intro w3 G3; have H3 : Hid (Fr w w3 [blkT (w.heap.size + 1) (rsv A (cnt L) C).toArray 91, blkT w.heap.size (u64s v).toArray 27]) := iq (H0.out.turn (own_grown G3.out.2 rfl) G3.out.1 (blkT_ok _ _ _)); clear H0) | ((with_reducible refine wpList_load_midG ?_ 91 (.tmp 7) ?_ (w.heap.size + 1) 0 ?_ (rsv A (cnt L) C) _ ?_ Tryz.underlying91 ?_ ?_ ?_); rotate_left; rfl; rfl; exact range_of H3.out.hd; rfl; exact HIs.out _ _ _; rotate_left; rfl))
 have HR3 : Hid (∃ RA RN RC, RsOk L A (pTo L v 0) RA RN RC /\ (∀ i, 0 <= i -> RA i = A i /\ RN i = cnt L i /\ RC i = C i) /\ Fr w w3 [blkT (w.heap.size + 1) (rsv RA RN RC).toArray 91, blkT w.heap.size (u64s v).toArray 27]) := iq ⟨A, cnt L, C, rsOk_congr HRs0.out (fun i _ => by simp [pTo]), fun i _ => ⟨rfl, rfl, rfl⟩, H3.out⟩
 clear H3
 obtain ⟨S, hS⟩ : ∃ S, S = rsv A (cnt L) C := ⟨_, rfl⟩
 rw [<- hS]
 have HSg : Hid (∀ i, i < 11 -> S[i]? = some (.slice (A i) (cnt L i) (C i))) := iq fun i hi => by rw [hS]; exact rsv_get _ _ _ hi
 clear hS
 go_loopw [20] (fun v20 wr => ∃ j : Nat, j <= 11 /\ v20 = .int .i64 (j : Int) /\ Hid (∃ RA RN RC, RsOk L A (pTo L v j) RA RN RC /\ (∀ i, j <= i -> RA i = A i /\ RN i = cnt L i /\ RC i = C i) /\ Fr w wr [blkT (w.heap.size + 1) (rsv RA RN RC).toArray 91, blkT w.heap.size (u64s v).toArray 27])) (fun v20 _ => 11 - (intOf v20).toNat)
 case atStart => exact ⟨0, by omega, rfl, HR3⟩
 case round =>
  clear HR3
  obtain ⟨j, hj, rfl, DD⟩ := hrel
  by_cases hjj : j < 11
  ·have hdec : decide ((j : Int) < (11 : Int)) = true := decide_eq_true (by omega)
   have hj0 : (0 : Int) <= (j : Int) := by omega
   have hjn : (j : Int) < (11 : Int) := by omega
   have htn : ((j : Int)).toNat = j := by omega
   have hw1 : IntKind.i64.wrap ((j : Int) + 1) = (j : Int) + 1 := by rw [IntKind.wrap_i64]; omega
   have HJ := iq hjj
   have HW1 := iq hw1
   have hx1 := fun w => idx_svs hjj (HSg.out j hjj) w
   obtain ⟨RA, RN, RC, hok, hrest, hfr⟩ := DD.out
   obtain ⟨e1, e2, e3⟩ := hrest j (Nat.le_refl _)
   have HRest := iq hrest
   have HOk := iq hok
   have H4 := iq hfr
   obtain ⟨x, hx⟩ : ∃ x, v[j]? = some x := ⟨_, List.getElem?_eq_getElem (by rw [HVl.out]; omega)⟩
   have HX := iq hx
   have hp0 : p0 L v j = min x (cnt L j) := by rw [p0, List.getD_eq_getElem?_getD, hx]; rfl
   have hcl := HCl.out j hjj
   have HK8 := iq (fun (W : World) (hb : Below w.heap.size w W) => HKn.out W hb j hjj)
   obtain ⟨lo, hlo⟩ : ∃ lo, lo = p0 L v j := ⟨_, rfl⟩
   have HLoE := iq hlo
   rw [<- hlo] at hp0
   have HEn : Hid (RsOk L A (pTo L v (j + 1)) (upd RA j (cutA (A j) (C j) lo)) (upd RN j (cnt L j - lo)) (upd RC j (C j - lo)) /\ (∀ i, j + 1 <= i -> upd RA j (cutA (A j) (C j) lo) i = A i /\ upd RN j (cnt L j - lo) i = cnt L i /\ upd RC j (C j - lo) i = C i)) := iq ⟨by
    have := hok.cut hjj (lo := lo) (by rw [e2, hp0]; exact Nat.min_le_right _ _)
    rw [e1, e2, e3] at this
    rw [hlo, pTo_next] at this
    rw [hlo]
    exact this, fun i hi => by rw [upd_ne _ _ (by omega), upd_ne _ _ (by omega), upd_ne _ _ (by omega)]; exact hrest i (by omega)⟩
   obtain ⟨k, hk⟩ : ∃ k, k = cnt L j := ⟨_, rfl⟩
   obtain ⟨aj, ha⟩ : ∃ a, a = A j := ⟨_, rfl⟩
   obtain ⟨cj, hc⟩ : ∃ c, c = C j := ⟨_, rfl⟩
   rw [<- hk] at hx1 hcl HK8 HEn hp0
   rw [<- ha, <- hc] at hx1 HEn
   have HMn : Hid ((if (k : Int) < (x : Int) then (k : Int) else (x : Int)) = (lo : Int) /\ (if k < x then (k : Int) else (x : Int)) = (lo : Int)) := iq ⟨by split <;> omega, by split <;> omega⟩
   have HLo2 : Hid (lo <= k) := iq (by omega)
   clear hok hrest hfr e1 e2 e3 hx hlo hp0 hk ha hc DD
   go_wp2_with fail
   refine wp_region_any (by kernel_rfl) ?_
   change wpAny _ _ _ _ _ _ _ (World.drewN _ 1)
   refine held_gen (G := fun W' => wpAny _ _ _ _ _ _ _ W') (fun W' => Fr w W' [blkT (w.heap.size + 1) (rsv RA RN RC).toArray 91, blkT w.heap.size (u64s v).toArray 27]) (H4.out.drewN 1) (fun y0 hw => ?_)
   have H5 := iq hw
   clear hw H4
   have HEv : Hid (∀ W, Fr w W [blkT (w.heap.size + 1) (rsv RA RN RC).toArray 91, blkT w.heap.size (u64s v).toArray 27] -> Below w.heap.size w W /\ W.cell? ⟨w.heap.size, j, none⟩ = some (.int .u64 (x : Int))) := iq fun W hf => ⟨hf.bel, block_cell hf.hd2 j _ (by rw [u64s, List.getElem?_map, HX.out]; rfl)⟩
   have HEv2 : Hid (∀ W, Fr w W [blkT (w.heap.size + 1) (rsv (upd RA j (cutA aj cj lo)) (upd RN j (k - lo)) (upd RC j (cj - lo))).toArray 91, blkT w.heap.size (u64s v).toArray 27] -> Below w.heap.size w W /\ W.cell? ⟨w.heap.size, j, none⟩ = some (.int .u64 (x : Int))) := iq fun W hf => ⟨hf.bel, block_cell hf.hd2 j _ (by rw [u64s, List.getElem?_map, HX.out]; rfl)⟩
   refine wpAny_of_held (S := fun W => Below w.heap.size w W /\ W.cell? ⟨w.heap.size, j, none⟩ = some (.int .u64 (x : Int))) _ _ _ _ ?_
   refine tk 0 ⟨some 24, .move (.tmp 8), _, _, _, none⟩ (.int .i64 (j : Int)) rfl (by kernel_rfl) (fun _ _ _ => id) (HEv.out _ H5.out) (fun W hSW => by go_simp) ?_
   try simp only [pu, l0, l1, l2]
   refine tk 1 ⟨some 25, .move (.tmp 9), _, _, _, none⟩ (.slice aj k cj) rfl (by kernel_rfl) (fun _ _ _ => id) (HEv.out _ H5.out) (fun W hSW => by go_simp) ?_
   try simp only [pu, l0, l1, l2]
   refine tk 2 ⟨some 26, .move (.tmp 8), _, _, _, none⟩ (.int .i64 (j : Int)) rfl (by kernel_rfl) (fun _ _ _ => id) (HEv.out _ H5.out) (fun W hSW => by go_simp) ?_
   try simp only [pu, l0, l1, l2]
   refine tk 3 ⟨some 27, .indexAddr 27 (.tmp 4) (.tmp 26), _, _, _, none⟩ (.pointer (some ⟨w.heap.size, j, none⟩)) rfl (by kernel_rfl) (fun _ _ _ => id) (HEv.out _ H5.out) (fun W hSW => by go_simp) ?_
   try simp only [pu, l0, l1, l2]
   refine tk 4 ⟨some 28, .load 25 (.tmp 27), _, _, _, none⟩ (.int .u64 (x : Int)) rfl (by kernel_rfl) (fun _ _ _ => id) (HEv.out _ H5.out) (fun W hSW => by have hv := hSW.2; go_simp) ?_
   try simp only [pu, l0, l1, l2]
   refine tk 5 ⟨some 29, .move (.tmp 0), _, _, _, none⟩ (.pointer (some ⟨b, 0, none⟩)) rfl (by kernel_rfl) (fun _ _ _ => id) (HEv.out _ H5.out) (fun W hSW => by go_simp) ?_
   try simp only [pu, l0, l1, l2]
   refine tk 6 ⟨some 30, .move (.tmp 8), _, _, _, none⟩ (.int .i64 (j : Int)) rfl (by kernel_rfl) (fun _ _ _ => id) (HEv.out _ H5.out) (fun W hSW => by go_simp) ?_
   try simp only [pu, l0, l1, l2]
   refine tk 7 ⟨some 31, .binOp .add 3 (.tmp 30) (.const (.int .i64 1)) 3, _, _, _, none⟩ (.int .i64 ((j : Int) + 1)) rfl (by kernel_rfl) (fun _ _ _ => id) (HEv.out _ H5.out) (fun W hSW => by have hw2 := HW1.out; go_simp) ?_
   try simp only [pu, l0, l1, l2]
   refine rd1 8 ⟨some 32, .call { callee := .value (.func 48), args := #[.tmp 29, .tmp 31], argTypes := #[36, 3] }, _, _, _, none⟩ (by kernel_rfl) rfl fun K' hK' => ?_
   go_simp
   go_at_call 48
   refine (HK8.out _ H5.out.bel).mono ?_
   rintro E y1 ⟨rfl, rfl⟩
   refine hK'.out _ _ (HEv.out _ H5.out) (fun _ => ?_)
   clear hK' K'
   try simp only [Act.put, l0, l1, l2]
   refine tk 9 ⟨some 33, .call { callee := .builtin .min, args := #[.tmp 28, .tmp 32], argTypes := #[25, 25] }, _, _, _, none⟩ (.int .u64 (lo : Int)) rfl (by kernel_rfl) (fun _ _ _ => id) (HEv.out _ H5.out) (fun W hSW => by have hm1 := HMn.out.1; have hm2 := HMn.out.2; go_simp) ?_
   try simp only [pu, l0, l1, l2]
   refine tk 10 ⟨some 34, .slice 90 (.tmp 25) (some (.tmp 33)) none none, _, _, _, none⟩ (.slice (cutA aj cj lo) (k - lo) (cj - lo)) rfl (by kernel_rfl) (fun _ _ _ => id) (HEv.out _ H5.out) (fun W hSW => exec_sliceLo 90 (.tmp 25) (.tmp 33) rfl _ _ _ rfl rfl (sliceAt_tks aj k cj lo .u64 HLo2.out W)) ?_
   try simp only [pu, l0, l1, l2]
   refine tk 11 ⟨some 35, .indexAddr 91 (.tmp 7) (.tmp 24), _, _, _, none⟩ (.pointer (some ⟨w.heap.size + 1, j, none⟩)) rfl (by kernel_rfl) (fun _ _ _ => id) (HEv.out _ H5.out) (fun W hSW => by go_simp) ?_
   try simp only [pu, l0, l1, l2]
   refine rd1 12 ⟨none, .store 90 (.tmp 35) (.tmp 34), _, _, _, none⟩ (by kernel_rfl) rfl fun K' hK' => ?_
   have hc12 : y0.cell? ⟨w.heap.size + 1, j, none⟩ = some (.slice (RA j) (RN j) (RC j)) := block_cell H5.out.hd j _ (rsv_get _ _ _ HJ.out)
   have hf12 : y0.frozen? ⟨w.heap.size + 1, j, none⟩ = false := free_block H5.out.hd j
   go_simp
   have H6 : Hid (Fr w (y0.setCell ⟨w.heap.size + 1, j, none⟩ (.slice (cutA aj cj lo) (k - lo) (cj - lo))) [blkT (w.heap.size + 1) (rsv (upd RA j (cutA aj cj lo)) (upd RN j (k - lo)) (upd RC j (cj - lo))).toArray 91, blkT w.heap.size (u64s v).toArray 27]) := iq (by have := H5.out.set j (.slice (cutA aj cj lo) (k - lo) (cj - lo)); rw [rsv_set _ _ _ HJ.out] at this; exact this)
   refine hK'.out _ _ (HEv2.out _ H6.out) (fun _ => ?_)
   clear hK' K' hc12 hf12
   refine wpAnyH_done (by kernel_rfl) ?_ _
   go_wp2_with fail
   go_roundw
   case measure => simp [intOf] <;> omega
   case rel => exact ⟨j + 1, by omega, by go_num, iq ⟨_, _, _, HEn.out.1, HEn.out.2, H6.out⟩⟩
  ·obtain rfl : j = 11 := by omega
   obtain ⟨RA, RN, RC, hok, _, hfr⟩ := DD.out
   have HL0 : Hid (∃ (Ao : Option Addr) (co : Nat) (out : List MMsg) (p : Nat -> Nat) (RA : Nat -> Option Addr) (RN RC : Nat -> Nat), Value.slice none 0 0 = .slice Ao out.length co /\ out.length = 0 /\ RsOk L A p RA RN RC /\ InvS L v most p out /\ Fr w wr [mrT Ao co out, qsT out, blkT (w.heap.size + 1) (rsv RA RN RC).toArray 91, blkT w.heap.size (u64s v).toArray 27]) := iq ⟨none, 0, [], pTo L v 11, RA, RN, RC, rfl, rfl, hok, invS_start HNm.out v most, mr_nil (qs_nil hfr)⟩
   clear hok hfr DD
   go_wp2_with fail
   go_loopw [10] (fun v10 wr => ∃ M : Nat, M <= (rem L (p0 L v)).length /\ slLen v10 = M /\ Hid (∃ (Ao : Option Addr) (co : Nat) (out : List MMsg) (p : Nat -> Nat) (RA : Nat -> Option Addr) (RN RC : Nat -> Nat), v10 = .slice Ao out.length co /\ out.length = M /\ RsOk L A p RA RN RC /\ InvS L v most p out /\ Fr w wr [mrT Ao co out, qsT out, blkT (w.heap.size + 1) (rsv RA RN RC).toArray 91, blkT w.heap.size (u64s v).toArray 27])) (fun v10 _ => (rem L (p0 L v)).length + 1 - slLen v10)
   case atStart => exact ⟨0, Nat.zero_le _, rfl, HL0⟩
   case round =>
    clear HL0
    obtain ⟨M, hM, hsl, DD⟩ := hrel
    obtain ⟨Ao, co, out, p, RA, RN, RC, rfl, hMe, hok, hinv, hfr⟩ := DD.out
    have HMe := iq hMe
    have HOk := iq hok
    have HInv := iq hinv
    have H4 := iq hfr
    have hle := Nat.le_trans hinv.le (rem_len L (p0 L v))
    have hfw := HFw.out
    have hole : out.length <= 1000000 := by omega
    have HOle := iq hole
    have HMl := iq hM
    have HEar := iq (earliest_any (RsOk.heads (HLo.out _ hfr.bel) hok))
    have HEr := iq (er_rem HNm.out hok)
    obtain ⟨⟨q, z⟩, hqz⟩ : ∃ x, x = er RN (plc L p) 11 := ⟨_, rfl⟩
    rw [<- hqz] at HEar HEr
    clear hok hinv hfr DD hqz hM hsl hMe hle hfw hole
    have HFin : Hid (∀ W', Fr w W' [mrT Ao co out, qsT out, blkT (w.heap.size + 1) (rsv RA RN RC).toArray 91, blkT w.heap.size (u64s v).toArray 27] -> most.toNat <= out.length \/ (rem L (p0 L v)).length <= out.length -> ∃ A' c out', Value.slice Ao out.length co = .slice A' out'.length c /\ out'.map MMsg.bare = (snc v most L).map MMsg.bare /\ Fr w W' [mrT A' c out', qsT out']) := iq fun W' hf h3 => ⟨Ao, co, out, rfl, since_fin HNm.out HInv.out.told HInv.out.most h3, hf.sub (by first | exact List.Sublist.cons_cons _ (List.Sublist.cons_cons _ (List.nil_sublist _)) | simp)⟩
    obtain ⟨k, hk⟩ : ∃ k, k = out.length := ⟨_, rfl⟩
    have HKe := iq hk
    rw [<- hk] at HFin ⊢
    clear hk
    by_cases hm : (k : Int) < most
    ·cases hrem : rem L p with
     | nil =>
      obtain rfl : z = false := HEr.out.1 hrem
      have HN3 : Hid ((rem L (p0 L v)).length <= k) := iq (by have := congrArg List.length HInv.out.left; rw [hrem, List.length_drop, List.length_nil] at this; have := HKe.out; omega)
      clear hrem HEr
      go_wp2_with (first | ((with_reducible refine wpList_load_midG ?_ 91 (.tmp 7) ?_ (w.heap.size + 1) 0 ?_ (rsv RA RN RC) _ ?_ Tryz.underlying91 ?_ ?_ ?_); rotate_left; rfl; rfl; exact range_of H4.out.hd3; rfl; exact HIs.out _ _ _; rotate_left; rfl) | (go_at_call 50; refine HEar.out.mono ?_; rintro E w4 ⟨rfl, b4⟩; have H5 := iq (H4.out.below b4); clear b4 H4 HEar))
      go_ret
      obtain ⟨A', c, out', e1, e2, e3⟩ := HFin.out _ H5.out (.inr HN3.out)
      exact ⟨A', c, out', congrArg Ending.returned e1, e2, e3⟩
     | cons t R =>
      have hq := HEr.out.2 t R hrem
      obtain ⟨rfl, rfl⟩ := Prod.mk.inj hq
      clear hq HEr
      obtain ⟨ht1, ht2, _, _⟩ := rem_head HNm.out hrem
      have HInv2 := iq (fun a c => invS_next HNm.out HInv.out hrem (by rw [<- HKe.out]; exact hm) a c)
      obtain ⟨hn0, g, hra, hrg, hwf, hprs⟩ := rest_msg (HLo.out _ H4.out.bel) HOk.out ht2 ht1
      have HCut := iq (HOk.out.cut (lo := 1) ht2 hn0)
      have HWf := iq hwf
      have HQl := iq (HQ.out t.1 (strm_mem (List.mem_of_getElem? ht1)).1)
      have HMsg : Hid (∀ W, Below wr.heap.size wr W -> W.rangeAt g (p t.1.oi * 122) (msgC t.1) /\ Prs W t.1.body.qa t.1.body.qs) := iq fun W hb => ⟨rangeAt_below' hrg (by have := (rest_lt hrg); exact this) W hb, hprs.below hb⟩
      have HIm := iq (info_msg hwf)
      have HTm := iq ht2
      have HH4 := iq H4.out
      have hcell : Hid (∀ W, Fr w W [mrT Ao co out, qsT out, blkT (w.heap.size + 1) (rsv RA RN RC).toArray 91, blkT w.heap.size (u64s v).toArray 27] -> W.cell? ⟨w.heap.size + 1, t.1.oi, none⟩ = some (.slice (some ⟨g, p t.1.oi * 122, none⟩) (RN t.1.oi) (RC t.1.oi))) := iq fun W hf => by rw [<- hra]; exact block_cell hf.hd3 _ _ (rsv_get _ _ _ HTm.out)
      rw [hra] at HCut
      obtain ⟨q, hqq⟩ : ∃ q, q = t.1.oi := ⟨_, rfl⟩
      rw [<- hqq] at hcell HMsg HCut HTm HInv2 hn0 HEar
      obtain ⟨nq, hnq⟩ : ∃ n, n = RN q := ⟨_, rfl⟩
      obtain ⟨cq, hcq⟩ : ∃ n, n = RC q := ⟨_, rfl⟩
      rw [<- hnq, <- hcq] at hcell HCut
      rw [<- hnq] at hn0
      obtain ⟨pq, hpq⟩ : ∃ n, n = p q * 122 := ⟨_, rfl⟩
      rw [<- hpq] at hcell HMsg HCut
      have hq11 := HTm.out
      have hq0 : (0 : Int) <= (q : Int) := by omega
      have hq1 : (q : Int) < 11 := by omega
      have hq2 : (q : Int).toNat = q := by omega
      have hnn : (0 : Int) < (nq : Int) := by omega
      have HN1 := iq (show 1 <= nq from hn0)
      clear hrem ht1 ht2 hra hrg hwf hprs hqq hnq hcq hpq
      go_wp2_with (first | ((with_reducible refine wpList_load_midG ?_ 91 (.tmp 7) ?_ (w.heap.size + 1) 0 ?_ (rsv RA RN RC) _ ?_ Tryz.underlying91 ?_ ?_ ?_); rotate_left; rfl; rfl; exact range_of H4.out.hd3; rfl; exact HIs.out _ _ _; rotate_left; rfl) | (go_at_call 50; refine HEar.out.mono ?_; rintro E w4 ⟨rfl, b4⟩; have HM4 := iq (HMsg.out _ b4); have H5 := iq (H4.out.below b4); have hc5 := hcell.out _ H5.out; clear b4 H4 HEar) | ((with_reducible refine wpList_load_midG ?_ 52 (.tmp 53) ?_ g pq ?_ (msgC t.1) _ ?_ Tryz.underlying52 ?_ ?_ ?_); rotate_left; rfl; rfl; exact HM4.out.1; rfl; exact HIm.out; rotate_left; rfl) | (go_at_call 46; refine (own_any t.1 _ HWf.out HM4.out.2 HQl.out H5.out.ksW H5.out.posW).mono ?_; rintro E w6 ⟨a, c, rfl, hp6, hf6, b6⟩; have H6 : Hid (Fr w w6 [qT (t.1.at a c), mrT Ao co out, qsT out, blkT (w.heap.size + 1) (rsv RA RN RC).toArray 91, blkT w.heap.size (u64s v).toArray 27]) := iq (H5.out.add (o := qT (t.1.at a c)) b6 hp6 (qT_ok _) hf6); clear hp6 hf6 b6 hc5) | (refine wpList_buildSl rfl 24 52 (.tmp 55) rfl (msgC (t.1.at a c)) rfl (buildSl_msg _ (MMsg.at_wf HWf.out a c) _) ?_; have H7 := iq (H6.out.box (msgC (t.1.at a c)).toArray 52); obtain ⟨A8, c8, w8, hr8, hf8, _⟩ := mr_append H7.out.third 24 w6.heap.size (t.1.at a c) (MMsg.at_wf HWf.out a c) (range_of H7.out.hd) HOle.out; rw [<- HKe.out] at hr8; have H8 : Hid (Fr w w8 [mrT A8 c8 (out ++ [t.1.at a c]), qsT (out ++ [t.1.at a c]), blkT (w.heap.size + 1) (rsv RA RN RC).toArray 91, blkT w.heap.size (u64s v).toArray 27]) := iq (qs_snoc hf8.swap.pop.rot3).swap; clear hf8 H7) | (refine wpList_append_one rfl (.tmp 48) (.tmp 56) 24 rfl _ _ rfl rfl _ _ hr8 ?_; have hc8 : w8.cell? ⟨w.heap.size + 1, q, none⟩ = some (.slice (some ⟨g, pq, none⟩) nq cq) := by rw [<- hcell.out _ H5.out]; exact (block_cell H8.out.hd3 _ _ (rsv_get _ _ _ HTm.out)).trans (block_cell H5.out.hd3 _ _ (rsv_get _ _ _ HTm.out)).symm) | (refine wpList_sliceLo rfl 90 (.tmp 61) (.const (.int .i64 1)) rfl _ _ _ rfl rfl (sliceAt_tks (some ⟨g, pq, none⟩) nq cq 1 .i64 HN1.out _) ?_; have hf14 : w8.frozen? ⟨w.heap.size + 1, q, none⟩ = false := free_block H8.out.hd3 q))
      have H9 : Hid (Fr w (w8.setCell ⟨w.heap.size + 1, q, none⟩ (.slice (cutA (some ⟨g, pq, none⟩) cq 1) (nq - 1) (cq - 1))) [mrT A8 c8 (out ++ [t.1.at a c]), qsT (out ++ [t.1.at a c]), blkT (w.heap.size + 1) (rsv (upd RA q (cutA (some ⟨g, pq, none⟩) cq 1)) (upd RN q (nq - 1)) (upd RC q (cq - 1))).toArray 91, blkT w.heap.size (u64s v).toArray 27]) := iq (by have := (H8.out.third).set q (.slice (cutA (some ⟨g, pq, none⟩) cq 1) (nq - 1) (cq - 1)); rw [rsv_set _ _ _ HTm.out] at this; exact this.rot3)
      go_roundw
      case measure =>
       have hq9 := HInv2.out a c |>.le
       rw [List.length_append, List.length_singleton, <- HKe.out] at hq9
       show (rem L (p0 L v)).length + 1 - (k + 1) < (rem L (p0 L v)).length + 1 - k
       omega
      case rel =>
       repeat apply Exists.intro
       refine ⟨?_, rfl⟩
       exact ⟨k + 1, by have := HInv2.out a c |>.le; rw [List.length_append, List.length_singleton, <- HKe.out] at this; exact this, rfl, iq ⟨A8, c8, out ++ [t.1.at a c], _, _, _, _, by rw [List.length_append, <- HKe.out]; rfl, by rw [List.length_append, <- HKe.out]; rfl, HCut.out, HInv2.out a c, H9.out⟩⟩
    ·have HN3 : Hid (most.toNat <= k) := iq (by omega)
     go_wp2_with fail
     go_ret
     obtain ⟨A', c, out', e1, e2, e3⟩ := HFin.out _ H4.out (.inl HN3.out)
     exact ⟨A', c, out', congrArg Ending.returned e1, e2, e3⟩
end Go.Proofs.YtllbbcifcbkgeaaGreatDoor.Sh
