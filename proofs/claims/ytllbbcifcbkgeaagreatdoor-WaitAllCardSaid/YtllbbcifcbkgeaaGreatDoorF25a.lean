/- Laws and walks. -/
import Derived.Test.YtllbbcifcbkgeaaGreatDoorF24a
set_option maxHeartbeats 16000000
set_option maxRecDepth 100000
namespace Go.Proofs.YtllbbcifcbkgeaaGreatDoor.Sh
open Go.RowKit
theorem signR_tag {r : MReq} (h : r.tag.length = 32) : (signR r).tag.length = 32 := by
 rw [signR]
 split
 ·exact tagReq_len r
 ·exact h
theorem body_1 (x : MAct) (n : Nat) (w : World) (hx : x.Ok) (hk : KIs w) (h0 : 0 < w.heap.size) (hkk : x.kind % 6 = 0) : Calls Tryz.prog 39 #[.agg (actC x).toArray, .int .i64 (n : Int)] w fun E w' => BodyP w (aBody x n) E w' := by
 have hbod : aBody x n = { aBase x with req := aReq x } := by rw [aBody, hkk]; rfl
 have hk6 : x.kind % 6 = 0 := hkk
 have hz := zero_body
 have hzl := bodyC_length zero_wf
 have hzn : ¬ (bodyC zeroBody = []) := fun e => by rw [e] at hzl; cases hzl
 have H0 := iq (((Fr.start hk h0).box (actC x).toArray 87).box' (k := w.heap.size + 1) (by simp) (bodyC zeroBody).toArray 50)
 have H1 := iq (H0.out.box' (k := w.heap.size + 2) (by simp) (bodyC zeroBody).toArray 50)
 have c3 := block_cell H0.out.hd2 3 _ rfl
 have c4 := block_cell H0.out.hd2 4 _ rfl
 have HAc : Hid (∀ (W : World), W.heap[w.heap.size]? = some (.cells (actC x).toArray 87 (0, 0)) -> W.cell? ⟨w.heap.size, 5, none⟩ = some (.int .u8 (x.k : Int)) /\ W.cell? ⟨w.heap.size, 6, none⟩ = some (.int .u8 (x.client : Int)) /\ W.cell? ⟨w.heap.size, 7, none⟩ = some (.slice x.qa x.q.length x.qc)) := iq fun W h => ⟨block_cell h 5 _ rfl, block_cell h 6 _ rfl, block_cell h 7 _ rfl⟩
 have ht1 : Int.tmod (x.kind : Int) 6 = 0 := by rw [Int.tmod_eq_emod_of_nonneg (by omega)]; omega
 have ht2 : (x.kind : Int) % 6 = 0 := by omega
 obtain ⟨V, hV⟩ : ∃ V : Nat, V = 1 + x.view % 6 := ⟨_, rfl⟩
 have ht3 : Int.tmod (x.view : Int) 6 = (V : Int) - 1 := by rw [Int.tmod_eq_emod_of_nonneg (by omega)]; omega
 have hw3 : IntKind.u64.wrap ((V : Int) - 1) = (V : Int) - 1 := by rw [IntKind.wrap_u64]; omega
 have hw4 : IntKind.u64.wrap (1 + ((V : Int) - 1)) = (V : Int) := by rw [IntKind.wrap_u64]; omega
 have hw5 : 1 + ((V : Int) - 1) = (V : Int) := by omega
 have hba : aBase x = { zeroBody with kind := 1, view := V } := by rw [aBase, hk6, <- hV]; rfl
 obtain ⟨o, ho⟩ : ∃ o : MBody, o = { zeroBody with kind := 1, view := V } := ⟨_, rfl⟩
 have HO := iq ho
 have hbo : bodyC o = .int .u8 1 :: .int .u64 (V : Int) :: (bodyC zeroBody).drop 2 := by rw [ho]; rfl
 have HBo := iq hbo
 have HOw : Hid o.Wf := iq (by rw [ho]; exact ⟨rfl, rfl⟩)
 have HZl := iq hzl
 have HIn := iq (fun (o : MBody) (h : o.Wf) => info_body h)
 have HLE : Hid (∀ C : List Value, ∀ o : MBody, C.length = 76 -> o.Wf -> 0 + (bodyC o).length <= C.length /\ setAll C 0 (bodyC o) = bodyC o) := iq fun C o hc hm => ⟨by rw [bodyC_length hm, hc]; omega, setAll_all (by rw [bodyC_length hm, hc])⟩
 obtain ⟨K1, hK1⟩ : ∃ K1 : Nat, K1 = 1 + x.k := ⟨_, rfl⟩
 have hxq := hx.k
 have hxc := hx.client
 obtain ⟨K2, hK2⟩ : ∃ K2 : Nat, K2 = 1 + x.client % 3 := ⟨_, rfl⟩
 have hw7 : IntKind.u64.wrap (x.k : Int) = (x.k : Int) := by rw [IntKind.wrap_u64]; omega
 have hw8 : 1 + (x.k : Int) = (K1 : Int) := by omega
 have hw9 : IntKind.u64.wrap (K1 : Int) = (K1 : Int) := by rw [IntKind.wrap_u64]; omega
 have ht5 : Int.tmod (x.client : Int) 3 = (K2 : Int) - 1 := by rw [Int.tmod_eq_emod_of_nonneg (by omega)]; omega
 have ha1 : IntKind.i64.wrap ((K2 : Int) - 1) = (K2 : Int) - 1 := by rw [IntKind.wrap_i64]; omega
 have ha2 : 1 + ((K2 : Int) - 1) = (K2 : Int) := by omega
 have ha3 : IntKind.i64.wrap (K2 : Int) = (K2 : Int) := by rw [IntKind.wrap_i64]; omega
 obtain ⟨r, hr⟩ : ∃ r : MReq, r = { client := (K2 : Int), time := K1, op := ⟨1, ⟨#[97]⟩, ⟨#[]⟩, ⟨#[]⟩, ⟨#[]⟩, 0⟩, tag := noTag } := ⟨_, rfl⟩
 have hrl : r.tag.length = 32 := by rw [hr]; rfl
 have HSg : Hid (∀ W X, Below w.heap.size w W -> X = (reqC r).toArray -> Calls Tryz.prog 59 #[.agg X] W fun E w' => E = .returned (.agg (reqC (signR r)).toArray) /\ Below W.heap.size W w') := iq fun W X hb hX => by subst hX; exact (signed_rf r W hrl (fun i hi => (hb.cell (p := ⟨0, i, none⟩) h0).trans (hk i hi)) (Nat.lt_of_lt_of_le h0 hb.size)).mono fun _ _ h => ⟨h.1, h.2.out⟩
 have HR := iq hr
 obtain ⟨R, hR⟩ : ∃ R, R = signR r := ⟨_, rfl⟩
 have hRl : R.tag.length = 32 := by rw [hR]; exact signR_tag hrl
 rw [<- hR] at HSg
 have HRo := iq (one_reqC R)
 have HRi : Hid ((Tryz.prog.info? 47).map (·.size) = some (reqC R).length) := iq (by rw [reqC_length hRl]; exact Tryz.is47)
 obtain ⟨o2, ho2⟩ : ∃ o2 : MBody, o2 = { o with req := R } := ⟨_, rfl⟩
 have HS2 : Hid (3 + (reqC R).length <= (bodyC o).length /\ setAll (bodyC o) 3 (reqC R) = bodyC o2) := iq ⟨by rw [reqC_length hRl, bodyC_length HOw.out]; omega, by rw [ho2]; exact set_req o R HOw.out.1 hRl⟩
 have HW2 : Hid o2.Wf := iq (by rw [ho2, ho]; exact ⟨hRl, rfl⟩)
 have HO2 := iq (one_bodyC o2)
 have HQ2 : Hid (o2.qs.length = 0) := iq (by rw [ho2, ho]; rfl)
 rw [hba, <- ho] at hbod
 have hw6 : IntKind.u64.wrap (V : Int) = (V : Int) := by rw [IntKind.wrap_u64]; omega
 have HSt : Hid (((bodyC zeroBody).set 0 (.int .u8 1)).set 1 (.int .u64 (V : Int)) = bodyC o) := iq (by rw [ho]; rfl)
 have HOo := iq (one_bodyC o)
 have HQn : Hid (o.qs.length = 0) := iq (by rw [ho]; rfl)
 have hxk := hx.kind
 have hxv := hx.view
 rw [show aReq x = R by rw [hR, hr, hK1, hK2]; rfl] at hbod
 rw [<- ho2] at hbod
 have HBd := iq hbod
 clear hK1 hK2 ho2 hr hR hrl hRl hkk hk6 hV hba ho hbo hbod hzl
 go_enter Tryz.func39, Tryz.ntmps39
 go_wp2_with (first | (rw [HSt.out]; refine wpList_store_part rfl 50 (.tmp 5) (.tmp 16) rfl (w.heap.size + 1 + 1) 0 (bodyC zeroBody) (bodyC o) (bodyC o) 50 H1.out.hd (HLE.out _ o HZl.out HOw.out).1 (HLE.out _ o HZl.out HOw.out).2 rfl rfl (HIn.out o HOw.out) HOo.out ?_; intro w9 G9; have H9 : Hid (Fr w w9 [blkT (w.heap.size + 1 + 1) (bodyC o).toArray 50, blkT (w.heap.size + 1) (bodyC zeroBody).toArray 50, blkT w.heap.size (actC x).toArray 87]) := iq (H1.out.turn (own_grown G9.out.2 rfl) G9.out.1 (blkT_ok _ _ _)); have e0 := block_cell H9.out.hd 0 (.int .u8 1) (by rw [HBo.out]; rfl); clear G9 H1 H0; have e5 := (HAc.out _ H9.out.hd3).1; have e6 := (HAc.out _ H9.out.hd3).2.1) | (go_at_call 59; refine (HSg.out _ _ H9.out.bel (by rw [HR.out]; rfl)).mono ?_; rintro E w8 ⟨rfl, b8⟩; have H7 := iq (H9.out.below b8); clear b8 H9 e5 e6 e0) | (refine wpList_store_part rfl 47 (.tmp 33) (.tmp 32) rfl (w.heap.size + 1 + 1) 3 (bodyC o) (bodyC o2) (reqC R) 50 H7.out.hd HS2.out.1 HS2.out.2 rfl rfl HRi.out HRo.out ?_; intro w7 G7; have H8 : Hid (Fr w w7 [blkT (w.heap.size + 1 + 1) (bodyC o2).toArray 50, blkT (w.heap.size + 1) (bodyC zeroBody).toArray 50, blkT w.heap.size (actC x).toArray 87]) := iq (H7.out.turn (own_grown G7.out.2 rfl) G7.out.1 (blkT_ok _ _ _)); clear G7 H7) | ((with_reducible refine wpList_load_midG ?_ 50 (.tmp 5) ?_ (w.heap.size + 1 + 1) 0 ?_ (bodyC o2) _ ?_ Tryz.underlying50 ?_ ?_ ?_); rotate_left; rfl; rfl; exact range_of H8.out.hd; rfl; exact HIn.out o2 HW2.out; rotate_left; rfl) | (refine wpList_store_part rfl 50 (.tmp 4) (.tmp 92) rfl (w.heap.size + 1) 0 (bodyC zeroBody) (bodyC o2) (bodyC o2) 50 H8.out.hd2 (HLE.out _ o2 HZl.out HW2.out).1 (HLE.out _ o2 HZl.out HW2.out).2 rfl rfl (HIn.out o2 HW2.out) HO2.out ?_; intro w10 G10; have HX : Hid (Fr w w10 [blkT (w.heap.size + 1) (bodyC o2).toArray 50, blkT (w.heap.size + 1 + 1) (bodyC o2).toArray 50, blkT w.heap.size (actC x).toArray 87]) := iq (H8.out.swap.turn (own_grown G10.out.2 rfl) G10.out.1 (blkT_ok _ _ _)); clear G10 H8))
 exact bodyPost_ret (ret_range (cs := bodyC o2) rfl rfl (range_of HX.out.hd) Tryz.underlying50 rfl (HIn.out o2 HW2.out)) rfl (by rw [HBd.out]; exact ⟨o2.qa, o2.qc, rfl, ⟨fun h => absurd h (by rw [HQ2.out]; exact Nat.lt_irrefl 0), fun _ _ h => absurd h (by rw [HQ2.out]; exact Nat.lt_irrefl 0)⟩, HX.out.bel⟩)
open Go.RowKit
def prT (A : Option Addr) (c : Nat) (l : List (Int × Nat)) : Thing := ⟨fun W => W.ownsRow 0 55 2 (.slice A l.length c) l.length (prsC l), fun k => (Value.slice A l.length c).ownBlock = some k⟩
theorem prT_ok (A : Option Addr) (c : Nat) (l : List (Int × Nat)) : (prT A c l).Ok := ⟨fun _ _ h hk => ownsRow_kept h hk, fun _ h k hk => ownsRow_lt h k hk⟩
theorem Tryz.infoPr : (Tryz.prog.info? 55).map (fun i => (i.zero, i.size, i.bytes)) = some (some (.agg (prC (0, 0)).toArray), 2, 16) := by kernel_rfl
theorem one_prC (p : Int × Nat) : ∀ v ∈ prC p, v.oneCell' = true := by intro v hv; simp [prC] at hv; rcases hv with rfl | rfl <;> rfl
theorem buildSl_pr (p : Int × Nat) (w : World) : (Instr.buildSlice 48 1 #[(0, .agg (prC p).toArray)]).run Tryz.prog w = .ok (.slice (some ⟨w.heap.size, 0, none⟩) 1 1) (w.alloc (.cells (prC p).toArray 55)) := by
 obtain ⟨i0, hi, hz0, hz1, _⟩ := info_parts Tryz.infoPr
 exact buildSl Tryz.underlying48 hi hz0 hz1 (by decide) (by decide) _ rfl w
theorem pr_lit {v W : World} {os : List Thing} (H : Fr v W os) (p : Int × Nat) : Fr v (W.alloc (.cells (prC p).toArray 55)) (prT (some ⟨W.heap.size, 0, none⟩) 1 [p] :: os) :=
 H.add (bl.alloc (Nat.le_refl _) _) (World.ownsRow_lit W (prC p).toArray 1 (Nat.zero_le _) (by decide) rfl) (prT_ok _ _ _) fun k hk => by injection hk with hk; exact Nat.le_of_eq hk
theorem pr_append {v W : World} {os : List Thing} {A : Option Addr} {c : Nat} {l : List (Int × Nat)} (H : Fr v W (prT A c l :: os)) (ty : TypeId) (g : Nat) (p : Int × Nat) (hg : W.rangeAt g 0 (prC p)) (hl : l.length <= 1000000) :
  ∃ A' c' W', (Builtin.append_ #[48, 48] ty #[.slice A l.length c, .slice (some ⟨g, 0, none⟩) 1 1]).run Tryz.prog W = .ok (.slice A' (l.length + 1) c') W' /\ Fr v W' (prT A' c' (l ++ [p]) :: os) := by
 have h := H.hd
 obtain ⟨i0, hi, hz0, hz1, hz2⟩ := info_parts Tryz.infoPr
 obtain ⟨A', c', W', hr, hrow, hgr, hat⟩ := run_append_one Tryz.underlying48 hi hz0 hz1 hz2 rfl (by decide) (by decide) ty W (.slice A l.length c) l.length _ h hl g _ rfl (one_prC p) hg
 refine ⟨A', c', W', hr, H.turn (o' := prT A' c' (l ++ [p])) ⟨(Turns.refl _ W).grown hgr fun k e => .inl e, fun k hk => ?_⟩ ?_ (prT_ok _ _ _)⟩
 ·have hk : (Value.slice A' (l.length + 1) c').ownBlock = some k := by rw [own_slice A' _ _ (l ++ [p]).length c']; exact hk
  rcases hat with e | e
  ·exact .inl (e.symm.trans hk)
  ·rw [e] at hk; injection hk with hk; exact .inr (Nat.le_of_eq hk)
 ·show W'.ownsRow 0 55 2 (.slice A' (l ++ [p]).length c') (l ++ [p]).length (prsC (l ++ [p]))
  simpa [prsC] using hrow
theorem pr_prsB {v W : World} {os : List Thing} {A : Option Addr} {c : Nat} {l : List (Int × Nat)} (H : Fr v W (prT A c l :: os)) : PrsB v.heap.size W A l := by
 refine ⟨(prs_of_own H.hd rfl).1, fun g o hn e => H.ge g ?_⟩
 obtain ⟨g', cap, e', _⟩ := ownsRow_some H.hd hn
 injection e' with e1
 rw [e1] at e
 injection e with e
 show (Value.slice A l.length c).ownBlock = some g
 rw [e1]
 injection e with e2
 rw [e2]; rfl
def Oc (W : World) (A : Option Addr) (l : List UInt8) : Prop := 0 < l.length -> ∃ g o, A = some ⟨g, o, none⟩ /\ g < W.heap.size /\ ∀ (j : Nat) (y : UInt8), l[j]? = some y -> W.cell? ⟨g, o + j, none⟩ = some (.int .u8 (y.toNat : Int))
theorem Oc.below {W W' : World} {A : Option Addr} {l : List UInt8} (h : Oc W A l) (hb : Below W.heap.size W W') : Oc W' A l := fun hn =>
 let ⟨g, o, e, hl, hc⟩ := h hn
 ⟨g, o, e, Nat.lt_of_lt_of_le hl hb.size, fun j y hy => (hb.cell (p := ⟨g, _, none⟩) hl).trans (hc j y hy)⟩
theorem aQs_length (x : MAct) (n : Nat) : (aQs x n).length = 1 + (min n x.q.length - 1) := by simp [aQs]; omega
theorem aQs_get (x : MAct) (n i : Nat) (hi : i + 1 < (aQs x n).length) : (aQs x n)[i + 1]? = some (((i + 2 : Nat) : Int), 1 + (x.q.getD (i + 1) 0).toNat % 8) := by
 rw [aQs_length] at hi
 have : i < min n x.q.length - 1 := by omega
 simp [aQs, this]
end Go.Proofs.YtllbbcifcbkgeaaGreatDoor.Sh
