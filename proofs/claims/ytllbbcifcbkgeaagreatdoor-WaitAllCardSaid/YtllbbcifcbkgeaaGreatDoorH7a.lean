/- Laws and walks. -/
import Derived.Test.YtllbbcifcbkgeaaGreatDoorH6a
set_option maxHeartbeats 16000000
set_option maxRecDepth 100000
namespace Go.Proofs.YtllbbcifcbkgeaaGreatDoor.Sh
open Go.RowKit
theorem ranges_of {W W' : World} {k it n cnt : Nat} {D : DataW Value} {left : Lit -> Bool} (h : W.ranges Tryz.prog 55 rdM k it n D left cnt) (h1 : W'.heap[k]? = W.heap[k]?) (h2 : W'.heap[it]? = W.heap[it]?) : W'.ranges Tryz.prog 55 rdM k it n D left cnt := by
 obtain ⟨es, clock, since, seen, c0, a, b, c, d, e, f⟩ := h
 exact ⟨es, clock, since, seen, c0, h1.trans a, b, c, d, h2.trans e, f⟩
def rgT (w : World) (k it n : Nat) (D : DataW Value) (left : Lit -> Bool) (cnt : Nat) : Thing :=
 ⟨fun W => it < W.heap.size /\ ∀ V : World, V.heap[k]? = w.heap[k]? -> V.heap[it]? = W.heap[it]? -> V.ranges Tryz.prog 55 rdM k it n D left cnt, fun j => j = it⟩
theorem rgT_ok (w : World) (k it n : Nat) (D : DataW Value) (left : Lit -> Bool) (cnt : Nat) : (rgT w k it n D left cnt).Ok := by
 refine ⟨fun W W' h hk => ⟨?_, fun V h1 h2 => h.2 V h1 (h2.trans (hk it rfl))⟩, fun W h j hj => hj ▸ h.1⟩
 have e := hk it rfl
 have h0 : it < W.heap.size := h.1
 have h1 : W.heap[it]? = some W.heap[it] := Array.getElem?_eq_getElem h0
 rw [h1] at e
 exact (Array.getElem?_eq_some_iff.1 e).1
theorem rg_here {w W : World} {os : List Thing} {k it n cnt : Nat} {D : DataW Value} {left : Lit -> Bool} (H : Fr w W (rgT w k it n D left cnt :: os)) (hk : k < w.heap.size) : W.ranges Tryz.prog 55 rdM k it n D left cnt :=
 H.hd.2 W (H.bel.block k hk) rfl
theorem rg_begin {w W W' : World} {os : List Thing} {k n cnt : Nat} {D : DataW Value} {left : Lit -> Bool} (H : Fr w W os) (hr : W'.ranges Tryz.prog 55 rdM k W.heap.size n D left cnt) (hg : W.grownBy W' none) (hs : W'.heap.size = W.heap.size + 1) (hk : k < w.heap.size) : Fr w W' (rgT w k W.heap.size n D left cnt :: os) := by
 have hb : Below W.heap.size W W' := ⟨hg.os, hg.tape, hg.output, hg.size, fun i hi => hg.block i hi (by simp)⟩
 refine H.add hb (o := rgT w k W.heap.size n D left cnt) ⟨by omega, fun V h1 h2 => ranges_of hr (h1.trans ((H.below hb).bel.block k hk).symm) h2⟩ (rgT_ok _ _ _ _ _ _ _) fun j hj => by rw [show j = W.heap.size from hj]; exact Nat.le_refl _
theorem rg_on {w W W' : World} {os : List Thing} {k it n cnt cnt' : Nat} {D : DataW Value} {left left' : Lit -> Bool} (H : Fr w W (rgT w k it n D left cnt :: os)) (hr : W'.ranges Tryz.prog 55 rdM k it n D left' cnt') (hg : W.grownBy W' (some it)) (hk : k < w.heap.size) : Fr w W' (rgT w k it n D left' cnt' :: os) := by
 have hit : it < W.heap.size := H.hd.1
 have hge : w.heap.size <= it := H.ge it rfl
 have e : W'.heap[k]? = w.heap[k]? := (hg.block k (Nat.lt_of_lt_of_le hk H.size) (by simp; omega)).trans (H.bel.block k hk)
 exact H.turn (o' := rgT w k it n D left' cnt') (own_grown (F := fun j => j = it) hg rfl) ⟨Nat.lt_of_lt_of_le hit hg.size, fun V h1 h2 => ranges_of hr (h1.trans e.symm) h2⟩ (rgT_ok _ _ _ _ _ _ _)
def Left (left : Lit -> Bool) (rs : List MMsg) : Prop := (∀ l, left l = true -> ∃ m ∈ rs, l = kl m.pk) /\ (∀ m ∈ rs, left (kl m.pk) = true) /\ (∀ m ∈ rs, PkOk m.pk) /\ Dk rs
theorem left_next {left : Lit -> Bool} {rs : List MMsg} (h : Left left rs) {m : MMsg} (hm : m ∈ rs) : Left (fun z => left z && !z.sameKey (kl m.pk)) (wdel rs m.pk) := by
 have hp := h.2.2.1 m hm
 have hself : (kl m.pk).sameKey (kl m.pk) = true := WideAt.sameKey_self (isKey_kl hp)
 refine ⟨fun l hl => ?_, fun x hx => ?_, fun x hx => h.2.2.1 x (List.mem_filter.1 hx).1, dk_del h.2.2.2 _⟩
 ·simp only [Bool.and_eq_true, Bool.not_eq_true'] at hl
  obtain ⟨x, hx, rfl⟩ := h.1 l hl.1
  refine ⟨x, List.mem_filter.2 ⟨hx, ?_⟩, rfl⟩
  by_cases e : x.pk = m.pk
  ·rw [e, hself] at hl; cases hl.2
  ·simp [e]
 ·obtain ⟨h1, h2⟩ := List.mem_filter.1 hx
  have hne : x.pk ≠ m.pk := by simpa using h2
  have : (kl x.pk).sameKey (kl m.pk) = false := Maps.sameKey_ne (kl_ne hp (h.2.2.1 x h1) hne)
  simp [h.2.1 x h1, this]
theorem wdel_perm {rs : List MMsg} (hd : Dk rs) {m : MMsg} (hm : m ∈ rs) : (m :: wdel rs m.pk).Perm rs := by
 induction rs with
 | nil => cases hm
 | cons a rs ih =>
  obtain ⟨h1, h2⟩ := List.pairwise_cons.1 hd
  rcases List.mem_cons.1 hm with e | hm
  ·subst e
   have : wdel (m :: rs) m.pk = rs := by
    rw [wdel, List.filter_cons_of_neg (by simp)]
    exact List.filter_eq_self.2 fun x hx => by have := h1 x hx; simpa using fun e => this e.symm
   rw [this]
  ·have hne : a.pk ≠ m.pk := h1 m hm
   have : wdel (a :: rs) m.pk = a :: wdel rs m.pk := by rw [wdel, List.filter_cons_of_pos (by simpa using hne), wdel]
   rw [this]
   exact (List.Perm.swap a m _).trans ((ih h2 hm).cons a)
theorem left_all {ws : List MMsg} {D : DataW Value} {s : Nat} (hd : Dk ws) (hp : ∀ m ∈ ws, PkOk m.pk) (h : Says D (fW ws) s) : Left (Maps.has D) ws := by
 refine ⟨fun l hl => ?_, fun m hm => by rw [h.2.1 _ (hp m hm), fW_of hd hm]; rfl, hp, hd⟩
 obtain ⟨p, hpk, rfl⟩ := h.2.2.1.2 l hl
 rw [h.2.1 p hpk] at hl
 obtain ⟨m, hm⟩ := Option.isSome_iff_exists.1 hl
 obtain ⟨h1, h2⟩ := fW_mem hm
 exact ⟨m, h1, by rw [h2]⟩
theorem wpList_next_wait {w : World} {ops : Array Oper} {rest : List Oper} {o : Oper} {a : Act} {Q : Exit -> Act -> World -> Prop} (hg : o.guard = none) (it : Operand) (hop : o.op = Op.next it false) {k r n cnt s : Nat} {D : DataW Value} {left : Lit -> Bool} {ws rs : List MMsg}
  (hit : a.eval it = .pointer (some ⟨r, 0, none⟩)) (h : w.ranges Tryz.prog 55 rdM k r n D left cnt) (hl : Left left rs) (hsub : ∀ m ∈ rs, m ∈ ws) (hd : Dk ws) (hs : Says D (fW ws) s)
  (hDone : rs = [] -> wpList Tryz.prog ops Q rest (a.put o.dst (.tuple #[.bool false])) w)
  (hMore : ∀ (m : MMsg) (w' : World) (cnt' : Nat), m ∈ rs -> w'.ranges Tryz.prog 55 rdM k r n D (fun z => left z && !z.sameKey (kl m.pk)) cnt' -> cnt' < cnt -> w.grownBy w' (some r) -> w'.heap.size = w.heap.size -> (Instr.entry (.pointer (some ⟨r, 0, none⟩))).run Tryz.prog w' = .ok (.tuple #[kv m.pk, .agg (msgC m).toArray]) w' -> wpList Tryz.prog ops Q rest (a.put o.dst (.tuple #[.bool true, kv m.pk, .agg (msgC m).toArray])) w') :
  wpList Tryz.prog ops Q (o :: rest) a w := by
 refine wpList_plain hg fun K' hK' => ?_
 unfold Oper.wp
 rcases h.next keyedP o.type with ⟨h0, hf, hrun⟩ | ⟨key, v, l, y, w', cnt', hkey, hlk, hv, hat, hrun, hrg, hlt, hgr, hsz, hen⟩
 ·simp [execOp, hop, hit, hrun, Result.andThen]
  refine hK' _ _ (hDone (List.eq_nil_iff_forall_not_mem.2 fun m hm => ?_))
  have := hl.2.1 m hm
  rw [hf] at this
  cases this
 ·obtain ⟨m, hm, rfl⟩ := hl.1 l hlk
  have hp := hl.2.2.1 m hm
  obtain rfl : key = kv m.pk := keyedP.inj hkey (keyP hp)
  have e1 := hat (.held undef)
  rw [hs.1 _ hp, fW_of hd (hsub m hm)] at e1
  obtain ⟨m', _, e2, e3⟩ := rdM_inv hv
  rw [e3] at e1
  simp only [DataW.held.injEq] at e1
  subst e1
  simp [execOp, hop, hit, hrun, Result.andThen]
  exact hK' _ _ (hMore m w' cnt' hm hrg hlt hgr hsz hen)
open Go.RowKit
def mxN (r : Int) (l : List MMsg) : Nat := (l.filter fun m => decide (m.origin = r)).foldl (fun a m => max a m.number) 0
def cnN (r : Int) (l : List MMsg) : Nat := (l.filter fun m => decide (m.origin = r)).length
theorem zero_pair (w : World) : (zeroValue 55).run Tryz.prog w = .ok (.agg (prC (0, 0)).toArray) w := by kernel_rfl
theorem ret_tc {P : Program} {fn : Func} {p u : Tmp} {ty : TypeId} (h : fn.results = #[.tmp u, .cell p ty]) {tmps : Array Value} {w : World} {g : Nat} {cs : List Value} {d : TypeDesc} {v : Value}
  (hp : tmps.getD p undef = .pointer (some ⟨g, 0, none⟩)) (hu' : tmps.getD u undef = v) (hc : w.rangeAt g 0 cs) (hu : P.underlying ty = some d) (hd : d.isRow = true) (hi : (P.info? ty).map (·.size) = some cs.length) :
  (results fn tmps).run P w = .ok (.tuple #[v, .agg cs.toArray]) w := by
 have hp' : tmps[p]?.getD undef = .pointer (some ⟨g, 0, none⟩) := by simpa using hp
 have hu'' : tmps[u]?.getD undef = v := by simpa using hu'
 simp [results, h, hp', hu'', asAddr, run_loadVar_mid w g 0 ty cs d hc hu hd hi]
theorem cnN_snoc (r : Int) (l : List MMsg) (m : MMsg) : cnN r (l ++ [m]) = cnN r l + if m.origin = r then 1 else 0 := by
 rw [cnN, List.filter_append, List.length_append, cnN]
 by_cases h : m.origin = r <;> simp [h]
theorem mxN_snoc (r : Int) (l : List MMsg) (m : MMsg) : mxN r (l ++ [m]) = if m.origin = r then max (mxN r l) m.number else mxN r l := by
 rw [mxN, List.filter_append, List.foldl_append, mxN]
 by_cases h : m.origin = r <;> simp [h]
theorem cnN_perm (r : Int) {l l' : List MMsg} (h : l.Perm l') : cnN r l = cnN r l' := (h.filter _).length_eq
theorem mxN_perm (r : Int) {l l' : List MMsg} (h : l.Perm l') : mxN r l = mxN r l' := by
 rw [mxN, mxN]
 exact (h.filter _).foldl_eq' (fun x _ y _ z => by omega) 0
theorem cnN_le (r : Int) (l : List MMsg) : cnN r l <= l.length := List.length_filter_le _ _
theorem share_some {U : World} {b k : Nat} {ws : List MMsg} (h : WaitAt U b (some k) ws) (r : Int) (hl : ws.length <= 1000000) (hk : KIs U) (h0 : 0 < U.heap.size) :
  Calls Tryz.prog 76 #[.pointer (some ⟨b, 0, none⟩), .int .i64 r] U fun E U' => E = .returned (.tuple #[.int .i64 (cnN r ws : Int), .agg (prC (r, mxN r ws)).toArray]) /\ Below U.heap.size U U' := by
 have hb : b < U.heap.size := (Array.getElem?_eq_some_iff.1 h.top).1
 have HB := iq (fun (V : World) (hv : Below U.heap.size U V) => (show V.cell? ⟨b, 0, none⟩ = some (.map (some k)) from (hv.cell (p := ⟨b, 0, none⟩) hb).trans (block_cell (C := [.map (some k)]) h.top 0 _ rfl)))
 obtain ⟨k', e, hkb, hmp⟩ := h.mp.resolve_left (fun x => by cases x.1)
 injection e with e
 subst e
 have HK := iq (mapP_lt hmp)
 obtain ⟨n, hn⟩ : ∃ n, n = ws.length := ⟨_, rfl⟩
 rw [<- hn] at hmp
 obtain ⟨D, ho, hsay⟩ := hmp
 have HS := iq hsay
 have HD := iq h.dk
 have HPk := iq (fun m hm => (h.wf m hm).2.1)
 have HOw : Hid (∀ V, Below U.heap.size U V -> V.ownsMap Tryz.prog 55 rdM k n D) := iq fun V hv => by obtain ⟨es, clock, h1, h2⟩ := ho; exact ⟨es, clock, (hv.block k HK.out).trans h1, h2⟩
 have HL0 := iq (left_all h.dk (fun m hm => (h.wf m hm).2.1) hsay)
 have HN := iq hn
 have HLl := iq hl
 have H1 := iq (((Fr.start hk h0).box (prC (0, 0)).toArray 55).box' (k := U.heap.size + 1) (by simp) (prC (0, 0)).toArray 55)
 clear h hb hk h0 ho hsay hn hkb hl
 go_enter Tryz.func76, Tryz.ntmps76
 have hz := zero_pair
 go_wp2_with (first | (refine wpList_store_part rfl 55 (.tmp 7) (.tmp 10) rfl (U.heap.size + 1) 0 (prC (0, 0)) (prC (r, 0)) (prC (r, 0)) 55 H1.out.hd (Nat.le_refl 2) rfl rfl rfl (info_pair _) (one_prC _) ?_; intro w2 G2; have H2 : Hid (Fr U w2 [blkT (U.heap.size + 1) (prC (r, 0)).toArray 55, blkT U.heap.size (prC (0, 0)).toArray 55]) := iq (H1.out.turn (own_grown G2.out.2 rfl) G2.out.1 (blkT_ok _ _ _)); clear G2 H1; have hc := HB.out _ H2.out.bel) | (at_range; refine wpList_range_own _ rfl (.tmp 14) 106 rfl 55 52 keyedP Tryz.underlying106 rdM k n D rfl (HOw.out _ H2.out.bel) ?_; intro w3 hr3 hg3 hs3; have H3 := iq (rg_begin H2.out hr3 hg3 hs3 HK.out); clear hr3 hg3 hs3))
 simp only [Act.put, l0, l1, l2]
 clear hc hz H2
 have D0 : Hid (∃ seen rs left cnt, (seen ++ rs).Perm ws /\ Left left rs /\ 0 = cnN r seen /\ Fr U w3 [rgT U k w2.heap.size n D left cnt, blkT (U.heap.size + 1) (prC (r, mxN r seen)).toArray 55, blkT U.heap.size (prC (0, 0)).toArray 55]) := iq ⟨[], ws, _, _, List.Perm.refl _, HL0.out, rfl, H3.out⟩
 have hz := zero_pair
 go_loopw [6] (fun v6 wr => ∃ c : Nat, c <= 1000000 /\ v6 = .int .i64 (c : Int) /\ Hid (∃ seen rs left cnt, (seen ++ rs).Perm ws /\ Left left rs /\ c = cnN r seen /\ Fr U wr [rgT U k w2.heap.size n D left cnt, blkT (U.heap.size + 1) (prC (r, mxN r seen)).toArray 55, blkT U.heap.size (prC (0, 0)).toArray 55])) (fun _ V => V.rangeLeft k w2.heap.size)
 case atStart => exact ⟨0, by omega, rfl, D0⟩
 case round =>
  clear D0 H3
  obtain ⟨c, hcl, rfl, DD⟩ := hrel
  obtain ⟨seen, rs, left, cnt, hpm, hlf, hcn, hfr⟩ := DD.out
  have HPm := iq hpm
  have HLf := iq hlf
  have HCn := iq hcn
  have H4 := iq hfr
  have HSub : Hid (∀ m ∈ rs, m ∈ ws) := iq fun m hm => hpm.subset (List.mem_append_right _ hm)
  have HLe := iq ((rg_here hfr HK.out).left_eq)
  clear DD hpm hlf hcn hfr
  go_upto_region 5 with (first | (at_next; refine wpList_next_wait rfl (.tmp 15) rfl rfl (rg_here H4.out HK.out) HLf.out HSub.out HD.out HS.out ?_ ?_; (intro hnil; have HNil := iq hnil; clear hnil); rotate_left; (intro m w5 cnt5 hm5 hr5 hc5 hg5 hs5 hen; have H5 := iq (rg_on H4.out hr5 hg5 HK.out); have HM5 := iq hm5; have HC5 := iq hc5; have H6 := iq (H5.out.box (prC (0, 0)).toArray 55); clear hm5 hr5 hc5 hg5 hs5); rotate_left) | (refine wpList_store_part rfl 55 (.tmp 8) (.tmp 19) rfl w5.heap.size 0 (prC (0, 0)) (prC m.pk) (prC m.pk) 55 H6.out.hd (Nat.le_refl 2) rfl rfl rfl (info_pair _) (one_prC _) ?_; intro w7 G7; have H7 : Hid (Fr U w7 (blkT w5.heap.size (prC m.pk).toArray 55 :: [rgT U k w2.heap.size n D (fun z => left z && !z.sameKey (kl m.pk)) cnt5, blkT (U.heap.size + 1) (prC (r, mxN r seen)).toArray 55, blkT U.heap.size (prC (0, 0)).toArray 55])) := iq (H6.out.turn (own_grown G7.out.2 rfl) G7.out.1 (blkT_ok _ _ _)); clear G7 H6 H5))
  ·have hsw : seen.Perm ws := by have := HPm.out; rw [HNil.out, List.append_nil] at this; exact this
   have HC9 : Hid (c = cnN r ws) := iq (HCn.out.trans (cnN_perm r hsw))
   have H4b : Hid (Fr U wr [rgT U k w2.heap.size n D left cnt, blkT (U.heap.size + 1) (prC (r, mxN r ws)).toArray 55, blkT U.heap.size (prC (0, 0)).toArray 55]) := iq (by have := H4.out; rw [mxN_perm r hsw] at this; exact this)
   clear hsw H4
   refine wp_region_any (by kernel_rfl) ?_
   change wpAny _ _ _ _ _ _ _ (World.drewN _ 1)
   refine held_gen (G := fun U' => wpAny _ _ _ _ _ _ _ U') (fun U' => Fr U U' [rgT U k w2.heap.size n D left cnt, blkT (U.heap.size + 1) (prC (r, mxN r ws)).toArray 55, blkT U.heap.size (prC (0, 0)).toArray 55]) (H4b.out.drewN 1) (fun y0 hw => ?_)
   have H5 := iq hw
   clear hw H4b
   refine wpAny_of_held (S := fun V => V.rangeAt (U.heap.size + 1) 0 (prC (r, mxN r ws))) _ _ _ _ ?_
   refine tk 0 ⟨some 32, .move (.tmp 6), _, _, _, none⟩ (.int .i64 (c : Int)) rfl (by kernel_rfl) (fun _ _ _ => id) (range_of H5.out.hd2) (fun W hSW => by go_simp) ?_
   try simp only [Act.put, l0, l1, l2]
   refine tk 1 ⟨some 33, .load 55 (.tmp 7), _, _, _, none⟩ (.agg (prC (r, mxN r ws)).toArray) rfl (by kernel_rfl) (fun _ _ _ => id) (range_of H5.out.hd2) (fun W hSW => exec_load_mid 55 (.tmp 7) rfl (U.heap.size + 1) 0 rfl (prC (r, mxN r ws)) _ hSW Tryz.underlying55 rfl (info_pair _)) ?_
   try simp only [pu, l0, l1, l2]
   refine tk 2 ⟨some 4, .assign (.tmp 32), _, _, _, none⟩ (.int .i64 (c : Int)) rfl (by kernel_rfl) (fun _ _ _ => id) (range_of H5.out.hd2) (fun W hSW => by go_simp) ?_
   try simp only [pu, l0, l1, l2]
   refine rd1 3 ⟨none, .store 55 (.tmp 5) (.tmp 33), _, _, _, none⟩ (by kernel_rfl) rfl fun K' hK' => ?_
   refine step_store_cells rfl 55 (.tmp 5) (.tmp 33) rfl U.heap.size 0 (prC (r, mxN r ws)) rfl rfl (there_block H5.out.hd3 0 _ (Nat.le_refl 2)) (info_pair _) (one_prC _) ?_
   have h9 := H5.out.third.setAll (C := prC (0, 0)) 0 (prC (r, mxN r ws))
   have H9 := iq h9
   refine hK'.out _ _ (range_of H9.out.hd3) (fun _ => ?_)
   clear hK' K' h9
   refine wpAnyH_done (by kernel_rfl) ?_ _
   go_wp2_with fail
   exact bodyPost_ret (ret_tc (cs := prC (r, mxN r ws)) rfl rfl rfl (range_of H9.out.hd) Tryz.underlying55 rfl (info_pair _)) rfl ⟨by rw [HC9.out]; rfl, H9.out.bel⟩
  simp only [Act.put]
  have HPn : Hid (((seen ++ [m]) ++ wdel rs m.pk).Perm ws) := iq (by rw [List.append_assoc]; exact ((wdel_perm HLf.out.2.2.2 HM5.out).append_left seen).trans HPm.out)
  have hcx0 : w7.cell? ⟨w5.heap.size, 0, none⟩ = some (.int .i64 m.origin) := block_cell H7.out.hd 0 _ rfl
  by_cases heq : m.origin = r
  ·have hqb : (m.origin == r) = true := by simp [heq]
   have HCc : Hid (c + 1 = cnN r (seen ++ [m])) := iq (by rw [cnN_snoc, if_pos heq, HCn.out])
   have HBd : Hid (c + 1 <= 1000000) := iq (by rw [HCc.out]; have h1 := cnN_le r (seen ++ [m]); have h2 := HPn.out.length_eq; rw [List.length_append] at h2; have := HLl.out; omega)
   have hwc : IntKind.i64.wrap ((c : Int) + 1) = (c : Int) + 1 := by rw [IntKind.wrap_i64]; have := HBd.out; omega
   obtain ⟨a0, ha0⟩ : ∃ a0, a0 = mxN r seen := ⟨_, rfl⟩
   obtain ⟨mx, hmx⟩ : ∃ mx, mx = max a0 m.number := ⟨_, rfl⟩
   have HMx : Hid (mxN r (seen ++ [m]) = mx) := iq (by rw [mxN_snoc, if_pos heq, hmx, ha0])
   have HMv : Hid ((if (a0 : Int) < (m.number : Int) then (m.number : Int) else (a0 : Int)) = (mx : Int) /\ (if a0 < m.number then (m.number : Int) else (a0 : Int)) = (mx : Int)) := iq ⟨by split <;> omega, by split <;> omega⟩
   have HA0 := iq ha0
   clear heq hmx ha0
   go_wp2_with fail
   refine wp_region_any (by kernel_rfl) ?_
   change wpAny _ _ _ _ _ _ _ (World.drewN _ 1)
   refine held_gen (G := fun U' => wpAny _ _ _ _ _ _ _ U') (fun U' => Fr U U' (blkT w5.heap.size (prC m.pk).toArray 55 :: [rgT U k w2.heap.size n D (fun z => left z && !z.sameKey (kl m.pk)) cnt5, blkT (U.heap.size + 1) (prC (r, mxN r seen)).toArray 55, blkT U.heap.size (prC (0, 0)).toArray 55])) (H7.out.drewN 1) (fun y0 hw => ?_)
   have H8 := iq hw
   clear hw H7 hcx0
   have hnum : ∀ V : World, V.rangeAt w5.heap.size 0 (prC m.pk) -> V.cell? ⟨w5.heap.size, 1, none⟩ = some (.int .u64 (m.number : Int)) := fun V h => h 1 _ rfl
   have HEV : Hid (∀ V, Fr U V (blkT w5.heap.size (prC m.pk).toArray 55 :: [rgT U k w2.heap.size n D (fun z => left z && !z.sameKey (kl m.pk)) cnt5, blkT (U.heap.size + 1) (prC (r, mxN r seen)).toArray 55, blkT U.heap.size (prC (0, 0)).toArray 55]) -> V.rangeAt w5.heap.size 0 (prC m.pk)) := iq fun V hf => range_of hf.hd
   refine wpAny_of_held (S := fun V => V.rangeAt w5.heap.size 0 (prC m.pk)) _ _ _ _ ?_
   refine tk 0 ⟨some 24, .move (.tmp 6), _, _, _, none⟩ (.int .i64 (c : Int)) rfl (by kernel_rfl) (fun _ _ _ => id) (HEV.out _ H8.out) (fun W hSW => by go_simp) ?_
   try simp only [Act.put, l0, l1, l2]
   refine tk 1 ⟨some 25, .binOp .add 3 (.tmp 24) (.const (.int .i64 1)) 3, _, _, _, none⟩ (.int .i64 ((c : Int) + 1)) rfl (by kernel_rfl) (fun _ _ _ => id) (HEV.out _ H8.out) (fun W hSW => by have hv := hwc; go_simp) ?_
   try simp only [pu, l0, l1, l2]
   refine tk 2 ⟨some 26, .fieldAddr 55 (.tmp 7) 1, _, _, _, none⟩ (.pointer (some ⟨U.heap.size + 1, 1, none⟩)) rfl (by kernel_rfl) (fun _ _ _ => id) (HEV.out _ H8.out) (fun W hSW => by go_simp) ?_
   try simp only [pu, l0, l1, l2]
   refine tk 4 ⟨some 28, .fieldAddr 55 (.tmp 8) 1, _, _, _, none⟩ (.pointer (some ⟨w5.heap.size, 1, none⟩)) rfl (by kernel_rfl) (fun _ _ _ => id) (HEV.out _ H8.out) (fun W hSW => by go_simp) ?_
   try simp only [pu, l0, l1, l2]
   refine tk 5 ⟨some 29, .load 25 (.tmp 28), _, _, _, none⟩ (.int .u64 (m.number : Int)) rfl (by kernel_rfl) (fun _ _ _ => id) (HEV.out _ H8.out) (fun W hSW => by have hv := hnum _ hSW; go_simp) ?_
   try simp only [pu, l0, l1, l2]
   refine tk 7 ⟨some 6, .assign (.tmp 25), _, _, _, none⟩ (.int .i64 ((c : Int) + 1)) rfl (by kernel_rfl) (fun _ _ _ => id) (HEV.out _ H8.out) (fun W hSW => by go_simp) ?_
   try simp only [pu, l0, l1, l2]
   refine rd1 3 ⟨some 27, .load 25 (.tmp 26), _, _, _, none⟩ (by kernel_rfl) rfl fun K' hK' => ?_
   have hc3 : y0.cell? ⟨U.heap.size + 1, 1, none⟩ = some (.int .u64 (a0 : Int)) := by rw [HA0.out]; exact block_cell H8.out.hd3 1 _ rfl
   go_simp
   refine hK'.out _ _ (HEV.out _ H8.out) (fun _ => ?_)
   clear hK' K' hc3
   try simp only [Act.put, l0, l1, l2]
   refine tk 6 ⟨some 30, .call { callee := .builtin .max, args := #[.tmp 27, .tmp 29], argTypes := #[25, 25] }, _, _, _, none⟩ (.int .u64 (mx : Int)) rfl (by kernel_rfl) (fun _ _ _ => id) (HEV.out _ H8.out) (fun W hSW => by have hm1 := HMv.out.1; have hm2 := HMv.out.2; go_simp) ?_
   try simp only [pu, l0, l1, l2]
   refine tk 8 ⟨some 31, .fieldAddr 55 (.tmp 7) 1, _, _, _, none⟩ (.pointer (some ⟨U.heap.size + 1, 1, none⟩)) rfl (by kernel_rfl) (fun _ _ _ => id) (HEV.out _ H8.out) (fun W hSW => by go_simp) ?_
   try simp only [pu, l0, l1, l2]
   refine rd1 9 ⟨none, .store 25 (.tmp 31) (.tmp 30), _, _, _, none⟩ (by kernel_rfl) rfl fun K' hK' => ?_
   have hc9 := block_cell H8.out.hd3 1 _ rfl
   have hf9 := free_block H8.out.hd3 1
   go_simp
   have H9 : Hid (Fr U (y0.setCell ⟨U.heap.size + 1, 1, none⟩ (.int .u64 (mx : Int))) [blkT w5.heap.size (prC m.pk).toArray 55, rgT U k w2.heap.size n D (fun z => left z && !z.sameKey (kl m.pk)) cnt5, blkT (U.heap.size + 1) (prC (r, mxN r (seen ++ [m]))).toArray 55, blkT U.heap.size (prC (0, 0)).toArray 55]) := iq (by have := (H8.out.third.set (C := prC (r, mxN r seen)) 1 (.int .u64 (mx : Int))).rot3; rw [HMx.out]; exact this)
   refine hK'.out _ _ (range_of H9.out.hd) (fun _ => ?_)
   clear hK' K' hc9 hf9
   refine wpAnyH_done (by kernel_rfl) ?_ _
   go_wp2_with fail
   go_roundw
   case measure => rw [(rg_here H9.out.pop HK.out).left_eq, HLe.out]; exact HC5.out
   exact ⟨c + 1, HBd.out, by go_num, iq ⟨seen ++ [m], wdel rs m.pk, _, cnt5, HPn.out, left_next HLf.out HM5.out, HCc.out, H9.out.pop⟩⟩
  ·have hqb : (m.origin == r) = false := by simp [heq]
   have HCc : Hid (c = cnN r (seen ++ [m])) := iq (by rw [cnN_snoc, if_neg heq, HCn.out]; rfl)
   have HBd : Hid (c <= 1000000) := iq hcl
   have H9 : Hid (Fr U w7 (blkT w5.heap.size (prC m.pk).toArray 55 :: [rgT U k w2.heap.size n D (fun z => left z && !z.sameKey (kl m.pk)) cnt5, blkT (U.heap.size + 1) (prC (r, mxN r (seen ++ [m]))).toArray 55, blkT U.heap.size (prC (0, 0)).toArray 55])) := iq (by rw [mxN_snoc, if_neg heq]; exact H7.out)
   go_wp2_with fail
   go_roundw
   case measure => rw [(rg_here H9.out.pop HK.out).left_eq, HLe.out]; exact HC5.out
   exact ⟨c, HBd.out, by go_num, iq ⟨seen ++ [m], wdel rs m.pk, _, cnt5, HPn.out, left_next HLf.out HM5.out, HCc.out, H9.out.pop⟩⟩
end Go.Proofs.YtllbbcifcbkgeaaGreatDoor.Sh
