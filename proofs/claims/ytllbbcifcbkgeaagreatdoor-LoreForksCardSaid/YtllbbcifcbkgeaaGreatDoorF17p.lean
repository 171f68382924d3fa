/- Laws and walks. -/
import Derived.Test.YtllbbcifcbkgeaaGreatDoorF12p
import Derived.Test.YtllbbcifcbkgeaaGreatDoorG1p
set_option maxHeartbeats 16000000
set_option maxRecDepth 100000
namespace Go.Proofs.YtllbbcifcbkgeaaGreatDoor.Sh
open Go.RowKit
def gt (n : Nat) (L : List MMsg) (o : Int) (k : Nat) : Option MMsg := if 1 <= o /\ o <= (n : Int) /\ 1 <= k /\ k <= cnt L (o.toNat - 1) then (strm L (o.toNat - 1))[k - 1]?.map Prod.fst else none
def GetP (w : World) (r : Option MMsg) (E : Ending) (w' : World) : Prop :=
 match r with
 | none => E = .returned (.tuple #[.agg (msgC zeroMsg).toArray, .bool false]) /\ Below w.heap.size w w'
 | some m => ∃ A c, E = .returned (.tuple #[.agg (msgC (m.at A c)).toArray, .bool true]) /\ m.Wf /\ Prs w' A m.body.qs /\ (∀ g, (m.at A c).onQ g -> w.heap.size <= g) /\ Below w.heap.size w w'
theorem build_zeroMsg (w : World) : (Instr.build 52 #[]).run Tryz.prog w = .ok (.agg (msgC zeroMsg).toArray) w := by kernel_rfl
theorem get_any {w : World} {b n : Nat} {A : Nat -> Option Addr} {C : Nat -> Nat} {L : List MMsg} (h : LoreAt w b n A C L) (o : Int) (k : Nat) (hk2 : k < 18446744073709551616) (hq : ∀ m ∈ L, m.body.qs.length <= 1000000) (hk : KIs w) (h0 : 0 < w.heap.size) :
  Calls Tryz.prog 22 #[.pointer (some ⟨b, 0, none⟩), .int .i64 o, .int .u64 (k : Int)] w fun E w' => GetP w (gt n L o k) E w' := by
 have hz := zero_msg
 have hbz := build_zeroMsg
 have hzl := msgC_length zeroMsg_wf
 have hzn : ¬ (msgC zeroMsg = []) := fun e => by rw [e] at hzl; cases hzl
 have H0 := iq ((Fr.start hk h0).box (msgC zeroMsg).toArray 52)
 have HIz := iq (info_msg zeroMsg_wf)
 have HOz := iq (one_msgC zeroMsg)
 have HLo := iq (fun (W : World) (hb : Below w.heap.size w W) => h.below hb)
 have hn11 := h.n11
 have HN : Hid (∀ W, Below w.heap.size w W -> W.cell? ⟨b, 0, none⟩ = some (.int .i64 (n : Int))) := iq fun W hb => (h.below hb).cellN
 have cN := HN.out _ H0.out.bel
 have HKs := iq (Fr.start hk h0)
 have HQ := iq hq
 obtain ⟨Z, hZ⟩ : ∃ Z, Z = msgC zeroMsg := ⟨_, rfl⟩
 rw [<- hZ] at hz hbz hzl hzn H0 HIz HOz
 have HZ := iq hZ
 have HZl := iq hzl
 rw [<- hZ] at cN
 have HLE : Hid (0 + Z.length <= Z.length /\ setAll Z 0 Z = Z) := iq ⟨by omega, setAll_all rfl⟩
 clear h hk h0 hq hZ
 by_cases h1 : 1 <= o
 ·by_cases h2 : o <= (n : Int)
  ·by_cases h3 : 1 <= k
   ·obtain ⟨i, hi⟩ : ∃ i : Nat, o = (i : Int) + 1 := ⟨o.toNat - 1, by omega⟩
    have hio : o.toNat - 1 = i := by omega
    have hi11 : i < 11 := by omega
    have HO : Hid (i < 11 /\ o = (i : Int) + 1) := iq ⟨hi11, hi⟩
    have hd1 : decide (o < 1) = false := decide_eq_false (by omega)
    have hd2 : decide (o > (n : Int)) = false := decide_eq_false (by omega)
    have hd3 : decide ((k : Int) < 1) = false := decide_eq_false (by omega)
    have hd1' : ¬ o < 1 := by omega
    have hd2' : ¬ (n : Int) < o := by omega
    have hd3' : ¬ (k : Int) < 1 := by omega
    have hcl := (HLo.out w bl).cnt_le hi11
    by_cases h4 : k <= cnt L i
    ·have hd4 : decide ((k : Int) > (cnt L i : Int)) = false := decide_eq_false (by omega)
     have hd4' : ¬ (cnt L i : Int) < (k : Int) := by omega
     have hlt : k - 1 < (strm L i).length := by rw [cnt] at h4; omega
     obtain ⟨t, ht⟩ : ∃ t, (strm L i)[k - 1]? = some t := ⟨_, List.getElem?_eq_getElem hlt⟩
     have HGt : Hid (gt n L o k = some t.1) := iq (by rw [gt, if_pos (by rw [hio]; omega), hio, ht]; rfl)
     obtain ⟨g, hag, hrg, hc1, hc2⟩ := (HLo.out _ H0.out.bel).tk hi11 ht
     have hM := (HLo.out _ H0.out.bel).wf _ (strm_mem (List.mem_of_getElem? ht)).1
     have HWf := iq hM.1
     have HPr := iq hM.2.2
     have HQl := iq (HQ.out t.1 (strm_mem (List.mem_of_getElem? ht)).1)
     have HR := iq (range_app hrg).1
     have HIm := iq (info_msg hM.1)
     have hcs := (HLo.out _ H0.out.bel).cell hi11
     rw [hag] at hcs
     obtain ⟨N, hN⟩ : ∃ N, N = cnt L i := ⟨_, rfl⟩
     have HKn := iq (known_any (HLo.out _ H0.out.bel) hi11 o hi)
     rw [<- hN] at hcs hd4 hd4' hcl h4 HKn
     have hw1 : IntKind.i64.wrap (o - 1) = (i : Int) := by rw [IntKind.wrap_i64]; omega
     have hi0 : (0 : Int) <= (i : Int) := by omega
     have hi1 : (i : Int) < 11 := by omega
     have hi2 : (i : Int).toNat = i := by omega
     have hw2 : IntKind.u64.wrap ((k : Int) - 1) = (k : Int) - 1 := by rw [IntKind.wrap_u64]; omega
     have hk0 : (0 : Int) <= (k : Int) - 1 := by omega
     have hk1 : (k : Int) - 1 < (N : Int) := by omega
     have hk2 : ((k : Int) - 1).toNat = k - 1 := by omega
     clear h1 h2 h3 h4 hi hio hM hrg ht hag hlt hN
     go_enter Tryz.func22, Tryz.ntmps22
     go_wp2_with (first | (go_at_call 48; refine HKn.out.mono ?_; rintro E w2 ⟨rfl, rfl⟩) | ((with_reducible refine wpList_load_midG ?_ 52 (.tmp 44) ?_ g ((k - 1) * 122) ?_ (msgC t.1) _ ?_ Tryz.underlying52 ?_ ?_ ?_); rotate_left; rfl; rfl; exact HR.out; rfl; exact HIm.out; rotate_left; rfl) | (go_at_call 46; refine (own_any t.1 _ HWf.out HPr.out HQl.out H0.out.ksW H0.out.posW).mono ?_; rintro E w6 ⟨a, c, rfl, hp6, hf6, b6⟩; have H6 := iq ((H0.out.add (o := qT (t.1.at a c)) b6 hp6 (qT_ok _) hf6).swap); have HF6 : Hid (∀ g, (t.1.at a c).onQ g -> w.heap.size <= g) := iq fun g hg => Nat.le_trans H0.out.bel.size (hf6 g hg); have HLE2 : Hid (0 + (msgC (t.1.at a c)).length <= Z.length /\ setAll Z 0 (msgC (t.1.at a c)) = msgC (t.1.at a c)) := iq ⟨by rw [msgC_length (MMsg.at_wf HWf.out a c), HZl.out]; omega, setAll_all (by rw [msgC_length (MMsg.at_wf HWf.out a c), HZl.out])⟩; have HI6 := iq (info_msg (MMsg.at_wf HWf.out a c)); clear hp6 hf6 b6) | (refine wpList_store_part rfl 52 (.tmp 6) (.tmp 46) rfl w.heap.size 0 Z (msgC (t.1.at a c)) (msgC (t.1.at a c)) 52 H6.out.hd HLE2.out.1 HLE2.out.2 rfl rfl HI6.out (one_msgC _) ?_; intro w9 G9; have H9 := iq (H6.out.turn (o' := blkT w.heap.size (msgC (t.1.at a c)).toArray 52) (own_grown G9.out.2 rfl) G9.out.1 (blkT_ok _ _ _))))
     exact bodyPost_ret (ret_range2 (cs := msgC (t.1.at a c)) rfl rfl rfl (range_of G9.out.1) Tryz.underlying52 rfl HI6.out) rfl (by rw [HGt.out]; exact ⟨a, c, rfl, HWf.out, H9.out.hd2, HF6.out, H9.out.bel⟩)
    ·have hd4 : decide ((k : Int) > (cnt L i : Int)) = true := decide_eq_true (by omega)
     have hd4' : (cnt L i : Int) < (k : Int) := by omega
     have HGt : Hid (gt n L o k = none) := iq (if_neg (by rw [hio]; omega))
     clear h1 h2 h3 h4 hi
     go_enter Tryz.func22, Tryz.ntmps22
     go_wp2_with (first | (go_at_call 48; refine (known_any (HLo.out _ H0.out.bel) HO.out.1 o HO.out.2).mono ?_; rintro E w2 ⟨rfl, rfl⟩) | (refine wpList_store_part rfl 52 (.tmp 6) (.tmp 33) rfl w.heap.size 0 Z Z Z 52 H0.out.hd HLE.out.1 HLE.out.2 rfl rfl HIz.out HOz.out ?_; intro w9 G9; have H9 : Hid (Fr w w9 [blkT w.heap.size (Z).toArray 52]) := iq (H0.out.turn (own_grown G9.out.2 rfl) G9.out.1 (blkT_ok _ _ _))))
     exact bodyPost_ret (ret_range2 (cs := Z) rfl rfl rfl (range_of G9.out.1) Tryz.underlying52 rfl HIz.out) rfl (by rw [HGt.out]; exact ⟨by rw [HZ.out]; rfl, H9.out.bel⟩)
   ·have hd1 : decide (o < 1) = false := decide_eq_false (by omega)
    have hd2 : decide (o > (n : Int)) = false := decide_eq_false (by omega)
    have hd3 : decide ((k : Int) < 1) = true := decide_eq_true (by omega)
    have hd1' : ¬ o < 1 := by omega
    have hd2' : ¬ (n : Int) < o := by omega
    have hd3' : (k : Int) < 1 := by omega
    have HGt : Hid (gt n L o k = none) := iq (if_neg (by omega))
    clear h1 h2 h3
    go_enter Tryz.func22, Tryz.ntmps22
    go_wp2_with (first | (refine wpList_store_part rfl 52 (.tmp 6) (.tmp 33) rfl w.heap.size 0 Z Z Z 52 H0.out.hd HLE.out.1 HLE.out.2 rfl rfl HIz.out HOz.out ?_; intro w9 G9; have H9 : Hid (Fr w w9 [blkT w.heap.size (Z).toArray 52]) := iq (H0.out.turn (own_grown G9.out.2 rfl) G9.out.1 (blkT_ok _ _ _))))
    exact bodyPost_ret (ret_range2 (cs := Z) rfl rfl rfl (range_of G9.out.1) Tryz.underlying52 rfl HIz.out) rfl (by rw [HGt.out]; exact ⟨by rw [HZ.out]; rfl, H9.out.bel⟩)
  ·have hd1 : decide (o < 1) = false := decide_eq_false (by omega)
   have hd2 : decide (o > (n : Int)) = true := decide_eq_true (by omega)
   have hd1' : ¬ o < 1 := by omega
   have hd2' : (n : Int) < o := by omega
   have HGt : Hid (gt n L o k = none) := iq (if_neg (by omega))
   clear h1 h2
   go_enter Tryz.func22, Tryz.ntmps22
   go_wp2_with (first | (refine wpList_store_part rfl 52 (.tmp 6) (.tmp 33) rfl w.heap.size 0 Z Z Z 52 H0.out.hd HLE.out.1 HLE.out.2 rfl rfl HIz.out HOz.out ?_; intro w9 G9; have H9 : Hid (Fr w w9 [blkT w.heap.size (Z).toArray 52]) := iq (H0.out.turn (own_grown G9.out.2 rfl) G9.out.1 (blkT_ok _ _ _))))
   exact bodyPost_ret (ret_range2 (cs := Z) rfl rfl rfl (range_of G9.out.1) Tryz.underlying52 rfl HIz.out) rfl (by rw [HGt.out]; exact ⟨by rw [HZ.out]; rfl, H9.out.bel⟩)
 ·have hd1 : decide (o < 1) = true := decide_eq_true (by omega)
  have hd1' : o < 1 := by omega
  have HGt : Hid (gt n L o k = none) := iq (if_neg (by omega))
  clear h1
  go_enter Tryz.func22, Tryz.ntmps22
  go_wp2_with (first | (refine wpList_store_part rfl 52 (.tmp 6) (.tmp 33) rfl w.heap.size 0 Z Z Z 52 H0.out.hd HLE.out.1 HLE.out.2 rfl rfl HIz.out HOz.out ?_; intro w9 G9; have H9 : Hid (Fr w w9 [blkT w.heap.size (Z).toArray 52]) := iq (H0.out.turn (own_grown G9.out.2 rfl) G9.out.1 (blkT_ok _ _ _))))
  exact bodyPost_ret (ret_range2 (cs := Z) rfl rfl rfl (range_of G9.out.1) Tryz.underlying52 rfl HIz.out) rfl (by rw [HGt.out]; exact ⟨by rw [HZ.out]; rfl, H9.out.bel⟩)
open Go.RowKit
theorem bare_same {x y : MMsg} (h : x.bare = y.bare) : x.same y := by
 have e1 : x.bare.origin = y.bare.origin := by rw [h]
 have e2 : x.bare.number = y.bare.number := by rw [h]
 have e3 : x.bare.deps = y.bare.deps := by rw [h]
 have e4 : x.bare.tag = y.bare.tag := by rw [h]
 have k1 : x.bare.body.kind = y.bare.body.kind := by rw [h]
 have k2 : x.bare.body.view = y.bare.body.view := by rw [h]
 have k3 : x.bare.body.k = y.bare.body.k := by rw [h]
 have k4 : x.bare.body.req = y.bare.body.req := by rw [h]
 have k5 : x.bare.body.qs = y.bare.body.qs := by rw [h]
 have k6 : x.bare.body.dig = y.bare.body.dig := by rw [h]
 exact ⟨e1, e2, e3, ⟨k1, k2, k3, k4, k5, k6⟩, e4⟩
theorem cnt_take_succ (L : List MMsg) (i o : Nat) : cnt (L.take i) o <= cnt (L.take (i + 1)) o := by
 rw [List.take_add_one]
 cases L[i]? with
 | none => simp
 | some x => rw [Option.toList_some, cnt_snoc]; exact Nat.le_add_right _ _
theorem cnt_take_le (L : List MMsg) {i j : Nat} (h : i <= j) (o : Nat) : cnt (L.take i) o <= cnt (L.take j) o := by
 induction h with
 | refl => exact Nat.le_refl _
 | step _ ih => exact Nat.le_trans ih (cnt_take_succ L _ o)
def dig9 : List UInt8 := 9 :: List.replicate 31 0
def bF (s : Nat) : MBody := { zeroBody with kind := 6, k := s, dig := dig9 }
theorem bF_wf (s : Nat) : (bF s).Wf := ⟨rfl, rfl⟩
def MMsg.fk (m : MMsg) (s : Nat) : MMsg := { m with body := bF s }
theorem fk_wf {m : MMsg} (h : m.Wf) (s : Nat) : (m.fk s).Wf := ⟨h.1, bF_wf s, h.2.2⟩
theorem fk_may {m : MMsg} (h : m.may) {s : Nat} (h1 : 1 <= s) (h2 : s <= 256) : (m.fk s).may := by
 refine ⟨h.1, h.2.1, ?_, (show 0 < 1073741824 by decide), ?_⟩
 ·show isCnt s = true
  rw [isCnt]; exact decide_eq_true (by omega)
 ·exact ⟨rfl, rfl, rfl, rfl, rfl⟩
theorem fk_chk {n : Nat} {all : List MMsg} {p i s : Nat} {m : MMsg} (hm : all[p]? = some m) (hc : chk n (all.take p) m = 0) (hi : p <= i) (h1 : 1 <= s) (h2 : s <= 256) {L : List MMsg} (hL : L.map MMsg.bare = (all.take (i + 1)).map MMsg.bare) : chk n L (tagM (m.fk s)) = 13 := by
 obtain ⟨hy, hn, _, hu, _, _⟩ := chk_zero hc
 have hf := fk_may hy h1 h2
 have hT := tagM_of hf
 have ho := may_oi hy
 have hnm : nms n (tagM (m.fk s)) = true := by
  rw [hT]
  simp only [nms, Bool.and_eq_true, decide_eq_true_eq, Bool.not_eq_true'] at hn ⊢
  exact ⟨hn.1, rfl, hn.2.2⟩
 refine chk_again (tagM_right hf).1 hnm (tagM_right hf) ?_
 rw [hT]
 show m.number < cnt L m.oi + 1
 have e := cnt_take_le all (show p + 1 <= i + 1 by omega) m.oi
 rw [List.take_add_one, hm, Option.toList_some, cnt_snoc, if_pos ho.2] at e
 rw [cnt_same hL]
 omega
theorem box_grown {w W : World} {o : Obj} (h : (w.alloc o).grownBy W (some w.heap.size)) : Below w.heap.size w W :=
 (bl.alloc (Nat.le_refl _) _).grown h (by simp) fun k hk => by injection hk with hk; omega
theorem gt_of {n : Nat} {L all : List MMsg} (hn : Nm L) (hL : L.map MMsg.bare = all.map MMsg.bare) {p : Nat} {m : MMsg} (hp : all[p]? = some m) (hu : 1 <= m.number) (ho : 1 <= m.origin /\ m.origin <= (n : Int)) : ∃ m', gt n L m.origin m.number = some m' /\ m'.bare = m.bare /\ m' ∈ L := by
 have h1 : (L.map MMsg.bare)[p]? = some m.bare := by rw [hL, List.getElem?_map, hp]; rfl
 rw [List.getElem?_map, Option.map_eq_some_iff] at h1
 obtain ⟨m', hm', e⟩ := h1
 have eo : m'.bare.origin = m.bare.origin := by rw [e]
 change m'.origin = m.origin at eo
 have en : m'.bare.number = m.bare.number := by rw [e]
 change m'.number = m.number at en
 have hmem : (m', p) ∈ strm L (m.origin.toNat - 1) := by
  simp only [strm, List.mem_filter, decide_eq_true_eq]
  refine ⟨List.mem_iff_getElem?.2 ⟨p, by simp [hm']⟩, ?_⟩
  rw [eo]; omega
 obtain ⟨j, hj⟩ := List.mem_iff_getElem?.1 hmem
 have hjn := hn.2 _ _ _ hj
 have hjl := (List.getElem?_eq_some_iff.1 hj).1
 have hj1 : m.number - 1 = j := by rw [<- en]; simp only at hjn; omega
 refine ⟨m', ?_, e, List.mem_of_getElem? hm'⟩
 rw [gt, if_pos ⟨ho.1, ho.2, hu, by rw [cnt]; rw [<- en]; simp only at hjn; omega⟩, hj1, hj]
 rfl
theorem setAll_body {m : MMsg} (h : m.Wf) (s : Nat) : setAll (msgC m) 13 (bodyC (bF s)) = msgC (m.fk s) := by
 have hl : (.int .i64 m.origin :: .int .u64 (m.number : Int) :: u64s m.deps : List Value).length = 13 := by simp [u64s_length, h.1]
 have e : ∀ b : MBody, msgC { m with body := b } = (.int .i64 m.origin :: .int .u64 (m.number : Int) :: u64s m.deps) ++ (bodyC b ++ u8s m.tag) := fun b => by simp [msgC]
 have e0 := e m.body
 rw [show ({ m with body := m.body } : MMsg) = m from rfl] at e0
 have := setAll_mid (bodyC (bF s)) (.int .i64 m.origin :: .int .u64 (m.number : Int) :: u64s m.deps) (bodyC m.body) (u8s m.tag) (by rw [bodyC_length h.2.1, bodyC_length (bF_wf s)])
 rw [hl, <- e0, <- e] at this
 exact this
end Go.Proofs.YtllbbcifcbkgeaaGreatDoor.Sh
