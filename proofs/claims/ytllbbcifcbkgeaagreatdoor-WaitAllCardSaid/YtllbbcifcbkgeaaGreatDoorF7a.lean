/- Laws and walks. -/
import Derived.Test.YtllbbcifcbkgeaaGreatDoorF6a
set_option maxHeartbeats 16000000
set_option maxRecDepth 100000
namespace Go.Proofs.YtllbbcifcbkgeaaGreatDoor.Sh
open Go.RowKit
theorem set_mid {α : Type} (P R : List α) (x y : α) {k : Nat} (hk : k = P.length) : (P ++ x :: R).set k y = P ++ y :: R := by
 subst hk
 rw [List.set_append_right _ _ (Nat.le_refl _), Nat.sub_self]
 rfl
def ahd (L : List MMsg) (i : Nat) : List Nat := match (strm L i).getLast? with | some t => t.1.deps | none => z11
theorem ahd_none {L : List MMsg} {i : Nat} (h : cnt L i = 0) : ahd L i = z11 := by
 rw [ahd, List.eq_nil_of_length_eq_zero h]; rfl
theorem ahd_some {L : List MMsg} {i : Nat} {t : Tk} (h : (strm L i)[cnt L i - 1]? = some t) : ahd L i = t.1.deps := by
 rw [ahd, List.getLast?_eq_getElem?]
 rw [cnt] at h
 rw [h]
theorem ahd_length {L : List MMsg} (hw : ∀ m ∈ L, m.Wf) (i : Nat) : (ahd L i).length = 11 := by
 unfold ahd
 split
 ·rename_i t ht
  exact (hw _ (strm_mem (List.mem_of_getLast? ht)).1).1
 ·rfl
theorem ahead_any {W : World} {b n : Nat} {A : Nat -> Option Addr} {C : Nat -> Nat} {L : List MMsg} (h : LoreAt W b n A C L) {i : Nat} (hi : i < 11) (o : Int) (ho : o = (i : Int) + 1) (hk : KIs W) (h0 : 0 < W.heap.size) :
  Calls Tryz.prog 45 #[.pointer (some ⟨b, 0, none⟩), .int .i64 o] W fun E W' => E = .returned (.agg (u64s (ahd L i)).toArray) /\ Below W.heap.size W W' := by
 have hz := zero_vec
 have hb : ∀ w, (Instr.build 27 #[]).run Tryz.prog w = .ok (.agg (u64s z11).toArray) w := fun w => by kernel_rfl
 have hzl : (u64s z11).length = 11 := rfl
 have hzn : ¬ (u64s z11 = []) := by decide
 have H0 := iq ((Fr.start hk h0).box (u64s z11).toArray 27)
 have HIz := iq (info_vec (l := z11) rfl)
 have HOz := iq (one_u64s z11)
 have HA0 := iq (ahd_none (L := L) (i := i))
 have HA1 := iq (fun t => ahd_some (L := L) (i := i) (t := t))
 have HAl := iq (ahd_length (fun m hm => (h.wf m hm).1) i)
 have HTk := iq (fun (W' : World) (hb : Below W.heap.size W W') (t : Tk) (ht : (strm L i)[cnt L i - 1]? = some t) => (h.below hb).tk hi ht)
 have HW := iq (fun (t : Tk) (ht : (strm L i)[cnt L i - 1]? = some t) => (h.wf _ (strm_mem (List.mem_of_getElem? ht)).1).1)
 have HEx : Hid (0 < cnt L i -> ∃ t, (strm L i)[cnt L i - 1]? = some t) := iq fun h => ⟨_, List.getElem?_eq_getElem (show cnt L i - 1 < cnt L i by omega)⟩
 have HC : Hid (∀ W', Below W.heap.size W W' -> W'.cell? ⟨b, 1 + i, none⟩ = some (.slice (A i) (cnt L i) (C i))) := iq fun W' hb => (h.below hb).cell hi
 have HSl := iq (h.sl hi)
 have HCn := h.cnt_le hi
 have hw : IntKind.i64.wrap (o - 1) = (i : Int) := by rw [IntKind.wrap_i64]; omega
 have hi0 : (0 : Int) <= (i : Int) := by omega
 have hi1 : (i : Int) < 11 := by omega
 have hi2 : (i : Int).toNat = i := by omega
 obtain ⟨N, hN⟩ : ∃ N, N = cnt L i := ⟨_, rfl⟩
 rw [<- hN] at HA0 HA1 HTk HW HEx HC HSl HCn
 obtain ⟨Z, hZ⟩ : ∃ Z, Z = u64s z11 := ⟨_, rfl⟩
 rw [<- hZ] at hz hb hzl hzn H0 HIz HOz
 have HZ := iq hZ
 have HZl := iq hzl
 obtain ⟨ai, hai⟩ : ∃ a, a = A i := ⟨_, rfl⟩
 obtain ⟨ci, hci⟩ : ∃ c, c = C i := ⟨_, rfl⟩
 rw [<- hai] at HC HTk HSl
 rw [<- hci] at HC HTk HSl
 clear hN hZ hai hci h hk h0 ho
 have c1 := HC.out _ H0.out.bel
 have HT : Hid ((W.alloc (.cells Z.toArray 27)).there W.heap.size 0 11) := iq (there_block H0.out.hd 0 _ (by rw [HZl.out]; exact Nat.le_refl _))
 by_cases hn : N = 0
 ·have HE := iq (HA0.out hn)
  subst hn
  rw [HE.out, <- HZ.out]
  go_enter Tryz.func45, Tryz.ntmps45
  go_wp2_with (refine wpList_store_cells rfl 27 (.tmp 4) (.tmp 16) rfl W.heap.size 0 Z rfl rfl (by rw [HZl.out]; exact HT.out) (by rw [HIz.out]) HOz.out ?_)
  exact bodyPost_ret (ret_range (cs := Z) rfl rfl (World.rangeAt_setCells_same _ _ _ Z (by rw [HZl.out]; exact HT.out)) Tryz.underlying27 rfl (by rw [HIz.out])) rfl ⟨rfl, below_setCells (Nat.le_refl _) _ _ _ H0.out.bel⟩
 ·obtain ⟨t, ht⟩ := HEx.out (by omega)
  obtain ⟨g, rfl, hr, hc1, hc2⟩ := HTk.out _ H0.out.bel t ht
  have HE := iq (HA1.out t ht)
  rw [HE.out]
  have HR : Hid ((W.alloc (.cells Z.toArray 27)).rangeAt g ((N - 1) * 122 + 2) (u64s t.1.deps)) := iq (by have hw := HW.out t ht; have := (range_app (range_cons (range_cons (range_app hr).1).2).2).1; exact this)
  have HDl : Hid (t.1.deps.length = 11) := iq (HW.out t ht).1
  have HI := iq (info_vec HDl.out)
  have HO := iq (one_u64s t.1.deps)
  obtain ⟨D, hD⟩ : ∃ D, D = u64s t.1.deps := ⟨_, rfl⟩
  rw [<- hD] at HR HI HO
  rw [<- hD]
  have HDL : Hid (D.length = 11) := iq (by rw [hD, u64s_length]; exact HDl.out)
  clear ht hr hD HE HA1 HW HTk HEx
  have hw2 : IntKind.i64.wrap ((N : Int) - 1) = (N : Int) - 1 := by rw [IntKind.wrap_i64]; omega
  have hn0 : ¬ ((N : Int) = 0) := by omega
  have hn1 : (0 : Int) <= (N : Int) - 1 := by omega
  have hn2 : (N : Int) - 1 < (N : Int) := by omega
  have hn3 : ((N : Int) - 1).toNat = N - 1 := by omega
  have HT2 : Hid ((W.alloc (.cells Z.toArray 27)).there W.heap.size 0 D.length) := iq (by rw [HDL.out]; exact HT.out)
  go_enter Tryz.func45, Tryz.ntmps45
  go_wp2_with (first | ((with_reducible refine wpList_load_midG ?_ 27 (.tmp 23) ?_ g ((N - 1) * 122 + 2) ?_ D _ ?_ Tryz.underlying27 ?_ ?_ ?_); rotate_left; rfl; rfl; exact HR.out; rfl; exact HI.out; rotate_left; rfl) | (refine wpList_store_cells rfl 27 (.tmp 4) (.tmp 24) rfl W.heap.size 0 D rfl rfl HT2.out HI.out HO.out ?_))
  exact bodyPost_ret (ret_range (cs := D) rfl rfl (World.rangeAt_setCells_same _ _ _ D HT2.out) Tryz.underlying27 rfl HI.out) rfl ⟨rfl, below_setCells (Nat.le_refl _) _ _ _ H0.out.bel⟩
def PrsB (B : Nat) (W : World) (A : Option Addr) (qs : List (Int × Nat)) : Prop := Prs W A qs /\ ∀ g o, 0 < qs.length -> A = some ⟨g, o, none⟩ -> B <= g
def prsC (qs : List (Int × Nat)) : List Value := qs.flatMap prC
theorem prsC_length (qs : List (Int × Nat)) : (prsC qs).length = qs.length * 2 := by
 induction qs with
 | nil => rfl
 | cons p qs ih => simp [prsC, prC] at ih ⊢; omega
theorem prsC_one (qs : List (Int × Nat)) : ∀ v ∈ prsC qs, v.oneCell' = true := by
 intro v hv
 simp only [prsC, List.mem_flatMap, prC] at hv
 obtain ⟨p, _, hv⟩ := hv
 simp at hv
 rcases hv with rfl | rfl <;> rfl
theorem prsC_get {qs : List (Int × Nat)} {j : Nat} {p : Int × Nat} (h : qs[j]? = some p) : (prsC qs)[j * 2]? = some (.int .i64 p.1) /\ (prsC qs)[j * 2 + 1]? = some (.int .u64 (p.2 : Int)) := by
 induction qs generalizing j with
 | nil => simp at h
 | cons q qs ih =>
  cases j with
  | zero => simp at h; subst h; exact ⟨rfl, rfl⟩
  | succ j =>
   simp at h
   have := ih h
   rw [show (j + 1) * 2 = j * 2 + 1 + 1 by omega]
   exact this
theorem add_at (b o j : Nat) : (⟨b, o, none⟩ : Addr).add j = ⟨b, o + j, none⟩ := by
 unfold Addr.add
 split
 ·rename_i h; simp_all
 ·rfl
theorem prsC_cells {W : World} {ad : Addr} {qs : List (Int × Nat)} (h : Prs W (some ad) qs) : ∀ j u, (prsC qs)[j]? = some u -> W.cell? (ad.add j) = some u := by
 intro j u hu
 have hj : j < qs.length * 2 := by have := (List.getElem?_eq_some_iff.1 hu).1; rwa [prsC_length] at this
 obtain ⟨b, o, e, _, hc⟩ := h (by omega)
 injection e with e
 subst e
 obtain ⟨p, hp⟩ : ∃ p, qs[j / 2]? = some p := ⟨_, List.getElem?_eq_getElem (by omega)⟩
 have h1 := hc _ p hp
 have h2 := prsC_get hp
 by_cases hm : j % 2 = 0
 ·have hjj : j = j / 2 * 2 := by omega
  rw [hjj, h2.1] at hu
  injection hu with hu
  rw [<- hu, hjj]
  rw [add_at]; exact h1.1
 ·have hjj : j = j / 2 * 2 + 1 := by omega
  rw [hjj, h2.2] at hu
  injection hu with hu
  rw [<- hu, hjj]
  rw [add_at]; exact h1.2
theorem prs_of_own {W : World} {B n c : Nat} {A : Option Addr} {qs : List (Int × Nat)} (h : W.ownsRow B 55 2 (.slice A n c) n (prsC qs)) (hn : n = qs.length) : PrsB B W A qs := by
 refine ⟨fun h0 => ?_, fun g o h0 e => ?_⟩
 ·obtain ⟨g, cap, e, _, hr, _⟩ := ownsRow_some h (by omega)
  injection e with e1
  have hlt := ownsRow_lt h g (by rw [e1]; rfl)
  exact ⟨g, 0, e1, hlt, fun j p hp => ⟨hr _ _ (prsC_get hp).1, by rw [Nat.add_assoc]; exact hr _ _ (prsC_get hp).2⟩⟩
 ·obtain ⟨g', cap, e', hb, _⟩ := ownsRow_some h (by omega)
  injection e' with e1
  rw [e] at e1
  injection e1 with e1
  injection e1 with e1
  omega
theorem clone_pairs (A : Option Addr) (c : Nat) (qs : List (Int × Nat)) (w : World) (hq : Prs w A qs) (hn : qs.length <= 1000000) :
  Calls Tryz.prog 56 #[.slice A qs.length c] w fun E w' => ∃ A' c', E = .returned (.slice A' qs.length c') /\ PrsB w.heap.size w' A' qs /\ Below w.heap.size w w' := by
 have hq0 := fun wx : World => Lib.run_eql_slice_nil (P := Tryz.prog) wx 48 55 A qs.length c 0 0 Tryz.underlying48
 cases A with
 | none =>
  have h0 : qs = [] := by
   cases qs with
   | nil => rfl
   | cons p qs => obtain ⟨b, o, e, _⟩ := hq (by simp); cases e
  subst h0
  have hq0 := fun wx : World => Lib.run_eql_slice_nil (P := Tryz.prog) wx 48 55 none 0 c 0 0 Tryz.underlying48
  show Calls Tryz.prog 56 #[.slice none 0 c] w _
  go_enter Tryz.func56, Tryz.ntmps56
  go_wp2
  go_ret
  exact ⟨none, 0, rfl, ⟨fun h => absurd h (by simp), fun _ _ h _ => absurd h (by simp)⟩, Below.refl _ _⟩
 | some ad =>
  obtain ⟨i0, hi⟩ : ∃ i, Tryz.prog.info? 55 = some i := Option.isSome_iff_exists.1 (by kernel_rfl)
  have hz0 : i0.zero = some (.agg #[.int .i64 0, .int .u64 0]) := by have := (show (Tryz.prog.info? 55).bind (·.zero) = some (.agg #[.int .i64 0, .int .u64 0]) by kernel_rfl); rw [hi] at this; exact this
  have hz1 : i0.size = 2 := by have := (show (Tryz.prog.info? 55).map (·.size) = some 2 by kernel_rfl); rw [hi] at this; injection this
  have hz2 : i0.bytes = 16 := by have := (show (Tryz.prog.info? 55).map (·.bytes) = some 16 by kernel_rfl); rw [hi] at this; injection this
  have HC := iq (fun (W : World) (hb : Below w.heap.size w W) => prsC_cells (hq.below hb))
  obtain ⟨n, hnn⟩ : ∃ n, n = qs.length := ⟨_, rfl⟩
  have HN := iq hnn
  have HL : Hid ((prsC qs).length = n * 2) := iq (by rw [prsC_length, hnn])
  have HO := iq (prsC_one qs)
  rw [<- hnn] at hq0 hn ⊢
  clear hq hnn
  go_enter Tryz.func56, Tryz.ntmps56
  go_wp2_with (at_builtin; go_must (refine wpList_append_own _ rfl (.tmp 5) (.tmp 6) 48 rfl w.heap.size 55 i0 (.agg #[.int .i64 0, .int .u64 0]) 2 16 Tryz.underlying48 hi hz0 hz1 hz2 rfl (by decide) _ 0 [] rfl (World.ownsRow_lit w #[] 0 (Nat.le_refl _) (Nat.zero_le _) rfl) ad n c (prsC qs) rfl HL.out (HC.out _ (bl.alloc (Nat.le_refl _) _)) HO.out (by unfold maxLen; omega) (by omega) (by simp) ?_); intro v' w2 hv2 hg2 hnil2; obtain ⟨A2, c2, rfl, hsl⟩ := row_shape hv2; rw [Nat.zero_add, List.nil_append] at hv2)
  go_ret
  exact ⟨A2, c2, rfl, prs_of_own hv2 HN.out, (bl.alloc (Nat.le_refl _) _).grown hg2 (by simp) (fun k hk => by cases hk; exact Nat.le_refl _)⟩
open Go.RowKit
def MMsg.at (m : MMsg) (A : Option Addr) (c : Nat) : MMsg := { m with body := { m.body with qa := A, qc := c } }
theorem MMsg.at_wf {m : MMsg} (h : m.Wf) (A : Option Addr) (c : Nat) : (m.at A c).Wf := h
def qT (m : MMsg) : Thing := ⟨fun W => Prs W m.body.qa m.body.qs, m.onQ⟩
theorem qT_ok (m : MMsg) : (qT m).Ok := ⟨fun _ _ h hk => prs_kept h hk, fun _ h _ hk => prs_lt h hk⟩
theorem msgC_set (m : MMsg) (h : m.Wf) (A : Option Addr) (c : Nat) : (msgC m).set 56 (.slice A m.body.qs.length c) = msgC (m.at A c) := by
 have e : msgC m = (.int .i64 m.origin :: .int .u64 (m.number : Int) :: (u64s m.deps ++ (.int .u8 (m.body.kind.toNat : Int) :: .int .u64 (m.body.view : Int) :: .int .u64 (m.body.k : Int) :: reqC m.body.req))) ++ m.body.qv :: (u8s m.body.dig ++ u8s m.tag) := by simp [msgC, bodyC]
 rw [e, set_mid _ _ _ _ (by simp [u64s_length, h.1, reqC_length h.2.1.1])]
 simp [msgC, bodyC, MMsg.at, MBody.qv]
theorem msgC_q (m : MMsg) (h : m.Wf) : (msgC m)[56]? = some m.body.qv := by
 have e : msgC m = (.int .i64 m.origin :: .int .u64 (m.number : Int) :: (u64s m.deps ++ (.int .u8 (m.body.kind.toNat : Int) :: .int .u64 (m.body.view : Int) :: .int .u64 (m.body.k : Int) :: reqC m.body.req))) ++ m.body.qv :: (u8s m.body.dig ++ u8s m.tag) := by simp [msgC, bodyC]
 rw [e, List.getElem?_append_right (by simp [u64s_length, h.1, reqC_length h.2.1.1])]
 simp [u64s_length, h.1, reqC_length h.2.1.1]
theorem zeroMsg_wf : zeroMsg.Wf := ⟨rfl, zero_wf, rfl⟩
theorem info_msg {m : MMsg} (h : m.Wf) : (Tryz.prog.info? 52).map (·.size) = some (msgC m).length := by rw [msgC_length h]; exact Tryz.is52
theorem own_any (m : MMsg) (w : World) (hm : m.Wf) (hq : Prs w m.body.qa m.body.qs) (hn : m.body.qs.length <= 1000000) (hk : KIs w) (h0 : 0 < w.heap.size) :
  Calls Tryz.prog 46 #[.agg (msgC m).toArray] w fun E w' => ∃ A c, E = .returned (.agg (msgC (m.at A c)).toArray) /\ Prs w' A m.body.qs /\ (∀ g, (m.at A c).onQ g -> w.heap.size <= g) /\ Below w.heap.size w w' := by
 have hz := zero_msg
 have hzn : ¬ (msgC zeroMsg = []) := fun h => by have := msgC_length zeroMsg_wf; rw [h] at this; cases this
 have hzl := msgC_length zeroMsg_wf
 have H0 : Fr w ((w.alloc (.cells (msgC m).toArray 52)).alloc (.cells (msgC zeroMsg).toArray 52)) [blkT (w.heap.size + 1) (msgC zeroMsg).toArray 52, blkT w.heap.size (msgC m).toArray 52] := ((Fr.start hk h0).box (msgC m).toArray 52).box' (k := w.heap.size + 1) (by simp) (msgC zeroMsg).toArray 52
 obtain ⟨q, hq0⟩ : ∃ q, q = m.body.qs.length := ⟨_, rfl⟩
 have HC := iq (clone_pairs m.body.qa m.body.qc m.body.qs _ (hq.below (H0.bel.mono (Nat.le_refl _))) hn)
 have c0 : ((w.alloc (.cells (msgC m).toArray 52)).alloc (.cells (msgC zeroMsg).toArray 52)).cell? ⟨w.heap.size, 56, none⟩ = some (.slice m.body.qa q m.body.qc) := block_cell H0.hd2 56 _ (by rw [msgC_q m hm, hq0]; rfl)
 rw [<- hq0] at HC
 have HQ := iq hq0
 have HM := iq hm
 have HI := iq (fun A c => info_msg (MMsg.at_wf hm A c))
 have HO := iq (fun A c => one_msgC (m.at A c))
 have HL := iq (fun A c => msgC_length (MMsg.at_wf hm A c))
 have HSt := iq (fun A c => msgC_set m hm A c)
 rw [<- hq0] at HSt
 have H0 := iq H0
 obtain ⟨Z, hZ⟩ : ∃ Z, Z = msgC zeroMsg := ⟨_, rfl⟩
 rw [<- hZ] at hz hzn hzl HC H0 c0
 have HZl := iq hzl
 clear hq0 hm hk h0 hq hn hZ
 go_enter Tryz.func46, Tryz.ntmps46
 go_wp2_with (go_at_call 56; refine HC.out.mono ?_)
 rintro E w2 ⟨A', c', rfl, hp, hb⟩
 have HP := iq hp.1
 have HPb : Hid (∀ g, (m.at A' c').onQ g -> w.heap.size + 2 <= g) := iq fun g hg => by obtain ⟨h1, o, e⟩ := hg; have := hp.2 g o h1 e; simpa using this
 have H2 : Hid (Fr w w2 [qT (m.at A' c'), blkT (w.heap.size + 1) Z.toArray 52, blkT w.heap.size (msgC m).toArray 52]) := iq (H0.out.add hb HP.out (qT_ok _) fun k hk => by have := HPb.out k hk; simpa using this)
 clear hp hb H0 HC c0
 have c1 : w2.cell? ⟨w.heap.size, 56, none⟩ = some (.slice m.body.qa q m.body.qc) := block_cell H2.out.hd3 56 _ (by rw [msgC_q m HM.out, HQ.out]; rfl)
 have f1 : w2.frozen? ⟨w.heap.size, 56, none⟩ = false := free_block H2.out.hd3 56
 have H3 : Hid (Fr w (w2.setCell ⟨w.heap.size, 56, none⟩ (.slice A' q c')) [blkT w.heap.size (msgC (m.at A' c')).toArray 52, qT (m.at A' c'), blkT (w.heap.size + 1) Z.toArray 52]) := iq (by have := (H2.out.third).set 56 (.slice A' q c'); rw [HSt.out] at this; exact this)
 clear H2
 have HLE : Hid (0 + (msgC (m.at A' c')).length <= Z.length /\ setAll Z 0 (msgC (m.at A' c')) = msgC (m.at A' c')) := iq ⟨by rw [HL.out, HZl.out]; omega, setAll_all (by rw [HL.out, HZl.out])⟩
 have HD := iq (HI.out A' c')
 have HDo := iq (HO.out A' c')
 obtain ⟨D, hD⟩ : ∃ D, D = msgC (m.at A' c') := ⟨_, rfl⟩
 rw [<- hD] at H3 HLE HD HDo
 have HDD := iq hD
 clear hD HI HO HL HSt
 go_wp2_with (first | ((with_reducible refine wpList_load_midG ?_ 52 (.tmp 1) ?_ w.heap.size 0 ?_ D _ ?_ Tryz.underlying52 ?_ ?_ ?_); rotate_left; rfl; rfl; exact range_of H3.out.hd; rfl; exact HD.out; rotate_left; rfl) | (refine wpList_store_part rfl 52 (.tmp 2) (.tmp 9) rfl (w.heap.size + 1) 0 Z D D 52 H3.out.hd3 HLE.out.1 HLE.out.2 rfl rfl HD.out HDo.out ?_; intro w9 G9))
 have H9 : Hid (Fr w w9 [blkT (w.heap.size + 1) D.toArray 52, blkT w.heap.size D.toArray 52, qT (m.at A' c')]) := iq ((H3.out.third).turn (own_grown G9.out.2 rfl) G9.out.1 (blkT_ok _ _ _))
 refine bodyPost_ret (ret_range (cs := D) rfl rfl (range_of G9.out.1) Tryz.underlying52 rfl HD.out) rfl ⟨A', c', by rw [HDD.out], H9.out.hd3, fun g hg => Nat.le_trans (Nat.le_add_right _ 2) (HPb.out g hg), H9.out.bel⟩
def isN (n : Int) : Bool := decide (3 <= n /\ n <= 11 /\ ¬ n % 2 = 0)
theorem lore_new {W : World} (n : Nat) (hn : n <= 11) : LoreAt (W.alloc (.cells (loC n (fun _ => none) (fun _ => 0) []).toArray 93)) W.heap.size n (fun _ => none) (fun _ => 0) [] :=
 ⟨heap_alloc_new W _, fun _ _ => World.ownsRow_nil _ _ _ _, fun _ h => (by cases h), fun _ _ _ _ _ h => (by cases h), fun _ _ _ h => (by cases h), fun _ h => (by cases h), hn, Nat.zero_le _⟩
theorem lnew_any (n : Int) (hn : isN n = true) (w : World) :
  Calls Tryz.prog 15 #[.int .i64 n] w fun E w' => ∃ b, E = .returned (.tuple #[.pointer (some ⟨b, 0, none⟩), .int .i64 0]) /\ LoreAt w' b n.toNat (fun _ => none) (fun _ => 0) [] /\ w.heap.size <= b /\ Below w.heap.size w w' := by
 have h := of_decide_eq_true hn
 obtain ⟨k, rfl⟩ : ∃ k : Nat, n = (k : Int) := ⟨n.toNat, by omega⟩
 have HL := iq (lore_new (W := w) k (by omega))
 have h1 : ¬ ((k : Int) < 3) := by omega
 have h2 : ¬ ((k : Int) > 11) := by omega
 have h3 : ¬ ((k : Int) % 2 = 0) := by omega
 have h4 : ¬ (Int.tmod (k : Int) 2 = 0) := by rw [Int.tmod_eq_emod_of_nonneg (by omega)]; exact h3
 have hb : ∀ W, (Instr.build 93 #[(0, .int .i64 (k : Int))]).run Tryz.prog W = .ok (.agg (loC k (fun _ => none) (fun _ => 0) []).toArray) W := fun W => by kernel_rfl
 have hcn : ¬ ((loC k (fun _ => none) (fun _ => 0) []) = []) := by simp [loC]
 obtain ⟨C, hC⟩ : ∃ C, C = loC k (fun _ => none) (fun _ => 0) [] := ⟨_, rfl⟩
 rw [<- hC] at hb hcn
 clear h hn hC
 go_enter Tryz.func15, Tryz.ntmps15
 go_wp2_with fail
 refine bodyPost_ret (results_tmp2 rfl _ _ _) rfl ?_
 exact ⟨w.heap.size, rfl, HL.out, Nat.le_refl _, bl.alloc (Nat.le_refl _) _⟩
end Go.Proofs.YtllbbcifcbkgeaaGreatDoor.Sh
