/-
  What is proved: what was known behind the last message; pairs of memory of their own. Conditions as stated.
-/
import Derived.Test.YtgdcnakcjomllaaDoorF6p
namespace Go.Proofs.YtgdcnakcjomllaaDoor.Sh
open Go.RowKit
set_option maxRecDepth 100000

theorem set_mid {α : Type} (P R : List α) (x y : α) {k : Nat} (hk : k = P.length) : (P ++ x :: R).set k y = P ++ y :: R := by
  subst hk
  rw [List.set_append_right _ _ (Nat.le_refl _), Nat.sub_self]
  rfl
/-! ### what was known behind the last message of a replica -/
def ahd (L : List MMsg) (i : Nat) : List Nat := match (strm L i).getLast? with | some t => t.1.deps | none => z11
theorem ahd_none {L : List MMsg} {i : Nat} (h : cnt L i = 0) : ahd L i = z11 := by
  rw [ahd, List.eq_nil_of_length_eq_zero h]; rfl
theorem ahd_some {L : List MMsg} {i : Nat} {t : Tk} (h : (strm L i)[cnt L i - 1]? = some t) : ahd L i = t.1.deps := by
  rw [ahd, List.getLast?_eq_getElem?]
  rw [cnt] at h
  rw [h]
theorem ahd_length {L : List MMsg} (hw : ∀ m ∈ L, m.Wf) (i : Nat) : (ahd L i).length = 11 := by
  unfold ahd
  split
  · rename_i t ht
    exact (hw _ (strm_mem (List.mem_of_getLast? ht)).1).1
  · rfl
set_option maxHeartbeats 2000000 in
theorem ahead_any {W : World} {b n : Nat} {A : Nat → Option Addr} {C : Nat → Nat} {L : List MMsg} (h : LoreAt W b n A C L) {i : Nat} (hi : i < 11) (o : Int) (ho : o = (i : Int) + 1) (hk : KIs W) (h0 : 0 < W.heap.size) :
    Calls Tryd.prog 20 #[.pointer (some ⟨b, 0, none⟩), .int .i64 o] W fun E W' => E = .returned (.agg (u64s (ahd L i)).toArray) ∧ Below W.heap.size W W' := by
  have hz := zero_vec
  have hb : ∀ w, (Instr.build 24 #[]).run Tryd.prog w = .ok (.agg (u64s z11).toArray) w := fun w => by kernel_rfl
  have hzl : (u64s z11).length = 11 := rfl
  have hzn : ¬ (u64s z11 = []) := by decide
  have H0 := Lib.hid ((Fr.start hk h0).box (u64s z11).toArray 24)
  have HIz := Lib.hid (info_vec (l := z11) rfl)
  have HOz := Lib.hid (one_u64s z11)
  have HA0 := Lib.hid (ahd_none (L := L) (i := i))
  have HA1 := Lib.hid (fun t => ahd_some (L := L) (i := i) (t := t))
  have HAl := Lib.hid (ahd_length (fun m hm => (h.wf m hm).1) i)
  have HTk := Lib.hid (fun (W' : World) (hb : Below W.heap.size W W') (t : Tk) (ht : (strm L i)[cnt L i - 1]? = some t) => (h.below hb).tk hi ht)
  have HW := Lib.hid (fun (t : Tk) (ht : (strm L i)[cnt L i - 1]? = some t) => (h.wf _ (strm_mem (List.mem_of_getElem? ht)).1).1)
  have HEx : Hid (0 < cnt L i → ∃ t, (strm L i)[cnt L i - 1]? = some t) := Lib.hid fun h => ⟨_, List.getElem?_eq_getElem (show cnt L i - 1 < cnt L i by omega)⟩
  have HC : Hid (∀ W', Below W.heap.size W W' → W'.cell? ⟨b, 1 + i, none⟩ = some (.slice (A i) (cnt L i) (C i))) := Lib.hid fun W' hb => (h.below hb).cell hi
  have HSl := Lib.hid (h.sl hi)
  have HCn := h.cnt_le hi
  have hw : IntKind.i64.wrap (o - 1) = (i : Int) := by rw [IntKind.wrap_i64]; omega
  have hi0 : (0 : Int) ≤ (i : Int) := by omega
  have hi1 : (i : Int) < 11 := by omega
  have hi2 : (i : Int).toNat = i := by omega
  obtain ⟨N, hN⟩ : ∃ N, N = cnt L i := ⟨_, rfl⟩
  rw [← hN] at HA0 HA1 HTk HW HEx HC HSl HCn
  obtain ⟨Z, hZ⟩ : ∃ Z, Z = u64s z11 := ⟨_, rfl⟩
  rw [← hZ] at hz hb hzl hzn H0 HIz HOz
  have HZ := Lib.hid hZ
  have HZl := Lib.hid hzl
  obtain ⟨ai, hai⟩ : ∃ a, a = A i := ⟨_, rfl⟩
  obtain ⟨ci, hci⟩ : ∃ c, c = C i := ⟨_, rfl⟩
  rw [← hai] at HC HTk HSl
  rw [← hci] at HC HTk HSl
  clear hN hZ hai hci h hk h0 ho
  have c1 := HC.out _ H0.out.bel
  have HT : Hid ((W.alloc (.cells Z.toArray 24)).there W.heap.size 0 11) := Lib.hid (there_block H0.out.hd 0 _ (by rw [HZl.out]; exact Nat.le_refl _))
  by_cases hn : N = 0
  · have HE := Lib.hid (HA0.out hn)
    subst hn
    rw [HE.out, ← HZ.out]
    go_enter Tryd.func20, Tryd.ntmps20
    go_wp2_with (refine wpList_store_cells rfl 24 (.tmp 4) (.tmp 16) rfl W.heap.size 0 Z rfl rfl (by rw [HZl.out]; exact HT.out) (by rw [HIz.out]) HOz.out ?_)
    exact bodyPost_ret (ret_range (cs := Z) rfl rfl (World.rangeAt_setCells_same _ _ _ Z (by rw [HZl.out]; exact HT.out)) Tryd.underlying24 rfl (by rw [HIz.out])) rfl ⟨rfl, below_setCells (Nat.le_refl _) _ _ _ H0.out.bel⟩
  · obtain ⟨t, ht⟩ := HEx.out (by omega)
    obtain ⟨g, rfl, hr, hc1, hc2⟩ := HTk.out _ H0.out.bel t ht
    have HE := Lib.hid (HA1.out t ht)
    rw [HE.out]
    have HR : Hid ((W.alloc (.cells Z.toArray 24)).rangeAt g ((N - 1) * 122 + 2) (u64s t.1.deps)) := Lib.hid (by have hw := HW.out t ht; have := (range_app (range_cons (range_cons (range_app hr).1).2).2).1; exact this)
    have HDl : Hid (t.1.deps.length = 11) := Lib.hid (HW.out t ht).1
    have HI := Lib.hid (info_vec HDl.out)
    have HO := Lib.hid (one_u64s t.1.deps)
    obtain ⟨D, hD⟩ : ∃ D, D = u64s t.1.deps := ⟨_, rfl⟩
    rw [← hD] at HR HI HO
    rw [← hD]
    have HDL : Hid (D.length = 11) := Lib.hid (by rw [hD, u64s_length]; exact HDl.out)
    clear ht hr hD HE HA1 HW HTk HEx
    have hw2 : IntKind.i64.wrap ((N : Int) - 1) = (N : Int) - 1 := by rw [IntKind.wrap_i64]; omega
    have hn0 : ¬ ((N : Int) = 0) := by omega
    have hn1 : (0 : Int) ≤ (N : Int) - 1 := by omega
    have hn2 : (N : Int) - 1 < (N : Int) := by omega
    have hn3 : ((N : Int) - 1).toNat = N - 1 := by omega
    have HT2 : Hid ((W.alloc (.cells Z.toArray 24)).there W.heap.size 0 D.length) := Lib.hid (by rw [HDL.out]; exact HT.out)
    go_enter Tryd.func20, Tryd.ntmps20
    go_wp2_with (first | ((with_reducible refine wpList_load_midG ?_ 24 (.tmp 23) ?_ g ((N - 1) * 122 + 2) ?_ D _ ?_ Tryd.underlying24 ?_ ?_ ?_); rotate_left; (· rfl); (· rfl); (· exact HR.out); (· rfl); (· exact HI.out); rotate_left; (· rfl)) | (refine wpList_store_cells rfl 24 (.tmp 4) (.tmp 24) rfl W.heap.size 0 D rfl rfl HT2.out HI.out HO.out ?_))
    exact bodyPost_ret (ret_range (cs := D) rfl rfl (World.rangeAt_setCells_same _ _ _ D HT2.out) Tryd.underlying24 rfl HI.out) rfl ⟨rfl, below_setCells (Nat.le_refl _) _ _ _ H0.out.bel⟩

/-! ### a message of memory of its own -/
def PrsB (B : Nat) (W : World) (A : Option Addr) (qs : List (Int × Nat)) : Prop := Prs W A qs ∧ ∀ g o, 0 < qs.length → A = some ⟨g, o, none⟩ → B ≤ g
def prsC (qs : List (Int × Nat)) : List Value := qs.flatMap prC
theorem prsC_length (qs : List (Int × Nat)) : (prsC qs).length = qs.length * 2 := by
  induction qs with
  | nil => rfl
  | cons p qs ih => simp [prsC, prC] at ih ⊢; omega
theorem prsC_one (qs : List (Int × Nat)) : ∀ v ∈ prsC qs, v.oneCell' = true := by
  intro v hv
  simp only [prsC, List.mem_flatMap, prC] at hv
  obtain ⟨p, _, hv⟩ := hv
  simp at hv
  rcases hv with rfl | rfl <;> rfl
theorem prsC_get {qs : List (Int × Nat)} {j : Nat} {p : Int × Nat} (h : qs[j]? = some p) : (prsC qs)[j * 2]? = some (.int .i64 p.1) ∧ (prsC qs)[j * 2 + 1]? = some (.int .u64 (p.2 : Int)) := by
  induction qs generalizing j with
  | nil => simp at h
  | cons q qs ih =>
    cases j with
    | zero => simp at h; subst h; exact ⟨rfl, rfl⟩
    | succ j =>
      simp at h
      have := ih h
      rw [show (j + 1) * 2 = j * 2 + 1 + 1 by omega]
      exact this
theorem add_at (b o j : Nat) : (⟨b, o, none⟩ : Addr).add j = ⟨b, o + j, none⟩ := by
  unfold Addr.add
  split
  · rename_i h; simp_all
  · rfl
theorem prsC_cells {W : World} {ad : Addr} {qs : List (Int × Nat)} (h : Prs W (some ad) qs) : ∀ j u, (prsC qs)[j]? = some u → W.cell? (ad.add j) = some u := by
  intro j u hu
  have hj : j < qs.length * 2 := by have := (List.getElem?_eq_some_iff.1 hu).1; rwa [prsC_length] at this
  obtain ⟨b, o, e, _, hc⟩ := h (by omega)
  injection e with e
  subst e
  obtain ⟨p, hp⟩ : ∃ p, qs[j / 2]? = some p := ⟨_, List.getElem?_eq_getElem (by omega)⟩
  have h1 := hc _ p hp
  have h2 := prsC_get hp
  by_cases hm : j % 2 = 0
  · have hjj : j = j / 2 * 2 := by omega
    rw [hjj, h2.1] at hu
    injection hu with hu
    rw [← hu, hjj]
    rw [add_at]; exact h1.1
  · have hjj : j = j / 2 * 2 + 1 := by omega
    rw [hjj, h2.2] at hu
    injection hu with hu
    rw [← hu, hjj]
    rw [add_at]; exact h1.2
theorem prs_of_own {W : World} {B n c : Nat} {A : Option Addr} {qs : List (Int × Nat)} (h : W.ownsRow B 67 2 (.slice A n c) n (prsC qs)) (hn : n = qs.length) : PrsB B W A qs := by
  refine ⟨fun h0 => ?_, fun g o h0 e => ?_⟩
  · obtain ⟨g, cap, e, _, hr, _⟩ := ownsRow_some h (by omega)
    injection e with e1
    have hlt := ownsRow_lt h g (by rw [e1]; rfl)
    exact ⟨g, 0, e1, hlt, fun j p hp => ⟨hr _ _ (prsC_get hp).1, by rw [Nat.add_assoc]; exact hr _ _ (prsC_get hp).2⟩⟩
  · obtain ⟨g', cap, e', hb, _⟩ := ownsRow_some h (by omega)
    injection e' with e1
    rw [e] at e1
    injection e1 with e1
    injection e1 with e1
    omega
set_option maxHeartbeats 1000000 in
theorem clone_pairs (A : Option Addr) (c : Nat) (qs : List (Int × Nat)) (w : World) (hq : Prs w A qs) (hn : qs.length ≤ 1000000) :
    Calls Tryd.prog 25 #[.slice A qs.length c] w fun E w' => ∃ A' c', E = .returned (.slice A' qs.length c') ∧ PrsB w.heap.size w' A' qs ∧ Below w.heap.size w w' := by
  have hq0 := fun wx : World => Lib.run_eql_slice_nil (P := Tryd.prog) wx 30 67 A qs.length c 0 0 Tryd.underlying30
  cases A with
  | none =>
    have h0 : qs = [] := by
      cases qs with
      | nil => rfl
      | cons p qs => obtain ⟨b, o, e, _⟩ := hq (by simp); cases e
    subst h0
    have hq0 := fun wx : World => Lib.run_eql_slice_nil (P := Tryd.prog) wx 30 67 none 0 c 0 0 Tryd.underlying30
    show Calls Tryd.prog 25 #[.slice none 0 c] w _
    go_enter Tryd.func25, Tryd.ntmps25
    go_wp2
    go_ret
    exact ⟨none, 0, rfl, ⟨fun h => absurd h (by simp), fun _ _ h _ => absurd h (by simp)⟩, Below.refl _ _⟩
  | some ad =>
    obtain ⟨i0, hi⟩ : ∃ i, Tryd.prog.info? 67 = some i := Option.isSome_iff_exists.1 (by kernel_rfl)
    have hz0 : i0.zero = some (.agg #[.int .i64 0, .int .u64 0]) := by have := (show (Tryd.prog.info? 67).bind (·.zero) = some (.agg #[.int .i64 0, .int .u64 0]) by kernel_rfl); rw [hi] at this; exact this
    have hz1 : i0.size = 2 := by have := (show (Tryd.prog.info? 67).map (·.size) = some 2 by kernel_rfl); rw [hi] at this; injection this
    have hz2 : i0.bytes = 16 := by have := (show (Tryd.prog.info? 67).map (·.bytes) = some 16 by kernel_rfl); rw [hi] at this; injection this
    have HC := Lib.hid (fun (W : World) (hb : Below w.heap.size w W) => prsC_cells (hq.below hb))
    obtain ⟨n, hnn⟩ : ∃ n, n = qs.length := ⟨_, rfl⟩
    have HN := Lib.hid hnn
    have HL : Hid ((prsC qs).length = n * 2) := Lib.hid (by rw [prsC_length, hnn])
    have HO := Lib.hid (prsC_one qs)
    rw [← hnn] at hq0 hn ⊢
    clear hq hnn
    go_enter Tryd.func25, Tryd.ntmps25
    go_wp2_with (at_builtin; go_must (refine wpList_append_own _ rfl (.tmp 5) (.tmp 6) 30 rfl w.heap.size 67 i0 (.agg #[.int .i64 0, .int .u64 0]) 2 16 Tryd.underlying30 hi hz0 hz1 hz2 rfl (by decide) _ 0 [] rfl (World.ownsRow_lit w #[] 0 (Nat.le_refl _) (Nat.zero_le _) rfl) ad n c (prsC qs) rfl HL.out (HC.out _ ((Below.refl _ _).alloc (Nat.le_refl _) _)) HO.out (by unfold maxLen; omega) (by omega) (by simp) ?_); intro v' w2 hv2 hg2 hnil2; obtain ⟨A2, c2, rfl, hsl⟩ := row_shape hv2; rw [Nat.zero_add, List.nil_append] at hv2)
    go_ret
    exact ⟨A2, c2, rfl, prs_of_own hv2 HN.out, ((Below.refl _ _).alloc (Nat.le_refl _) _).grown hg2 (by simp) (fun k hk => by cases hk; exact Nat.le_refl _)⟩
end Go.Proofs.YtgdcnakcjomllaaDoor.Sh
