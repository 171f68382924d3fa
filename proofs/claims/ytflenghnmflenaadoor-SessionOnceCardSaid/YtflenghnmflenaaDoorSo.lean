/-
  What is proved: SessionOnce's walk. Conditions as stated.
-/
import Derived.Test.YtflenghnmflenaaDoorSm
namespace Go.Proofs.YtflenghnmflenaaDoor
open Go.RowKit
set_option maxRecDepth 100000

set_option maxHeartbeats 16000000 in
theorem once_walk {w : World} (hv : Vars w) (A : Option Addr) (c0 : Nat) (qs : List MRq) (hQ : Rqs w A qs) (hn : qs.length ≤ 1099511627776) :
    Calls Tryd.prog 4 #[.slice A qs.length c0] w fun E w' => E = .returned (.bool true) ∧ Below w.heap.size w w' := by
  have HW : Hid (∀ W, Below w.heap.size w W → Calls Tryd.prog 9 #[] W fun E w' => E = .returned (.bool true) ∧ Below W.heap.size W w') := Lib.hid fun W hb => works_any (hv.below hb)
  have HF := Lib.hid (sfew_any A c0 qs w hQ hn)
  have HV := Lib.hid hv
  have HB0 := Lib.hid (Below.refl w.heap.size w)
  have HReq := Lib.hid (rqs_at hQ)
  have HInfo : Hid (∀ q ∈ qs, (Tryd.prog.info? 52).map (·.size) = some (rqC q).length) := Lib.hid fun q hq => rq_info hQ hq
  have HSame : Hid (∀ W A1 A2 c1 c2 (x y : List It), Its W A1 x → Its W A2 y → x.length ≤ 1000 → y.length ≤ 1000 → Calls Tryd.prog 19 #[.slice A1 x.length c1, .slice A2 y.length c2] W fun E w' => E = .returned (.bool (decide (x = y))) ∧ Below W.heap.size W w') := Lib.hid fun W A1 A2 c1 c2 x y h1 h2 h3 h4 => same_any A1 A2 c1 c2 x y W h1 h2 (by omega) (by omega)
  obtain ⟨n, hnn⟩ : ∃ n, n = qs.length := ⟨_, rfl⟩
  have HL := Lib.hid hnn
  rw [← hnn] at HF hn ⊢
  clear hv hQ hnn
  go_enter Tryd.func4, Tryd.ntmps4
  go_wp2_with (go_at_call 8; refine HF.out.mono ?_)
  rintro E w1 ⟨⟨z, rfl, hz150⟩, b1⟩
  have B1 := Lib.hid (HB0.out.trans (b1.mono HB0.out.size))
  clear HB0 b1 HF
  cases z with
  | false =>
    go_wp2_with (go_at_call 9; refine (HW.out _ B1.out).mono ?_; rintro E w2 ⟨rfl, b2⟩)
    go_ret
    exact ⟨rfl, B1.out.trans (b2.mono B1.out.size)⟩
  | true =>
    have h150 := hz150 rfl
    clear hz150
    by_cases hlim : n ≤ 100
    · have hl1 : ¬ ((n : Int) > 100) := by omega
      have hl2 : ¬ (100 < (n : Int)) := by omega
      go_wp2_with (first
        | (go_at_call 12; refine (tnew_any _).mono ?_; rintro E w2 ⟨rfl, ht2, hb2⟩)
        | (go_at_call 13; refine (new_any (HV.out.below (B1.out.trans (hb2.mono B1.out.size)))).mono ?_; rintro E w3 ⟨rfl, hs3, hb3⟩
           have K3 := Lib.hid (sn_start HV.out B1.out ht2 (Nat.le_refl _) hb2 hs3 (Nat.le_refl _) hb3)
           clear ht2 hb2 hs3 hb3 B1))
      have K4 : Hid (Sn w w1.heap.size w2.heap.size [(w3.heap.size, (tbC (zL :: zT)).toArray, 60)] (w3.alloc (.cells #[.int .u64 0, .int .i64 0, .string ⟨#[]⟩, .int .u64 0, .int .i64 0, .string ⟨#[]⟩, .int .u64 0, .int .i64 0, .string ⟨#[]⟩, .int .u64 0, .int .i64 0, .string ⟨#[]⟩, .int .u64 0, .int .i64 0, .string ⟨#[]⟩, .int .u64 0, .int .i64 0, .string ⟨#[]⟩, .int .u64 0, .int .i64 0, .string ⟨#[]⟩, .int .u64 0, .int .i64 0, .string ⟨#[]⟩, .int .u64 0, .int .i64 0, .string ⟨#[]⟩] 60)) zT none 0 []) := Lib.hid (K3.out.box (tbC (zL :: zT)).toArray 60)
      have HLw : Hid (w.heap.size ≤ w3.heap.size) := Lib.hid K3.out.bel.size
      clear K3
      generalize w1.heap.size = t at *
      generalize w2.heap.size = g at *
      obtain ⟨lb, hlb⟩ : ∃ lb, lb = w3.heap.size := ⟨_, rfl⟩
      rw [← hlb] at K4 HLw ⊢
      clear hlb
      go_loopw [6] (fun v6 wr => ∃ (j : Nat) (T : List Lst) (r : Option Nat) (c : Nat) (xs : List It), j ≤ n ∧ v6 = .int .i64 (j : Int) ∧ Hid (Sn w t g [(lb, (tbC (zL :: T)).toArray, 60)] wr T r c xs ∧ Past T (qs.take j))) (fun v6 _ => n - (intOf v6).toNat)
      case atStart => exact ⟨0, zT, none, 0, [], by omega, rfl, Lib.hid ⟨K4.out, by intro q hq; simp at hq⟩⟩
      case round =>
        clear K4
        obtain ⟨j, T, r, c, xs, hj, rfl, KK⟩ := hrel
        have K := Lib.hid KK.out.1
        have HP := Lib.hid KK.out.2
        clear KK
        by_cases hjj : j < n
        · obtain ⟨q, hq⟩ : ∃ q, qs[j]? = some q := ⟨_, List.getElem?_eq_getElem (by rw [← HL.out]; exact hjj)⟩
          obtain ⟨b', off, rfl, hr⟩ := HReq.out j q hq
          have HRg := Lib.hid hr
          have HI := Lib.hid (HInfo.out q (List.mem_of_getElem? hq))
          have HTk : Hid (qs.take (j + 1) = qs.take j ++ [q]) := Lib.hid (by rw [List.take_add_one, hq]; rfl)
          have HTl := Lib.hid K.out.tbl.len
          have HP2 := Lib.hid (HP.out.next HTl.out xs q)
          have hdec : decide ((j : Int) < (n : Int)) = true := decide_eq_true (by omega)
          have hj0 : (0 : Int) ≤ (j : Int) := by omega
          have hjn : (j : Int) < (n : Int) := by omega
          have htn : ((j : Int)).toNat = j := by omega
          have hw1 : IntKind.i64.wrap ((j : Int) + 1) = (j : Int) + 1 := by rw [IntKind.wrap_i64]; omega
          obtain ⟨er, vl, z, hres⟩ := tR_rep T xs q
          obtain ⟨T', hT'⟩ : ∃ T', T' = (tR T xs q).2.1 := ⟨_, rfl⟩
          obtain ⟨ys, hys⟩ : ∃ ys, ys = (tR T xs q).2.2 := ⟨_, rfl⟩
          have HRes : Hid (tR T xs q = (((er, vl), z), T', ys)) := Lib.hid (by rw [← hres, hT', hys])
          have HD : Hid (∀ W, Sn w t g [(lb, (tbC (zL :: T)).toArray, 60)] W T r c xs → Calls Tryd.prog 14 #[.pointer (some ⟨t, 0, none⟩), .pointer (some ⟨g, 0, none⟩), .agg (rqC q).toArray] W fun E W' => E = .returned (.tuple #[.agg #[.int .i64 er, .string vl], .bool z]) ∧ ∃ r' c', Sn w t g [(lb, (tbC (zL :: T)).toArray, 60)] W' T' r' c' ys) := Lib.hid fun W h => (h.do q).mono fun E W' hE => by rw [HRes.out] at hE; exact hE
          rw [← hT'] at HP2
          clear hr hres hT' hys HP hq
          go_wp2_with (first | ((with_reducible refine wpList_load_midG ?_ 52 (.tmp 36) ?_ b' (off + j * 40) ?_ (rqC q) _ ?_ Tryd.underlying52 ?_ ?_ ?_); rotate_left; (· rfl); (· rfl); (· exact HRg.out _ K.out.bel); (· rfl); (· exact HI.out); rotate_left; (· rfl)) | (go_at_call 14; refine (HD.out _ K.out).mono ?_))
          rintro E w4 ⟨rfl, r4, c4, h4⟩
          have HLb : Hid (lb < w4.heap.size) := Lib.hid (Array.getElem?_eq_some_iff.1 (h4.keep _ (List.mem_cons_self ..)).1).1
          have K4 := Lib.hid (h4.box #[.int .i64 er, .string vl] 32)
          clear K h4 HD HI
          obtain ⟨cl, tm, o, tag⟩ := q
          have k0 : (w4.alloc (.cells #[.int .i64 er, .string vl] 32)).cell? ⟨b', off + j * 40, none⟩ = some (.int .i64 cl) := HRg.out _ K4.out.bel 0 _ (rq_0 _)
          have k1 : (w4.alloc (.cells #[.int .i64 er, .string vl] 32)).cell? ⟨b', off + j * 40 + 1, none⟩ = some (.int .u64 (tm : Int)) := HRg.out _ K4.out.bel 1 _ (rq_1 _)
          have a0 : (w4.alloc (.cells #[.int .i64 er, .string vl] 32)).cell? ⟨w4.heap.size, 0, none⟩ = some (.int .i64 er) := block_cell (C := [.int .i64 er, .string vl]) (K4.out.keep _ (List.mem_cons_self ..)).1 0 _ rfl
          have a1 : (w4.alloc (.cells #[.int .i64 er, .string vl] 32)).cell? ⟨w4.heap.size, 1, none⟩ = some (.string vl) := block_cell (C := [.int .i64 er, .string vl]) (K4.out.keep _ (List.mem_cons_self ..)).1 1 _ rfl
          cases hm : mayQ ⟨cl, tm, o, tag⟩ with
          | false =>
            have h1 := tR_no (T := T) (xs := xs) hm
            rw [HRes.out] at h1
            obtain ⟨⟨⟨rfl, rfl⟩, rfl⟩, rfl, rfl⟩ : (((er = 1 ∧ vl = ByteArray.empty) ∧ z = false) ∧ T' = T ∧ ys = xs) := by simpa [up, no] using h1
            clear h1 HRes
            have hno : cl < 1 ∨ (¬ cl < 1 ∧ 8 < cl) ∨ (¬ cl < 1 ∧ ¬ 8 < cl ∧ tm = 0) := by
              have h2 : ¬ ((1 ≤ cl ∧ cl ≤ 8) ∧ tm ≠ 0) := fun h => by rw [mayQ_iff.2 h] at hm; cases hm
              omega
            clear hm
            rcases hno with h1 | ⟨h1, h2⟩ | ⟨h1, h2, rfl⟩
            · go_wp2_with fail
              go_roundw
              case measure => simp [intOf] <;> omega
              case rel => exact ⟨j + 1, _, r4, c4, _, by omega, by go_num, Lib.hid ⟨K4.out.pop, by rw [HTk.out]; exact HP2.out⟩⟩
            · go_wp2_with fail
              go_roundw
              case measure => simp [intOf] <;> omega
              case rel => exact ⟨j + 1, _, r4, c4, _, by omega, by go_num, Lib.hid ⟨K4.out.pop, by rw [HTk.out]; exact HP2.out⟩⟩
            · go_wp2_with fail
              go_roundw
              case measure => simp [intOf] <;> omega
              case rel => exact ⟨j + 1, _, r4, c4, _, by omega, by go_num, Lib.hid ⟨K4.out.pop, by rw [HTk.out]; exact HP2.out⟩⟩
          | true =>
            obtain ⟨hcl, htm⟩ := mayQ_iff.1 hm
            dsimp only at hcl htm
            obtain ⟨i, rfl⟩ : ∃ i : Nat, cl = (i : Int) + 1 := ⟨(cl - 1).toNat, by omega⟩
            have hi8 : i < 8 := by omega
            obtain ⟨p, hp, hlast⟩ := last_at HTl.out hi8
            have hp2 : (zL :: T)[i + 1]? = some p := by rw [List.getElem?_cons_succ]; exact hp
            have hcell : ∀ k v, (lsC p)[k]? = some v → (w4.alloc (.cells #[.int .i64 er, .string vl] 32)).cell? ⟨lb, (i + 1) * 3 + k, none⟩ = some v := fun k v hv => block_cell (K4.out.keep _ (List.mem_cons_of_mem _ (List.mem_cons_self ..))).1 _ _ (tbC_at hp2 k v hv)
            have l0 : (w4.alloc (.cells #[.int .i64 er, .string vl] 32)).cell? ⟨lb, (i + 1) * 3, none⟩ = some (.int .u64 (p.1 : Int)) := hcell 0 _ rfl
            have l1 : (w4.alloc (.cells #[.int .i64 er, .string vl] 32)).cell? ⟨lb, (i + 1) * 3 + 1, none⟩ = some (.int .i64 p.2.1) := hcell 1 _ rfl
            have l2 : (w4.alloc (.cells #[.int .i64 er, .string vl] 32)).cell? ⟨lb, (i + 1) * 3 + 2, none⟩ = some (.string p.2.2) := hcell 2 _ rfl
            have hc1 : ¬ ((i : Int) + 1 < 1) := by omega
            have hc2 : ¬ (8 < (i : Int) + 1) := by omega
            have hc3 : ¬ ((tm : Int) = 0) := by omega
            have hc4 : (0 : Int) ≤ (i : Int) + 1 := by omega
            have hc5 : (i : Int) + 1 < 9 := by omega
            have hc6 : ((i : Int) + 1).toNat = i + 1 := by omega
            clear hcell hp2 hcl htm hp
            rcases Nat.lt_trichotomy tm p.1 with hx | hx | hx
            · have h1 := tR_low (xs := xs) hm (by rw [hlast]; exact hx)
              rw [HRes.out] at h1
              obtain ⟨⟨⟨rfl, rfl⟩, rfl⟩, rfl, rfl⟩ : (((er = 13 ∧ vl = ByteArray.empty) ∧ z = false) ∧ T' = T ∧ ys = xs) := by simpa [up, no] using h1
              have hxd : decide ((p.1 : Int) < (tm : Int)) = false := decide_eq_false (by omega)
              have hxn : decide (p.1 < tm) = false := decide_eq_false (by omega)
              have hxn2 : (tm == p.1) = false := beq_eq_false_iff_ne.2 (by omega)
              have hxn3 : decide (tm = p.1) = false := decide_eq_false (by omega)
              have hxe : ((tm : Int) == (p.1 : Int)) = false := beq_eq_false_iff_ne.2 (by omega)
              clear h1 HRes hm hx hlast
              go_wp2_with fail
              all_goals first | (exfalso; have h9 : ((i : Int) + 1 < 1 ∨ 8 < (i : Int) + 1) ∨ ((tm : Int) == 0) = true := by assumption
                                 rcases h9 with (h9 | h9) | h9 <;> first | omega | (rw [beq_iff_eq] at h9; omega)) | skip
              go_quiet (fail)
              go_wp2_with fail
              go_roundw
              case measure => simp [intOf] <;> omega
              case rel => exact ⟨j + 1, _, r4, c4, _, by omega, by go_num, Lib.hid ⟨(K4.out.drewN _).pop, by rw [HTk.out]; exact HP2.out⟩⟩
            · subst hx
              have h1 := tR_at (xs := xs) hm (by rw [hlast])
              rw [HRes.out, hlast] at h1
              obtain ⟨⟨hev, rfl⟩, rfl, rfl⟩ : (((er, vl) = p.2 ∧ z = false) ∧ T' = T ∧ ys = xs) := by simpa using h1
              have he1 : p.2.1 = er := by rw [← hev]
              have he2 : p.2.2 = vl := by rw [← hev]
              rw [he1] at l1
              rw [he2] at l2
              have g32 := Tryd.guard32
              have e32 : ∀ w, (Op.equalIn 10000 32 (.agg #[.int .i64 er, .string vl]) (.agg #[.int .i64 er, .string vl])).run Tryd.prog w = .ok true w := fun w => eq_lrp_of (d := 9998) (er, vl) (er, vl) (by simp) w
              have hx1 : ¬ ((p.1 : Int) < (p.1 : Int)) := by omega
              clear h1 HRes hm hlast hev he1 he2
              go_wp2_with fail
              all_goals first | (exfalso; have h9 : ((i : Int) + 1 < 1 ∨ 8 < (i : Int) + 1) ∨ ((p.1 : Int) == 0) = true := by assumption
                                 rcases h9 with (h9 | h9) | h9 <;> first | omega | (rw [beq_iff_eq] at h9; omega)) | skip
              go_quiet (fail)
              go_wp2_with fail
              go_roundw
              case measure => simp [intOf] <;> omega
              case rel => exact ⟨j + 1, _, r4, c4, _, by omega, by go_num, Lib.hid ⟨(K4.out.drewN _).pop, by rw [HTk.out]; exact HP2.out⟩⟩
            · have h1 := tR_new (xs := xs) hm (by rw [hlast]; exact hx)
              rw [HRes.out] at h1
              obtain ⟨⟨hev, rfl⟩, hTT, rfl⟩ : (((er, vl) = up (doR xs o).1 ∧ z = true) ∧ T' = T.set i (tm, up (doR xs o).1) ∧ ys = (doR xs o).2) := by simpa using h1
              rw [← hev] at hTT
              subst hTT
              obtain ⟨ys, hys⟩ : ∃ ys, ys = (doR xs o).2 := ⟨_, rfl⟩
              rw [← hys] at K4
              obtain ⟨rb, hrb⟩ : ∃ rb, rb = w4.heap.size := ⟨_, rfl⟩
              have hxd : decide ((p.1 : Int) < (tm : Int)) = true := decide_eq_true (by omega)
              have hxn : decide (p.1 < tm) = true := decide_eq_true (by omega)
              have hxn2 : (tm == p.1) = false := beq_eq_false_iff_ne.2 (by omega)
              have hxn3 : decide (tm = p.1) = false := decide_eq_false (by omega)
              have hxe : ((tm : Int) == (p.1 : Int)) = false := beq_eq_false_iff_ne.2 (by omega)
              have hrl : rb ≠ lb := by have := HLb.out; omega
              clear h1 HRes hm hx hlast hev
              have HFct0 : Hid (∀ W, Sn w t g [(rb, #[.int .i64 er, .string vl], 32), (lb, (tbC (zL :: T)).toArray, 60)] W (T.set i (tm, (er, vl))) r4 c4 ys → W.cell? ⟨b', off + j * 40 + 1, none⟩ = some (.int .u64 (tm : Int)) ∧ W.cell? ⟨rb, 0, none⟩ = some (.int .i64 er) ∧ W.cell? ⟨rb, 1, none⟩ = some (.string vl)) := Lib.hid fun W h => ⟨HRg.out W h.bel 1 _ (rq_1 _), block_cell (C := [.int .i64 er, .string vl]) (h.keep _ (List.mem_cons_self ..)).1 0 _ rfl, block_cell (C := [.int .i64 er, .string vl]) (h.keep _ (List.mem_cons_self ..)).1 1 _ rfl⟩
              have HFct : Hid (∀ W, Sn w t g [(lb, (tbC (zL :: T.set i (tm, (er, vl)))).toArray, 60), (rb, #[.int .i64 er, .string vl], 32)] W (T.set i (tm, (er, vl))) r4 c4 ys → W.cell? ⟨b', off + j * 40 + 1, none⟩ = some (.int .u64 (tm : Int)) ∧ W.cell? ⟨rb, 0, none⟩ = some (.int .i64 er) ∧ W.cell? ⟨rb, 1, none⟩ = some (.string vl)) := Lib.hid fun W h => ⟨HRg.out W h.bel 1 _ (rq_1 _), block_cell (C := [.int .i64 er, .string vl]) (h.keep _ (List.mem_cons_of_mem _ (List.mem_cons_self ..))).1 0 _ rfl, block_cell (C := [.int .i64 er, .string vl]) (h.keep _ (List.mem_cons_of_mem _ (List.mem_cons_self ..))).1 1 _ rfl⟩
              have HSt : Hid (∀ W, Sn w t g [(rb, #[.int .i64 er, .string vl], 32), (lb, (tbC (zL :: T)).toArray, 60)] W (T.set i (tm, (er, vl))) r4 c4 ys → Sn w t g [(lb, (tbC (zL :: T.set i (tm, (er, vl)))).toArray, 60), (rb, #[.int .i64 er, .string vl], 32)] (W.setCells lb ((i + 1) * 3) #[.int .u64 (tm : Int), .int .i64 er, .string vl].toList) (T.set i (tm, (er, vl))) r4 c4 ys) := Lib.hid fun W h => by
                have h' := h.perm (bs' := [(lb, (tbC (zL :: T)).toArray, 60), (rb, #[.int .i64 er, .string vl], 32)]) (by simp)
                refine h'.turn (by simp; exact hrl) HLw.out ?_ (gb_setCells _ _ _ _)
                have e := tbC_set (T := zL :: T) (j := i + 1) (by rw [List.length_cons, HTl.out]; omega) tm er vl
                rw [List.set_cons_succ] at e
                rw [← e]
                exact heap_set (heap_set (heap_set (h'.keep _ (List.mem_cons_self ..)).1 _) _) _
              have HFin : Hid (∀ W, Sn w t g [(lb, (tbC (zL :: T.set i (tm, (er, vl)))).toArray, 60), (rb, #[.int .i64 er, .string vl], 32)] W (T.set i (tm, (er, vl))) r4 c4 ys → Sn w t g [(lb, (tbC (zL :: T.set i (tm, (er, vl)))).toArray, 60)] W (T.set i (tm, (er, vl))) r4 c4 ys) := Lib.hid fun W h => h.perm (by simp)
              go_wp2_with fail
              all_goals first | (exfalso; have h9 : ((i : Int) + 1 < 1 ∨ 8 < (i : Int) + 1) ∨ ((tm : Int) == 0) = true := by assumption
                                 rcases h9 with (h9 | h9) | h9 <;> first | omega | (rw [beq_iff_eq] at h9; omega)) | skip
              go_quiet (fail)
              go_wp2_with fail
              rw [← hrb] at K4
              try rw [← hrb]
              clear hrb k0 k1 a0 a1 l0 l1 l2 hys hrl
              refine wp_region_any (by kernel_rfl) ?_
              change wpAny _ _ _ _ _ _ _ (World.drewN _ 1)
              refine held_gen (G := fun W => wpAny _ _ _ _ _ _ _ W) (fun W => Sn w t g [(rb, #[.int .i64 er, .string vl], 32), (lb, (tbC (zL :: T)).toArray, 60)] W (T.set i (tm, (er, vl))) r4 c4 ys) (by first | exact K4.out.drewN 1 | exact (K4.out.drewN _).drewN 1) (fun W9 hW9 => ?_)
              have K9 := Lib.hid hW9
              clear hW9 K4
              refine wpAny_of_held (S := fun W => W.cell? ⟨b', off + j * 40 + 1, none⟩ = some (.int .u64 (tm : Int)) ∧ W.cell? ⟨rb, 0, none⟩ = some (.int .i64 er) ∧ W.cell? ⟨rb, 1, none⟩ = some (.string vl)) _ _ _ _ ?_
              refine wpAnyH_take (i := 0) (oi := { dst := some 99, op := Op.move (Operand.tmp 9), type := _, pos := _, after := _, guard := none }) (v := .int .i64 ((i : Int) + 1)) rfl (by kernel_rfl) (by kernel_rfl) (by kernel_rfl) (fun _ _ _ h => h) (Or.inl ⟨by kernel_rfl, fun W hSW => by go_simp⟩) (HFct0.out _ K9.out) ?_
              try simp only [Act.put, List.setIfInBounds_toArray, List.set_cons_zero, List.set_cons_succ]
              refine wpAnyH_take (i := 1) (oi := { dst := some 100, op := Op.move (Operand.tmp 0), type := _, pos := _, after := _, guard := none }) (v := .slice (some ⟨b', off, none⟩) n c0) rfl (by kernel_rfl) (by kernel_rfl) (by kernel_rfl) (fun _ _ _ h => h) (Or.inl ⟨by kernel_rfl, fun W hSW => by go_simp⟩) (HFct0.out _ K9.out) ?_
              try simp only [Act.put, List.setIfInBounds_toArray, List.set_cons_zero, List.set_cons_succ]
              refine wpAnyH_take (i := 2) (oi := { dst := some 101, op := Op.move (Operand.tmp 6), type := _, pos := _, after := _, guard := none }) (v := .int .i64 (j : Int)) rfl (by kernel_rfl) (by kernel_rfl) (by kernel_rfl) (fun _ _ _ h => h) (Or.inl ⟨by kernel_rfl, fun W hSW => by go_simp⟩) (HFct0.out _ K9.out) ?_
              try simp only [Act.put, List.setIfInBounds_toArray, List.set_cons_zero, List.set_cons_succ]
              refine wpAnyH_take (i := 3) (oi := { dst := some 102, op := Op.indexAddr 23 (Operand.tmp 100) (Operand.tmp 101), type := _, pos := _, after := _, guard := none }) (v := .pointer (some ⟨b', off + j * 40, none⟩)) rfl (by kernel_rfl) (by kernel_rfl) (by kernel_rfl) (fun _ _ _ h => h) (Or.inl ⟨by kernel_rfl, fun W hSW => by go_simp⟩) (HFct0.out _ K9.out) ?_
              try simp only [Act.put, List.setIfInBounds_toArray, List.set_cons_zero, List.set_cons_succ]
              refine wpAnyH_take (i := 4) (oi := { dst := some 103, op := Op.fieldAddr 52 (Operand.tmp 102) 1, type := _, pos := _, after := _, guard := none }) (v := .pointer (some ⟨b', off + j * 40 + 1, none⟩)) rfl (by kernel_rfl) (by kernel_rfl) (by kernel_rfl) (fun _ _ _ h => h) (Or.inl ⟨by kernel_rfl, fun W hSW => by go_simp⟩) (HFct0.out _ K9.out) ?_
              try simp only [Act.put, List.setIfInBounds_toArray, List.set_cons_zero, List.set_cons_succ]
              refine wpAnyH_take (i := 5) (oi := { dst := some 104, op := Op.load 30 (Operand.tmp 103), type := _, pos := _, after := _, guard := none }) (v := .int .u64 (tm : Int)) rfl (by kernel_rfl) (by kernel_rfl) (by kernel_rfl) (fun _ _ _ h => h) (Or.inl ⟨by kernel_rfl, fun W hSW => by have hc := hSW.1; go_simp⟩) (HFct0.out _ K9.out) ?_
              try simp only [Act.put, List.setIfInBounds_toArray, List.set_cons_zero, List.set_cons_succ]
              refine wpAnyH_take (i := 6) (oi := { dst := some 105, op := Op.load 32 (Operand.tmp 7), type := _, pos := _, after := _, guard := none }) (v := .agg #[.int .i64 er, .string vl]) rfl (by kernel_rfl) (by kernel_rfl) (by kernel_rfl) (fun _ _ _ h => h) (Or.inl ⟨by kernel_rfl, fun W hSW => by obtain ⟨_, ha, hb⟩ := hSW; go_simp⟩) (HFct0.out _ K9.out) ?_
              try simp only [Act.put, List.setIfInBounds_toArray, List.set_cons_zero, List.set_cons_succ]
              refine wpAnyH_take (i := 7) (oi := { dst := some 106, op := Op.build 34 #[(0, Operand.tmp 104), (1, Operand.tmp 105)], type := _, pos := _, after := _, guard := none }) (v := .agg #[.int .u64 (tm : Int), .int .i64 er, .string vl]) rfl (by kernel_rfl) (by kernel_rfl) (by kernel_rfl) (fun _ _ _ h => h) (Or.inl ⟨by kernel_rfl, fun W hSW => by go_simp⟩) (HFct0.out _ K9.out) ?_
              try simp only [Act.put, List.setIfInBounds_toArray, List.set_cons_zero, List.set_cons_succ]
              refine wpAnyH_take (i := 8) (oi := { dst := some 107, op := Op.indexAddr 60 (Operand.tmp 5) (Operand.tmp 99), type := _, pos := _, after := _, guard := none }) (v := .pointer (some ⟨lb, (i + 1) * 3, none⟩)) rfl (by kernel_rfl) (by kernel_rfl) (by kernel_rfl) (fun _ _ _ h => h) (Or.inl ⟨by kernel_rfl, fun W hSW => by go_simp⟩) (HFct0.out _ K9.out) ?_
              try simp only [Act.put, List.setIfInBounds_toArray, List.set_cons_zero, List.set_cons_succ]
              refine wpAnyH_ready (rs := [9]) (by kernel_rfl) (by simp) ?_
              refine AllReadyH.cons (o := { dst := none, op := Op.store 34 (Operand.tmp 107) (Operand.tmp 106), type := _, pos := _, after := _, guard := none }) rfl (fun K' hK' => ?_) AllReadyH.nil
              rw [if_pos (by kernel_rfl)]
              refine wp_store_mid 34 (.tmp 107) (.tmp 106) rfl lb ((i + 1) * 3) #[.int .u64 (tm : Int), .int .i64 er, .string vl] rfl rfl (there_block (K9.out.keep _ (List.mem_cons_of_mem _ (List.mem_cons_self ..))).1 ((i + 1) * 3) 3 (by rw [tbC_length, List.length_cons, HTl.out]; omega)) Tryd.is34 (by simp [Value.oneCell']) ?_
              have K10 := Lib.hid (HSt.out _ K9.out)
              clear K9 HSt
              refine hK'.out _ _ (HFct.out _ K10.out) (fun _ => ?_)
              clear hK' K'
              try simp only [Act.put]
              refine wpAnyH_done (by kernel_rfl) ?_ _
              go_wp2_with fail
              go_roundw
              case measure => simp [intOf] <;> omega
              case rel => exact ⟨j + 1, _, r4, c4, _, by omega, by go_num, Lib.hid ⟨HFin.out _ K10.out, by rw [HTk.out]; exact HP2.out⟩⟩
        · obtain rfl : j = n := by omega
          have HPa : Hid (Past T qs) := Lib.hid (by have := HP.out; rwa [List.take_of_length_le (by rw [← HL.out]; exact Nat.le_refl _)] at this)
          have hjn : ¬ ((j : Int) < (j : Int)) := by omega
          clear HP
          go_wp2_with (go_at_call 20; refine (list_any K.out.sys.led (Nat.le_trans K.out.sys.len (by decide))).mono ?_)
          rintro E w5 ⟨r5, c5, rfl, hR5, hg5, hb5⟩
          obtain ⟨ks, hk1, hk2⟩ := rw_kept hR5
          have K5 := Lib.hid (K.out.pop.add hb5 (ks := ks) fun p hp => ⟨(hk1 p hp).1, hg5 _ (hk1 p hp).2⟩)
          have HIt := Lib.hid hk2
          have hle := K.out.sys.len
          obtain ⟨A5, hA5⟩ : ∃ A5, A5 = slA r5 := ⟨_, rfl⟩
          rw [← hA5] at HIt ⊢
          obtain ⟨m, hm⟩ : ∃ m, m = xs.length := ⟨_, rfl⟩
          have HM := Lib.hid hm
          rw [← hm] at hle ⊢
          clear K hR5 hg5 hb5 hk1 hk2 hA5 hm
          go_wp2_with fail
          go_loopw [11] (fun v11 wr => ∃ (k : Nat) (r : Option Nat) (c : Nat), k ≤ j ∧ v11 = .int .i64 (k : Int) ∧ Hid (Sn w t g (ks ++ []) wr T r c xs)) (fun v11 _ => j - (intOf v11).toNat)
          case atStart => exact ⟨0, _, _, by omega, rfl, K5⟩
          case round =>
            clear K5
            obtain ⟨k, r, c, hk, rfl, K⟩ := hrel
            by_cases hkk : k < j
            · obtain ⟨q, hq⟩ : ∃ q, qs[k]? = some q := ⟨_, List.getElem?_eq_getElem (by rw [← HL.out]; exact hkk)⟩
              obtain ⟨b', off, rfl, hr⟩ := HReq.out k q hq
              have HRg := Lib.hid hr
              have HI := Lib.hid (HInfo.out q (List.mem_of_getElem? hq))
              have hdec : decide ((k : Int) < (j : Int)) = true := decide_eq_true (by omega)
              have hj0 : (0 : Int) ≤ (k : Int) := by omega
              have hjn : (k : Int) < (j : Int) := by omega
              have htn : ((k : Int)).toNat = k := by omega
              have hw1 : IntKind.i64.wrap ((k : Int) + 1) = (k : Int) + 1 := by rw [IntKind.wrap_i64]; omega
              obtain ⟨er, vl, z, hres⟩ := tR_rep T xs q
              obtain ⟨h1, h2⟩ := tR_old (T := T) (xs := xs) (q := q) (HPa.out q (List.mem_of_getElem? hq))
              have HD : Hid (∀ W, Sn w t g (ks ++ []) W T r c xs → Calls Tryd.prog 14 #[.pointer (some ⟨t, 0, none⟩), .pointer (some ⟨g, 0, none⟩), .agg (rqC q).toArray] W fun E W' => E = .returned (.tuple #[.agg #[.int .i64 er, .string vl], .bool false]) ∧ ∃ r' c', Sn w t g (ks ++ []) W' T r' c' xs) := Lib.hid fun W h => (h.do q).mono fun E W' hE => by rw [h2, h1, hres] at hE; exact hE
              clear hr hres h1 h2 hq
              go_wp2_with (first | ((with_reducible refine wpList_load_midG ?_ 52 (.tmp 121) ?_ b' (off + k * 40) ?_ (rqC q) _ ?_ Tryd.underlying52 ?_ ?_ ?_); rotate_left; (· rfl); (· rfl); (· exact HRg.out _ K.out.bel); (· rfl); (· exact HI.out); rotate_left; (· rfl)) | (go_at_call 14; refine (HD.out _ K.out).mono ?_))
              rintro E w6 ⟨rfl, r6, c6, h6⟩
              have K6 := Lib.hid ((h6.box #[.int .i64 er, .string vl] 32).pop)
              clear K h6 HD HI
              go_wp2_with fail
              go_roundw
              case measure => simp [intOf] <;> omega
              case rel => exact ⟨k + 1, r6, c6, by omega, by go_num, K6⟩
            · obtain rfl : k = j := by omega
              have hjn2 : ¬ ((k : Int) < (k : Int)) := by omega
              go_wp2_with (go_at_call 20; refine (list_any K.out.sys.led (Nat.le_trans K.out.sys.len (by decide))).mono ?_)
              rintro E w7 ⟨r7, c7, rfl, hR7, hg7, hb7⟩
              have K7 := Lib.hid (K.out.below hb7)
              have HI7 := Lib.hid hR7.its
              have HI5 : Hid (Its w7 A5 xs) := Lib.hid (HIt.out w7 fun p hp => (K7.out.keep p (by simpa using hp)).1)
              clear K hR7 hg7 hb7 HIt
              obtain ⟨A7, hA7⟩ : ∃ A7, A7 = slA r7 := ⟨_, rfl⟩
              rw [← hA7] at HI7 ⊢
              clear hA7
              have HS7 : Hid (Calls Tryd.prog 19 #[.slice A5 m c5, .slice A7 m c7] w7 fun E w' => E = .returned (.bool true) ∧ Below w7.heap.size w7 w') := Lib.hid (by have := HSame.out w7 A5 A7 c5 c7 xs xs HI5.out HI7.out (by rw [← HM.out]; omega) (by rw [← HM.out]; omega); rw [← HM.out, decide_eq_true rfl] at this; exact this)
              rw [← HM.out]
              clear HSame HI5 HI7
              go_wp2_with (first | (go_at_call 19; refine HS7.out.mono ?_; rintro E w8 ⟨rfl, b8⟩; have K8 := Lib.hid (K7.out.below b8); clear b8 K7 HS7) | (go_at_call 9; refine (HW.out _ K8.out.bel).mono ?_; rintro E w9 ⟨rfl, b9⟩; have K9 := Lib.hid (K8.out.below b9); clear b9 K8))
              go_ret
              exact ⟨rfl, K9.out.bel⟩
    · have hl1 : ((n : Int) > 100) := by omega
      have hl2 : (100 < (n : Int)) := by omega
      go_wp2_with (go_at_call 9; refine (HW.out _ B1.out).mono ?_; rintro E w2 ⟨rfl, b2⟩)
      go_ret
      exact ⟨rfl, B1.out.trans (b2.mono B1.out.size)⟩
end Go.Proofs.YtflenghnmflenaaDoor
