/-
  What is proved: SessionBack's walk. Conditions as stated.
-/
import Derived.Test.YtflenghnmflenaaDoorSt
namespace Go.Proofs.YtflenghnmflenaaDoor
open Go.RowKit
set_option maxRecDepth 100000

set_option maxHeartbeats 16000000 in
theorem back_walk {w : World} (hv : Vars w) (A : Option Addr) (c0 : Nat) (qs : List MRq) (hQ : Rqs w A qs) (hn : qs.length ≤ 1099511627776) (cut : Nat) (hcut : cut < 256) :
    Calls Tryd.prog 7 #[.slice A qs.length c0, .int .u8 (cut : Int)] w fun E w' => E = .returned (.bool true) ∧ Below w.heap.size w w' := by
  have HW : Hid (∀ W, Below w.heap.size w W → Calls Tryd.prog 9 #[] W fun E w' => E = .returned (.bool true) ∧ Below W.heap.size W w') := Lib.hid fun W hb => works_any (hv.below hb)
  have HF := Lib.hid (sfew_any A c0 qs w hQ hn)
  have HV := Lib.hid hv
  have HB0 := Lib.hid (Below.refl w.heap.size w)
  have HReq := Lib.hid (rqs_at hQ)
  have HInfo : Hid (∀ q ∈ qs, (Tryd.prog.info? 52).map (·.size) = some (rqC q).length) := Lib.hid fun q hq => rq_info hQ hq
  have HSame : Hid (∀ W A1 A2 c1 c2 (x y : List It), Its W A1 x → Its W A2 y → x.length ≤ 1000 → y.length ≤ 1000 → Calls Tryd.prog 19 #[.slice A1 x.length c1, .slice A2 y.length c2] W fun E w' => E = .returned (.bool (decide (x = y))) ∧ Below W.heap.size W w') := Lib.hid fun W A1 A2 c1 c2 x y h1 h2 h3 h4 => same_any A1 A2 c1 c2 x y W h1 h2 (by omega) (by omega)
  obtain ⟨n, hnn⟩ : ∃ n, n = qs.length := ⟨_, rfl⟩
  have HL := Lib.hid hnn
  rw [← hnn] at HF hn ⊢
  clear hv hQ hnn
  go_enter Tryd.func7, Tryd.ntmps7
  go_wp2_with (go_at_call 8; refine HF.out.mono ?_)
  rintro E w1 ⟨⟨z, rfl, hz150⟩, b1⟩
  have B1 := Lib.hid (HB0.out.trans (b1.mono HB0.out.size))
  clear HB0 b1 HF
  cases z with
  | false =>
    go_wp2_with (go_at_call 9; refine (HW.out _ B1.out).mono ?_; rintro E w2 ⟨rfl, b2⟩)
    go_ret
    exact ⟨rfl, B1.out.trans (b2.mono B1.out.size)⟩
  | true =>
    have h150 := hz150 rfl
    clear hz150
    by_cases hlim : n ≤ 120
    · have hl1 : ¬ ((n : Int) > 120) := by omega
      have hl2 : ¬ (120 < (n : Int)) := by omega
      obtain ⟨m, hm⟩ : ∃ m, m = cut % (n + 1) := ⟨_, rfl⟩
      have hmn : m ≤ n := by have := Nat.mod_lt cut (show 0 < n + 1 by omega); omega
      have hrem : ((cut : Int)).tmod ((n : Int) + 1) = (m : Int) := by rw [Int.tmod_eq_emod_of_nonneg (by omega), hm]; first | exact (Int.natCast_emod cut (n + 1)).symm | exact (Int.ofNat_emod cut (n + 1)).symm | (push_cast; rfl)
      have hwn : IntKind.i64.wrap ((n : Int) + 1) = (n : Int) + 1 := by rw [IntKind.wrap_i64]; omega
      have hwk : IntKind.i64.wrap (cut : Int) = (cut : Int) := by rw [IntKind.wrap_i64]; omega
      have hwm : IntKind.i64.wrap (m : Int) = (m : Int) := by rw [IntKind.wrap_i64]; omega
      have hn1 : ¬ ((n : Int) + 1 = 0) := by omega
      have hn2 : ((n : Int) + 1 == 0) = false := beq_eq_false_iff_ne.2 hn1
      clear hm
      go_wp2_with (first
        | (go_at_call 12; refine (tnew_any _).mono ?_; rintro E w2 ⟨rfl, ht2, hb2⟩)
        | (go_at_call 13; refine (new_any (HV.out.below (B1.out.trans (hb2.mono B1.out.size)))).mono ?_; rintro E w3 ⟨rfl, hs3, hb3⟩
           have K3 := Lib.hid (sn_start HV.out B1.out ht2 (Nat.le_refl _) hb2 hs3 (Nat.le_refl _) hb3)
           clear ht2 hb2 hs3 hb3 B1))
      generalize w1.heap.size = t at *
      generalize w2.heap.size = g at *
      go_loopw [8] (fun v8 wr => ∃ (j : Nat) (T : List Lst) (r : Option Nat) (c : Nat) (xs : List It), j ≤ m ∧ v8 = .int .i64 (j : Int) ∧ Hid (Sn w t g [] wr T r c xs ∧ Late T ∧ Keys xs)) (fun v8 _ => m - (intOf v8).toNat)
      case atStart => exact ⟨0, zT, none, 0, [], by omega, rfl, Lib.hid ⟨K3.out, late_zT, by intro p hp; cases hp⟩⟩
      case round =>
        clear K3
        obtain ⟨j, T, r, c, xs, hj, rfl, KK⟩ := hrel
        have K := Lib.hid KK.out.1
        have HLa := Lib.hid KK.out.2.1
        have HKy := Lib.hid KK.out.2.2
        clear KK
        by_cases hjj : j < m
        · obtain ⟨q, hq⟩ : ∃ q, qs[j]? = some q := ⟨_, List.getElem?_eq_getElem (by rw [← HL.out]; omega)⟩
          obtain ⟨b', off, rfl, hr⟩ := HReq.out j q hq
          have HRg := Lib.hid hr
          have HI := Lib.hid (HInfo.out q (List.mem_of_getElem? hq))
          have hjn3 : (j : Int) < (n : Int) := by omega
          have hdec : decide ((j : Int) < (m : Int)) = true := decide_eq_true (by omega)
          have hj0 : (0 : Int) ≤ (j : Int) := by omega
          have hjn : (j : Int) < (m : Int) := by omega
          have htn : ((j : Int)).toNat = j := by omega
          have hw1 : IntKind.i64.wrap ((j : Int) + 1) = (j : Int) + 1 := by rw [IntKind.wrap_i64]; omega
          have HLa2 := Lib.hid (HLa.out.next xs q)
          have HKy2 : Hid (Keys (tR T xs q).2.2) := Lib.hid (by rcases tR_xs T xs q with e | e <;> rw [e]; exact HKy.out; exact HKy.out.do q.op)
          have HD := Lib.hid (K.out.do q)
          clear hr hq
          go_wp2_with (first | ((with_reducible refine wpList_load_midG ?_ 52 (.tmp 47) ?_ b' (off + j * 40) ?_ (rqC q) _ ?_ Tryd.underlying52 ?_ ?_ ?_); rotate_left; (· rfl); (· rfl); (· exact HRg.out _ K.out.bel); (· rfl); (· exact HI.out); rotate_left; (· rfl)) | (go_at_call 14; refine HD.out.mono ?_))
          rintro E w4 ⟨rfl, r4, c4, h4⟩
          have K4 := Lib.hid h4
          clear K h4 HD HI
          go_wp2_with fail
          go_roundw
          case measure => simp [intOf] <;> omega
          case rel => exact ⟨j + 1, _, r4, c4, _, by omega, by go_num, Lib.hid ⟨K4.out, HLa2.out, HKy2.out⟩⟩
        · obtain rfl : j = m := by omega
          have hjn : ¬ ((j : Int) < (j : Int)) := by omega
          have HT8 := Lib.hid K.out.tbl.len
          go_wp2_with (go_at_call 17; refine (tlist_any K.out.tbl).mono ?_)
          rintro E w5 ⟨b5, c5, rfl, hL5, hg5, hb5⟩
          have K5 := Lib.hid (K.out.below hb5)
          have HTof : Hid (Calls Tryd.prog 10 #[.slice (some ⟨b5, 0, none⟩) T.length c5] w5 fun E w' => ∃ t2, E = .returned (.tuple #[.pointer (some ⟨t2, 0, none⟩), .int .i64 0]) ∧ Tbl w' t2 T ∧ w5.heap.size ≤ t2 ∧ Below w5.heap.size w5 w') := Lib.hid ((tof_any hL5 (by rw [HT8.out]; omega)).mono fun E w' ⟨h1, h2⟩ => by rw [if_pos ⟨HT8.out, HLa.out⟩] at h2; obtain ⟨t2, e1, e2, e3⟩ := h2; exact ⟨t2, e1, e2, e3, h1⟩)
          have HHL := Lib.hid hb5
          clear hL5 hg5 hb5 K
          go_wp2_with (go_at_call 10; refine HTof.out.mono ?_)
          rintro E w6 ⟨t2, rfl, ht2, hg2, hb6⟩
          have K6 := Lib.hid (K5.out.below hb6)
          have HT2 := Lib.hid (And.intro ht2 (And.intro hg2 hb6))
          clear ht2 hg2 hb6 HTof
          go_wp2_with (go_at_call 20; refine (list_any K6.out.sys.led (Nat.le_trans K6.out.sys.len (by decide))).mono ?_)
          rintro E w7 ⟨r7, c7, rfl, hR7, hg7, hb7⟩
          have HOf : Hid (Calls Tryd.prog 21 #[.slice (slA r7) xs.length c7] w7 fun E w' => ∃ g2 r8 c8, E = .returned (.tuple #[.pointer (some ⟨g2, 0, none⟩), .int .i64 0]) ∧ Sys w' g2 r8 c8 xs ∧ (∀ k, On g2 r8 k → w7.heap.size ≤ k) ∧ Below w7.heap.size w7 w') := Lib.hid ((of_any (K6.out.sys.vars.below hb7) hR7 (Nat.le_trans K6.out.sys.len (by decide))).mono fun E w' ⟨h1, h2⟩ => by rw [if_pos (mayI_own K6.out.sys.rise HKy.out K6.out.sys.small), if_pos K6.out.sys.len] at h2; obtain ⟨g2, r8, c8, e1, e2, e3⟩ := h2; exact ⟨g2, r8, c8, e1, e2, e3, h1⟩)
          have H7 := Lib.hid hb7
          clear hR7 hg7 hb7
          go_wp2_with (go_at_call 21; refine HOf.out.mono ?_)
          rintro E w8 ⟨g2, r8, c8, rfl, hs8, hg8, hb8⟩
          have S8 := Lib.hid (sp2_of K5.out HT2.out.2.2 HT2.out.1 HT2.out.2.1 hs8 (fun k hk => Nat.le_trans H7.out.size (hg8 k hk)) (H7.out.trans (hb8.mono H7.out.size)))
          clear hs8 hg8 hb8 HOf H7 HT2 K6 K5 HHL HT8
          go_wp2_with fail
          go_loopw [13] (fun v13 wr => ∃ (k : Nat) (T : List Lst) (r : Option Nat) (c : Nat) (xs : List It) (r2 : Option Nat) (c2 : Nat), k ≤ n ∧ v13 = .int .i64 (k : Int) ∧ Hid (Sp2 w t g t2 g2 [] wr T r c xs T r2 c2 xs)) (fun v13 _ => n - (intOf v13).toNat)
          case atStart => exact ⟨j, _, _, _, _, _, _, by omega, rfl, S8⟩
          case round =>
            clear S8
            obtain ⟨k, T, r, c, xs, r2, c2, hk, rfl, D⟩ := hrel
            by_cases hkk : k < n
            · obtain ⟨q, hq⟩ : ∃ q, qs[k]? = some q := ⟨_, List.getElem?_eq_getElem (by rw [← HL.out]; exact hkk)⟩
              obtain ⟨b', off, rfl, hr⟩ := HReq.out k q hq
              have HRg := Lib.hid hr
              have HI := Lib.hid (HInfo.out q (List.mem_of_getElem? hq))
              have hdec : decide ((k : Int) < (n : Int)) = true := decide_eq_true (by omega)
              have hj0 : (0 : Int) ≤ (k : Int) := by omega
              have hjn : (k : Int) < (n : Int) := by omega
              have htn : ((k : Int)).toNat = k := by omega
              have hw1 : IntKind.i64.wrap ((k : Int) + 1) = (k : Int) + 1 := by rw [IntKind.wrap_i64]; omega
              obtain ⟨er, vl, z, hres⟩ := tR_rep T xs q
              obtain ⟨T', hT'⟩ : ∃ T', T' = (tR T xs q).2.1 := ⟨_, rfl⟩
              obtain ⟨ys, hys⟩ : ∃ ys, ys = (tR T xs q).2.2 := ⟨_, rfl⟩
              have HRes : Hid (tR T xs q = (((er, vl), z), T', ys)) := Lib.hid (by rw [← hres, hT', hys])
              have HD1 : Hid (∀ W r c r2 c2, Sp2 w t g t2 g2 [] W T r c xs T r2 c2 xs → Calls Tryd.prog 14 #[.pointer (some ⟨t, 0, none⟩), .pointer (some ⟨g, 0, none⟩), .agg (rqC q).toArray] W fun E W' => E = .returned (.tuple #[.agg #[.int .i64 er, .string vl], .bool z]) ∧ ∃ r' c', Sp2 w t g t2 g2 [] W' T' r' c' ys T r2 c2 xs) := Lib.hid fun W r c r2 c2 h => (h.do1 q).mono fun E W' hE => by rw [HRes.out] at hE; exact hE
              have HD2 : Hid (∀ W rb r c r2 c2, Sp2 w t g t2 g2 [(rb, #[.int .i64 er, .string vl], 32)] W T' r c ys T r2 c2 xs → Calls Tryd.prog 14 #[.pointer (some ⟨t2, 0, none⟩), .pointer (some ⟨g2, 0, none⟩), .agg (rqC q).toArray] W fun E W' => E = .returned (.tuple #[.agg #[.int .i64 er, .string vl], .bool z]) ∧ ∃ r' c', Sp2 w t g t2 g2 [(rb, #[.int .i64 er, .string vl], 32)] W' T' r c ys T' r' c' ys) := Lib.hid fun W rb r c r2 c2 h => (h.do2 q).mono fun E W' hE => by rw [HRes.out] at hE; exact hE
              clear hr hres hT' hys hq HRes
              have g32 := Tryd.guard32
              have e32 : ∀ w, (Op.equalIn 10000 32 (.agg #[.int .i64 er, .string vl]) (.agg #[.int .i64 er, .string vl])).run Tryd.prog w = .ok true w := fun w => eq_lrp_of (d := 9998) (er, vl) (er, vl) (by simp) w
              go_wp2_with (first | ((with_reducible refine wpList_load_midG ?_ 52 (.tmp 80) ?_ b' (off + k * 40) ?_ (rqC q) _ ?_ Tryd.underlying52 ?_ ?_ ?_); rotate_left; (· rfl); (· rfl); (· exact HRg.out _ D.out.s1.bel); (· rfl); (· exact HI.out); rotate_left; (· rfl)) | (go_at_call 14; refine (HD1.out _ _ _ _ _ D.out).mono ?_))
              rintro E w9 ⟨rfl, r9, c9, h9⟩
              have D9 := Lib.hid (h9.box #[.int .i64 er, .string vl] 32)
              clear D h9 HD1
              go_wp2_with (first | ((with_reducible refine wpList_load_midG ?_ 52 (.tmp 90) ?_ b' (off + k * 40) ?_ (rqC q) _ ?_ Tryd.underlying52 ?_ ?_ ?_); rotate_left; (· rfl); (· rfl); (· exact HRg.out _ D9.out.s1.bel); (· rfl); (· exact HI.out); rotate_left; (· rfl)) | (go_at_call 14; refine (HD2.out _ _ _ _ _ _ D9.out).mono ?_))
              rintro E w10 ⟨rfl, r10, c10, h10⟩
              have D10 := Lib.hid (h10.box #[.int .i64 er, .string vl] 32)
              clear D9 h10 HD2 HI
              have a0 : (w10.alloc (.cells #[.int .i64 er, .string vl] 32)).cell? ⟨w9.heap.size, 0, none⟩ = some (.int .i64 er) := block_cell (C := [.int .i64 er, .string vl]) (D10.out.s1.keep _ (List.mem_cons_of_mem _ (List.mem_cons_self ..))).1 0 _ rfl
              have a1 : (w10.alloc (.cells #[.int .i64 er, .string vl] 32)).cell? ⟨w9.heap.size, 1, none⟩ = some (.string vl) := block_cell (C := [.int .i64 er, .string vl]) (D10.out.s1.keep _ (List.mem_cons_of_mem _ (List.mem_cons_self ..))).1 1 _ rfl
              cases z
              · go_wp2_with fail
                go_roundw
                case measure => simp [intOf] <;> omega
                case rel => exact ⟨k + 1, _, r9, c9, _, r10, c10, by omega, by go_num, Lib.hid D10.out.pop.pop⟩
              · go_wp2_with fail
                go_roundw
                case measure => simp [intOf] <;> omega
                case rel => exact ⟨k + 1, _, r9, c9, _, r10, c10, by omega, by go_num, Lib.hid D10.out.pop.pop⟩
            · obtain rfl : k = n := by omega
              have hkn : ¬ ((k : Int) < (k : Int)) := by omega
              have HT8 := Lib.hid D.out.s1.tbl.len
              go_wp2_with (go_at_call 17; refine (tlist_any D.out.s1.tbl).mono ?_)
              rintro E w11 ⟨b11, c11, rfl, hL11, hg11, hb11⟩
              have D11 := Lib.hid (D.out.below hb11)
              have HP11 := Lib.hid hL11
              clear D hL11 hg11 hb11
              go_wp2_with (go_at_call 17; refine (tlist_any D11.out.s2.tbl).mono ?_)
              rintro E w12 ⟨b12, c12, rfl, hL12, hg12, hb12⟩
              have D12 := Lib.hid (And.intro (D11.out.below hb12) (And.intro (HP11.out.below hb12) hL12))
              clear D11 HP11 hL12 hg12 hb12
              obtain ⟨m8, hm8⟩ : ∃ m8, m8 = T.length := ⟨_, rfl⟩
              have HM := Lib.hid hm8
              have hm9 : m8 = 8 := by rw [hm8, HT8.out]
              rw [← hm8]
              clear hm8
              go_wp2_with fail
              go_loopw [20] (fun v20 wr => ∃ (i : Nat), i ≤ m8 ∧ v20 = .int .i64 (i : Int) ∧ Hid (Sp2 w t g t2 g2 [] wr T r c xs T r2 c2 xs ∧ Lss wr (some ⟨b11, 0, none⟩) T ∧ Lss wr (some ⟨b12, 0, none⟩) T)) (fun v20 _ => m8 - (intOf v20).toNat)
              case atStart => exact ⟨0, by omega, rfl, D12⟩
              case round =>
                clear D12
                obtain ⟨i, hi, rfl, DD⟩ := hrel
                by_cases hii : i < m8
                · obtain ⟨p, hp⟩ : ∃ p, T[i]? = some p := ⟨_, List.getElem?_eq_getElem (by rw [← HM.out]; exact hii)⟩
                  have hdec : decide ((i : Int) < (m8 : Int)) = true := decide_eq_true (by omega)
                  have hj0 : (0 : Int) ≤ (i : Int) := by omega
                  have hjn : (i : Int) < (m8 : Int) := by omega
                  have htn : ((i : Int)).toNat = i := by omega
                  have hw1 : IntKind.i64.wrap ((i : Int) + 1) = (i : Int) + 1 := by rw [IntKind.wrap_i64]; omega
                  obtain ⟨bbm, oom, hem, _, hrm⟩ := DD.out.2.1 (by rw [HT8.out]; omega)
                  injection hem with hem
                  injection hem with e1 e2
                  subst e1 e2
                  have m0 : wr.cell? ⟨b11, i * 3, none⟩ = some (.int .u64 (p.1 : Int)) := by have := hrm i p hp 0 _ rfl; rwa [Nat.zero_add] at this
                  have m1 : wr.cell? ⟨b11, i * 3 + 1, none⟩ = some (.int .i64 p.2.1) := by have := hrm i p hp 1 _ rfl; rwa [Nat.zero_add] at this
                  have m2 : wr.cell? ⟨b11, i * 3 + 2, none⟩ = some (.string p.2.2) := by have := hrm i p hp 2 _ rfl; rwa [Nat.zero_add] at this
                  obtain ⟨bbn, oon, hen, _, hrn⟩ := DD.out.2.2 (by rw [HT8.out]; omega)
                  injection hen with hen
                  injection hen with e1 e2
                  subst e1 e2
                  have n0 : wr.cell? ⟨b12, i * 3, none⟩ = some (.int .u64 (p.1 : Int)) := by have := hrn i p hp 0 _ rfl; rwa [Nat.zero_add] at this
                  have n1 : wr.cell? ⟨b12, i * 3 + 1, none⟩ = some (.int .i64 p.2.1) := by have := hrn i p hp 1 _ rfl; rwa [Nat.zero_add] at this
                  have n2 : wr.cell? ⟨b12, i * 3 + 2, none⟩ = some (.string p.2.2) := by have := hrn i p hp 2 _ rfl; rwa [Nat.zero_add] at this
                  clear hrm hrn hp
                  have g34 := Tryd.guard34
                  have e34 : ∀ w, (Op.equalIn 10000 34 (.agg #[.int .u64 (p.1 : Int), .int .i64 p.2.1, .string p.2.2]) (.agg #[.int .u64 (p.1 : Int), .int .i64 p.2.1, .string p.2.2])).run Tryd.prog w = .ok true w := fun w => eq_lst_of (d := 9997) p p (by simp) w
                  go_wp2_with fail
                  go_quiet (fail)
                  go_wp2_with fail
                  go_roundw
                  case measure => simp [intOf] <;> omega
                  case rel => exact ⟨i + 1, by omega, by go_num, Lib.hid ⟨DD.out.1.drewN _, DD.out.2.1.below (below_drewN (Below.refl _ _) _), DD.out.2.2.below (below_drewN (Below.refl _ _) _)⟩⟩
                · obtain rfl : i = m8 := by omega
                  have hin : ¬ ((i : Int) < (i : Int)) := by omega
                  have D := Lib.hid DD.out.1
                  clear DD
                  go_wp2_with (go_at_call 20; refine (list_any D.out.s1.sys.led (Nat.le_trans D.out.s1.sys.len (by decide))).mono ?_)
                  rintro E w13 ⟨r13, c13, rfl, hR13, hg13, hb13⟩
                  have D13 := Lib.hid (D.out.below hb13)
                  have HI13 := Lib.hid hR13.its
                  have hle := D.out.s1.sys.len
                  clear D hR13 hg13 hb13
                  go_wp2_with (go_at_call 20; refine (list_any D13.out.s2.sys.led (Nat.le_trans D13.out.s2.sys.len (by decide))).mono ?_)
                  rintro E w14 ⟨r14, c14, rfl, hR14, hg14, hb14⟩
                  have D14 := Lib.hid (D13.out.below hb14)
                  have HS14 : Hid (Calls Tryd.prog 19 #[.slice (slA r13) xs.length c13, .slice (slA r14) xs.length c14] w14 fun E w' => E = .returned (.bool true) ∧ Below w14.heap.size w14 w') := Lib.hid (by have := HSame.out w14 _ _ c13 c14 xs xs (HI13.out.below hb14) hR14.its (by omega) (by omega); rw [decide_eq_true rfl] at this; exact this)
                  clear D13 HI13 hR14 hg14 hb14 HSame
                  go_wp2_with (first | (go_at_call 19; refine HS14.out.mono ?_; rintro E w15 ⟨rfl, b15⟩; have D15 := Lib.hid (D14.out.below b15); clear b15 D14 HS14) | (go_at_call 9; refine (HW.out _ D15.out.s1.bel).mono ?_; rintro E w16 ⟨rfl, b16⟩; have D16 := Lib.hid (D15.out.below b16); clear b16 D15))
                  go_ret
                  exact ⟨rfl, D16.out.s1.bel⟩
    · have hl1 : ((n : Int) > 120) := by omega
      have hl2 : (120 < (n : Int)) := by omega
      go_wp2_with (go_at_call 9; refine (HW.out _ B1.out).mono ?_; rintro E w2 ⟨rfl, b2⟩)
      go_ret
      exact ⟨rfl, B1.out.trans (b2.mono B1.out.size)⟩
end Go.Proofs.YtflenghnmflenaaDoor
