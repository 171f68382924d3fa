/-
  What is proved: LedgerSums' walk. Conditions as stated.
-/
import Derived.Test.YtejckimplihmiaaDoorMn
namespace Go.Proofs.YtejckimplihmiaaDoor
open Go.RowKit
set_option maxRecDepth 100000

set_option maxHeartbeats 16000000 in
theorem sums_walk {w : World} (hv : Vars w) (A : Option Addr) (c0 : Nat) (os : List MOp) (hA : Ops w A os) :
    Calls Tryd.prog 4 #[.slice A os.length c0] w fun E w' => E = .returned (.bool true) ∧ Below w.heap.size w w' := by
  have HW : Hid (∀ W, Below w.heap.size w W → Calls Tryd.prog 9 #[] W fun E w' => E = .returned (.bool true) ∧ Below W.heap.size W w') := Lib.hid fun W hb => works_any (hv.below hb)
  have HF := Lib.hid (few_big A c0 os w hA)
  have HB0 := Lib.hid (Below.refl w.heap.size w)
  have HNew : Hid (∀ W, Below w.heap.size w W → Calls Tryd.prog 12 #[] W fun E w' => E = .returned (.pointer (some ⟨W.heap.size, 0, none⟩)) ∧ Sys w' W.heap.size none 0 [] ∧ Below W.heap.size W w') := Lib.hid fun W hb => new_any (hv.below hb)
  have HOps : Hid (∀ j p, os[j]? = some p → ∃ b off, A = some ⟨b, off, none⟩ ∧ ∀ W, Below w.heap.size w W → W.rangeAt b (off + j * 6) (opC p)) := Lib.hid fun j p hp => by
    obtain ⟨b, off, h1, hl, hc⟩ := hA (by have := (List.getElem?_eq_some_iff.1 hp).1; omega)
    exact ⟨b, off, h1, fun W hb k v hv => (hb.cell (p := ⟨b, off + j * 6 + k, none⟩) hl).trans (hc j p hp k v hv)⟩
  have HI : Hid (∀ p : MOp, (Tryd.prog.info? 41).map (·.size) = some (opC p).length) := Lib.hid fun _ => Tryd.is41
  have HSame : Hid (∀ W A1 A2 c1 c2 (x y : List It), Its W A1 x → Its W A2 y → x.length ≤ 1000 → y.length ≤ 1000 → Calls Tryd.prog 17 #[.slice A1 x.length c1, .slice A2 y.length c2] W fun E w' => E = .returned (.bool (decide (x = y))) ∧ Below W.heap.size W w') := Lib.hid fun W A1 A2 c1 c2 x y h1 h2 h3 h4 => same_any A1 A2 c1 c2 x y W h1 h2 (by omega) (by omega)
  obtain ⟨n, hnn⟩ : ∃ n, n = os.length := ⟨_, rfl⟩
  have HL := Lib.hid hnn
  rw [← hnn] at HF ⊢
  clear hv hA hnn
  go_enter Tryd.func4, Tryd.ntmps4
  go_wp2_with (go_at_call 8; refine HF.out.mono ?_)
  rintro E w1 ⟨⟨z, rfl, hz150⟩, b1⟩
  have B1 := Lib.hid (HB0.out.trans (b1.mono HB0.out.size))
  clear HB0 b1 HF
  cases z with
  | false =>
    clear HNew HOps HSame hz150
    go_wp2_with (go_at_call 9; refine (HW.out _ B1.out).mono ?_; rintro E w2 ⟨rfl, b2⟩)
    go_ret
    exact ⟨rfl, B1.out.trans (b2.mono B1.out.size)⟩
  | true =>
    have h150 := hz150 rfl
    clear hz150
    go_wp2_with (go_at_call 12; refine (HNew.out _ B1.out).mono ?_)
    rintro E w3 ⟨rfl, hs3, b3⟩
    have K3 := Lib.hid (ke_start B1.out hs3 (Nat.le_refl _) b3)
    obtain ⟨g, hg⟩ : ∃ g, g = w1.heap.size := ⟨_, rfl⟩
    rw [← hg] at K3 ⊢
    clear hg hs3 b3 B1 HNew
    go_wp2_with fail
    go_loopw [4] (fun v4 wr => ∃ (j : Nat) (r : Option Nat) (c : Nat) (xs : List It), j ≤ n ∧ v4 = .int .i64 (j : Int) ∧ Hid (Ke w g [] [] wr r c xs ∧ Keys xs)) (fun v4 _ => n - (intOf v4).toNat)
    case atStart => exact ⟨0, none, 0, [], by omega, rfl, Lib.hid ⟨K3.out, by intro p hp; cases hp⟩⟩
    case round =>
      clear K3
      obtain ⟨j, r, c, xs, hj, rfl, KK⟩ := hrel
      have K := Lib.hid KK.out.1
      have HKeys := Lib.hid KK.out.2
      have hlen : xs.length ≤ 64 := K.out.sys.len
      clear KK
      by_cases hjj : j < n
      · obtain ⟨p, hp⟩ : ∃ p, os[j]? = some p := ⟨_, List.getElem?_eq_getElem (by rw [← HL.out]; exact hjj)⟩
        obtain ⟨b', off, rfl, hr⟩ := HOps.out j p hp
        have HRg := Lib.hid hr
        have HP := Lib.hid (HI.out p)
        clear hr hp
        go_wp2_with (go_at_call 18; refine (list_any K.out.sys.led (by omega)).mono ?_)
        rintro E w4 ⟨r1, c1, rfl, hR1, hg1, b4⟩
        have K4 := Lib.hid (K.out.push hR1 hg1 b4)
        have HR := Lib.hid (HRg.out w4 K4.out.bel)
        have HD := Lib.hid (K4.out.do p)
        have HSum := Lib.hid (fun (hk : p.kind = 5) => do_sum (xs := xs) K.out.sys.rise hk)
        have HSm := Lib.hid K.out.sys.small
        clear K hR1 hg1 b4
        go_wp2_with (first | ((with_reducible refine wpList_load_midG ?_ 41 (.tmp 28) ?_ b' (off + j * 6) ?_ (opC p) _ ?_ Tryd.underlying41 ?_ ?_ ?_); rotate_left; (· rfl); (· rfl); (· exact HR.out); (· rfl); (· exact HP.out); rotate_left; (· rfl)) | (go_at_call 15; refine HD.out.mono ?_))
        rintro E w6 ⟨rfl, r6, c6, h6⟩
        obtain ⟨q, hq⟩ : ∃ q, q = (doR xs p).1 := ⟨_, rfl⟩
        obtain ⟨ys, hys⟩ : ∃ ys, ys = (doR xs p).2 := ⟨_, rfl⟩
        have HErr : Hid (q.1 ≠ 0 → ys = xs) := Lib.hid fun h => by rw [hys]; exact do_err (by rw [← hq]; exact h)
        have HKy : Hid (Keys ys) := Lib.hid (by rw [hys]; exact HKeys.out.do p)
        rw [← hys] at h6 HSum
        rw [← hq, show (repC q).toArray = #[.int .i64 (q.1 : Int), .string q.2] from rfl]
        have K6 := Lib.hid (h6.box (.cells #[.int .i64 (q.1 : Int), .string q.2] 43))
        have hly : ys.length ≤ 64 := h6.sys.len
        have HRy := Lib.hid h6.sys.rise
        have HSy := Lib.hid h6.sys.small
        clear h6 hq hys HD HR
        go_wp2_with (go_at_call 18; refine (list_any K6.out.sys.led (by omega)).mono ?_)
        rintro E w7 ⟨r7, c7, rfl, hR7, hg7, b7⟩
        have K7 := Lib.hid (K6.out.push hR7 hg7 b7)
        obtain ⟨B, hB⟩ : ∃ B, B = w6.heap.size := ⟨_, rfl⟩
        rw [← hB] at K7 ⊢
        clear K6 hR7 hg7 b7 hB HKeys
        obtain ⟨A1, hA1⟩ : ∃ A, A = slA r1 := ⟨_, rfl⟩
        obtain ⟨A7, hA7⟩ : ∃ A, A = slA r7 := ⟨_, rfl⟩
        have HI1 : Hid (∀ W, Below w7.heap.size w7 W → Its W A1 xs) := Lib.hid fun W hb => by rw [hA1]; exact ((K7.out.row (r1, c1, xs) (by simp)).1.its).below hb
        have HI7 : Hid (∀ W, Below w7.heap.size w7 W → Its W A7 ys) := Lib.hid fun W hb => by rw [hA7]; exact ((K7.out.row (r7, c7, ys) (by simp)).1.its).below hb
        have HBel7 := Lib.hid K7.out.bel
        have HKz : Hid (∀ W, Below w7.heap.size w7 W → Ke w g [] [] W r6 c6 ys) := Lib.hid fun W hb => (K7.out.below hb).drop
        have d0 : w7.cell? ⟨B, 0, none⟩ = some (.int .i64 (q.1 : Int)) := block_cell (C := [.int .i64 (q.1 : Int), .string q.2]) (K7.out.keep (B, Obj.cells #[.int .i64 (q.1 : Int), .string q.2] 43 (0, 0)) (by simp)).1 0 _ rfl
        rw [← hA1, ← hA7]
        clear hA1 hA7 K7 K4
        have HB7 := Lib.hid (Below.refl w7.heap.size w7)
        have HKind : Hid (∀ W, Below w7.heap.size w7 W → W.cell? ⟨b', off + j * 6, none⟩ = some (.int .u8 (p.kind.toNat : Int))) := Lib.hid fun W hb => HRg.out W (HBel7.out.trans (hb.mono HBel7.out.size)) 0 _ rfl
        have HSa : Hid (∀ W, Below w7.heap.size w7 W → xs = ys → Calls Tryd.prog 17 #[.slice A1 xs.length c1, .slice A7 ys.length c7] W fun E w' => E = .returned (.bool true) ∧ Below W.heap.size W w') := Lib.hid fun W hb e => (HSame.out W A1 A7 c1 c7 xs ys (HI1.out W hb) (HI7.out W hb) (by omega) (by omega)).mono fun E w' h => ⟨by rw [h.1, decide_eq_true e], h.2⟩
        have HS1 : Hid (∀ W, Below w7.heap.size w7 W → Calls Tryd.prog 19 #[.slice A1 xs.length c1] W fun E w' => E = .returned (.int .u64 (sumN xs : Int)) ∧ Below W.heap.size W w') := Lib.hid fun W hb => sum_any A1 c1 xs W (HI1.out W hb) (by omega) (fun p hp => Nat.le_trans (HSm.out p hp) (by omega))
        have HS7 : Hid (∀ W, Below w7.heap.size w7 W → Calls Tryd.prog 19 #[.slice A7 ys.length c7] W fun E w' => E = .returned (.int .u64 (sumN ys : Int)) ∧ Below W.heap.size W w') := Lib.hid fun W hb => sum_any A7 c7 ys W (HI7.out W hb) (by omega) (fun p hp => Nat.le_trans (HSy.out p hp) (by omega))
        obtain ⟨m, hm⟩ : ∃ m, m = ys.length := ⟨_, rfl⟩
        have HM := Lib.hid hm
        rw [← hm] at hly HSa HS7 ⊢
        have hm64a : ¬ ((m : Int) > 64) := by omega
        have hm64b : ¬ (64 < (m : Int)) := by omega
        have hm64c : (m : Int) ≤ 64 := by omega
        clear hm
        by_cases hq0 : q.1 = 0
        · rw [hq0] at d0
          have d0' : w7.cell? ⟨B, 0, none⟩ = some (.int .i64 0) := d0
          clear d0
          by_cases hk5 : p.kind = 5
          · have k0 : w7.cell? ⟨b', off + j * 6, none⟩ = some (.int .u8 5) := by
              have := HKind.out _ HB7.out
              rw [hk5] at this
              exact this
            have hsum := HSum.out hk5
            go_wp2_with (go_at_call 19; refine (HS1.out _ HB7.out).mono ?_)
            rintro E w9 ⟨rfl, b9⟩
            have B9 := Lib.hid (HB7.out.trans (b9.mono HB7.out.size))
            go_wp2_with (go_at_call 19; refine (HS7.out _ B9.out).mono ?_)
            rintro E w10 ⟨rfl, b10⟩
            rw [hsum]
            have BZ := Lib.hid (B9.out.trans (b10.mono B9.out.size))
            clear b9 b10 B9 k0 hsum
            go_wp2_with fail
            go_loopw [8] (fun v8 wr => ∃ k : Nat, (k = 0 ∨ k < m) ∧ v8 = .int .i64 ((k + 1 : Nat) : Int) ∧ Hid (Below w7.heap.size w7 wr)) (fun v8 _ => m + 2 - (intOf v8).toNat)
            case atStart => exact ⟨0, .inl rfl, rfl, BZ⟩
            case round =>
              clear BZ
              obtain ⟨k, hk, rfl, HB⟩ := hrel
              by_cases hkm : k + 1 < m
              · obtain ⟨bb, o, rfl, hbl, hc⟩ := HI7.out wr HB.out (by rw [← HM.out]; omega)
                obtain ⟨p1, hp1⟩ : ∃ p1, ys[k]? = some p1 := ⟨_, List.getElem?_eq_getElem (by rw [← HM.out]; omega)⟩
                obtain ⟨p2, hp2⟩ : ∃ p2, ys[k + 1]? = some p2 := ⟨_, List.getElem?_eq_getElem (by rw [← HM.out]; omega)⟩
                have hlt := rise_lt HRy.out (Nat.lt_succ_self k) hp1 hp2
                have k1 : wr.cell? ⟨bb, o + k * 2, none⟩ = some (.string p1.1) := (hc k p1 hp1).1
                have k2 : wr.cell? ⟨bb, o + (k + 1) * 2, none⟩ = some (.string p2.1) := (hc (k + 1) p2 hp2).1
                have l1 : Op.bytesLess p1.1.toList p2.1.toList = true := hlt
                have l2 : Op.bytesLess p2.1.toList p1.1.toList = false := klt_asymm (a := p1.1) (b := p2.1) hlt
                have l3 : (p1.1.toList == p2.1.toList) = false := by
                  cases e : p1.1.toList == p2.1.toList with
                  | false => rfl
                  | true =>
                    have e2 : p1.1 = p2.1 := toList_inj (by simpa using e)
                    rw [e2, klt_irrefl] at hlt; cases hlt
                have l4 : (p2.1.toList == p1.1.toList) = false := by
                  cases e : p2.1.toList == p1.1.toList with
                  | false => rfl
                  | true =>
                    have e2 : p2.1 = p1.1 := toList_inj (by simpa using e)
                    rw [e2, klt_irrefl] at hlt; cases hlt
                have hw1 : IntKind.i64.wrap (((k + 1 : Nat) : Int) - 1) = (k : Int) := by rw [IntKind.wrap_i64]; omega
                have hw2 : IntKind.i64.wrap (((k + 1 : Nat) : Int) + 1) = ((k + 1 + 1 : Nat) : Int) := by rw [IntKind.wrap_i64]; omega
                have hj0 : (0 : Int) ≤ (k : Int) := by omega
                have hjn : (k : Int) < (m : Int) := by omega
                have htn : ((k : Int)).toNat = k := by omega
                have hj0' : (0 : Int) ≤ ((k + 1 : Nat) : Int) := by omega
                have hjn' : ((k + 1 : Nat) : Int) < (m : Int) := by omega
                have htn' : (((k + 1 : Nat) : Int)).toNat = k + 1 := by omega
                have hdec : decide (((k + 1 : Nat) : Int) < (m : Int)) = true := decide_eq_true hjn'
                have HB2 : Hid (∀ q, Below w7.heap.size w7 (wr.drewN q)) := Lib.hid fun q => below_drewN HB.out q
                clear hc hp1 hp2 hlt
                obtain ⟨k', hk'⟩ : ∃ k', k' = k + 1 := ⟨_, rfl⟩
                rw [← hk'] at k2 hw1 hw2 hj0' hjn' htn' hdec ⊢
                have HK' := Lib.hid hk'
                clear hk' HI7 HKz
                go_wp2_with fail
                go_quiet (fail)
                go_wp2_with fail
                go_roundw
                case measure => simp [intOf] <;> omega
                case rel => exact ⟨k', .inr (by rw [HK'.out]; exact hkm), by simp, HB2.out _⟩
              · have hkm1 : ¬ (((k + 1 : Nat) : Int) < (m : Int)) := by omega
                have HKe := Lib.hid (HKz.out wr HB.out)
                go_wp2_with fail
                go_roundw
                case measure => simp [intOf] <;> omega
                case rel => exact ⟨j + 1, r6, c6, ys, by omega, by go_num, Lib.hid ⟨HKe.out, HKy.out⟩⟩
          · have k0 := HKind.out _ HB7.out
            have hk5a : ¬ (p.kind.toNat : Int) = 5 := fun h => hk5 (UInt8.toNat_inj.1 (show p.kind.toNat = (5 : UInt8).toNat by show p.kind.toNat = 5; omega))
            have hk5b : ((p.kind.toNat : Int) == 5) = false := by simpa using hk5a
            have BZ := HB7
            go_wp2_with fail
            go_loopw [8] (fun v8 wr => ∃ k : Nat, (k = 0 ∨ k < m) ∧ v8 = .int .i64 ((k + 1 : Nat) : Int) ∧ Hid (Below w7.heap.size w7 wr)) (fun v8 _ => m + 2 - (intOf v8).toNat)
            case atStart => exact ⟨0, .inl rfl, rfl, BZ⟩
            case round =>
              clear BZ
              obtain ⟨k, hk, rfl, HB⟩ := hrel
              by_cases hkm : k + 1 < m
              · obtain ⟨bb, o, rfl, hbl, hc⟩ := HI7.out wr HB.out (by rw [← HM.out]; omega)
                obtain ⟨p1, hp1⟩ : ∃ p1, ys[k]? = some p1 := ⟨_, List.getElem?_eq_getElem (by rw [← HM.out]; omega)⟩
                obtain ⟨p2, hp2⟩ : ∃ p2, ys[k + 1]? = some p2 := ⟨_, List.getElem?_eq_getElem (by rw [← HM.out]; omega)⟩
                have hlt := rise_lt HRy.out (Nat.lt_succ_self k) hp1 hp2
                have k1 : wr.cell? ⟨bb, o + k * 2, none⟩ = some (.string p1.1) := (hc k p1 hp1).1
                have k2 : wr.cell? ⟨bb, o + (k + 1) * 2, none⟩ = some (.string p2.1) := (hc (k + 1) p2 hp2).1
                have l1 : Op.bytesLess p1.1.toList p2.1.toList = true := hlt
                have l2 : Op.bytesLess p2.1.toList p1.1.toList = false := klt_asymm (a := p1.1) (b := p2.1) hlt
                have l3 : (p1.1.toList == p2.1.toList) = false := by
                  cases e : p1.1.toList == p2.1.toList with
                  | false => rfl
                  | true =>
                    have e2 : p1.1 = p2.1 := toList_inj (by simpa using e)
                    rw [e2, klt_irrefl] at hlt; cases hlt
                have l4 : (p2.1.toList == p1.1.toList) = false := by
                  cases e : p2.1.toList == p1.1.toList with
                  | false => rfl
                  | true =>
                    have e2 : p2.1 = p1.1 := toList_inj (by simpa using e)
                    rw [e2, klt_irrefl] at hlt; cases hlt
                have hw1 : IntKind.i64.wrap (((k + 1 : Nat) : Int) - 1) = (k : Int) := by rw [IntKind.wrap_i64]; omega
                have hw2 : IntKind.i64.wrap (((k + 1 : Nat) : Int) + 1) = ((k + 1 + 1 : Nat) : Int) := by rw [IntKind.wrap_i64]; omega
                have hj0 : (0 : Int) ≤ (k : Int) := by omega
                have hjn : (k : Int) < (m : Int) := by omega
                have htn : ((k : Int)).toNat = k := by omega
                have hj0' : (0 : Int) ≤ ((k + 1 : Nat) : Int) := by omega
                have hjn' : ((k + 1 : Nat) : Int) < (m : Int) := by omega
                have htn' : (((k + 1 : Nat) : Int)).toNat = k + 1 := by omega
                have hdec : decide (((k + 1 : Nat) : Int) < (m : Int)) = true := decide_eq_true hjn'
                have HB2 : Hid (∀ q, Below w7.heap.size w7 (wr.drewN q)) := Lib.hid fun q => below_drewN HB.out q
                clear hc hp1 hp2 hlt
                obtain ⟨k', hk'⟩ : ∃ k', k' = k + 1 := ⟨_, rfl⟩
                rw [← hk'] at k2 hw1 hw2 hj0' hjn' htn' hdec ⊢
                have HK' := Lib.hid hk'
                clear hk' HI7 HKz
                go_wp2_with fail
                go_quiet (fail)
                go_wp2_with fail
                go_roundw
                case measure => simp [intOf] <;> omega
                case rel => exact ⟨k', .inr (by rw [HK'.out]; exact hkm), by simp, HB2.out _⟩
              · have hkm1 : ¬ (((k + 1 : Nat) : Int) < (m : Int)) := by omega
                have HKe := Lib.hid (HKz.out wr HB.out)
                go_wp2_with fail
                go_roundw
                case measure => simp [intOf] <;> omega
                case rel => exact ⟨j + 1, r6, c6, ys, by omega, by go_num, Lib.hid ⟨HKe.out, HKy.out⟩⟩
        · have hq1 : ¬ (q.1 : Int) = 0 := by omega
          have hq2 : ((q.1 : Int) == 0) = false := by simpa using hq0
          have he := HErr.out hq0
          go_wp2_with (go_at_call 17; refine (HSa.out _ HB7.out he.symm).mono ?_)
          rintro E w8 ⟨rfl, b8⟩
          have B8 := Lib.hid (HB7.out.trans (b8.mono HB7.out.size))
          clear b8 he HB7 d0
          by_cases hk5 : p.kind = 5
          · have k0 : w8.cell? ⟨b', off + j * 6, none⟩ = some (.int .u8 5) := by
              have := HKind.out _ B8.out
              rw [hk5] at this
              exact this
            have hsum := HSum.out hk5
            go_wp2_with (go_at_call 19; refine (HS1.out _ B8.out).mono ?_)
            rintro E w9 ⟨rfl, b9⟩
            have B9 := Lib.hid (B8.out.trans (b9.mono B8.out.size))
            go_wp2_with (go_at_call 19; refine (HS7.out _ B9.out).mono ?_)
            rintro E w10 ⟨rfl, b10⟩
            rw [hsum]
            have BZ := Lib.hid (B9.out.trans (b10.mono B9.out.size))
            clear b9 b10 B9 k0 hsum
            go_wp2_with fail
            go_loopw [8] (fun v8 wr => ∃ k : Nat, (k = 0 ∨ k < m) ∧ v8 = .int .i64 ((k + 1 : Nat) : Int) ∧ Hid (Below w7.heap.size w7 wr)) (fun v8 _ => m + 2 - (intOf v8).toNat)
            case atStart => exact ⟨0, .inl rfl, rfl, BZ⟩
            case round =>
              clear BZ
              obtain ⟨k, hk, rfl, HB⟩ := hrel
              by_cases hkm : k + 1 < m
              · obtain ⟨bb, o, rfl, hbl, hc⟩ := HI7.out wr HB.out (by rw [← HM.out]; omega)
                obtain ⟨p1, hp1⟩ : ∃ p1, ys[k]? = some p1 := ⟨_, List.getElem?_eq_getElem (by rw [← HM.out]; omega)⟩
                obtain ⟨p2, hp2⟩ : ∃ p2, ys[k + 1]? = some p2 := ⟨_, List.getElem?_eq_getElem (by rw [← HM.out]; omega)⟩
                have hlt := rise_lt HRy.out (Nat.lt_succ_self k) hp1 hp2
                have k1 : wr.cell? ⟨bb, o + k * 2, none⟩ = some (.string p1.1) := (hc k p1 hp1).1
                have k2 : wr.cell? ⟨bb, o + (k + 1) * 2, none⟩ = some (.string p2.1) := (hc (k + 1) p2 hp2).1
                have l1 : Op.bytesLess p1.1.toList p2.1.toList = true := hlt
                have l2 : Op.bytesLess p2.1.toList p1.1.toList = false := klt_asymm (a := p1.1) (b := p2.1) hlt
                have l3 : (p1.1.toList == p2.1.toList) = false := by
                  cases e : p1.1.toList == p2.1.toList with
                  | false => rfl
                  | true =>
                    have e2 : p1.1 = p2.1 := toList_inj (by simpa using e)
                    rw [e2, klt_irrefl] at hlt; cases hlt
                have l4 : (p2.1.toList == p1.1.toList) = false := by
                  cases e : p2.1.toList == p1.1.toList with
                  | false => rfl
                  | true =>
                    have e2 : p2.1 = p1.1 := toList_inj (by simpa using e)
                    rw [e2, klt_irrefl] at hlt; cases hlt
                have hw1 : IntKind.i64.wrap (((k + 1 : Nat) : Int) - 1) = (k : Int) := by rw [IntKind.wrap_i64]; omega
                have hw2 : IntKind.i64.wrap (((k + 1 : Nat) : Int) + 1) = ((k + 1 + 1 : Nat) : Int) := by rw [IntKind.wrap_i64]; omega
                have hj0 : (0 : Int) ≤ (k : Int) := by omega
                have hjn : (k : Int) < (m : Int) := by omega
                have htn : ((k : Int)).toNat = k := by omega
                have hj0' : (0 : Int) ≤ ((k + 1 : Nat) : Int) := by omega
                have hjn' : ((k + 1 : Nat) : Int) < (m : Int) := by omega
                have htn' : (((k + 1 : Nat) : Int)).toNat = k + 1 := by omega
                have hdec : decide (((k + 1 : Nat) : Int) < (m : Int)) = true := decide_eq_true hjn'
                have HB2 : Hid (∀ q, Below w7.heap.size w7 (wr.drewN q)) := Lib.hid fun q => below_drewN HB.out q
                clear hc hp1 hp2 hlt
                obtain ⟨k', hk'⟩ : ∃ k', k' = k + 1 := ⟨_, rfl⟩
                rw [← hk'] at k2 hw1 hw2 hj0' hjn' htn' hdec ⊢
                have HK' := Lib.hid hk'
                clear hk' HI7 HKz
                go_wp2_with fail
                go_quiet (fail)
                go_wp2_with fail
                go_roundw
                case measure => simp [intOf] <;> omega
                case rel => exact ⟨k', .inr (by rw [HK'.out]; exact hkm), by simp, HB2.out _⟩
              · have hkm1 : ¬ (((k + 1 : Nat) : Int) < (m : Int)) := by omega
                have HKe := Lib.hid (HKz.out wr HB.out)
                go_wp2_with fail
                go_roundw
                case measure => simp [intOf] <;> omega
                case rel => exact ⟨j + 1, r6, c6, ys, by omega, by go_num, Lib.hid ⟨HKe.out, HKy.out⟩⟩
          · have k0 := HKind.out _ B8.out
            have hk5a : ¬ (p.kind.toNat : Int) = 5 := fun h => hk5 (UInt8.toNat_inj.1 (show p.kind.toNat = (5 : UInt8).toNat by show p.kind.toNat = 5; omega))
            have hk5b : ((p.kind.toNat : Int) == 5) = false := by simpa using hk5a
            have BZ := B8
            go_wp2_with fail
            go_loopw [8] (fun v8 wr => ∃ k : Nat, (k = 0 ∨ k < m) ∧ v8 = .int .i64 ((k + 1 : Nat) : Int) ∧ Hid (Below w7.heap.size w7 wr)) (fun v8 _ => m + 2 - (intOf v8).toNat)
            case atStart => exact ⟨0, .inl rfl, rfl, BZ⟩
            case round =>
              clear BZ
              obtain ⟨k, hk, rfl, HB⟩ := hrel
              by_cases hkm : k + 1 < m
              · obtain ⟨bb, o, rfl, hbl, hc⟩ := HI7.out wr HB.out (by rw [← HM.out]; omega)
                obtain ⟨p1, hp1⟩ : ∃ p1, ys[k]? = some p1 := ⟨_, List.getElem?_eq_getElem (by rw [← HM.out]; omega)⟩
                obtain ⟨p2, hp2⟩ : ∃ p2, ys[k + 1]? = some p2 := ⟨_, List.getElem?_eq_getElem (by rw [← HM.out]; omega)⟩
                have hlt := rise_lt HRy.out (Nat.lt_succ_self k) hp1 hp2
                have k1 : wr.cell? ⟨bb, o + k * 2, none⟩ = some (.string p1.1) := (hc k p1 hp1).1
                have k2 : wr.cell? ⟨bb, o + (k + 1) * 2, none⟩ = some (.string p2.1) := (hc (k + 1) p2 hp2).1
                have l1 : Op.bytesLess p1.1.toList p2.1.toList = true := hlt
                have l2 : Op.bytesLess p2.1.toList p1.1.toList = false := klt_asymm (a := p1.1) (b := p2.1) hlt
                have l3 : (p1.1.toList == p2.1.toList) = false := by
                  cases e : p1.1.toList == p2.1.toList with
                  | false => rfl
                  | true =>
                    have e2 : p1.1 = p2.1 := toList_inj (by simpa using e)
                    rw [e2, klt_irrefl] at hlt; cases hlt
                have l4 : (p2.1.toList == p1.1.toList) = false := by
                  cases e : p2.1.toList == p1.1.toList with
                  | false => rfl
                  | true =>
                    have e2 : p2.1 = p1.1 := toList_inj (by simpa using e)
                    rw [e2, klt_irrefl] at hlt; cases hlt
                have hw1 : IntKind.i64.wrap (((k + 1 : Nat) : Int) - 1) = (k : Int) := by rw [IntKind.wrap_i64]; omega
                have hw2 : IntKind.i64.wrap (((k + 1 : Nat) : Int) + 1) = ((k + 1 + 1 : Nat) : Int) := by rw [IntKind.wrap_i64]; omega
                have hj0 : (0 : Int) ≤ (k : Int) := by omega
                have hjn : (k : Int) < (m : Int) := by omega
                have htn : ((k : Int)).toNat = k := by omega
                have hj0' : (0 : Int) ≤ ((k + 1 : Nat) : Int) := by omega
                have hjn' : ((k + 1 : Nat) : Int) < (m : Int) := by omega
                have htn' : (((k + 1 : Nat) : Int)).toNat = k + 1 := by omega
                have hdec : decide (((k + 1 : Nat) : Int) < (m : Int)) = true := decide_eq_true hjn'
                have HB2 : Hid (∀ q, Below w7.heap.size w7 (wr.drewN q)) := Lib.hid fun q => below_drewN HB.out q
                clear hc hp1 hp2 hlt
                obtain ⟨k', hk'⟩ : ∃ k', k' = k + 1 := ⟨_, rfl⟩
                rw [← hk'] at k2 hw1 hw2 hj0' hjn' htn' hdec ⊢
                have HK' := Lib.hid hk'
                clear hk' HI7 HKz
                go_wp2_with fail
                go_quiet (fail)
                go_wp2_with fail
                go_roundw
                case measure => simp [intOf] <;> omega
                case rel => exact ⟨k', .inr (by rw [HK'.out]; exact hkm), by simp, HB2.out _⟩
              · have hkm1 : ¬ (((k + 1 : Nat) : Int) < (m : Int)) := by omega
                have HKe := Lib.hid (HKz.out wr HB.out)
                go_wp2_with fail
                go_roundw
                case measure => simp [intOf] <;> omega
                case rel => exact ⟨j + 1, r6, c6, ys, by omega, by go_num, Lib.hid ⟨HKe.out, HKy.out⟩⟩
      · obtain rfl : n = j := by omega
        go_wp2_with (go_at_call 18; refine (list_any K.out.sys.led (by omega)).mono ?_)
        rintro E w4 ⟨r1, c1, rfl, hR1, hg1, b4⟩
        have K4 := Lib.hid (K.out.below b4)
        have HOf := Lib.hid (of_any K4.out.sys.vars hR1 (by omega))
        have HMy := Lib.hid (mayI_own K.out.sys.rise HKeys.out K.out.sys.small)
        clear K hR1 hg1 b4 HKeys
        go_wp2_with (go_at_call 10; refine HOf.out.mono ?_)
        rintro E w5 ⟨b5, h5⟩
        rw [if_pos HMy.out, if_pos hlen] at h5
        obtain ⟨g2, r2, c2, rfl, hs2, ho2⟩ := h5
        have D5 := Lib.hid (K4.out.duo b5 hs2 ho2)
        clear hs2 ho2 b5 K4 HOf
        go_wp2_with (go_at_call 18; refine (list_any D5.out.s2.led (by omega)).mono ?_)
        rintro E w6 ⟨r3, c3, rfl, hR3, _, b6⟩
        have D6 := Lib.hid (D5.out.below b6)
        have I3 := Lib.hid hR3.its
        clear hR3 b6 D5
        go_wp2_with (go_at_call 18; refine (list_any D6.out.s1.led (by omega)).mono ?_)
        rintro E w7 ⟨r4, c4, rfl, hR4, _, b7⟩
        have D7 := Lib.hid (D6.out.below b7)
        have I3' := Lib.hid (I3.out.below b7)
        have I4 := Lib.hid hR4.its
        clear hR4 b7 D6 I3
        go_wp2_with (go_at_call 17; refine (HSame.out _ (slA r3) (slA r4) c3 c4 xs xs I3'.out I4.out (by omega) (by omega)).mono ?_)
        rintro E w8 rfl b8
        have D8 := Lib.hid (D7.out.below b8)
        clear b8 D7 I3' I4
        go_wp2_with fail
        go_loopw [11] (fun v11 wr => ∃ (j : Nat) (r : Option Nat) (c : Nat) (xs : List It) (r2 : Option Nat) (c2 : Nat), j ≤ n ∧ v11 = .int .i64 (j : Int) ∧ Hid (Duo w g r c xs g2 r2 c2 xs wr)) (fun v11 _ => n - (intOf v11).toNat)
        case atStart => exact ⟨0, r, c, xs, r2, c2, by omega, rfl, D8⟩
        case round =>
          clear D8
          obtain ⟨j, r, c, xs, r2, c2, hj, rfl, D⟩ := hrel
          by_cases hjj : j < n
          · obtain ⟨p, hp⟩ : ∃ p, os[j]? = some p := ⟨_, List.getElem?_eq_getElem (by rw [← HL.out]; exact hjj)⟩
            obtain ⟨b', off, rfl, hr⟩ := HOps.out j p hp
            have HRg := Lib.hid hr
            have HP := Lib.hid (HI.out p)
            have hdec : decide ((j : Int) < (n : Int)) = true := decide_eq_true (by omega)
            have hj0 : (0 : Int) ≤ (j : Int) := by omega
            have hjn : (j : Int) < (n : Int) := by omega
            have htn : ((j : Int)).toNat = j := by omega
            have hw1 : IntKind.i64.wrap ((j : Int) + 1) = (j : Int) + 1 := by rw [IntKind.wrap_i64]; omega
            have g43 := Tryd.guard43
            have e43 : ∀ w, (Op.equalIn 10000 43 (.agg (repC (doR xs p).1).toArray) (.agg (repC (doR xs p).1).toArray)).run Tryd.prog w = .ok true w := fun w => eq_rep_of (d := 9998) (doR xs p).1 (doR xs p).1 (by simp) w
            clear hr hp
            go_wp2_with fail
            refine wp_region_any (by kernel_rfl) ?_
            refine held_gen (G := fun W => wpAny _ _ _ _ _ _ _ W) (fun W => Duo w g r c xs g2 r2 c2 xs W) (D.out.below (below_drewN (Below.refl _ _) 1)) (fun W9 hW9 => ?_)
            have D9 := Lib.hid hW9
            clear hW9 D
            refine wpAny_of_held (S := fun W => Below w.heap.size w W) _ _ _ _ ?_
            refine wpAnyH_take (i := 0) (oi := { dst := some 102, op := Op.move (Operand.tmp 3), type := 28, pos := "law.go:103", after := #[], guard := none }) (v := .pointer (some ⟨g, 0, none⟩)) rfl (by kernel_rfl) (by kernel_rfl) (by kernel_rfl) (fun _ _ _ h => h) (Or.inl ⟨by kernel_rfl, fun W hSW => by go_simp⟩) (D9.out.bel) ?_
            try simp only [Act.put, List.setIfInBounds_toArray, List.set_cons_zero, List.set_cons_succ]
            refine wpAnyH_take (i := 1) (oi := { dst := some 103, op := Op.move (Operand.tmp 0), type := 23, pos := "law.go:103", after := #[], guard := none }) (v := .slice (some ⟨b', off, none⟩) n c0) rfl (by kernel_rfl) (by kernel_rfl) (by kernel_rfl) (fun _ _ _ h => h) (Or.inl ⟨by kernel_rfl, fun W hSW => by go_simp⟩) (D9.out.bel) ?_
            try simp only [Act.put, List.setIfInBounds_toArray, List.set_cons_zero, List.set_cons_succ]
            refine wpAnyH_take (i := 2) (oi := { dst := some 104, op := Op.move (Operand.tmp 11), type := 3, pos := "law.go:103", after := #[], guard := none }) (v := .int .i64 (j : Int)) rfl (by kernel_rfl) (by kernel_rfl) (by kernel_rfl) (fun _ _ _ h => h) (Or.inl ⟨by kernel_rfl, fun W hSW => by go_simp⟩) (D9.out.bel) ?_
            try simp only [Act.put, List.setIfInBounds_toArray, List.set_cons_zero, List.set_cons_succ]
            refine wpAnyH_take (i := 3) (oi := { dst := some 105, op := Op.indexAddr 23 (Operand.tmp 103) (Operand.tmp 104), type := 0, pos := "law.go:103", after := #[{ on := 1, ground := Ground.data }, { on := 2, ground := Ground.data }], guard := none }) (v := .pointer (some ⟨b', off + j * 6, none⟩)) rfl (by kernel_rfl) (by kernel_rfl) (by kernel_rfl) (fun _ _ _ h => h) (Or.inl ⟨by kernel_rfl, fun W hSW => by go_simp⟩) (D9.out.bel) ?_
            try simp only [Act.put, List.setIfInBounds_toArray, List.set_cons_zero, List.set_cons_succ]
            refine wpAnyH_take (i := 4) (oi := { dst := some 106, op := Op.load 41 (Operand.tmp 105), type := 41, pos := "law.go:103", after := #[{ on := 3, ground := Ground.data }], guard := none }) (v := .agg (opC p).toArray) rfl (by kernel_rfl) (by kernel_rfl) (by kernel_rfl) (fun _ _ _ h => h) (Or.inl ⟨by kernel_rfl, fun W hSW => exec_load_mid 41 (.tmp 105) rfl b' (off + j * 6) rfl (opC p) _ (HRg.out W hSW) Tryd.underlying41 rfl (HP.out)⟩) (D9.out.bel) ?_
            try simp only [Act.put, List.setIfInBounds_toArray, List.set_cons_zero, List.set_cons_succ]
            refine wpAnyH_take (i := 6) (oi := { dst := some 108, op := Op.move (Operand.tmp 9), type := 28, pos := "law.go:103", after := #[], guard := none }) (v := .pointer (some ⟨g2, 0, none⟩)) rfl (by kernel_rfl) (by kernel_rfl) (by kernel_rfl) (fun _ _ _ h => h) (Or.inl ⟨by kernel_rfl, fun W hSW => by go_simp⟩) (D9.out.bel) ?_
            try simp only [Act.put, List.setIfInBounds_toArray, List.set_cons_zero, List.set_cons_succ]
            refine wpAnyH_take (i := 7) (oi := { dst := some 109, op := Op.move (Operand.tmp 0), type := 23, pos := "law.go:103", after := #[], guard := none }) (v := .slice (some ⟨b', off, none⟩) n c0) rfl (by kernel_rfl) (by kernel_rfl) (by kernel_rfl) (fun _ _ _ h => h) (Or.inl ⟨by kernel_rfl, fun W hSW => by go_simp⟩) (D9.out.bel) ?_
            try simp only [Act.put, List.setIfInBounds_toArray, List.set_cons_zero, List.set_cons_succ]
            refine wpAnyH_take (i := 8) (oi := { dst := some 110, op := Op.move (Operand.tmp 11), type := 3, pos := "law.go:103", after := #[], guard := none }) (v := .int .i64 (j : Int)) rfl (by kernel_rfl) (by kernel_rfl) (by kernel_rfl) (fun _ _ _ h => h) (Or.inl ⟨by kernel_rfl, fun W hSW => by go_simp⟩) (D9.out.bel) ?_
            try simp only [Act.put, List.setIfInBounds_toArray, List.set_cons_zero, List.set_cons_succ]
            refine wpAnyH_take (i := 9) (oi := { dst := some 111, op := Op.indexAddr 23 (Operand.tmp 109) (Operand.tmp 110), type := 0, pos := "law.go:103", after := #[{ on := 7, ground := Ground.data }, { on := 8, ground := Ground.data }], guard := none }) (v := .pointer (some ⟨b', off + j * 6, none⟩)) rfl (by kernel_rfl) (by kernel_rfl) (by kernel_rfl) (fun _ _ _ h => h) (Or.inl ⟨by kernel_rfl, fun W hSW => by go_simp⟩) (D9.out.bel) ?_
            try simp only [Act.put, List.setIfInBounds_toArray, List.set_cons_zero, List.set_cons_succ]
            refine wpAnyH_take (i := 10) (oi := { dst := some 112, op := Op.load 41 (Operand.tmp 111), type := 41, pos := "law.go:103", after := #[{ on := 9, ground := Ground.data }], guard := none }) (v := .agg (opC p).toArray) rfl (by kernel_rfl) (by kernel_rfl) (by kernel_rfl) (fun _ _ _ h => h) (Or.inl ⟨by kernel_rfl, fun W hSW => exec_load_mid 41 (.tmp 111) rfl b' (off + j * 6) rfl (opC p) _ (HRg.out W hSW) Tryd.underlying41 rfl (HP.out)⟩) (D9.out.bel) ?_
            try simp only [Act.put, List.setIfInBounds_toArray, List.set_cons_zero, List.set_cons_succ]
            refine wpAnyH_ready (rs := [5]) (by kernel_rfl) (by simp) ?_
            refine AllReadyH.cons (o := { dst := some 107, op := Op.call { callee := Callee.value (Operand.func 15), args := #[Operand.tmp 102, Operand.tmp 106], argTypes := #[28, 41] }, type := 43, pos := "law.go:103", after := #[{ on := 0, ground := Ground.data }, { on := 4, ground := Ground.data }], guard := none }) rfl (fun K' hK' => ?_) AllReadyH.nil
            go_simp
            go_at_call 15
            refine (D9.out.do1 p).mono ?_
            rintro E w10 ⟨rfl, r10, c10, h10⟩
            have D10 := Lib.hid h10
            clear h10 D9
            refine hK'.out _ _ D10.out.bel (fun _ => ?_)
            clear hK' K'
            try simp only [Act.put, List.setIfInBounds_toArray, List.set_cons_zero, List.set_cons_succ]
            refine wpAnyH_ready (rs := [11]) (by kernel_rfl) (by simp) ?_
            refine AllReadyH.cons (o := { dst := some 113, op := Op.call { callee := Callee.value (Operand.func 15), args := #[Operand.tmp 108, Operand.tmp 112], argTypes := #[28, 41] }, type := 43, pos := "law.go:103", after := #[{ on := 6, ground := Ground.data }, { on := 10, ground := Ground.data }, { on := 5, ground := Ground.chain }], guard := none }) rfl (fun K' hK' => ?_) AllReadyH.nil
            go_simp
            go_at_call 15
            refine (D10.out.do2 p).mono ?_
            rintro E w11 ⟨rfl, r11, c11, h11⟩
            have D11 := Lib.hid h11
            clear h11 D10
            refine hK'.out _ _ D11.out.bel (fun _ => ?_)
            clear hK' K'
            try simp only [Act.put, List.setIfInBounds_toArray, List.set_cons_zero, List.set_cons_succ]
            refine wpAnyH_take (i := 12) (oi := { dst := some 114, op := Op.binOp BinOp.neq 43 (Operand.tmp 107) (Operand.tmp 113) 43, type := 4, pos := "law.go:103", after := #[{ on := 5, ground := Ground.data }, { on := 11, ground := Ground.data }], guard := none }) (v := .bool false) rfl (by kernel_rfl) (by kernel_rfl) (by kernel_rfl) (fun _ _ _ h => h) (Or.inl ⟨by kernel_rfl, fun W hSW => by go_simp⟩) (D11.out.bel) ?_
            try simp only [Act.put, List.setIfInBounds_toArray, List.set_cons_zero, List.set_cons_succ]
            refine wpAnyH_done (by kernel_rfl) ?_ _
            go_wp2_with fail
            go_roundw
            case measure => simp [intOf] <;> omega
            case rel => exact ⟨j + 1, r10, c10, _, r11, c11, by omega, by go_num, D11⟩
          · obtain rfl : n = j := by omega
            go_wp2_with (go_at_call 9; refine (HW.out _ D.out.bel).mono ?_; rintro E wz ⟨rfl, bz⟩)
            go_ret
            exact ⟨rfl, D.out.bel.trans (bz.mono D.out.bel.size)⟩
end Go.Proofs.YtejckimplihmiaaDoor
