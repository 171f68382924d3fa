/-
  What is proved: the walk of DiskFuses for whatever comes in, given that the chapter's examples hold. Conditions as stated.
-/
import Derived.Test.YthbbghkefekhfaaDq
namespace Go.Proofs.Ythbbghkefekhfaa
open Go.RowKit Go.Sort

theorem stepF {w wr : World} {d T : Nat} {s s' : Dk} {L : List (Nat × Obj)} (h : Dat w d T s L wr) (n : Int) (hn : n < 9223372036854775808) (hs : s.fuseAt n = s') : Calls Try.prog 19 #[.pointer (some ⟨d, 0, none⟩), .int .i64 n] wr fun E w' => E = .returned (.tuple #[]) ∧ Dat w d T s' L w' := by
  have := dat_fuse h n hn
  rw [hs] at this
  exact this
theorem stepL {w wr : World} {d T : Nat} {s : Dk} {L : List (Nat × Obj)} (h : Dat w d T s L wr) (n : Nat) (hn : s.loose.length = n) : Calls Try.prog 25 #[.pointer (some ⟨d, 0, none⟩)] wr fun E w' => E = .returned (.int .i64 (n : Int)) ∧ wr = w' := by
  have := dat_loose h
  rw [hn] at this
  exact this
theorem many_of (u : UInt8) : (RowKit.wrap64 (u.toNat : Int)).tmod 100 = ((u.toNat % 100 : Nat) : Int) := by
  have hu := u.toNat_lt
  have e : RowKit.wrap64 (u.toNat : Int) = (u.toNat : Int) := by unfold RowKit.wrap64; omega
  rw [e, Int.tmod_eq_emod_of_nonneg (by omega)]
  omega
theorem Dat.few {w wr : World} {d T : Nat} {s : Dk} {L : List (Nat × Obj)} (h : Dat w d T s L wr) : s.loose.length ≤ T := by
  obtain ⟨S, ⟨fused, left, ms, ml, mn, V, gs, gl, gn, h⟩, _⟩ := h
  exact h.many
theorem Dat.none {w wr : World} {d T : Nat} {s : Dk} {L : List (Nat × Obj)} (h : Dat w d T s L wr) : Dat w d T s [] wr := let ⟨S, h1, h2, _⟩ := h; ⟨S, h1, h2, fun _ hp => (by cases hp)⟩
theorem byte_of (k : Nat) (h : k < 255) : (k : Int) + 1 = ((UInt8.ofNat (k + 1)).toNat : Int) := by simp; omega

set_option maxHeartbeats 8000000 in
set_option maxRecDepth 100000 in
theorem diskFuses_by (hW : Works) (u p : UInt8) (A : Option Addr) (n c : Nat) (bs : List Bool) (w : World) (hb : Rb w A n bs) (hs : Sl A n c) :
    Calls Try.prog 6 #[.int .u8 (u.toNat : Int), .slice A n c, .int .u8 (p.toNat : Int)] w fun E w' => E = .returned (.bool true) ∧ Below w.heap.size w w' := by
  have HW := Lib.hid hW
  have HB := Lib.hid hb
  have hsc := hs.2
  clear hW hb hs
  by_cases hn : 100 < n
  · go_enter Try.func6, Try.ntmps6
    go_wp2_with (first | (go_at_call 9; refine (HW.out w).mono ?_; rintro E wz ⟨rfl, hb⟩))
    go_ret
    exact ⟨rfl, hb⟩
  obtain ⟨Z, hZ⟩ : ∃ b, b = zeros := ⟨_, rfl⟩
  have lZ : Z.length = 128 := by rw [hZ]; rfl
  have UZ : Hid ((u8s Z).length = 128) := Lib.hid (by rw [u8s_length, lZ])
  have LZ := Lib.hid lZ
  have HZ := Lib.hid hZ
  have hz : ∀ w, (zeroValue 33).run Try.prog w = .ok (.agg (u8s Z).toArray) w := by rw [hZ]; exact zero33
  have BZ : Hid (∀ wr, Calls Try.prog 15 #[.int .u8 0] wr fun E w' => E = .returned (.agg (u8s Z).toArray) ∧ Below wr.heap.size wr w') := Lib.hid (fun wr => by rw [hZ]; exact bytes_any 0 wr)
  have hu := u.toNat_lt
  obtain ⟨M, hM, hM100⟩ : ∃ M : Nat, (RowKit.wrap64 (u.toNat : Int)).tmod 100 = (M : Int) ∧ M < 100 := ⟨u.toNat % 100, many_of u, by omega⟩
  clear hu
  clear hZ lZ
  go_enter Try.func6, Try.ntmps6
  go_wp2_with fail
  refine (dat_new (Below.refl _ w)).mono ?_
  rintro E w1 ⟨d, rfl, h1, hdw⟩
  have D1 := Lib.hid h1
  clear h1 hdw
  go_wp2_with fail
  refine (stepF D1.out (M : Int) (by omega) (fuF_start M bs)).mono ?_
  rintro E w2 ⟨rfl, h1⟩
  have D2 := Lib.hid h1
  clear h1 D1
  go_wp2_with fail
  go_loopw [9] (fun v9 wr => ∃ k : Nat, k ≤ n ∧ v9 = .int .i64 k ∧ Hid (Dat w d k (fuF M bs k) [] wr)) (fun v9 _ => n - (intOf v9).toNat)
  case atStart => exact ⟨0, by omega, rfl, D2⟩
  case round =>
    clear D2
    obtain ⟨k, hkn, rfl, HD⟩ := hrel
    by_cases hkk : k < n
    · obtain ⟨b0, o0, rfl, hb0, hc0⟩ := HB.out.2 (by omega)
      obtain ⟨bv, hbv⟩ : ∃ bv, bs[k]? = some bv := ⟨_, List.getElem?_eq_getElem (by rw [HB.out.1]; exact hkk)⟩
      have HC0 := Lib.hid (hc0 k bv hbv)
      have hg : bs.getD k false = bv := by rw [List.getD_eq_getElem?_getD, hbv]; rfl
      have HRL := Lib.hid (fuF_read M bs k (by omega))
      have HPW := Lib.hid (fuF_off M bs (k + 1))
      have HSY := Lib.hid (fuF_sync M bs k)
      have HWR := Lib.hid (fuF_write M bs k (by omega))
      have BK : Hid (∀ wr, Calls Try.prog 15 #[.int .u8 ((k : Int) + 1)] wr fun E w' => E = .returned (.agg (u8s (sec k)).toArray) ∧ Below wr.heap.size wr w') := Lib.hid (fun wr => by rw [byte_of k (by omega)]; exact bytes_any _ wr)
      have LS := Lib.hid (show (sec k).length = 128 from secOf_length _)
      have hIk : Hid (I64 (k : Int)) := Lib.hid (i64_of (by omega))
      generalize fuF M bs k = sk at HD HRL HSY HWR
      obtain ⟨sn, hsn⟩ : ∃ sn, sn = fuF M bs (k + 1) := ⟨_, rfl⟩
      rw [← hsn] at HPW HSY HWR
      have HSN := Lib.hid hsn
      clear hsn
      generalize sec k = sv at HWR BK LS
      obtain ⟨X, hX⟩ : ∃ X, X = (sk.read k).1 := ⟨_, rfl⟩
      have hXl : X.length = 128 := by rw [hX]; exact HD.out.read_len k
      have UX : Hid ((u8s X).length = 128) := Lib.hid (by rw [u8s_length, hXl])
      have HX := Lib.hid hX
      clear hc0 hbv hX hXl
      have h3 : k < M ∨ k = M ∨ M < k := by omega
      cases bv
      · rcases h3 with h3 | h3 | h3
        · have HR0 := Lib.hid (show sk.read k = (X, 0) from Prod.ext HX.out.symm (HRL.out.trans (if_pos (by omega))))
          have HP0 := Lib.hid (show (!sn.off) = true by rw [HPW.out]; simp; omega)
          have HS0 := Lib.hid (show sk.write k sv = (sn, 0) from (HWR.out hg).trans (by rw [if_pos (by omega)]))
          clear HRL HPW HSY HWR HX hg
          go_wp2_with fail
          refine (stepR HD.out k hIk.out X 0 HR0.out).mono ?_
          rintro E w2 ⟨rfl, hb, _⟩
          have D2 := Lib.hid hb
          clear hb HD
          go_wp2_with (first
            | (refine wpList_store_all rfl 33 (.tmp 10) (.tmp 45) rfl w2.heap.size (u8s Z) (u8s X) 33 (row_new w2 (u8s Z) 33) (UZ.out.trans UX.out.symm) rfl rfl (by rw [UX.out]; exact Try.size33) (u8s_one _) ?_; intro w3 G3; have D3 := Lib.hid (D2.out.var G3.out).drop; have ci := (D3.out.below.cell (p := ⟨b0, o0 + k, none⟩) hb0).trans HC0.out; clear G3 D2))
          refine (BK.out _).mono ?_
          rintro E w4 ⟨rfl, hb⟩
          have D4 := Lib.hid (D3.out.next hb)
          clear hb D3 ci
          go_wp2_with fail
          refine (stepW D4.out sv LS.out (by omega) k 0 (by rw [HS0.out]) (s' := sn) (by rw [HS0.out])).mono ?_
          rintro E w5 ⟨rfl, hb⟩
          have D5 := Lib.hid hb
          clear hb D4
          go_wp2_with fail
          refine (stepP D5.out true HP0.out).mono ?_
          rintro E _ ⟨rfl, rfl⟩
          go_wp2_with fail
          go_roundw
          case measure => simp [intOf]; omega
          case rel => exact ⟨k + 1, by omega, by go_num, by rw [← HSN.out]; exact D5⟩
        · subst h3
          have HR0 := Lib.hid (show sk.read k = (X, 0) from Prod.ext HX.out.symm (HRL.out.trans (if_pos (by omega))))
          have HP0 := Lib.hid (show (!sn.off) = false by rw [HPW.out]; simp)
          have HS0 := Lib.hid (show sk.write k sv = (sn, 8) from (HWR.out hg).trans (by rw [if_neg (by omega)]))
          clear HRL HPW HSY HWR HX hg
          go_wp2_with fail
          refine (stepR HD.out k hIk.out X 0 HR0.out).mono ?_
          rintro E w2 ⟨rfl, hb, _⟩
          have D2 := Lib.hid hb
          clear hb HD
          go_wp2_with (first
            | (refine wpList_store_all rfl 33 (.tmp 10) (.tmp 45) rfl w2.heap.size (u8s Z) (u8s X) 33 (row_new w2 (u8s Z) 33) (UZ.out.trans UX.out.symm) rfl rfl (by rw [UX.out]; exact Try.size33) (u8s_one _) ?_; intro w3 G3; have D3 := Lib.hid (D2.out.var G3.out).drop; have ci := (D3.out.below.cell (p := ⟨b0, o0 + k, none⟩) hb0).trans HC0.out; clear G3 D2))
          refine (BK.out _).mono ?_
          rintro E w4 ⟨rfl, hb⟩
          have D4 := Lib.hid (D3.out.next hb)
          clear hb D3 ci
          go_wp2_with fail
          refine (stepW D4.out sv LS.out (by omega) k 8 (by rw [HS0.out]) (s' := sn) (by rw [HS0.out])).mono ?_
          rintro E w5 ⟨rfl, hb⟩
          have D5 := Lib.hid hb
          clear hb D4
          go_wp2_with fail
          refine (stepP D5.out false HP0.out).mono ?_
          rintro E _ ⟨rfl, rfl⟩
          go_wp2_with fail
          go_roundw
          case measure => simp [intOf]; omega
          case rel => exact ⟨k + 1, by omega, by go_num, by rw [← HSN.out]; exact D5⟩
        · have HR0 := Lib.hid (show sk.read k = (X, 8) from Prod.ext HX.out.symm (HRL.out.trans (if_neg (by omega))))
          have HP0 := Lib.hid (show (!sn.off) = false by rw [HPW.out]; simp; omega)
          have HS0 := Lib.hid (show sk.write k sv = (sn, 8) from (HWR.out hg).trans (by rw [if_neg (by omega)]))
          clear HRL HPW HSY HWR HX hg
          go_wp2_with fail
          refine (stepR HD.out k hIk.out X 8 HR0.out).mono ?_
          rintro E w2 ⟨rfl, hb, _⟩
          have D2 := Lib.hid hb
          clear hb HD
          go_wp2_with (first
            | (refine wpList_store_all rfl 33 (.tmp 10) (.tmp 45) rfl w2.heap.size (u8s Z) (u8s X) 33 (row_new w2 (u8s Z) 33) (UZ.out.trans UX.out.symm) rfl rfl (by rw [UX.out]; exact Try.size33) (u8s_one _) ?_; intro w3 G3; have D3 := Lib.hid (D2.out.var G3.out).drop; have ci := (D3.out.below.cell (p := ⟨b0, o0 + k, none⟩) hb0).trans HC0.out; clear G3 D2))
          refine (BK.out _).mono ?_
          rintro E w4 ⟨rfl, hb⟩
          have D4 := Lib.hid (D3.out.next hb)
          clear hb D3 ci
          go_wp2_with fail
          refine (stepW D4.out sv LS.out (by omega) k 8 (by rw [HS0.out]) (s' := sn) (by rw [HS0.out])).mono ?_
          rintro E w5 ⟨rfl, hb⟩
          have D5 := Lib.hid hb
          clear hb D4
          go_wp2_with fail
          refine (stepP D5.out false HP0.out).mono ?_
          rintro E _ ⟨rfl, rfl⟩
          go_wp2_with fail
          go_roundw
          case measure => simp [intOf]; omega
          case rel => exact ⟨k + 1, by omega, by go_num, by rw [← HSN.out]; exact D5⟩
      · rcases h3 with h3 | h3 | h3
        · have HR0 := Lib.hid (show sk.read k = (X, 0) from Prod.ext HX.out.symm (HRL.out.trans (if_pos (by omega))))
          have HP0 := Lib.hid (show (!sn.off) = true by rw [HPW.out]; simp; omega)
          have HS0 := Lib.hid (show sk.sync = (sn, 0) from (HSY.out hg).trans (by rw [if_pos (by omega)]))
          clear HRL HPW HSY HWR HX hg
          go_wp2_with fail
          refine (stepR HD.out k hIk.out X 0 HR0.out).mono ?_
          rintro E w2 ⟨rfl, hb, _⟩
          have D2 := Lib.hid hb
          clear hb HD
          go_wp2_with (first
            | (refine wpList_store_all rfl 33 (.tmp 10) (.tmp 45) rfl w2.heap.size (u8s Z) (u8s X) 33 (row_new w2 (u8s Z) 33) (UZ.out.trans UX.out.symm) rfl rfl (by rw [UX.out]; exact Try.size33) (u8s_one _) ?_; intro w3 G3; have D3 := Lib.hid (D2.out.var G3.out).drop; have ci := (D3.out.below.cell (p := ⟨b0, o0 + k, none⟩) hb0).trans HC0.out; clear G3 D2))
          refine (stepY D3.out (by omega) 0 (by rw [HS0.out]) (s' := sn) (by rw [HS0.out])).mono ?_
          rintro E w5 ⟨rfl, hb⟩
          have D5 := Lib.hid (hb.more (Nat.le_succ _))
          clear hb D3 ci
          go_wp2_with fail
          refine (stepP D5.out true HP0.out).mono ?_
          rintro E _ ⟨rfl, rfl⟩
          go_wp2_with fail
          go_roundw
          case measure => simp [intOf]; omega
          case rel => exact ⟨k + 1, by omega, by go_num, by rw [← HSN.out]; exact D5⟩
        · subst h3
          have HR0 := Lib.hid (show sk.read k = (X, 0) from Prod.ext HX.out.symm (HRL.out.trans (if_pos (by omega))))
          have HP0 := Lib.hid (show (!sn.off) = false by rw [HPW.out]; simp)
          have HS0 := Lib.hid (show sk.sync = (sn, 8) from (HSY.out hg).trans (by rw [if_neg (by omega)]))
          clear HRL HPW HSY HWR HX hg
          go_wp2_with fail
          refine (stepR HD.out k hIk.out X 0 HR0.out).mono ?_
          rintro E w2 ⟨rfl, hb, _⟩
          have D2 := Lib.hid hb
          clear hb HD
          go_wp2_with (first
            | (refine wpList_store_all rfl 33 (.tmp 10) (.tmp 45) rfl w2.heap.size (u8s Z) (u8s X) 33 (row_new w2 (u8s Z) 33) (UZ.out.trans UX.out.symm) rfl rfl (by rw [UX.out]; exact Try.size33) (u8s_one _) ?_; intro w3 G3; have D3 := Lib.hid (D2.out.var G3.out).drop; have ci := (D3.out.below.cell (p := ⟨b0, o0 + k, none⟩) hb0).trans HC0.out; clear G3 D2))
          refine (stepY D3.out (by omega) 8 (by rw [HS0.out]) (s' := sn) (by rw [HS0.out])).mono ?_
          rintro E w5 ⟨rfl, hb⟩
          have D5 := Lib.hid (hb.more (Nat.le_succ _))
          clear hb D3 ci
          go_wp2_with fail
          refine (stepP D5.out false HP0.out).mono ?_
          rintro E _ ⟨rfl, rfl⟩
          go_wp2_with fail
          go_roundw
          case measure => simp [intOf]; omega
          case rel => exact ⟨k + 1, by omega, by go_num, by rw [← HSN.out]; exact D5⟩
        · have HR0 := Lib.hid (show sk.read k = (X, 8) from Prod.ext HX.out.symm (HRL.out.trans (if_neg (by omega))))
          have HP0 := Lib.hid (show (!sn.off) = false by rw [HPW.out]; simp; omega)
          have HS0 := Lib.hid (show sk.sync = (sn, 8) from (HSY.out hg).trans (by rw [if_neg (by omega)]))
          clear HRL HPW HSY HWR HX hg
          go_wp2_with fail
          refine (stepR HD.out k hIk.out X 8 HR0.out).mono ?_
          rintro E w2 ⟨rfl, hb, _⟩
          have D2 := Lib.hid hb
          clear hb HD
          go_wp2_with (first
            | (refine wpList_store_all rfl 33 (.tmp 10) (.tmp 45) rfl w2.heap.size (u8s Z) (u8s X) 33 (row_new w2 (u8s Z) 33) (UZ.out.trans UX.out.symm) rfl rfl (by rw [UX.out]; exact Try.size33) (u8s_one _) ?_; intro w3 G3; have D3 := Lib.hid (D2.out.var G3.out).drop; have ci := (D3.out.below.cell (p := ⟨b0, o0 + k, none⟩) hb0).trans HC0.out; clear G3 D2))
          refine (stepY D3.out (by omega) 8 (by rw [HS0.out]) (s' := sn) (by rw [HS0.out])).mono ?_
          rintro E w5 ⟨rfl, hb⟩
          have D5 := Lib.hid (hb.more (Nat.le_succ _))
          clear hb D3 ci
          go_wp2_with fail
          refine (stepP D5.out false HP0.out).mono ?_
          rintro E _ ⟨rfl, rfl⟩
          go_wp2_with fail
          go_roundw
          case measure => simp [intOf]; omega
          case rel => exact ⟨k + 1, by omega, by go_num, by rw [← HSN.out]; exact D5⟩
    · obtain rfl : k = n := by omega
      by_cases hkM : k ≤ M
      · have HP0 := Lib.hid (show (!(fuF M bs k).off) = true by rw [fuF_off]; simp; omega)
        generalize fuF M bs k = sk at HD HP0
        go_wp2_with fail
        refine (stepP HD.out true HP0.out).mono ?_
        rintro E _ ⟨rfl, rfl⟩
        go_wp2_with fail
        refine (HW.out _).mono ?_
        rintro E w9 ⟨rfl, hb⟩
        go_wp2_with fail
        go_ret
        exact ⟨rfl, HD.out.below.trans (hb.mono HD.out.below.size)⟩
      · have HLN := Lib.hid (show (fuF M bs k).loose.length = (lastL M bs).length by unfold fuF; rw [if_neg hkM]; rfl)
        obtain ⟨P, hP⟩ : ∃ P : UInt8, P = UInt8.ofNat (p.toNat % 2) := ⟨_, rfl⟩
        have hPn : P.toNat = p.toNat % 2 := by rw [hP]; simp; omega
        have hPz : (p.toNat : Int) % 2 = (P.toNat : Int) := by omega
        have hP01 : P.toNat = 0 ∨ P.toNat = 1 := by omega
        have HPZ := Lib.hid hPz
        have HON := Lib.hid (fuF_on M bs k (by omega) P _ rfl)
        obtain ⟨sE, hsE⟩ : ∃ sE, sE = endF M bs P.toNat := ⟨_, rfl⟩
        rw [← hsE] at HON
        have HSE := Lib.hid hsE
        generalize (lastL M bs).length = nl at HLN HON
        have hnl : nl ≤ k := by rw [← HLN.out]; exact HD.out.few
        generalize fuF M bs k = sk at HD HLN HON
        clear hP hPn hsE hPz
        go_wp2_with fail
        refine (stepL HD.out nl HLN.out).mono ?_
        rintro E _ ⟨rfl, rfl⟩
        go_wp2_with fail
        go_loopw [14, 15] (fun v14 v15 wi => ∃ j : Nat, j ≤ nl ∧ v15 = .int .i64 j ∧ Hid (PkAt P w d k sk v14 j wi)) (fun _ v15 _ => nl - (intOf v15).toNat)
        case atStart => exact ⟨0, by omega, rfl, Lib.hid (.inl ⟨rfl, rfl, HD.out⟩)⟩
        case round =>
          clear HD
          obtain ⟨j, hjn, rfl, HK⟩ := hrel
          by_cases hjj : j < nl
          · have hj9 : Hid (j < 1000000000000) := Lib.hid (by omega)
            go_wp2_with (first
              | (at_builtin; refine wpList_append_u8 rfl (.tmp 114) (.tmp 117) rfl j _ (List.replicate j P) P _ HPZ.out rfl rfl HK.out.own hj9.out ?_; intro A2 c2 w2 M2 T2))
            go_roundw
            case measure => simp [intOf]; omega
            case rel => exact ⟨j + 1, by omega, by go_num, Lib.hid (HK.out.next M2.out T2.out)⟩
          · obtain rfl : j = nl := by omega
            go_wp2_with fail
            refine (HK.out.on (by omega) 0 HON.out).mono ?_
            rintro E w4 ⟨rfl, L4, hb⟩
            have D4 := Lib.hid hb.none
            clear hb HK
            have hPz := HPZ.out
            go_wp2_with fail
            go_loopw [16, 17] (fun v16 v17 wi => ∃ j : Nat, j ≤ M ∧ v17 = .int .i64 j ∧ v16 = .int .i64 (sy bs j) ∧ Hid (Dat w d k sE [] wi)) (fun _ v17 _ => M - (intOf v17).toNat)
            case atStart => exact ⟨0, by omega, rfl, rfl, D4⟩
            case round =>
              clear D4
              obtain ⟨j, hjM, rfl, rfl, D5⟩ := hrel
              by_cases hjj : j < M
              · obtain ⟨b0, o0, rfl, hb0, hc0⟩ := HB.out.2 (by omega)
                obtain ⟨bv, hbv⟩ : ∃ bv, bs[j]? = some bv := ⟨_, List.getElem?_eq_getElem (by rw [HB.out.1]; omega)⟩
                have ci := (D5.out.below.cell (p := ⟨b0, o0 + j, none⟩) hb0).trans (hc0 j bv hbv)
                have HSY : Hid (sy bs (j + 1) = if bv then (j : Int) else sy bs j) := Lib.hid (by rw [sy, List.getD_eq_getElem?_getD, hbv]; rfl)
                clear hc0 hbv
                generalize sy bs j = S0 at HSY
                cases bv
                · go_wp2_with fail
                  go_roundw
                  case measure => simp [intOf]; omega
                  case rel => exact ⟨j + 1, by omega, by go_num, by rw [HSY.out]; rfl, D5⟩
                · go_wp2_with fail
                  go_roundw
                  case measure => simp [intOf]; omega
                  case rel => exact ⟨j + 1, by omega, by go_num, by rw [HSY.out]; rfl, D5⟩
              · obtain rfl : j = M := by omega
                obtain ⟨S, hS⟩ : ∃ S, S = sy bs j := ⟨_, rfl⟩
                rw [← hS]
                have HS := Lib.hid hS
                clear hS
                go_wp2_with fail
                go_loopw [18] (fun v18 wi => ∃ i : Nat, i ≤ j + 1 ∧ v18 = .int .i64 i ∧ Hid (Dat w d k sE [] wi)) (fun v18 _ => j + 1 - (intOf v18).toNat)
                case atStart => exact ⟨0, by omega, rfl, D5⟩
                case round =>
                  clear D5
                  obtain ⟨i, hij, rfl, D5⟩ := hrel
                  by_cases hii : i ≤ j
                  · obtain ⟨b0, o0, rfl, hb0, hc0⟩ := HB.out.2 (by omega)
                    obtain ⟨bv, hbv⟩ : ∃ bv, bs[i]? = some bv := ⟨_, List.getElem?_eq_getElem (by rw [HB.out.1]; omega)⟩
                    have HC0 := Lib.hid (hc0 i bv hbv)
                    have hg : bs.getD i false = bv := by rw [List.getD_eq_getElem?_getD, hbv]; rfl
                    have hrd := endF_read j bs P.toNat hP01 (by omega) i hii
                    rw [← HSE.out, ← HS.out, hg] at hrd
                    have HRD := Lib.hid hrd
                    have BK : Hid (∀ wr, Calls Try.prog 15 #[.int .u8 ((i : Int) + 1)] wr fun E w' => E = .returned (.agg (u8s (sec i)).toArray) ∧ Below wr.heap.size wr w') := Lib.hid (fun wr => by rw [byte_of i (by omega)]; exact bytes_any _ wr)
                    have LS := Lib.hid (show (sec i).length = 128 from secOf_length _)
                    have US : Hid ((u8s (sec i)).length = 128) := Lib.hid (by rw [u8s_length, LS.out])
                    have hIi : Hid (I64 (i : Int)) := Lib.hid (i64_of (by omega))
                    generalize sec i = sv at HRD BK LS US
                    clear hc0 hbv hg hrd
                    go_wp2_with fail
                    refine (BZ.out _).mono ?_
                    rintro E w6 ⟨rfl, hb⟩
                    have D6 := Lib.hid (D5.out.next hb)
                    clear hb D5
                    cases bv
                    · by_cases hlt : (i : Int) < S
                      · go_wp2_with (first
                          | (refine wpList_store_all rfl 33 (.tmp 19) (.tmp 138) rfl w6.heap.size (u8s Z) (u8s Z) 33 (row_new w6 (u8s Z) 33) rfl rfl rfl (by rw [UZ.out]; exact Try.size33) (u8s_one _) ?_; intro w7 G7; have D7 := Lib.hid (D6.out.var G7.out); have ci := (D7.out.below.cell (p := ⟨b0, o0 + i, none⟩) hb0).trans HC0.out; clear G7))
                        refine (BK.out _).mono ?_
                        rintro E w8 ⟨rfl, hb⟩
                        have D8 := Lib.hid (D7.out.next hb)
                        clear hb D7 ci
                        go_wp2_with (first
                          | (refine wpList_store_all rfl 33 (.tmp 19) (.tmp 157) rfl w6.heap.size (u8s Z) (u8s sv) 33 (D8.out.get (q := w6.heap.size) (o := .cells (u8s Z).toArray 33) (by simp)) (UZ.out.trans US.out.symm) rfl rfl (by rw [US.out]; exact Try.size33) (u8s_one _) ?_; intro w9 G9; have D9 := Lib.hid (D8.out.upd (fun _ hp => by cases hp) G9.out.1 G9.out.2); clear G9 D8))
                        have HR0 := Lib.hid (show sE.read i = (sv, 0) from HRD.out.trans (by rw [if_pos ⟨by trivial, .inl (by omega)⟩]))
                        refine (stepR D9.out i hIi.out sv 0 HR0.out).mono ?_
                        rintro E w10 ⟨rfl, hb, _⟩
                        have D10 := Lib.hid hb
                        clear hb D9
                        have hge := eq33_same sv LS.out
                        have hgd := Try.guard33
                        go_wp2_with (first
                          | (refine wpList_store_all rfl 33 (.tmp 20) (.tmp 162) rfl w10.heap.size (u8s Z) (u8s sv) 33 (row_new w10 (u8s Z) 33) (UZ.out.trans US.out.symm) rfl rfl (by rw [US.out]; exact Try.size33) (u8s_one _) ?_; intro w11 G11; have D11 := Lib.hid (D10.out.var G11.out); clear G11)
                          | (refine wpList_load_mid rfl 33 (.tmp 20) rfl w10.heap.size 0 rfl (u8s sv) _ (range_block (D11.out.get (q := w10.heap.size) (o := .cells (u8s sv).toArray 33) (by simp)) 0 _ (fun j v hv => by rw [Nat.zero_add]; exact hv)) Try.underlying33 rfl (by rw [US.out]; exact Try.size33) ?_)
                          | (refine wpList_load_mid rfl 33 (.tmp 19) rfl w6.heap.size 0 rfl (u8s sv) _ (range_block (D11.out.get (q := w6.heap.size) (o := .cells (u8s sv).toArray 33) (by simp)) 0 _ (fun j v hv => by rw [Nat.zero_add]; exact hv)) Try.underlying33 rfl (by rw [US.out]; exact Try.size33) ?_))
                        go_roundw
                        case measure => simp [intOf]; omega
                        case rel => exact ⟨i + 1, by omega, by go_num, Lib.hid D11.out.none⟩
                      · rcases hP01 with hP | hP
                        · have hp2 : (p.toNat : Int) % 2 = 0 := by rw [hPz, hP]; rfl
                          go_wp2_with (first
                            | (refine wpList_store_all rfl 33 (.tmp 19) (.tmp 138) rfl w6.heap.size (u8s Z) (u8s Z) 33 (row_new w6 (u8s Z) 33) rfl rfl rfl (by rw [UZ.out]; exact Try.size33) (u8s_one _) ?_; intro w9 G9; have D9 := Lib.hid (D6.out.var G9.out); have ci := (D9.out.below.cell (p := ⟨b0, o0 + i, none⟩) hb0).trans HC0.out; clear G9))
                          have HR0 := Lib.hid (show sE.read i = (Z, 0) from HRD.out.trans (by rw [if_neg (fun h => h.2.elim (fun x => by omega) (fun h => by rw [hP] at h; cases h)), ← HZ.out]))
                          refine (stepR D9.out i hIi.out Z 0 HR0.out).mono ?_
                          rintro E w10 ⟨rfl, hb, _⟩
                          have D10 := Lib.hid hb
                          clear hb D9 ci
                          have hge := eq33_same Z LZ.out
                          have hgd := Try.guard33
                          go_wp2_with (first
                            | (refine wpList_store_all rfl 33 (.tmp 20) (.tmp 162) rfl w10.heap.size (u8s Z) (u8s Z) 33 (row_new w10 (u8s Z) 33) (UZ.out.trans UZ.out.symm) rfl rfl (by rw [UZ.out]; exact Try.size33) (u8s_one _) ?_; intro w11 G11; have D11 := Lib.hid (D10.out.var G11.out); clear G11)
                            | (refine wpList_load_mid rfl 33 (.tmp 20) rfl w10.heap.size 0 rfl (u8s Z) _ (range_block (D11.out.get (q := w10.heap.size) (o := .cells (u8s Z).toArray 33) (by simp)) 0 _ (fun j v hv => by rw [Nat.zero_add]; exact hv)) Try.underlying33 rfl (by rw [UZ.out]; exact Try.size33) ?_)
                            | (refine wpList_load_mid rfl 33 (.tmp 19) rfl w6.heap.size 0 rfl (u8s Z) _ (range_block (D11.out.get (q := w6.heap.size) (o := .cells (u8s Z).toArray 33) (by simp)) 0 _ (fun j v hv => by rw [Nat.zero_add]; exact hv)) Try.underlying33 rfl (by rw [UZ.out]; exact Try.size33) ?_))
                          go_roundw
                          case measure => simp [intOf]; omega
                          case rel => exact ⟨i + 1, by omega, by go_num, Lib.hid D11.out.none⟩
                        · have hp2 : (p.toNat : Int) % 2 = 1 := by rw [hPz, hP]; rfl
                          go_wp2_with (first
                            | (refine wpList_store_all rfl 33 (.tmp 19) (.tmp 138) rfl w6.heap.size (u8s Z) (u8s Z) 33 (row_new w6 (u8s Z) 33) rfl rfl rfl (by rw [UZ.out]; exact Try.size33) (u8s_one _) ?_; intro w7 G7; have D7 := Lib.hid (D6.out.var G7.out); have ci := (D7.out.below.cell (p := ⟨b0, o0 + i, none⟩) hb0).trans HC0.out; clear G7))
                          refine (BK.out _).mono ?_
                          rintro E w8 ⟨rfl, hb⟩
                          have D8 := Lib.hid (D7.out.next hb)
                          clear hb D7 ci
                          go_wp2_with (first
                            | (refine wpList_store_all rfl 33 (.tmp 19) (.tmp 157) rfl w6.heap.size (u8s Z) (u8s sv) 33 (D8.out.get (q := w6.heap.size) (o := .cells (u8s Z).toArray 33) (by simp)) (UZ.out.trans US.out.symm) rfl rfl (by rw [US.out]; exact Try.size33) (u8s_one _) ?_; intro w9 G9; have D9 := Lib.hid (D8.out.upd (fun _ hp => by cases hp) G9.out.1 G9.out.2); clear G9 D8))
                          have HR0 := Lib.hid (show sE.read i = (sv, 0) from HRD.out.trans (by rw [if_pos ⟨by trivial, .inr hP⟩]))
                          refine (stepR D9.out i hIi.out sv 0 HR0.out).mono ?_
                          rintro E w10 ⟨rfl, hb, _⟩
                          have D10 := Lib.hid hb
                          clear hb D9
                          have hge := eq33_same sv LS.out
                          have hgd := Try.guard33
                          go_wp2_with (first
                            | (refine wpList_store_all rfl 33 (.tmp 20) (.tmp 162) rfl w10.heap.size (u8s Z) (u8s sv) 33 (row_new w10 (u8s Z) 33) (UZ.out.trans US.out.symm) rfl rfl (by rw [US.out]; exact Try.size33) (u8s_one _) ?_; intro w11 G11; have D11 := Lib.hid (D10.out.var G11.out); clear G11)
                            | (refine wpList_load_mid rfl 33 (.tmp 20) rfl w10.heap.size 0 rfl (u8s sv) _ (range_block (D11.out.get (q := w10.heap.size) (o := .cells (u8s sv).toArray 33) (by simp)) 0 _ (fun j v hv => by rw [Nat.zero_add]; exact hv)) Try.underlying33 rfl (by rw [US.out]; exact Try.size33) ?_)
                            | (refine wpList_load_mid rfl 33 (.tmp 19) rfl w6.heap.size 0 rfl (u8s sv) _ (range_block (D11.out.get (q := w6.heap.size) (o := .cells (u8s sv).toArray 33) (by simp)) 0 _ (fun j v hv => by rw [Nat.zero_add]; exact hv)) Try.underlying33 rfl (by rw [US.out]; exact Try.size33) ?_))
                          go_roundw
                          case measure => simp [intOf]; omega
                          case rel => exact ⟨i + 1, by omega, by go_num, Lib.hid D11.out.none⟩
                    · go_wp2_with (first
                        | (refine wpList_store_all rfl 33 (.tmp 19) (.tmp 138) rfl w6.heap.size (u8s Z) (u8s Z) 33 (row_new w6 (u8s Z) 33) rfl rfl rfl (by rw [UZ.out]; exact Try.size33) (u8s_one _) ?_; intro w9 G9; have D9 := Lib.hid (D6.out.var G9.out); have ci := (D9.out.below.cell (p := ⟨b0, o0 + i, none⟩) hb0).trans HC0.out; clear G9))
                      have HR0 := Lib.hid (show sE.read i = (Z, 0) from HRD.out.trans (by rw [if_neg (fun h => by cases h.1), ← HZ.out]))
                      refine (stepR D9.out i hIi.out Z 0 HR0.out).mono ?_
                      rintro E w10 ⟨rfl, hb, _⟩
                      have D10 := Lib.hid hb
                      clear hb D9 ci
                      have hge := eq33_same Z LZ.out
                      have hgd := Try.guard33
                      go_wp2_with (first
                        | (refine wpList_store_all rfl 33 (.tmp 20) (.tmp 162) rfl w10.heap.size (u8s Z) (u8s Z) 33 (row_new w10 (u8s Z) 33) (UZ.out.trans UZ.out.symm) rfl rfl (by rw [UZ.out]; exact Try.size33) (u8s_one _) ?_; intro w11 G11; have D11 := Lib.hid (D10.out.var G11.out); clear G11)
                        | (refine wpList_load_mid rfl 33 (.tmp 20) rfl w10.heap.size 0 rfl (u8s Z) _ (range_block (D11.out.get (q := w10.heap.size) (o := .cells (u8s Z).toArray 33) (by simp)) 0 _ (fun j v hv => by rw [Nat.zero_add]; exact hv)) Try.underlying33 rfl (by rw [UZ.out]; exact Try.size33) ?_)
                        | (refine wpList_load_mid rfl 33 (.tmp 19) rfl w6.heap.size 0 rfl (u8s Z) _ (range_block (D11.out.get (q := w6.heap.size) (o := .cells (u8s Z).toArray 33) (by simp)) 0 _ (fun j v hv => by rw [Nat.zero_add]; exact hv)) Try.underlying33 rfl (by rw [UZ.out]; exact Try.size33) ?_))
                      go_roundw
                      case measure => simp [intOf]; omega
                      case rel => exact ⟨i + 1, by omega, by go_num, Lib.hid D11.out.none⟩
                  · obtain rfl : i = j + 1 := by omega
                    go_wp2_with fail
                    refine (HW.out _).mono ?_
                    rintro E w9 ⟨rfl, hb⟩
                    go_wp2_with fail
                    go_ret
                    exact ⟨rfl, D5.out.below.trans (hb.mono D5.out.below.size)⟩
end Go.Proofs.Ythbbghkefekhfaa
