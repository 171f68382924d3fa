/-
  What is proved: what is done with a message that was got, and with the bytes, says nothing to the other (MessageOwn). Conditions as stated.
-/
import Derived.Test.YtghjogneogkpoaaGreatDoorGoc
namespace Go.Proofs.YtghjogneogkpoaaGreatDoor.Sh
open Go.RowKit
set_option maxRecDepth 100000


theorem QOw.row {B c : Nat} {W : World} {A : Option Addr} {qs : List (Int × Nat)} (h : QOw B W A c qs) : ∃ gq C, 0 < qs.length → A = some ⟨gq, 0, none⟩ ∧ B ≤ gq ∧ Bk W gq C 54 ∧ ∀ (j : Nat) (p : Int × Nat), qs[j]? = some p → C[j * 2 + 1]? = some (.int .u64 (p.2 : Int)) := by
  rcases h.2 with ⟨_, h2⟩ | ⟨g, cap, cur, h1, h2, h3, h4, h5, h6, h7⟩
  · exact ⟨0, [], fun h => by omega⟩
  · injection h1 with h1
    refine ⟨g, cur.toList, fun _ => ⟨h1, h2, by simpa [Bk] using h3, fun j p hj => ?_⟩⟩
    have := (prsC_at hj).2
    rw [← h7, List.getElem?_take] at this
    split at this
    · exact this
    · cases this
theorem Ow.row {B n c : Nat} {W : World} {A : Option Addr} {bs : List UInt8} (h : Ow B W A n c bs) (hn : 0 < n) : ∃ gb C, A = some ⟨gb, 0, none⟩ ∧ B ≤ gb ∧ Bk W gb C 5 ∧ ∀ (j : Nat) (u : UInt8), bs[j]? = some u → C[j]? = some (.int .u8 (u.toNat : Int)) := by
  rcases h.1.2 with ⟨_, h2⟩ | ⟨g, cap, cur, h1, h2, h3, h4, h5, h6, h7⟩
  · omega
  · injection h1 with h1
    refine ⟨g, cur.toList, h1, h2, by simpa [Bk] using h3, fun j u hj => ?_⟩
    have : (u8s bs)[j]? = some (.int .u8 (u.toNat : Int)) := by simp [u8s, hj]
    rw [← h7, List.getElem?_take] at this
    split at this
    · exact this
    · cases this
theorem Bk.setv {W : World} {g : Nat} {C : List Value} {t : TypeId} (h : Bk W g C t) (k : Nat) (v : Value) : Bk (W.setCell ⟨g, k, none⟩ v) g (C.set k v) t := heap_set h v
theorem Bk.at {W : World} {g k : Nat} {C : List Value} {t : TypeId} {v : Value} (h : Bk W g C t) (hv : C[k]? = some v) : W.cell? ⟨g, k, none⟩ = some v := block_cell h k v hv
set_option maxHeartbeats 8000000 in
theorem own_yes (m : MMsg) (P : List UInt8) (k : Nat) (w : World) (hm : m.Wf) (HK : Hid (m.body.qs.length = k)) (HPB : Hid (P.length ≤ 2000))
    (HP : Hid (m.body.qs.length ≤ 40 → ∀ W, Below w.heap.size w W → Calls Tryz.prog 17 #[.agg (msgC m).toArray] W fun E w' => ∃ A n c, E = .returned (.slice A n c) ∧ Hid (Ow W.heap.size w' A n c P) ∧ Hid (Below W.heap.size W w')))
    (HG : Hid (∀ (A : Option Addr) (n c : Nat) (W : World), ∀ {B : Nat}, Ow B W A n c P → Calls Tryz.prog 21 #[.slice A n c] W fun E w' => ∃ A7 c7, E = .returned (.tuple #[.agg (msgC (wq m A7 c7)).toArray, .int .i64 0]) ∧ Hid (QOw W.heap.size w' A7 c7 m.body.qs) ∧ Hid (Below W.heap.size W w')))
    (HS : Hid (∀ (A : Option Addr) (c B : Nat) (W : World), QOw B W A c m.body.qs → Below w.heap.size w W → Calls Tryz.prog 25 #[.agg (msgC (wq m A c)).toArray, .agg (msgC m).toArray] W fun E w' => E = .returned (.bool true) ∧ Hid (Below W.heap.size W w')))
    (HF0 : Hid (∀ W, Below w.heap.size w W → Calls Tryz.prog 10 #[.agg (msgC m).toArray] W fun E w' => (∃ z, E = .returned (.bool z) ∧ (z = true → m.body.qs.length ≤ 40)) ∧ Hid (Below W.heap.size W w')))
    (HW : Hid (∀ W, Below w.heap.size w W → Calls Tryz.prog 11 #[] W fun E w' => E = .returned (.bool true) ∧ Hid (Below W.heap.size W w'))) :
    Calls Tryz.prog 9 #[.agg (msgC m).toArray] w fun E w' => E = .returned (.bool true) ∧ Below w.heap.size w w' := by
  have HKV : Hid (∀ A c, (wq m A c).body.qv = .slice A k c) := Lib.hid fun A c => by rw [MBody.qv, ← HK.out]; rfl
  have HWQ : Hid (∀ A c, (wq m A c).Wf) := Lib.hid fun A c => hm
  obtain ⟨pS, hpS⟩ : ∃ S, str P = S := ⟨_, rfl⟩
  have HPS := Lib.hid hpS
  clear hpS
  have HI : Hid ((Tryz.prog.info? 34).map (·.size) = some (msgC m).length) := Lib.hid (by rw [msgC_length hm]; exact Tryz.is34)
  have HX : Hid (∀ x : MMsg, x.Wf → 0 + (msgC x).length ≤ (msgC zeroMsg).length ∧ setAll (msgC zeroMsg) 0 (msgC x) = msgC x ∧ (Tryz.prog.info? 34).map (·.size) = some (msgC x).length) := Lib.hid fun x hx => ⟨by rw [msgC_length zeroM_wf, msgC_length hx]; omega, setAll_all (by rw [msgC_length zeroM_wf, msgC_length hx]), by rw [msgC_length hx]; exact Tryz.is34⟩
  have hz : ∀ w, (zeroValue 34).run Tryz.prog w = .ok (.agg (msgC zeroMsg).toArray) w := zero_msg
  have H0 : Hid (RqAt w.heap.size w (msgC m) (w.alloc (.cells (msgC m).toArray 34))) := Lib.hid ⟨(Below.refl _ _).alloc (Nat.le_refl _) _, by simp, range_box w (msgC m) 34⟩
  have HMW := Lib.hid hm
  clear hm
  go_enter Tryz.func9, Tryz.ntmps9
  go_wp2_with (((with_reducible refine wpList_load_midG ?_ 34 (.tmp 1) ?_ w.heap.size 0 ?_ (msgC m) _ ?_ Tryz.underlying34 ?_ ?_ ?_); (· rfl); (· rfl); (· rfl); (· exact H0.out.src); (· rfl); (· exact HI.out)))
  go_at_call 10
  with_reducible refine (HF0.out _ H0.out.bel).mono ?_
  rintro E w1 ⟨⟨z, rfl, hz1⟩, b1⟩
  have H1 := Lib.hid (H0.out.next (Nat.le_refl _) b1.out)
  cases z
  · go_wp2_with ((go_at_call 11; (with_reducible refine (HW.out _ H1.out.bel).mono ?_); rintro E w7 ⟨rfl, b7⟩; have H7 := Lib.hid (H1.out.next (Nat.le_refl _) b7.out)))
    go_ret
    exact ⟨rfl, H7.out.bel⟩
  · have HZ := Lib.hid (hz1 rfl)
    clear hz1
    go_wp2_with (first | ((with_reducible refine wpList_load_midG ?_ 34 (.tmp 1) ?_ w.heap.size 0 ?_ (msgC m) _ ?_ Tryz.underlying34 ?_ ?_ ?_); (· rfl); (· rfl); (· rfl); (· exact H1.out.src); (· rfl); (· exact HI.out)) | (go_at_call 17; (with_reducible refine (HP.out HZ.out _ H1.out.bel).mono ?_); rintro E w2 ⟨A2, n2, c2, rfl, O2, b2⟩; have H2 := Lib.hid (H1.out.next (Nat.le_refl _) b2.out)) | (go_at_call 21; (with_reducible refine (HG.out _ _ _ _ O2.out).mono ?_); rintro E w3 ⟨A7, c7, rfl, Q3, b3⟩; have H3 := Lib.hid (H2.out.next (Nat.le_refl _) b3.out)) | ((with_reducible refine wpList_store_part ?_ 34 (.tmp 4) (.tmp 20) ?_ w3.heap.size 0 (msgC zeroMsg) (msgC (wq m A7 c7)) (msgC (wq m A7 c7)) 34 ?_ ?_ ?_ ?_ ?_ ?_ ?_ ?_); (· rfl); (· rfl); (· exact heap_alloc_new w3 _); (· exact (HX.out _ (by first | exact HMW.out | exact zeroM_wf)).1); (· exact (HX.out _ (by first | exact HMW.out | exact zeroM_wf)).2.1); (· rfl); (· rfl); (· exact (HX.out _ (by first | exact HMW.out | exact zeroM_wf)).2.2); (· exact one_msgC _); intro w4 G4; have b4 := Lib.hid (below_made G4.out.2); have H4 := Lib.hid (H3.out.next (Nat.le_refl _) b4.out); have X4 : Hid (Bk w4 w3.heap.size (msgC (wq m A7 c7)) 34) := Lib.hid G4.out.1; have O4 := Lib.hid ((O2.out.below b3.out).below b4.out); have hc4 := run_string (c := c2) O4.out.rd; rw [HPS.out] at hc4; have e4 : w4.cell? ⟨w3.heap.size, 56, none⟩ = some (.slice A7 k c7) := (msg_lies X4.out.src (HWQ.out A7 c7)).body.q.trans (by rw [HKV.out])))
    have hk40 : k ≤ 40 := by rw [← HK.out]; exact HZ.out
    have hn2 : n2 ≤ 2000 := by rw [← O2.out.len]; exact HPB.out
    have B4 : Hid (Below w2.heap.size w2 w4) := Lib.hid (b3.out.trans (b4.out.mono b3.out.size))
    obtain ⟨gq, C0, hrow⟩ := QOw.row (Q3.out.below b4.out)
    have HQR : Hid (0 < k → A7 = some ⟨gq, 0, none⟩ ∧ w2.heap.size ≤ gq ∧ gq < w3.heap.size) := Lib.hid fun h => by
      have h1 := hrow (by rw [HK.out]; exact h)
      have h2 := Q3.out.row
      rcases Q3.out.2 with ⟨_, h3⟩ | ⟨g, cap, cur, h3, h4, h5, _⟩
      · have := HK.out; omega
      · injection h3 with h3
        rw [h1.1] at h3
        injection h3 with h3
        injection h3 with h3
        exact ⟨h1.1, h1.2.1, by rw [h3]; exact (Array.getElem?_eq_some_iff.1 h5).1⟩
    have D4 : Hid (Below w2.heap.size w2 w4 ∧ Bk w4 w3.heap.size (msgC (wq m A7 c7)) 34 ∧ (0 < k → Bk w4 gq C0 54 ∧ ∀ (j : Nat) (p : Int × Nat), 0 ≤ j → m.body.qs[j]? = some p → C0[j * 2 + 1]? = some (.int .u64 (p.2 : Int)))) := Lib.hid ⟨B4.out, X4.out, fun h => ⟨(hrow (by rw [HK.out]; exact h)).2.2.1, fun j p _ hj => (hrow (by rw [HK.out]; exact h)).2.2.2 j p hj⟩⟩
    clear hrow X4 e4 hc4 G4 H4 b4 O4 B4
    have hg3 : w2.heap.size ≤ w3.heap.size := b3.out.size
    generalize w3.heap.size = gx at D4 HQR hg3 ⊢
    go_loopw [7] (fun v7 wr => ∃ i : Nat, i ≤ k ∧ v7 = .int .i64 (i : Int) ∧ ∃ C, Hid (Below w2.heap.size w2 wr ∧ Bk wr gx (msgC (wq m A7 c7)) 34 ∧ (0 < k → Bk wr gq C 54 ∧ ∀ (j : Nat) (p : Int × Nat), i ≤ j → m.body.qs[j]? = some p → C[j * 2 + 1]? = some (.int .u64 (p.2 : Int))))) (fun v7 _ => k - (intOf v7).toNat)
    case atStart => exact ⟨0, by omega, rfl, C0, D4⟩
    case round =>
      clear D4
      obtain ⟨i, hi, rfl, C, D⟩ := hrel
      have e4 : wr.cell? ⟨gx, 56, none⟩ = some (.slice A7 k c7) := (msg_lies D.out.2.1.src (HWQ.out A7 c7)).body.q.trans (by rw [HKV.out])
      by_cases hik : i < k
      · obtain ⟨p, hp⟩ : ∃ p, m.body.qs[i]? = some p := ⟨_, List.getElem?_eq_getElem (by rw [HK.out]; exact hik)⟩
        obtain ⟨hA, hq1, hq2⟩ := HQR.out (by omega)
        obtain ⟨hB, hC⟩ := D.out.2.2 (by omega)
        have HCI := Lib.hid (hC i p (Nat.le_refl _) hp)
        have HB := Lib.hid hB
        have HC := Lib.hid hC
        have HGL := Lib.hid (And.intro hq1 hq2)
        rw [hA] at e4
        have cq := HB.out.at HCI.out
        have hf := fun j => free_block HB.out j
        have hik2 : (i : Int) < (k : Int) := by omega
        clear hp hA hB hC hq1 hq2
        obtain ⟨px, py⟩ := p
        dsimp only at cq
        go_wp2_with fail
        go_roundw
        case measure => simp [intOf] <;> omega
        case rel =>
          refine ⟨i + 1, by omega, by go_num, C.set (i * 2 + 1) (.int .u64 (IntKind.u64.wrap ((py : Int) + 1))), Lib.hid ⟨D.out.1.grown (gb_set _ _ _ _) D.out.1.size (fun j hj => by injection hj with hj; have := HGL.out.1; omega), D.out.2.1.other (gb_set _ _ _ _) (by have := HGL.out.2; omega), fun _ => ⟨HB.out.setv _ _, fun j p hij hj => ?_⟩⟩⟩
          have hne : i * 2 + 1 ≠ j * 2 + 1 := by omega
          rw [List.getElem?_set_ne hne]
          exact HC.out j p (by omega) hj
      · obtain rfl : i = k := by omega
        have O5 := Lib.hid (O2.out.below D.out.1)
        have H5 := Lib.hid (H2.out.next (Nat.le_refl _) D.out.1)
        have hs5 := D.out.1.size
        have hc5 := run_string (c := c2) O5.out.rd
        rw [HPS.out] at hc5
        go_wp2_with (first | (go_at_call 21; (with_reducible refine (HG.out _ _ _ _ O5.out).mono ?_); rintro E w6 ⟨A8, c8, rfl, Q8, b6⟩; have H6 := Lib.hid (H5.out.next (Nat.le_refl _) b6.out)) | ((with_reducible refine wpList_store_part ?_ 34 (.tmp 8) (.tmp 57) ?_ w6.heap.size 0 (msgC zeroMsg) (msgC (wq m A8 c8)) (msgC (wq m A8 c8)) 34 ?_ ?_ ?_ ?_ ?_ ?_ ?_ ?_); (· rfl); (· rfl); (· exact heap_alloc_new w6 _); (· exact (HX.out _ (by first | exact HMW.out | exact zeroM_wf)).1); (· exact (HX.out _ (by first | exact HMW.out | exact zeroM_wf)).2.1); (· rfl); (· rfl); (· exact (HX.out _ (by first | exact HMW.out | exact zeroM_wf)).2.2); (· exact one_msgC _); intro w7 G7; have b7 := Lib.hid (below_made G7.out.2); have H7 := Lib.hid (H6.out.next (Nat.le_refl _) b7.out); have Y7 : Hid (Bk w7 w6.heap.size (msgC (wq m A8 c8)) 34) := Lib.hid G7.out.1))
        obtain ⟨gb, C0, hrow⟩ : ∃ gb C, 0 < n2 → A2 = some ⟨gb, 0, none⟩ ∧ w1.heap.size ≤ gb ∧ gb < w2.heap.size ∧ Bk w7 gb C 5 ∧ ∀ (j : Nat) (u : UInt8), P[j]? = some u → C[j]? = some (.int .u8 (u.toNat : Int)) := by
          by_cases h : 0 < n2
          · obtain ⟨gb, C, h1, h2, h3, h4⟩ := O2.out.row h
            exact ⟨gb, C, fun _ => ⟨h1, h2, h3.lt, h3.below (D.out.1.trans ((b6.out.trans (b7.out.mono b6.out.size)).mono hs5)) h3.lt, h4⟩⟩
          · exact ⟨0, [], fun h' => absurd h' h⟩
        have HRW := Lib.hid (fun h : 0 < n2 => And.intro (hrow h).1 (And.intro (hrow h).2.1 (hrow h).2.2.1))
        have E7 : Hid (RqAt w.heap.size w (msgC m) w7 ∧ Bk w7 w6.heap.size (msgC (wq m A8 c8)) 34 ∧ QOw wr.heap.size w7 A8 c8 m.body.qs ∧ (0 < n2 → Bk w7 gb C0 5 ∧ ∀ (j : Nat) (u : UInt8), 0 ≤ j → P[j]? = some u → C0[j]? = some (.int .u8 (u.toNat : Int)))) := Lib.hid ⟨H7.out, Y7.out, Q8.out.below b7.out, fun h => ⟨(hrow h).2.2.2.1, fun j u _ hj => (hrow h).2.2.2.2 j u hj⟩⟩
        have hs6 : wr.heap.size ≤ w6.heap.size := b6.out.size
        have HPL : Hid (P.length = n2) := Lib.hid O2.out.len
        have h1lt := H1.out.lt
        clear hrow Y7 H7 G7 b7 hc5 D
        generalize w6.heap.size = gy at E7 hs6 ⊢
        generalize wr.heap.size = hq at E7 hs6 hs5
        go_loopw [10] (fun v10 wq2 => ∃ i2 : Nat, i2 ≤ n2 ∧ v10 = .int .i64 (i2 : Int) ∧ ∃ C, Hid (RqAt w.heap.size w (msgC m) wq2 ∧ Bk wq2 gy (msgC (wq m A8 c8)) 34 ∧ QOw hq wq2 A8 c8 m.body.qs ∧ (0 < n2 → Bk wq2 gb C 5 ∧ ∀ (j : Nat) (u : UInt8), i2 ≤ j → P[j]? = some u → C[j]? = some (.int .u8 (u.toNat : Int))))) (fun v10 _ => n2 - (intOf v10).toNat)
        case atStart => exact ⟨0, by omega, rfl, C0, E7⟩
        case round =>
          clear E7
          obtain ⟨i2, hi2, rfl, C, D⟩ := hrel
          by_cases hin : i2 < n2
          · obtain ⟨u, hu⟩ : ∃ u, P[i2]? = some u := ⟨_, List.getElem?_eq_getElem (by rw [HPL.out]; exact hin)⟩
            obtain ⟨hA, hq1, hq2⟩ := HRW.out (by omega)
            obtain ⟨hB, hC⟩ := D.out.2.2.2 (by omega)
            have HCI := Lib.hid (hC i2 u (Nat.le_refl _) hu)
            have HB := Lib.hid hB
            have HC := Lib.hid hC
            have HGL := Lib.hid (And.intro hq1 hq2)
            rw [hA]
            have cq := HB.out.at HCI.out
            have hf := fun j => free_block HB.out j
            have hik2 : (i2 : Int) < (n2 : Int) := by omega
            clear hu hA hB hC hq1 hq2
            go_wp2_with fail
            go_roundw
            case measure => simp [intOf] <;> omega
            case rel =>
              refine ⟨i2 + 1, by omega, by go_num, C.set i2 (.int .u8 (IntKind.u8.wrap ((u.toNat : Int) + 1))), Lib.hid ⟨D.out.1.far (Nat.le_refl _) (by have := HGL.out.1; omega) (gb_set _ _ _ _), D.out.2.1.other (gb_set _ _ _ _) (by have := HGL.out.2; omega), D.out.2.2.1.far (gb_set _ _ _ _) (by have := HGL.out.2; omega), fun _ => ⟨HB.out.setv _ _, fun j v hij hj => ?_⟩⟩⟩
              have hne : i2 ≠ j := by omega
              rw [List.getElem?_set_ne hne]
              exact HC.out j v (by omega) hj
          · obtain rfl : i2 = n2 := by omega
            go_wp2_with (first | ((with_reducible refine wpList_load_midG ?_ 34 (.tmp 8) ?_ gy 0 ?_ (msgC (wq m A8 c8)) _ ?_ Tryz.underlying34 ?_ ?_ ?_); (· rfl); (· rfl); (· rfl); (· exact D.out.2.1.src); (· rfl); (· exact (HX.out (wq m A8 c8) HMW.out).2.2)) | ((with_reducible refine wpList_load_midG ?_ 34 (.tmp 1) ?_ w.heap.size 0 ?_ (msgC m) _ ?_ Tryz.underlying34 ?_ ?_ ?_); (· rfl); (· rfl); (· rfl); (· exact D.out.1.src); (· rfl); (· exact HI.out)) | (go_at_call 25; (with_reducible refine (HS.out _ _ _ _ D.out.2.2.1 D.out.1.bel).mono ?_); rintro E w8 ⟨rfl, b8⟩; have H8 := Lib.hid (D.out.1.next (Nat.le_refl _) b8.out)) | (go_at_call 11; (with_reducible refine (HW.out _ H8.out.bel).mono ?_); rintro E w9 ⟨rfl, b9⟩; have H9 := Lib.hid (H8.out.next (Nat.le_refl _) b9.out)))
            go_ret
            exact ⟨rfl, H9.out.bel⟩
end Go.Proofs.YtghjogneogkpoaaGreatDoor.Sh
