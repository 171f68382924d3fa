/-
  What is proved: the sum of items, whether items may be, Of. Conditions as stated.
-/
import Derived.Test.YtflenghnmflenaaDoorMk
namespace Go.Proofs.YtflenghnmflenaaDoor
open Go.RowKit
set_option maxRecDepth 100000

set_option maxHeartbeats 4000000 in
theorem mayItems_any (A : Option Addr) (c : Nat) (xs : List It) (w : World) (h : Its w A xs) (hn : xs.length ≤ 1000) :
    Calls Tryd.prog 30 #[.slice A xs.length c] w fun E w' => E = .returned (.bool (mayI ByteArray.empty xs)) ∧ Below w.heap.size w w' := by
  have HX := Lib.hid h
  obtain ⟨n, hnn⟩ : ∃ n, n = xs.length := ⟨_, rfl⟩
  have HL := Lib.hid hnn
  have HB0 := Lib.hid (Below.refl w.heap.size w)
  obtain ⟨z, hz⟩ : ∃ z, z = mayI ByteArray.empty xs := ⟨_, rfl⟩
  have HZ := Lib.hid hz
  rw [← hz]
  rw [← hnn] at hn ⊢
  clear h hnn hz
  have HK := Lib.hid mayK_any
  have HV := Lib.hid mayV_any
  go_enter Tryd.func30, Tryd.ntmps30
  go_wp2_with fail
  go_loopw [3, 8] (fun v3 v8 wr => ∃ (j : Nat) (l : ByteArray), j ≤ n ∧ v3 = .string l ∧ v8 = .int .i64 (j : Int) ∧ Hid (z = mayI l (xs.drop j) ∧ Below w.heap.size w wr)) (fun _ v8 _ => n - (intOf v8).toNat)
  case atStart => exact ⟨0, ⟨#[]⟩, by omega, rfl, rfl, Lib.hid ⟨HZ.out, HB0.out⟩⟩
  case round =>
    obtain ⟨j, l, hj, rfl, rfl, HR⟩ := hrel
    by_cases hjj : j < n
    · obtain ⟨b, o, rfl, hbl, hc⟩ := HX.out (by rw [← HL.out]; omega)
      obtain ⟨p, hp⟩ : ∃ p, xs[j]? = some p := ⟨_, List.getElem?_eq_getElem (by rw [← HL.out]; exact hjj)⟩
      have c0 : wr.cell? ⟨b, o + j * 2, none⟩ = some (.string p.1) := (HR.out.2.cell (p := ⟨b, o + j * 2, none⟩) hbl).trans (hc j p hp).1
      have c1 : wr.cell? ⟨b, o + j * 2 + 1, none⟩ = some (.string p.2) := (HR.out.2.cell (p := ⟨b, o + j * 2 + 1, none⟩) hbl).trans (hc j p hp).2
      have HM : Hid (z = (klt l p.1 && (mayK p.1 && (mayV p.2 && mayI p.1 (xs.drop (j + 1)))))) := Lib.hid (by rw [HR.out.1, mayI_at hp])
      have HB := Lib.hid HR.out.2
      clear hc hp HR
      cases hk : klt l p.1 with
      | false =>
        have HF : Hid (z = false) := Lib.hid (by rw [HM.out, hk]; rfl)
        cases hbl2 : Op.bytesLess p.1.toList l.toList with
        | true =>
          clear hk
          go_wp2_with fail
          go_ret
          exact ⟨ret_bool HF.out.symm, HB.out.alloc (HB.out.size) _⟩
        | false =>
          have he : (p.1.toList == l.toList) = true := by
            have := klt_total hbl2 hk
            rw [this]; simp
          clear hk
          go_wp2_with fail
          go_ret
          exact ⟨ret_bool HF.out.symm, HB.out.alloc (HB.out.size) _⟩
      | true =>
        have hbl2 : Op.bytesLess p.1.toList l.toList = false := klt_asymm (a := l) (b := p.1) hk
        have he : (p.1.toList == l.toList) = false := by
          cases e : p.1.toList == l.toList with
          | false => rfl
          | true =>
            have : p.1 = l := toList_inj (by simpa using e)
            rw [this, klt_irrefl] at hk; cases hk
        have HM2 : Hid (z = (mayK p.1 && (mayV p.2 && mayI p.1 (xs.drop (j + 1))))) := Lib.hid (by rw [HM.out, hk]; rfl)
        obtain ⟨q, hq⟩ : ∃ q, q = mayK p.1 := ⟨_, rfl⟩
        have HQ := Lib.hid hq
        obtain ⟨v, hv⟩ : ∃ v, v = mayV p.2 := ⟨_, rfl⟩
        have HVq := Lib.hid hv
        have HK1 : Hid (∀ W, Calls Tryd.prog 40 #[.string p.1] W fun E w' => E = .returned (.bool q) ∧ W = w') := Lib.hid (by rw [hq]; exact HK.out p.1)
        have HV1 : Hid (∀ W, Calls Tryd.prog 41 #[.string p.2] W fun E w' => E = .returned (.bool v) ∧ W = w') := Lib.hid (by rw [hv]; exact HV.out p.2)
        have HB2 : Hid (Below w.heap.size w (wr.alloc (.cells #[.string p.1, .string p.2] 64))) := Lib.hid (HB.out.alloc (HB.out.size) _)
        clear hk hq hv HM HB
        cases q with
        | false =>
          have HF : Hid (z = false) := Lib.hid (by rw [HM2.out, ← HQ.out]; rfl)
          go_wp2_with (go_at_call 40; refine (HK1.out _).mono ?_; rintro E w1 ⟨rfl, rfl⟩)
          go_ret
          exact ⟨ret_bool HF.out.symm, HB2.out⟩
        | true =>
          cases v with
          | false =>
            have HF : Hid (z = false) := Lib.hid (by rw [HM2.out, ← HQ.out, ← HVq.out]; rfl)
            go_wp2_with (first | (go_at_call 40; refine (HK1.out _).mono ?_; rintro E w1 ⟨rfl, rfl⟩) | (go_at_call 41; refine (HV1.out _).mono ?_; rintro E w1 ⟨rfl, rfl⟩))
            go_ret
            exact ⟨ret_bool HF.out.symm, HB2.out⟩
          | true =>
            have HF : Hid (z = mayI p.1 (xs.drop (j + 1))) := Lib.hid (by rw [HM2.out, ← HQ.out, ← HVq.out]; rfl)
            go_wp2_with (first | (go_at_call 40; refine (HK1.out _).mono ?_; rintro E w1 ⟨rfl, rfl⟩) | (go_at_call 41; refine (HV1.out _).mono ?_; rintro E w1 ⟨rfl, rfl⟩))
            go_roundw
            case measure => simp [intOf] <;> omega
            case rel => exact ⟨j + 1, p.1, by omega, rfl, by go_num, Lib.hid ⟨HF.out, HB2.out⟩⟩
    · obtain rfl : j = n := by omega
      have HT : Hid (z = true) := Lib.hid (by rw [HR.out.1, List.drop_of_length_le (by rw [← HL.out]; exact Nat.le_refl _)]; rfl)
      go_wp2_with fail
      go_ret
      exact ⟨ret_bool HT.out.symm, HR.out.2⟩
end Go.Proofs.YtflenghnmflenaaDoor
