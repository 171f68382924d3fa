/-
  What is proved: whether two rows of records are the same. Conditions as stated.
-/
import Derived.Test.YtfegffdhlkhjbaaBm
namespace Go.Proofs.Ytfegffdhlkhjbaa
open Go.RowKit
set_option maxRecDepth 100000

theorem str_list (bs : List UInt8) : (Oct.str bs).toList = bs := by rw [ByteArray.toList_eq]; rfl
theorem rd_any {P : Nat → Prop} {w : World} {A : Option Addr} {n : Nat} {bs : List UInt8} (h : Rd P w A n bs) (q : Nat) : Oct.Rd (w.drewN q) A n bs := rd_rd h

set_option maxHeartbeats 4000000 in
theorem same_b {P P' : Nat → Prop} {w : World} {A A' : Option Addr} {n n' c c' : Nat} {rs rs' : List (List UInt8)} (h : Rows P w A n rs) (h' : Rows P' w A' n' rs') (hs : Sl A n c) (hs' : Sl A' n' c') :
    Calls Try.prog 13 #[.slice A n c, .slice A' n' c'] w fun E w' => E = .returned (.bool (decide (rs = rs'))) ∧ Below w.heap.size w w' := by
  have hl := h.1
  have hl' := h'.1
  have hsc := hs.2
  have hsc' := hs'.2
  by_cases hn : n = n'
  · subst hn
    have H := Lib.hid h
    have H' := Lib.hid h'
    have HL : Hid (rs.length = n ∧ rs'.length = n) := Lib.hid ⟨hl, hl'⟩
    clear h h' hl hl' hs hs'
    go_enter Try.func13, Try.ntmps13
    go_wp2_with fail
    go_loopw [5] (fun v5 wr => ∃ k : Nat, k ≤ n ∧ v5 = .int .i64 (k : Int) ∧ Hid (rs.take k = rs'.take k) ∧ Hid (Below w.heap.size w wr)) (fun v5 _ => n - (intOf v5).toNat)
    case atStart => exact ⟨0, by omega, rfl, Lib.hid rfl, Lib.hid (Below.refl _ _)⟩
    case round =>
      obtain ⟨k, hk, rfl, HK, HB⟩ := hrel
      by_cases hkk : k < n
      · obtain ⟨r, hr⟩ : ∃ r, rs[k]? = some r := ⟨_, List.getElem?_eq_getElem (by have := HL.out; omega)⟩
        obtain ⟨r', hr'⟩ : ∃ r', rs'[k]? = some r' := ⟨_, List.getElem?_eq_getElem (by have := HL.out; omega)⟩
        obtain ⟨b, o, Aj, cj, rfl, -, -, hc1, hrd, -⟩ := (H.out.kept (P' := P) (w' := wr) fun x hx hlt => ⟨hx, HB.out.block x hlt⟩).at hr
        obtain ⟨b', o', Aj', cj', rfl, -, -, hc1', hrd', -⟩ := (H'.out.kept (P' := P') (w' := wr) fun x hx hlt => ⟨hx, HB.out.block x hlt⟩).at hr'
        have hrun := fun i => run_str cj (rd_any hrd i)
        have hrun' := fun i => run_str cj' (rd_any hrd' i)
        obtain ⟨m, hm⟩ : ∃ m, m = r.length := ⟨_, rfl⟩
        obtain ⟨m', hm'⟩ : ∃ m', m' = r'.length := ⟨_, rfl⟩
        rw [← hm] at hc1 hrun
        rw [← hm'] at hc1' hrun'
        have HR : Hid (rs[k]? = some r ∧ rs'[k]? = some r') := Lib.hid ⟨hr, hr'⟩
        clear hm hm' hrd hrd' hr hr'
        by_cases he : r = r'
        · subst he
          obtain ⟨S, hS⟩ : ∃ S, S = Oct.str r := ⟨_, rfl⟩
          rw [← hS] at hrun hrun'
          clear hS
          go_wp2_with fail
          go_quiet (fail)
          go_wp2_with fail
          go_roundw
          case measure => simp [intOf]; omega
          case rel => exact ⟨k + 1, by omega, by go_num, Lib.hid (by rw [List.take_add_one, List.take_add_one, HK.out, HR.out.1, HR.out.2]), Lib.hid (HB.out.trans (c := wr.drewN nq) ⟨rfl, rfl, rfl, Nat.le_refl _, fun _ _ => rfl⟩)⟩
        · obtain ⟨S, hS⟩ : ∃ S, S = Oct.str r := ⟨_, rfl⟩
          obtain ⟨S', hS'⟩ : ∃ S, S = Oct.str r' := ⟨_, rfl⟩
          have hne : (S.toList == S'.toList) = false := by rw [hS, hS', str_list, str_list]; simpa using he
          rw [← hS] at hrun
          rw [← hS'] at hrun'
          have HF : Hid (decide (rs = rs') = false) := Lib.hid (by
            rw [decide_eq_false_iff_not]
            intro e
            rw [e] at HR
            have := HR.out.1.symm.trans HR.out.2
            injection this with this
            exact he this)
          clear hS hS' he
          go_wp2_with fail
          go_quiet (fail)
          go_wp2_with fail
          go_ret
          rw [HF.out]
          exact ⟨rfl, HB.out.trans (c := wr.drewN nq) ⟨rfl, rfl, rfl, Nat.le_refl _, fun _ _ => rfl⟩⟩
      · obtain rfl : k = n := by omega
        have HT : Hid (decide (rs = rs') = true) := Lib.hid (by
          rw [decide_eq_true_eq]
          have h1 := HK.out
          rwa [List.take_of_length_le (by have := HL.out; omega), List.take_of_length_le (by have := HL.out; omega)] at h1)
        go_wp2_with fail
        go_ret
        rw [HT.out]
        exact ⟨rfl, HB.out⟩
  · have HF : Hid (decide (rs = rs') = false) := Lib.hid (by
      rw [decide_eq_false_iff_not]
      intro e
      rw [e] at hl
      omega)
    clear h h' hl hl'
    go_enter Try.func13, Try.ntmps13
    go_wp2_with fail
    go_ret
    rw [HF.out]
    exact ⟨rfl, Below.refl _ _⟩
end Go.Proofs.Ytfegffdhlkhjbaa
