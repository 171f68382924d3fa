/-
  What is proved: what Text of the document's own cut answers. Conditions as stated.
-/
import Derived.Test.YthnmmhjnfhmleaaW
namespace Go.Proofs.Ythnmmhjnfhmleaa
open Go.RowKit

theorem tsz_not {rem : List UInt8} {most : Int} (h : fits rem false 2 = true → ¬ (num (tkOut rem false 2) : Int) ≤ most) : tsz rem most = -1 := by
  rw [tsz, if_neg]
  exact fun ⟨h1, h2⟩ => h h1 h2

/-- Text where nothing is told. -/
theorem refText_fail {hi : Nat} (g : Nat) (rem : List UInt8) (sp : Bool) (most : Int) (w : World) (h : RefAt w hi g rem sp)
    (hf : fits rem sp 2 = false ∨ most < (num (tkOut rem sp 2) : Int) ∨ ((tkRem rem sp 2).length : Int) < (num (tkOut rem sp 2) : Int)) :
    Calls Try.prog 24 #[.pointer (some ⟨g, 0, none⟩), .int .i64 most] w fun e w' => e = .returned (.string { data := #[] }) ∧ RefAt w' hi g rem true ∧ w.grownBy w' (some g) := by
  have hh := refHalf_cut g rem sp w h
  have hq2 : num (tkOut rem sp 2) < 65536 := num_out_lt rem sp 2
  obtain ⟨q, hq⟩ : ∃ q, q = num (tkOut rem sp 2) := ⟨_, rfl⟩
  obtain ⟨r, hr2⟩ : ∃ r, r = tkRem rem sp 2 := ⟨_, rfl⟩
  obtain ⟨f, hff⟩ : ∃ f, f = fits rem sp 2 := ⟨_, rfl⟩
  rw [← hq, ← hr2, ← hff] at hh hf
  rw [← hq] at hq2
  have HH := Lib.hid hh
  obtain ⟨A, n, c, hg, hr, hs, hn, hh9, hne⟩ := h
  obtain ⟨h0, h1, hz, hz1⟩ := refCells hg
  have HR : Hid (Rd w A n rem) := hr
  have HS : Hid (Sl A n c) := hs
  have HNE : Hid (0 < n → ∀ ad, A = some ad → ad.block < hi) := hne
  clear hh hq hr2 hff hg hr hs hne
  have fin : ∀ w1, RefAt w1 hi g r (!f) → w.grownBy w1 (some g) → RefAt ((w1.setCell ⟨g, 0, none⟩ (.slice A n c)).setCell ⟨g, 1, none⟩ (.bool true)) hi g rem true := by
    intro w1 k1 k2
    obtain ⟨A1, n1, c1, kg, _⟩ := k1
    have hrd : Rd w1 A n rem := by
      refine ⟨HR.out.1, fun hp => ?_⟩
      obtain ⟨b, o, rfl, hb, hc⟩ := HR.out.2 hp
      have hbg := HNE.out hp _ rfl
      exact ⟨b, o, rfl, Nat.lt_of_lt_of_le hb k2.size, fun j u hu => k2.cell (hc j u hu) (fun e => by injection e with e; simp only at e hbg; omega)⟩
    exact refSet1 (refSet0 kg hrd HS.out hn hh9 HNE.out)
  have FIN := Lib.hid fin
  clear fin
  have grow : Hid (∀ w1, w.grownBy w1 (some g) → w.grownBy ((w1.setCell ⟨g, 0, none⟩ (.slice A n c)).setCell ⟨g, 1, none⟩ (.bool true)) (some g)) := fun w1 k => grownBy_trans k (grownBy_trans (grownBy_set _ _ _ _) (grownBy_set _ _ _ _))
  cases f with
  | false =>
    clear hf
    go_enter Try.func24, Try.ntmps24
    go_wp2_with (go_at_call 20; refine HH.out.mono ?_; rintro e w1 ⟨rfl, hc1, hg1⟩; obtain ⟨A1, n1, c1, kg, _⟩ := id hc1; obtain ⟨x0, x1, y0, y1⟩ := refCells kg; clear kg)
    go_ret
    exact ⟨rfl, FIN.out _ hc1 hg1, grow.out _ hg1⟩
  | true =>
    by_cases hm : most < (q : Int)
    · clear hf
      go_enter Try.func24, Try.ntmps24
      go_wp2_with (go_at_call 20; refine HH.out.mono ?_; rintro e w1 ⟨rfl, hc1, hg1⟩; obtain ⟨A1, n1, c1, kg, _⟩ := id hc1; obtain ⟨x0, x1, y0, y1⟩ := refCells kg; clear kg)
      go_ret
      exact ⟨rfl, FIN.out _ hc1 hg1, grow.out _ hg1⟩
    · have hlt : (r.length : Int) < (q : Int) := by
        rcases hf with h | h | h
        · cases h
        · exact absurd h hm
        · exact h
      clear hf
      go_enter Try.func24, Try.ntmps24
      go_wp2_with (go_at_call 20; refine HH.out.mono ?_; rintro e w1 ⟨rfl, hc1, hg1⟩; obtain ⟨A1, n1, c1, kg, kr, _⟩ := id hc1; have hl1 : n1 = r.length := kr.1.symm; obtain ⟨x0, x1, y0, y1⟩ := refCells kg; rw [hl1] at x0; clear kg kr hl1)
      go_ret
      exact ⟨rfl, FIN.out _ hc1 hg1, grow.out _ hg1⟩

/-- Text where it is there whole. -/
theorem refText_there {hi : Nat} (g : Nat) (rem : List UInt8) (most : Int) (w : World) (h : RefAt w hi g rem false) (h2 : 2 ≤ rem.length) (hm : (num (rem.take 2) : Int) ≤ most) (hl : num (rem.take 2) ≤ (rem.drop 2).length) :
    Calls Try.prog 24 #[.pointer (some ⟨g, 0, none⟩), .int .i64 most] w fun e w' => e = .returned (.string (str ((rem.drop 2).take (num (rem.take 2))))) ∧ RefAt w' hi g ((rem.drop 2).drop (num (rem.take 2))) false ∧ w.grownBy w' (some g) := by
  have hf : fits rem false 2 = true := fits_yes' (k := 2) h2
  have hh := refHalf_cut g rem false w h
  have hq2 : num (rem.take 2) < 256 ^ 2 := Nat.lt_of_lt_of_le (num_lt _ _ rfl) (Nat.pow_le_pow_right (by decide) (by rw [List.length_take]; omega))
  have e1 : tkOut rem false 2 = rem.take 2 := by rw [tkOut, if_pos hf]; rfl
  have e2 : tkRem rem false 2 = rem.drop 2 := by rw [tkRem, if_pos hf]; rfl
  have e3 : fits rem false 2 = true := hf
  rw [e1, e2, e3] at hh
  obtain ⟨q, hq⟩ : ∃ q, q = num (rem.take 2) := ⟨_, rfl⟩
  obtain ⟨r, hr2⟩ : ∃ r, r = rem.drop 2 := ⟨_, rfl⟩
  rw [← hq, ← hr2] at hh hl
  rw [← hq] at hq2 hm
  rw [← hq, ← hr2]
  have HH := Lib.hid hh
  obtain ⟨A, n, c, hg, _⟩ := h
  obtain ⟨h0, _, _, _⟩ := refCells hg
  have hq3 : q < 65536 := hq2
  clear hh hq hr2 hg e1 e2 e3 hf h2 hq2
  go_enter Try.func24, Try.ntmps24
  go_wp2_with (first
    | (go_at_call 20; refine HH.out.mono ?_; rintro e w1 ⟨rfl, hc1, hg1⟩; obtain ⟨A1, n1, c1, kg, kr, _⟩ := id hc1; have hl1 : n1 = r.length := kr.1.symm; obtain ⟨x0, x1, y0, y1⟩ := refCells kg; rw [hl1] at x0; clear kg kr hl1)
    | (go_at_call 26; go_must (refine (refRaw_yes g r q w1 hc1 hl).mono ?_); rintro e w2 ⟨A2, c2, rfl, ho2, hc2, hg2⟩; have hs2 := run_string (c := c2) (Rd.of_own ho2.out.1)))
  go_ret
  exact ⟨rfl, hc2, grownBy_trans hg1 hg2⟩

theorem refText_cut {hi : Nat} (g : Nat) (rem : List UInt8) (sp : Bool) (most : Int) (w : World) (h : RefAt w hi g rem sp) :
    Calls Try.prog 24 #[.pointer (some ⟨g, 0, none⟩), .int .i64 most] w fun e w' => e = .returned (.string (str ((tkOut rem sp (tsz rem most)).drop 2))) ∧ RefAt w' hi g (tkRem rem sp (tsz rem most)) (!fits rem sp (tsz rem most)) ∧ w.grownBy w' (some g) := by
  by_cases hf : fits rem sp (tsz rem most) = true
  · have hsp : sp = false := by cases sp with
      | true => simp [fits] at hf
      | false => rfl
    subst hsp
    have hge : fits rem false 2 = true ∧ (num (tkOut rem false 2) : Int) ≤ most := by
      by_cases hh : fits rem false 2 = true ∧ (num (tkOut rem false 2) : Int) ≤ most
      · exact hh
      · rw [tsz, if_neg hh] at hf
        simp [fits] at hf
    have ht : tsz rem most = ((2 + num (rem.take 2) : Nat) : Int) := by
      have e1 : tkOut rem false 2 = rem.take 2 := by rw [tkOut, if_pos hge.1]; rfl
      rw [tsz, if_pos hge, e1]
      omega
    have h2 : 2 ≤ rem.length := (fits_of (K := 2) hge.1).2
    have e1 : tkOut rem false 2 = rem.take 2 := by rw [tkOut, if_pos hge.1]; rfl
    have hm := hge.2
    rw [e1] at hm
    rw [ht] at hf ⊢
    have hl := (fits_of hf).2
    rw [tkOut, if_pos hf, tkRem, if_pos hf, hf]
    have e4 : ((rem.take ((2 + num (rem.take 2) : Nat) : Int).toNat).drop 2) = (rem.drop 2).take (num (rem.take 2)) := by
      rw [Int.toNat_natCast, List.drop_take, Nat.add_sub_cancel_left]
    have e5 : rem.drop ((2 + num (rem.take 2) : Nat) : Int).toNat = (rem.drop 2).drop (num (rem.take 2)) := by rw [Int.toNat_natCast, List.drop_drop]
    rw [e4, e5]
    exact refText_there g rem most w h h2 hm (by rw [List.length_drop]; omega)
  · have hf' : fits rem sp (tsz rem most) = false := by simpa using hf
    obtain ⟨h1, h2⟩ := tk_not hf'
    rw [h1, h2, hf']
    refine refText_fail g rem sp most w h ?_
    by_cases k1 : fits rem sp 2 = true
    · by_cases k2 : most < (num (tkOut rem sp 2) : Int)
      · exact .inr (.inl k2)
      · refine .inr (.inr ?_)
        obtain ⟨rfl, hl⟩ := fits_of (K := 2) k1
        have e1 : tkOut rem false 2 = rem.take 2 := by rw [tkOut, if_pos k1]; rfl
        have e2 : tkRem rem false 2 = rem.drop 2 := by rw [tkRem, if_pos k1]; rfl
        rw [tsz, if_pos ⟨k1, by omega⟩] at hf'
        rw [e2, List.length_drop]
        simp [fits] at hf'
        have := hf' (by omega)
        omega
    · exact .inl (by simpa using k1)

end Go.Proofs.Ythnmmhjnfhmleaa
