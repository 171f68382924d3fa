/-
  What is proved: what a record's parts tell (content). Conditions as stated.
-/
import Derived.Test.YtfegffdhlkhjbaaBc
namespace Go.Proofs.Ytfegffdhlkhjbaa
open Go.RowKit
set_option maxRecDepth 100000

theorem contentB_nil : contentB [] = none := by decide

set_option maxHeartbeats 1000000 in
theorem contentB_short (A : Option Addr) (n c : Nat) (all : List UInt8) (w : World) (hr : Oct.Rd w A n all) (hs : Oct.Sl A n c) (hn : n = 0) :
    Calls Try.prog 65 #[.slice A n c] w fun E w' => E = .returned (.tuple #[.slice none 0 0, .bool false]) ∧ Below w.heap.size w w' := by
  subst hn
  have hl : all = [] := List.eq_nil_of_length_eq_zero hr.1
  subst hl
  have HN := Lib.hid (Oct.new_any A 0 c [] w hr hs (by omega))
  have HH : Hid (∀ (lo g : Nat) (wx : World), Oct.CutAt wx lo g [] false → Calls Try.prog 64 #[.pointer (some ⟨g, 0, none⟩)] wx fun E w' => E = .returned (.int .u16 0) ∧ wx.grownBy w' (some g)) := Lib.hid fun lo g wx h => by
    have := Oct.half_cut g [] false wx h
    exact this.mono fun E w' ⟨h1, _, h3⟩ => ⟨h1, h3⟩
  have HPG : Hid (∀ wx, Calls Try.prog 30 #[.int .i64 0] wx fun E w' => E = .returned (.int .i64 1) ∧ wx = w') := Lib.hid fun wx => pagesOf_any (w := wx) 0 (by omega)
  clear hr hs
  go_enter Try.func65, Try.ntmps65
  go_wp2_with fail
  refine HN.out.mono ?_
  rintro E w1 ⟨g, rfl, hg, hcut, hb1⟩
  have HG := Lib.hid hg
  have HB1 := Lib.hid hb1
  have HCT := Lib.hid hcut
  clear hg hb1 hcut
  go_wp2_with fail
  refine (HH.out _ _ _ HCT.out).mono ?_
  rintro E w2 ⟨rfl, hg2⟩
  have HG2 := Lib.hid hg2
  clear hg2
  go_wp2_with (first | (go_at_call 30; refine (HPG.out _).mono ?_; rintro E w3 ⟨rfl, rfl⟩))
  go_ret2
  exact ⟨rfl, below_gb' HB1.out HG2.out HG.out HB1.out.size⟩

set_option maxHeartbeats 4000000 in
theorem content_b (A : Option Addr) (n c m : Nat) (all : List UInt8) (w : World) (hr : Oct.Rd w A n all) (hs : Oct.Sl A n c) (hn : n = 108 * m) (hm : m ≤ 65536) :
    Calls Try.prog 65 #[.slice A n c] w fun E w' => ∃ A' m c', E = .returned (.tuple #[.slice A' m c', .bool (contentB all).isSome]) ∧ Below w.heap.size w w' ∧ Oct.Sl A' m c' ∧ w'.ownsRow w.heap.size 5 1 (.slice A' m c') m (u8s ((contentB all).getD [])) := by
  by_cases hm0 : m = 0
  · have hl : all = [] := List.eq_nil_of_length_eq_zero (by rw [hr.1]; omega)
    refine (contentB_short A n c all w hr hs (by omega)).mono fun E w' ⟨h1, h2⟩ => ?_
    subst hl
    rw [contentB_nil]
    exact ⟨none, 0, 0, h1, h2, sl_nil, World.ownsRow_nil _ _ _ _⟩
  have hl : all.length = n := hr.1
  have HN := Lib.hid (Oct.new_any A n c all w hr hs (by omega))
  obtain ⟨k, hk⟩ : ∃ k, k = Oct.num (all.take 2) := ⟨_, rfl⟩
  have hkb : k < 65536 := by
    have := Oct.num_out_lt all false 2
    rw [(tk_nat (k := 2) (by omega)).1, ← hk] at this
    exact this
  have hct : contentB all = if 4096 < k ∨ all.length ≠ 108 * pagesN k then none else if noughts (all.drop (2 + k)) then some ((all.drop 2).take k) else none := by rw [contentB, hk]
  have HH := half_at (rem := all) (by omega)
  rw [← hk] at HH
  obtain ⟨ct, hc0⟩ : ∃ ct, ct = contentB all := ⟨_, rfl⟩
  rw [← hc0] at hct ⊢
  have HC := Lib.hid hct
  have HPG : Hid (∀ wx, Calls Try.prog 30 #[.int .i64 (k : Int)] wx fun E w' => E = .returned (.int .i64 (pagesN k : Int)) ∧ wx = w') := Lib.hid fun wx => pagesOf_any (w := wx) k (by omega)
  have hpk : pagesN k ≤ 65536 := by unfold pagesN; omega
  have hnb : 108 ≤ n ∧ n ≤ 7077888 := by omega
  clear hct hk hc0 hr hn
  have hsc := hs.2
  clear hs
  by_cases hm1 : 4096 < k
  · have hc : ct = none := by rw [HC.out, if_pos (Or.inl hm1)]
    subst hc
    go_enter Try.func65, Try.ntmps65
    go_wp2_with fail
    refine HN.out.mono ?_
    rintro E w1 ⟨g, rfl, hg, hcut, hb1⟩
    have HG := Lib.hid hg
    have HB1 := Lib.hid hb1
    have HCT := Lib.hid hcut
    clear hg hb1 hcut
    go_wp2_with fail
    refine (HH.out _ _ _ HCT.out).mono ?_
    rintro E w2 ⟨rfl, hcut2, hg2⟩
    go_wp2_with fail
    go_ret2
    exact ⟨none, 0, 0, rfl, below_gb' HB1.out hg2 HG.out HB1.out.size, ⟨fun _ => ⟨rfl, rfl⟩, Nat.le_refl _, by omega⟩, World.ownsRow_nil _ _ _ _⟩
  · by_cases hm2 : n ≠ 108 * pagesN k
    · have hc : ct = none := by rw [HC.out, if_pos (Or.inr (by rw [hl]; exact hm2))]
      subst hc
      obtain ⟨pk, hpe⟩ : ∃ pk, pk = pagesN k := ⟨_, rfl⟩
      rw [← hpe] at HPG hm2 hpk
      clear hpe
      have hd1 : decide ((4096 : Int) < (k : Int)) = false := by simp; omega
      have hd2 : ((n : Int) != (pk : Int) * 108) = true := by simp; omega
      go_enter Try.func65, Try.ntmps65
      go_wp2_with fail
      refine HN.out.mono ?_
      rintro E w1 ⟨g, rfl, hg, hcut, hb1⟩
      have HG := Lib.hid hg
      have HB1 := Lib.hid hb1
      have HCT := Lib.hid hcut
      clear hg hb1 hcut
      go_wp2_with fail
      refine (HH.out _ _ _ HCT.out).mono ?_
      rintro E w2 ⟨rfl, hcut2, hg2⟩
      have HG2 := Lib.hid hg2
      clear hg2 hcut2
      go_wp2_with (first | (go_at_call 30; refine (HPG.out _).mono ?_; rintro E w3 ⟨rfl, rfl⟩))
      go_ret2
      exact ⟨none, 0, 0, rfl, below_gb' HB1.out HG2.out HG.out HB1.out.size, ⟨fun _ => ⟨rfl, rfl⟩, Nat.le_refl _, by omega⟩, World.ownsRow_nil _ _ _ _⟩
    · have hroom := pagesN_room k
      have HB : Hid (all.length = n) := Lib.hid hl
      obtain ⟨P, hP⟩ : ∃ P, P = (all.drop 2).take k := ⟨_, rfl⟩
      obtain ⟨R, hR⟩ : ∃ R, R = all.drop (2 + k) := ⟨_, rfl⟩
      have hRl : R.length ≤ 10000000 := by rw [hR, List.length_drop]; omega
      have hq3 := tk_nat (rem := all.drop 2) (k := k) (by rw [List.length_drop]; omega)
      have hq4 := fits_nat (rem := all.drop 2) (k := k) (by rw [List.length_drop]; omega)
      have HR1 : Hid (∀ (lo g : Nat) (wx : World), Oct.CutAt wx lo g (all.drop 2) false → Calls Try.prog 55 #[.pointer (some ⟨g, 0, none⟩), .int .i64 (k : Int)] wx fun E w' => ∃ A' m c', E = .returned (.slice A' m c') ∧
          Hid (m = P.length ∧ w'.ownsRow wx.heap.size 5 1 (.slice A' m c') m (u8s P) ∧ Oct.Sl A' m c') ∧ Oct.CutAt w' lo g R false ∧ wx.grownBy w' (some g)) := Lib.hid fun lo g wx h => by
        have := Oct.raw_cut g (all.drop 2) false (k : Int) wx h
        rw [hq3.1, hq3.2, hq4, List.drop_drop, ← hP, ← hR] at this
        exact this
      have HLF := left_all R R.length rfl
      have HR2 := raw_all R R.length rfl
      have HC2 : Hid (ct = if noughts R then some P else none) := Lib.hid (by rw [HC.out, if_neg (by omega), hP, hR])
      obtain ⟨pk, hpe⟩ : ∃ pk, pk = pagesN k := ⟨_, rfl⟩
      rw [← hpe] at HPG hm2 hpk hroom
      clear HC hq3 hq4 hP hR hpe
      obtain rfl : n = 108 * pk := by omega
      clear hm2
      have hd1 : decide ((4096 : Int) < (k : Int)) = false := by simp; omega
      have hd2 : (108 * (pk : Int) != (pk : Int) * 108) = false := by simp; omega
      go_enter Try.func65, Try.ntmps65
      go_wp2_with fail
      refine HN.out.mono ?_
      rintro E w1 ⟨g, rfl, hg, hcut, hb1⟩
      have HG := Lib.hid hg
      have HB1 := Lib.hid hb1
      have HCT := Lib.hid hcut
      clear hg hb1 hcut
      go_wp2_with fail
      refine (HH.out _ _ _ HCT.out).mono ?_
      rintro E w2 ⟨rfl, hcut2, hg2⟩
      have HLT := Lib.hid HCT.out.lt
      have HC3 := Lib.hid hcut2
      have HG2 := Lib.hid hg2
      clear hcut2 hg2 HCT
      go_wp2_with (first | (go_at_call 30; refine (HPG.out _).mono ?_; rintro E w3 ⟨rfl, rfl⟩))
      refine (HR1.out _ _ _ HC3.out).mono ?_
      rintro E w3 ⟨A1, m1, c1, rfl, h3, hcut3, hg3⟩
      have HC4 := Lib.hid hcut3
      have HG3 := Lib.hid hg3
      clear hcut3 hg3 HC3
      go_wp2_with fail
      refine (HLF.out _ _ _ HC4.out).mono ?_
      rintro E w4 ⟨rfl, q, rfl⟩
      go_wp2_with fail
      refine (HR2.out _ _ _ (HC4.out.drewN q)).mono ?_
      rintro E w5 ⟨A2, m2, c2, rfl, h5, hg5⟩
      have HG5 := Lib.hid hg5
      clear hg5
      have hm2 := h5.out.1
      have H5 := Lib.hid (Oct.Rd.of_own h5.out.2.1)
      subst hm2
      have HBW : Hid (Below w.heap.size w w5) := Lib.hid (by
        have h1 := below_gb' HB1.out HG2.out HG.out HB1.out.size
        have h2 := below_gb' h1 HG3.out HG.out h1.size
        exact below_gb' (h2.trans (c := w3.drewN q) ⟨rfl, rfl, rfl, Nat.le_refl _, fun _ _ => rfl⟩) HG5.out HG.out h2.size)
      have HOP : Hid (w5.ownsRow w.heap.size 5 1 (.slice A1 m1 c1) m1 (u8s P)) := Lib.hid (by
        have h1 := HB1.out.size
        have h2 := HG2.out.size
        refine own_kept (own_base h3.out.2.1 (by omega)) fun g' hg' => ?_
        obtain ⟨ha, hb⟩ := own_lt h3.out.2.1 g' hg'
        exact HG5.out.block g' hb (fun e => by injection e with e; have := HLT.out; omega))
      have HS1 := Lib.hid h3.out.2.2
      clear h5 h3 HC4
      go_wp2_with fail
      go_loop [32] (fun i => ∃ j : Nat, j ≤ R.length ∧ i = .int .i64 (j : Int) ∧ Hid (noughts (R.take j) = true)) (fun i => R.length - (intOf i).toNat)
      case atStart => exact ⟨0, Nat.zero_le _, rfl, Lib.hid rfl⟩
      case round =>
        obtain ⟨j, hj, rfl, HJ⟩ := hrel
        by_cases hlt : j < R.length
        · obtain ⟨b, o, rfl, _, hcc⟩ := H5.out.2 (by omega)
          obtain ⟨u, hu⟩ : ∃ u, R[j]? = some u := ⟨_, List.getElem?_eq_getElem hlt⟩
          have hcv := hcc j u hu
          have HU := Lib.hid hu
          clear hcc hu
          by_cases h0 : u = 0
          · subst h0
            go_wp2
            go_round
            case rel => exact ⟨j + 1, by omega, by go_num, Lib.hid (by rw [noughts_take_succ HU.out, HJ.out]; rfl)⟩
            case measure => simp [intOf]; omega
          · have hu0 : ¬ (u.toNat : Int) = 0 := fun e => h0 (UInt8.toNat_inj.1 (by simpa using (by omega : u.toNat = 0)))
            have hc : ct = none := by rw [HC2.out, if_neg (by rw [noughts_false HU.out h0]; simp)]
            subst hc
            go_wp2
            go_ret2
            exact ⟨none, 0, 0, rfl, HBW.out, ⟨fun _ => ⟨rfl, rfl⟩, Nat.le_refl _, by omega⟩, World.ownsRow_nil _ _ _ _⟩
        · obtain rfl : j = R.length := by omega
          have hc : ct = some P := by rw [HC2.out, if_pos (by have := HJ.out; rwa [List.take_length] at this)]
          subst hc
          go_wp2
          go_ret2
          exact ⟨A1, m1, c1, rfl, HBW.out, HS1.out, HOP.out⟩
end Go.Proofs.Ytfegffdhlkhjbaa
