/-
  What is proved: what a slot's bytes tell (content). Conditions as stated.
-/
import Derived.Test.YtfegffdhlkhjbaaCe
namespace Go.Proofs.Ytfegffdhlkhjbaa
open Go.RowKit
set_option maxRecDepth 100000

/-- What is read has a sector's length. -/
theorem Dat.read_len {w wr : World} {d T : Nat} {s : Dk} {L : List (Nat × Obj)} (h : Dat w d T s L wr) (x : Int) : (s.read x).1.length = 128 := by
  obtain ⟨S, ⟨fused, left, ms, ml, mn, V, gs, gl, gn, h⟩, _⟩ := h
  unfold Dk.read
  split
  · rfl
  · rcases h.newest x with ⟨_, hw⟩ | ⟨j, b, _, hj, hw⟩
    · rw [hw]
      simp only
      rw [h.sure x]
      cases gl x
      · simp only [Bool.false_eq_true, if_false]
        cases hg : gs x with
        | none => rfl
        | some b => exact h.glen x b hg
      · rfl
    · rw [hw]
      exact (h.len _ (List.mem_of_getElem? hj)).1

theorem own_kept {w w' : World} {B e k n : Nat} {v : Value} {xs : List Value} (h : w.ownsRow B e k v n xs) (he : ∀ g, v.ownBlock = some g → w'.heap[g]? = w.heap[g]?) : w'.ownsRow B e k v n xs := by
  refine ⟨h.1, ?_⟩
  rcases h.2 with hn | ⟨g, cap, cur, rfl, hb, hgg, rest⟩
  · exact .inl hn
  · exact .inr ⟨g, cap, cur, rfl, hb, (he g rfl).trans hgg, rest⟩
theorem own_lt {w : World} {B e k n : Nat} {v : Value} {xs : List Value} (h : w.ownsRow B e k v n xs) : ∀ g, v.ownBlock = some g → B ≤ g ∧ g < w.heap.size := by
  intro g hg
  rcases h.2 with ⟨rfl, _⟩ | ⟨g', cap, cur, rfl, hb, hgg, _⟩
  · simp [Value.ownBlock] at hg
  · simp [Value.ownBlock] at hg
    subst hg
    exact ⟨hb, (Array.getElem?_eq_some_iff.1 hgg).1⟩
theorem own_below {w w' : World} {B e k n : Nat} {v : Value} {xs : List Value} (h : w.ownsRow B e k v n xs) (hb : Below w.heap.size w w') : w'.ownsRow B e k v n xs :=
  own_kept h fun g hg => hb.block g (own_lt h g hg).2
theorem own_base {w : World} {B B' e k n : Nat} {v : Value} {xs : List Value} (h : w.ownsRow B e k v n xs) (hB : B' ≤ B) : w.ownsRow B' e k v n xs := by
  refine ⟨h.1, ?_⟩
  rcases h.2 with hn | ⟨g, cap, cur, rfl, hb, rest⟩
  · exact .inl hn
  · exact .inr ⟨g, cap, cur, rfl, Nat.le_trans hB hb, rest⟩
/-- What a fresh block's owner turns lies above. -/
theorem below_gb' {B g : Nat} {w a b : World} (h : Below B w a) (hg : a.grownBy b (some g)) (hB : B ≤ g) (hz : B ≤ a.heap.size) : Below B w b :=
  h.grown hg hz (fun k e => by injection e with e; subst e; exact hB)

/-- All bytes are noughts. -/
def noughts (l : List UInt8) : Bool := l.all (· == 0)
/-- The bytes of which a slot's tell. -/
def contentOf (all : List UInt8) : Option (List UInt8) :=
  if 1100 < Oct.num (all.take 2) then none else if noughts (all.drop (2 + Oct.num (all.take 2))) then some ((all.drop 2).take (Oct.num (all.take 2))) else none

theorem fits_nat {rem : List UInt8} {k : Nat} (h : k ≤ rem.length) : Oct.fits rem false (k : Int) = true := by simp [Oct.fits]; omega
theorem tk_nat {rem : List UInt8} {k : Nat} (h : k ≤ rem.length) : Oct.tkOut rem false (k : Int) = rem.take k ∧ Oct.tkRem rem false (k : Int) = rem.drop k := by
  unfold Oct.tkOut Oct.tkRem
  rw [if_pos (fits_nat h), if_pos (fits_nat h)]
  simp
theorem noughts_take_all {l : List UInt8} {j : Nat} (h : l.length ≤ j) : noughts (l.take j) = noughts l := by rw [List.take_of_length_le h]
theorem noughts_take_succ {l : List UInt8} {j : Nat} {u : UInt8} (h : l[j]? = some u) : noughts (l.take (j + 1)) = (noughts (l.take j) && u == 0) := by
  unfold noughts
  rw [List.take_add_one, h]
  simp
theorem noughts_false {l : List UInt8} {j : Nat} {u : UInt8} (h : l[j]? = some u) (hu : u ≠ 0) : noughts l = false := by
  unfold noughts
  rw [List.all_eq_false]
  exact ⟨u, List.mem_of_getElem? h, by simpa using hu⟩

set_option maxHeartbeats 1000000 in
theorem content_any (A : Option Addr) (n c : Nat) (all : List UInt8) (w : World) (hr : Oct.Rd w A n all) (hs : Oct.Sl A n c) (hn : n = 1200) :
    Calls Try.prog 57 #[.slice A n c] w fun E w' => ∃ A' m c', E = .returned (.tuple #[.slice A' m c', .bool (contentOf all).isSome]) ∧ Below w.heap.size w w' ∧ Oct.Sl A' m c' ∧ w'.ownsRow w.heap.size 5 1 (.slice A' m c') m (u8s ((contentOf all).getD [])) := by
  subst hn
  have hl : all.length = 1200 := hr.1
  have HN := Lib.hid (Oct.new_any A 1200 c all w hr hs (by omega))
  obtain ⟨k, hk⟩ : ∃ k, k = Oct.num (all.take 2) := ⟨_, rfl⟩
  have hkb : k < 65536 := by
    have := Oct.num_out_lt all false 2
    rw [(tk_nat (k := 2) (by omega)).1, ← hk] at this
    exact this
  have hct : contentOf all = if 1100 < k then none else if noughts (all.drop (2 + k)) then some ((all.drop 2).take k) else none := by rw [contentOf, hk]
  have hq1 : Oct.tkOut all false 2 = all.take 2 ∧ Oct.tkRem all false 2 = all.drop 2 := tk_nat (k := 2) (by omega)
  have hq2 : Oct.fits all false 2 = true := fits_nat (k := 2) (by omega)
  have HH : Hid (∀ (lo g : Nat) (wx : World), Oct.CutAt wx lo g all false → Calls Try.prog 64 #[.pointer (some ⟨g, 0, none⟩)] wx fun E w' => E = .returned (.int .u16 (k : Int)) ∧ Oct.CutAt w' lo g (all.drop 2) false ∧ wx.grownBy w' (some g)) := Lib.hid fun lo g wx h => by
    have := Oct.half_cut g all false wx h
    rw [hq1.1, hq1.2, hq2, ← hk] at this
    exact this
  obtain ⟨ct, hc0⟩ : ∃ ct, ct = contentOf all := ⟨_, rfl⟩
  rw [← hc0] at hct ⊢
  have HC := Lib.hid hct
  clear hct hq1 hq2 hk hc0 hr hs
  by_cases hm : 1100 < k
  · have hc : ct = none := by rw [HC.out, if_pos hm]
    subst hc
    go_enter Try.func57, Try.ntmps57
    go_wp2_with (first
      | (go_at_call 45; refine HN.out.mono ?_; rintro E w1 ⟨g, rfl, hg, hcut, hb1⟩)
      | (go_at_call 64; refine (HH.out _ _ _ hcut).mono ?_; rintro E w2 ⟨rfl, hcut2, hg2⟩))
    go_ret2
    exact ⟨none, 0, 0, rfl, below_gb' hb1 hg2 hg hb1.size, ⟨fun _ => ⟨rfl, rfl⟩, Nat.le_refl _, by omega⟩, World.ownsRow_nil _ _ _ _⟩
  · have HB : Hid (all.length = 1200) := Lib.hid hl
    obtain ⟨P, hP⟩ : ∃ P, P = (all.drop 2).take k := ⟨_, rfl⟩
    obtain ⟨R, hR⟩ : ∃ R, R = all.drop (2 + k) := ⟨_, rfl⟩
    have hRl : R.length ≤ 1200 := by rw [hR, List.length_drop]; omega
    have hq3 := tk_nat (rem := all.drop 2) (k := k) (by rw [List.length_drop]; omega)
    have hq4 := fits_nat (rem := all.drop 2) (k := k) (by rw [List.length_drop]; omega)
    have HR1 : Hid (∀ (lo g : Nat) (wx : World), Oct.CutAt wx lo g (all.drop 2) false → Calls Try.prog 55 #[.pointer (some ⟨g, 0, none⟩), .int .i64 (k : Int)] wx fun E w' => ∃ A' m c', E = .returned (.slice A' m c') ∧
        Hid (m = P.length ∧ w'.ownsRow wx.heap.size 5 1 (.slice A' m c') m (u8s P) ∧ Oct.Sl A' m c') ∧ Oct.CutAt w' lo g R false ∧ wx.grownBy w' (some g)) := Lib.hid fun lo g wx h => by
      have := Oct.raw_cut g (all.drop 2) false (k : Int) wx h
      rw [hq3.1, hq3.2, hq4, List.drop_drop, ← hP, ← hR] at this
      exact this
    have hq5 := tk_nat (rem := R) (k := R.length) (Nat.le_refl _)
    have HR2 : Hid (∀ (lo g : Nat) (wx : World), Oct.CutAt wx lo g R false → Calls Try.prog 55 #[.pointer (some ⟨g, 0, none⟩), .int .i64 (R.length : Int)] wx fun E w' => ∃ A' m c', E = .returned (.slice A' m c') ∧
        Hid (m = R.length ∧ w'.ownsRow wx.heap.size 5 1 (.slice A' m c') m (u8s R) ∧ Oct.Sl A' m c') ∧ wx.grownBy w' (some g)) := Lib.hid fun lo g wx h => by
      have := Oct.raw_cut g R false (R.length : Int) wx h
      rw [hq5.1, List.take_length] at this
      exact this.mono fun E w' ⟨A', m, c', h1, h2, h3, h4⟩ => ⟨A', m, c', h1, h2, h4⟩
    have HC2 : Hid (ct = if noughts R then some P else none) := Lib.hid (by rw [HC.out, if_neg hm, hP, hR])
    clear HC hq3 hq4 hq5 hP hR
    go_enter Try.func57, Try.ntmps57
    go_wp2_with fail
    refine HN.out.mono ?_
    rintro E w1 ⟨g, rfl, hg, hcut, hb1⟩
    have HG := Lib.hid hg
    have HB1 := Lib.hid hb1
    have HCT := Lib.hid hcut
    clear hg hb1 hcut
    go_wp2_with fail
    refine (HH.out _ _ _ HCT.out).mono ?_
    rintro E w2 ⟨rfl, hcut2, hg2⟩
    have HLT := Lib.hid HCT.out.lt
    have HC3 := Lib.hid hcut2
    have HG2 := Lib.hid hg2
    clear hcut2 hg2 HCT
    go_wp2_with fail
    refine (HR1.out _ _ _ HC3.out).mono ?_
    rintro E w3 ⟨A1, m1, c1, rfl, h3, hcut3, hg3⟩
    have HC4 := Lib.hid hcut3
    have HG3 := Lib.hid hg3
    clear hcut3 hg3 HC3
    go_wp2_with fail
    refine (Oct.left_any g R false _ HC4.out).mono ?_
    rintro E w4 ⟨rfl, q, rfl⟩
    go_wp2_with fail
    refine (HR2.out _ _ _ (HC4.out.drewN q)).mono ?_
    rintro E w5 ⟨A2, m2, c2, rfl, h5, hg5⟩
    have HG5 := Lib.hid hg5
    clear hg5
    have hm2 := h5.out.1
    have H5 := Lib.hid (Oct.Rd.of_own h5.out.2.1)
    subst hm2
    have HBW : Hid (Below w.heap.size w w5) := Lib.hid (by
      have h1 := below_gb' HB1.out HG2.out HG.out HB1.out.size
      have h2 := below_gb' h1 HG3.out HG.out h1.size
      exact below_gb' (h2.trans (c := w3.drewN q) ⟨rfl, rfl, rfl, Nat.le_refl _, fun _ _ => rfl⟩) HG5.out HG.out h2.size)
    have HOP : Hid (w5.ownsRow w.heap.size 5 1 (.slice A1 m1 c1) m1 (u8s P)) := Lib.hid (by
      have h1 := HB1.out.size
      have h2 := HG2.out.size
      refine own_kept (own_base h3.out.2.1 (by omega)) fun g' hg' => ?_
      obtain ⟨ha, hb⟩ := own_lt h3.out.2.1 g' hg'
      exact HG5.out.block g' hb (fun e => by injection e with e; have := HLT.out; omega))
    have HS1 := Lib.hid h3.out.2.2
    clear h5 h3 HC4
    go_wp2_with fail
    go_loop [24] (fun i => ∃ j : Nat, j ≤ R.length ∧ i = .int .i64 (j : Int) ∧ Hid (noughts (R.take j) = true)) (fun i => R.length - (intOf i).toNat)
    case atStart => exact ⟨0, Nat.zero_le _, rfl, Lib.hid rfl⟩
    case round =>
      obtain ⟨j, hj, rfl, HJ⟩ := hrel
      by_cases hlt : j < R.length
      · obtain ⟨b, o, rfl, _, hcc⟩ := H5.out.2 (by omega)
        obtain ⟨u, hu⟩ : ∃ u, R[j]? = some u := ⟨_, List.getElem?_eq_getElem hlt⟩
        have hcv := hcc j u hu
        have HU := Lib.hid hu
        clear hcc hu
        by_cases h0 : u = 0
        · subst h0
          go_wp2
          go_round
          case rel => exact ⟨j + 1, by omega, by go_num, Lib.hid (by rw [noughts_take_succ HU.out, HJ.out]; rfl)⟩
          case measure => simp [intOf]; omega
        · have hu0 : ¬ (u.toNat : Int) = 0 := fun e => h0 (UInt8.toNat_inj.1 (by simpa using (by omega : u.toNat = 0)))
          have hc : ct = none := by rw [HC2.out, if_neg (by rw [noughts_false HU.out h0]; simp)]
          subst hc
          go_wp2
          go_ret2
          exact ⟨none, 0, 0, rfl, HBW.out, ⟨fun _ => ⟨rfl, rfl⟩, Nat.le_refl _, by omega⟩, World.ownsRow_nil _ _ _ _⟩
      · obtain rfl : j = R.length := by omega
        have hc : ct = some P := by rw [HC2.out, if_pos (by have := HJ.out; rwa [List.take_length] at this)]
        subst hc
        go_wp2
        go_ret2
        exact ⟨A1, m1, c1, rfl, HBW.out, HS1.out, HOP.out⟩
end Go.Proofs.Ytfegffdhlkhjbaa
