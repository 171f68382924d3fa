/-
  What is proved: what greatest and renew do. Conditions as stated.
-/
import Derived.Test.YtfegffdhlkhjbaaCi
namespace Go.Proofs.Ytfegffdhlkhjbaa
open Go.RowKit
set_option maxRecDepth 100000

/-- The greatest count that can be read in the first k sectors from x on. -/
def topGo (s : Dk) (x : Int) : Nat → Nat
  | 0 => 0
  | k + 1 => max (topGo s x k) (if (s.read (x + k)).2 = 0 then cnt (s.read (x + k)).1 else 0)
theorem cnt_lt (X : List UInt8) : cnt X < 18446744073709551616 := by
  unfold cnt
  have := Oct.num_lt _ (X.take 8) rfl
  refine Nat.lt_of_lt_of_le this (show 256 ^ (X.take 8).length ≤ 256 ^ 8 from Nat.pow_le_pow_right (by decide) (by rw [List.length_take]; omega))
theorem topGo_lt (s : Dk) (x : Int) : ∀ k, topGo s x k < 18446744073709551616
  | 0 => by simp [topGo]
  | k + 1 => by
    have h1 := topGo_lt s x k
    have h2 := cnt_lt (s.read (x + k)).1
    rw [topGo]
    split <;> omega

set_option maxHeartbeats 4000000 in
theorem greatest_any {w wo : World} {d T : Nat} {s : Dk} {L : List (Nat × Obj)} (h : Dat w d T s L wo) (hoff : s.off = false) (at' : Int) (hat : 0 ≤ at' ∧ at' ≤ 32748) :
    Calls Try.prog 62 #[.agg #[.pointer (some ⟨d, 0, none⟩), .int .i64 at']] wo fun E w' => E = .returned (.tuple #[.int .u64 (topGo s at' 20 : Int), .int .i64 0]) ∧ Below wo.heap.size wo w' := by
  have HD := Lib.hid h
  have HE : Hid (∀ k : Nat, k < 20 → (s.read (at' + k)).2 = 0 ∨ (s.read (at' + k)).2 = 9) := Lib.hid fun k hk => read_err hoff (by omega)
  have HRL : Hid (∀ y, (s.read y).1.length = 128) := Lib.hid fun y => h.read_len y
  clear h
  obtain ⟨Z, hZ⟩ : ∃ Z, Z = u8s zeros := ⟨_, rfl⟩
  have hz : ∀ w, (zeroValue 43).run Try.prog w = .ok (.agg Z.toArray) w := by rw [hZ]; exact zero33
  have ZL : Hid (Z.length = 128) := Lib.hid (by rw [hZ, u8s_length]; rfl)
  clear hZ
  go_enter Try.func62, Try.ntmps62
  go_wp2_with fail
  have HQ : Hid (Below wo.heap.size wo (wo.alloc (.cells #[.pointer (some ⟨d, 0, none⟩), .int .i64 at'] 79))) := Lib.hid ((Below.refl _ _).alloc (Nat.le_refl _) _)
  have HQB : Hid ((wo.alloc (.cells #[.pointer (some ⟨d, 0, none⟩), .int .i64 at'] 79)).heap[wo.heap.size]? = some (.cells #[.pointer (some ⟨d, 0, none⟩), .int .i64 at'] 79 (0, 0))) := Lib.hid (heap_alloc_new _ _)
  go_loopw [4, 8] (fun v4 v8 wr => ∃ k : Nat, k ≤ 20 ∧ v8 = .int .i64 (k : Int) ∧ v4 = .int .u64 (topGo s at' k : Int) ∧ Hid (Below wo.heap.size wo wr) ∧ Hid (wr.heap[wo.heap.size]? = some (.cells #[.pointer (some ⟨d, 0, none⟩), .int .i64 at'] 79 (0, 0)))) (fun _ v8 _ => 20 - (intOf v8).toNat)
  case atStart => exact ⟨0, by omega, rfl, rfl, HQ, HQB⟩
  case round =>
    clear HQ HQB
    obtain ⟨k, hk, rfl, rfl, HB, HQB⟩ := hrel
    by_cases hkk : k < 20
    · have c0 : wr.cell? ⟨wo.heap.size, 0, none⟩ = some (.pointer (some ⟨d, 0, none⟩)) := block_cell (C := [.pointer (some ⟨d, 0, none⟩), .int .i64 at']) HQB.out 0 _ rfl
      have c1 : wr.cell? ⟨wo.heap.size, 1, none⟩ = some (.int .i64 at') := block_cell (C := [.pointer (some ⟨d, 0, none⟩), .int .i64 at']) HQB.out 1 _ rfl
      obtain ⟨X, hX⟩ : ∃ X, X = (s.read (at' + k)).1 := ⟨_, rfl⟩
      obtain ⟨e, he⟩ : ∃ e, e = (s.read (at' + k)).2 := ⟨_, rfl⟩
      have hXl : X.length = 128 := by rw [hX]; exact HRL.out _
      have UX : Hid ((u8s X).length = 128) := Lib.hid (by rw [u8s_length, hXl])
      have XL := Lib.hid hXl
      have HR : Hid (Calls Try.prog 19 #[.pointer (some ⟨d, 0, none⟩), .int .i64 (at' + k)] wr fun E w' => E = .returned (.tuple #[.agg (u8s X).toArray, .int .i64 e]) ∧ Below wr.heap.size wr w') := Lib.hid (by rw [hX, he]; exact (dat_read (HD.out.next HB.out) _ (i64_of (by omega))).mono fun E w' h => ⟨h.1, h.2.2⟩)
      have h09 : e = 0 ∨ e = 9 := by rw [he]; exact HE.out k hkk
      have HNX : Hid (topGo s at' (k + 1) = max (topGo s at' k) (if e = 0 then cnt X else 0)) := Lib.hid (by rw [topGo, hX, he])
      have hw8 := tk_nat (rem := X) (k := 8) (by omega)
      have HWD : Hid (∀ (lo g : Nat) (wx : World), Oct.CutAt wx lo g X false → Calls Try.prog 46 #[.pointer (some ⟨g, 0, none⟩)] wx fun E w' => E = .returned (.int .u64 (cnt X : Int)) ∧ wx.grownBy w' (some g)) := Lib.hid fun lo g wx h => by
        have := Oct.word_cut g X false wx h
        rw [show (8 : Int) = ((8 : Nat) : Int) from rfl, hw8.1] at this
        exact this.mono fun E w' h => ⟨h.1, h.2.2⟩
      have hcb := cnt_lt X
      have htb := topGo_lt s at' k
      clear hX he hXl hw8 HRL
      generalize cnt X = cX at HNX HWD hcb
      generalize topGo s at' k = tk at HNX htb ⊢
      rcases h09 with h0 | h9
      · subst h0
        have HN2 : Hid ((tk ≤ cX → topGo s at' (k + 1) = cX) ∧ (cX ≤ tk → topGo s at' (k + 1) = tk)) := Lib.hid (by rw [HNX.out, if_pos rfl]; omega)
        go_wp2_with (first
          | (go_at_call 19; refine HR.out.mono ?_; rintro E w1 ⟨rfl, hb1⟩)
          | (refine wpList_store_all rfl 43 (.tmp 6) (.tmp 19) rfl w1.heap.size Z (u8s X) 43 (row_new w1 Z 43) (ZL.out.trans UX.out.symm) rfl rfl (by rw [UX.out]; exact Try.size43) (u8s_one _) ?_; intro w2 G2))
        have B2 : Hid (Below wr.heap.size wr w2) := Lib.hid ((hb1.alloc hb1.size _).grown G2.out.2 (by simp; exact Nat.le_succ_of_le hb1.size) (fun k e => by injection e with e; subst e; exact hb1.size))
        clear hb1
        have QR : Hid (Oct.Rd w2 (some ⟨w1.heap.size, 0, none⟩) 128 X) := Lib.hid ⟨XL.out, fun _ => ⟨w1.heap.size, 0, rfl, (Array.getElem?_eq_some_iff.1 G2.out.1).1, fun j u hu => by rw [Nat.zero_add]; exact block_cell G2.out.1 j _ (by simp [u8s, hu])⟩⟩
        clear G2
        refine (Oct.new_any (some ⟨w1.heap.size, 0, none⟩) 128 128 X w2 QR.out ⟨(fun h => by cases h), Nat.le_refl _, by omega⟩ (by omega)).mono ?_
        rintro E w3 ⟨g, rfl, hg, hcut, hb3⟩
        have B3 : Hid (Below wr.heap.size wr w3) := Lib.hid (B2.out.trans (hb3.mono B2.out.size))
        have HG : Hid (wr.heap.size ≤ g) := Lib.hid (Nat.le_trans B2.out.size hg)
        have HCT := Lib.hid hcut
        clear hg hcut hb3 B2 QR
        go_wp2_with fail
        refine (HWD.out _ _ _ HCT.out).mono ?_
        rintro E w4 ⟨rfl, hg4⟩
        have B4 : Hid (Below wr.heap.size wr w4) := Lib.hid (below_gb' B3.out hg4 HG.out B3.out.size)
        clear hg4 HCT B3
        have B5 : Hid (Below wo.heap.size wo w4) := Lib.hid (HB.out.trans (B4.out.mono HB.out.size))
        have Q5 : Hid (w4.heap[wo.heap.size]? = some (.cells #[.pointer (some ⟨d, 0, none⟩), .int .i64 at'] 79 (0, 0))) := Lib.hid ((B4.out.block _ (Array.getElem?_eq_some_iff.1 HQB.out).1).trans HQB.out)
        clear B4 c0 c1
        rcases Nat.lt_trichotomy tk cX with hc | hc | hc
        · go_wp2_with fail
          go_roundw
          case measure => simp [intOf]; omega
          case rel => exact ⟨k + 1, by omega, by go_num, by rw [HN2.out.1 (by omega)], B5, Q5⟩
        · subst hc
          go_wp2_with fail
          go_roundw
          case measure => simp [intOf]; omega
          case rel => exact ⟨k + 1, by omega, by go_num, by rw [HN2.out.1 (by omega)], B5, Q5⟩
        · go_wp2_with fail
          go_roundw
          case measure => simp [intOf]; omega
          case rel => exact ⟨k + 1, by omega, by go_num, by rw [HN2.out.2 (by omega)], B5, Q5⟩
      · subst h9
        have HN2 : Hid (topGo s at' (k + 1) = tk) := Lib.hid (by rw [HNX.out, if_neg (by decide)]; omega)
        go_wp2_with (first
          | (go_at_call 19; refine HR.out.mono ?_; rintro E w1 ⟨rfl, hb1⟩)
          | (refine wpList_store_all rfl 43 (.tmp 6) (.tmp 19) rfl w1.heap.size Z (u8s X) 43 (row_new w1 Z 43) (ZL.out.trans UX.out.symm) rfl rfl (by rw [UX.out]; exact Try.size43) (u8s_one _) ?_; intro w2 G2))
        have B2 : Hid (Below wr.heap.size wr w2) := Lib.hid ((hb1.alloc hb1.size _).grown G2.out.2 (by simp; exact Nat.le_succ_of_le hb1.size) (fun k e => by injection e with e; subst e; exact hb1.size))
        go_roundw
        case measure => simp [intOf]; omega
        case rel => exact ⟨k + 1, by omega, by go_num, by rw [HN2.out], HB.out.trans (B2.out.mono HB.out.size), (B2.out.block _ (Array.getElem?_eq_some_iff.1 HQB.out).1).trans HQB.out⟩
    · obtain rfl : k = 20 := by omega
      clear HE HRL
      go_wp2_with fail
      go_ret2
      exact ⟨rfl, HB.out⟩
end Go.Proofs.Ytfegffdhlkhjbaa
