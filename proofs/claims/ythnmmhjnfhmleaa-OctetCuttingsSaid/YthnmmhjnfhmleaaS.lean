/-
  What is proved: the walk of OctetCuttings. Conditions as stated.
-/
import Derived.Test.YthnmmhjnfhmleaaT
import Derived.Deep.RegionHeld3
import Derived.Deep.RegionLaw
namespace Go.Proofs.Ythnmmhjnfhmleaa
open Go.RowKit

/-- The array of two slices at block g reads as two rows of bytes. -/
def Two (w : World) (g : Nat) (A0 A1 : Option Addr) (m0 c0 m1 c1 : Nat) (x0 x1 : List UInt8) : Prop :=
  w.heap[g]? = some (.cells #[.slice A0 m0 c0, .slice A1 m1 c1] 55 (0, 0)) ∧ Rd w A0 m0 x0 ∧ Rd w A1 m1 x1 ∧ Sl A0 m0 c0 ∧ Sl A1 m1 c1 ∧ (∀ ad, A0 = some ad → ad.block ≠ g) ∧ (∀ ad, A1 = some ad → ad.block ≠ g)

theorem Two.cells {w : World} {g : Nat} {A0 A1 : Option Addr} {m0 c0 m1 c1 : Nat} {x0 x1 : List UInt8} (h : Two w g A0 A1 m0 c0 m1 c1 x0 x1) {w1 : World} (hb : Below w.heap.size w w1) :
    w1.cell? ⟨g, 0, none⟩ = some (.slice A0 m0 c0) ∧ w1.cell? ⟨g, 1, none⟩ = some (.slice A1 m1 c1) ∧ w1.frozen? ⟨g, 0, none⟩ = false ∧ w1.frozen? ⟨g, 1, none⟩ = false ∧ g < w.heap.size := by
  obtain ⟨hg, _⟩ := h
  have hlt : g < w.heap.size := by
    rcases Nat.lt_or_ge g w.heap.size with h | h
    · exact h
    · rw [Array.getElem?_eq_none h] at hg; cases hg
  have hg1 := (hb.block g hlt).trans hg
  exact ⟨cell_of_row _ _ 0 _ 55 (0, 0) hg1, cell_of_row _ _ 1 _ 55 (0, 0) hg1, frozen_of_row _ _ _ _ _ hg1, frozen_of_row _ _ _ _ _ hg1, hlt⟩

theorem Two.set0 {w w1 : World} {g : Nat} {A0 A1 A' : Option Addr} {m0 c0 m1 c1 m' c' : Nat} {x0 x1 y : List UInt8} (h : Two w g A0 A1 m0 c0 m1 c1 x0 x1) (hb : Below w.heap.size w w1) (hr : Rd w1 A' m' y) (hs : Sl A' m' c') (hne : ∀ ad, A' = some ad → ad.block ≠ g) :
    Two (w1.setCell ⟨g, 0, none⟩ (.slice A' m' c')) g A' A1 m' c' m1 c1 y x1 := by
  have hlt := (h.cells hb).2.2.2.2
  obtain ⟨hg, r0, r1, s0, s1, n0, n1⟩ := h
  have hg1 := (hb.block g hlt).trans hg
  exact ⟨by simp [World.setCell, Array.getElem?_modify, hg1], hr.set_far hne _, (r1.below hb).set_far n1 _, hs, s1, hne, n1⟩

theorem Two.set1 {w w1 : World} {g : Nat} {A0 A1 A' : Option Addr} {m0 c0 m1 c1 m' c' : Nat} {x0 x1 y : List UInt8} (h : Two w g A0 A1 m0 c0 m1 c1 x0 x1) (hb : Below w.heap.size w w1) (hr : Rd w1 A' m' y) (hs : Sl A' m' c') (hne : ∀ ad, A' = some ad → ad.block ≠ g) :
    Two (w1.setCell ⟨g, 1, none⟩ (.slice A' m' c')) g A0 A' m0 c0 m' c' x0 y := by
  have hlt := (h.cells hb).2.2.2.2
  obtain ⟨hg, r0, r1, s0, s1, n0, n1⟩ := h
  have hg1 := (hb.block g hlt).trans hg
  exact ⟨by simp [World.setCell, Array.getElem?_modify, hg1], (r0.below hb).set_far n0 _, hr.set_far hne _, s0, hs, n0, hne⟩

theorem split_lt {its : List It} {j k : Nat} {x : It} (hx : its[j]? = some x) (h : j < k) :
    encAll ((its.take (j + 1)).take k) = encAll ((its.take j).take k) ++ x.enc ∧ (its.take (j + 1)).drop k = (its.take j).drop k := by
  have hj := (List.getElem?_eq_some_iff.1 hx).1
  have hl : (its.take j).length = j := by rw [List.length_take]; omega
  have e : its.take (j + 1) = its.take j ++ [x] := by rw [List.take_add_one, hx]; rfl
  rw [e, List.take_append, List.drop_append, hl, List.take_of_length_le (l := [x]) (by simp; omega), List.drop_of_length_le (l := [x]) (by simp; omega), List.append_nil]
  exact ⟨encAll_snoc _ _, rfl⟩

theorem split_ge {its : List It} {j k : Nat} {x : It} (hx : its[j]? = some x) (h : k ≤ j) :
    (its.take (j + 1)).take k = (its.take j).take k ∧ encAll ((its.take (j + 1)).drop k) = encAll ((its.take j).drop k) ++ x.enc := by
  have hj := (List.getElem?_eq_some_iff.1 hx).1
  have hl : (its.take j).length = j := by rw [List.length_take]; omega
  have e : its.take (j + 1) = its.take j ++ [x] := by rw [List.take_add_one, hx]; rfl
  rw [e, List.take_append, List.drop_append, hl, show k - j = 0 by omega, List.take_zero, List.append_nil, List.drop_zero]
  exact ⟨rfl, encAll_snoc _ _⟩

theorem part_len {its ps : List It} {j n m : Nat} (h : Short its j) (hs : ∀ x ∈ ps, x ∈ its.take j) (hl : ps.length ≤ (its.take j).length) (hm : (encAll ps).length = m) (hn : its.length = n) (h60 : n ≤ 40) : m ≤ 123000 := by
  have h1 := encAll_len ps fun x hx => h x (hs x hx)
  rw [List.length_take] at hl
  have h2 : ps.length ≤ 40 := by omega
  have := Nat.mul_le_mul_right 2050 h2
  omega

theorem own_far {w : World} {B n c g : Nat} {A : Option Addr} {xs : List Value} (h : w.ownsRow B 5 1 (.slice A n c) n xs) (hg : g < B) : ∀ ad, A = some ad → ad.block ≠ g := by
  intro ad had
  subst had
  have := (h.lt ad.block rfl).1
  omega

set_option maxRecDepth 100000 in
set_option maxHeartbeats 8000000 in
theorem octetCuttings_any (A D : Option Addr) (n c at_ m d : Nat) (its : List It) (bh : List UInt8) (w : World) (hi : Its w A n its) (hD : Rd w D m bh) (hsD : Sl D m d) (hn : n ≤ 40) (hnc : n ≤ c) (hcm : c ≤ 9223372036854775807) (hm : m ≤ 500) (hat : at_ < 256) :
    Calls Try.prog 8 #[.slice A n c, .int .u8 at_, .slice D m d] w fun e w' => e = .returned (.bool true) ∧ Below w.heap.size w w' := by
  have HI : Hid (Its w A n its) := hi
  have HD : Hid (Rd w D m bh) := hD
  have HSD : Hid (Sl D m d) := hsD
  clear hi hD hsD
  obtain ⟨k, hk, hkn⟩ : ∃ k : Nat, (at_ : Int) % ((n : Int) + 1) = (k : Int) ∧ k ≤ n := ⟨at_ % (n + 1), by simp, by have := Nat.mod_lt at_ (show 0 < n + 1 by omega); omega⟩
  go_enter Try.func8, Try.ntmps8
  go_wp2
  have HK := Lib.hid hk
  clear hk
  go_loopw [9] (fun i wr => ∃ (j : Nat) (A0 A1 : Option Addr) (m0 c0 m1 c1 : Nat), j ≤ n ∧ i = .int .i64 j ∧ Hid (Two wr w.heap.size A0 A1 m0 c0 m1 c1 (encAll ((its.take j).take k)) (encAll ((its.take j).drop k))) ∧ Hid (Short its j) ∧ Below w.heap.size w wr) (fun i _ => n - (intOf i).toNat)
  case atStart => exact ⟨0, none, none, 0, 0, 0, 0, Nat.zero_le _, rfl, ⟨heap_alloc_new w _, by simp [encAll]; exact Rd.nil _, by simp [encAll]; exact Rd.nil _, ⟨fun _ => ⟨rfl, rfl⟩, Nat.le_refl _, by omega⟩, ⟨fun _ => ⟨rfl, rfl⟩, Nat.le_refl _, by omega⟩, (fun _ h => (by cases h)), (fun _ h => (by cases h))⟩, (fun x hx => by simp at hx), (Below.refl _ _).alloc (Nat.le_refl _) _⟩
  case round =>
    obtain ⟨j, A0, A1, m0, c0, m1, c1, hj, rfl, T, HS, hb⟩ := hrel
    have hm0 : m0 ≤ 123000 := part_len HS.out (fun x hx => List.mem_of_mem_take hx) (by rw [List.length_take]; omega) T.out.2.1.1 HI.out.1 hn
    have hm1 : m1 ≤ 123000 := part_len HS.out (fun x hx => List.mem_of_mem_drop hx) (by rw [List.length_drop]; omega) T.out.2.2.1.1 HI.out.1 hn
    obtain ⟨t0, t1, z0', z1', hgw⟩ := T.out.cells (Below.refl _ _)
    by_cases hlt : j < n
    · obtain ⟨b, o, x, rfl, hx, hbw, h0, h1, h2, hkk, hxn, hxs⟩ := (HI.out.below hb).at_ hlt
      have HX := Lib.hid hx
      clear hx
      by_cases hs : x.s.size ≤ 1024
      · by_cases hjk : j < k
        · have hjt : (j : Int) < (at_ : Int) % ((n : Int) + 1) := by rw [HK.out]; omega
          by_cases k0 : x.k % 3 = 0
          · have T1 : Two (wr.drewN 1) _ _ _ _ _ _ _ _ _ := T.out
            go_wp2
            go_region_with (first | (go_at_call 12; refine (word_any A0 m0 c0 _ x.n (wr.drewN 1) (T.out.2.1.drewN 1) (by omega)).mono ?_; rintro e w1 ⟨g1, c1', rfl, ho, hb1⟩; have kc := T1.cells hb1; have f0 := kc.1; have f1 := kc.2.1; have z0 := kc.2.2.1; have z1 := kc.2.2.2.1; clear kc))
            all_goals
              go_wp2
              go_roundw
              case rel => exact ⟨j + 1, _, A1, m0 + 8, c1', m1, c1, by omega, by go_num, (by rw [(split_lt HX.out hjk).1, (split_lt HX.out hjk).2, It.enc, if_pos k0]; exact Two.set0 T1 hb1 (Rd.of_own ho) (own_sl ho) (own_far ho hgw)), HS.out.snoc HX.out (by omega), ((below_drewN hb 1).trans (hb1.mono hb.size)).setCell (Nat.le_refl _) _⟩
              case measure => simp [intOf]; omega
          · by_cases k1 : x.k % 3 = 1
            · obtain ⟨z, hz⟩ : ∃ z : Nat, z = x.n % 65536 := ⟨_, rfl⟩
              have hw : IntKind.u16.wrap (x.n : Int) = (z : Int) := by rw [IntKind.wrap_u16]; omega
              have HZ := Lib.hid hz
              clear hz
              have T1 : Two (wr.drewN 1) _ _ _ _ _ _ _ _ _ := T.out
              go_wp2
              go_region_with (first | (go_at_call 14; refine (half_any A0 m0 c0 _ z (wr.drewN 1) (T.out.2.1.drewN 1) (by omega)).mono ?_; rintro e w1 ⟨g1, c1', rfl, ho, hb1⟩; have kc := T1.cells hb1; have f0 := kc.1; have f1 := kc.2.1; have z0 := kc.2.2.1; have z1 := kc.2.2.2.1; clear kc))
              all_goals
                go_wp2
                go_roundw
                case rel => exact ⟨j + 1, _, A1, m0 + 2, c1', m1, c1, by omega, by go_num, (by rw [(split_lt HX.out hjk).1, (split_lt HX.out hjk).2, It.enc, if_neg k0, if_pos k1, ← HZ.out]; exact Two.set0 T1 hb1 (Rd.of_own ho) (own_sl ho) (own_far ho hgw)), HS.out.snoc HX.out (by omega), ((below_drewN hb 1).trans (hb1.mono hb.size)).setCell (Nat.le_refl _) _⟩
                case measure => simp [intOf]; omega
            · have T1 : Two (wr.drewN 1) _ _ _ _ _ _ _ _ _ := T.out
              go_wp2
              go_region_with (first | (go_at_call 10; refine (text_ok A0 m0 c0 _ x.s (wr.drewN 1) (T.out.2.1.drewN 1) (by omega) (by omega)).mono ?_; rintro e w1 ⟨A', c1', rfl, ho, hsl, hb1⟩; have kc := T1.cells hb1; have f0 := kc.1; have f1 := kc.2.1; have z0 := kc.2.2.1; have z1 := kc.2.2.2.1; clear kc))
              all_goals
                go_wp2
                go_roundw
                case rel => exact ⟨j + 1, A', A1, m0 + 2 + x.s.size, c1', m1, c1, by omega, by go_num, (by rw [(split_lt HX.out hjk).1, (split_lt HX.out hjk).2, It.enc, if_neg k0, if_neg k1, ← List.append_assoc]; exact Two.set0 T1 hb1 (Rd.of_own ho) hsl (own_far ho hgw)), HS.out.snoc HX.out (by omega), ((below_drewN hb 1).trans (hb1.mono hb.size)).setCell (Nat.le_refl _) _⟩
                case measure => simp [intOf]; omega
        · have hjt : (at_ : Int) % ((n : Int) + 1) ≤ (j : Int) := by rw [HK.out]; omega
          by_cases k0 : x.k % 3 = 0
          · have T1 : Two (wr.drewN 1) _ _ _ _ _ _ _ _ _ := T.out
            go_wp2
            go_region_with (first | (go_at_call 12; refine (word_any A1 m1 c1 _ x.n (wr.drewN 1) (T.out.2.2.1.drewN 1) (by omega)).mono ?_; rintro e w1 ⟨g1, c1', rfl, ho, hb1⟩; have kc := T1.cells hb1; have f0 := kc.1; have f1 := kc.2.1; have z0 := kc.2.2.1; have z1 := kc.2.2.2.1; clear kc))
            all_goals
              go_wp2
              go_roundw
              case rel => exact ⟨j + 1, A0, _, m0, c0, m1 + 8, c1', by omega, by go_num, (by rw [(split_ge HX.out (by omega)).1, (split_ge HX.out (by omega)).2, It.enc, if_pos k0]; exact Two.set1 T1 hb1 (Rd.of_own ho) (own_sl ho) (own_far ho hgw)), HS.out.snoc HX.out (by omega), ((below_drewN hb 1).trans (hb1.mono hb.size)).setCell (Nat.le_refl _) _⟩
              case measure => simp [intOf]; omega
          · by_cases k1 : x.k % 3 = 1
            · obtain ⟨z, hz⟩ : ∃ z : Nat, z = x.n % 65536 := ⟨_, rfl⟩
              have hw : IntKind.u16.wrap (x.n : Int) = (z : Int) := by rw [IntKind.wrap_u16]; omega
              have HZ := Lib.hid hz
              clear hz
              have T1 : Two (wr.drewN 1) _ _ _ _ _ _ _ _ _ := T.out
              go_wp2
              go_region_with (first | (go_at_call 14; refine (half_any A1 m1 c1 _ z (wr.drewN 1) (T.out.2.2.1.drewN 1) (by omega)).mono ?_; rintro e w1 ⟨g1, c1', rfl, ho, hb1⟩; have kc := T1.cells hb1; have f0 := kc.1; have f1 := kc.2.1; have z0 := kc.2.2.1; have z1 := kc.2.2.2.1; clear kc))
              all_goals
                go_wp2
                go_roundw
                case rel => exact ⟨j + 1, A0, _, m0, c0, m1 + 2, c1', by omega, by go_num, (by rw [(split_ge HX.out (by omega)).1, (split_ge HX.out (by omega)).2, It.enc, if_neg k0, if_pos k1, ← HZ.out]; exact Two.set1 T1 hb1 (Rd.of_own ho) (own_sl ho) (own_far ho hgw)), HS.out.snoc HX.out (by omega), ((below_drewN hb 1).trans (hb1.mono hb.size)).setCell (Nat.le_refl _) _⟩
                case measure => simp [intOf]; omega
            · have T1 : Two (wr.drewN 1) _ _ _ _ _ _ _ _ _ := T.out
              go_wp2
              go_region_with (first | (go_at_call 10; refine (text_ok A1 m1 c1 _ x.s (wr.drewN 1) (T.out.2.2.1.drewN 1) (by omega) (by omega)).mono ?_; rintro e w1 ⟨A', c1', rfl, ho, hsl, hb1⟩; have kc := T1.cells hb1; have f0 := kc.1; have f1 := kc.2.1; have z0 := kc.2.2.1; have z1 := kc.2.2.2.1; clear kc))
              all_goals
                go_wp2
                go_roundw
                case rel => exact ⟨j + 1, A0, A', m0, c0, m1 + 2 + x.s.size, c1', by omega, by go_num, (by rw [(split_ge HX.out (by omega)).1, (split_ge HX.out (by omega)).2, It.enc, if_neg k0, if_neg k1, ← List.append_assoc]; exact Two.set1 T1 hb1 (Rd.of_own ho) hsl (own_far ho hgw)), HS.out.snoc HX.out (by omega), ((below_drewN hb 1).trans (hb1.mono hb.size)).setCell (Nat.le_refl _) _⟩
                case measure => simp [intOf]; omega
      · go_wp2_with (go_at_call 9; go_must (refine (works_any wr).mono ?_); rintro e w1 ⟨rfl, hb1⟩)
        go_ret
        exact ⟨rfl, hb.trans (hb1.mono hb.size)⟩
    · obtain rfl : j = n := by omega
      have ht : its.take j = its := List.take_of_length_le (by rw [HI.out.1]; exact Nat.le_refl _)
      rw [ht] at T
      have hok := HI.out.ok HS.out
      have HOK := Lib.hid hok
      have T1 : Two (wr.drewN 1) _ _ _ _ _ _ _ _ _ := T.out
      have hlen2 : (encAll (its.take k)).length = m0 := T.out.2.1.1
      have HIr : Hid (Its wr A j its) := HI.out.below hb
      have ha := below_drewN (Below.refl wr.heap.size wr) 1
      have hown0 : ((wr.drewN 1).alloc (.cells #[] 5)).ownsRow wr.heap.size 5 1 (.slice (some ⟨wr.heap.size, 0, none⟩) 0 0) 0 (u8s []) := World.ownsRow_lit (wr.drewN 1) #[] 0 (Nat.le_refl _) (Nat.zero_le _) rfl
      have H0 := Lib.hid hown0
      have hba : Below wr.heap.size wr ((wr.drewN 1).alloc (.cells #[] 5)) := ha.alloc (Nat.le_refl _) _
      have HBA := Lib.hid hba
      have HC : Hid (∀ w', Below wr.heap.size wr w' → w'.cell? ⟨w.heap.size, 0, none⟩ = some (.slice A0 m0 c0) ∧ w'.cell? ⟨w.heap.size, 1, none⟩ = some (.slice A1 m1 c1)) := fun w' h => ⟨(T.out.cells h).1, (T.out.cells h).2.1⟩
      clear ht hok hlt hj HS hown0 hba ha
      rw [HK.out]
      go_wp2
      go_region_held3 (fun w' => w'.cell? ⟨w.heap.size, 0, none⟩ = some (.slice A0 m0 c0) ∧ w'.cell? ⟨w.heap.size, 1, none⟩ = some (.slice A1 m1 c1)) (first | exact HC.out _ (below_drewN (Below.refl _ _) 1) | exact HC.out _ HBA.out | exact HC.out _ hb1 | exact HC.out _ hb2 | exact HC.out _ hb3 | exact HC.out _ hb4)
        (first
          | (refine step_append_rd (w0 := wr) rfl (.tmp 98) (.tmp 100) rfl wr.heap.size 0 m0 c0 _ A0 [] (encAll (its.take k)) rfl rfl H0.out (T.out.2.1.below HBA.out) T.out.2.2.2.1 HBA.out HBA.out.size (by omega) ?_; intro A2 c2 w1 h1 hb1; rw [Nat.zero_add, List.nil_append] at h1; rw [Nat.zero_add])
          | (refine step_append_rd (w0 := wr) rfl (.tmp 101) (.tmp 103) rfl wr.heap.size m0 m1 c1 _ A1 _ (encAll (its.drop k)) rfl rfl h1.out.1 (T.out.2.2.1.below hb1) T.out.2.2.2.2.1 hb1 hb1.size (by omega) ?_; intro A3 c3 w2 h2 hb2)
          | (refine step_append_rd (w0 := wr) rfl (.tmp 104) (.tmp 105) rfl wr.heap.size (m0 + m1) m d _ D _ bh rfl rfl h2.out.1 (HD.out.below (hb.trans (hb2.mono hb.size))) HSD.out hb2 hb2.size (by omega) ?_; intro A4 c4 w3 h3 hb3)
          | (go_at_call 16; refine (new_any A4 (m0 + m1 + m) c4 _ w3 (Rd.of_own h3.out.1) h3.out.2 (by omega)).mono ?_; rintro e w4 ⟨g1, rfl, hg1, hc1, hb34⟩; have hb4 := hb3.trans (hb34.mono hb3.size)))
      have henc : encAll (its.take k) ++ encAll (its.drop k) = encAll its := by rw [encAll, encAll, ← List.flatMap_append, List.take_append_drop]; rfl
      rw [henc] at hc1
      have hle3 : wr.heap.size ≤ w3.heap.size := hb3.size
      have tc4 := (HC.out w4 hb4).1
      clear h1 h2 h3 hb1 hb2 t0 t1 z0' z1' T1 H0 HBA hlen2 henc
      go_wp2_with fail
      refine (new_any A0 m0 c0 _ w4 (T.out.2.1.below hb4) T.out.2.2.2.1 (by omega)).mono ?_
      rintro e w5 ⟨g2, rfl, hg2, hc2, hb45⟩
      have hb5 := hb4.trans (hb45.mono hb4.size)
      have tc5 := (HC.out w5 hb5).2
      clear tc4
      go_wp2_with fail
      refine (new_any A1 m1 c1 _ w5 (T.out.2.2.1.below hb5) T.out.2.2.2.2.1 (by omega)).mono ?_
      rintro e w6 ⟨g3, rfl, hg3, hc3, hb56⟩
      have hb6 := hb5.trans (hb56.mono hb5.size)
      have hc16 := (hc1.below hb45).below hb56
      have hc26 := hc2.below hb56
      have hl1 := hc1.lt
      have hl2 := hc2.lt
      clear tc5
      have HF : Hid (0 < j → ∀ ad, A = some ad → ad.block < wr.heap.size) := HIr.out.lt
      go_wp2_with fail
      refine (cuts_yes g1 bh A j c its w6 hc16 (HIr.out.below hb6) (fun hp ad had => Nat.lt_of_lt_of_le (HF.out hp ad had) hle3) hg1 (by omega) HOK.out).mono ?_
      rintro e w7 ⟨rfl, hc17, hg7⟩
      have hb7 := hb6.grown hg7 hb6.size (fun k hk => by cases hk; omega)
      have hc27 := hc26.far (lo' := 0) hg7 (.inl ⟨hl1, hg2⟩)
      have hc37 := hc3.far (lo' := 0) hg7 (.inl ⟨Nat.lt_of_lt_of_le hl1 hb45.size, hg3⟩)
      go_wp2_with fail
      refine (left_of g1 w7 hc17 HD.out.1).mono ?_
      rintro e w8 ⟨rfl, q, rfl⟩
      have hkk := HK.out
      go_wp2_with fail
      have hok1 : ∀ x ∈ its.take k, x.ok := fun x hx => HOK.out x (List.mem_of_mem_take hx)
      have hok2 : Hid (∀ x ∈ its.drop k, x.ok) := fun x hx => HOK.out x (List.mem_of_mem_drop hx)
      have hb8 := below_drewN hb7 q
      refine (cuts_yes g2 [] A k c (its.take k) (w7.drewN q) (by rw [List.append_nil]; exact hc27.drewN q) ((HIr.out.take hkn).below hb8) (fun hp ad had => Nat.lt_of_lt_of_le (HF.out (by omega) ad had) hb4.size) hg2 (by omega) hok1).mono ?_
      rintro e w9 ⟨rfl, hc29, hg9⟩
      have hb9 := hb8.grown hg9 hb8.size (fun k hk => by cases hk; exact Nat.le_trans hb4.size hg2)
      have hc39 := (hc37.drewN q).far (lo' := 0) hg9 (.inl ⟨hl2, hg3⟩)
      clear hkk hok1
      go_wp2_with fail
      refine (left_none g2 w9 hc29).mono ?_
      rintro e w10 ⟨rfl, q2, rfl⟩
      have hkc : k ≤ c := by omega
      have HCUT : Hid (Its wr (if c = k then A else A.map (·.add (k * 3))) (j - k) (its.drop k)) := HIr.out.cut hkn hnc
      have hb10 := below_drewN hb9 q2
      go_wp2_with fail
      · have hck : c = k := by assumption
        have HC2 : Hid (Its wr A (j - k) (its.drop k)) := by have e := HCUT.out; rw [if_pos hck] at e; exact e
        clear hck
        refine (cuts_yes g3 [] _ (j - k) 0 (its.drop k) (w9.drewN q2) (by rw [List.append_nil]; exact hc39.drewN q2) (HC2.out.below hb10) (fun hp ad had => Nat.lt_of_lt_of_le (HC2.out.lt hp ad had) hb5.size) hg3 (by omega) hok2.out).mono ?_
        rintro e w11 ⟨rfl, hc311, hg11⟩
        have hb11 := hb10.grown hg11 hb10.size (fun k hk => by cases hk; exact Nat.le_trans hb5.size hg3)
        go_wp2_with fail
        refine (left_none g3 w11 hc311).mono ?_
        rintro e w12 ⟨rfl, q3, rfl⟩
        have hb12 := below_drewN hb11 q3
        go_wp2_with fail
        refine (works_any (w11.drewN q3)).mono ?_
        rintro e w13 ⟨rfl, hb13⟩
        go_wp2_with fail
        go_ret
        exact ⟨rfl, hb.trans ((hb12.trans (hb13.mono hb12.size)).mono hb.size)⟩
      · have hck : ¬ c = k := by assumption
        have HC2 : Hid (Its wr (A.map (·.add (k * 3))) (j - k) (its.drop k)) := by have e := HCUT.out; rw [if_neg hck] at e; exact e
        clear hck
        refine (cuts_yes g3 [] _ (j - k) (c - k) (its.drop k) (w9.drewN q2) (by rw [List.append_nil]; exact hc39.drewN q2) (HC2.out.below hb10) (fun hp ad had => Nat.lt_of_lt_of_le (HC2.out.lt hp ad had) hb5.size) hg3 (by omega) hok2.out).mono ?_
        rintro e w11 ⟨rfl, hc311, hg11⟩
        have hb11 := hb10.grown hg11 hb10.size (fun k hk => by cases hk; exact Nat.le_trans hb5.size hg3)
        go_wp2_with fail
        refine (left_none g3 w11 hc311).mono ?_
        rintro e w12 ⟨rfl, q3, rfl⟩
        have hb12 := below_drewN hb11 q3
        go_wp2_with fail
        refine (works_any (w11.drewN q3)).mono ?_
        rintro e w13 ⟨rfl, hb13⟩
        go_wp2_with fail
        go_ret
        exact ⟨rfl, hb.trans ((hb12.trans (hb13.mono hb12.size)).mono hb.size)⟩

end Go.Proofs.Ythnmmhjnfhmleaa
