/-
  What is proved: the plain side of items: what is put of them, and what cutting them finds. No condition.
-/
import Derived.Test.YthnmmhjnfhmleaaJ
import Derived.Deep.RegionHeld3
namespace Go.Proofs.Ythnmmhjnfhmleaa
open Go.RowKit

/-- An item: its kind, its number, its text. -/
structure It where
  k : Nat
  n : Nat
  s : ByteArray

/-- What is put of an item. -/
def It.enc (x : It) : List UInt8 := if x.k % 3 = 0 then be 8 x.n else if x.k % 3 = 1 then be 2 (x.n % 65536) else be 2 x.s.size ++ x.s.data.toList

/-- What is left behind an item that was cut right, if it was. -/
def It.cut (x : It) (rem : List UInt8) : Option (List UInt8) :=
  if x.k % 3 = 0 then (if fits rem false 8 = true ∧ num (tkOut rem false 8) = x.n then some (tkRem rem false 8) else none)
  else if x.k % 3 = 1 then (if fits rem false 2 = true ∧ num (tkOut rem false 2) = x.n % 65536 then some (tkRem rem false 2) else none)
  else (if fits rem false (tsz rem x.s.size) = true ∧ str ((tkOut rem false (tsz rem x.s.size)).drop 2) = x.s then some (tkRem rem false (tsz rem x.s.size)) else none)

def cutAll : List It → List UInt8 → Option (List UInt8)
  | [], rem => some rem
  | x :: xs, rem => (x.cut rem).bind (cutAll xs)

/-- The slice at A of length n reads as items. -/
def Its (w : World) (A : Option Addr) (n : Nat) (its : List It) : Prop :=
  its.length = n ∧ (0 < n → ∃ b o, A = some ⟨b, o, none⟩ ∧ b < w.heap.size ∧ ∀ j (x : It), its[j]? = some x →
    w.cell? ⟨b, o + j * 3, none⟩ = some (.int .u8 (x.k : Int)) ∧ w.cell? ⟨b, o + j * 3 + 1, none⟩ = some (.int .u64 (x.n : Int)) ∧ w.cell? ⟨b, o + j * 3 + 2, none⟩ = some (.string x.s) ∧
    x.k < 256 ∧ x.n < 18446744073709551616 ∧ x.s.size ≤ 9223372036854775807)

theorem Its.at_ {w : World} {A : Option Addr} {n j : Nat} {its : List It} (h : Its w A n its) (hj : j < n) : ∃ b o x, A = some ⟨b, o, none⟩ ∧ its[j]? = some x ∧ b < w.heap.size ∧
    w.cell? ⟨b, o + j * 3, none⟩ = some (.int .u8 (x.k : Int)) ∧ w.cell? ⟨b, o + j * 3 + 1, none⟩ = some (.int .u64 (x.n : Int)) ∧ w.cell? ⟨b, o + j * 3 + 2, none⟩ = some (.string x.s) ∧
    x.k < 256 ∧ x.n < 18446744073709551616 ∧ x.s.size ≤ 9223372036854775807 := by
  obtain ⟨b, o, hA, hb, hc⟩ := h.2 (by omega)
  have hl : j < its.length := by rw [h.1]; exact hj
  exact ⟨b, o, its[j], hA, List.getElem?_eq_getElem hl, hb, hc j _ (List.getElem?_eq_getElem hl)⟩

theorem bytes_ext {a b : ByteArray} (h : a.toList = b.toList) : a = b := by
  rw [ByteArray.toList_eq, ByteArray.toList_eq] at h
  exact ByteArray.ext (Array.toList_inj.1 h)

theorem drop_its {its : List It} {j : Nat} {x : It} (hx : its[j]? = some x) : its.drop j = x :: its.drop (j + 1) := by
  obtain ⟨h1, h2⟩ := List.getElem?_eq_some_iff.1 hx
  rw [List.drop_eq_getElem_cons h1, h2]

theorem cutAll_yes {its : List It} {j : Nat} {x : It} {rm r : List UInt8} {R : Option (List UInt8)} (hx : its[j]? = some x) (hR : R = cutAll (its.drop j) rm) (h : x.cut rm = some r) : R = cutAll (its.drop (j + 1)) r := by
  rw [hR, drop_its hx]; simp [cutAll, h]
theorem cutAll_no {its : List It} {j : Nat} {x : It} {rm : List UInt8} {R : Option (List UInt8)} (hx : its[j]? = some x) (hR : R = cutAll (its.drop j) rm) (h : x.cut rm = none) : R = none := by
  rw [hR, drop_its hx]; simp [cutAll, h]

set_option maxHeartbeats 4000000 in
theorem cuts_any {lo : Nat} (g : Nat) (rem : List UInt8) (A : Option Addr) (n c : Nat) (its : List It) (w : World) (h : CutAt w lo g rem false) (hi : Its w A n its) (hA : 0 < n → ∀ ad, A = some ad → ad.block < lo) (hlo : lo ≤ g) (hn : n ≤ 1000) :
    Calls Try.prog 29 #[.pointer (some ⟨g, 0, none⟩), .slice A n c] w fun e w' => e = .returned (.bool (cutAll its rem).isSome) ∧ (∀ r, cutAll its rem = some r → CutAt w' lo g r false) ∧ w.grownBy w' (some g) := by
  have HI : Hid (Its w A n its) := hi
  have HA := Lib.hid hA
  clear hi hA
  obtain ⟨R, hR⟩ : ∃ R, R = cutAll its rem := ⟨_, rfl⟩
  rw [← hR]
  have HR := Lib.hid hR
  clear hR
  go_enter Try.func29, Try.ntmps29
  go_wp2
  go_loopw [5] (fun i wr => ∃ (j : Nat) (rm : List UInt8), j ≤ n ∧ i = .int .i64 j ∧ Hid (R = cutAll (its.drop j) rm) ∧ CutAt wr lo g rm false ∧ w.grownBy wr (some g)) (fun i _ => n - (intOf i).toNat)
  case atStart => exact ⟨0, rem, Nat.zero_le _, rfl, HR, h, World.grownBy.refl _ _⟩
  case round =>
    obtain ⟨j, rm, hj, rfl, HJ, hc, hg⟩ := hrel
    by_cases hlt : j < n
    · obtain ⟨b, o, x, rfl, hx, hb, h0, h1, h2, hk, hxn, hxs⟩ := HI.out.at_ hlt
      have hbg : b ≠ g := by have := HA.out (by omega) _ rfl; simp only at this; omega
      have c0 := hg.cell h0 (fun e => hbg (by injection e))
      have c1 := hg.cell h1 (fun e => hbg (by injection e))
      have c2 := hg.cell h2 (fun e => hbg (by injection e))
      have HX := Lib.hid hx
      clear hx h0 h1 h2
      by_cases k0 : x.k % 3 = 0
      · have K0 := Lib.hid k0
        skip
        have hct := word_cut g rm false (wr.drewN 1) (hc.drewN 1)
        obtain ⟨r, hr⟩ : ∃ r, r = tkRem rm false 8 := ⟨_, rfl⟩
        obtain ⟨f, hf⟩ : ∃ f, f = fits rm false 8 := ⟨_, rfl⟩
        obtain ⟨q, hq⟩ : ∃ q, q = num (tkOut rm false 8) := ⟨_, rfl⟩
        rw [← hr, ← hf, ← hq] at hct
        have HT := Lib.hid hct
        clear hct
        by_cases hqe : q = x.n
        · cases f with
          | true =>
            have HY : Hid (R = cutAll (its.drop (j + 1)) r) := cutAll_yes HX.out HJ.out (by unfold It.cut; rw [if_pos K0.out, if_pos ⟨hf.symm, by rw [← hq, hqe]⟩, ← hr])
            clear HJ hr hf
            have hE : ((q : Int) == (x.n : Int)) = true := by rw [hqe]; simp
            clear hq hqe
            go_wp2
            go_region_held3 (fun w' => w'.cell? ⟨b, o + j * 3 + 1, none⟩ = some (.int .u64 (x.n : Int))) (first | exact c1 | exact c1') (first | (go_at_call 17; refine HT.out.mono ?_; rintro e w1 ⟨rfl, hc', hg'⟩; have c1' := hg'.cell c1 (fun e => hbg (by injection e))))
            go_wp2_with (go_at_call 28; refine (ok_any g r _ w1 hc').mono ?_; rintro e w2 ⟨rfl, rfl⟩)
            go_roundw
            case rel => exact ⟨j + 1, r, by omega, by go_num, HY, hc', grownBy_trans hg (grownBy_trans (grownBy_drewN wr 1 _) hg')⟩
            case measure => simp [intOf]; omega
          | false =>
            obtain rfl : R = none := cutAll_no HX.out HJ.out (by unfold It.cut; rw [if_pos K0.out, if_neg (by rw [← hf]; simp)])
            clear HJ hr hf
            have hE : ((q : Int) == (x.n : Int)) = true := by rw [hqe]; simp
            clear hq hqe
            go_wp2
            go_region_held3 (fun w' => w'.cell? ⟨b, o + j * 3 + 1, none⟩ = some (.int .u64 (x.n : Int))) (first | exact c1 | exact c1') (first | (go_at_call 17; refine HT.out.mono ?_; rintro e w1 ⟨rfl, hc', hg'⟩; have c1' := hg'.cell c1 (fun e => hbg (by injection e))))
            go_wp2_with (go_at_call 28; refine (ok_any g r _ w1 hc').mono ?_; rintro e w2 ⟨rfl, rfl⟩)
            go_ret
            exact ⟨rfl, (fun _ h => (by cases h)), grownBy_trans hg (grownBy_trans (grownBy_drewN wr 1 _) hg')⟩
        · obtain rfl : R = none := cutAll_no HX.out HJ.out (by unfold It.cut; rw [if_pos K0.out, if_neg (by rw [← hq]; exact fun h => hqe h.2)])
          clear HJ hr hf
          have hE : ((q : Int) == (x.n : Int)) = false := beq_eq_false_iff_ne.2 (by omega)
          clear hq hqe
          go_wp2
          go_region_held3 (fun w' => w'.cell? ⟨b, o + j * 3 + 1, none⟩ = some (.int .u64 (x.n : Int))) (first | exact c1 | exact c1') (first | (go_at_call 17; refine HT.out.mono ?_; rintro e w1 ⟨rfl, hc', hg'⟩; have c1' := hg'.cell c1 (fun e => hbg (by injection e))))
          go_wp2
          go_ret
          exact ⟨rfl, (fun _ h => (by cases h)), grownBy_trans hg (grownBy_trans (grownBy_drewN wr 1 _) hg')⟩
      · by_cases k1 : x.k % 3 = 1
        · have K0 := Lib.hid k0
          have K1 := Lib.hid k1
          skip
          have hct := half_cut g rm false (wr.drewN 1) (hc.drewN 1)
          obtain ⟨r, hr⟩ : ∃ r, r = tkRem rm false 2 := ⟨_, rfl⟩
          obtain ⟨f, hf⟩ : ∃ f, f = fits rm false 2 := ⟨_, rfl⟩
          obtain ⟨q, hq⟩ : ∃ q, q = num (tkOut rm false 2) := ⟨_, rfl⟩
          rw [← hr, ← hf, ← hq] at hct
          have HT := Lib.hid hct
          clear hct
          by_cases hqe : q = x.n % 65536
          · cases f with
            | true =>
              have HY : Hid (R = cutAll (its.drop (j + 1)) r) := cutAll_yes HX.out HJ.out (by unfold It.cut; rw [if_neg K0.out, if_pos K1.out, if_pos ⟨hf.symm, by rw [← hq, hqe]⟩, ← hr])
              clear HJ hr hf
              have hE : ((q : Int) == IntKind.u16.wrap (x.n : Int)) = true := by rw [IntKind.wrap_u16, hqe]; simp
              clear hq hqe
              go_wp2
              go_region_held3 (fun w' => w'.cell? ⟨b, o + j * 3 + 1, none⟩ = some (.int .u64 (x.n : Int))) (first | exact c1 | exact c1') (first | (go_at_call 19; refine HT.out.mono ?_; rintro e w1 ⟨rfl, hc', hg'⟩; have c1' := hg'.cell c1 (fun e => hbg (by injection e))))
              go_wp2_with (go_at_call 28; refine (ok_any g r _ w1 hc').mono ?_; rintro e w2 ⟨rfl, rfl⟩)
              go_roundw
              case rel => exact ⟨j + 1, r, by omega, by go_num, HY, hc', grownBy_trans hg (grownBy_trans (grownBy_drewN wr 1 _) hg')⟩
              case measure => simp [intOf]; omega
            | false =>
              obtain rfl : R = none := cutAll_no HX.out HJ.out (by unfold It.cut; rw [if_neg K0.out, if_pos K1.out, if_neg (by rw [← hf]; simp)])
              clear HJ hr hf
              have hE : ((q : Int) == IntKind.u16.wrap (x.n : Int)) = true := by rw [IntKind.wrap_u16, hqe]; simp
              clear hq hqe
              go_wp2
              go_region_held3 (fun w' => w'.cell? ⟨b, o + j * 3 + 1, none⟩ = some (.int .u64 (x.n : Int))) (first | exact c1 | exact c1') (first | (go_at_call 19; refine HT.out.mono ?_; rintro e w1 ⟨rfl, hc', hg'⟩; have c1' := hg'.cell c1 (fun e => hbg (by injection e))))
              go_wp2_with (go_at_call 28; refine (ok_any g r _ w1 hc').mono ?_; rintro e w2 ⟨rfl, rfl⟩)
              go_ret
              exact ⟨rfl, (fun _ h => (by cases h)), grownBy_trans hg (grownBy_trans (grownBy_drewN wr 1 _) hg')⟩
          · obtain rfl : R = none := cutAll_no HX.out HJ.out (by unfold It.cut; rw [if_neg K0.out, if_pos K1.out, if_neg (by rw [← hq]; exact fun h => hqe h.2)])
            clear HJ hr hf
            have hE : ((q : Int) == IntKind.u16.wrap (x.n : Int)) = false := beq_eq_false_iff_ne.2 (by rw [IntKind.wrap_u16]; omega)
            clear hq hqe
            go_wp2
            go_region_held3 (fun w' => w'.cell? ⟨b, o + j * 3 + 1, none⟩ = some (.int .u64 (x.n : Int))) (first | exact c1 | exact c1') (first | (go_at_call 19; refine HT.out.mono ?_; rintro e w1 ⟨rfl, hc', hg'⟩; have c1' := hg'.cell c1 (fun e => hbg (by injection e))))
            go_wp2
            go_ret
            exact ⟨rfl, (fun _ h => (by cases h)), grownBy_trans hg (grownBy_trans (grownBy_drewN wr 1 _) hg')⟩
        · have K0 := Lib.hid k0
          have K1 := Lib.hid k1
          skip
          have hct := text_cut g rm false (x.s.size : Int) (wr.drewN 1) (hc.drewN 1)
          obtain ⟨r, hr⟩ : ∃ r, r = tkRem rm false (tsz rm x.s.size) := ⟨_, rfl⟩
          obtain ⟨f, hf⟩ : ∃ f, f = fits rm false (tsz rm x.s.size) := ⟨_, rfl⟩
          obtain ⟨q, hq⟩ : ∃ q, q = str ((tkOut rm false (tsz rm x.s.size)).drop 2) := ⟨_, rfl⟩
          rw [← hr, ← hf, ← hq] at hct
          have HT := Lib.hid hct
          clear hct
          by_cases hqe : q = x.s
          · cases f with
            | true =>
              have HY : Hid (R = cutAll (its.drop (j + 1)) r) := cutAll_yes HX.out HJ.out (by unfold It.cut; rw [if_neg K0.out, if_neg K1.out, if_pos ⟨hf.symm, by rw [← hq, hqe]⟩, ← hr])
              clear HJ hr hf
              have hE : (q.toList == x.s.toList) = true := by rw [hqe]; simp
              clear hq hqe
              go_wp2
              go_region_held3 (fun w' => w'.cell? ⟨b, o + j * 3 + 2, none⟩ = some (.string x.s)) (first | exact c2 | exact c2') (first | (go_at_call 23; refine HT.out.mono ?_; rintro e w1 ⟨rfl, hc', hg'⟩; have c2' := hg'.cell c2 (fun e => hbg (by injection e))))
              go_wp2_with (go_at_call 28; refine (ok_any g r _ w1 hc').mono ?_; rintro e w2 ⟨rfl, rfl⟩)
              go_roundw
              case rel => exact ⟨j + 1, r, by omega, by go_num, HY, hc', grownBy_trans hg (grownBy_trans (grownBy_drewN wr 1 _) hg')⟩
              case measure => simp [intOf]; omega
            | false =>
              obtain rfl : R = none := cutAll_no HX.out HJ.out (by unfold It.cut; rw [if_neg K0.out, if_neg K1.out, if_neg (by rw [← hf]; simp)])
              clear HJ hr hf
              have hE : (q.toList == x.s.toList) = true := by rw [hqe]; simp
              clear hq hqe
              go_wp2
              go_region_held3 (fun w' => w'.cell? ⟨b, o + j * 3 + 2, none⟩ = some (.string x.s)) (first | exact c2 | exact c2') (first | (go_at_call 23; refine HT.out.mono ?_; rintro e w1 ⟨rfl, hc', hg'⟩; have c2' := hg'.cell c2 (fun e => hbg (by injection e))))
              go_wp2_with (go_at_call 28; refine (ok_any g r _ w1 hc').mono ?_; rintro e w2 ⟨rfl, rfl⟩)
              go_ret
              exact ⟨rfl, (fun _ h => (by cases h)), grownBy_trans hg (grownBy_trans (grownBy_drewN wr 1 _) hg')⟩
          · obtain rfl : R = none := cutAll_no HX.out HJ.out (by unfold It.cut; rw [if_neg K0.out, if_neg K1.out, if_neg (by rw [← hq]; exact fun h => hqe h.2)])
            clear HJ hr hf
            have hE : (q.toList == x.s.toList) = false := beq_eq_false_iff_ne.2 (fun h => hqe (bytes_ext h))
            clear hq hqe
            go_wp2
            go_region_held3 (fun w' => w'.cell? ⟨b, o + j * 3 + 2, none⟩ = some (.string x.s)) (first | exact c2 | exact c2') (first | (go_at_call 23; refine HT.out.mono ?_; rintro e w1 ⟨rfl, hc', hg'⟩; have c2' := hg'.cell c2 (fun e => hbg (by injection e))))
            go_wp2
            go_ret
            exact ⟨rfl, (fun _ h => (by cases h)), grownBy_trans hg (grownBy_trans (grownBy_drewN wr 1 _) hg')⟩
    · have HE : Hid (R = some rm) := by
        rw [Hid, HJ.out, List.drop_of_length_le (by rw [HI.out.1]; omega)]
        rfl
      clear HJ
      go_wp2_with (go_at_call 28; refine (ok_any g rm _ wr hc).mono ?_; rintro e w2 ⟨rfl, rfl⟩)
      go_ret
      exact ⟨by rw [HE.out]; rfl, (fun r hr => by rw [HE.out] at hr; cases hr; exact hc), hg⟩

end Go.Proofs.Ythnmmhjnfhmleaa
