/-
  What is proved: what digest and tagOf of tag answer. Conditions as stated.
-/
import Derived.Test.YtfmmldpemdodkaaDoorTb
namespace Go.Proofs.YtfmmldpemdodkaaDoor
open Go.RowKit

/-- A slice of slices of bytes: where each lies, its room, what it holds. -/
def Lists (w : World) (A : Option Addr) (n : Nat) (xs : List (Option Addr × Nat × List UInt8)) : Prop :=
  xs.length = n ∧ (0 < n → ∃ b o, A = some ⟨b, o, none⟩ ∧ b < w.heap.size ∧ ∀ j x, xs[j]? = some x → w.cell? ⟨b, o + j, none⟩ = some (.slice x.1 x.2.2.length x.2.1) ∧ Rd (fun _ => True) w x.1 x.2.2.length x.2.2 ∧ Sl x.1 x.2.2.length x.2.1)
theorem Lists.below {w w' : World} {A : Option Addr} {n : Nat} {xs : List (Option Addr × Nat × List UInt8)} (h : Lists w A n xs) (hb : Below w.heap.size w w') : Lists w' A n xs := by
  refine ⟨h.1, fun hn => ?_⟩
  obtain ⟨b, o, e, hlt, hc⟩ := h.2 hn
  refine ⟨b, o, e, Nat.lt_of_lt_of_le hlt hb.size, fun j x hx => ?_⟩
  obtain ⟨h1, h2, h3⟩ := hc j x hx
  exact ⟨(hb.cell (p := ⟨b, o + j, none⟩) hlt).trans h1, h2.below hb (fun _ h _ => h), h3⟩

/-- All that stands there, one behind the other. -/
def catOf (xs : List (Option Addr × Nat × List UInt8)) : List UInt8 := xs.flatMap (·.2.2)
theorem catOf_take (xs : List (Option Addr × Nat × List UInt8)) (j : Nat) (x : Option Addr × Nat × List UInt8) (h : xs[j]? = some x) : catOf (xs.take (j + 1)) = catOf (xs.take j) ++ x.2.2 := by
  rw [List.take_add_one, h, catOf, List.flatMap_append]
  simp [catOf]
theorem catOf_le (xs : List (Option Addr × Nat × List UInt8)) (j : Nat) : (catOf (xs.take j)).length ≤ (catOf xs).length := by
  conv => rhs; rw [← List.take_append_drop j xs, catOf, List.flatMap_append]
  rw [List.length_append, ← catOf]
  omega

structure DgAt (g : Nat) (al : List UInt8) (w wr : World) : Prop where
  bel : Below w.heap.size w wr
  hh : HashIs wr g al al.length
  hg : w.heap.size + 1 < g
  th : wr.there (w.heap.size + 1) 0 32

set_option maxHeartbeats 1000000 in
theorem dig_by (k out : List UInt8) (xs : List (Option Addr × Nat × List UInt8)) (A : Option Addr) (n c : Nat) (w : World) (hk64 : k.length = 64) (hx : Lists w A n xs) (hn : n ≤ 1000) (hL : (catOf xs).length < 1000000000000000) (hk : KIs w) (h0 : 0 < w.heap.size) (ho : (u8s out).length = 32)
    (S : ∀ (g : Nat) (al : List UInt8) (w : World), al = k ++ catOf xs → HashIs w g al al.length → KIs w → 0 < w.heap.size → Calls Tryd.prog 28 #[.pointer (some ⟨g, 0, none⟩)] w fun E w' => E = .returned (.agg (u8s out).toArray) ∧ Below w.heap.size w w') :
    Calls Tryd.prog 31 #[.agg (u8s k).toArray, .slice A n c] w fun E w' => E = .returned (.agg (u8s out).toArray) ∧ Below w.heap.size w w' := by
  have HK64 := Lib.hid hk64
  have HX := Lib.hid hx
  have HL := Lib.hid hL
  have HK := Lib.hid hk
  have HO := Lib.hid ho
  have SS := Lib.hid S
  have HI32 : Hid ((Tryd.prog.info? 25).map (·.size) = some (u8s out).length) := Lib.hid (by rw [ho]; exact Tryd.size25)
  clear hk64 hx hL hk ho S
  go_enter Tryd.func31, Tryd.ntmps31
  go_wp2_with (first
    | (go_at_call 26; refine (new_any _).mono ?_; rintro E w1 ⟨g, rfl, hg1, hh1, hb1⟩; have HB1 := Lib.hid hb1; have HH1 := Lib.hid hh1; have HG1 : Hid (w.heap.size + 1 < g) := Lib.hid (by simp at hg1; omega); clear hg1 hh1 hb1)
    | (go_at_call 27; have HBW1 : Hid (Below w.heap.size w w1) := Lib.hid ((((Below.refl _ _).alloc (Nat.le_refl _) _).alloc (by simp) _).trans (HB1.out.mono (by simp; omega))); have HRK : Hid (w1.rangeAt w.heap.size 0 (u8s k)) := Lib.hid (rangeAt_below (World.rangeAt_alloc (range_new w (u8s k) _) _) HB1.out (by simp; omega)); have HT1 : Hid (w1.there (w.heap.size + 1) 0 32) := Lib.hid (there_below (there_new2 w _ (List.replicate 32 (Value.int .u8 0)).toArray 25) HB1.out (by simp)); have hw := write_any g [] k (some ⟨w.heap.size, 0, none⟩) 64 w1 HH1.out (Rd.of_range HRK.out (by have := HB1.out.size; simp at this; omega) (by have := HG1.out; show w.heap.size ≠ g; omega) (fun _ _ h => h) rfl) ⟨(fun e => by cases e), by rw [HK64.out]; exact Nat.le_refl _, by omega⟩ (by rw [HK64.out]; simp) (HK.out.below HBW1.out h0) (by have := HG1.out; omega); rw [List.nil_append, List.length_nil, Nat.zero_add, HK64.out] at hw; refine hw.mono ?_; clear hw; rintro E w2 ⟨rfl, hh2, hg2⟩; have HD2 : Hid (DgAt g k w w2) := Lib.hid ⟨HBW1.out.grown hg2 HBW1.out.size (fun j hj => by have := HG1.out; have := Option.some.inj hj; omega), by rw [HK64.out]; exact hh2, HG1.out, there_grown HT1.out hg2 (by have := HG1.out; omega)⟩; clear hh2 hg2 HBW1 HRK HT1))
  go_loopw [14] (fun v14 wr => ∃ (j : Nat) (al : List UInt8), j ≤ n ∧ v14 = .int .i64 j ∧ Hid (al = k ++ catOf (xs.take j)) ∧ Hid (DgAt g al w wr)) (fun v14 _ => n - (intOf v14).toNat)
  case atStart => exact ⟨0, k, by omega, rfl, Lib.hid (by simp [catOf]), HD2⟩
  case round =>
    clear HD2 HH1 HB1 HG1
    obtain ⟨j, al, hj, rfl, HAL, HP⟩ := hrel
    have HKR : Hid (KIs wr) := Lib.hid (HK.out.below HP.out.bel h0)
    by_cases hjn : j < n
    · obtain ⟨b, o, rfl, hbw, hcs⟩ := HX.out.2 (by omega)
      obtain ⟨⟨Ax, cx, more⟩, hxk⟩ : ∃ x, xs[j]? = some x := ⟨_, List.getElem?_eq_getElem (by rw [HX.out.1]; exact hjn)⟩
      obtain ⟨hcell, hrx, hsx⟩ := hcs j _ hxk
      have cl := (HP.out.bel.cell (p := ⟨b, o + j, none⟩) hbw).trans hcell
      have HRX := Lib.hid hrx
      have HSX := Lib.hid hsx
      have HT : Hid (catOf (xs.take (j + 1)) = catOf (xs.take j) ++ more) := Lib.hid (catOf_take xs j _ hxk)
      have HLE : Hid ((catOf (xs.take (j + 1))).length ≤ (catOf xs).length) := Lib.hid (catOf_le xs (j + 1))
      have HLL : Hid (al.length + more.length < 1152921504606846976) := Lib.hid (by
        have h1 := HLE.out
        rw [HT.out, List.length_append] at h1
        rw [HAL.out, List.length_append, HK64.out]
        have := HL.out
        omega)
      clear hcs hxk hcell hrx hsx
      simp only at cl HRX HSX
      have HRG : Hid (Rd (· ≠ g) wr Ax more.length more) := Lib.hid ((((HRX.out.mono (Q := (· < w.heap.size)) fun b hb _ => hb).below HP.out.bel (fun _ h _ => h))).mono fun b _ hb e => by have := HP.out.hg; have hb' : b < w.heap.size := hb; have e' : b = g := e; omega)
      have HG0 : Hid (0 < g) := Lib.hid (by have := HP.out.hg; omega)
      go_wp2_with (first
        | (go_at_call 27; refine (write_any g al more Ax cx wr HP.out.hh HRG.out HSX.out HLL.out HKR.out HG0.out).mono ?_; rintro E w2 ⟨rfl, hh2, hg2⟩; have HP2 : Hid (DgAt g (al ++ more) w w2) := Lib.hid ⟨HP.out.bel.grown hg2 HP.out.bel.size (fun j hj => by have := HP.out.hg; have := Option.some.inj hj; omega), by rw [List.length_append]; exact hh2, HP.out.hg, there_grown HP.out.th hg2 (by have := HP.out.hg; omega)⟩; clear hh2 hg2))
      go_roundw
      case measure => simp [intOf]; omega
      case rel => exact ⟨j + 1, al ++ more, by omega, by go_num, Lib.hid (by rw [HAL.out, HT.out, List.append_assoc]), HP2⟩
    · obtain rfl : j = n := by omega
      have HAL2 : Hid (al = k ++ catOf xs) := Lib.hid (by rw [HAL.out, List.take_of_length_le (by rw [HX.out.1]; exact Nat.le_refl _)])
      go_wp2_with (first
        | (go_at_call 28; refine (SS.out g al wr HAL2.out HP.out.hh HKR.out (Nat.lt_of_lt_of_le h0 HP.out.bel.size)).mono ?_; rintro E w3 ⟨rfl, hb3⟩; have HT3 : Hid (w3.there (w.heap.size + 1) 0 (u8s out).length) := Lib.hid (by rw [HO.out]; exact there_below HP.out.th hb3 (by have := HP.out.hg; have := HP.out.hh.lt; omega)); have HB3 : Hid (Below w.heap.size w w3) := Lib.hid (HP.out.bel.trans (hb3.mono HP.out.bel.size)); clear hb3)
        | (refine wpList_store_cells rfl 25 (.tmp 4) (.tmp 23) rfl (w.heap.size + 1) 0 (u8s out) rfl rfl HT3.out HI32.out (u8s_one _) ?_))
      exact bodyPost_ret (ret_range (cs := u8s out) rfl rfl (World.rangeAt_setCells_same _ _ _ (u8s out) HT3.out) Tryd.underlying25 rfl HI32.out) rfl ⟨rfl, below_setCells (by omega) _ _ _ HB3.out⟩

theorem dig_any (k : List UInt8) (xs : List (Option Addr × Nat × List UInt8)) (A : Option Addr) (n c : Nat) (w : World) (hk64 : k.length = 64) (hx : Lists w A n xs) (hn : n ≤ 1000) (hL : (catOf xs).length < 1000000000000000) (hk : KIs w) (h0 : 0 < w.heap.size) :
    Calls Tryd.prog 31 #[.agg (u8s k).toArray, .slice A n c] w fun E w' => E = .returned (.agg (u8s (sumOf (k ++ catOf xs))).toArray) ∧ Below w.heap.size w w' :=
  dig_by k (sumOf (k ++ catOf xs)) xs A n c w hk64 hx hn hL hk h0 (by rw [u8s_length, sumOf_length]) fun g al w e hh hk h0 => by
    rw [← e]
    exact hashSum_any g al w hh (by rw [e, List.length_append, hk64]; omega) hk h0
end Go.Proofs.YtfmmldpemdodkaaDoor
