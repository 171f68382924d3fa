/-
  What is proved: the walk of ShaParts for whatever comes in. Conditions as stated.
-/
import Derived.Test.YtflbhicjaaeegaaDoorAB
namespace Go.Proofs.YtflbhicjaaeegaaDoor
open Go.RowKit

/-- A slice of slices of bytes: where each lies, its room, what it holds. -/
def Lists (w : World) (A : Option Addr) (n : Nat) (xs : List (Option Addr × Nat × List UInt8)) : Prop :=
  xs.length = n ∧ (0 < n → ∃ b o, A = some ⟨b, o, none⟩ ∧ b < w.heap.size ∧ ∀ j x, xs[j]? = some x → w.cell? ⟨b, o + j, none⟩ = some (.slice x.1 x.2.2.length x.2.1) ∧ Rd (fun _ => True) w x.1 x.2.2.length x.2.2 ∧ Sl x.1 x.2.2.length x.2.1)

/-- What lies in memory behind so many parts. -/
structure PaAt (g : Nat) (al : List UInt8) (k : Nat) (A : Option Addr) (c : Nat) (w wr : World) : Prop where
  bel : Below w.heap.size w wr
  hh : HashIs wr g al al.length
  own : wr.ownsRow (g + 1) 5 1 (.slice A al.length c) al.length (u8s al)
  sl : Sl A al.length c
  hg : w.heap.size ≤ g
  len : al.length ≤ 500 * k
theorem PaAt.next {g k c : Nat} {al : List UInt8} {A : Option Addr} {w wr wr' : World} (H : PaAt g al k A c w wr) (h : Below wr.heap.size wr wr') : PaAt g al k A c w wr' :=
  ⟨H.bel.trans (h.mono H.bel.size), H.hh.below h H.hh.lt, own_below H.own h, H.sl, H.hg, H.len⟩

theorem own_apart {w : World} {g n : Nat} {v : Value} {xs : List Value} (h : w.ownsRow (g + 1) 5 1 v n xs) : v.ownBlock = none ∨ v.ownBlock ≠ some g := by
  rcases h.2 with ⟨h1, _⟩ | ⟨g', cap, cur, rfl, hb, _⟩
  · left
    rw [h1]
    rfl
  · right
    intro e
    have : g' = g := Option.some.inj e
    omega

set_option maxHeartbeats 1000000 in
set_option maxRecDepth 100000 in
theorem shaParts_by (sm : List UInt8 → List UInt8) (hsm : ∀ xs, (sm xs).length = 32) (xs : List (Option Addr × Nat × List UInt8)) (A : Option Addr) (n c : Nat) (w : World) (hx : Lists w A n xs) (hs : Sl A n c) (hW : Works) (hk : KIs w) (h0 : 0 < w.heap.size)
    (s16 : ∀ (g : Nat) (al : List UInt8) (w : World), al.length ≤ 20000 → HashIs w g al al.length → KIs w → 0 < w.heap.size → Calls Tryd.prog 16 #[.pointer (some ⟨g, 0, none⟩)] w fun E w' => E = .returned (.agg (u8s (sm al)).toArray) ∧ Below w.heap.size w w')
    (s12 : ∀ (al : List UInt8) (A : Option Addr) (c : Nat) (w : World), al.length ≤ 20000 → Rd (fun _ => True) w A al.length al → Sl A al.length c → KIs w → 0 < w.heap.size → Calls Tryd.prog 12 #[.slice A al.length c] w fun E w' => E = .returned (.agg (u8s (sm al)).toArray) ∧ Below w.heap.size w w')
    (s17 : ∀ (al : List UInt8) (A : Option Addr) (c : Nat) (w : World), al.length ≤ 20000 → Rd (fun _ => True) w A al.length al → Sl A al.length c → KIs w → 0 < w.heap.size → Calls Tryd.prog 17 #[.slice A al.length c] w fun E w' => E = .returned (.agg (u8s (sm al)).toArray) ∧ Below w.heap.size w w') :
    Calls Tryd.prog 5 #[.slice A n c] w fun E w' => E = .returned (.bool true) ∧ Below w.heap.size w w' := by
  have HK := Lib.hid hk
  have HW := Lib.hid hW
  have HX := Lib.hid hx
  have S16 := Lib.hid s16
  have S12 := Lib.hid s12
  have S17 := Lib.hid s17
  have heq := fun al => eq_bytes (sm al) (hsm al)
  have hgd := Tryd.guard29
  clear hk hW hx s16 s12 s17
  go_enter Tryd.func5, Tryd.ntmps5
  go_wp2_with (first
    | (go_at_call 14; refine (new_any w).mono ?_; rintro E w1 ⟨g, rfl, hg1, hh1, hb1⟩))
  have HP : Hid (PaAt g [] 0 none 0 w w1) := Lib.hid ⟨hb1, hh1, ⟨rfl, .inl ⟨rfl, rfl⟩⟩, ⟨fun _ => ⟨rfl, rfl⟩, Nat.le_refl _, by omega⟩, hg1, Nat.le_refl _⟩
  clear hg1 hh1 hb1
  go_loopw [4, 5] (fun v4 v5 wr => ∃ (k : Nat) (al : List UInt8) (A' : Option Addr) (c' : Nat), k ≤ 40 ∧ v5 = .int .i64 k ∧ v4 = .slice A' al.length c' ∧ Hid (PaAt g al k A' c' w wr)) (fun _ v5 _ => 40 - (intOf v5).toNat)
  case atStart => exact ⟨0, [], none, 0, by omega, rfl, rfl, HP⟩
  case round =>
    clear HP
    obtain ⟨k, al, A4, c4, hk40, rfl, rfl, HP⟩ := hrel
    have HL : Hid (al.length ≤ 20000) := Lib.hid (by have := HP.out.len; omega)
    have HKR : Hid (KIs wr) := Lib.hid (HK.out.below HP.out.bel h0)
    have HGR : Hid (0 < wr.heap.size) := Lib.hid (Nat.lt_of_lt_of_le h0 HP.out.bel.size)
    by_cases hkk : k < n ∧ k < 40
    · obtain ⟨hkn, hk4⟩ := hkk
      obtain ⟨b, o, rfl, hbw, hcs⟩ := HX.out.2 (by omega)
      obtain ⟨⟨Ax, cx, more⟩, hxk⟩ : ∃ x, xs[k]? = some x := ⟨_, List.getElem?_eq_getElem (by rw [HX.out.1]; exact hkn)⟩
      obtain ⟨hcell, hrx, hsx⟩ := hcs k _ hxk
      have cl := (HP.out.bel.cell (p := ⟨b, o + k, none⟩) hbw).trans hcell
      have HRX := Lib.hid hrx
      have HSX := Lib.hid hsx
      clear hcs hxk hcell hrx hsx
      simp only at cl HRX HSX
      by_cases hbig : 500 < more.length
      · go_wp2_with (first
          | (go_at_call 11; refine (HW.out wr HKR.out HGR.out).mono ?_; rintro E wz ⟨rfl, hbz⟩))
        go_ret
        exact ⟨rfl, HP.out.bel.trans (hbz.mono HP.out.bel.size)⟩
      · have hbg : b < g := Nat.lt_of_lt_of_le hbw HP.out.hg
        have HRG : Hid (Rd (· ≠ g) wr Ax more.length more) := Lib.hid ((((HRX.out.mono (Q := (· < w.heap.size)) fun b hb _ => hb).below HP.out.bel (fun _ h _ => h))).mono fun b _ hb e => by have := HP.out.hg; have hb' : b < w.heap.size := hb; have e' : b = g := e; omega)
        have HG1 : Hid (0 < g) := Lib.hid (Nat.lt_of_lt_of_le h0 HP.out.hg)
        have hl2 : al.length ≤ 20000 := HL.out
        go_wp2_with (first
          | (go_at_call 15; refine (write_any g al more Ax cx wr HP.out.hh HRG.out HSX.out (by omega) HKR.out HG1.out).mono ?_; rintro E w2 ⟨rfl, hh2, hg2⟩; have HH2 := Lib.hid hh2; have HB2 := Lib.hid (HP.out.bel.grown hg2 HP.out.bel.size (fun j hj => by have := HP.out.hg; have := Option.some.inj hj; omega)); have HO2 := Lib.hid (HP.out.own.kept hg2 (own_apart HP.out.own)); have HR2 : Hid (Rd (fun _ => True) w2 Ax more.length more) := Lib.hid ((HRG.out.grown hg2 (fun _ h => h)).mono fun _ _ _ => trivial); have cl2 := hg2.cell cl (fun e => by have := Option.some.inj e; simp at this; omega); clear hh2 hg2)
          | (at_builtin; refine wpList_append_rd (w0 := w2) rfl (.tmp 32) (.tmp 36) rfl (g + 1) al.length more.length cx _ Ax al more rfl rfl HO2.out HR2.out HSX.out (Below.refl _ _) HH2.out.lt (by omega) ?_; intro A5 c5 w3 h5 hb5; have e5 : al.length + more.length = (al ++ more).length := List.length_append.symm; have HP3 : Hid (PaAt g (al ++ more) (k + 1) A5 c5 w w3) := Lib.hid ⟨HB2.out.trans (hb5.mono (by have := HP.out.hg; omega)), by rw [← e5]; exact HH2.out.below hb5 (Nat.lt_succ_self _), by rw [← e5]; exact h5.out.1, by rw [← e5]; exact h5.out.2, HP.out.hg, by rw [← e5]; have := HP.out.len; omega⟩; rw [e5]; generalize al ++ more = al' at HP3 ⊢; clear h5 hb5 e5)
          | (go_at_call 16; refine (S16.out g al' w5 (by have := HP5.out.len; omega) HP5.out.hh (HK.out.below HP5.out.bel h0) (Nat.lt_of_lt_of_le h0 HP5.out.bel.size)).mono ?_; rintro E w6 ⟨rfl, hb6⟩; have HP6 := Lib.hid (HP5.out.next hb6); clear hb6)
          | (go_at_call 16; refine (S16.out g al' w3 (by have := HP3.out.len; omega) HP3.out.hh (HK.out.below HP3.out.bel h0) (Nat.lt_of_lt_of_le h0 HP3.out.bel.size)).mono ?_; rintro E w4 ⟨rfl, hb4⟩; have HP4 := Lib.hid (HP3.out.next hb4); clear hb4)
          | (go_at_call 12; refine (S12.out al' A5 c5 w4 (by have := HP4.out.len; omega) ((Rd.of_own HP4.out.own).mono fun _ _ _ => trivial) HP4.out.sl (HK.out.below HP4.out.bel h0) (Nat.lt_of_lt_of_le h0 HP4.out.bel.size)).mono ?_; rintro E w5 ⟨rfl, hb5⟩; have HP5 := Lib.hid (HP4.out.next hb5); clear hb5)
          | (go_at_call 17; refine (S17.out al' A5 c5 w6 (by have := HP6.out.len; omega) ((Rd.of_own HP6.out.own).mono fun _ _ _ => trivial) HP6.out.sl (HK.out.below HP6.out.bel h0) (Nat.lt_of_lt_of_le h0 HP6.out.bel.size)).mono ?_; rintro E w7 ⟨rfl, hb7⟩; have HP7 := Lib.hid (HP6.out.next hb7); clear hb7))
        go_roundw
        case measure => simp [intOf]; omega
        case rel => exact ⟨k + 1, al', A5, c5, by omega, by go_num, rfl, HP7⟩
    · by_cases hkn : k < n
      · obtain rfl : k = 40 := by omega
        go_wp2_with (first
          | (go_at_call 16; refine (S16.out g al wr HL.out HP.out.hh HKR.out HGR.out).mono ?_; rintro E w4 ⟨rfl, hb4⟩; have HP4 := Lib.hid (HP.out.next hb4); clear hb4)
          | (go_at_call 12; refine (S12.out al A4 c4 w4 HL.out ((Rd.of_own HP4.out.own).mono fun _ _ _ => trivial) HP4.out.sl (HK.out.below HP4.out.bel h0) (Nat.lt_of_lt_of_le h0 HP4.out.bel.size)).mono ?_; rintro E w5 ⟨rfl, hb5⟩; have HP5 := Lib.hid (HP4.out.next hb5); clear hb5)
          | (go_at_call 11; refine (HW.out w5 (HK.out.below HP5.out.bel h0) (Nat.lt_of_lt_of_le h0 HP5.out.bel.size)).mono ?_; rintro E w6 ⟨rfl, hb6⟩))
        go_ret
        exact ⟨rfl, HP5.out.bel.trans (hb6.mono HP5.out.bel.size)⟩
      · go_wp2_with (first
          | (go_at_call 16; refine (S16.out g al wr HL.out HP.out.hh HKR.out HGR.out).mono ?_; rintro E w4 ⟨rfl, hb4⟩; have HP4 := Lib.hid (HP.out.next hb4); clear hb4)
          | (go_at_call 12; refine (S12.out al A4 c4 w4 HL.out ((Rd.of_own HP4.out.own).mono fun _ _ _ => trivial) HP4.out.sl (HK.out.below HP4.out.bel h0) (Nat.lt_of_lt_of_le h0 HP4.out.bel.size)).mono ?_; rintro E w5 ⟨rfl, hb5⟩; have HP5 := Lib.hid (HP4.out.next hb5); clear hb5)
          | (go_at_call 11; refine (HW.out w5 (HK.out.below HP5.out.bel h0) (Nat.lt_of_lt_of_le h0 HP5.out.bel.size)).mono ?_; rintro E w6 ⟨rfl, hb6⟩))
        go_ret
        exact ⟨rfl, HP5.out.bel.trans (hb6.mono HP5.out.bel.size)⟩
end Go.Proofs.YtflbhicjaaeegaaDoor
