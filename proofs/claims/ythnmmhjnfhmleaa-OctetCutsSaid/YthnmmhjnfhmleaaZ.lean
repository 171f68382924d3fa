/-
  What is proved: the walk of OctetCuts, first part. Conditions as stated.
-/
import Derived.Test.YthnmmhjnfhmleaaY
import Derived.Deep.RegionHeld3
namespace Go.Proofs.Ythnmmhjnfhmleaa
open Go.RowKit

/-- A step: what is asked, and with what number. -/
structure St where
  k : Nat
  n : Int

/-- The slice at A of length n reads as steps. -/
def Sts (w : World) (A : Option Addr) (n : Nat) (sts : List St) : Prop :=
  sts.length = n ∧ (0 < n → ∃ b o, A = some ⟨b, o, none⟩ ∧ b < w.heap.size ∧ ∀ j (x : St), sts[j]? = some x →
    w.cell? ⟨b, o + j * 2, none⟩ = some (.int .u8 (x.k : Int)) ∧ w.cell? ⟨b, o + j * 2 + 1, none⟩ = some (.int .i64 x.n) ∧ x.k < 256)

theorem Sts.at_ {w : World} {A : Option Addr} {n j : Nat} {sts : List St} (h : Sts w A n sts) (hj : j < n) : ∃ (b o : Nat) (x : St), A = some ⟨b, o, none⟩ ∧ b < w.heap.size ∧
    w.cell? ⟨b, o + j * 2, none⟩ = some (.int .u8 (x.k : Int)) ∧ w.cell? ⟨b, o + j * 2 + 1, none⟩ = some (.int .i64 x.n) ∧ x.k < 256 := by
  obtain ⟨b, o, hA, hb, hc⟩ := h.2 (by omega)
  have hl : j < sts.length := by rw [h.1]; exact hj
  exact ⟨b, o, sts[j], hA, hb, hc j _ (List.getElem?_eq_getElem hl)⟩

theorem Sts.below {w w' : World} {A : Option Addr} {n : Nat} {sts : List St} (h : Sts w A n sts) (hb : Below w.heap.size w w') : Sts w' A n sts := by
  refine ⟨h.1, fun hn => ?_⟩
  obtain ⟨b, o, hA, hlt, hc⟩ := h.2 hn
  refine ⟨b, o, hA, Nat.lt_of_lt_of_le hlt hb.size, fun j x hx => ?_⟩
  obtain ⟨h0, h1, h2⟩ := hc j x hx
  exact ⟨(hb.cell (p := ⟨b, _, none⟩) hlt).trans h0, (hb.cell (p := ⟨b, _, none⟩) hlt).trans h1, h2⟩

theorem own_below {w w' : World} {B n c : Nat} {A : Option Addr} {xs : List Value} (h : w.ownsRow B 5 1 (.slice A n c) n xs) (hb : Below w.heap.size w w') : w'.ownsRow B 5 1 (.slice A n c) n xs :=
  h.kept (row := none) (grownBy_below hb _) (by rcases A with _ | ⟨a⟩ <;> simp [Value.ownBlock])

theorem own_some {w : World} {B n c : Nat} {A : Option Addr} {xs : List Value} (h : w.ownsRow B 5 1 (.slice A n c) n xs) (hn : 0 < n) : ∃ g, A = some ⟨g, 0, none⟩ ∧ B ≤ g ∧ g < w.heap.size ∧ (∀ i, w.frozen? ⟨g, i, none⟩ = false) := by
  rcases h.2 with ⟨_, h0⟩ | ⟨g, cap, cur, hv, hB, hg, _⟩
  · omega
  · injection hv with hv
    subst hv
    have hlt := (h.lt g rfl).2
    exact ⟨g, rfl, hB, hlt, fun i => frozen_of_row _ _ _ _ _ hg⟩

theorem u8s_set (xs : List UInt8) (j : Nat) (x : UInt8) : (u8s xs).set j (.int .u8 (x.toNat : Int)) = u8s (xs.set j x) := by
  simp [u8s, List.map_set]

theorem xor_one (u : UInt8) : bits .xor .u8 (u.toNat : Int) 1 = ((u ^^^ 1).toNat : Int) := by
  have := u8_xor_nat u.toNat 1 u.toNat_lt (by decide)
  rw [show ((1 : Nat) : Int) = 1 from rfl] at this
  rw [this]
  simp

theorem own_far2 {w w' : World} {B n c g : Nat} {A : Option Addr} {xs : List Value} (h : w.ownsRow B 5 1 (.slice A n c) n xs) (hg : w.grownBy w' (some g)) (hlt : g < B) : w'.ownsRow B 5 1 (.slice A n c) n xs :=
  h.kept hg (.inr fun e => by have := (h.lt g e).1; omega)

theorem conv_str {A : Option Addr} {n c : Nat} {bs : List UInt8} {w : World} (h : Rd w A n bs) {s : ByteArray} (hs : s = str bs) : (convert 22 9 (.slice A n c)).run Try.prog w = .ok (.string s) w := hs ▸ run_string h

set_option maxRecDepth 100000 in
set_option maxHeartbeats 8000000 in
theorem octetCuts_any (A L : Option Addr) (n c m d : Nat) (bs : List UInt8) (sts : List St) (w : World) (hr : Rd w A n bs) (hs : Sl A n c) (hA : 0 < n → ∀ ad, A = some ad → ad.block < w.heap.size) (hl : Sts w L m sts) (hn : n ≤ 4096) (hm : m ≤ 200) :
    Calls Try.prog 4 #[.slice A n c, .slice L m d] w fun e w' => e = .returned (.bool true) ∧ Below w.heap.size w w' := by
  have HR : Hid (Rd w A n bs) := hr
  have HS : Hid (Sl A n c) := hs
  have HA := Lib.hid hA
  have HL : Hid (Sts w L m sts) := hl
  clear hr hs hA hl
  go_enter Try.func4, Try.ntmps4
  go_wp2_with (first
    | (at_builtin; go_must (refine wpList_append_rd (w0 := w) rfl (.tmp 22) (.tmp 23) rfl w.heap.size 0 n c _ A [] bs rfl rfl (World.ownsRow_lit w #[] 0 (Nat.le_refl _) (Nat.zero_le _) rfl) (HR.out.below ((Below.refl _ _).alloc (Nat.le_refl _) _)) HS.out ((Below.refl _ _).alloc (Nat.le_refl _) _) (by simp) (by omega) ?_); intro A5 c5 w1 h5 hb1; rw [Nat.zero_add, List.nil_append] at h5; rw [Nat.zero_add])
    | (go_at_call 16; go_must (refine (new_any A5 n c5 bs w1 (Rd.of_own h5.out.1) h5.out.2 (by omega)).mono ?_); rintro e w2 ⟨g6, rfl, hg6, hc6, hb12⟩))
  have hb2 : Below w.heap.size w w2 := hb1.trans (hb12.mono hb1.size)
  have hc7 := hc6.below ((Below.refl _ _).alloc (Nat.le_refl _) (.cells #[.slice A n c, .bool false] 37))
  have hr7 : RefAt (w2.alloc (.cells #[.slice A n c, .bool false] 37)) w.heap.size w2.heap.size bs false :=
    ⟨A, n, c, heap_alloc_new w2 _, (HR.out.below hb2).below ((Below.refl _ _).alloc (Nat.le_refl _) _), HS.out, by omega, hb2.size, HA.out⟩
  have h57 : (w2.alloc (.cells #[.slice A n c, .bool false] 37)).ownsRow w.heap.size 5 1 (.slice A5 n c5) n (u8s bs) := (own_below h5.out.1 hb12).alloc _
  have hb7 : Below w.heap.size w (w2.alloc (.cells #[.slice A n c, .bool false] 37)) := hb2.alloc hb2.size _
  have hg5 : ∀ g, A5 = some ⟨g, 0, none⟩ → g < w1.heap.size := by
    intro g hg
    subst hg
    exact (h5.out.1.lt g rfl).2
  have HG5 := Lib.hid hg5
  have H57 := Lib.hid h57
  have hlt6 := hc6.lt
  have hw1 : w.heap.size ≤ w1.heap.size := hb1.size
  clear h5 hb1 hb12 hc6 hb2 h57 hg5
  go_loopw [8] (fun i wr => ∃ (j : Nat) (xs : List UInt8), j ≤ n ∧ i = .int .i64 j ∧ Hid (wr.ownsRow w.heap.size 5 1 (.slice A5 n c5) n (u8s xs)) ∧ CutAt wr w1.heap.size g6 bs false ∧ RefAt wr w.heap.size w2.heap.size bs false ∧ Below w.heap.size w wr) (fun i _ => n - (intOf i).toNat)
  case atStart => exact ⟨0, bs, Nat.zero_le _, rfl, H57, hc7, hr7, hb7⟩
  case round =>
    obtain ⟨j, xs, hj, rfl, HO, hc, hr, hb⟩ := hrel
    by_cases hlt : j < n
    · obtain ⟨g5, hA5, hB5, hl5, hf5⟩ := own_some HO.out (by omega)
      have h15 := HG5.out g5 hA5
      subst hA5
      obtain ⟨b', o', u, hA', hu, hcell⟩ := (Rd.of_own HO.out).at_ hlt
      obtain ⟨rfl, rfl⟩ : g5 = b' ∧ 0 = o' := by simpa using hA'
      rw [Nat.zero_add] at hcell
      have hfz := hf5 j
      have hst := HO.out.stored j (.int .u8 ((u ^^^ 1).toNat : Int))
      rw [u8s_set] at hst
      have HST := Lib.hid hst
      have hxo := xor_one u
      clear hf5 hu hA' hst
      go_wp2
      go_roundw
      case rel => exact ⟨j + 1, xs.set j (u ^^^ 1), by omega, by go_num, by first | exact HST.out.1 | (rw [hxo]; exact HST.out.1), by first | exact hc.far (lo' := 0) HST.out.2 (.inl ⟨h15, by omega⟩) | (rw [hxo]; exact hc.far (lo' := 0) HST.out.2 (.inl ⟨h15, by omega⟩)), by first | exact hr.far HST.out.2 (by omega) hB5 | (rw [hxo]; exact hr.far HST.out.2 (by omega) hB5), hb.setCell hB5 _⟩
      case measure => simp [intOf]; omega
    · obtain ⟨wo, hwo⟩ : ∃ wo : World, wo = wr := ⟨_, rfl⟩
      rw [← hwo] at hc hr hb ⊢
      have hwz : w2.heap.size < wo.heap.size := by
        obtain ⟨_, _, _, h9, _⟩ := hr
        exact block_lt h9
      clear hwo hj HO H57 HG5 hc7 hr7 hb7
      go_wp2
      go_loopw [9] (fun i wr => ∃ (j2 : Nat) (rem : List UInt8) (sp : Bool), j2 ≤ m ∧ i = .int .i64 j2 ∧ CutAt wr w1.heap.size g6 rem sp ∧ RefAt wr w.heap.size w2.heap.size rem sp ∧ Below w.heap.size w wr) (fun i _ => m - (intOf i).toNat)
      case atStart => exact ⟨0, bs, false, Nat.zero_le _, rfl, hc, hr, hb⟩
      case round =>
        clear hc hr hb
        obtain ⟨j2, rem, sp, hj2, rfl, hc, hr, hb⟩ := hrel
        by_cases hlt2 : j2 < m
        · obtain ⟨b, o, x, rfl, hbw, h0, h1, hk⟩ := (HL.out.below hb).at_ hlt2
          have hbw0 : b < w.heap.size := by
            obtain ⟨b2, o2, hA2, hb2', _⟩ := HL.out.2 (by omega)
            cases hA2
            exact hb2'
          by_cases k0 : x.k % 5 = 0
          · go_wp2_with (first
              | (go_at_call 17; go_must (refine (word_cut g6 rem sp _ hc).mono ?_); rintro e w3 ⟨rfl, hc3, hg3⟩; have hr3 := hr.far hg3 (by omega) (by omega))
              | (go_at_call 18; go_must (refine (refWord_cut w2.heap.size rem sp w3 hr3).mono ?_); rintro e w4 ⟨rfl, hr4, hg4⟩; have hc4 := hc3.far (lo' := w2.heap.size) hg4 (.inr ⟨hlt6, Nat.le_refl _⟩)))
            have hb4 := (hb.grown hg3 hb.size (fun k hk => by cases hk; exact Nat.le_trans hw1 hg6)).grown hg4 (Nat.le_trans hb.size hg3.size) (fun k hk => by cases hk; omega)
            obtain ⟨rm, hrm⟩ : ∃ rm, rm = tkRem rem sp 8 := ⟨_, rfl⟩
            obtain ⟨s2, hs2⟩ : ∃ s2, s2 = !fits rem sp 8 := ⟨_, rfl⟩
            rw [← hrm, ← hs2] at hc4 hr4
            obtain ⟨A7, n7, c7, kg, kr, _⟩ := id hr4
            have hl7 : n7 = rm.length := kr.1.symm
            obtain ⟨x0, x1, _, _⟩ := refCells kg
            rw [hl7] at x0
            clear hrm hs2 kg kr hl7 hc3 hr3 hg3 hg4 hc hr
            go_region_held3 (fun w' => w'.cell? ⟨w2.heap.size, 0, none⟩ = some (.slice A7 rm.length c7) ∧ w'.cell? ⟨w2.heap.size, 1, none⟩ = some (.bool s2)) (first | exact ⟨x0, x1⟩) (first | (go_at_call 27; refine (left_any g6 rm s2 _ (hc4.drewN 1)).mono ?_; rintro e w5 ⟨rfl, q, rfl⟩) | (go_at_call 28; refine (ok_any g6 rm s2 _ (hc4.drewN (1 + q))).mono ?_; rintro e w6 ⟨rfl, rfl⟩))
            go_wp2
            go_roundw
            case rel => exact ⟨j2 + 1, rm, s2, by omega, by go_num, hc4.drewN _, hr4.drewN _, below_drewN hb4 _⟩
            case measure => simp [intOf]; omega
          · by_cases k1 : x.k % 5 = 1
            · go_wp2_with (first
                | (go_at_call 19; go_must (refine (half_cut g6 rem sp _ hc).mono ?_); rintro e w3 ⟨rfl, hc3, hg3⟩; have hr3 := hr.far hg3 (by omega) (by omega))
                | (go_at_call 20; go_must (refine (refHalf_cut w2.heap.size rem sp w3 hr3).mono ?_); rintro e w4 ⟨rfl, hr4, hg4⟩; have hc4 := hc3.far (lo' := w2.heap.size) hg4 (.inr ⟨hlt6, Nat.le_refl _⟩)))
              have hb4 := (hb.grown hg3 hb.size (fun k hk => by cases hk; exact Nat.le_trans hw1 hg6)).grown hg4 (Nat.le_trans hb.size hg3.size) (fun k hk => by cases hk; omega)
              obtain ⟨rm, hrm⟩ : ∃ rm, rm = tkRem rem sp 2 := ⟨_, rfl⟩
              obtain ⟨s2, hs2⟩ : ∃ s2, s2 = !fits rem sp 2 := ⟨_, rfl⟩
              rw [← hrm, ← hs2] at hc4 hr4
              obtain ⟨A7, n7, c7, kg, kr, _⟩ := id hr4
              have hl7 : n7 = rm.length := kr.1.symm
              obtain ⟨x0, x1, _, _⟩ := refCells kg
              rw [hl7] at x0
              clear hrm hs2 kg kr hl7 hc3 hr3 hg3 hg4 hc hr
              go_region_held3 (fun w' => w'.cell? ⟨w2.heap.size, 0, none⟩ = some (.slice A7 rm.length c7) ∧ w'.cell? ⟨w2.heap.size, 1, none⟩ = some (.bool s2)) (first | exact ⟨x0, x1⟩) (first | (go_at_call 27; refine (left_any g6 rm s2 _ (hc4.drewN 1)).mono ?_; rintro e w5 ⟨rfl, q, rfl⟩) | (go_at_call 28; refine (ok_any g6 rm s2 _ (hc4.drewN (1 + q))).mono ?_; rintro e w6 ⟨rfl, rfl⟩))
              go_wp2
              go_roundw
              case rel => exact ⟨j2 + 1, rm, s2, by omega, by go_num, hc4.drewN _, hr4.drewN _, below_drewN hb4 _⟩
              case measure => simp [intOf]; omega
            · by_cases k2 : x.k % 5 = 2
              · go_wp2_with (first
                  | (go_at_call 21; go_must (refine (byte_cut g6 rem sp _ hc).mono ?_); rintro e w3 ⟨rfl, hc3, hg3⟩; have hr3 := hr.far hg3 (by omega) (by omega))
                  | (go_at_call 22; go_must (refine (refByte_cut w2.heap.size rem sp w3 hr3).mono ?_); rintro e w4 ⟨rfl, hr4, hg4⟩; have hc4 := hc3.far (lo' := w2.heap.size) hg4 (.inr ⟨hlt6, Nat.le_refl _⟩)))
                have hb4 := (hb.grown hg3 hb.size (fun k hk => by cases hk; exact Nat.le_trans hw1 hg6)).grown hg4 (Nat.le_trans hb.size hg3.size) (fun k hk => by cases hk; omega)
                obtain ⟨rm, hrm⟩ : ∃ rm, rm = tkRem rem sp 1 := ⟨_, rfl⟩
                obtain ⟨s2, hs2⟩ : ∃ s2, s2 = !fits rem sp 1 := ⟨_, rfl⟩
                rw [← hrm, ← hs2] at hc4 hr4
                obtain ⟨A7, n7, c7, kg, kr, _⟩ := id hr4
                have hl7 : n7 = rm.length := kr.1.symm
                obtain ⟨x0, x1, _, _⟩ := refCells kg
                rw [hl7] at x0
                clear hrm hs2 kg kr hl7 hc3 hr3 hg3 hg4 hc hr
                go_region_held3 (fun w' => w'.cell? ⟨w2.heap.size, 0, none⟩ = some (.slice A7 rm.length c7) ∧ w'.cell? ⟨w2.heap.size, 1, none⟩ = some (.bool s2)) (first | exact ⟨x0, x1⟩) (first | (go_at_call 27; refine (left_any g6 rm s2 _ (hc4.drewN 1)).mono ?_; rintro e w5 ⟨rfl, q, rfl⟩) | (go_at_call 28; refine (ok_any g6 rm s2 _ (hc4.drewN (1 + q))).mono ?_; rintro e w6 ⟨rfl, rfl⟩))
                go_wp2
                go_roundw
                case rel => exact ⟨j2 + 1, rm, s2, by omega, by go_num, hc4.drewN _, hr4.drewN _, below_drewN hb4 _⟩
                case measure => simp [intOf]; omega
              · by_cases k3 : x.k % 5 = 3
                · go_wp2
                  have hcd := hc.drewN 1
                  have hrd := hr.drewN 1
                  have hgd := grownBy_drewN wr 1 (some g6)
                  go_region_held3 (fun w' => w'.cell? ⟨b, o + j2 * 2 + 1, none⟩ = some (.int .i64 x.n)) (first | exact h1 | exact y3 | exact y4) (first
                    | (go_at_call 23; refine (text_cut g6 rem sp x.n _ hcd).mono ?_; rintro e w3 ⟨rfl, hc3, hg3⟩; have hr3 := hrd.far hg3 (by omega) (by omega); have y3 : w3.cell? ⟨b, o + j2 * 2 + 1, none⟩ = some (.int .i64 x.n) := hg3.cell h1 (fun e => by injection e with e; simp only at e; omega))
                    | (go_at_call 24; refine (refText_cut w2.heap.size rem sp x.n w3 hr3).mono ?_; rintro e w4 ⟨rfl, hr4, hg4⟩; have hc4 := hc3.far (lo' := w2.heap.size) hg4 (.inr ⟨hlt6, Nat.le_refl _⟩); have y4 : w4.cell? ⟨b, o + j2 * 2 + 1, none⟩ = some (.int .i64 x.n) := hg4.cell y3 (fun e => by injection e with e; simp only at e; omega)))
                  replace hg3 := grownBy_trans hgd hg3
                  clear y3 y4 hcd hrd hgd
                  go_wp2
                  have hb4 := (hb.grown hg3 hb.size (fun k hk => by cases hk; exact Nat.le_trans hw1 hg6)).grown hg4 (Nat.le_trans hb.size hg3.size) (fun k hk => by cases hk; omega)
                  obtain ⟨rm, hrm⟩ : ∃ rm, rm = tkRem rem sp (tsz rem x.n) := ⟨_, rfl⟩
                  obtain ⟨s2, hs2⟩ : ∃ s2, s2 = !fits rem sp (tsz rem x.n) := ⟨_, rfl⟩
                  rw [← hrm, ← hs2] at hc4 hr4
                  obtain ⟨A7, n7, c7, kg, kr, _⟩ := id hr4
                  have hl7 : n7 = rm.length := kr.1.symm
                  obtain ⟨x0, x1, _, _⟩ := refCells kg
                  rw [hl7] at x0
                  clear hrm hs2 kg kr hl7 hc3 hr3 hg3 hg4 hc hr
                  go_region_held3 (fun w' => w'.cell? ⟨w2.heap.size, 0, none⟩ = some (.slice A7 rm.length c7) ∧ w'.cell? ⟨w2.heap.size, 1, none⟩ = some (.bool s2)) (first | exact ⟨x0, x1⟩) (first | (go_at_call 27; refine (left_any g6 rm s2 _ (hc4.drewN 1)).mono ?_; rintro e w5 ⟨rfl, q, rfl⟩) | (go_at_call 28; refine (ok_any g6 rm s2 _ (hc4.drewN (1 + q))).mono ?_; rintro e w6 ⟨rfl, rfl⟩))
                  go_wp2
                  go_roundw
                  case rel => exact ⟨j2 + 1, rm, s2, by omega, by go_num, hc4.drewN _, hr4.drewN _, below_drewN hb4 _⟩
                  case measure => simp [intOf]; omega
                · obtain ⟨B9, hB9⟩ : ∃ B9, B9 = wr.heap.size := ⟨_, rfl⟩
                  have hraw := raw_cut g6 rem sp x.n wr hc
                  rw [← hB9] at hraw
                  have HRAW := Lib.hid hraw
                  have hw29 : w2.heap.size < B9 := by
                    obtain ⟨_, _, _, h9, _⟩ := id hr
                    rw [hB9]
                    exact block_lt h9
                  have hwB9 : w.heap.size ≤ B9 := by rw [hB9]; exact hb.size
                  have HB9 := Lib.hid hB9
                  clear hB9 hraw
                  go_wp2_with (go_at_call 25; refine HRAW.out.mono ?_; rintro e w3 ⟨A9, m9, c9, rfl, hh, hc3, hg3⟩)
                  obtain ⟨rm, hrm⟩ : ∃ rm, rm = tkRem rem sp x.n := ⟨_, rfl⟩
                  obtain ⟨s2, hs2⟩ : ∃ s2, s2 = !fits rem sp x.n := ⟨_, rfl⟩
                  obtain ⟨ot, hot⟩ : ∃ ot, ot = tkOut rem sp x.n := ⟨_, rfl⟩
                  obtain ⟨sX, hsX⟩ : ∃ sX, sX = str ot := ⟨_, rfl⟩
                  have hr3 := hr.far hg3 (by omega) (by omega)
                  have hraw2 := refRaw_cut w2.heap.size rem sp x.n (w3.drewN 1) (hr3.drewN 1)
                  rw [← hrm, ← hs2, ← hot] at hraw2
                  rw [← hrm, ← hs2] at hc3
                  rw [← hot] at hh
                  have HSX := Lib.hid hsX
                  have HRAW2 := Lib.hid hraw2
                  have hb3 := hb.grown hg3 hb.size (fun k hk => by cases hk; exact Nat.le_trans hw1 hg6)
                  have y3 : w3.cell? ⟨b, o + j2 * 2 + 1, none⟩ = some (.int .i64 x.n) := hg3.cell h1 (fun e => by injection e with e; simp only at e; omega)
                  have e66 : (convert 22 9 (.slice A9 m9 c9)).run Try.prog w3.drew = .ok (.string sX) w3.drew := conv_str (w := w3.drew) (Rd.of_own (w := w3.drew) hh.out.2.1) HSX.out
                  have hm9 : m9 ≤ 140737488355328 := by rw [hh.out.1, hot]; exact Nat.le_trans (tkOut_len _ _ _) hc.len
                  clear hraw2 hsX hrm hs2 hot hc hr h0 h1 hr3 HRAW hg3
                  go_region_with (first
                    | (go_at_call 26; refine HRAW2.out.mono ?_; rintro e w4 ⟨A8, m8, c8, rfl, hh8, hr4, hg4⟩; have e74 := conv_str (c := c8) hh8.out HSX.out; have ho4 := own_far2 hh.out.2.1 (grownBy_trans (grownBy_drewN w3 1 _) hg4) hw29; have e664 := conv_str (c := c9) (Rd.of_own ho4) HSX.out; have HO4 := Lib.hid ho4; clear ho4))
                  all_goals
                    have hgg := grownBy_trans (grownBy_drewN w3 1 (some w2.heap.size)) hg4
                    have hc4 := hc3.far (lo' := w2.heap.size) hgg (.inr ⟨hlt6, Nat.le_refl _⟩)
                    have hb4 := hb3.grown hgg hb3.size (fun k hk => by cases hk; omega)
                    clear hgg hg4 hb3 hc3 y3 hh8
                    go_wp2
                    go_loopw [12] (fun i wr => ∃ (j3 : Nat) (xs : List Value), j3 ≤ m9 ∧ i = .int .i64 j3 ∧ Hid (wr.ownsRow B9 5 1 (.slice A9 m9 c9) m9 xs) ∧ CutAt wr w1.heap.size g6 rm s2 ∧ RefAt wr w.heap.size w2.heap.size rm s2 ∧ Below w.heap.size w wr) (fun i _ => m9 - (intOf i).toNat)
                    case atStart => exact ⟨0, _, Nat.zero_le _, rfl, HO4, hc4, hr4, hb4⟩
                    case round =>
                      clear hc4 hr4 hb4 HO4
                      obtain ⟨j3, xs, hj3, rfl, HO9, hc4, hr4, hb4⟩ := hrel
                      by_cases hlt3 : j3 < m9
                      · obtain ⟨g9, hA9, hB9, hl9, hf9⟩ := own_some HO9.out (by omega)
                        subst hA9
                        have hst := HO9.out.stored j3 (.int .u8 9)
                        have HST := Lib.hid hst
                        have hfz := hf9 j3
                        have hcv : ∃ v, wr.cell? ⟨g9, j3, none⟩ = some v := by
                          have := HO9.out.cellAt j3 (by omega)
                          rw [this, List.getElem?_eq_getElem (by have := HO9.out.1; omega)]
                          exact ⟨_, rfl⟩
                        obtain ⟨v9, hcv⟩ := hcv
                        clear hst hf9
                        go_wp2
                        go_roundw
                        case rel => exact ⟨j3 + 1, _, by omega, by go_num, HST.out.1, hc4.far (lo' := B9) HST.out.2 (.inr ⟨by omega, hB9⟩), hr4.far HST.out.2 (by omega) (by omega), hb4.setCell (by simp only; omega) _⟩
                        case measure => simp [intOf]; omega
                      · obtain ⟨A7, n7, c7, kg, kr, _⟩ := id hr4
                        have hl7 : n7 = rm.length := kr.1.symm
                        obtain ⟨x0, x1, _, _⟩ := refCells kg
                        rw [hl7] at x0
                        clear kg kr hl7 HO9
                        go_wp2
                        go_region_held3 (fun w' => w'.cell? ⟨w2.heap.size, 0, none⟩ = some (.slice A7 rm.length c7) ∧ w'.cell? ⟨w2.heap.size, 1, none⟩ = some (.bool s2)) (first | exact ⟨x0, x1⟩) (first | (go_at_call 27; refine (left_any g6 rm s2 _ (hc4.drewN 1)).mono ?_; rintro e w5 ⟨rfl, q, rfl⟩) | (go_at_call 28; refine (ok_any g6 rm s2 _ (hc4.drewN (1 + q))).mono ?_; rintro e w6 ⟨rfl, rfl⟩))
                        go_wp2
                        go_roundw
                        case rel => exact ⟨j2 + 1, rm, s2, by omega, by go_num, hc4.drewN _, hr4.drewN _, below_drewN hb4 _⟩
                        case measure => simp [intOf]; omega
        · obtain rfl : j2 = m := by omega
          clear hlt2 hj2
          go_wp2_with (go_at_call 9; refine (works_any _).mono ?_; rintro e w7 ⟨rfl, hb7⟩)
          go_ret
          exact ⟨rfl, hb.trans (hb7.mono hb.size)⟩

end Go.Proofs.Ythnmmhjnfhmleaa
