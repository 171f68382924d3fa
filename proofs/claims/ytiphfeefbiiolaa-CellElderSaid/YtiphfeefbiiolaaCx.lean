/-
  What is proved: the walk of CellElder for whatever comes in. Conditions as stated.
-/
import Derived.Test.YtiphfeefbiiolaaCw
namespace Go.Proofs.Ytiphfeefbiiolaa
open Go.RowKit
set_option maxRecDepth 100000

/-- Behind k Puts: the cell has the last bytes, the other slot those ahead of them. -/
structure ElAt (w : World) (d g k : Nat) (last elder : List UInt8) (a na ne : Nat) (s : Dk) (W : World) : Prop where
  at' : OpAt w d (20 + 10 * k) s 0 [] g last (a : Int) W
  calm : Calm s
  loose : s.loose = []
  cell : CellIs s 0 a na last (2 + k)
  old : SlotIs s (0 + ((1 - a : Nat) : Int) * 10) ne elder
  pos : 1 ≤ ne
  less : ne < na
  len : elder.length ≤ 1100
  turn : a = k % 2

set_option maxHeartbeats 40000000 in
theorem cellElder_by (hW : Works) (A : Option Addr) (n c : Nat) (xs : List (Option Addr × Nat × List UInt8)) (one two : UInt8) (w : World) (hx : Lists w A n xs) (hs : Sl A n c) :
    Calls Try.prog 6 #[.slice A n c, .int .u8 (one.toNat : Int), .int .u8 (two.toNat : Int)] w fun E w' => E = .returned (.bool true) ∧ Below w.heap.size w w' := by
  have HW := Lib.hid hW
  have HX := Lib.hid hx
  have hsc := hs.2
  clear hW hx hs
  by_cases hn : 1 ≤ n ∧ n ≤ 20
  · obtain ⟨hn1, hn2⟩ := hn
    have hd : (decide (20 < (n : Int)) || (n : Int) == 0) = false := by simp; omega
    go_enter Try.func6, Try.ntmps6
    go_wp2_with fail
    refine (dat_new (Below.refl _ w)).mono ?_
    rintro E w1 ⟨d, rfl, h1, -⟩
    have D1 := Lib.hid h1
    clear h1
    go_wp2_with fail
    refine (cell_format D1.out new_calm (by omega) (x := 0) (by omega)).mono ?_
    rintro E w2 ⟨rfl, s2, H2⟩
    clear D1
    go_wp2_with fail
    refine (cell_open H2.out.1 H2.out.2.1.1 (x := 0) (by omega) H2.out.2.2.2.1).mono ?_
    rintro E w3 ⟨g, rfl, O3⟩
    have I0 : Hid (ElAt w d g 0 [] [] 0 2 1 s2 w3) := Lib.hid ⟨O3.out, H2.out.2.1, H2.out.2.2.1, H2.out.2.2.2.1, fun i hi => by
      rw [H2.out.2.2.2.2 _ (by omega), if_neg (by omega), if_pos (by omega)]
      congr 2
      omega, by omega, by omega, by simp, rfl⟩
    clear H2 O3
    go_wp2_with fail
    go_loopw [10, 11, 12] (fun v10 v11 v12 wr => ∃ k : Nat, k ≤ n ∧ v12 = .int .i64 (k : Int) ∧ ∃ last elder a na ne s, v10 = .string (Oct.str elder) ∧ v11 = .string (Oct.str last) ∧ Hid (ElAt w d g k last elder a na ne s wr)) (fun _ _ v12 _ => n - (intOf v12).toNat)
    case atStart => exact ⟨0, by omega, rfl, [], [], 0, 2, 1, s2, rfl, rfl, I0⟩
    case round =>
      clear I0
      obtain ⟨k, hkn, rfl, last, elder, a, na, ne, s, rfl, rfl, HI⟩ := hrel
      by_cases hkk : k < n
      · obtain ⟨b, o, rfl, hb0, hc⟩ := HX.out.2 (by omega)
        obtain ⟨⟨adr, room, bs⟩, hq⟩ : ∃ x, xs[k]? = some x := ⟨_, List.getElem?_eq_getElem (by rw [HX.out.1]; exact hkk)⟩
        obtain ⟨hcx, hrb, hsb⟩ := hc k _ hq
        simp only at hcx hrb hsb
        obtain ⟨m, hm⟩ : ∃ m, m = bs.length := ⟨_, rfl⟩
        have HM := Lib.hid hm
        rw [← hm] at hcx hrb hsb
        have HCB : Hid (∀ W, Below w.heap.size w W → W.cell? ⟨b, o + k, none⟩ = some (.slice adr m room)) := Lib.hid fun W hb => (hb.cell (p := ⟨b, o + k, none⟩) hb0).trans hcx
        have HRB : Hid (∀ W, Below w.heap.size w W → Oct.Rd W adr m bs) := Lib.hid fun W hb => rd_oct hrb hb
        have HSB : Hid (Oct.Sl adr m room) := Lib.hid hsb
        clear hc hq hcx hrb hsb hm
        have cb := HCB.out _ HI.out.at'.dat.below
        by_cases hml : m ≤ 1100
        · have ha := HI.out.cell.slot
          have htp := HI.out.cell.top_le
          have hte := HI.out.turn
          go_wp2_with fail
          refine (cell_put HI.out.at' HI.out.calm (by omega) (by omega) HI.out.cell (by omega) (fun W hb _ => HRB.out W hb) HSB.out hml HM.out.symm).mono ?_
          rintro E w4 ⟨rfl, s4, H4⟩
          have hb4 := H4.out.1.dat.below
          have cb := HCB.out _ hb4
          have hrun := run_str room (HRB.out _ hb4)
          have HI2 : Hid (ElAt w d g (k + 1) bs last (1 - a) (topGo s 0 20 + 1) na s4 w4) := Lib.hid ⟨H4.out.1, H4.out.2.1, H4.out.2.2.1, H4.out.2.2.2.1, by
            rw [show 1 - (1 - a) = a by omega]; exact H4.out.2.2.2.2.1, HI.out.cell.pos, by omega, HI.out.cell.len, by omega⟩
          clear H4 hb4
          go_wp2_with fail
          go_roundw
          case measure => simp [intOf]; omega
          case rel => exact ⟨k + 1, by omega, by go_num, bs, last, 1 - a, topGo s 0 20 + 1, na, s4, rfl, rfl, HI2⟩
        · go_wp2_with (first | (go_at_call 7; refine (HW.out _).mono ?_; rintro E wz ⟨rfl, hbz⟩))
          all_goals (go_ret; exact ⟨rfl, HI.out.at'.dat.below.trans (hbz.mono HI.out.at'.dat.below.size)⟩)
      · obtain rfl : k = n := by omega
        have hta := HI.out.turn
        have ha : a ≤ 1 := HI.out.cell.slot
        obtain ⟨htm, hmm⟩ := el_turn hta
        obtain ⟨u1, hu1l, ht1, hx1, hw1⟩ := el_mod one
        obtain ⟨u2, hu2l, ht2, hx2, hw2⟩ := el_mod two
        have HNE : Hid (ne < 18446744073709551616) := Lib.hid (el_less HI.out.less HI.out.cell.top hkn hn2)
        have HY1 : Hid (0 ≤ 10 * (a : Int) + (u1 : Int) ∧ 10 * (a : Int) + (u1 : Int) < 32768) := Lib.hid (el_one ha hu1l)
        have HY2 : Hid (0 ≤ 10 - 10 * (a : Int) + (u2 : Int) ∧ 10 - 10 * (a : Int) + (u2 : Int) < 32768) := Lib.hid (el_two ha hu2l)
        obtain ⟨Lc, hLc, hback⟩ := HI.out.at'.split
        have DC := Lib.hid hLc
        have HBACK := Lib.hid hback
        have hww : RowKit.wrap64 (10 - 10 * (a : Int) + (u2 : Int)) = 10 - 10 * (a : Int) + (u2 : Int) := el_wrap ha hu2l
        clear hLc hback hta
        obtain ⟨SE, hSE⟩ : ∃ S, S = Oct.str elder := ⟨_, rfl⟩
        obtain ⟨SL, hSL⟩ : ∃ S, S = Oct.str last := ⟨_, rfl⟩
        have HSE := Lib.hid hSE
        rw [← hSE, ← hSL]
        clear hSE hSL
        go_wp2_with fail
        refine (lose_any DC.out HI.out.calm (by omega) (10 * (a : Int) + (u1 : Int)) HY1.out).mono ?_
        rintro E w5 ⟨rfl, s5, H5⟩
        clear DC
        have HO5 := Lib.hid (elder1 ha hu1l HI.out.old HI.out.pos HNE.out HI.out.len H5.out.2.2.2.1 H5.out.2.2.2.2)
        go_wp2_with fail
        refine (cell_open_one H5.out.1 H5.out.2.1.1 (x := 0) (by omega) HO5.out HI.out.pos).mono ?_
        rintro E w6 ⟨g2, rfl, O6⟩
        go_wp2_with fail
        refine (cell_gets O6.out).mono ?_
        rintro E w7 ⟨A7, n7, c7, rfl, H7⟩
        have hrun := run_str c7 H7.out.2.1
        rw [← HSE.out] at hrun
        have D7 := Lib.hid H7.out.1.dat
        clear H7 O6
        go_wp2_with fail
        refine (lose_any D7.out H5.out.2.1 (by omega) (10 - 10 * (a : Int) + (u2 : Int)) HY2.out).mono ?_
        rintro E w8 ⟨rfl, s8, H8⟩
        clear D7 hrun
        obtain ⟨e1, e2, e3, e4⟩ := elder2 ha hu1l hu2l HI.out.cell.all H5.out.2.2.2.1 H5.out.2.2.2.2 H8.out.2.2.2.1 H8.out.2.2.2.2
        obtain ⟨s11, r1, r2, r3⟩ := elder3 (b := [120]) ha hu1l (by omega) H8.out.2.1 e1 e4 (by simp)
        have HL0 := Lib.hid (And.intro e2 e3)
        have HTP := Lib.hid e4
        have HR1 := Lib.hid r1
        have HC11 := Lib.hid r2
        have HO11 := Lib.hid r3
        clear e1 e2 e3 e4 r1 r2 r3
        go_wp2_with fail
        refine (cell_lost H8.out.1 H8.out.2.1.1 (x := 0) (by omega) HL0.out.1 HL0.out.2).mono ?_
        rintro E w9 ⟨rfl, h9⟩
        have O10 : Hid (OpAt w d (20 + 10 * k + 1 + 1) s8 0 [(w9.heap.size, .cells #[.int .u8 120] 5 (1, 2))] g last (a : Int) (w9.alloc (.cells #[.int .u8 120] 5 (1, 2)))) := Lib.hid ((HBACK.out _ _ _ h9.out).lit _)
        have SR : Hid (Src w [(w9.heap.size, .cells #[.int .u8 120] 5 (1, 2))] (some ⟨w9.heap.size, 0, none⟩) 1 [120]) := Lib.hid (src_lit [120] (1, 2))
        have HPE := Lib.hid (cell_put_end O10.out H8.out.2.1.1 (by omega) (x := 0) (by omega) (by omega) (by have := HTP.out; omega) SR.out ⟨(fun h => by cases h), Nat.le_refl _, by omega⟩ (by omega) HR1.out)
        have hcv := fun (w : World) (C : Array Value) (n c : Nat) => Lib.run_convert_bytes_const (P := Try.prog) w 28 5 C n c Try.underlying28 Try.underlying5
        clear h9 O10 SR H8 HL0 HTP HR1
        go_wp2_with fail
        refine HPE.out.mono ?_
        rintro E w11 ⟨rfl, h11⟩
        have D11 : Hid (Dat w d (20 + 10 * k + 1 + 1 + 10) s11 [(w9.heap.size, .cells #[.int .u8 120] 5 (1, 2))] w11) := Lib.hid (by
          rcases h11.out with ⟨h, _⟩ | ⟨_, h⟩
          · exact absurd rfl h
          · exact h.dat)
        clear h11 HPE hcv
        go_wp2_with fail
        refine (cell_open_one D11.out HC11.out (x := 0) (by omega) HO11.out (by omega)).mono ?_
        rintro E w12 ⟨g3, rfl, O12⟩
        clear D11
        go_wp2_with fail
        refine (cell_gets O12.out).mono ?_
        rintro E w13 ⟨A13, n13, c13, rfl, H13⟩
        have hrun := run_str c13 H13.out.2.1
        rw [show Oct.str [120] = ⟨#[120]⟩ from rfl] at hrun
        have B13 : Hid (Below w.heap.size w w13) := Lib.hid H13.out.1.dat.below
        clear H13 O12
        go_wp2_with (first | (go_at_call 7; refine (HW.out _).mono ?_; rintro E wz ⟨rfl, hbz⟩))
        go_ret
        exact ⟨rfl, B13.out.trans (hbz.mono B13.out.size)⟩
  · have hd : (decide (20 < (n : Int)) || (n : Int) == 0) = true := by simp; omega
    go_enter Try.func6, Try.ntmps6
    go_wp2_with (first | (go_at_call 7; refine (HW.out _).mono ?_; rintro E wz ⟨rfl, hb⟩))
    all_goals (go_ret; exact ⟨rfl, hb⟩)
end Go.Proofs.Ytiphfeefbiiolaa
