/-
  What is proved: SessionApart's walk. Conditions as stated.
-/
import Derived.Test.YtflenghnmflenaaDoorSz
namespace Go.Proofs.YtflenghnmflenaaDoor
open Go.RowKit
set_option maxRecDepth 100000

set_option maxHeartbeats 32000000 in
theorem apart_walk {w : World} (hv : Vars w) (A : Option Addr) (c0 : Nat) (qs : List MRq) (hQ : Rqs w A qs) (hone : ∀ q ∈ qs, ∀ v ∈ q.tag, v.oneCell' = true) (hn : qs.length ≤ 1099511627776) :
    Calls Tryd.prog 6 #[.slice A qs.length c0] w fun E w' => E = .returned (.bool true) ∧ Below w.heap.size w w' := by
  have HW : Hid (∀ W, Below w.heap.size w W → Calls Tryd.prog 9 #[] W fun E w' => E = .returned (.bool true) ∧ Below W.heap.size W w') := Lib.hid fun W hb => works_any (hv.below hb)
  have HF := Lib.hid (sfew_any A c0 qs w hQ hn)
  have HV := Lib.hid hv
  have HB0 := Lib.hid (Below.refl w.heap.size w)
  have HReq := Lib.hid (rqs_at hQ)
  have HTags : Hid (∀ q ∈ qs, q.tag.length = 32 ∧ ∀ v ∈ q.tag, v.oneCell' = true) := Lib.hid fun q hq => ⟨hQ.tag q hq, hone q hq⟩
  have HInfo : Hid (∀ q ∈ qs, (Tryd.prog.info? 52).map (·.size) = some (rqC q).length) := Lib.hid fun q hq => rq_info hQ hq
  have HSame : Hid (∀ W A1 A2 c1 c2 (x y : List It), Its W A1 x → Its W A2 y → x.length ≤ 1000 → y.length ≤ 1000 → Calls Tryd.prog 19 #[.slice A1 x.length c1, .slice A2 y.length c2] W fun E w' => E = .returned (.bool (decide (x = y))) ∧ Below W.heap.size W w') := Lib.hid fun W A1 A2 c1 c2 x y h1 h2 h3 h4 => same_any A1 A2 c1 c2 x y W h1 h2 (by omega) (by omega)
  obtain ⟨n, hnn⟩ : ∃ n, n = qs.length := ⟨_, rfl⟩
  have HL := Lib.hid hnn
  rw [← hnn] at HF hn ⊢
  clear hv hQ hnn
  go_enter Tryd.func6, Tryd.ntmps6
  go_wp2_with (go_at_call 8; refine HF.out.mono ?_)
  rintro E w1 ⟨⟨z, rfl, hz150⟩, b1⟩
  have B1 := Lib.hid (HB0.out.trans (b1.mono HB0.out.size))
  clear HB0 b1 HF
  cases z with
  | false =>
    go_wp2_with (go_at_call 9; refine (HW.out _ B1.out).mono ?_; rintro E w2 ⟨rfl, b2⟩)
    go_ret
    exact ⟨rfl, B1.out.trans (b2.mono B1.out.size)⟩
  | true =>
    have h150 := hz150 rfl
    clear hz150
    by_cases hlim : n ≤ 100
    · have hl1 : ¬ ((n : Int) > 100) := by omega
      have hl2 : ¬ (100 < (n : Int)) := by omega
      go_wp2_with (go_at_call 12; refine (tnew_any _).mono ?_; rintro E w2 ⟨rfl, ht2, hb2⟩)
      go_wp2_with (go_at_call 13; refine (new_any (HV.out.below (B1.out.trans (hb2.mono B1.out.size)))).mono ?_; rintro E w3 ⟨rfl, hs3, hb3⟩)
      have K3 := Lib.hid (sn_start HV.out B1.out ht2 (Nat.le_refl _) hb2 hs3 (Nat.le_refl _) hb3)
      clear ht2 hb2 hs3 hb3 B1
      go_wp2_with (go_at_call 12; refine (tnew_any _).mono ?_; rintro E w4 ⟨rfl, ht4, hb4⟩)
      have hz52 := zero_rq
      have hzl : (rqC zQ).length = 40 := rfl
      generalize rqC zQ = ZQ at hz52 hzl
      go_wp2_with (go_at_call 13; refine (new_any (K3.out.sys.vars.below hb4)).mono ?_; rintro E w5 ⟨rfl, hs5, hb5⟩)
      have D5 := Lib.hid (sp2_of K3.out hb4 ht4 (Nat.le_refl _) hs5 (by rintro k (rfl | hk); exact Nat.le_refl _; cases hk) hb5)
      clear K3 ht4 hb4 hs5 hb5
      generalize w1.heap.size = t at *
      generalize w2.heap.size = g at *
      generalize w3.heap.size = t2 at *
      generalize w4.heap.size = g2 at *
      go_loopw [7] (fun v7 wr => ∃ (j : Nat) (T : List Lst) (r : Option Nat) (c : Nat) (xs : List It) (T2 : List Lst) (r2 : Option Nat) (c2 : Nat) (ys : List It), j ≤ n ∧ v7 = .int .i64 (j : Int) ∧ Hid (Sp2 w t g t2 g2 [] wr T r c xs T2 r2 c2 ys ∧ Ap T xs T2 ys)) (fun v7 _ => n - (intOf v7).toNat)
      case atStart => exact ⟨0, zT, none, 0, [], zT, none, 0, [], by omega, rfl, Lib.hid ⟨D5.out, ⟨rfl, rfl, (by intro p hp; cases hp), List.Pairwise.nil, rfl, rfl⟩⟩⟩
      case round =>
        clear D5
        obtain ⟨j, T, r, c, xs, T2, r2, c2, ys, hj, rfl, DD⟩ := hrel
        have D := Lib.hid DD.out.1
        have HAp := Lib.hid DD.out.2
        clear DD
        by_cases hjj : j < n
        · obtain ⟨q, hq⟩ : ∃ q, qs[j]? = some q := ⟨_, List.getElem?_eq_getElem (by rw [← HL.out]; exact hjj)⟩
          obtain ⟨b', off, rfl, hr⟩ := HReq.out j q hq
          have HRg := Lib.hid hr
          have HI := Lib.hid (HInfo.out q (List.mem_of_getElem? hq))
          have HTag := Lib.hid (HTags.out q (List.mem_of_getElem? hq)).1
          have HOne := Lib.hid (HTags.out q (List.mem_of_getElem? hq)).2
          have hdec : decide ((j : Int) < (n : Int)) = true := decide_eq_true (by omega)
          have hj0 : (0 : Int) ≤ (j : Int) := by omega
          have hjn : (j : Int) < (n : Int) := by omega
          have htn : ((j : Int)).toNat = j := by omega
          have hw1 : IntKind.i64.wrap ((j : Int) + 1) = (j : Int) + 1 := by rw [IntKind.wrap_i64]; omega
          have HWr : Hid (w.heap.size ≤ wr.heap.size) := Lib.hid D.out.s1.bel.size
          obtain ⟨c00, tm, ⟨kk, key, val, old, to, am⟩, tag⟩ := q
          obtain ⟨s1, hs1⟩ : ∃ s1, s1 = key.size % 6 := ⟨_, rfl⟩
          obtain ⟨s2, hs2⟩ : ∃ s2, s2 = to.size % 6 := ⟨_, rfl⟩
          obtain ⟨b1, hb1⟩ : ∃ b1, b1 = UInt8.ofNat (97 + s1) := ⟨_, rfl⟩
          obtain ⟨b2, hb2⟩ : ∃ b2, b2 = UInt8.ofNat (97 + s2) := ⟨_, rfl⟩
          have HB1 : Hid (UInt8.ofNat (97 + key.size % 6) = b1) := Lib.hid (by rw [hb1, hs1])
          have HB2 : Hid (UInt8.ofNat (97 + to.size % 6) = b2) := Lib.hid (by rw [hb2, hs2])
          have hs16 : s1 < 6 := by omega
          have hs26 : s2 < 6 := by omega
          have htm1 : ((key.size : Int)).tmod 6 = (s1 : Int) := by rw [Int.tmod_eq_emod_of_nonneg (by omega)]; omega
          have hwa1 : IntKind.u8.wrap (s1 : Int) = (s1 : Int) := by rw [IntKind.wrap_u8]; omega
          have hwb1 : IntKind.u8.wrap (97 + (s1 : Int)) = (b1.toNat : Int) := by rw [hb1, IntKind.wrap_u8]; simp <;> omega
          have htm2 : ((to.size : Int)).tmod 6 = (s2 : Int) := by rw [Int.tmod_eq_emod_of_nonneg (by omega)]; omega
          have hwa2 : IntKind.u8.wrap (s2 : Int) = (s2 : Int) := by rw [IntKind.wrap_u8]; omega
          have hwb2 : IntKind.u8.wrap (97 + (s2 : Int)) = (b2.toNat : Int) := by rw [hb2, IntKind.wrap_u8]; simp <;> omega
          have hw10 : IntKind.i64.wrap ((1 : Int) + 0) = 1 := rfl
          have hw11 : IntKind.i64.wrap ((1 : Int) + 1) = 2 := rfl
          have hws1 : IntKind.i64.wrap (s1 : Int) = (s1 : Int) := by rw [IntKind.wrap_i64]; omega
          have hws2 : IntKind.i64.wrap (s2 : Int) = (s2 : Int) := by rw [IntKind.wrap_i64]; omega
          clear hr hq hs1 hs2 hb1 hb2
          by_cases hk5 : kk = 5
          · subst hk5
            by_cases hpar : j % 2 = 0
            · have hmod : ((j : Int)).tmod 2 = 0 := by rw [Int.tmod_eq_emod_of_nonneg hj0]; omega
              have HQ : Hid (apq 112 1 (⟨c00, tm, ⟨5, key, val, old, to, am⟩, tag⟩ : MRq) = (⟨1, tm, ⟨5, ⟨#[112, b1]⟩, val, old, ⟨#[112, b2]⟩, am⟩, tag⟩ : MRq)) := Lib.hid (by simp [apq, pk, HB1.out, HB2.out])
              have hkk : ((5 : UInt8).toNat : Int) = 5 := rfl
              obtain ⟨er, vl, z, hres⟩ := tR_rep T xs (⟨1, tm, ⟨5, ⟨#[112, b1]⟩, val, old, ⟨#[112, b2]⟩, am⟩, tag⟩ : MRq)
              obtain ⟨T', hT'⟩ : ∃ T', T' = (tR T xs (⟨1, tm, ⟨5, ⟨#[112, b1]⟩, val, old, ⟨#[112, b2]⟩, am⟩, tag⟩ : MRq)).2.1 := ⟨_, rfl⟩
              obtain ⟨zs, hzs⟩ : ∃ zs, zs = (tR T xs (⟨1, tm, ⟨5, ⟨#[112, b1]⟩, val, old, ⟨#[112, b2]⟩, am⟩, tag⟩ : MRq)).2.2 := ⟨_, rfl⟩
              have HRes : Hid (tR T xs (⟨1, tm, ⟨5, ⟨#[112, b1]⟩, val, old, ⟨#[112, b2]⟩, am⟩, tag⟩ : MRq) = (((er, vl), z), T', zs)) := Lib.hid (by rw [← hres, hT', hzs])
              clear hres hT' hzs
              have HD1 : Hid (∀ W rb, Sp2 w t g t2 g2 [(rb, (rqC (⟨1, tm, ⟨5, ⟨#[112, b1]⟩, val, old, ⟨#[112, b2]⟩, am⟩, tag⟩ : MRq)).toArray, 52)] W T r c xs T2 r2 c2 ys → Calls Tryd.prog 14 #[.pointer (some ⟨t, 0, none⟩), .pointer (some ⟨g, 0, none⟩), .agg (rqC (⟨1, tm, ⟨5, ⟨#[112, b1]⟩, val, old, ⟨#[112, b2]⟩, am⟩, tag⟩ : MRq)).toArray] W fun E W' => E = .returned (.tuple #[.agg #[.int .i64 er, .string vl], .bool z]) ∧ ∃ r' c', Sp2 w t g t2 g2 [(rb, (rqC (⟨1, tm, ⟨5, ⟨#[112, b1]⟩, val, old, ⟨#[112, b2]⟩, am⟩, tag⟩ : MRq)).toArray, 52)] W' T' r' c' zs T2 r2 c2 ys) := Lib.hid fun W rb h => (h.do1 (⟨1, tm, ⟨5, ⟨#[112, b1]⟩, val, old, ⟨#[112, b2]⟩, am⟩, tag⟩ : MRq)).mono fun E W' hE => by rw [HRes.out] at hE; exact hE
              obtain ⟨he1, he2⟩ := HAp.out.even (⟨c00, tm, ⟨5, key, val, old, to, am⟩, tag⟩ : MRq)
              rw [HQ.out, HRes.out] at he1 he2
              obtain ⟨T2', hT2⟩ : ∃ T2', T2' = (tR T2 ys (⟨1, tm, ⟨5, ⟨#[112, b1]⟩, val, old, ⟨#[112, b2]⟩, am⟩, tag⟩ : MRq)).2.1 := ⟨_, rfl⟩
              obtain ⟨us, hus⟩ : ∃ us, us = (tR T2 ys (⟨1, tm, ⟨5, ⟨#[112, b1]⟩, val, old, ⟨#[112, b2]⟩, am⟩, tag⟩ : MRq)).2.2 := ⟨_, rfl⟩
              have HRes2 : Hid (tR T2 ys (⟨1, tm, ⟨5, ⟨#[112, b1]⟩, val, old, ⟨#[112, b2]⟩, am⟩, tag⟩ : MRq) = (((er, vl), z), T2', us)) := Lib.hid (Prod.ext he1 (Prod.ext hT2.symm hus.symm))
              have HAp2 : Hid (Ap T' zs T2' us) := Lib.hid (by rw [hT2, hus]; exact he2)
              have HD2 : Hid (∀ W rb ra r c, Sp2 w t g t2 g2 [(ra, #[.int .i64 er, .string vl], 32), (rb, (rqC (⟨1, tm, ⟨5, ⟨#[112, b1]⟩, val, old, ⟨#[112, b2]⟩, am⟩, tag⟩ : MRq)).toArray, 52)] W T' r c zs T2 r2 c2 ys → Calls Tryd.prog 14 #[.pointer (some ⟨t2, 0, none⟩), .pointer (some ⟨g2, 0, none⟩), .agg (rqC (⟨1, tm, ⟨5, ⟨#[112, b1]⟩, val, old, ⟨#[112, b2]⟩, am⟩, tag⟩ : MRq)).toArray] W fun E W' => E = .returned (.tuple #[.agg #[.int .i64 er, .string vl], .bool z]) ∧ ∃ r' c', Sp2 w t g t2 g2 [(ra, #[.int .i64 er, .string vl], 32), (rb, (rqC (⟨1, tm, ⟨5, ⟨#[112, b1]⟩, val, old, ⟨#[112, b2]⟩, am⟩, tag⟩ : MRq)).toArray, 52)] W' T' r c zs T2' r' c' us) := Lib.hid fun W rb ra r c h => (h.do2 (⟨1, tm, ⟨5, ⟨#[112, b1]⟩, val, old, ⟨#[112, b2]⟩, am⟩, tag⟩ : MRq)).mono fun E W' hE => by rw [HRes2.out] at hE; exact hE
              have g32 := Tryd.guard32
              have e32 : ∀ w, (Op.equalIn 10000 32 (.agg #[.int .i64 er, .string vl]) (.agg #[.int .i64 er, .string vl])).run Tryd.prog w = .ok true w := fun w => eq_lrp_of (d := 9998) (er, vl) (er, vl) (by simp) w
              clear he1 he2 hT2 hus HRes2 HRes HQ
              have HI3 : Hid ((Tryd.prog.info? 52).map (·.size) = some (rqC (⟨1, tm, ⟨5, ⟨#[112, b1]⟩, val, old, ⟨#[112, b2]⟩, am⟩, tag⟩ : MRq)).length) := Lib.hid (by rw [rqC_length, HTag.out]; exact Tryd.is52)
              have hadd1 := text_two 112 b1
              have hcv1 := text_of_byte b1
              have hadd2 := text_two 112 b2
              have hcv2 := text_of_byte b2
              clear HAp
              go_wp2_with (first
               | ((with_reducible refine wpList_load_midG ?_ 52 (.tmp 38) ?_ b' (off + j * 40) ?_ (rqC (⟨c00, tm, ⟨5, key, val, old, to, am⟩, tag⟩ : MRq)) _ ?_ Tryd.underlying52 ?_ ?_ ?_); rotate_left; (· rfl); (· rfl); (· exact HRg.out _ D.out.s1.bel); (· rfl); (· exact HI.out); rotate_left; (· rfl))
               | (refine wpList_store_all rfl 52 (.tmp 8) (.tmp 39) rfl wr.heap.size ZQ (rqC (⟨c00, tm, ⟨5, key, val, old, to, am⟩, tag⟩ : MRq)) 52 (heap_alloc_new wr (.cells ZQ.toArray 52)) (by rw [hzl, rqC_length, HTag.out]) rfl rfl HI.out (rq_one HOne.out) ?_
                  intro w2 hw2
                  have D2 : Hid (Sp2 w t g t2 g2 [(wr.heap.size, (rqC (⟨c00, tm, ⟨5, key, val, old, to, am⟩, tag⟩ : MRq)).toArray, 52)] w2 T r c xs T2 r2 c2 ys) := Lib.hid ((D.out.box ZQ.toArray 52).turn (by simp) HWr.out hw2.out.1 hw2.out.2)
                  have hk0 : w2.cell? ⟨wr.heap.size, 0, none⟩ = some (.int .i64 c00) := block_cell (D2.out.s1.keep _ (List.mem_cons_self ..)).1 0 _ rfl
                  clear D)
               | (refine wpList_store_at rfl 3 (.tmp 43) (.tmp 42) rfl wr.heap.size 0 (rqC (⟨c00, tm, ⟨5, key, val, old, to, am⟩, tag⟩ : MRq)) 52 (D2.out.s1.keep _ (List.mem_cons_self ..)).1 (by rw [rqC_length]; omega) (.int .i64 1) rfl rfl rfl rfl Tryd.one3 ?_
                  intro w3 hw3
                  have D3 : Hid (Sp2 w t g t2 g2 [(wr.heap.size, (rqC (⟨1, tm, ⟨5, key, val, old, to, am⟩, tag⟩ : MRq)).toArray, 52)] w3 T r c xs T2 r2 c2 ys) := Lib.hid (D2.out.turn (by simp) HWr.out hw3.out.1 hw3.out.2)
                  have k30 : w3.cell? ⟨wr.heap.size, 0, none⟩ = some (.int .i64 1) := block_cell (D3.out.s1.keep _ (List.mem_cons_self ..)).1 0 _ rfl
                  have k33 : w3.cell? ⟨wr.heap.size, 3, none⟩ = some (.string key) := block_cell (D3.out.s1.keep _ (List.mem_cons_self ..)).1 3 _ rfl
                  clear D2 hk0)
               | (have D3a := Lib.hid (D3.out.below ((Below.refl _ _).alloc (Nat.le_refl _) (.cells #[.int .u8 (b1.toNat : Int)] 5)))
                  refine wpList_store_at rfl 9 (.tmp 59) (.tmp 57) rfl wr.heap.size 3 (rqC (⟨1, tm, ⟨5, key, val, old, to, am⟩, tag⟩ : MRq)) 52 (D3a.out.s1.keep _ (List.mem_cons_self ..)).1 (by rw [rqC_length]; omega) (.string ⟨#[112, b1]⟩) rfl rfl rfl rfl Tryd.one9 ?_
                  intro w4 hw4
                  have D4 : Hid (Sp2 w t g t2 g2 [(wr.heap.size, (rqC (⟨1, tm, ⟨5, ⟨#[112, b1]⟩, val, old, to, am⟩, tag⟩ : MRq)).toArray, 52)] w4 T r c xs T2 r2 c2 ys) := Lib.hid (D3a.out.turn (by simp) HWr.out hw4.out.1 hw4.out.2)
                  have k40 : w4.cell? ⟨wr.heap.size, 0, none⟩ = some (.int .i64 1) := block_cell (D4.out.s1.keep _ (List.mem_cons_self ..)).1 0 _ rfl
                  have k42 : w4.cell? ⟨wr.heap.size, 2, none⟩ = some (.int .u8 (5)) := block_cell (D4.out.s1.keep _ (List.mem_cons_self ..)).1 2 _ rfl
                  have k46 : w4.cell? ⟨wr.heap.size, 6, none⟩ = some (.string to) := block_cell (D4.out.s1.keep _ (List.mem_cons_self ..)).1 6 _ rfl
                  clear D3 D3a k30 k33)
               | (have D4a := Lib.hid (D4.out.below ((Below.refl _ _).alloc (Nat.le_refl _) (.cells #[.int .u8 (b2.toNat : Int)] 5)))
                  refine wpList_store_at rfl 9 (.tmp 76) (.tmp 74) rfl wr.heap.size 6 (rqC (⟨1, tm, ⟨5, ⟨#[112, b1]⟩, val, old, to, am⟩, tag⟩ : MRq)) 52 (D4a.out.s1.keep _ (List.mem_cons_self ..)).1 (by rw [rqC_length]; omega) (.string ⟨#[112, b2]⟩) rfl rfl rfl rfl Tryd.one9 ?_
                  intro w5 hw5
                  have D5 : Hid (Sp2 w t g t2 g2 [(wr.heap.size, (rqC (⟨1, tm, ⟨5, ⟨#[112, b1]⟩, val, old, ⟨#[112, b2]⟩, am⟩, tag⟩ : MRq)).toArray, 52)] w5 T r c xs T2 r2 c2 ys) := Lib.hid (D4a.out.turn (by simp) HWr.out hw5.out.1 hw5.out.2)
                  clear D4 D4a k40 k42 k46)
               | ((with_reducible refine wpList_load_midG ?_ 52 (.tmp 8) ?_ wr.heap.size 0 ?_ (rqC (⟨1, tm, ⟨5, ⟨#[112, b1]⟩, val, old, ⟨#[112, b2]⟩, am⟩, tag⟩ : MRq)) _ ?_ Tryd.underlying52 ?_ ?_ ?_); rotate_left; (· rfl); (· rfl); (· exact range_all (D5.out.s1.keep _ (List.mem_cons_self ..)).1); (· rfl); (· exact HI3.out); rotate_left; (· rfl))
               | (go_at_call 14; refine (HD1.out _ _ D5.out).mono ?_; rintro E w7 ⟨rfl, r7, c7, h7⟩
                  have D7 := Lib.hid (h7.box #[.int .i64 er, .string vl] 32)
                  have k70 : (w7.alloc (.cells #[.int .i64 er, .string vl] 32)).cell? ⟨wr.heap.size, 0, none⟩ = some (.int .i64 1) := block_cell (D7.out.s1.keep _ (List.mem_cons_of_mem _ (List.mem_cons_self ..))).1 0 _ rfl
                  clear D5 h7 HD1)
               | ((with_reducible refine wpList_load_midG ?_ 52 (.tmp 8) ?_ wr.heap.size 0 ?_ (rqC (⟨1, tm, ⟨5, ⟨#[112, b1]⟩, val, old, ⟨#[112, b2]⟩, am⟩, tag⟩ : MRq)) _ ?_ Tryd.underlying52 ?_ ?_ ?_); rotate_left; (· rfl); (· rfl); (· exact range_all (D7.out.s1.keep _ (List.mem_cons_of_mem _ (List.mem_cons_self ..))).1); (· rfl); (· exact HI3.out); rotate_left; (· rfl))
               | (go_at_call 14; refine (HD2.out _ _ _ _ _ D7.out).mono ?_; rintro E w8 ⟨rfl, r8, c8, h8⟩
                  have D8 := Lib.hid (h8.box #[.int .i64 er, .string vl] 32)
                  have a0 : (w8.alloc (.cells #[.int .i64 er, .string vl] 32)).cell? ⟨w7.heap.size, 0, none⟩ = some (.int .i64 er) := block_cell (C := [.int .i64 er, .string vl]) (D8.out.s1.keep _ (List.mem_cons_of_mem _ (List.mem_cons_self ..))).1 0 _ rfl
                  have a1 : (w8.alloc (.cells #[.int .i64 er, .string vl] 32)).cell? ⟨w7.heap.size, 1, none⟩ = some (.string vl) := block_cell (C := [.int .i64 er, .string vl]) (D8.out.s1.keep _ (List.mem_cons_of_mem _ (List.mem_cons_self ..))).1 1 _ rfl
                  clear D7 h8 HD2 k70
                  cases z))
              · go_roundw
                case measure => simp [intOf] <;> omega
                case rel => exact ⟨j + 1, _, r7, c7, _, _, r8, c8, _, by omega, by go_num, Lib.hid ⟨D8.out.pop.pop.pop, HAp2.out⟩⟩
              · go_roundw
                case measure => simp [intOf] <;> omega
                case rel => exact ⟨j + 1, _, r7, c7, _, _, r8, c8, _, by omega, by go_num, Lib.hid ⟨D8.out.pop.pop.pop, HAp2.out⟩⟩
            · have hmod : ((j : Int)).tmod 2 = 1 := by rw [Int.tmod_eq_emod_of_nonneg hj0]; omega
              have HQ : Hid (apq 113 2 (⟨c00, tm, ⟨5, key, val, old, to, am⟩, tag⟩ : MRq) = (⟨2, tm, ⟨5, ⟨#[113, b1]⟩, val, old, ⟨#[113, b2]⟩, am⟩, tag⟩ : MRq)) := Lib.hid (by simp [apq, pk, HB1.out, HB2.out])
              have hkk : ((5 : UInt8).toNat : Int) = 5 := rfl
              obtain ⟨er, vl, z, hres⟩ := tR_rep T xs (⟨2, tm, ⟨5, ⟨#[113, b1]⟩, val, old, ⟨#[113, b2]⟩, am⟩, tag⟩ : MRq)
              obtain ⟨T', hT'⟩ : ∃ T', T' = (tR T xs (⟨2, tm, ⟨5, ⟨#[113, b1]⟩, val, old, ⟨#[113, b2]⟩, am⟩, tag⟩ : MRq)).2.1 := ⟨_, rfl⟩
              obtain ⟨zs, hzs⟩ : ∃ zs, zs = (tR T xs (⟨2, tm, ⟨5, ⟨#[113, b1]⟩, val, old, ⟨#[113, b2]⟩, am⟩, tag⟩ : MRq)).2.2 := ⟨_, rfl⟩
              have HRes : Hid (tR T xs (⟨2, tm, ⟨5, ⟨#[113, b1]⟩, val, old, ⟨#[113, b2]⟩, am⟩, tag⟩ : MRq) = (((er, vl), z), T', zs)) := Lib.hid (by rw [← hres, hT', hzs])
              clear hres hT' hzs
              have HD1 : Hid (∀ W rb, Sp2 w t g t2 g2 [(rb, (rqC (⟨2, tm, ⟨5, ⟨#[113, b1]⟩, val, old, ⟨#[113, b2]⟩, am⟩, tag⟩ : MRq)).toArray, 52)] W T r c xs T2 r2 c2 ys → Calls Tryd.prog 14 #[.pointer (some ⟨t, 0, none⟩), .pointer (some ⟨g, 0, none⟩), .agg (rqC (⟨2, tm, ⟨5, ⟨#[113, b1]⟩, val, old, ⟨#[113, b2]⟩, am⟩, tag⟩ : MRq)).toArray] W fun E W' => E = .returned (.tuple #[.agg #[.int .i64 er, .string vl], .bool z]) ∧ ∃ r' c', Sp2 w t g t2 g2 [(rb, (rqC (⟨2, tm, ⟨5, ⟨#[113, b1]⟩, val, old, ⟨#[113, b2]⟩, am⟩, tag⟩ : MRq)).toArray, 52)] W' T' r' c' zs T2 r2 c2 ys) := Lib.hid fun W rb h => (h.do1 (⟨2, tm, ⟨5, ⟨#[113, b1]⟩, val, old, ⟨#[113, b2]⟩, am⟩, tag⟩ : MRq)).mono fun E W' hE => by rw [HRes.out] at hE; exact hE
              have HAp2 : Hid (Ap T' zs T2 ys) := Lib.hid (by have := HAp.out.odd (⟨c00, tm, ⟨5, key, val, old, to, am⟩, tag⟩ : MRq); rw [HQ.out, HRes.out] at this; exact this)
              clear HRes HQ
              have HI3 : Hid ((Tryd.prog.info? 52).map (·.size) = some (rqC (⟨2, tm, ⟨5, ⟨#[113, b1]⟩, val, old, ⟨#[113, b2]⟩, am⟩, tag⟩ : MRq)).length) := Lib.hid (by rw [rqC_length, HTag.out]; exact Tryd.is52)
              have hadd1 := text_two 113 b1
              have hcv1 := text_of_byte b1
              have hadd2 := text_two 113 b2
              have hcv2 := text_of_byte b2
              clear HAp
              go_wp2_with (first
               | ((with_reducible refine wpList_load_midG ?_ 52 (.tmp 38) ?_ b' (off + j * 40) ?_ (rqC (⟨c00, tm, ⟨5, key, val, old, to, am⟩, tag⟩ : MRq)) _ ?_ Tryd.underlying52 ?_ ?_ ?_); rotate_left; (· rfl); (· rfl); (· exact HRg.out _ D.out.s1.bel); (· rfl); (· exact HI.out); rotate_left; (· rfl))
               | (refine wpList_store_all rfl 52 (.tmp 8) (.tmp 39) rfl wr.heap.size ZQ (rqC (⟨c00, tm, ⟨5, key, val, old, to, am⟩, tag⟩ : MRq)) 52 (heap_alloc_new wr (.cells ZQ.toArray 52)) (by rw [hzl, rqC_length, HTag.out]) rfl rfl HI.out (rq_one HOne.out) ?_
                  intro w2 hw2
                  have D2 : Hid (Sp2 w t g t2 g2 [(wr.heap.size, (rqC (⟨c00, tm, ⟨5, key, val, old, to, am⟩, tag⟩ : MRq)).toArray, 52)] w2 T r c xs T2 r2 c2 ys) := Lib.hid ((D.out.box ZQ.toArray 52).turn (by simp) HWr.out hw2.out.1 hw2.out.2)
                  have hk0 : w2.cell? ⟨wr.heap.size, 0, none⟩ = some (.int .i64 c00) := block_cell (D2.out.s1.keep _ (List.mem_cons_self ..)).1 0 _ rfl
                  clear D)
               | (refine wpList_store_at rfl 3 (.tmp 43) (.tmp 42) rfl wr.heap.size 0 (rqC (⟨c00, tm, ⟨5, key, val, old, to, am⟩, tag⟩ : MRq)) 52 (D2.out.s1.keep _ (List.mem_cons_self ..)).1 (by rw [rqC_length]; omega) (.int .i64 2) rfl rfl rfl rfl Tryd.one3 ?_
                  intro w3 hw3
                  have D3 : Hid (Sp2 w t g t2 g2 [(wr.heap.size, (rqC (⟨2, tm, ⟨5, key, val, old, to, am⟩, tag⟩ : MRq)).toArray, 52)] w3 T r c xs T2 r2 c2 ys) := Lib.hid (D2.out.turn (by simp) HWr.out hw3.out.1 hw3.out.2)
                  have k30 : w3.cell? ⟨wr.heap.size, 0, none⟩ = some (.int .i64 2) := block_cell (D3.out.s1.keep _ (List.mem_cons_self ..)).1 0 _ rfl
                  have k33 : w3.cell? ⟨wr.heap.size, 3, none⟩ = some (.string key) := block_cell (D3.out.s1.keep _ (List.mem_cons_self ..)).1 3 _ rfl
                  clear D2 hk0)
               | (have D3a := Lib.hid (D3.out.below ((Below.refl _ _).alloc (Nat.le_refl _) (.cells #[.int .u8 (b1.toNat : Int)] 5)))
                  refine wpList_store_at rfl 9 (.tmp 59) (.tmp 57) rfl wr.heap.size 3 (rqC (⟨2, tm, ⟨5, key, val, old, to, am⟩, tag⟩ : MRq)) 52 (D3a.out.s1.keep _ (List.mem_cons_self ..)).1 (by rw [rqC_length]; omega) (.string ⟨#[113, b1]⟩) rfl rfl rfl rfl Tryd.one9 ?_
                  intro w4 hw4
                  have D4 : Hid (Sp2 w t g t2 g2 [(wr.heap.size, (rqC (⟨2, tm, ⟨5, ⟨#[113, b1]⟩, val, old, to, am⟩, tag⟩ : MRq)).toArray, 52)] w4 T r c xs T2 r2 c2 ys) := Lib.hid (D3a.out.turn (by simp) HWr.out hw4.out.1 hw4.out.2)
                  have k40 : w4.cell? ⟨wr.heap.size, 0, none⟩ = some (.int .i64 2) := block_cell (D4.out.s1.keep _ (List.mem_cons_self ..)).1 0 _ rfl
                  have k42 : w4.cell? ⟨wr.heap.size, 2, none⟩ = some (.int .u8 (5)) := block_cell (D4.out.s1.keep _ (List.mem_cons_self ..)).1 2 _ rfl
                  have k46 : w4.cell? ⟨wr.heap.size, 6, none⟩ = some (.string to) := block_cell (D4.out.s1.keep _ (List.mem_cons_self ..)).1 6 _ rfl
                  clear D3 D3a k30 k33)
               | (have D4a := Lib.hid (D4.out.below ((Below.refl _ _).alloc (Nat.le_refl _) (.cells #[.int .u8 (b2.toNat : Int)] 5)))
                  refine wpList_store_at rfl 9 (.tmp 76) (.tmp 74) rfl wr.heap.size 6 (rqC (⟨2, tm, ⟨5, ⟨#[113, b1]⟩, val, old, to, am⟩, tag⟩ : MRq)) 52 (D4a.out.s1.keep _ (List.mem_cons_self ..)).1 (by rw [rqC_length]; omega) (.string ⟨#[113, b2]⟩) rfl rfl rfl rfl Tryd.one9 ?_
                  intro w5 hw5
                  have D5 : Hid (Sp2 w t g t2 g2 [(wr.heap.size, (rqC (⟨2, tm, ⟨5, ⟨#[113, b1]⟩, val, old, ⟨#[113, b2]⟩, am⟩, tag⟩ : MRq)).toArray, 52)] w5 T r c xs T2 r2 c2 ys) := Lib.hid (D4a.out.turn (by simp) HWr.out hw5.out.1 hw5.out.2)
                  clear D4 D4a k40 k42 k46)
               | ((with_reducible refine wpList_load_midG ?_ 52 (.tmp 8) ?_ wr.heap.size 0 ?_ (rqC (⟨2, tm, ⟨5, ⟨#[113, b1]⟩, val, old, ⟨#[113, b2]⟩, am⟩, tag⟩ : MRq)) _ ?_ Tryd.underlying52 ?_ ?_ ?_); rotate_left; (· rfl); (· rfl); (· exact range_all (D5.out.s1.keep _ (List.mem_cons_self ..)).1); (· rfl); (· exact HI3.out); rotate_left; (· rfl))
               | (go_at_call 14; refine (HD1.out _ _ D5.out).mono ?_; rintro E w7 ⟨rfl, r7, c7, h7⟩
                  have D7 := Lib.hid (h7.box #[.int .i64 er, .string vl] 32)
                  have k70 : (w7.alloc (.cells #[.int .i64 er, .string vl] 32)).cell? ⟨wr.heap.size, 0, none⟩ = some (.int .i64 2) := block_cell (D7.out.s1.keep _ (List.mem_cons_of_mem _ (List.mem_cons_self ..))).1 0 _ rfl
                  clear D5 h7 HD1))
              go_roundw
              case measure => simp [intOf] <;> omega
              case rel => exact ⟨j + 1, _, r7, c7, _, _, r2, c2, _, by omega, by go_num, Lib.hid ⟨D7.out.pop.pop, HAp2.out⟩⟩
          · by_cases hpar : j % 2 = 0
            · have hmod : ((j : Int)).tmod 2 = 0 := by rw [Int.tmod_eq_emod_of_nonneg hj0]; omega
              have HQ : Hid (apq 112 1 (⟨c00, tm, ⟨kk, key, val, old, to, am⟩, tag⟩ : MRq) = (⟨1, tm, ⟨kk, ⟨#[112, b1]⟩, val, old, to, am⟩, tag⟩ : MRq)) := Lib.hid (by simp [apq, pk, HB1.out, hk5])
              have hkn : ¬ ((kk.toNat : Int) = 5) := fun h => hk5 (UInt8.toNat_inj.1 (by show kk.toNat = 5; omega))
              have hkb : ((kk.toNat : Int) == 5) = false := beq_eq_false_iff_ne.2 hkn
              have hkm : (kk.toNat == 5) = false := beq_eq_false_iff_ne.2 (by omega)
              have hkd : decide (kk.toNat = 5) = false := decide_eq_false (by omega)
              obtain ⟨er, vl, z, hres⟩ := tR_rep T xs (⟨1, tm, ⟨kk, ⟨#[112, b1]⟩, val, old, to, am⟩, tag⟩ : MRq)
              obtain ⟨T', hT'⟩ : ∃ T', T' = (tR T xs (⟨1, tm, ⟨kk, ⟨#[112, b1]⟩, val, old, to, am⟩, tag⟩ : MRq)).2.1 := ⟨_, rfl⟩
              obtain ⟨zs, hzs⟩ : ∃ zs, zs = (tR T xs (⟨1, tm, ⟨kk, ⟨#[112, b1]⟩, val, old, to, am⟩, tag⟩ : MRq)).2.2 := ⟨_, rfl⟩
              have HRes : Hid (tR T xs (⟨1, tm, ⟨kk, ⟨#[112, b1]⟩, val, old, to, am⟩, tag⟩ : MRq) = (((er, vl), z), T', zs)) := Lib.hid (by rw [← hres, hT', hzs])
              clear hres hT' hzs
              have HD1 : Hid (∀ W rb, Sp2 w t g t2 g2 [(rb, (rqC (⟨1, tm, ⟨kk, ⟨#[112, b1]⟩, val, old, to, am⟩, tag⟩ : MRq)).toArray, 52)] W T r c xs T2 r2 c2 ys → Calls Tryd.prog 14 #[.pointer (some ⟨t, 0, none⟩), .pointer (some ⟨g, 0, none⟩), .agg (rqC (⟨1, tm, ⟨kk, ⟨#[112, b1]⟩, val, old, to, am⟩, tag⟩ : MRq)).toArray] W fun E W' => E = .returned (.tuple #[.agg #[.int .i64 er, .string vl], .bool z]) ∧ ∃ r' c', Sp2 w t g t2 g2 [(rb, (rqC (⟨1, tm, ⟨kk, ⟨#[112, b1]⟩, val, old, to, am⟩, tag⟩ : MRq)).toArray, 52)] W' T' r' c' zs T2 r2 c2 ys) := Lib.hid fun W rb h => (h.do1 (⟨1, tm, ⟨kk, ⟨#[112, b1]⟩, val, old, to, am⟩, tag⟩ : MRq)).mono fun E W' hE => by rw [HRes.out] at hE; exact hE
              obtain ⟨he1, he2⟩ := HAp.out.even (⟨c00, tm, ⟨kk, key, val, old, to, am⟩, tag⟩ : MRq)
              rw [HQ.out, HRes.out] at he1 he2
              obtain ⟨T2', hT2⟩ : ∃ T2', T2' = (tR T2 ys (⟨1, tm, ⟨kk, ⟨#[112, b1]⟩, val, old, to, am⟩, tag⟩ : MRq)).2.1 := ⟨_, rfl⟩
              obtain ⟨us, hus⟩ : ∃ us, us = (tR T2 ys (⟨1, tm, ⟨kk, ⟨#[112, b1]⟩, val, old, to, am⟩, tag⟩ : MRq)).2.2 := ⟨_, rfl⟩
              have HRes2 : Hid (tR T2 ys (⟨1, tm, ⟨kk, ⟨#[112, b1]⟩, val, old, to, am⟩, tag⟩ : MRq) = (((er, vl), z), T2', us)) := Lib.hid (Prod.ext he1 (Prod.ext hT2.symm hus.symm))
              have HAp2 : Hid (Ap T' zs T2' us) := Lib.hid (by rw [hT2, hus]; exact he2)
              have HD2 : Hid (∀ W rb ra r c, Sp2 w t g t2 g2 [(ra, #[.int .i64 er, .string vl], 32), (rb, (rqC (⟨1, tm, ⟨kk, ⟨#[112, b1]⟩, val, old, to, am⟩, tag⟩ : MRq)).toArray, 52)] W T' r c zs T2 r2 c2 ys → Calls Tryd.prog 14 #[.pointer (some ⟨t2, 0, none⟩), .pointer (some ⟨g2, 0, none⟩), .agg (rqC (⟨1, tm, ⟨kk, ⟨#[112, b1]⟩, val, old, to, am⟩, tag⟩ : MRq)).toArray] W fun E W' => E = .returned (.tuple #[.agg #[.int .i64 er, .string vl], .bool z]) ∧ ∃ r' c', Sp2 w t g t2 g2 [(ra, #[.int .i64 er, .string vl], 32), (rb, (rqC (⟨1, tm, ⟨kk, ⟨#[112, b1]⟩, val, old, to, am⟩, tag⟩ : MRq)).toArray, 52)] W' T' r c zs T2' r' c' us) := Lib.hid fun W rb ra r c h => (h.do2 (⟨1, tm, ⟨kk, ⟨#[112, b1]⟩, val, old, to, am⟩, tag⟩ : MRq)).mono fun E W' hE => by rw [HRes2.out] at hE; exact hE
              have g32 := Tryd.guard32
              have e32 : ∀ w, (Op.equalIn 10000 32 (.agg #[.int .i64 er, .string vl]) (.agg #[.int .i64 er, .string vl])).run Tryd.prog w = .ok true w := fun w => eq_lrp_of (d := 9998) (er, vl) (er, vl) (by simp) w
              clear he1 he2 hT2 hus HRes2 HRes HQ
              have HI3 : Hid ((Tryd.prog.info? 52).map (·.size) = some (rqC (⟨1, tm, ⟨kk, ⟨#[112, b1]⟩, val, old, to, am⟩, tag⟩ : MRq)).length) := Lib.hid (by rw [rqC_length, HTag.out]; exact Tryd.is52)
              have hadd1 := text_two 112 b1
              have hcv1 := text_of_byte b1
              clear HAp
              go_wp2_with (first
               | ((with_reducible refine wpList_load_midG ?_ 52 (.tmp 38) ?_ b' (off + j * 40) ?_ (rqC (⟨c00, tm, ⟨kk, key, val, old, to, am⟩, tag⟩ : MRq)) _ ?_ Tryd.underlying52 ?_ ?_ ?_); rotate_left; (· rfl); (· rfl); (· exact HRg.out _ D.out.s1.bel); (· rfl); (· exact HI.out); rotate_left; (· rfl))
               | (refine wpList_store_all rfl 52 (.tmp 8) (.tmp 39) rfl wr.heap.size ZQ (rqC (⟨c00, tm, ⟨kk, key, val, old, to, am⟩, tag⟩ : MRq)) 52 (heap_alloc_new wr (.cells ZQ.toArray 52)) (by rw [hzl, rqC_length, HTag.out]) rfl rfl HI.out (rq_one HOne.out) ?_
                  intro w2 hw2
                  have D2 : Hid (Sp2 w t g t2 g2 [(wr.heap.size, (rqC (⟨c00, tm, ⟨kk, key, val, old, to, am⟩, tag⟩ : MRq)).toArray, 52)] w2 T r c xs T2 r2 c2 ys) := Lib.hid ((D.out.box ZQ.toArray 52).turn (by simp) HWr.out hw2.out.1 hw2.out.2)
                  have hk0 : w2.cell? ⟨wr.heap.size, 0, none⟩ = some (.int .i64 c00) := block_cell (D2.out.s1.keep _ (List.mem_cons_self ..)).1 0 _ rfl
                  clear D)
               | (refine wpList_store_at rfl 3 (.tmp 43) (.tmp 42) rfl wr.heap.size 0 (rqC (⟨c00, tm, ⟨kk, key, val, old, to, am⟩, tag⟩ : MRq)) 52 (D2.out.s1.keep _ (List.mem_cons_self ..)).1 (by rw [rqC_length]; omega) (.int .i64 1) rfl rfl rfl rfl Tryd.one3 ?_
                  intro w3 hw3
                  have D3 : Hid (Sp2 w t g t2 g2 [(wr.heap.size, (rqC (⟨1, tm, ⟨kk, key, val, old, to, am⟩, tag⟩ : MRq)).toArray, 52)] w3 T r c xs T2 r2 c2 ys) := Lib.hid (D2.out.turn (by simp) HWr.out hw3.out.1 hw3.out.2)
                  have k30 : w3.cell? ⟨wr.heap.size, 0, none⟩ = some (.int .i64 1) := block_cell (D3.out.s1.keep _ (List.mem_cons_self ..)).1 0 _ rfl
                  have k33 : w3.cell? ⟨wr.heap.size, 3, none⟩ = some (.string key) := block_cell (D3.out.s1.keep _ (List.mem_cons_self ..)).1 3 _ rfl
                  clear D2 hk0)
               | (have D3a := Lib.hid (D3.out.below ((Below.refl _ _).alloc (Nat.le_refl _) (.cells #[.int .u8 (b1.toNat : Int)] 5)))
                  refine wpList_store_at rfl 9 (.tmp 59) (.tmp 57) rfl wr.heap.size 3 (rqC (⟨1, tm, ⟨kk, key, val, old, to, am⟩, tag⟩ : MRq)) 52 (D3a.out.s1.keep _ (List.mem_cons_self ..)).1 (by rw [rqC_length]; omega) (.string ⟨#[112, b1]⟩) rfl rfl rfl rfl Tryd.one9 ?_
                  intro w4 hw4
                  have D4 : Hid (Sp2 w t g t2 g2 [(wr.heap.size, (rqC (⟨1, tm, ⟨kk, ⟨#[112, b1]⟩, val, old, to, am⟩, tag⟩ : MRq)).toArray, 52)] w4 T r c xs T2 r2 c2 ys) := Lib.hid (D3a.out.turn (by simp) HWr.out hw4.out.1 hw4.out.2)
                  have k40 : w4.cell? ⟨wr.heap.size, 0, none⟩ = some (.int .i64 1) := block_cell (D4.out.s1.keep _ (List.mem_cons_self ..)).1 0 _ rfl
                  have k42 : w4.cell? ⟨wr.heap.size, 2, none⟩ = some (.int .u8 ((kk.toNat : Int))) := block_cell (D4.out.s1.keep _ (List.mem_cons_self ..)).1 2 _ rfl
                  have k46 : w4.cell? ⟨wr.heap.size, 6, none⟩ = some (.string to) := block_cell (D4.out.s1.keep _ (List.mem_cons_self ..)).1 6 _ rfl
                  clear D3 D3a k30 k33)
               | ((with_reducible refine wpList_load_midG ?_ 52 (.tmp 8) ?_ wr.heap.size 0 ?_ (rqC (⟨1, tm, ⟨kk, ⟨#[112, b1]⟩, val, old, to, am⟩, tag⟩ : MRq)) _ ?_ Tryd.underlying52 ?_ ?_ ?_); rotate_left; (· rfl); (· rfl); (· exact range_all (D4.out.s1.keep _ (List.mem_cons_self ..)).1); (· rfl); (· exact HI3.out); rotate_left; (· rfl))
               | (go_at_call 14; refine (HD1.out _ _ D4.out).mono ?_; rintro E w7 ⟨rfl, r7, c7, h7⟩
                  have D7 := Lib.hid (h7.box #[.int .i64 er, .string vl] 32)
                  have k70 : (w7.alloc (.cells #[.int .i64 er, .string vl] 32)).cell? ⟨wr.heap.size, 0, none⟩ = some (.int .i64 1) := block_cell (D7.out.s1.keep _ (List.mem_cons_of_mem _ (List.mem_cons_self ..))).1 0 _ rfl
                  clear D4 h7 HD1 k40 k42 k46)
               | ((with_reducible refine wpList_load_midG ?_ 52 (.tmp 8) ?_ wr.heap.size 0 ?_ (rqC (⟨1, tm, ⟨kk, ⟨#[112, b1]⟩, val, old, to, am⟩, tag⟩ : MRq)) _ ?_ Tryd.underlying52 ?_ ?_ ?_); rotate_left; (· rfl); (· rfl); (· exact range_all (D7.out.s1.keep _ (List.mem_cons_of_mem _ (List.mem_cons_self ..))).1); (· rfl); (· exact HI3.out); rotate_left; (· rfl))
               | (go_at_call 14; refine (HD2.out _ _ _ _ _ D7.out).mono ?_; rintro E w8 ⟨rfl, r8, c8, h8⟩
                  have D8 := Lib.hid (h8.box #[.int .i64 er, .string vl] 32)
                  have a0 : (w8.alloc (.cells #[.int .i64 er, .string vl] 32)).cell? ⟨w7.heap.size, 0, none⟩ = some (.int .i64 er) := block_cell (C := [.int .i64 er, .string vl]) (D8.out.s1.keep _ (List.mem_cons_of_mem _ (List.mem_cons_self ..))).1 0 _ rfl
                  have a1 : (w8.alloc (.cells #[.int .i64 er, .string vl] 32)).cell? ⟨w7.heap.size, 1, none⟩ = some (.string vl) := block_cell (C := [.int .i64 er, .string vl]) (D8.out.s1.keep _ (List.mem_cons_of_mem _ (List.mem_cons_self ..))).1 1 _ rfl
                  clear D7 h8 HD2 k70
                  cases z))
              · go_roundw
                case measure => simp [intOf] <;> omega
                case rel => exact ⟨j + 1, _, r7, c7, _, _, r8, c8, _, by omega, by go_num, Lib.hid ⟨D8.out.pop.pop.pop, HAp2.out⟩⟩
              · go_roundw
                case measure => simp [intOf] <;> omega
                case rel => exact ⟨j + 1, _, r7, c7, _, _, r8, c8, _, by omega, by go_num, Lib.hid ⟨D8.out.pop.pop.pop, HAp2.out⟩⟩
            · have hmod : ((j : Int)).tmod 2 = 1 := by rw [Int.tmod_eq_emod_of_nonneg hj0]; omega
              have HQ : Hid (apq 113 2 (⟨c00, tm, ⟨kk, key, val, old, to, am⟩, tag⟩ : MRq) = (⟨2, tm, ⟨kk, ⟨#[113, b1]⟩, val, old, to, am⟩, tag⟩ : MRq)) := Lib.hid (by simp [apq, pk, HB1.out, hk5])
              have hkn : ¬ ((kk.toNat : Int) = 5) := fun h => hk5 (UInt8.toNat_inj.1 (by show kk.toNat = 5; omega))
              have hkb : ((kk.toNat : Int) == 5) = false := beq_eq_false_iff_ne.2 hkn
              have hkm : (kk.toNat == 5) = false := beq_eq_false_iff_ne.2 (by omega)
              have hkd : decide (kk.toNat = 5) = false := decide_eq_false (by omega)
              obtain ⟨er, vl, z, hres⟩ := tR_rep T xs (⟨2, tm, ⟨kk, ⟨#[113, b1]⟩, val, old, to, am⟩, tag⟩ : MRq)
              obtain ⟨T', hT'⟩ : ∃ T', T' = (tR T xs (⟨2, tm, ⟨kk, ⟨#[113, b1]⟩, val, old, to, am⟩, tag⟩ : MRq)).2.1 := ⟨_, rfl⟩
              obtain ⟨zs, hzs⟩ : ∃ zs, zs = (tR T xs (⟨2, tm, ⟨kk, ⟨#[113, b1]⟩, val, old, to, am⟩, tag⟩ : MRq)).2.2 := ⟨_, rfl⟩
              have HRes : Hid (tR T xs (⟨2, tm, ⟨kk, ⟨#[113, b1]⟩, val, old, to, am⟩, tag⟩ : MRq) = (((er, vl), z), T', zs)) := Lib.hid (by rw [← hres, hT', hzs])
              clear hres hT' hzs
              have HD1 : Hid (∀ W rb, Sp2 w t g t2 g2 [(rb, (rqC (⟨2, tm, ⟨kk, ⟨#[113, b1]⟩, val, old, to, am⟩, tag⟩ : MRq)).toArray, 52)] W T r c xs T2 r2 c2 ys → Calls Tryd.prog 14 #[.pointer (some ⟨t, 0, none⟩), .pointer (some ⟨g, 0, none⟩), .agg (rqC (⟨2, tm, ⟨kk, ⟨#[113, b1]⟩, val, old, to, am⟩, tag⟩ : MRq)).toArray] W fun E W' => E = .returned (.tuple #[.agg #[.int .i64 er, .string vl], .bool z]) ∧ ∃ r' c', Sp2 w t g t2 g2 [(rb, (rqC (⟨2, tm, ⟨kk, ⟨#[113, b1]⟩, val, old, to, am⟩, tag⟩ : MRq)).toArray, 52)] W' T' r' c' zs T2 r2 c2 ys) := Lib.hid fun W rb h => (h.do1 (⟨2, tm, ⟨kk, ⟨#[113, b1]⟩, val, old, to, am⟩, tag⟩ : MRq)).mono fun E W' hE => by rw [HRes.out] at hE; exact hE
              have HAp2 : Hid (Ap T' zs T2 ys) := Lib.hid (by have := HAp.out.odd (⟨c00, tm, ⟨kk, key, val, old, to, am⟩, tag⟩ : MRq); rw [HQ.out, HRes.out] at this; exact this)
              clear HRes HQ
              have HI3 : Hid ((Tryd.prog.info? 52).map (·.size) = some (rqC (⟨2, tm, ⟨kk, ⟨#[113, b1]⟩, val, old, to, am⟩, tag⟩ : MRq)).length) := Lib.hid (by rw [rqC_length, HTag.out]; exact Tryd.is52)
              have hadd1 := text_two 113 b1
              have hcv1 := text_of_byte b1
              clear HAp
              go_wp2_with (first
               | ((with_reducible refine wpList_load_midG ?_ 52 (.tmp 38) ?_ b' (off + j * 40) ?_ (rqC (⟨c00, tm, ⟨kk, key, val, old, to, am⟩, tag⟩ : MRq)) _ ?_ Tryd.underlying52 ?_ ?_ ?_); rotate_left; (· rfl); (· rfl); (· exact HRg.out _ D.out.s1.bel); (· rfl); (· exact HI.out); rotate_left; (· rfl))
               | (refine wpList_store_all rfl 52 (.tmp 8) (.tmp 39) rfl wr.heap.size ZQ (rqC (⟨c00, tm, ⟨kk, key, val, old, to, am⟩, tag⟩ : MRq)) 52 (heap_alloc_new wr (.cells ZQ.toArray 52)) (by rw [hzl, rqC_length, HTag.out]) rfl rfl HI.out (rq_one HOne.out) ?_
                  intro w2 hw2
                  have D2 : Hid (Sp2 w t g t2 g2 [(wr.heap.size, (rqC (⟨c00, tm, ⟨kk, key, val, old, to, am⟩, tag⟩ : MRq)).toArray, 52)] w2 T r c xs T2 r2 c2 ys) := Lib.hid ((D.out.box ZQ.toArray 52).turn (by simp) HWr.out hw2.out.1 hw2.out.2)
                  have hk0 : w2.cell? ⟨wr.heap.size, 0, none⟩ = some (.int .i64 c00) := block_cell (D2.out.s1.keep _ (List.mem_cons_self ..)).1 0 _ rfl
                  clear D)
               | (refine wpList_store_at rfl 3 (.tmp 43) (.tmp 42) rfl wr.heap.size 0 (rqC (⟨c00, tm, ⟨kk, key, val, old, to, am⟩, tag⟩ : MRq)) 52 (D2.out.s1.keep _ (List.mem_cons_self ..)).1 (by rw [rqC_length]; omega) (.int .i64 2) rfl rfl rfl rfl Tryd.one3 ?_
                  intro w3 hw3
                  have D3 : Hid (Sp2 w t g t2 g2 [(wr.heap.size, (rqC (⟨2, tm, ⟨kk, key, val, old, to, am⟩, tag⟩ : MRq)).toArray, 52)] w3 T r c xs T2 r2 c2 ys) := Lib.hid (D2.out.turn (by simp) HWr.out hw3.out.1 hw3.out.2)
                  have k30 : w3.cell? ⟨wr.heap.size, 0, none⟩ = some (.int .i64 2) := block_cell (D3.out.s1.keep _ (List.mem_cons_self ..)).1 0 _ rfl
                  have k33 : w3.cell? ⟨wr.heap.size, 3, none⟩ = some (.string key) := block_cell (D3.out.s1.keep _ (List.mem_cons_self ..)).1 3 _ rfl
                  clear D2 hk0)
               | (have D3a := Lib.hid (D3.out.below ((Below.refl _ _).alloc (Nat.le_refl _) (.cells #[.int .u8 (b1.toNat : Int)] 5)))
                  refine wpList_store_at rfl 9 (.tmp 59) (.tmp 57) rfl wr.heap.size 3 (rqC (⟨2, tm, ⟨kk, key, val, old, to, am⟩, tag⟩ : MRq)) 52 (D3a.out.s1.keep _ (List.mem_cons_self ..)).1 (by rw [rqC_length]; omega) (.string ⟨#[113, b1]⟩) rfl rfl rfl rfl Tryd.one9 ?_
                  intro w4 hw4
                  have D4 : Hid (Sp2 w t g t2 g2 [(wr.heap.size, (rqC (⟨2, tm, ⟨kk, ⟨#[113, b1]⟩, val, old, to, am⟩, tag⟩ : MRq)).toArray, 52)] w4 T r c xs T2 r2 c2 ys) := Lib.hid (D3a.out.turn (by simp) HWr.out hw4.out.1 hw4.out.2)
                  have k40 : w4.cell? ⟨wr.heap.size, 0, none⟩ = some (.int .i64 2) := block_cell (D4.out.s1.keep _ (List.mem_cons_self ..)).1 0 _ rfl
                  have k42 : w4.cell? ⟨wr.heap.size, 2, none⟩ = some (.int .u8 ((kk.toNat : Int))) := block_cell (D4.out.s1.keep _ (List.mem_cons_self ..)).1 2 _ rfl
                  have k46 : w4.cell? ⟨wr.heap.size, 6, none⟩ = some (.string to) := block_cell (D4.out.s1.keep _ (List.mem_cons_self ..)).1 6 _ rfl
                  clear D3 D3a k30 k33)
               | ((with_reducible refine wpList_load_midG ?_ 52 (.tmp 8) ?_ wr.heap.size 0 ?_ (rqC (⟨2, tm, ⟨kk, ⟨#[113, b1]⟩, val, old, to, am⟩, tag⟩ : MRq)) _ ?_ Tryd.underlying52 ?_ ?_ ?_); rotate_left; (· rfl); (· rfl); (· exact range_all (D4.out.s1.keep _ (List.mem_cons_self ..)).1); (· rfl); (· exact HI3.out); rotate_left; (· rfl))
               | (go_at_call 14; refine (HD1.out _ _ D4.out).mono ?_; rintro E w7 ⟨rfl, r7, c7, h7⟩
                  have D7 := Lib.hid (h7.box #[.int .i64 er, .string vl] 32)
                  have k70 : (w7.alloc (.cells #[.int .i64 er, .string vl] 32)).cell? ⟨wr.heap.size, 0, none⟩ = some (.int .i64 2) := block_cell (D7.out.s1.keep _ (List.mem_cons_of_mem _ (List.mem_cons_self ..))).1 0 _ rfl
                  clear D4 h7 HD1 k40 k42 k46))
              go_roundw
              case measure => simp [intOf] <;> omega
              case rel => exact ⟨j + 1, _, r7, c7, _, _, r2, c2, _, by omega, by go_num, Lib.hid ⟨D7.out.pop.pop, HAp2.out⟩⟩
        · obtain rfl : j = n := by omega
          have hjn : ¬ ((j : Int) < (j : Int)) := by omega
          go_wp2_with (go_at_call 20; refine (list_any D.out.s1.sys.led (Nat.le_trans D.out.s1.sys.len (by decide))).mono ?_)
          rintro E w10 ⟨r10, c10, rfl, hR10, hg10, hb10⟩
          have D10 := Lib.hid (D.out.below hb10)
          have HI10 := Lib.hid hR10.its
          have hle := D.out.s1.sys.len
          clear D hR10 hg10 hb10
          obtain ⟨A10, hA10⟩ : ∃ A10, A10 = slA r10 := ⟨_, rfl⟩
          rw [← hA10] at HI10 ⊢
          obtain ⟨m, hm⟩ : ∃ m, m = xs.length := ⟨_, rfl⟩
          have HM := Lib.hid hm
          rw [← hm] at hle ⊢
          clear hA10 hm
          obtain ⟨i0, hi0, hz0, hzs, hzb⟩ := info_parts Tryd.info64
          have HS : Hid (w10.ownsRow w10.heap.size 64 2 (.slice none 0 0) (mine isP (xs.take 0)).length (itC (mine isP (xs.take 0))) ∧ Below w10.heap.size w10 w10) := Lib.hid ⟨World.ownsRow_nil _ _ _ _, Below.refl _ _⟩
          have HLen : Hid (∀ j, (mine isP (xs.take j)).length ≤ 1000) := Lib.hid fun j => Nat.le_trans (List.length_filter_le _ _) (by rw [List.length_take]; have := HM.out; omega)
          go_wp2_with fail
          go_loopw [14, 16] (fun v14 v16 wr => ∃ (i : Nat) (v : Value), i ≤ m ∧ v16 = .int .i64 (i : Int) ∧ v = v14 ∧ Hid (wr.ownsRow w10.heap.size 64 2 v (mine isP (xs.take i)).length (itC (mine isP (xs.take i))) ∧ Below w10.heap.size w10 wr)) (fun _ v16 _ => m - (intOf v16).toNat)
          case atStart => exact ⟨0, _, by omega, rfl, rfl, HS⟩
          case round =>
            clear HS
            obtain ⟨i, v14, hi, rfl, rfl, HR⟩ := hrel
            by_cases hii : i < m
            · obtain ⟨p, hp⟩ : ∃ p, xs[i]? = some p := ⟨_, List.getElem?_eq_getElem (by rw [← HM.out]; exact hii)⟩
              obtain ⟨bb, oo, rfl, hbl, hc⟩ := HI10.out (by rw [← HM.out]; omega)
              have c0 : wr.cell? ⟨bb, oo + i * 2, none⟩ = some (.string p.1) := (HR.out.2.cell (p := ⟨bb, oo + i * 2, none⟩) hbl).trans (hc i p hp).1
              have c1 : wr.cell? ⟨bb, oo + i * 2 + 1, none⟩ = some (.string p.2) := (HR.out.2.cell (p := ⟨bb, oo + i * 2 + 1, none⟩) hbl).trans (hc i p hp).2
              have HT := Lib.hid (mine_take hp)
              obtain ⟨a, b, hab⟩ := among_first HAp.out.among (List.mem_of_getElem? hp)
              have hdec : decide ((i : Int) < (m : Int)) = true := decide_eq_true (by omega)
              have hj0 : (0 : Int) ≤ (i : Int) := by omega
              have hjn : (i : Int) < (m : Int) := by omega
              have htn : ((i : Int)).toNat = i := by omega
              have hw1 : IntKind.i64.wrap ((i : Int) + 1) = (i : Int) + 1 := by rw [IntKind.wrap_i64]; omega
              have hix : ∀ W, (Instr.index 9 (.string p.1) (.int .i64 0)).run Tryd.prog W = .ok (.int .u8 (a.toNat : Int)) W := fun W => index_str p.1 0 a (by rw [hab]; rfl) W
              have hsz : (0 : Int) < (p.1.size : Int) := by rw [hab]; show (0 : Int) < ((2 : Nat) : Int); omega
              have hsz2 : 0 < p.1.size := by omega
              have HP : Hid (isP p.1 = decide (a = 112)) := Lib.hid (by rw [hab]; show (some a == some (112 : UInt8)) = _; rw [Bool.eq_iff_iff]; simp)
              clear hc hp hab
              by_cases ha : a = 112
              · subst ha
                have HT2 : Hid (mine isP (xs.take (i + 1)) = mine isP (xs.take i) ++ [p]) := Lib.hid (by rw [HT.out, HP.out]; rfl)
                have HO : Hid ((wr.alloc (.cells #[.string p.1, .string p.2] 64)).ownsRow w10.heap.size 64 2 v14 (mine isP (xs.take i)).length (itC (mine isP (xs.take i)))) := Lib.hid (HR.out.1.alloc _)
                have HB : Hid (Below w10.heap.size w10 (wr.alloc (.cells #[.string p.1, .string p.2] 64))) := Lib.hid (HR.out.2.alloc HR.out.2.size _)
                have HV : Hid (∀ j u, (pC p)[j]? = some u → (wr.alloc (.cells #[.string p.1, .string p.2] 64)).cell? ((⟨wr.heap.size, 0, none⟩ : Addr).add j) = some u) := Lib.hid fun j u hj => by
                  rw [Addr.add_lit, Nat.zero_add]
                  exact block_cell (C := pC p) (t := 64) (heap_alloc_new wr (.cells (pC p).toArray 64)) j u hj
                have H1 := Lib.hid (pC_one p)
                have HLt : Hid (∀ k, v14.ownBlock = some k → w10.heap.size ≤ k) := Lib.hid fun k hk => (HR.out.1.lt k hk).1
                have HSz : Hid (w10.heap.size ≤ (wr.alloc (.cells #[.string p.1, .string p.2] 64)).heap.size) := Lib.hid HB.out.size
                have HN2 := Lib.hid (HLen.out i)
                have HG : Hid (∀ v' w', w'.ownsRow w10.heap.size 64 2 v' ((mine isP (xs.take i)).length + 1) (itC (mine isP (xs.take i)) ++ pC p) → (wr.alloc (.cells #[.string p.1, .string p.2] 64)).grownBy w' v14.ownBlock → w'.ownsRow w10.heap.size 64 2 v' (mine isP (xs.take (i + 1))).length (itC (mine isP (xs.take (i + 1)))) ∧ Below w10.heap.size w10 w') := Lib.hid fun v' w' ho hg => by
                  rw [HT2.out, itC_app, List.length_append]
                  refine ⟨?_, HB.out.grown hg HB.out.size (fun k hk => HLt.out k hk)⟩
                  have e : itC [p] = pC p := by simp [itC, pC]
                  rw [e]
                  exact ho
                clear HT HP HT2 HR HLen
                obtain ⟨mm, hmm⟩ : ∃ mm, mm = (mine isP (xs.take i)).length := ⟨_, rfl⟩
                obtain ⟨C, hC⟩ : ∃ C, C = itC (mine isP (xs.take i)) := ⟨_, rfl⟩
                rw [← hmm, ← hC] at HO HG
                rw [← hmm] at HN2
                clear hmm hC
                go_wp2_with (at_builtin; refine wpList_append_own _ rfl _ _ 43 rfl w10.heap.size 64 i0 _ 2 32 Tryd.underlying43 hi0 hz0 hzs hzb (by simp [Value.cells]) (by omega) _ mm C rfl HO.out ⟨wr.heap.size, 0, none⟩ 1 1 (pC p) rfl rfl HV.out H1.out (by have := HN2.out; unfold maxLen; omega) (by have := HN2.out; omega) HSz.out ?_; intro v' w1 hown hgrow hnil)
                have HQ := Lib.hid (HG.out v' w1 hown hgrow)
                clear hown hgrow hnil HG HO HV
                go_wp2_with fail
                go_roundw
                case measure => simp [intOf] <;> omega
                case rel => exact ⟨i + 1, _, by omega, by go_num, rfl, HQ⟩
              · have HT2 : Hid (mine isP (xs.take (i + 1)) = mine isP (xs.take i)) := Lib.hid (by rw [HT.out, HP.out, decide_eq_false ha]; simp)
                have hn1 : ¬ ((a.toNat : Int) = 112) := fun h => ha (UInt8.toNat_inj.1 (by show a.toNat = 112; omega))
                have hn2 : ((a.toNat : Int) == 112) = false := beq_eq_false_iff_ne.2 hn1
                have hn3 : (a.toNat == 112) = false := beq_eq_false_iff_ne.2 (by omega)
                have hn4 : decide (a.toNat = 112) = false := decide_eq_false (by omega)
                clear HT HP ha
                go_wp2_with fail
                go_roundw
                case measure => simp [intOf] <;> omega
                case rel => exact ⟨i + 1, _, by omega, by go_num, rfl, Lib.hid (by rw [HT2.out]; exact HR.out)⟩
            · obtain rfl : i = m := by omega
              have hin : ¬ ((i : Int) < (i : Int)) := by omega
              obtain ⟨r11, c11, rfl, hR11, _⟩ := rw_of_own HR.out.1
              have HI11 := Lib.hid hR11.its
              have D11 := Lib.hid (D10.out.below HR.out.2)
              have HY : Hid (mine isP (xs.take i) = ys) := Lib.hid (by rw [List.take_of_length_le (by rw [← HM.out]; exact Nat.le_refl _), HAp.out.own])
              rw [HY.out] at HI11 ⊢
              have hly := D10.out.s2.sys.len
              clear hR11 HR D10 HLen HI10
              have g34 := Tryd.guard34
              have HL1 : Hid (tLast T2 1 = tLast T 1) := Lib.hid (by show (if isCl 1 = true then lastOf T2 1 else zL) = (if isCl 1 = true then lastOf T 1 else zL); rw [HAp.out.last])
              have e34 : ∀ w, (Op.equalIn 10000 34 (.agg (lsC (tLast T 1)).toArray) (.agg (lsC (tLast T 1)).toArray)).run Tryd.prog w = .ok true w := fun w => eq_lst_of (d := 9997) _ _ (by simp) w
              go_wp2_with (go_at_call 20; refine (list_any D11.out.s2.sys.led (Nat.le_trans D11.out.s2.sys.len (by decide))).mono ?_)
              rintro E w12 ⟨r12, c12, rfl, hR12, hg12, hb12⟩
              have D12 := Lib.hid (D11.out.below hb12)
              have HS12 : Hid (Calls Tryd.prog 19 #[.slice (slA r11) ys.length c11, .slice (slA r12) ys.length c12] w12 fun E w' => E = .returned (.bool true) ∧ Below w12.heap.size w12 w') := Lib.hid (by have := HSame.out w12 _ _ c11 c12 ys ys (HI11.out.below hb12) hR12.its (by omega) (by omega); rw [decide_eq_true rfl] at this; exact this)
              clear D11 HI11 hR12 hg12 hb12 HSame
              go_wp2_with (first | (go_at_call 19; refine HS12.out.mono ?_; rintro E w13 ⟨rfl, b13⟩; have D13 := Lib.hid (D12.out.below b13); clear b13 D12 HS12) | (have DX := D13; go_at_call 18; refine (tlast_any DX.out.s1.tbl 1).mono ?_; rintro E w14 ⟨rfl, b14⟩; have D14 := Lib.hid (D13.out.below b14); clear b14 D13 DX) | (have DX := D14; go_at_call 18; refine (tlast_any DX.out.s2.tbl 1).mono ?_; rintro E w15 ⟨rfl, b15⟩; rw [HL1.out]; have D15 := Lib.hid (D14.out.below b15); clear b15 D14 DX) | (go_at_call 9; refine (HW.out _ D15.out.s1.bel).mono ?_; rintro E w16 ⟨rfl, b16⟩; have D16 := Lib.hid (D15.out.below b16); clear b16 D15))
              go_ret
              exact ⟨rfl, D16.out.s1.bel⟩
    · have hl1 : ((n : Int) > 100) := by omega
      have hl2 : (100 < (n : Int)) := by omega
      go_wp2_with (go_at_call 9; refine (HW.out _ B1.out).mono ?_; rintro E w2 ⟨rfl, b2⟩)
      go_ret
      exact ⟨rfl, B1.out.trans (b2.mono B1.out.size)⟩
end Go.Proofs.YtflenghnmflenaaDoor
