/-
  What is proved: the walk of UsigLost for whatever comes in. Conditions as stated.
-/
import Derived.Test.YtepjfkmbmcfnoaaDoorGi
namespace Go.Proofs.YtepjfkmbmcfnoaaDoor
open Go.RowKit
set_option maxRecDepth 100000

/-- What is written is there. -/
theorem write_there {s : Dk} (hc : Calm s) {y : Int} (hy : 0 ≤ y ∧ y < 32768) (b : List UInt8) : (s.write y b).1.read y = (b, 0) := by
  rw [write_ok hc.1 hc.2 hy, read_on (s := { s with loose := s.loose ++ [(y, b)] }) hc.1 hy]
  simp only [lastW_append]
  simp [lastW]
/-- A slot one of whose sectors has other bytes is none. -/
theorem slot_spoilt {s : Dk} (hc : Calm s) {X : Int} (hX : 0 ≤ X ∧ X + 10 ≤ 32768) {n : Nat} {bs : List UInt8} (h : SlotIs s X n bs) (hn : n < 18446744073709551616) {i0 : Nat} (hi : i0 < 10) {b : List UInt8} (hb : cnt b ≠ n) : (slotRes (s.write (X + i0) b).1 X).1 = 0 := by
  refine Classical.byContradiction fun h0 => ?_
  have ha := slotRes_all h0
  have hw := (write_beside hc (y := X + i0) (by omega) b).2.2
  obtain ⟨j, hj, hji⟩ : ∃ j : Nat, j < 10 ∧ j ≠ i0 := by
    by_cases h : i0 = 0
    · exact ⟨1, by omega, by omega⟩
    · exact ⟨0, by omega, by omega⟩
  have h1 := (ha i0 hi).2
  have h2 := (ha j hj).2
  rw [write_there hc (by omega)] at h1
  rw [hw _ (by omega) (by omega), h j hj] at h2
  simp only at h1 h2
  rw [cnt_sect _ _ _ hn] at h2
  exact hb (h1.trans h2.symm)
theorem SlotIs.write {s : Dk} (hc : Calm s) {X y : Int} (hX : 0 ≤ X ∧ X + 10 ≤ 32768) (hy : 0 ≤ y ∧ y < 32768) (hne : y < X ∨ X + 10 ≤ y) {n : Nat} {bs : List UInt8} (h : SlotIs s X n bs) (b : List UInt8) : SlotIs (s.write y b).1 X n bs := fun i hi => by
  rw [(write_beside hc hy b).2.2 _ (by omega) (by omega)]
  exact h i hi
theorem slotRes_write {s : Dk} (hc : Calm s) {X y : Int} (hX : 0 ≤ X ∧ X + 10 ≤ 32768) (hy : 0 ≤ y ∧ y < 32768) (hne : y < X ∨ X + 10 ≤ y) (b : List UInt8) : slotRes (s.write y b).1 X = slotRes s X :=
  slotRes_congr fun i hi => (write_beside hc hy b).2.2 _ (by omega) (by omega)
theorem cnt_ee : cnt (secOf 238) = 17216961135462248174 := by decide +kernel

/-- What the counter has behind so many numbers. -/
def Had (xs : List (Option Addr × Nat × List UInt8)) (k : Nat) (bs : List UInt8) : Prop := (k = 0 ∧ bs = []) ∨ ∃ j x, k = j + 1 ∧ xs[j]? = some x ∧ bs = Oct.be 8 k ++ x.2.2 ∧ x.2.2.length ≤ 1024
theorem Had.seal {xs : List (Option Addr × Nat × List UInt8)} {k : Nat} {bs : List UInt8} (h : Had xs k bs) (hk : k ≤ 100) : sealN bs = k ∧ soundB bs = true := by
  rcases h with ⟨rfl, rfl⟩ | ⟨j, x, hj, _, rfl, hx⟩
  · exact ⟨rfl, rfl⟩
  · exact ⟨(seal_be k x.2.2 (by omega)).1, sound_be k x.2.2 (by omega) (by omega) hx⟩

set_option maxHeartbeats 40000000 in
theorem usigLost_by (w : World) (HK : Hid (Sh.KIs w)) (h0 : 0 < w.heap.size) (HW : Hid (∀ W', Below w.heap.size w W' → Calls Tryd.prog 9 #[] W' fun E w' => E = .returned (.bool true) ∧ Below W'.heap.size W' w')) (A : Option Addr) (n c : Nat) (xs : List (Option Addr × Nat × List UInt8)) (hx : Lists w A n xs) (hs : Sl A n c)
    (one : Int) (ho : 0 ≤ one ∧ one < 256) (two : Int) (ht : 0 ≤ two ∧ two < 256) :
    Calls Tryd.prog 8 #[.slice A n c, .int .u8 one, .int .u8 two] w fun E w' => E = .returned (.bool true) ∧ Below w.heap.size w w' := by
  have HX := Lib.hid hx
  have HR0 := Lib.hid (Below.refl w.heap.size w)
  have hsc := hs.2
  clear hx hs
  by_cases hn : n ≤ 10
  · obtain ⟨Z, hZ⟩ : ∃ Z, Z = u8s noTag := ⟨_, rfl⟩
    have hz : ∀ w, (zeroValue 36).run Tryd.prog w = .ok (.agg Z.toArray) w := by rw [hZ]; exact zero_tag
    have HIZ : Hid ((Tryd.prog.info? 36).map (·.size) = some Z.length) := Lib.hid (by rw [hZ]; exact tag_info rfl)
    have HOZ : Hid (∀ v ∈ Z, v.oneCell' = true) := Lib.hid (by rw [hZ]; exact u8s_one _)
    have HZZ := Lib.hid hZ
    have HLZ : Hid (∀ T : List UInt8, T.length = 32 → Z.length = (u8s T).length) := Lib.hid fun T hT => by rw [hZ, u8s_length, u8s_length, hT]; rfl
    clear hZ
    obtain ⟨i1, hi1⟩ : ∃ i1 : Nat, i1 = one.toNat % 10 := ⟨_, rfl⟩
    obtain ⟨i2, hi2⟩ : ∃ i2 : Nat, i2 = two.toNat % 10 := ⟨_, rfl⟩
    have hi1l : i1 < 10 := by omega
    have hi2l : i2 < 10 := by omega
    have h1a : one.tmod 10 = (i1 : Int) := by rw [Int.tmod_eq_emod_of_nonneg (by omega)]; omega
    have h1b : one % 10 = (i1 : Int) := by omega
    have h2a : two.tmod 10 = (i2 : Int) := by rw [Int.tmod_eq_emod_of_nonneg (by omega)]; omega
    have h2b : two % 10 = (i2 : Int) := by omega
    have h1c : RowKit.wrap64 one = one := by unfold RowKit.wrap64; omega
    have h2c : RowKit.wrap64 two = two := by unfold RowKit.wrap64; omega
    clear hi1 hi2
    go_enter Tryd.func8, Tryd.ntmps8
    go_wp2_with fail
    refine (dat_new (Below.refl _ w)).mono ?_
    rintro E w1 ⟨d, rfl, h1, -⟩
    have D1 := Lib.hid h1
    clear h1
    go_wp2_with fail
    refine (us_format D1.out new_calm (by omega) (x := 0) (by omega)).mono ?_
    rintro E w2 ⟨rfl, s2, H2⟩
    clear D1
    go_wp2_with fail
    refine (us_new (bs := []) 1 rfl rfl HK.out h0 (cell_open H2.out.1 H2.out.2.1.1 (x := 0) (by omega) H2.out.2.2.2.1)).mono ?_
    rintro E w3 ⟨u, g, rfl, O3⟩
    go_wp2_with fail
    have D3 : Hid (OpAt w d (20 + 10 * 0) s2 0 [(u, usOf g 1)] g [] ((0 : Nat) : Int) w3 ∧ Calm s2 ∧ CellIs s2 0 0 2 [] (2 + 0) ∧ SlotIs s2 (0 + ((1 - 0 : Nat) : Int) * 10) 1 [] ∧ Had xs 0 []) := Lib.hid ⟨O3.out, H2.out.2.1, H2.out.2.2.2.1, fun i hi => by
      rw [H2.out.2.2.2.2 _ (by omega), if_neg (by omega), if_pos (by omega)]
      congr 2
      omega, .inl ⟨rfl, rfl⟩⟩
    clear H2 O3
    go_loopw [10] (fun v10 wr => ∃ k : Nat, k ≤ n ∧ v10 = .int .i64 (k : Int) ∧ ∃ bs a na nb bb s, Hid (a = k % 2) ∧ Hid (nb ≤ 2 + k) ∧ Hid (OpAt w d (20 + 10 * k) s 0 [(u, usOf g 1)] g bs ((a : Nat) : Int) wr ∧ Calm s ∧ CellIs s 0 a na bs (2 + k) ∧ SlotIs s (0 + ((1 - a : Nat) : Int) * 10) nb bb ∧ Had xs k bs)) (fun v10 _ => n - (intOf v10).toNat)
    case atStart => exact ⟨0, by omega, rfl, [], 0, 2, 1, [], s2, Lib.hid rfl, Lib.hid (by omega), D3⟩
    case round =>
      clear D3 HR0
      obtain ⟨k, hkn, rfl, bs, a, na, nb, bb, s, HA, HNB, HD⟩ := hrel
      by_cases hkk : k < n
      · obtain ⟨b, o, rfl, hb0, hc⟩ := HX.out.2 (by omega)
        obtain ⟨x, hq⟩ : ∃ x, xs[k]? = some x := ⟨_, List.getElem?_eq_getElem (by rw [HX.out.1]; exact hkk)⟩
        obtain ⟨hcx, hrb, hsb⟩ := hc k x hq
        have HCB : Hid (∀ W, Below w.heap.size w W → W.cell? ⟨b, o + k, none⟩ = some (.slice x.1 x.2.2.length x.2.1)) := Lib.hid fun W hb => (hb.cell (p := ⟨b, o + k, none⟩) hb0).trans hcx
        have HRB : Hid (∀ W, Below w.heap.size w W → Oct.Rd W x.1 x.2.2.length x.2.2) := Lib.hid fun W hb => rd_oct hrb hb
        have HSB : Hid (Oct.Sl x.1 x.2.2.length x.2.1) := Lib.hid hsb
        have HQ := Lib.hid hq
        clear hc hq hcx hrb hsb
        have cb := HCB.out _ HD.out.1.dat.below
        obtain ⟨m, hm⟩ : ∃ m, m = x.2.2.length := ⟨_, rfl⟩
        have HM := Lib.hid hm
        rw [← hm] at HCB HRB HSB cb
        clear hm
        by_cases hok : m ≤ 1024
        · go_wp2_with fail
          refine (next_calm HD.out.1 1 (.head _) HK.out h0 HD.out.2.1 (by omega) (x := 0) (by omega) HD.out.2.2.1 (by omega) (b := x.2.2) (fun W hb1 _ => HRB.out W hb1) HSB.out hok HM.out.symm k (HD.out.2.2.2.2.seal (by omega)).1 (by omega)).mono ?_
          rintro E w7 ⟨rfl, s7, H7⟩
          have hT := Sh.numTag_length 1 (k + 1) x.2.2
          have HZT := Lib.hid (HLZ.out _ hT)
          generalize Sh.numTag 1 (k + 1) x.2.2 = T at hT HZT ⊢
          have HIT : Hid ((Tryd.prog.info? 36).map (·.size) = some (u8s T).length) := Lib.hid (tag_info hT)
          have HOT : Hid (∀ v ∈ u8s T, v.oneCell' = true) := Lib.hid (u8s_one _)
          have O7 := Lib.hid (H7.out.1.lit (.cells Z.toArray 36 (0, 0)))
          have hL7 : Hid (∀ p ∈ [(u, usOf g 1)], p.1 ≠ w7.heap.size) := Lib.hid fun p hp => by have := H7.out.1.dat.lt (q := p.1) (o := p.2) hp; omega
          have HA7 : Hid ((w7.alloc (.cells Z.toArray 36)).heap[w7.heap.size]? = some (.cells Z.toArray 36 (0, 0))) := Lib.hid (row_new _ _ _)
          have ha := HD.out.2.2.1.slot
          have HS7 : Hid (SlotIs s7 (0 + ((1 - (1 - a) : Nat) : Int) * 10) na bs) := Lib.hid (by
            have := H7.out.2.2.2.2.1
            rwa [show 1 - (1 - a) = a by omega])
          have HNA : Hid (na ≤ 2 + (k + 1)) := Lib.hid (by have := HD.out.2.2.1.top; omega)
          have HA' : Hid (1 - a = (k + 1) % 2) := Lib.hid (by have := HA.out; omega)
          unfold tagV
          clear hT cb ha
          go_wp2_with (first | (refine wpList_store_all rfl 36 (.tmp 12) (.tmp 63) rfl w7.heap.size Z (u8s T) 36 HA7.out HZT.out rfl rfl HIT.out HOT.out ?_; intro w8 G8))
          go_roundw
          case measure => simp [intOf]; omega
          case rel => exact ⟨k + 1, by omega, by go_num, Oct.be 8 (k + 1) ++ x.2.2, 1 - a, _, na, bs, s7, HA', HNA, Lib.hid ⟨(O7.out.write hL7.out G8.out.1 G8.out.2).sub (fun p hp => .tail _ hp), H7.out.2.1, H7.out.2.2.2.1, HS7.out, .inr ⟨k, x, rfl, HQ.out, rfl, by rw [← HM.out]; exact hok⟩⟩⟩
        · go_wp2_with (first | (go_at_call 9; refine (HW.out _ HD.out.1.dat.below).mono ?_; rintro E wz ⟨rfl, hbz⟩))
          all_goals (go_ret; exact ⟨rfl, HD.out.1.dat.below.trans (hbz.mono HD.out.1.dat.below.size)⟩)
      · obtain rfl : k = n := by omega
        clear hkk hkn
        have ha1 := HD.out.2.2.1.slot
        have hA := HA.out
        have hbe := HD.out.1.dat.below
        have HBE := Lib.hid hbe
        obtain ⟨X, hXX⟩ : ∃ X, X = secOf 238 := ⟨_, rfl⟩
        have HXL : Hid (X.length = 128) := Lib.hid (by rw [hXX]; rfl)
        have HXC : Hid (cnt X = 17216961135462248174) := Lib.hid (by rw [hXX]; exact cnt_ee)
        have HXX := Lib.hid hXX
        have HBY : Hid (∀ T s L W, Dat w d T s L W → Calls Tryd.prog 25 #[.int .u8 238] W fun E w' => E = .returned (.agg (u8s X).toArray) ∧ Dat w d T s L w') := Lib.hid fun T s L W h => by
          have := dat_bytes h (238 : UInt8)
          rw [HXX.out]
          exact this.mono fun E w' ⟨h1, h2, _⟩ => ⟨h1, h2⟩
        have HHAD := Lib.hid HD.out.2.2.2.2
        clear hXX hbe
        rcases (show a = 0 ∨ a = 1 by omega) with rfl | rfl
        · as_aux_lemma =>
            have hr1 : ((k : Int)).tmod 2 = 0 := by rw [Int.tmod_eq_emod_of_nonneg (by omega)]; omega
            have hr2 : (k : Int) % 2 = 0 := by omega
            clear hA ha1
            go_wp2_with fail
            refine (HBY.out _ _ _ _ HD.out.1.dat).mono ?_
            rintro E w4 ⟨rfl, D4'⟩
            have D4 := Lib.hid D4'
            clear D4'
            have hw1 := write_beside HD.out.2.1 (y := (10 + (i1 : Int))) (by omega) X
            have HWR := Lib.hid (dat_write D4.out (10 + (i1 : Int)) X HXL.out (by omega))
            rw [hw1.1] at HWR
            have HC1 := Lib.hid hw1.2.1
            have hsl1 : (slotRes (s.write (10 + (i1 : Int)) X).1 (10)).1 = 0 := slot_spoilt HD.out.2.1 (X := 10) (by omega) (by have := HD.out.2.2.2.1; simpa using this) (by have := HNB.out; omega) hi1l (by rw [HXC.out]; have := HNB.out; omega)
            have hsl2 : SlotIs (s.write (10 + (i1 : Int)) X).1 0 na bs := SlotIs.write HD.out.2.1 (by omega) (by omega) (by omega) (by have := HD.out.2.2.1.has; simpa using this) X
            have hna : na < 18446744073709551616 := by have := HD.out.2.2.1.top; omega
            have HOP : Hid (openD (s.write (10 + (i1 : Int)) X).1 0 = (na, bs, ((0 : Nat) : Int))) := Lib.hid (openD_one (b := 0) (by omega) (by rw [show (0 : Int) + ((0 : Nat) : Int) * 10 = 0 by omega]; exact slotRes_is hsl2 hna HD.out.2.2.1.len) HD.out.2.2.1.pos (by rw [show (0 : Int) + ((1 - 0 : Nat) : Int) * 10 = 10 by omega]; exact hsl1))
            have HS1 := Lib.hid hsl1
            have HS2 := Lib.hid hsl2
            have HNA : Hid (na ≤ 2 + k ∧ 1 ≤ na) := Lib.hid ⟨HD.out.2.2.1.top, HD.out.2.2.1.pos⟩
            generalize (s.write (10 + (i1 : Int)) X).1 = s4 at HWR HC1 HOP HS1 HS2
            clear hw1 hsl1 hsl2 hna h1a h1b h1c HD
            go_wp2_with fail
            refine HWR.out.mono ?_
            rintro E w5 ⟨rfl, D5'⟩
            have D5 := Lib.hid D5'
            clear D5' HWR D4
            go_wp2_with fail
            refine (us_new (bs := bs) 1 rfl (HHAD.out.seal (by omega)).2 HK.out h0 (cell_open_one D5.out HC1.out.1 (x := 0) (by omega) HOP.out HNA.out.2)).mono ?_
            rintro E w6 ⟨v, gv, rfl, O6⟩
            clear D5
            go_wp2_with fail
            rcases HHAD.out with ⟨hk0, hbs⟩ | ⟨j, x, hj, hxj, hbs, hxl⟩
            · have HBS := Lib.hid hbs
              have hk0' := hk0
              have HLA := Lib.hid (last_us O6.out 1 (.head _) HK.out h0)
              rw [HBS.out, show sealN [] = 0 from rfl, show lastB [] = [] from rfl, show lastT 1 [] = noTag from rfl, show ([] : List UInt8).length = 0 from rfl, show ((0 : Nat) : Int) = (k : Int) by rw [hk0]] at HLA
              unfold tagV at HLA
              rw [← HZZ.out] at HLA
              have HK0 := Lib.hid hk0
              clear hk0 hk0' hbs
              refine HLA.out.mono ?_
              rintro E w7 ⟨A9, c9, rfl, -, HB7⟩
              clear HLA
              have DA := Lib.hid (((O6.out.next HB7.out).dat.alloc (.cells Z.toArray 36 (0, 0))))
              have HA7 : Hid ((w7.alloc (.cells Z.toArray 36)).heap[w7.heap.size]? = some (.cells Z.toArray 36 (0, 0))) := Lib.hid (row_new _ _ _)
              have hwc : IntKind.u64.wrap (k : Int) = (k : Int) := by rw [IntKind.wrap_u64]; omega
              have hz0 : ¬ (0 < (k : Int)) := by have := HK0.out; omega
              go_wp2_with (first | (refine wpList_store_all rfl 36 (.tmp 19) (.tmp 97) rfl w7.heap.size Z Z 36 HA7.out rfl rfl rfl HIZ.out HOZ.out ?_; intro w8 G8))
              have D8 := Lib.hid ((DA.out.upd (fun p hp => by have := (O6.out.next HB7.out).dat.lt (q := p.1) (o := p.2) hp; omega) G8.out.1 G8.out.2).sub (L' := []) fun p hp => by cases hp)
              clear DA HA7 G8 HB7 O6
              try simp only [Act.put]
              refine wp_region_any (by kernel_rfl) ?_
              change wpAny _ _ _ _ _ _ _ (w8.drewN 1)
              have DQ := Lib.hid (D8.out.next (w' := w8.drewN 1) ⟨rfl, rfl, rfl, Nat.le_refl _, fun _ _ => rfl⟩)
              clear D8
              generalize w8.drewN 1 = w9 at DQ ⊢
              refine wpAny_of_held (S := fun W => Below w9.heap.size w9 W) _ _ _ _ ?_
              refine wpAnyH_take (i := 0) (oi := { dst := some 98, op := Op.move (Operand.tmp 17), type := 35, pos := "more.go:84", after := #[], guard := none }) (v := .int .u64 (k : Int)) rfl (by kernel_rfl) (by kernel_rfl) (by kernel_rfl) (fun _ _ _ h => h) (Or.inl ⟨by kernel_rfl, fun W hSW => by go_simp⟩) (Below.refl _ _) ?_
              try simp only [Act.put, List.setIfInBounds_toArray, List.set_cons_zero, List.set_cons_succ]
              refine wpAnyH_take (i := 1) (oi := { dst := some 99, op := Op.move (Operand.tmp 0), type := 59, pos := "more.go:84", after := #[], guard := none }) (v := .slice A k c) rfl (by kernel_rfl) (by kernel_rfl) (by kernel_rfl) (fun _ _ _ h => h) (Or.inl ⟨by kernel_rfl, fun W hSW => by go_simp⟩) (Below.refl _ _) ?_
              try simp only [Act.put, List.setIfInBounds_toArray, List.set_cons_zero, List.set_cons_succ]
              refine wpAnyH_take (i := 2) (oi := { dst := some 100, op := Op.call { callee := Callee.builtin Builtin.len, args := #[Operand.tmp 99], argTypes := #[59] }, type := 3, pos := "more.go:84", after := #[{ on := 1, ground := Ground.data }], guard := none }) (v := .int .i64 (k : Int)) rfl (by kernel_rfl) (by kernel_rfl) (by kernel_rfl) (fun _ _ _ h => h) (Or.inl ⟨by kernel_rfl, fun W hSW => by go_simp⟩) (Below.refl _ _) ?_
              try simp only [Act.put, List.setIfInBounds_toArray, List.set_cons_zero, List.set_cons_succ]
              refine wpAnyH_take (i := 3) (oi := { dst := some 101, op := Op.convert 3 35 (Operand.tmp 100), type := 35, pos := "more.go:84", after := #[{ on := 2, ground := Ground.data }], guard := none }) (v := .int .u64 (k : Int)) rfl (by kernel_rfl) (by kernel_rfl) (by kernel_rfl) (fun _ _ _ h => h) (Or.inl ⟨by kernel_rfl, fun W hSW => by go_simp⟩) (Below.refl _ _) ?_
              try simp only [Act.put, List.setIfInBounds_toArray, List.set_cons_zero, List.set_cons_succ]
              refine wpAnyH_take (i := 4) (oi := { dst := some 102, op := Op.binOp BinOp.neq 35 (Operand.tmp 98) (Operand.tmp 101) 35, type := 4, pos := "more.go:84", after := #[{ on := 0, ground := Ground.data }, { on := 3, ground := Ground.data }], guard := none }) (v := .bool false) rfl (by kernel_rfl) (by kernel_rfl) (by kernel_rfl) (fun _ _ _ h => h) (Or.inl ⟨by kernel_rfl, fun W hSW => by go_simp⟩) (Below.refl _ _) ?_
              try simp only [Act.put, List.setIfInBounds_toArray, List.set_cons_zero, List.set_cons_succ]
              refine wpAnyH_take (i := 5) (oi := { dst := some 103, op := Op.move (Operand.tmp 102), type := 4, pos := "more.go:84", after := #[{ on := 4, ground := Ground.data }], guard := none }) (v := .bool false) rfl (by kernel_rfl) (by kernel_rfl) (by kernel_rfl) (fun _ _ _ h => h) (Or.inl ⟨by kernel_rfl, fun W hSW => by go_simp⟩) (Below.refl _ _) ?_
              try simp only [Act.put, List.setIfInBounds_toArray, List.set_cons_zero, List.set_cons_succ]
              refine wpAnyH_take (i := 6) (oi := { dst := some 104, op := Op.move (Operand.tmp 17), type := 35, pos := "more.go:84", after := #[{ on := 5, ground := Ground.guard }], guard := some (5, false) }) (v := .int .u64 (k : Int)) rfl (by kernel_rfl) (by kernel_rfl) (by kernel_rfl) (fun _ _ _ h => h) (Or.inl ⟨by kernel_rfl, fun W hSW => by go_simp⟩) (Below.refl _ _) ?_
              try simp only [Act.put, List.setIfInBounds_toArray, List.set_cons_zero, List.set_cons_succ]
              refine wpAnyH_take (i := 7) (oi := { dst := some 105, op := Op.binOp BinOp.gtr 35 (Operand.tmp 104) (Operand.const (Value.int IntKind.u64 0)) 35, type := 4, pos := "more.go:84", after := #[{ on := 6, ground := Ground.data }, { on := 5, ground := Ground.guard }], guard := some (5, false) }) (v := .bool false) rfl (by kernel_rfl) (by kernel_rfl) (by kernel_rfl) (fun _ _ _ h => h) (Or.inl ⟨by kernel_rfl, fun W hSW => by go_simp; try omega⟩) (Below.refl _ _) ?_
              try simp only [Act.put, List.setIfInBounds_toArray, List.set_cons_zero, List.set_cons_succ]
              refine wpAnyH_take (i := 8) (oi := { dst := some 106, op := Op.move (Operand.tmp 105), type := 4, pos := "more.go:84", after := #[{ on := 7, ground := Ground.data }, { on := 5, ground := Ground.chain }, { on := 5, ground := Ground.guard }], guard := some (5, false) }) (v := .bool false) rfl (by kernel_rfl) (by kernel_rfl) (by kernel_rfl) (fun _ _ _ h => h) (Or.inl ⟨by kernel_rfl, fun W hSW => by go_simp⟩) (Below.refl _ _) ?_
              try simp only [Act.put, List.setIfInBounds_toArray, List.set_cons_zero, List.set_cons_succ]
              refine wpAnyH_take (i := 9) (oi := { dst := some 107, op := Op.move (Operand.tmp 18), type := 29, pos := "more.go:84", after := #[{ on := 8, ground := Ground.guard }], guard := some (8, true) }) (v := undef) rfl (by kernel_rfl) (by kernel_rfl) (by kernel_rfl) (fun _ _ _ h => h) (Or.inr ⟨by kernel_rfl, rfl⟩) (Below.refl _ _) ?_
              try simp only [Act.put, List.setIfInBounds_toArray, List.set_cons_zero, List.set_cons_succ]
              refine wpAnyH_take (i := 10) (oi := { dst := some 108, op := Op.convert 29 9 (Operand.tmp 107), type := 9, pos := "more.go:84", after := #[{ on := 9, ground := Ground.data }, { on := 8, ground := Ground.guard }], guard := some (8, true) }) (v := undef) rfl (by kernel_rfl) (by kernel_rfl) (by kernel_rfl) (fun _ _ _ h => h) (Or.inr ⟨by kernel_rfl, rfl⟩) (Below.refl _ _) ?_
              try simp only [Act.put, List.setIfInBounds_toArray, List.set_cons_zero, List.set_cons_succ]
              refine wpAnyH_take (i := 11) (oi := { dst := some 109, op := Op.move (Operand.tmp 0), type := 59, pos := "more.go:84", after := #[{ on := 8, ground := Ground.guard }], guard := some (8, true) }) (v := undef) rfl (by kernel_rfl) (by kernel_rfl) (by kernel_rfl) (fun _ _ _ h => h) (Or.inr ⟨by kernel_rfl, rfl⟩) (Below.refl _ _) ?_
              try simp only [Act.put, List.setIfInBounds_toArray, List.set_cons_zero, List.set_cons_succ]
              refine wpAnyH_take (i := 12) (oi := { dst := some 110, op := Op.move (Operand.tmp 0), type := 59, pos := "more.go:84", after := #[{ on := 8, ground := Ground.guard }], guard := some (8, true) }) (v := undef) rfl (by kernel_rfl) (by kernel_rfl) (by kernel_rfl) (fun _ _ _ h => h) (Or.inr ⟨by kernel_rfl, rfl⟩) (Below.refl _ _) ?_
              try simp only [Act.put, List.setIfInBounds_toArray, List.set_cons_zero, List.set_cons_succ]
              refine wpAnyH_take (i := 13) (oi := { dst := some 111, op := Op.call { callee := Callee.builtin Builtin.len, args := #[Operand.tmp 110], argTypes := #[59] }, type := 3, pos := "more.go:84", after := #[{ on := 12, ground := Ground.data }, { on := 8, ground := Ground.guard }], guard := some (8, true) }) (v := undef) rfl (by kernel_rfl) (by kernel_rfl) (by kernel_rfl) (fun _ _ _ h => h) (Or.inr ⟨by kernel_rfl, rfl⟩) (Below.refl _ _) ?_
              try simp only [Act.put, List.setIfInBounds_toArray, List.set_cons_zero, List.set_cons_succ]
              refine wpAnyH_take (i := 14) (oi := { dst := some 112, op := Op.binOp BinOp.sub 3 (Operand.tmp 111) (Operand.const (Value.int IntKind.i64 1)) 3, type := 3, pos := "more.go:84", after := #[{ on := 13, ground := Ground.data }, { on := 8, ground := Ground.guard }], guard := some (8, true) }) (v := undef) rfl (by kernel_rfl) (by kernel_rfl) (by kernel_rfl) (fun _ _ _ h => h) (Or.inr ⟨by kernel_rfl, rfl⟩) (Below.refl _ _) ?_
              try simp only [Act.put, List.setIfInBounds_toArray, List.set_cons_zero, List.set_cons_succ]
              refine wpAnyH_take (i := 15) (oi := { dst := some 113, op := Op.indexAddr 59 (Operand.tmp 109) (Operand.tmp 112), type := 0, pos := "more.go:84", after := #[{ on := 11, ground := Ground.data }, { on := 14, ground := Ground.data }, { on := 8, ground := Ground.guard }], guard := some (8, true) }) (v := undef) rfl (by kernel_rfl) (by kernel_rfl) (by kernel_rfl) (fun _ _ _ h => h) (Or.inr ⟨by kernel_rfl, rfl⟩) (Below.refl _ _) ?_
              try simp only [Act.put, List.setIfInBounds_toArray, List.set_cons_zero, List.set_cons_succ]
              refine wpAnyH_take (i := 16) (oi := { dst := some 114, op := Op.load 29 (Operand.tmp 113), type := 29, pos := "more.go:84", after := #[{ on := 15, ground := Ground.data }, { on := 8, ground := Ground.guard }], guard := some (8, true) }) (v := undef) rfl (by kernel_rfl) (by kernel_rfl) (by kernel_rfl) (fun _ _ _ h => h) (Or.inr ⟨by kernel_rfl, rfl⟩) (Below.refl _ _) ?_
              try simp only [Act.put, List.setIfInBounds_toArray, List.set_cons_zero, List.set_cons_succ]
              refine wpAnyH_take (i := 17) (oi := { dst := some 115, op := Op.convert 29 9 (Operand.tmp 114), type := 9, pos := "more.go:84", after := #[{ on := 16, ground := Ground.data }, { on := 8, ground := Ground.guard }], guard := some (8, true) }) (v := undef) rfl (by kernel_rfl) (by kernel_rfl) (by kernel_rfl) (fun _ _ _ h => h) (Or.inr ⟨by kernel_rfl, rfl⟩) (Below.refl _ _) ?_
              try simp only [Act.put, List.setIfInBounds_toArray, List.set_cons_zero, List.set_cons_succ]
              refine wpAnyH_take (i := 18) (oi := { dst := some 116, op := Op.binOp BinOp.neq 9 (Operand.tmp 108) (Operand.tmp 115) 9, type := 4, pos := "more.go:84", after := #[{ on := 10, ground := Ground.data }, { on := 17, ground := Ground.data }, { on := 8, ground := Ground.guard }], guard := some (8, true) }) (v := undef) rfl (by kernel_rfl) (by kernel_rfl) (by kernel_rfl) (fun _ _ _ h => h) (Or.inr ⟨by kernel_rfl, rfl⟩) (Below.refl _ _) ?_
              try simp only [Act.put, List.setIfInBounds_toArray, List.set_cons_zero, List.set_cons_succ]
              refine wpAnyH_take (i := 19) (oi := { dst := some 117, op := Op.pick (Operand.tmp 106) (Operand.tmp 116) (Operand.const (Value.bool false)), type := 4, pos := "more.go:84", after := #[{ on := 8, ground := Ground.data }, { on := 18, ground := Ground.data }, { on := 5, ground := Ground.guard }], guard := some (5, false) }) (v := .bool false) rfl (by kernel_rfl) (by kernel_rfl) (by kernel_rfl) (fun _ _ _ h => h) (Or.inl ⟨by kernel_rfl, fun W hSW => by go_simp⟩) (Below.refl _ _) ?_
              try simp only [Act.put, List.setIfInBounds_toArray, List.set_cons_zero, List.set_cons_succ]
              refine wpAnyH_take (i := 20) (oi := { dst := some 118, op := Op.pick (Operand.tmp 103) (Operand.const (Value.bool true)) (Operand.tmp 117), type := 4, pos := "more.go:84", after := #[{ on := 5, ground := Ground.data }, { on := 19, ground := Ground.data }], guard := none }) (v := .bool false) rfl (by kernel_rfl) (by kernel_rfl) (by kernel_rfl) (fun _ _ _ h => h) (Or.inl ⟨by kernel_rfl, fun W hSW => by go_simp⟩) (Below.refl _ _) ?_
              try simp only [Act.put, List.setIfInBounds_toArray, List.set_cons_zero, List.set_cons_succ]
              refine wpAnyH_done (by kernel_rfl) ?_ _
              have DL := DQ
              clear DQ hwc hz0
              have HBY2 := Lib.hid (HBY.out _ _ _ _ DL.out)
              go_wp2_with fail
              refine HBY2.out.mono ?_
              rintro E w11 ⟨rfl, D11'⟩
              have D11 := Lib.hid D11'
              clear D11' HBY HBY2 DL
              have hw2 := write_beside HC1.out (y := (i2 : Int)) (by omega) X
              have HWR := Lib.hid (dat_write D11.out (i2 : Int) X HXL.out (by omega))
              rw [hw2.1] at HWR
              have HC2 := Lib.hid hw2.2.1
              have HL1 : Hid ((slotRes (s4.write (i2 : Int) X).1 (0)).1 = 0) := Lib.hid (by have h := (slot_spoilt HC1.out (X := 0) (by omega) HS2.out (by have := HNA.out; omega) hi2l (by rw [HXC.out]; have := HNA.out; omega)); rw [Int.zero_add] at h; exact h)
              have HL2 : Hid ((slotRes (s4.write (i2 : Int) X).1 (10)).1 = 0) := Lib.hid (by rw [slotRes_write HC1.out (by omega) (by omega) (by omega)]; exact HS1.out)
              generalize (s4.write (i2 : Int) X).1 = s5 at HWR HC2 HL1 HL2
              clear hw2
              go_wp2_with fail
              refine HWR.out.mono ?_
              rintro E w12 ⟨rfl, D12'⟩
              have D12 := Lib.hid D12'
              clear D12' HWR D11
              go_wp2_with fail
              go_loopw [20] (fun v20 wq => ∃ y : Nat, y ≤ 3 ∧ v20 = .int .i64 (y : Int) ∧ Hid (Dat w d (20 + 10 * k + 1 + 1) s5 [] wq)) (fun v20 _ => 3 - (intOf v20).toNat)
              case atStart => exact ⟨0, by omega, rfl, Lib.hid (D12.out.sub fun p hp => by cases hp)⟩
              case round =>
                clear D12
                obtain ⟨y, hy, rfl, DY⟩ := hrel
                by_cases hyy : y < 3
                · go_wp2_with fail
                  refine (us_new_lost 1 rfl HK.out h0 (e := 9) (by decide) (cell_lost DY.out HC2.out.1 (x := 0) (by omega) HL1.out HL2.out)).mono ?_
                  rintro E w13 ⟨rfl, DZ⟩
                  go_wp2_with fail
                  go_roundw
                  case measure => simp [intOf]; omega
                  case rel => exact ⟨y + 1, by omega, by go_num, DZ⟩
                · go_wp2_with fail
                  refine (HW.out _ DY.out.below).mono ?_
                  rintro E wz ⟨rfl, hbz⟩
                  go_wp2_with fail
                  go_ret
                  exact ⟨rfl, DY.out.below.trans (hbz.mono DY.out.below.size)⟩
            · have HBS := Lib.hid hbs
              have HJ := Lib.hid hj
              have HXJ := Lib.hid hxj
              have HXLN := Lib.hid hxl
              have HLA := Lib.hid (last_some k (HBS.out ▸ O6.out) 1 (.head _) HK.out h0 (by omega) (by omega))
              have hT := Sh.numTag_length 1 k x.2.2
              have HZT := Lib.hid (HLZ.out _ hT)
              unfold tagV at HLA
              generalize Sh.numTag 1 k x.2.2 = T at hT HZT HLA
              have HIT : Hid ((Tryd.prog.info? 36).map (·.size) = some (u8s T).length) := Lib.hid (tag_info hT)
              have HOT : Hid (∀ v ∈ u8s T, v.oneCell' = true) := Lib.hid (u8s_one _)
              obtain ⟨b, o, hAb, hb0, hc⟩ := HX.out.2 (by omega)
              subst hAb
              obtain ⟨hcx, hrb, hsb⟩ := hc j x hxj
              have HCB : Hid (∀ W, Below w.heap.size w W → W.cell? ⟨b, o + j, none⟩ = some (.slice x.1 x.2.2.length x.2.1)) := Lib.hid fun W hb => (hb.cell (p := ⟨b, o + j, none⟩) hb0).trans hcx
              have HRB : Hid (∀ W, Below w.heap.size w W → Oct.Rd W x.1 x.2.2.length x.2.2) := Lib.hid fun W hb => rd_oct hrb hb
              clear hj hxj hbs hxl hT hc hcx hrb hsb
              refine HLA.out.mono ?_
              rintro E w7 ⟨A9, c9, LR, rfl, H7, HB7⟩
              clear HLA
              have DA := Lib.hid (H7.out.1.dat.alloc (.cells Z.toArray 36 (0, 0)))
              have hL7 : Hid (∀ p ∈ LR ++ ((v, usOf gv 1) :: [(u, usOf g 1)]), p.1 ≠ w7.heap.size) := Lib.hid fun p hp => by have := H7.out.1.dat.lt (q := p.1) (o := p.2) hp; omega
              have HA7 : Hid ((w7.alloc (.cells Z.toArray 36)).heap[w7.heap.size]? = some (.cells Z.toArray 36 (0, 0))) := Lib.hid (row_new _ _ _)
              have hwc : IntKind.u64.wrap (k : Int) = (k : Int) := by rw [IntKind.wrap_u64]; omega
              have hpos : 0 < (k : Int) := by have := HJ.out; omega
              have hpn : 0 < k := by omega
              have hwj : IntKind.i64.wrap (j : Int) = (j : Int) := by rw [IntKind.wrap_i64]; have := HJ.out; omega
              have hw64 : RowKit.wrap64 ((k : Int) - 1) = (j : Int) := by unfold RowKit.wrap64; have := HJ.out; omega
              have hw65 : IntKind.i64.wrap ((k : Int) - 1) = (j : Int) := by rw [IntKind.wrap_i64]; have := HJ.out; omega
              have hsub : (k : Int) - 1 = (j : Int) := by have := HJ.out; omega
              have hjk : j < k := by have := HJ.out; omega
              have HSR := Lib.hid H7.out.2.1
              go_wp2_with (first | (refine wpList_store_all rfl 36 (.tmp 19) (.tmp 97) rfl w7.heap.size Z (u8s T) 36 HA7.out HZT.out rfl rfl HIT.out HOT.out ?_; intro w8 G8))
              have D8 := Lib.hid ((DA.out.upd hL7.out G8.out.1 G8.out.2).sub (L' := LR) fun p hp => .tail _ (List.mem_append_left _ hp))
              clear DA hL7 HA7 G8 HB7 O6 H7
              try simp only [Act.put]
              refine wp_region_any (by kernel_rfl) ?_
              change wpAny _ _ _ _ _ _ _ (w8.drewN 1)
              have DQ := Lib.hid (D8.out.next (w' := w8.drewN 1) ⟨rfl, rfl, rfl, Nat.le_refl _, fun _ _ => rfl⟩)
              clear D8
              generalize w8.drewN 1 = w9 at DQ ⊢
              have HSX : Hid (∀ W, Below w9.heap.size w9 W → Below w.heap.size w W) := Lib.hid fun W hb => DQ.out.below.trans (hb.mono DQ.out.below.size)
              have HR9 : Hid (∀ W, Below w9.heap.size w9 W → Oct.Rd W A9 x.2.2.length x.2.2) := Lib.hid fun W hb => (HSR.out.rd DQ.out (fun p hp => hp)).below hb
              refine wpAny_of_held (S := fun W => Below w9.heap.size w9 W) _ _ _ _ ?_
              refine wpAnyH_take (i := 0) (oi := { dst := some 98, op := Op.move (Operand.tmp 17), type := 35, pos := "more.go:84", after := #[], guard := none }) (v := .int .u64 (k : Int)) rfl (by kernel_rfl) (by kernel_rfl) (by kernel_rfl) (fun _ _ _ h => h) (Or.inl ⟨by kernel_rfl, fun W hSW => by go_simp⟩) (Below.refl _ _) ?_
              try simp only [Act.put, List.setIfInBounds_toArray, List.set_cons_zero, List.set_cons_succ]
              refine wpAnyH_take (i := 1) (oi := { dst := some 99, op := Op.move (Operand.tmp 0), type := 59, pos := "more.go:84", after := #[], guard := none }) (v := .slice (some ⟨b, o, none⟩) k c) rfl (by kernel_rfl) (by kernel_rfl) (by kernel_rfl) (fun _ _ _ h => h) (Or.inl ⟨by kernel_rfl, fun W hSW => by go_simp⟩) (Below.refl _ _) ?_
              try simp only [Act.put, List.setIfInBounds_toArray, List.set_cons_zero, List.set_cons_succ]
              refine wpAnyH_take (i := 2) (oi := { dst := some 100, op := Op.call { callee := Callee.builtin Builtin.len, args := #[Operand.tmp 99], argTypes := #[59] }, type := 3, pos := "more.go:84", after := #[{ on := 1, ground := Ground.data }], guard := none }) (v := .int .i64 (k : Int)) rfl (by kernel_rfl) (by kernel_rfl) (by kernel_rfl) (fun _ _ _ h => h) (Or.inl ⟨by kernel_rfl, fun W hSW => by go_simp⟩) (Below.refl _ _) ?_
              try simp only [Act.put, List.setIfInBounds_toArray, List.set_cons_zero, List.set_cons_succ]
              refine wpAnyH_take (i := 3) (oi := { dst := some 101, op := Op.convert 3 35 (Operand.tmp 100), type := 35, pos := "more.go:84", after := #[{ on := 2, ground := Ground.data }], guard := none }) (v := .int .u64 (k : Int)) rfl (by kernel_rfl) (by kernel_rfl) (by kernel_rfl) (fun _ _ _ h => h) (Or.inl ⟨by kernel_rfl, fun W hSW => by go_simp⟩) (Below.refl _ _) ?_
              try simp only [Act.put, List.setIfInBounds_toArray, List.set_cons_zero, List.set_cons_succ]
              refine wpAnyH_take (i := 4) (oi := { dst := some 102, op := Op.binOp BinOp.neq 35 (Operand.tmp 98) (Operand.tmp 101) 35, type := 4, pos := "more.go:84", after := #[{ on := 0, ground := Ground.data }, { on := 3, ground := Ground.data }], guard := none }) (v := .bool false) rfl (by kernel_rfl) (by kernel_rfl) (by kernel_rfl) (fun _ _ _ h => h) (Or.inl ⟨by kernel_rfl, fun W hSW => by go_simp⟩) (Below.refl _ _) ?_
              try simp only [Act.put, List.setIfInBounds_toArray, List.set_cons_zero, List.set_cons_succ]
              refine wpAnyH_take (i := 5) (oi := { dst := some 103, op := Op.move (Operand.tmp 102), type := 4, pos := "more.go:84", after := #[{ on := 4, ground := Ground.data }], guard := none }) (v := .bool false) rfl (by kernel_rfl) (by kernel_rfl) (by kernel_rfl) (fun _ _ _ h => h) (Or.inl ⟨by kernel_rfl, fun W hSW => by go_simp⟩) (Below.refl _ _) ?_
              try simp only [Act.put, List.setIfInBounds_toArray, List.set_cons_zero, List.set_cons_succ]
              refine wpAnyH_take (i := 6) (oi := { dst := some 104, op := Op.move (Operand.tmp 17), type := 35, pos := "more.go:84", after := #[{ on := 5, ground := Ground.guard }], guard := some (5, false) }) (v := .int .u64 (k : Int)) rfl (by kernel_rfl) (by kernel_rfl) (by kernel_rfl) (fun _ _ _ h => h) (Or.inl ⟨by kernel_rfl, fun W hSW => by go_simp⟩) (Below.refl _ _) ?_
              try simp only [Act.put, List.setIfInBounds_toArray, List.set_cons_zero, List.set_cons_succ]
              refine wpAnyH_take (i := 7) (oi := { dst := some 105, op := Op.binOp BinOp.gtr 35 (Operand.tmp 104) (Operand.const (Value.int IntKind.u64 0)) 35, type := 4, pos := "more.go:84", after := #[{ on := 6, ground := Ground.data }, { on := 5, ground := Ground.guard }], guard := some (5, false) }) (v := .bool true) rfl (by kernel_rfl) (by kernel_rfl) (by kernel_rfl) (fun _ _ _ h => h) (Or.inl ⟨by kernel_rfl, fun W hSW => by go_simp; try omega⟩) (Below.refl _ _) ?_
              try simp only [Act.put, List.setIfInBounds_toArray, List.set_cons_zero, List.set_cons_succ]
              refine wpAnyH_take (i := 8) (oi := { dst := some 106, op := Op.move (Operand.tmp 105), type := 4, pos := "more.go:84", after := #[{ on := 7, ground := Ground.data }, { on := 5, ground := Ground.chain }, { on := 5, ground := Ground.guard }], guard := some (5, false) }) (v := .bool true) rfl (by kernel_rfl) (by kernel_rfl) (by kernel_rfl) (fun _ _ _ h => h) (Or.inl ⟨by kernel_rfl, fun W hSW => by go_simp⟩) (Below.refl _ _) ?_
              try simp only [Act.put, List.setIfInBounds_toArray, List.set_cons_zero, List.set_cons_succ]
              refine wpAnyH_take (i := 9) (oi := { dst := some 107, op := Op.move (Operand.tmp 18), type := 29, pos := "more.go:84", after := #[{ on := 8, ground := Ground.guard }], guard := some (8, true) }) (v := .slice A9 x.2.2.length c9) rfl (by kernel_rfl) (by kernel_rfl) (by kernel_rfl) (fun _ _ _ h => h) (Or.inl ⟨by kernel_rfl, fun W hSW => by go_simp⟩) (Below.refl _ _) ?_
              try simp only [Act.put, List.setIfInBounds_toArray, List.set_cons_zero, List.set_cons_succ]
              refine wpAnyH_take (i := 10) (oi := { dst := some 108, op := Op.convert 29 9 (Operand.tmp 107), type := 9, pos := "more.go:84", after := #[{ on := 9, ground := Ground.data }, { on := 8, ground := Ground.guard }], guard := some (8, true) }) (v := .string (Oct.str x.2.2)) rfl (by kernel_rfl) (by kernel_rfl) (by kernel_rfl) (fun _ _ _ h => h) (Or.inl ⟨by kernel_rfl, fun W hSW => by have hrun := run_str c9 (HR9.out W hSW); go_simp⟩) (Below.refl _ _) ?_
              try simp only [Act.put, List.setIfInBounds_toArray, List.set_cons_zero, List.set_cons_succ]
              refine wpAnyH_take (i := 11) (oi := { dst := some 109, op := Op.move (Operand.tmp 0), type := 59, pos := "more.go:84", after := #[{ on := 8, ground := Ground.guard }], guard := some (8, true) }) (v := .slice (some ⟨b, o, none⟩) k c) rfl (by kernel_rfl) (by kernel_rfl) (by kernel_rfl) (fun _ _ _ h => h) (Or.inl ⟨by kernel_rfl, fun W hSW => by go_simp⟩) (Below.refl _ _) ?_
              try simp only [Act.put, List.setIfInBounds_toArray, List.set_cons_zero, List.set_cons_succ]
              refine wpAnyH_take (i := 12) (oi := { dst := some 110, op := Op.move (Operand.tmp 0), type := 59, pos := "more.go:84", after := #[{ on := 8, ground := Ground.guard }], guard := some (8, true) }) (v := .slice (some ⟨b, o, none⟩) k c) rfl (by kernel_rfl) (by kernel_rfl) (by kernel_rfl) (fun _ _ _ h => h) (Or.inl ⟨by kernel_rfl, fun W hSW => by go_simp⟩) (Below.refl _ _) ?_
              try simp only [Act.put, List.setIfInBounds_toArray, List.set_cons_zero, List.set_cons_succ]
              refine wpAnyH_take (i := 13) (oi := { dst := some 111, op := Op.call { callee := Callee.builtin Builtin.len, args := #[Operand.tmp 110], argTypes := #[59] }, type := 3, pos := "more.go:84", after := #[{ on := 12, ground := Ground.data }, { on := 8, ground := Ground.guard }], guard := some (8, true) }) (v := .int .i64 (k : Int)) rfl (by kernel_rfl) (by kernel_rfl) (by kernel_rfl) (fun _ _ _ h => h) (Or.inl ⟨by kernel_rfl, fun W hSW => by go_simp⟩) (Below.refl _ _) ?_
              try simp only [Act.put, List.setIfInBounds_toArray, List.set_cons_zero, List.set_cons_succ]
              refine wpAnyH_take (i := 14) (oi := { dst := some 112, op := Op.binOp BinOp.sub 3 (Operand.tmp 111) (Operand.const (Value.int IntKind.i64 1)) 3, type := 3, pos := "more.go:84", after := #[{ on := 13, ground := Ground.data }, { on := 8, ground := Ground.guard }], guard := some (8, true) }) (v := .int .i64 (j : Int)) rfl (by kernel_rfl) (by kernel_rfl) (by kernel_rfl) (fun _ _ _ h => h) (Or.inl ⟨by kernel_rfl, fun W hSW => by go_simp; try omega⟩) (Below.refl _ _) ?_
              try simp only [Act.put, List.setIfInBounds_toArray, List.set_cons_zero, List.set_cons_succ]
              refine wpAnyH_take (i := 15) (oi := { dst := some 113, op := Op.indexAddr 59 (Operand.tmp 109) (Operand.tmp 112), type := 0, pos := "more.go:84", after := #[{ on := 11, ground := Ground.data }, { on := 14, ground := Ground.data }, { on := 8, ground := Ground.guard }], guard := some (8, true) }) (v := .pointer (some ⟨b, o + j, none⟩)) rfl (by kernel_rfl) (by kernel_rfl) (by kernel_rfl) (fun _ _ _ h => h) (Or.inl ⟨by kernel_rfl, fun W hSW => by go_simp⟩) (Below.refl _ _) ?_
              try simp only [Act.put, List.setIfInBounds_toArray, List.set_cons_zero, List.set_cons_succ]
              refine wpAnyH_take (i := 16) (oi := { dst := some 114, op := Op.load 29 (Operand.tmp 113), type := 29, pos := "more.go:84", after := #[{ on := 15, ground := Ground.data }, { on := 8, ground := Ground.guard }], guard := some (8, true) }) (v := .slice x.1 x.2.2.length x.2.1) rfl (by kernel_rfl) (by kernel_rfl) (by kernel_rfl) (fun _ _ _ h => h) (Or.inl ⟨by kernel_rfl, fun W hSW => by have hcv := HCB.out W (HSX.out W hSW); go_simp⟩) (Below.refl _ _) ?_
              try simp only [Act.put, List.setIfInBounds_toArray, List.set_cons_zero, List.set_cons_succ]
              refine wpAnyH_take (i := 17) (oi := { dst := some 115, op := Op.convert 29 9 (Operand.tmp 114), type := 9, pos := "more.go:84", after := #[{ on := 16, ground := Ground.data }, { on := 8, ground := Ground.guard }], guard := some (8, true) }) (v := .string (Oct.str x.2.2)) rfl (by kernel_rfl) (by kernel_rfl) (by kernel_rfl) (fun _ _ _ h => h) (Or.inl ⟨by kernel_rfl, fun W hSW => by have hrun := run_str x.2.1 (HRB.out W (HSX.out W hSW)); go_simp⟩) (Below.refl _ _) ?_
              try simp only [Act.put, List.setIfInBounds_toArray, List.set_cons_zero, List.set_cons_succ]
              refine wpAnyH_take (i := 18) (oi := { dst := some 116, op := Op.binOp BinOp.neq 9 (Operand.tmp 108) (Operand.tmp 115) 9, type := 4, pos := "more.go:84", after := #[{ on := 10, ground := Ground.data }, { on := 17, ground := Ground.data }, { on := 8, ground := Ground.guard }], guard := some (8, true) }) (v := .bool false) rfl (by kernel_rfl) (by kernel_rfl) (by kernel_rfl) (fun _ _ _ h => h) (Or.inl ⟨by kernel_rfl, fun W hSW => by go_simp⟩) (Below.refl _ _) ?_
              try simp only [Act.put, List.setIfInBounds_toArray, List.set_cons_zero, List.set_cons_succ]
              refine wpAnyH_take (i := 19) (oi := { dst := some 117, op := Op.pick (Operand.tmp 106) (Operand.tmp 116) (Operand.const (Value.bool false)), type := 4, pos := "more.go:84", after := #[{ on := 8, ground := Ground.data }, { on := 18, ground := Ground.data }, { on := 5, ground := Ground.guard }], guard := some (5, false) }) (v := .bool false) rfl (by kernel_rfl) (by kernel_rfl) (by kernel_rfl) (fun _ _ _ h => h) (Or.inl ⟨by kernel_rfl, fun W hSW => by go_simp⟩) (Below.refl _ _) ?_
              try simp only [Act.put, List.setIfInBounds_toArray, List.set_cons_zero, List.set_cons_succ]
              refine wpAnyH_take (i := 20) (oi := { dst := some 118, op := Op.pick (Operand.tmp 103) (Operand.const (Value.bool true)) (Operand.tmp 117), type := 4, pos := "more.go:84", after := #[{ on := 5, ground := Ground.data }, { on := 19, ground := Ground.data }], guard := none }) (v := .bool false) rfl (by kernel_rfl) (by kernel_rfl) (by kernel_rfl) (fun _ _ _ h => h) (Or.inl ⟨by kernel_rfl, fun W hSW => by go_simp⟩) (Below.refl _ _) ?_
              try simp only [Act.put, List.setIfInBounds_toArray, List.set_cons_zero, List.set_cons_succ]
              refine wpAnyH_done (by kernel_rfl) ?_ _
              have DL : Hid (Dat w d (20 + 10 * k + 1) s4 [] w9) := Lib.hid (DQ.out.sub fun p hp => by cases hp)
              clear DQ hwc hpos hpn hwj hw64 hw65 hsub hjk HSX HR9 HSR HCB HRB
              have HBY2 := Lib.hid (HBY.out _ _ _ _ DL.out)
              go_wp2_with fail
              refine HBY2.out.mono ?_
              rintro E w11 ⟨rfl, D11'⟩
              have D11 := Lib.hid D11'
              clear D11' HBY HBY2 DL
              have hw2 := write_beside HC1.out (y := (i2 : Int)) (by omega) X
              have HWR := Lib.hid (dat_write D11.out (i2 : Int) X HXL.out (by omega))
              rw [hw2.1] at HWR
              have HC2 := Lib.hid hw2.2.1
              have HL1 : Hid ((slotRes (s4.write (i2 : Int) X).1 (0)).1 = 0) := Lib.hid (by have h := (slot_spoilt HC1.out (X := 0) (by omega) HS2.out (by have := HNA.out; omega) hi2l (by rw [HXC.out]; have := HNA.out; omega)); rw [Int.zero_add] at h; exact h)
              have HL2 : Hid ((slotRes (s4.write (i2 : Int) X).1 (10)).1 = 0) := Lib.hid (by rw [slotRes_write HC1.out (by omega) (by omega) (by omega)]; exact HS1.out)
              generalize (s4.write (i2 : Int) X).1 = s5 at HWR HC2 HL1 HL2
              clear hw2
              go_wp2_with fail
              refine HWR.out.mono ?_
              rintro E w12 ⟨rfl, D12'⟩
              have D12 := Lib.hid D12'
              clear D12' HWR D11
              go_wp2_with fail
              go_loopw [20] (fun v20 wq => ∃ y : Nat, y ≤ 3 ∧ v20 = .int .i64 (y : Int) ∧ Hid (Dat w d (20 + 10 * k + 1 + 1) s5 [] wq)) (fun v20 _ => 3 - (intOf v20).toNat)
              case atStart => exact ⟨0, by omega, rfl, Lib.hid (D12.out.sub fun p hp => by cases hp)⟩
              case round =>
                clear D12
                obtain ⟨y, hy, rfl, DY⟩ := hrel
                by_cases hyy : y < 3
                · go_wp2_with fail
                  refine (us_new_lost 1 rfl HK.out h0 (e := 9) (by decide) (cell_lost DY.out HC2.out.1 (x := 0) (by omega) HL1.out HL2.out)).mono ?_
                  rintro E w13 ⟨rfl, DZ⟩
                  go_wp2_with fail
                  go_roundw
                  case measure => simp [intOf]; omega
                  case rel => exact ⟨y + 1, by omega, by go_num, DZ⟩
                · go_wp2_with fail
                  refine (HW.out _ DY.out.below).mono ?_
                  rintro E wz ⟨rfl, hbz⟩
                  go_wp2_with fail
                  go_ret
                  exact ⟨rfl, DY.out.below.trans (hbz.mono DY.out.below.size)⟩
        · as_aux_lemma =>
            have hr1 : ((k : Int)).tmod 2 = 1 := by rw [Int.tmod_eq_emod_of_nonneg (by omega)]; omega
            have hr2 : (k : Int) % 2 = 1 := by omega
            clear hA ha1
            go_wp2_with fail
            refine (HBY.out _ _ _ _ HD.out.1.dat).mono ?_
            rintro E w4 ⟨rfl, D4'⟩
            have D4 := Lib.hid D4'
            clear D4'
            have hw1 := write_beside HD.out.2.1 (y := (i1 : Int)) (by omega) X
            have HWR := Lib.hid (dat_write D4.out (i1 : Int) X HXL.out (by omega))
            rw [hw1.1] at HWR
            have HC1 := Lib.hid hw1.2.1
            have hsl1 : (slotRes (s.write (i1 : Int) X).1 (0)).1 = 0 := (by have h := slot_spoilt HD.out.2.1 (X := 0) (by omega) (by have := HD.out.2.2.2.1; simpa using this) (by have := HNB.out; omega) hi1l (by rw [HXC.out]; have := HNB.out; omega); rw [Int.zero_add] at h; exact h)
            have hsl2 : SlotIs (s.write (i1 : Int) X).1 10 na bs := SlotIs.write HD.out.2.1 (by omega) (by omega) (by omega) (by have := HD.out.2.2.1.has; simpa using this) X
            have hna : na < 18446744073709551616 := by have := HD.out.2.2.1.top; omega
            have HOP : Hid (openD (s.write (i1 : Int) X).1 0 = (na, bs, ((1 : Nat) : Int))) := Lib.hid (openD_one (b := 1) (by omega) (by rw [show (0 : Int) + ((1 : Nat) : Int) * 10 = 10 by omega]; exact slotRes_is hsl2 hna HD.out.2.2.1.len) HD.out.2.2.1.pos (by rw [show (0 : Int) + ((1 - 1 : Nat) : Int) * 10 = 0 by omega]; exact hsl1))
            have HS1 := Lib.hid hsl1
            have HS2 := Lib.hid hsl2
            have HNA : Hid (na ≤ 2 + k ∧ 1 ≤ na) := Lib.hid ⟨HD.out.2.2.1.top, HD.out.2.2.1.pos⟩
            generalize (s.write (i1 : Int) X).1 = s4 at HWR HC1 HOP HS1 HS2
            clear hw1 hsl1 hsl2 hna h1a h1b h1c HD
            go_wp2_with fail
            refine HWR.out.mono ?_
            rintro E w5 ⟨rfl, D5'⟩
            have D5 := Lib.hid D5'
            clear D5' HWR D4
            go_wp2_with fail
            refine (us_new (bs := bs) 1 rfl (HHAD.out.seal (by omega)).2 HK.out h0 (cell_open_one D5.out HC1.out.1 (x := 0) (by omega) HOP.out HNA.out.2)).mono ?_
            rintro E w6 ⟨v, gv, rfl, O6⟩
            clear D5
            go_wp2_with fail
            rcases HHAD.out with ⟨hk0, hbs⟩ | ⟨j, x, hj, hxj, hbs, hxl⟩
            · have HBS := Lib.hid hbs
              have hk0' := hk0
              have HLA := Lib.hid (last_us O6.out 1 (.head _) HK.out h0)
              rw [HBS.out, show sealN [] = 0 from rfl, show lastB [] = [] from rfl, show lastT 1 [] = noTag from rfl, show ([] : List UInt8).length = 0 from rfl, show ((0 : Nat) : Int) = (k : Int) by rw [hk0]] at HLA
              unfold tagV at HLA
              rw [← HZZ.out] at HLA
              have HK0 := Lib.hid hk0
              clear hk0 hk0' hbs
              refine HLA.out.mono ?_
              rintro E w7 ⟨A9, c9, rfl, -, HB7⟩
              clear HLA
              have DA := Lib.hid (((O6.out.next HB7.out).dat.alloc (.cells Z.toArray 36 (0, 0))))
              have HA7 : Hid ((w7.alloc (.cells Z.toArray 36)).heap[w7.heap.size]? = some (.cells Z.toArray 36 (0, 0))) := Lib.hid (row_new _ _ _)
              have hwc : IntKind.u64.wrap (k : Int) = (k : Int) := by rw [IntKind.wrap_u64]; omega
              have hz0 : ¬ (0 < (k : Int)) := by have := HK0.out; omega
              go_wp2_with (first | (refine wpList_store_all rfl 36 (.tmp 19) (.tmp 97) rfl w7.heap.size Z Z 36 HA7.out rfl rfl rfl HIZ.out HOZ.out ?_; intro w8 G8))
              have D8 := Lib.hid ((DA.out.upd (fun p hp => by have := (O6.out.next HB7.out).dat.lt (q := p.1) (o := p.2) hp; omega) G8.out.1 G8.out.2).sub (L' := []) fun p hp => by cases hp)
              clear DA HA7 G8 HB7 O6
              try simp only [Act.put]
              refine wp_region_any (by kernel_rfl) ?_
              change wpAny _ _ _ _ _ _ _ (w8.drewN 1)
              have DQ := Lib.hid (D8.out.next (w' := w8.drewN 1) ⟨rfl, rfl, rfl, Nat.le_refl _, fun _ _ => rfl⟩)
              clear D8
              generalize w8.drewN 1 = w9 at DQ ⊢
              refine wpAny_of_held (S := fun W => Below w9.heap.size w9 W) _ _ _ _ ?_
              refine wpAnyH_take (i := 0) (oi := { dst := some 98, op := Op.move (Operand.tmp 17), type := 35, pos := "more.go:84", after := #[], guard := none }) (v := .int .u64 (k : Int)) rfl (by kernel_rfl) (by kernel_rfl) (by kernel_rfl) (fun _ _ _ h => h) (Or.inl ⟨by kernel_rfl, fun W hSW => by go_simp⟩) (Below.refl _ _) ?_
              try simp only [Act.put, List.setIfInBounds_toArray, List.set_cons_zero, List.set_cons_succ]
              refine wpAnyH_take (i := 1) (oi := { dst := some 99, op := Op.move (Operand.tmp 0), type := 59, pos := "more.go:84", after := #[], guard := none }) (v := .slice A k c) rfl (by kernel_rfl) (by kernel_rfl) (by kernel_rfl) (fun _ _ _ h => h) (Or.inl ⟨by kernel_rfl, fun W hSW => by go_simp⟩) (Below.refl _ _) ?_
              try simp only [Act.put, List.setIfInBounds_toArray, List.set_cons_zero, List.set_cons_succ]
              refine wpAnyH_take (i := 2) (oi := { dst := some 100, op := Op.call { callee := Callee.builtin Builtin.len, args := #[Operand.tmp 99], argTypes := #[59] }, type := 3, pos := "more.go:84", after := #[{ on := 1, ground := Ground.data }], guard := none }) (v := .int .i64 (k : Int)) rfl (by kernel_rfl) (by kernel_rfl) (by kernel_rfl) (fun _ _ _ h => h) (Or.inl ⟨by kernel_rfl, fun W hSW => by go_simp⟩) (Below.refl _ _) ?_
              try simp only [Act.put, List.setIfInBounds_toArray, List.set_cons_zero, List.set_cons_succ]
              refine wpAnyH_take (i := 3) (oi := { dst := some 101, op := Op.convert 3 35 (Operand.tmp 100), type := 35, pos := "more.go:84", after := #[{ on := 2, ground := Ground.data }], guard := none }) (v := .int .u64 (k : Int)) rfl (by kernel_rfl) (by kernel_rfl) (by kernel_rfl) (fun _ _ _ h => h) (Or.inl ⟨by kernel_rfl, fun W hSW => by go_simp⟩) (Below.refl _ _) ?_
              try simp only [Act.put, List.setIfInBounds_toArray, List.set_cons_zero, List.set_cons_succ]
              refine wpAnyH_take (i := 4) (oi := { dst := some 102, op := Op.binOp BinOp.neq 35 (Operand.tmp 98) (Operand.tmp 101) 35, type := 4, pos := "more.go:84", after := #[{ on := 0, ground := Ground.data }, { on := 3, ground := Ground.data }], guard := none }) (v := .bool false) rfl (by kernel_rfl) (by kernel_rfl) (by kernel_rfl) (fun _ _ _ h => h) (Or.inl ⟨by kernel_rfl, fun W hSW => by go_simp⟩) (Below.refl _ _) ?_
              try simp only [Act.put, List.setIfInBounds_toArray, List.set_cons_zero, List.set_cons_succ]
              refine wpAnyH_take (i := 5) (oi := { dst := some 103, op := Op.move (Operand.tmp 102), type := 4, pos := "more.go:84", after := #[{ on := 4, ground := Ground.data }], guard := none }) (v := .bool false) rfl (by kernel_rfl) (by kernel_rfl) (by kernel_rfl) (fun _ _ _ h => h) (Or.inl ⟨by kernel_rfl, fun W hSW => by go_simp⟩) (Below.refl _ _) ?_
              try simp only [Act.put, List.setIfInBounds_toArray, List.set_cons_zero, List.set_cons_succ]
              refine wpAnyH_take (i := 6) (oi := { dst := some 104, op := Op.move (Operand.tmp 17), type := 35, pos := "more.go:84", after := #[{ on := 5, ground := Ground.guard }], guard := some (5, false) }) (v := .int .u64 (k : Int)) rfl (by kernel_rfl) (by kernel_rfl) (by kernel_rfl) (fun _ _ _ h => h) (Or.inl ⟨by kernel_rfl, fun W hSW => by go_simp⟩) (Below.refl _ _) ?_
              try simp only [Act.put, List.setIfInBounds_toArray, List.set_cons_zero, List.set_cons_succ]
              refine wpAnyH_take (i := 7) (oi := { dst := some 105, op := Op.binOp BinOp.gtr 35 (Operand.tmp 104) (Operand.const (Value.int IntKind.u64 0)) 35, type := 4, pos := "more.go:84", after := #[{ on := 6, ground := Ground.data }, { on := 5, ground := Ground.guard }], guard := some (5, false) }) (v := .bool false) rfl (by kernel_rfl) (by kernel_rfl) (by kernel_rfl) (fun _ _ _ h => h) (Or.inl ⟨by kernel_rfl, fun W hSW => by go_simp; try omega⟩) (Below.refl _ _) ?_
              try simp only [Act.put, List.setIfInBounds_toArray, List.set_cons_zero, List.set_cons_succ]
              refine wpAnyH_take (i := 8) (oi := { dst := some 106, op := Op.move (Operand.tmp 105), type := 4, pos := "more.go:84", after := #[{ on := 7, ground := Ground.data }, { on := 5, ground := Ground.chain }, { on := 5, ground := Ground.guard }], guard := some (5, false) }) (v := .bool false) rfl (by kernel_rfl) (by kernel_rfl) (by kernel_rfl) (fun _ _ _ h => h) (Or.inl ⟨by kernel_rfl, fun W hSW => by go_simp⟩) (Below.refl _ _) ?_
              try simp only [Act.put, List.setIfInBounds_toArray, List.set_cons_zero, List.set_cons_succ]
              refine wpAnyH_take (i := 9) (oi := { dst := some 107, op := Op.move (Operand.tmp 18), type := 29, pos := "more.go:84", after := #[{ on := 8, ground := Ground.guard }], guard := some (8, true) }) (v := undef) rfl (by kernel_rfl) (by kernel_rfl) (by kernel_rfl) (fun _ _ _ h => h) (Or.inr ⟨by kernel_rfl, rfl⟩) (Below.refl _ _) ?_
              try simp only [Act.put, List.setIfInBounds_toArray, List.set_cons_zero, List.set_cons_succ]
              refine wpAnyH_take (i := 10) (oi := { dst := some 108, op := Op.convert 29 9 (Operand.tmp 107), type := 9, pos := "more.go:84", after := #[{ on := 9, ground := Ground.data }, { on := 8, ground := Ground.guard }], guard := some (8, true) }) (v := undef) rfl (by kernel_rfl) (by kernel_rfl) (by kernel_rfl) (fun _ _ _ h => h) (Or.inr ⟨by kernel_rfl, rfl⟩) (Below.refl _ _) ?_
              try simp only [Act.put, List.setIfInBounds_toArray, List.set_cons_zero, List.set_cons_succ]
              refine wpAnyH_take (i := 11) (oi := { dst := some 109, op := Op.move (Operand.tmp 0), type := 59, pos := "more.go:84", after := #[{ on := 8, ground := Ground.guard }], guard := some (8, true) }) (v := undef) rfl (by kernel_rfl) (by kernel_rfl) (by kernel_rfl) (fun _ _ _ h => h) (Or.inr ⟨by kernel_rfl, rfl⟩) (Below.refl _ _) ?_
              try simp only [Act.put, List.setIfInBounds_toArray, List.set_cons_zero, List.set_cons_succ]
              refine wpAnyH_take (i := 12) (oi := { dst := some 110, op := Op.move (Operand.tmp 0), type := 59, pos := "more.go:84", after := #[{ on := 8, ground := Ground.guard }], guard := some (8, true) }) (v := undef) rfl (by kernel_rfl) (by kernel_rfl) (by kernel_rfl) (fun _ _ _ h => h) (Or.inr ⟨by kernel_rfl, rfl⟩) (Below.refl _ _) ?_
              try simp only [Act.put, List.setIfInBounds_toArray, List.set_cons_zero, List.set_cons_succ]
              refine wpAnyH_take (i := 13) (oi := { dst := some 111, op := Op.call { callee := Callee.builtin Builtin.len, args := #[Operand.tmp 110], argTypes := #[59] }, type := 3, pos := "more.go:84", after := #[{ on := 12, ground := Ground.data }, { on := 8, ground := Ground.guard }], guard := some (8, true) }) (v := undef) rfl (by kernel_rfl) (by kernel_rfl) (by kernel_rfl) (fun _ _ _ h => h) (Or.inr ⟨by kernel_rfl, rfl⟩) (Below.refl _ _) ?_
              try simp only [Act.put, List.setIfInBounds_toArray, List.set_cons_zero, List.set_cons_succ]
              refine wpAnyH_take (i := 14) (oi := { dst := some 112, op := Op.binOp BinOp.sub 3 (Operand.tmp 111) (Operand.const (Value.int IntKind.i64 1)) 3, type := 3, pos := "more.go:84", after := #[{ on := 13, ground := Ground.data }, { on := 8, ground := Ground.guard }], guard := some (8, true) }) (v := undef) rfl (by kernel_rfl) (by kernel_rfl) (by kernel_rfl) (fun _ _ _ h => h) (Or.inr ⟨by kernel_rfl, rfl⟩) (Below.refl _ _) ?_
              try simp only [Act.put, List.setIfInBounds_toArray, List.set_cons_zero, List.set_cons_succ]
              refine wpAnyH_take (i := 15) (oi := { dst := some 113, op := Op.indexAddr 59 (Operand.tmp 109) (Operand.tmp 112), type := 0, pos := "more.go:84", after := #[{ on := 11, ground := Ground.data }, { on := 14, ground := Ground.data }, { on := 8, ground := Ground.guard }], guard := some (8, true) }) (v := undef) rfl (by kernel_rfl) (by kernel_rfl) (by kernel_rfl) (fun _ _ _ h => h) (Or.inr ⟨by kernel_rfl, rfl⟩) (Below.refl _ _) ?_
              try simp only [Act.put, List.setIfInBounds_toArray, List.set_cons_zero, List.set_cons_succ]
              refine wpAnyH_take (i := 16) (oi := { dst := some 114, op := Op.load 29 (Operand.tmp 113), type := 29, pos := "more.go:84", after := #[{ on := 15, ground := Ground.data }, { on := 8, ground := Ground.guard }], guard := some (8, true) }) (v := undef) rfl (by kernel_rfl) (by kernel_rfl) (by kernel_rfl) (fun _ _ _ h => h) (Or.inr ⟨by kernel_rfl, rfl⟩) (Below.refl _ _) ?_
              try simp only [Act.put, List.setIfInBounds_toArray, List.set_cons_zero, List.set_cons_succ]
              refine wpAnyH_take (i := 17) (oi := { dst := some 115, op := Op.convert 29 9 (Operand.tmp 114), type := 9, pos := "more.go:84", after := #[{ on := 16, ground := Ground.data }, { on := 8, ground := Ground.guard }], guard := some (8, true) }) (v := undef) rfl (by kernel_rfl) (by kernel_rfl) (by kernel_rfl) (fun _ _ _ h => h) (Or.inr ⟨by kernel_rfl, rfl⟩) (Below.refl _ _) ?_
              try simp only [Act.put, List.setIfInBounds_toArray, List.set_cons_zero, List.set_cons_succ]
              refine wpAnyH_take (i := 18) (oi := { dst := some 116, op := Op.binOp BinOp.neq 9 (Operand.tmp 108) (Operand.tmp 115) 9, type := 4, pos := "more.go:84", after := #[{ on := 10, ground := Ground.data }, { on := 17, ground := Ground.data }, { on := 8, ground := Ground.guard }], guard := some (8, true) }) (v := undef) rfl (by kernel_rfl) (by kernel_rfl) (by kernel_rfl) (fun _ _ _ h => h) (Or.inr ⟨by kernel_rfl, rfl⟩) (Below.refl _ _) ?_
              try simp only [Act.put, List.setIfInBounds_toArray, List.set_cons_zero, List.set_cons_succ]
              refine wpAnyH_take (i := 19) (oi := { dst := some 117, op := Op.pick (Operand.tmp 106) (Operand.tmp 116) (Operand.const (Value.bool false)), type := 4, pos := "more.go:84", after := #[{ on := 8, ground := Ground.data }, { on := 18, ground := Ground.data }, { on := 5, ground := Ground.guard }], guard := some (5, false) }) (v := .bool false) rfl (by kernel_rfl) (by kernel_rfl) (by kernel_rfl) (fun _ _ _ h => h) (Or.inl ⟨by kernel_rfl, fun W hSW => by go_simp⟩) (Below.refl _ _) ?_
              try simp only [Act.put, List.setIfInBounds_toArray, List.set_cons_zero, List.set_cons_succ]
              refine wpAnyH_take (i := 20) (oi := { dst := some 118, op := Op.pick (Operand.tmp 103) (Operand.const (Value.bool true)) (Operand.tmp 117), type := 4, pos := "more.go:84", after := #[{ on := 5, ground := Ground.data }, { on := 19, ground := Ground.data }], guard := none }) (v := .bool false) rfl (by kernel_rfl) (by kernel_rfl) (by kernel_rfl) (fun _ _ _ h => h) (Or.inl ⟨by kernel_rfl, fun W hSW => by go_simp⟩) (Below.refl _ _) ?_
              try simp only [Act.put, List.setIfInBounds_toArray, List.set_cons_zero, List.set_cons_succ]
              refine wpAnyH_done (by kernel_rfl) ?_ _
              have DL := DQ
              clear DQ hwc hz0
              have HBY2 := Lib.hid (HBY.out _ _ _ _ DL.out)
              go_wp2_with fail
              refine HBY2.out.mono ?_
              rintro E w11 ⟨rfl, D11'⟩
              have D11 := Lib.hid D11'
              clear D11' HBY HBY2 DL
              have hw2 := write_beside HC1.out (y := (10 + (i2 : Int))) (by omega) X
              have HWR := Lib.hid (dat_write D11.out (10 + (i2 : Int)) X HXL.out (by omega))
              rw [hw2.1] at HWR
              have HC2 := Lib.hid hw2.2.1
              have HL1 : Hid ((slotRes (s4.write (10 + (i2 : Int)) X).1 (10)).1 = 0) := Lib.hid (slot_spoilt HC1.out (X := 10) (by omega) HS2.out (by have := HNA.out; omega) hi2l (by rw [HXC.out]; have := HNA.out; omega))
              have HL2 : Hid ((slotRes (s4.write (10 + (i2 : Int)) X).1 (0)).1 = 0) := Lib.hid (by rw [slotRes_write HC1.out (by omega) (by omega) (by omega)]; exact HS1.out)
              generalize (s4.write (10 + (i2 : Int)) X).1 = s5 at HWR HC2 HL1 HL2
              clear hw2
              go_wp2_with fail
              refine HWR.out.mono ?_
              rintro E w12 ⟨rfl, D12'⟩
              have D12 := Lib.hid D12'
              clear D12' HWR D11
              go_wp2_with fail
              go_loopw [20] (fun v20 wq => ∃ y : Nat, y ≤ 3 ∧ v20 = .int .i64 (y : Int) ∧ Hid (Dat w d (20 + 10 * k + 1 + 1) s5 [] wq)) (fun v20 _ => 3 - (intOf v20).toNat)
              case atStart => exact ⟨0, by omega, rfl, Lib.hid (D12.out.sub fun p hp => by cases hp)⟩
              case round =>
                clear D12
                obtain ⟨y, hy, rfl, DY⟩ := hrel
                by_cases hyy : y < 3
                · go_wp2_with fail
                  refine (us_new_lost 1 rfl HK.out h0 (e := 9) (by decide) (cell_lost DY.out HC2.out.1 (x := 0) (by omega) HL2.out HL1.out)).mono ?_
                  rintro E w13 ⟨rfl, DZ⟩
                  go_wp2_with fail
                  go_roundw
                  case measure => simp [intOf]; omega
                  case rel => exact ⟨y + 1, by omega, by go_num, DZ⟩
                · go_wp2_with fail
                  refine (HW.out _ DY.out.below).mono ?_
                  rintro E wz ⟨rfl, hbz⟩
                  go_wp2_with fail
                  go_ret
                  exact ⟨rfl, DY.out.below.trans (hbz.mono DY.out.below.size)⟩
            · have HBS := Lib.hid hbs
              have HJ := Lib.hid hj
              have HXJ := Lib.hid hxj
              have HXLN := Lib.hid hxl
              have HLA := Lib.hid (last_some k (HBS.out ▸ O6.out) 1 (.head _) HK.out h0 (by omega) (by omega))
              have hT := Sh.numTag_length 1 k x.2.2
              have HZT := Lib.hid (HLZ.out _ hT)
              unfold tagV at HLA
              generalize Sh.numTag 1 k x.2.2 = T at hT HZT HLA
              have HIT : Hid ((Tryd.prog.info? 36).map (·.size) = some (u8s T).length) := Lib.hid (tag_info hT)
              have HOT : Hid (∀ v ∈ u8s T, v.oneCell' = true) := Lib.hid (u8s_one _)
              obtain ⟨b, o, hAb, hb0, hc⟩ := HX.out.2 (by omega)
              subst hAb
              obtain ⟨hcx, hrb, hsb⟩ := hc j x hxj
              have HCB : Hid (∀ W, Below w.heap.size w W → W.cell? ⟨b, o + j, none⟩ = some (.slice x.1 x.2.2.length x.2.1)) := Lib.hid fun W hb => (hb.cell (p := ⟨b, o + j, none⟩) hb0).trans hcx
              have HRB : Hid (∀ W, Below w.heap.size w W → Oct.Rd W x.1 x.2.2.length x.2.2) := Lib.hid fun W hb => rd_oct hrb hb
              clear hj hxj hbs hxl hT hc hcx hrb hsb
              refine HLA.out.mono ?_
              rintro E w7 ⟨A9, c9, LR, rfl, H7, HB7⟩
              clear HLA
              have DA := Lib.hid (H7.out.1.dat.alloc (.cells Z.toArray 36 (0, 0)))
              have hL7 : Hid (∀ p ∈ LR ++ ((v, usOf gv 1) :: [(u, usOf g 1)]), p.1 ≠ w7.heap.size) := Lib.hid fun p hp => by have := H7.out.1.dat.lt (q := p.1) (o := p.2) hp; omega
              have HA7 : Hid ((w7.alloc (.cells Z.toArray 36)).heap[w7.heap.size]? = some (.cells Z.toArray 36 (0, 0))) := Lib.hid (row_new _ _ _)
              have hwc : IntKind.u64.wrap (k : Int) = (k : Int) := by rw [IntKind.wrap_u64]; omega
              have hpos : 0 < (k : Int) := by have := HJ.out; omega
              have hpn : 0 < k := by omega
              have hwj : IntKind.i64.wrap (j : Int) = (j : Int) := by rw [IntKind.wrap_i64]; have := HJ.out; omega
              have hw64 : RowKit.wrap64 ((k : Int) - 1) = (j : Int) := by unfold RowKit.wrap64; have := HJ.out; omega
              have hw65 : IntKind.i64.wrap ((k : Int) - 1) = (j : Int) := by rw [IntKind.wrap_i64]; have := HJ.out; omega
              have hsub : (k : Int) - 1 = (j : Int) := by have := HJ.out; omega
              have hjk : j < k := by have := HJ.out; omega
              have HSR := Lib.hid H7.out.2.1
              go_wp2_with (first | (refine wpList_store_all rfl 36 (.tmp 19) (.tmp 97) rfl w7.heap.size Z (u8s T) 36 HA7.out HZT.out rfl rfl HIT.out HOT.out ?_; intro w8 G8))
              have D8 := Lib.hid ((DA.out.upd hL7.out G8.out.1 G8.out.2).sub (L' := LR) fun p hp => .tail _ (List.mem_append_left _ hp))
              clear DA hL7 HA7 G8 HB7 O6 H7
              try simp only [Act.put]
              refine wp_region_any (by kernel_rfl) ?_
              change wpAny _ _ _ _ _ _ _ (w8.drewN 1)
              have DQ := Lib.hid (D8.out.next (w' := w8.drewN 1) ⟨rfl, rfl, rfl, Nat.le_refl _, fun _ _ => rfl⟩)
              clear D8
              generalize w8.drewN 1 = w9 at DQ ⊢
              have HSX : Hid (∀ W, Below w9.heap.size w9 W → Below w.heap.size w W) := Lib.hid fun W hb => DQ.out.below.trans (hb.mono DQ.out.below.size)
              have HR9 : Hid (∀ W, Below w9.heap.size w9 W → Oct.Rd W A9 x.2.2.length x.2.2) := Lib.hid fun W hb => (HSR.out.rd DQ.out (fun p hp => hp)).below hb
              refine wpAny_of_held (S := fun W => Below w9.heap.size w9 W) _ _ _ _ ?_
              refine wpAnyH_take (i := 0) (oi := { dst := some 98, op := Op.move (Operand.tmp 17), type := 35, pos := "more.go:84", after := #[], guard := none }) (v := .int .u64 (k : Int)) rfl (by kernel_rfl) (by kernel_rfl) (by kernel_rfl) (fun _ _ _ h => h) (Or.inl ⟨by kernel_rfl, fun W hSW => by go_simp⟩) (Below.refl _ _) ?_
              try simp only [Act.put, List.setIfInBounds_toArray, List.set_cons_zero, List.set_cons_succ]
              refine wpAnyH_take (i := 1) (oi := { dst := some 99, op := Op.move (Operand.tmp 0), type := 59, pos := "more.go:84", after := #[], guard := none }) (v := .slice (some ⟨b, o, none⟩) k c) rfl (by kernel_rfl) (by kernel_rfl) (by kernel_rfl) (fun _ _ _ h => h) (Or.inl ⟨by kernel_rfl, fun W hSW => by go_simp⟩) (Below.refl _ _) ?_
              try simp only [Act.put, List.setIfInBounds_toArray, List.set_cons_zero, List.set_cons_succ]
              refine wpAnyH_take (i := 2) (oi := { dst := some 100, op := Op.call { callee := Callee.builtin Builtin.len, args := #[Operand.tmp 99], argTypes := #[59] }, type := 3, pos := "more.go:84", after := #[{ on := 1, ground := Ground.data }], guard := none }) (v := .int .i64 (k : Int)) rfl (by kernel_rfl) (by kernel_rfl) (by kernel_rfl) (fun _ _ _ h => h) (Or.inl ⟨by kernel_rfl, fun W hSW => by go_simp⟩) (Below.refl _ _) ?_
              try simp only [Act.put, List.setIfInBounds_toArray, List.set_cons_zero, List.set_cons_succ]
              refine wpAnyH_take (i := 3) (oi := { dst := some 101, op := Op.convert 3 35 (Operand.tmp 100), type := 35, pos := "more.go:84", after := #[{ on := 2, ground := Ground.data }], guard := none }) (v := .int .u64 (k : Int)) rfl (by kernel_rfl) (by kernel_rfl) (by kernel_rfl) (fun _ _ _ h => h) (Or.inl ⟨by kernel_rfl, fun W hSW => by go_simp⟩) (Below.refl _ _) ?_
              try simp only [Act.put, List.setIfInBounds_toArray, List.set_cons_zero, List.set_cons_succ]
              refine wpAnyH_take (i := 4) (oi := { dst := some 102, op := Op.binOp BinOp.neq 35 (Operand.tmp 98) (Operand.tmp 101) 35, type := 4, pos := "more.go:84", after := #[{ on := 0, ground := Ground.data }, { on := 3, ground := Ground.data }], guard := none }) (v := .bool false) rfl (by kernel_rfl) (by kernel_rfl) (by kernel_rfl) (fun _ _ _ h => h) (Or.inl ⟨by kernel_rfl, fun W hSW => by go_simp⟩) (Below.refl _ _) ?_
              try simp only [Act.put, List.setIfInBounds_toArray, List.set_cons_zero, List.set_cons_succ]
              refine wpAnyH_take (i := 5) (oi := { dst := some 103, op := Op.move (Operand.tmp 102), type := 4, pos := "more.go:84", after := #[{ on := 4, ground := Ground.data }], guard := none }) (v := .bool false) rfl (by kernel_rfl) (by kernel_rfl) (by kernel_rfl) (fun _ _ _ h => h) (Or.inl ⟨by kernel_rfl, fun W hSW => by go_simp⟩) (Below.refl _ _) ?_
              try simp only [Act.put, List.setIfInBounds_toArray, List.set_cons_zero, List.set_cons_succ]
              refine wpAnyH_take (i := 6) (oi := { dst := some 104, op := Op.move (Operand.tmp 17), type := 35, pos := "more.go:84", after := #[{ on := 5, ground := Ground.guard }], guard := some (5, false) }) (v := .int .u64 (k : Int)) rfl (by kernel_rfl) (by kernel_rfl) (by kernel_rfl) (fun _ _ _ h => h) (Or.inl ⟨by kernel_rfl, fun W hSW => by go_simp⟩) (Below.refl _ _) ?_
              try simp only [Act.put, List.setIfInBounds_toArray, List.set_cons_zero, List.set_cons_succ]
              refine wpAnyH_take (i := 7) (oi := { dst := some 105, op := Op.binOp BinOp.gtr 35 (Operand.tmp 104) (Operand.const (Value.int IntKind.u64 0)) 35, type := 4, pos := "more.go:84", after := #[{ on := 6, ground := Ground.data }, { on := 5, ground := Ground.guard }], guard := some (5, false) }) (v := .bool true) rfl (by kernel_rfl) (by kernel_rfl) (by kernel_rfl) (fun _ _ _ h => h) (Or.inl ⟨by kernel_rfl, fun W hSW => by go_simp; try omega⟩) (Below.refl _ _) ?_
              try simp only [Act.put, List.setIfInBounds_toArray, List.set_cons_zero, List.set_cons_succ]
              refine wpAnyH_take (i := 8) (oi := { dst := some 106, op := Op.move (Operand.tmp 105), type := 4, pos := "more.go:84", after := #[{ on := 7, ground := Ground.data }, { on := 5, ground := Ground.chain }, { on := 5, ground := Ground.guard }], guard := some (5, false) }) (v := .bool true) rfl (by kernel_rfl) (by kernel_rfl) (by kernel_rfl) (fun _ _ _ h => h) (Or.inl ⟨by kernel_rfl, fun W hSW => by go_simp⟩) (Below.refl _ _) ?_
              try simp only [Act.put, List.setIfInBounds_toArray, List.set_cons_zero, List.set_cons_succ]
              refine wpAnyH_take (i := 9) (oi := { dst := some 107, op := Op.move (Operand.tmp 18), type := 29, pos := "more.go:84", after := #[{ on := 8, ground := Ground.guard }], guard := some (8, true) }) (v := .slice A9 x.2.2.length c9) rfl (by kernel_rfl) (by kernel_rfl) (by kernel_rfl) (fun _ _ _ h => h) (Or.inl ⟨by kernel_rfl, fun W hSW => by go_simp⟩) (Below.refl _ _) ?_
              try simp only [Act.put, List.setIfInBounds_toArray, List.set_cons_zero, List.set_cons_succ]
              refine wpAnyH_take (i := 10) (oi := { dst := some 108, op := Op.convert 29 9 (Operand.tmp 107), type := 9, pos := "more.go:84", after := #[{ on := 9, ground := Ground.data }, { on := 8, ground := Ground.guard }], guard := some (8, true) }) (v := .string (Oct.str x.2.2)) rfl (by kernel_rfl) (by kernel_rfl) (by kernel_rfl) (fun _ _ _ h => h) (Or.inl ⟨by kernel_rfl, fun W hSW => by have hrun := run_str c9 (HR9.out W hSW); go_simp⟩) (Below.refl _ _) ?_
              try simp only [Act.put, List.setIfInBounds_toArray, List.set_cons_zero, List.set_cons_succ]
              refine wpAnyH_take (i := 11) (oi := { dst := some 109, op := Op.move (Operand.tmp 0), type := 59, pos := "more.go:84", after := #[{ on := 8, ground := Ground.guard }], guard := some (8, true) }) (v := .slice (some ⟨b, o, none⟩) k c) rfl (by kernel_rfl) (by kernel_rfl) (by kernel_rfl) (fun _ _ _ h => h) (Or.inl ⟨by kernel_rfl, fun W hSW => by go_simp⟩) (Below.refl _ _) ?_
              try simp only [Act.put, List.setIfInBounds_toArray, List.set_cons_zero, List.set_cons_succ]
              refine wpAnyH_take (i := 12) (oi := { dst := some 110, op := Op.move (Operand.tmp 0), type := 59, pos := "more.go:84", after := #[{ on := 8, ground := Ground.guard }], guard := some (8, true) }) (v := .slice (some ⟨b, o, none⟩) k c) rfl (by kernel_rfl) (by kernel_rfl) (by kernel_rfl) (fun _ _ _ h => h) (Or.inl ⟨by kernel_rfl, fun W hSW => by go_simp⟩) (Below.refl _ _) ?_
              try simp only [Act.put, List.setIfInBounds_toArray, List.set_cons_zero, List.set_cons_succ]
              refine wpAnyH_take (i := 13) (oi := { dst := some 111, op := Op.call { callee := Callee.builtin Builtin.len, args := #[Operand.tmp 110], argTypes := #[59] }, type := 3, pos := "more.go:84", after := #[{ on := 12, ground := Ground.data }, { on := 8, ground := Ground.guard }], guard := some (8, true) }) (v := .int .i64 (k : Int)) rfl (by kernel_rfl) (by kernel_rfl) (by kernel_rfl) (fun _ _ _ h => h) (Or.inl ⟨by kernel_rfl, fun W hSW => by go_simp⟩) (Below.refl _ _) ?_
              try simp only [Act.put, List.setIfInBounds_toArray, List.set_cons_zero, List.set_cons_succ]
              refine wpAnyH_take (i := 14) (oi := { dst := some 112, op := Op.binOp BinOp.sub 3 (Operand.tmp 111) (Operand.const (Value.int IntKind.i64 1)) 3, type := 3, pos := "more.go:84", after := #[{ on := 13, ground := Ground.data }, { on := 8, ground := Ground.guard }], guard := some (8, true) }) (v := .int .i64 (j : Int)) rfl (by kernel_rfl) (by kernel_rfl) (by kernel_rfl) (fun _ _ _ h => h) (Or.inl ⟨by kernel_rfl, fun W hSW => by go_simp; try omega⟩) (Below.refl _ _) ?_
              try simp only [Act.put, List.setIfInBounds_toArray, List.set_cons_zero, List.set_cons_succ]
              refine wpAnyH_take (i := 15) (oi := { dst := some 113, op := Op.indexAddr 59 (Operand.tmp 109) (Operand.tmp 112), type := 0, pos := "more.go:84", after := #[{ on := 11, ground := Ground.data }, { on := 14, ground := Ground.data }, { on := 8, ground := Ground.guard }], guard := some (8, true) }) (v := .pointer (some ⟨b, o + j, none⟩)) rfl (by kernel_rfl) (by kernel_rfl) (by kernel_rfl) (fun _ _ _ h => h) (Or.inl ⟨by kernel_rfl, fun W hSW => by go_simp⟩) (Below.refl _ _) ?_
              try simp only [Act.put, List.setIfInBounds_toArray, List.set_cons_zero, List.set_cons_succ]
              refine wpAnyH_take (i := 16) (oi := { dst := some 114, op := Op.load 29 (Operand.tmp 113), type := 29, pos := "more.go:84", after := #[{ on := 15, ground := Ground.data }, { on := 8, ground := Ground.guard }], guard := some (8, true) }) (v := .slice x.1 x.2.2.length x.2.1) rfl (by kernel_rfl) (by kernel_rfl) (by kernel_rfl) (fun _ _ _ h => h) (Or.inl ⟨by kernel_rfl, fun W hSW => by have hcv := HCB.out W (HSX.out W hSW); go_simp⟩) (Below.refl _ _) ?_
              try simp only [Act.put, List.setIfInBounds_toArray, List.set_cons_zero, List.set_cons_succ]
              refine wpAnyH_take (i := 17) (oi := { dst := some 115, op := Op.convert 29 9 (Operand.tmp 114), type := 9, pos := "more.go:84", after := #[{ on := 16, ground := Ground.data }, { on := 8, ground := Ground.guard }], guard := some (8, true) }) (v := .string (Oct.str x.2.2)) rfl (by kernel_rfl) (by kernel_rfl) (by kernel_rfl) (fun _ _ _ h => h) (Or.inl ⟨by kernel_rfl, fun W hSW => by have hrun := run_str x.2.1 (HRB.out W (HSX.out W hSW)); go_simp⟩) (Below.refl _ _) ?_
              try simp only [Act.put, List.setIfInBounds_toArray, List.set_cons_zero, List.set_cons_succ]
              refine wpAnyH_take (i := 18) (oi := { dst := some 116, op := Op.binOp BinOp.neq 9 (Operand.tmp 108) (Operand.tmp 115) 9, type := 4, pos := "more.go:84", after := #[{ on := 10, ground := Ground.data }, { on := 17, ground := Ground.data }, { on := 8, ground := Ground.guard }], guard := some (8, true) }) (v := .bool false) rfl (by kernel_rfl) (by kernel_rfl) (by kernel_rfl) (fun _ _ _ h => h) (Or.inl ⟨by kernel_rfl, fun W hSW => by go_simp⟩) (Below.refl _ _) ?_
              try simp only [Act.put, List.setIfInBounds_toArray, List.set_cons_zero, List.set_cons_succ]
              refine wpAnyH_take (i := 19) (oi := { dst := some 117, op := Op.pick (Operand.tmp 106) (Operand.tmp 116) (Operand.const (Value.bool false)), type := 4, pos := "more.go:84", after := #[{ on := 8, ground := Ground.data }, { on := 18, ground := Ground.data }, { on := 5, ground := Ground.guard }], guard := some (5, false) }) (v := .bool false) rfl (by kernel_rfl) (by kernel_rfl) (by kernel_rfl) (fun _ _ _ h => h) (Or.inl ⟨by kernel_rfl, fun W hSW => by go_simp⟩) (Below.refl _ _) ?_
              try simp only [Act.put, List.setIfInBounds_toArray, List.set_cons_zero, List.set_cons_succ]
              refine wpAnyH_take (i := 20) (oi := { dst := some 118, op := Op.pick (Operand.tmp 103) (Operand.const (Value.bool true)) (Operand.tmp 117), type := 4, pos := "more.go:84", after := #[{ on := 5, ground := Ground.data }, { on := 19, ground := Ground.data }], guard := none }) (v := .bool false) rfl (by kernel_rfl) (by kernel_rfl) (by kernel_rfl) (fun _ _ _ h => h) (Or.inl ⟨by kernel_rfl, fun W hSW => by go_simp⟩) (Below.refl _ _) ?_
              try simp only [Act.put, List.setIfInBounds_toArray, List.set_cons_zero, List.set_cons_succ]
              refine wpAnyH_done (by kernel_rfl) ?_ _
              have DL : Hid (Dat w d (20 + 10 * k + 1) s4 [] w9) := Lib.hid (DQ.out.sub fun p hp => by cases hp)
              clear DQ hwc hpos hpn hwj hw64 hw65 hsub hjk HSX HR9 HSR HCB HRB
              have HBY2 := Lib.hid (HBY.out _ _ _ _ DL.out)
              go_wp2_with fail
              refine HBY2.out.mono ?_
              rintro E w11 ⟨rfl, D11'⟩
              have D11 := Lib.hid D11'
              clear D11' HBY HBY2 DL
              have hw2 := write_beside HC1.out (y := (10 + (i2 : Int))) (by omega) X
              have HWR := Lib.hid (dat_write D11.out (10 + (i2 : Int)) X HXL.out (by omega))
              rw [hw2.1] at HWR
              have HC2 := Lib.hid hw2.2.1
              have HL1 : Hid ((slotRes (s4.write (10 + (i2 : Int)) X).1 (10)).1 = 0) := Lib.hid (slot_spoilt HC1.out (X := 10) (by omega) HS2.out (by have := HNA.out; omega) hi2l (by rw [HXC.out]; have := HNA.out; omega))
              have HL2 : Hid ((slotRes (s4.write (10 + (i2 : Int)) X).1 (0)).1 = 0) := Lib.hid (by rw [slotRes_write HC1.out (by omega) (by omega) (by omega)]; exact HS1.out)
              generalize (s4.write (10 + (i2 : Int)) X).1 = s5 at HWR HC2 HL1 HL2
              clear hw2
              go_wp2_with fail
              refine HWR.out.mono ?_
              rintro E w12 ⟨rfl, D12'⟩
              have D12 := Lib.hid D12'
              clear D12' HWR D11
              go_wp2_with fail
              go_loopw [20] (fun v20 wq => ∃ y : Nat, y ≤ 3 ∧ v20 = .int .i64 (y : Int) ∧ Hid (Dat w d (20 + 10 * k + 1 + 1) s5 [] wq)) (fun v20 _ => 3 - (intOf v20).toNat)
              case atStart => exact ⟨0, by omega, rfl, Lib.hid (D12.out.sub fun p hp => by cases hp)⟩
              case round =>
                clear D12
                obtain ⟨y, hy, rfl, DY⟩ := hrel
                by_cases hyy : y < 3
                · go_wp2_with fail
                  refine (us_new_lost 1 rfl HK.out h0 (e := 9) (by decide) (cell_lost DY.out HC2.out.1 (x := 0) (by omega) HL2.out HL1.out)).mono ?_
                  rintro E w13 ⟨rfl, DZ⟩
                  go_wp2_with fail
                  go_roundw
                  case measure => simp [intOf]; omega
                  case rel => exact ⟨y + 1, by omega, by go_num, DZ⟩
                · go_wp2_with fail
                  refine (HW.out _ DY.out.below).mono ?_
                  rintro E wz ⟨rfl, hbz⟩
                  go_wp2_with fail
                  go_ret
                  exact ⟨rfl, DY.out.below.trans (hbz.mono DY.out.below.size)⟩
  · go_enter Tryd.func8, Tryd.ntmps8
    go_wp2_with (first | (go_at_call 9; refine (HW.out _ HR0.out).mono ?_; rintro E wz ⟨rfl, hb⟩))
    go_ret
    exact ⟨rfl, hb⟩
end Go.Proofs.YtepjfkmbmcfnoaaDoor
