/-
  What is proved: the walk of UsigEnds for whatever comes in. Conditions as stated.
-/
import Derived.Test.YtepjfkmbmcfnoaaDoorGi
namespace Go.Proofs.YtepjfkmbmcfnoaaDoor
open Go.RowKit
set_option maxRecDepth 100000

theorem row_src {w : World} {A : Option Addr} {n : Nat} {bs : List UInt8} (h : Rd (fun _ => True) w A n bs) (L : List (Nat × Obj)) : Src w L A n bs := fun _ hb _ => rd_oct h hb

set_option maxHeartbeats 8000000 in
theorem usigEnds_walk (w : World) (hK : Sh.KIs w) (h0 : 0 < w.heap.size) (back : Int) (hbk : (Lit.int .u8 back).wf = true) (A : Option Addr) (n c : Nat) (h : ∃ bs, Rd (fun _ => True) w A n bs ∧ Sl A n c) :
    Calls Tryd.prog 5 #[.int .u8 back, .slice A n c] w fun E w' => E = .returned (.bool true) ∧ Below w.heap.size w w' := by
  have HW : Hid (∀ W', Below w.heap.size w W' → Calls Tryd.prog 9 #[] W' fun E w' => E = .returned (.bool true) ∧ Below W'.heap.size W' w') := Lib.hid fun W' hb => works_any W' (hK.below hb h0) (Nat.lt_of_lt_of_le h0 hb.size)
  have HR : Hid (Below w.heap.size w w) := Lib.hid (Below.refl _ _)
  have HK := Lib.hid hK
  obtain ⟨bs, hr, hs⟩ := h
  have hbl := hr.1
  have HSR := Lib.hid (fun L => row_src hr L)
  have HSL : Hid (Oct.Sl A n c) := Lib.hid hs
  have hsc := hs.2
  have hb8 := bounds_u8 hbk
  clear hK hr hs hbk
  by_cases hn : 1024 < n
  · go_enter Tryd.func5, Tryd.ntmps5
    go_wp2_with (first | (go_at_call 9; refine (HW.out _ HR.out).mono ?_; rintro E wz ⟨rfl, hbz⟩))
    go_ret
    exact ⟨rfl, hbz⟩
  · obtain ⟨Z, hZ⟩ : ∃ Z, Z = u8s noTag := ⟨_, rfl⟩
    have hz : ∀ w, (zeroValue 36).run Tryd.prog w = .ok (.agg Z.toArray) w := by rw [hZ]; exact zero_tag
    have HIZ : Hid ((Tryd.prog.info? 36).map (·.size) = some Z.length) := Lib.hid (by rw [hZ]; exact tag_info rfl)
    have HOZ : Hid (∀ v ∈ Z, v.oneCell' = true) := Lib.hid (by rw [hZ]; exact u8s_one _)
    have HZZ := Lib.hid hZ
    have HTG : Hid (∀ k : Nat, (Sh.numTag 1 k bs).length = 32) := Lib.hid fun k => Sh.numTag_length _ _ _
    have HLZ : Hid (∀ T : List UInt8, T.length = 32 → Z.length = (u8s T).length) := Lib.hid fun T hT => by rw [hZ, u8s_length, u8s_length, hT]; rfl
    clear hZ
    obtain ⟨x4, hx4⟩ : ∃ x4 : Nat, x4 = back.toNat % 4 := ⟨_, rfl⟩
    have hx : x4 < 4 := by omega
    have hm1 : back.tmod 4 = (x4 : Int) := by rw [Int.tmod_eq_emod_of_nonneg (by omega)]; omega
    have hm2 : back % 4 = (x4 : Int) := by omega
    have hm3 : IntKind.u8.wrap (x4 : Int) = (x4 : Int) := by rw [IntKind.wrap_u8]; omega
    have hm4 : IntKind.u64.wrap (x4 : Int) = (x4 : Int) := by rw [IntKind.wrap_u64]; omega
    obtain ⟨n0, hn0⟩ : ∃ n0 : Nat, n0 = 65536 - x4 := ⟨_, rfl⟩
    have hm5 : IntKind.u64.wrap (65536 - (x4 : Int)) = (n0 : Int) := by rw [IntKind.wrap_u64]; omega
    have HN0 : Hid (65533 ≤ n0 ∧ n0 ≤ 65536) := Lib.hid (by omega)
    clear hn0 hx4
    have HWD := Lib.hid (fun W => Oct.word_any none 0 0 [] n0 W ⟨rfl, fun h => absurd h (by omega)⟩ (by omega))
    go_enter Tryd.func5, Tryd.ntmps5
    go_wp2_with fail
    refine (dat_new (Below.refl _ w)).mono ?_
    rintro E w1 ⟨d, rfl, h1, -⟩
    have D1 := Lib.hid h1
    clear h1
    go_wp2_with fail
    refine (us_format D1.out new_calm (by omega) (x := 0) (by omega)).mono ?_
    rintro E w2 ⟨rfl, s2, H2⟩
    clear D1
    go_wp2_with fail
    refine (cell_open H2.out.1 H2.out.2.1.1 (x := 0) (by omega) H2.out.2.2.2.1).mono ?_
    rintro E w3 ⟨g, rfl, O3⟩
    go_wp2_with fail
    refine (HWD.out w3).mono ?_
    rintro E w4 ⟨g4, c4, rfl, ho4, hb4⟩
    rw [List.nil_append, Nat.zero_add] at ho4
    obtain ⟨LR, O4, S4⟩ := O3.out.own hb4 ho4 (Nat.le_refl _)
    have hsl4 := Oct.own_shape ho4
    have H4 : Hid (OpAt w d (0 + 20) s2 0 (LR ++ []) g [] ((0 : Nat) : Int) w4 ∧ Src w (LR ++ []) (some ⟨g4, 0, none⟩) 8 (Oct.be 8 n0)) := Lib.hid ⟨O4, fun W h1 h2 => S4 W h1 (fun q hq => h2 q (List.mem_append_left _ hq))⟩
    have HS4 : Hid (Oct.Sl (some ⟨g4, 0, none⟩) 8 c4) := Lib.hid (by
      obtain ⟨A', c', e, h⟩ := hsl4
      injection e with e1 e2 e3
      subst e1 e3
      exact h)
    clear O4 S4 ho4 hb4 hsl4 O3 HWD
    rw [Nat.zero_add]
    go_wp2_with fail
    refine (cell_put H4.out.1 H2.out.2.1 (by omega) (x := 0) (by omega) H2.out.2.2.2.1 (by omega) H4.out.2 HS4.out (by omega) (Oct.be_length 8 n0)).mono ?_
    rintro E w5 ⟨rfl, s5, H5⟩
    clear H4 HS4 H2
    have D5 : Hid (Dat w d (30 + 10 * 0) s5 [] w5 ∧ Calm s5 ∧ CellIs s5 0 (1 - 0) (topGo s2 0 20 + 1) (Oct.be 8 n0 ++ []) (3 + 0)) := Lib.hid ⟨H5.out.1.dat.sub (fun p hp => by cases hp), H5.out.2.1, by rw [List.append_nil]; exact H5.out.2.2.2.1⟩
    clear H5
    generalize topGo s2 0 20 + 1 = na at D5
    go_wp2_with fail
    refine (us_new (bs := Oct.be 8 n0 ++ []) 1 rfl (sound_be n0 [] (by have := HN0.out; omega) (by have := HN0.out; omega) (by decide)) HK.out h0 (cell_open D5.out.1 D5.out.2.1.1 (x := 0) (by omega) D5.out.2.2)).mono ?_
    rintro E w6 ⟨u, gu, rfl, O6⟩
    go_wp2_with fail
    go_loopw [8] (fun v8 wr => ∃ k at' : Nat, v8 = .int .u64 (at' : Int) ∧ at' = n0 + k ∧ at' ≤ 65536 ∧ ∃ bb a na s, Hid (OpAt w d (30 + 10 * k) s 0 [(u, usOf gu 1)] gu (Oct.be 8 at' ++ bb) ((a : Nat) : Int) wr ∧ Calm s ∧ CellIs s 0 a na (Oct.be 8 at' ++ bb) (3 + k))) (fun v8 _ => 65536 - (intOf v8).toNat)
    case atStart => exact ⟨0, n0, rfl, rfl, by have := HN0.out; omega, [], 1 - 0, na, s5, Lib.hid ⟨O6.out, D5.out.2.1, D5.out.2.2⟩⟩
    case round =>
      clear D5 O6 hm1 hm2 hm3 hm4 hm5
      obtain ⟨k, at', rfl, hat, hle, bb, a, na, s, HD⟩ := hrel
      have HAT := Lib.hid hat
      have hk4 : k < 4 := by have := HN0.out; omega
      clear hat
      by_cases hlt : at' < 65536
      · have hlti : (at' : Int) < 65536 := by omega
        have HLT := Lib.hid hlt
        clear hlt hle
        go_wp2_with fail
        have hlt := HLT.out
        refine (next_calm HD.out.1 1 (.head _) HK.out h0 HD.out.2.1 (by omega) (x := 0) (by omega) HD.out.2.2 (by omega) (HSR.out _) HSL.out (by omega) hbl at' (seal_be at' bb (by omega)).1 hlt).mono ?_
        rintro E w7 ⟨rfl, s7, H7⟩
        have hT := HTG.out (at' + 1)
        have hZT := HLZ.out _ hT
        generalize Sh.numTag 1 (at' + 1) bs = T at hT hZT ⊢
        have HIT : Hid ((Tryd.prog.info? 36).map (·.size) = some (u8s T).length) := Lib.hid (tag_info hT)
        have HOT : Hid (∀ v ∈ u8s T, v.oneCell' = true) := Lib.hid (u8s_one _)
        have HZT := Lib.hid hZT
        have O7 := Lib.hid (H7.out.1.lit (.cells Z.toArray 36 (0, 0)))
        have hL7 : Hid (∀ p ∈ [(u, usOf gu 1)], p.1 ≠ w7.heap.size) := Lib.hid fun p hp => by have := H7.out.1.dat.lt (q := p.1) (o := p.2) hp; omega
        have HA7 : Hid ((w7.alloc (.cells Z.toArray 36)).heap[w7.heap.size]? = some (.cells Z.toArray 36 (0, 0))) := Lib.hid (row_new _ _ _)
        have hwr : IntKind.u64.wrap ((at' : Int) + 1) = ((at' + 1 : Nat) : Int) := by rw [IntKind.wrap_u64]; omega
        unfold tagV
        clear hT hZT hlt
        go_wp2_with (first | (refine wpList_store_all rfl 36 (.tmp 12) (.tmp 66) rfl w7.heap.size Z (u8s T) 36 HA7.out HZT.out rfl rfl HIT.out HOT.out ?_; intro w8 G8))
        go_roundw
        case measure => simp [intOf]; omega
        case rel => exact ⟨k + 1, at' + 1, rfl, by have := HAT.out; omega, by have := HLT.out; omega, bs, 1 - a, _, s7, Lib.hid ⟨(O7.out.write hL7.out G8.out.1 G8.out.2).sub (fun p hp => .tail _ hp), H7.out.2.1, H7.out.2.2.2.1⟩⟩
      · have hati : (at' : Int) = 65536 := by omega
        have HE : Hid (at' = 65536) := Lib.hid (by omega)
        have HN := Lib.hid (next_refused HD.out.1 1 (.head _) A n c (e := 10) (by rw [refE, if_neg hn, (seal_be at' bb (by omega)).1, if_pos HE.out]) (by omega))
        have HLS := Lib.hid (fun W hb => last_some at' (HD.out.1.next (w3 := W) hb) 1 (.head _) HK.out h0 (by omega) (by omega))
        clear hlt hle
        rw [hati] at HLS ⊢
        go_wp2_with fail
        refine HN.out.mono ?_
        rintro E w7 ⟨rfl, HB7⟩
        have HA7 : Hid ((w7.alloc (.cells Z.toArray 36)).heap[w7.heap.size]? = some (.cells Z.toArray 36 (0, 0))) := Lib.hid (row_new _ _ _)
        unfold tagV
        rw [← HZZ.out]
        clear hati
        go_wp2_with (first | (refine wpList_store_all rfl 36 (.tmp 15) (.tmp 82) rfl w7.heap.size Z Z 36 HA7.out rfl rfl rfl HIZ.out HOZ.out ?_; intro w8 G8))
        have HB8 : Hid (Below wr.heap.size wr w8) := Lib.hid (below_gb (HB7.out.alloc HB7.out.size _) G8.out.2 HB7.out.size (by have := HB7.out.size; simp; omega))
        refine (HLS.out w8 HB8.out).mono ?_
        rintro E w9 ⟨A9, c9, LR, rfl, H9, HB9⟩
        have hT := HTG.out at'
        have hTb := Sh.numTag_length 1 at' bb
        have hZT := HLZ.out _ hTb
        generalize Sh.numTag 1 at' bb = T at hTb hZT ⊢
        have HIT : Hid ((Tryd.prog.info? 36).map (·.size) = some (u8s T).length) := Lib.hid (tag_info hTb)
        have HOT : Hid (∀ v ∈ u8s T, v.oneCell' = true) := Lib.hid (u8s_one _)
        have HZT := Lib.hid hZT
        have HA9 : Hid ((w9.alloc (.cells Z.toArray 36)).heap[w9.heap.size]? = some (.cells Z.toArray 36 (0, 0))) := Lib.hid (row_new _ _ _)
        have HB9' : Hid (Below w.heap.size w w9) := Lib.hid H9.out.1.dat.below
        unfold tagV
        clear hT hTb hZT H9 HLS
        go_wp2_with (first | (refine wpList_store_all rfl 36 (.tmp 19) (.tmp 89) rfl w9.heap.size Z (u8s T) 36 HA9.out HZT.out rfl rfl HIT.out HOT.out ?_; intro w10 G10))
        have HB10 : Hid (Below w.heap.size w w10) := Lib.hid (below_gb (HB9'.out.alloc HB9'.out.size _) G10.out.2 HB9'.out.size (by have := HB9'.out.size; simp; omega))
        refine (HW.out _ HB10.out).mono ?_
        rintro E w11 ⟨rfl, hb11⟩
        go_wp2_with fail
        go_ret
        exact ⟨rfl, HB10.out.trans (hb11.mono HB10.out.size)⟩
end Go.Proofs.YtepjfkmbmcfnoaaDoor
