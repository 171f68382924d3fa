/-
  What is proved: the chapter's example (works). Conditions as stated.
-/
import Derived.Test.YtepjfkmbmcfnoaaDoorGh
namespace Go.Proofs.YtepjfkmbmcfnoaaDoor
open Go.RowKit
set_option maxRecDepth 100000

/-- The chapter's example holds. -/
def Works : Prop := ∀ w, Sh.KIs w → 0 < w.heap.size → Calls Tryd.prog 9 #[] w fun E w' => E = .returned (.bool true) ∧ Below w.heap.size w w'

theorem rd_ab {w : World} {q : Nat} (h : w.heap[q]? = some (.cells #[.int .u8 97, .int .u8 98] 5 (2, 3))) : Oct.Rd w (some ⟨q, 0, none⟩) 2 [97, 98] :=
  ⟨rfl, fun _ => ⟨q, 0, rfl, (Array.getElem?_eq_some_iff.1 h).1, fun j u hu => by
    rw [cell_of_row _ q (0 + j) #[.int .u8 97, .int .u8 98] 5 (2, 3) h]
    match j, hu with
    | 0, hu => simp at hu; subst hu; rfl
    | 1, hu => simp at hu; subst hu; rfl⟩⟩
theorem sl_ab (q : Nat) : Oct.Sl (some ⟨q, 0, none⟩) 2 2 := ⟨(fun h => by cases h), Nat.le_refl _, by omega⟩

set_option maxHeartbeats 8000000 in
theorem works_any : Works := by
  intro w hk h0
  obtain ⟨Z, hZ⟩ : ∃ Z, Z = u8s noTag := ⟨_, rfl⟩
  have hz : ∀ w, (zeroValue 36).run Tryd.prog w = .ok (.agg Z.toArray) w := by rw [hZ]; exact zero_tag
  have HIZ : Hid ((Tryd.prog.info? 36).map (·.size) = some Z.length) := Lib.hid (by rw [hZ]; exact tag_info rfl)
  have HOZ : Hid (∀ v ∈ Z, v.oneCell' = true) := Lib.hid (by rw [hZ]; exact u8s_one _)
  have HZZ := Lib.hid hZ
  obtain ⟨T1, hT1⟩ : ∃ T, T = Sh.numTag 1 1 [97, 98] := ⟨_, rfl⟩
  have hTL : T1.length = 32 := by rw [hT1]; exact Sh.numTag_length _ _ _
  have HLT : Hid (T1.length = 32) := Lib.hid hTL
  have HC1 : Hid (chk 1 1 [97, 98] T1 = true) := Lib.hid (by rw [hT1]; simp [chk, isRep, mayN])
  have HC2 : Hid (chk 2 1 [97, 98] T1 = false) := Lib.hid (by rw [hT1, chk, decide_eq_false (fun h => tags_differ h.symm), Bool.and_false])
  have HT1 := Lib.hid hT1
  have HIT : Hid ((Tryd.prog.info? 36).map (·.size) = some (u8s T1).length) := Lib.hid (tag_info hTL)
  have HOT : Hid (∀ v ∈ u8s T1, v.oneCell' = true) := Lib.hid (u8s_one _)
  have HLZ : Hid (Z.length = (u8s T1).length) := Lib.hid (by rw [hZ, u8s_length, u8s_length, hTL]; rfl)
  have heq := eq_tags T1 T1 hTL hTL
  rw [decide_eq_true rfl] at heq
  have hcv := fun (w : World) (C : Array Value) (n c : Nat) => Lib.run_convert_bytes_const (P := Tryd.prog) w 29 5 C n c Tryd.underlying29 Tryd.underlying5
  have HK := Lib.hid hk
  clear hk hZ hT1 hTL
  go_enter Tryd.func9, Tryd.ntmps9
  go_wp2_with fail
  refine (dat_new (Below.refl _ w)).mono ?_
  rintro E w1 ⟨d, rfl, h1, -⟩
  have D1 := Lib.hid h1
  clear h1
  go_wp2_with fail
  refine (us_format D1.out new_calm (by omega) (x := 0) (by omega)).mono ?_
  rintro E w2 ⟨rfl, s2, H2⟩
  clear D1
  go_wp2_with fail
  refine (us_new (bs := []) 1 rfl rfl HK.out h0 (cell_open H2.out.1 H2.out.2.1.1 (x := 0) (by omega) H2.out.2.2.2.1)).mono ?_
  rintro E w3 ⟨u, g, rfl, O3⟩
  go_wp2_with fail
  refine (last_none O3.out 1 (.head _) HK.out h0).mono ?_
  rintro E w4 ⟨A4, c4, rfl, HB4⟩
  have O4 := Lib.hid ((O3.out.next HB4.out).lit (.cells Z.toArray 36 (0, 0)))
  have hL4 : Hid (∀ p ∈ [(u, usOf g 1)], p.1 ≠ w4.heap.size) := Lib.hid fun p hp => by have := (O3.out.next HB4.out).dat.lt (q := p.1) (o := p.2) hp; omega
  have HA4 : Hid ((w4.alloc (.cells Z.toArray 36)).heap[w4.heap.size]? = some (.cells Z.toArray 36 (0, 0))) := Lib.hid (row_new _ _ _)
  clear HB4 O3
  unfold tagV
  rw [← HZZ.out]
  go_wp2_with (first | (refine wpList_store_all rfl 36 (.tmp 7) (.tmp 42) rfl w4.heap.size Z Z 36 HA4.out rfl rfl rfl HIZ.out HOZ.out ?_; intro w5 G5))
  have O5 : Hid (OpAt w d (0 + 20) s2 0 ((w5.heap.size, .cells #[.int .u8 97, .int .u8 98] 5 (2, 3)) :: [(u, usOf g 1)]) g [] ((0 : Nat) : Int) (w5.alloc (.cells #[.int .u8 97, .int .u8 98] 5 (2, 3)))) := Lib.hid (((O4.out.write hL4.out G5.out.1 G5.out.2).sub fun p hp => .tail _ hp).lit _)
  clear O4 hL4 HA4 G5
  refine (next_calm O5.out 1 (.tail _ (.head _)) HK.out h0 H2.out.2.1 (by omega) (x := 0) (by omega) H2.out.2.2.2.1 (by omega) (fun W hb1 hb2 => rd_ab (hb2 _ (.head _))) (sl_ab _) (by omega) rfl 0 rfl (by omega)).mono ?_
  rintro E w6 ⟨rfl, s6, H6⟩
  clear H2 O5
  simp only [Nat.zero_add] at H6
  rw [Nat.zero_add, ← HT1.out]
  have O6 := Lib.hid (H6.out.1.lit (.cells Z.toArray 36 (0, 0)))
  have hL6 : Hid (∀ p ∈ [(w5.heap.size, Obj.cells #[.int .u8 97, .int .u8 98] 5 (2, 3)), (u, usOf g 1)], p.1 ≠ w6.heap.size) := Lib.hid fun p hp => by have := H6.out.1.dat.lt (q := p.1) (o := p.2) hp; omega
  have HA6 : Hid ((w6.alloc (.cells Z.toArray 36)).heap[w6.heap.size]? = some (.cells Z.toArray 36 (0, 0))) := Lib.hid (row_new _ _ _)
  unfold tagV
  go_wp2_with (first | (refine wpList_store_all rfl 36 (.tmp 9) (.tmp 49) rfl w6.heap.size Z (u8s T1) 36 HA6.out HLZ.out rfl rfl HIT.out HOT.out ?_; intro w7 G7))
  have O7 := Lib.hid (O6.out.write hL6.out G7.out.1 G7.out.2)
  clear O6 hL6 HA6 G7
  have HB6 : Hid (Calm s6 ∧ CellIs s6 0 (1 - 0) (topGo s2 0 20 + 1) (Oct.be 8 1 ++ [97, 98]) (2 + 1)) := Lib.hid ⟨H6.out.2.1, H6.out.2.2.2.1⟩
  clear H6
  generalize topGo s2 0 20 + 1 = n6 at HB6
  refine (us_new (bs := Oct.be 8 1 ++ [97, 98]) 1 rfl (sound_be 1 [97, 98] (by omega) (by omega) (by decide)) HK.out h0 (cell_open O7.out.dat HB6.out.1.1 (x := 0) (by omega) HB6.out.2)).mono ?_
  rintro E w8 ⟨v, gv, rfl, O8⟩
  clear O7
  go_wp2_with fail
  refine (last_some 1 O8.out 1 (.head _) HK.out h0 (by omega) (by omega)).mono ?_
  rintro E w9 ⟨A9, c9, LR, rfl, H9, HB9⟩
  rw [← HT1.out]
  have O9 := Lib.hid (H9.out.1.lit (.cells Z.toArray 36 (0, 0)))
  have hL9 : Hid (∀ p ∈ LR ++ ((v, usOf gv 1) :: (w6.heap.size, Obj.cells (u8s T1).toArray 36 (0, 0)) :: (w5.heap.size, Obj.cells #[.int .u8 97, .int .u8 98] 5 (2, 3)) :: [(u, usOf g 1)]), p.1 ≠ w9.heap.size) := Lib.hid fun p hp => by have := H9.out.1.dat.lt (q := p.1) (o := p.2) hp; omega
  have HA9 : Hid ((w9.alloc (.cells Z.toArray 36)).heap[w9.heap.size]? = some (.cells Z.toArray 36 (0, 0))) := Lib.hid (row_new _ _ _)
  have HS9 : Hid (Src w LR A9 2 [97, 98]) := Lib.hid H9.out.2.1
  clear H9 HB9
  unfold tagV
  go_wp2_with (first | (refine wpList_store_all rfl 36 (.tmp 15) (.tmp 67) rfl w9.heap.size Z (u8s T1) 36 HA9.out HLZ.out rfl rfl HIT.out HOT.out ?_; intro w10 G10))
  have O10 := Lib.hid (O9.out.write hL9.out G10.out.1 G10.out.2)
  clear O9 hL9 HA9 G10 O8
  refine (next_calm O10.out 1 (.tail _ (List.mem_append_right _ (.head _))) HK.out h0 HB6.out.1 (by omega) (x := 0) (by omega) HB6.out.2 (by omega) (src_nil _ _) sl_nil (by omega) rfl 1 (seal_be 1 _ (by omega)).1 (by omega)).mono ?_
  rintro E w11 ⟨rfl, s11, H11⟩
  obtain ⟨T2, hT2⟩ : ∃ T, T = Sh.numTag 1 (1 + 1) [] := ⟨_, rfl⟩
  have hTL2 : T2.length = 32 := by rw [hT2]; exact Sh.numTag_length _ _ _
  rw [← hT2]
  have HIT2 : Hid ((Tryd.prog.info? 36).map (·.size) = some (u8s T2).length) := Lib.hid (tag_info hTL2)
  have HOT2 : Hid (∀ v ∈ u8s T2, v.oneCell' = true) := Lib.hid (u8s_one _)
  have HLZ2 : Hid (Z.length = (u8s T2).length) := Lib.hid (by rw [HLZ.out, u8s_length, u8s_length, hTL2, HLT.out])
  clear hT2 hTL2
  have O11 := Lib.hid (H11.out.1.lit (.cells Z.toArray 36 (0, 0)))
  have HA11 : Hid ((w11.alloc (.cells Z.toArray 36)).heap[w11.heap.size]? = some (.cells Z.toArray 36 (0, 0))) := Lib.hid (row_new _ _ _)
  have D11 : Hid (Dat w d (0 + 20 + 10 + 10) s11 ((w9.heap.size, Obj.cells (u8s T1).toArray 36 (0, 0)) :: (LR ++ ((v, usOf gv 1) :: (w6.heap.size, Obj.cells (u8s T1).toArray 36 (0, 0)) :: (w5.heap.size, Obj.cells #[.int .u8 97, .int .u8 98] 5 (2, 3)) :: [(u, usOf g 1)]))) w11) := Lib.hid H11.out.1.dat
  have D12 := Lib.hid (D11.out.alloc (.cells Z.toArray 36 (0, 0)))
  have hL12 : Hid (∀ p ∈ ((w9.heap.size, Obj.cells (u8s T1).toArray 36 (0, 0)) :: (LR ++ ((v, usOf gv 1) :: (w6.heap.size, Obj.cells (u8s T1).toArray 36 (0, 0)) :: (w5.heap.size, Obj.cells #[.int .u8 97, .int .u8 98] 5 (2, 3)) :: [(u, usOf g 1)]))), p.1 ≠ w11.heap.size) := Lib.hid fun p hp => by have := D11.out.lt (q := p.1) (o := p.2) hp; omega
  clear H11 O11 O10 D11
  rw [show (((1 + 1 : Nat) : Int)) = 2 from rfl]
  unfold tagV
  have HST : Hid (∀ W : World, Dat w d (0 + 20 + 10 + 10) s11 ((w11.heap.size, Obj.cells (u8s T2).toArray 36 (0, 0)) :: (w9.heap.size, Obj.cells (u8s T1).toArray 36 (0, 0)) :: (LR ++ ((v, usOf gv 1) :: (w6.heap.size, Obj.cells (u8s T1).toArray 36 (0, 0)) :: (w5.heap.size, Obj.cells #[.int .u8 97, .int .u8 98] 5 (2, 3)) :: [(u, usOf g 1)]))) W →
      (convert 29 9 (.slice A9 2 c9)).run Tryd.prog W = .ok (.string ⟨#[97, 98]⟩) W ∧ Hid (W.rangeAt w9.heap.size 0 (u8s T1)) ∧ Hid (∀ W', Below W.heap.size W W' → W'.rangeAt w6.heap.size 0 (u8s T1))) := Lib.hid fun W hD => by
    refine ⟨?_, Lib.hid ?_, Lib.hid fun W' hb => ?_⟩
    · have := run_str c9 (HS9.out.rd hD (fun q hq => .tail _ (.tail _ (List.mem_append_left _ hq))))
      rwa [show Oct.str [97, 98] = ⟨#[97, 98]⟩ from rfl] at this
    · exact range_block (hD.get (q := w9.heap.size) (o := .cells (u8s T1).toArray 36 (0, 0)) (.tail _ (.head _))) 0 _ (fun j v hv => by rw [Nat.zero_add]; exact hv)
    · exact range_block ((hD.next hb).get (q := w6.heap.size) (o := .cells (u8s T1).toArray 36 (0, 0)) (.tail _ (.tail _ (List.mem_append_right _ (.tail _ (.head _)))))) 0 _ (fun j v hv => by rw [Nat.zero_add]; exact hv)
  go_wp2_with (first
    | (refine wpList_store_all rfl 36 (.tmp 17) (.tmp 72) rfl w11.heap.size Z (u8s T2) 36 HA11.out HLZ2.out rfl rfl HIT2.out HOT2.out ?_; intro w12 G12; have D13 := Lib.hid (D12.out.upd hL12.out G12.out.1 G12.out.2); obtain ⟨hrun, HR15, HR9⟩ := HST.out _ D13.out)
    | ((with_reducible refine wpList_load_midG ?_ 36 (.tmp 15) ?_ w9.heap.size 0 ?_ (u8s T1) _ ?_ Tryd.underlying36 ?_ ?_ ?_); (· rfl); (· rfl); (· rfl); (· exact HR15.out); (· rfl); (· exact HIT.out))
    | ((with_reducible refine wpList_load_midG ?_ 36 (.tmp 9) ?_ w6.heap.size 0 ?_ (u8s T1) _ ?_ Tryd.underlying36 ?_ ?_ ?_); (· rfl); (· rfl); (· rfl); (· first | exact HR9.out _ (Below.refl _ _) | exact HR9.out _ ((Below.refl _ _).alloc (Nat.le_refl _) _)); (· rfl); (· exact HIT.out)))
  have HB12 : Hid (Below w.heap.size w w12) := Lib.hid D13.out.below
  have HB13 : Hid (Below w12.heap.size w12 (w12.alloc (.cells #[.int .u8 97, .int .u8 98] 5 (2, 3)))) := Lib.hid ((Below.refl _ _).alloc (Nat.le_refl _) _)
  have HCK := fun (W : World) (hb : Below w.heap.size w W) (k : Int) (q : Nat) (hq : W.heap[q]? = some (.cells #[.int .u8 97, .int .u8 98] 5 (2, 3))) => check_us k 1 (t := T1) (rd_ab hq) (sl_ab q) (by decide) HLT.out (HK.out.below hb h0) (Nat.lt_of_lt_of_le h0 hb.size)
  have HK1 := Lib.hid (HCK _ (HB12.out.trans (HB13.out.mono HB12.out.size)) 1 _ (heap_alloc_new w12 _))
  rw [HC1.out] at HK1
  refine HK1.out.mono ?_
  rintro E w14 ⟨rfl, HB14⟩
  have HB15 : Hid (Below w12.heap.size w12 w14) := Lib.hid (HB13.out.trans (HB14.out.mono HB13.out.size))
  clear HK1 hrun
  go_wp2_with (first
    | ((with_reducible refine wpList_load_midG ?_ 36 (.tmp 9) ?_ w6.heap.size 0 ?_ (u8s T1) _ ?_ Tryd.underlying36 ?_ ?_ ?_); (· rfl); (· rfl); (· rfl); (· exact HR9.out _ (HB15.out.alloc HB15.out.size _)); (· rfl); (· exact HIT.out)))
  have HB16 : Hid (Below w.heap.size w (w14.alloc (.cells #[.int .u8 97, .int .u8 98] 5 (2, 3)))) := Lib.hid ((HB12.out.trans (HB15.out.mono HB12.out.size)).alloc (Nat.le_trans HB12.out.size HB15.out.size) _)
  have HK2 := Lib.hid (HCK _ HB16.out 2 _ (heap_alloc_new w14 _))
  rw [HC2.out] at HK2
  refine HK2.out.mono ?_
  rintro E w17 ⟨rfl, HB17⟩
  go_wp2_with fail
  go_ret
  exact ⟨rfl, HB16.out.trans (HB17.out.mono HB16.out.size)⟩
end Go.Proofs.YtepjfkmbmcfnoaaDoor
