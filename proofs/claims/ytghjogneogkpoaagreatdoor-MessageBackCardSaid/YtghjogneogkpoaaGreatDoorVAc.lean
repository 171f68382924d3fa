/-
  What is proved: what is read of bytes that begin no message; whether what was read is whole. Conditions as stated.
  What is proved: what Get reads of bytes. Conditions as stated.
  What is proved: the example of the law: a Commit, its bytes, and what is read of them. Conditions as stated.
  What is proved: the example of the law (works). Conditions as stated.
-/
import Derived.Test.YtghjogneogkpoaaGreatDoorV7c
import Derived.Test.YtghjogneogkpoaaGreatDoorV9c
import Derived.Test.YtghjogneogkpoaaGreatDoorV6c
import Derived.Test.YtghjogneogkpoaaGreatDoorS9c
namespace Go.Proofs.YtghjogneogkpoaaGreatDoor.Sh
open Go.RowKit
set_option maxRecDepth 100000

set_option maxHeartbeats 8000000 in
theorem cutTagged_x {w : World} {lo g : Nat} {s : Cst} (o k : Nat) (l : List Nat) (s1 s2 s3 : Cst) (h : CtS w lo g s) (e1 : cByte s = (o, s1)) (e2 : cDeps 11 s1 = (l, s2)) (e3 : cByte s2 = (k, s3)) (hk : Instr.findNow (.int .u8) (.int .u8 (k : Int)) rdE.toList 0 = some none) :
    Calls Tryz.prog 45 #[.pointer (some ⟨g, 0, none⟩)] w fun E w' => E = .returned (.agg (msgC ({ depM (o : Int) l with body := { zeroBody with kind := UInt8.ofNat k } })).toArray) ∧ CtS w' lo g (s3) ∧ Hid (w.grownBy w' (some g)) := by
  have HG := Lib.hid h.lt
  have hk256 : k < 256 := by have := cByte_lt s2; rw [e3] at this; exact this
  have ho256 : o < 256 := by have := cByte_lt s; rw [e1] at this; exact this
  have hcv : IntKind.i64.wrap (o : Int) = (o : Int) := by rw [IntKind.wrap_i64]; omega
  have hcv2 : RowKit.wrap64 (o : Int) = (o : Int) := by unfold RowKit.wrap64; omega
  have hl11 : l.length = 11 := by have := cDeps_len 11 s1; rw [e2] at this; exact this
  have HKT : Hid (((UInt8.ofNat k).toNat : Int) = (k : Int)) := Lib.hid (by simp; omega)
  have HKF := Lib.hid hk
  have HE := Lib.hid e2
  have HLL := Lib.hid hl11
  have HDL := Lib.hid (fun j => cDeps_len j s1)
  have hzm : ∀ w, (zeroValue 34).run Tryz.prog w = .ok (.agg (msgC zeroMsg).toArray) w := zero_msg
  have HZ0 : Hid ((w.alloc (.cells (msgC zeroMsg).toArray 34)).heap[w.heap.size]? = some (.cells (msgC zeroMsg).toArray 34 (0, 0))) := Lib.hid (heap_alloc_new w _)
  have HC0 := Lib.hid (h.below ((Below.refl _ _).alloc (Nat.le_refl _) (.cells (msgC zeroMsg).toArray 34)))
  have HB1 : Hid (Calls Tryz.prog 75 #[.pointer (some ⟨g, 0, none⟩)] (w.alloc (.cells (msgC zeroMsg).toArray 34)) fun E w' => E = .returned (.int .u8 (o : Int)) ∧ CtS w' lo g s1 ∧ Hid ((w.alloc (.cells (msgC zeroMsg).toArray 34)).grownBy w' (some g))) := Lib.hid (by have := byte_s HC0.out; rw [e1] at this; exact this)
  have HB2 : Hid (∀ W, CtS W lo g s2 → Calls Tryz.prog 75 #[.pointer (some ⟨g, 0, none⟩)] W fun E w' => E = .returned (.int .u8 (k : Int)) ∧ CtS w' lo g s3 ∧ Hid (W.grownBy w' (some g))) := Lib.hid (fun W hW => by have := byte_s hW; rw [e3] at this; exact this)
  have HL0 : Hid (0 + (msgC (depM (o : Int) [])).length ≤ (msgC zeroMsg).length ∧ setAll (msgC zeroMsg) 0 (msgC (depM (o : Int) [])) = msgC (depM (o : Int) []) ∧ (Tryz.prog.info? 34).map (·.size) = some (msgC (depM (o : Int) [])).length) := Lib.hid (by
    have h1 : (msgC zeroMsg).length = 121 := msgC_length ⟨rfl, zero_wf, rfl⟩
    have h2 : (msgC (depM (o : Int) [])).length = 121 := msgC_length (depM_wf (by simp))
    exact ⟨by omega, setAll_all (by rw [h1, h2]), by rw [h2]; exact Tryz.is34⟩)
  have HLM : Hid (0 + (msgC ({ depM (o : Int) l with body := { zeroBody with kind := UInt8.ofNat k } })).length ≤ (msgC zeroMsg).length ∧ setAll (msgC zeroMsg) 0 (msgC ({ depM (o : Int) l with body := { zeroBody with kind := UInt8.ofNat k } })) = msgC ({ depM (o : Int) l with body := { zeroBody with kind := UInt8.ofNat k } }) ∧ (Tryz.prog.info? 34).map (·.size) = some (msgC ({ depM (o : Int) l with body := { zeroBody with kind := UInt8.ofNat k } })).length) := Lib.hid (by
    have h1 : (msgC zeroMsg).length = 121 := msgC_length ⟨rfl, zero_wf, rfl⟩
    have h2 : (msgC ({ depM (o : Int) l with body := { zeroBody with kind := UInt8.ofNat k } })).length = 121 := msgC_length ⟨(depM_wf (o := (o : Int)) (by omega)).1, ⟨rfl, rfl⟩, rfl⟩
    exact ⟨by omega, setAll_all (by rw [h1, h2]), by rw [h2]; exact Tryz.is34⟩)
  have HSK : Hid ((msgC (depM (o : Int) l)).set 13 (.int .u8 (k : Int)) = msgC ({ depM (o : Int) l with body := { zeroBody with kind := UInt8.ofNat k } }) ∧ (msgC (depM (o : Int) l))[13]? = some (.int .u8 0)) := Lib.hid ⟨by rw [← HKT.out]; exact set_kind (depM (o : Int) l) _ (depM_wf (by omega)), by simp [msgC, depM, u64s_length, hl11, bodyC, zeroMsg, zeroBody]⟩
  have hzf : ∀ w, (zeroValue 97).run Tryz.prog w = .ok .nilFunc w := fun w => by kernel_rfl
  clear h e1 e2 e3 hk HC0
  go_enter Tryz.func45, Tryz.ntmps45
  go_wp2_with (first | (go_at_call 75; refine HB1.out.mono ?_; rintro E w1 ⟨rfl, hc1, hg1⟩; have C1 := Lib.hid hc1; clear hc1; have S1 : Hid (w.heap.size < w1.heap.size) := Lib.hid (Nat.lt_of_lt_of_le (by simp) hg1.out.size); have D1 : Hid (CtM w lo g w1.heap.size s1 zeroMsg (w1.alloc (.cells (msgC zeroMsg).toArray 34))) := Lib.hid ⟨C1.out.below ((Below.refl _ _).alloc (Nat.le_refl _) _), gb_new (gb_trans (World.grownBy_alloc w _ _) hg1.out) (World.grownBy_alloc w1 _ (some w.heap.size)) (Nat.le_refl _), (((Below.refl _ _).alloc (Nat.le_refl _) (.cells (msgC zeroMsg).toArray 34) : Below w1.heap.size _ _).block _ S1.out).trans ((hg1.out.block _ (by simp) (fun e => by injection e with e; have := HG.out; omega)).trans HZ0.out), heap_alloc_new w1 _, S1.out, HG.out⟩) | (refine wpList_store_part rfl 34 (.tmp 3) (.tmp 11) rfl w1.heap.size 0 (msgC zeroMsg) (msgC (depM (o : Int) [])) (msgC (depM (o : Int) [])) 34 D1.out.msg HL0.out.1 HL0.out.2.1 rfl rfl HL0.out.2.2 (one_msgC _) ?_; intro w2 G2; have D2 := Lib.hid (D1.out.put G2.out)))
  clear D1 G2 hg1 C1 S1
  have D3 : Hid (CtM w lo g w1.heap.size (cDeps 0 s1).2 (depM (o : Int) (cDeps 0 s1).1) w2) := D2
  clear D2
  generalize w1.heap.size = gm at D3 ⊢
  go_loopw [12] (fun v12 wr => ∃ j : Nat, j ≤ 11 ∧ v12 = .int .i64 (j : Int) ∧ Hid (CtM w lo g gm (cDeps j s1).2 (depM (o : Int) (cDeps j s1).1) wr)) (fun v12 _ => 11 - (intOf v12).toNat)
  case atStart => exact ⟨0, by omega, rfl, D3⟩
  case round =>
    clear D3
    obtain ⟨j, hj, rfl, D⟩ := hrel
    by_cases hjj : j < 11
    · have hib : ¬ (11 ≤ (j : Int)) := by omega
      have HW := Lib.hid (word_s D.out.cut)
      have HN : Hid ((msgC (depM (o : Int) (cDeps j s1).1)).set (2 + j) (.int .u64 ((cWord (cDeps j s1).2).1 : Int)) = msgC (depM (o : Int) (cDeps (j + 1) s1).1) ∧ (msgC (depM (o : Int) (cDeps j s1).1))[2 + j]? = some (.int .u64 0)) := Lib.hid ⟨by
        have := set_dep (o := (o : Int)) (l := (cDeps j s1).1) (by rw [HDL.out]; exact hjj) (cWord (cDeps j s1).2).1
        rw [HDL.out] at this
        exact this, by
        have hlen := HDL.out j
        have e : 11 - (cDeps j s1).1.length = (11 - (j + 1)) + 1 := by omega
        simp only [msgC, depM, u64s, List.map_append, List.map_replicate]
        rw [e, List.replicate_succ, show 2 + j = j + 1 + 1 by omega, List.getElem?_cons_succ, List.getElem?_cons_succ, List.append_assoc, List.getElem?_append_right (by simp [hlen])]
        simp [hlen]⟩
      generalize (cWord (cDeps j s1).2).1 = x at HW HN
      go_wp2_with (go_at_call 44; refine HW.out.mono ?_; rintro E w5 ⟨rfl, hc5, hg5⟩; have D5 := Lib.hid (D.out.turn hg5.out hc5); clear hc5 hg5; have cx : w5.cell? ⟨gm, 2 + j, none⟩ = some (.int .u64 0) := D5.out.cell _ _ HN.out.2; have hf := fun k => free_block D5.out.msg k)
      go_roundw
      case measure => simp [intOf] <;> omega
      case rel => exact ⟨j + 1, by omega, by go_num, Lib.hid (D5.out.set _ _ HN.out.1)⟩
    · obtain rfl : j = 11 := by omega
      have D4 : Hid (CtM w lo g gm s2 (depM (o : Int) l) wr) := Lib.hid (by have := D.out; rwa [HE.out] at this)
      have HB3 := Lib.hid (HB2.out _ D4.out.cut)
      go_wp2_with (first | (go_at_call 75; refine HB3.out.mono ?_; rintro E w5 ⟨rfl, hc5, hg5⟩; have D5 := Lib.hid (D4.out.turn hg5.out hc5); clear hc5 hg5) | (go_at_call 76; refine (readers_ms w5).mono ?_; rintro E w6 ⟨rfl, hm6, hb6⟩; have D6 := Lib.hid (D5.out.below hb6); have M6 := Lib.hid hm6; clear hm6 hb6; have ck : w6.cell? ⟨gm, 13, none⟩ = some (.int .u8 0) := D6.out.cell _ _ HSK.out.2; have hf := fun k => free_block D6.out.msg k; have D8 := Lib.hid (D6.out.set 13 (.int .u8 (k : Int)) HSK.out.1)) | (refine wpList_look_no rfl (.tmp 24) (.tmp 25) 99 5 _ .u8 rfl Tryz.underlying99 Tryz.underlying5 _ hzf w5.heap.size rdE 6 (k : Int) rfl M6.out rfl HKF.out ?_) | ((with_reducible refine wpList_load_midG ?_ 34 (.tmp 3) ?_ gm 0 ?_ (msgC ({ depM (o : Int) l with body := { zeroBody with kind := UInt8.ofNat k } })) _ ?_ Tryz.underlying34 ?_ ?_ ?_); (· rfl); (· rfl); (· rfl); (· exact range_of D8.out.msg); (· rfl); (· exact HLM.out.2.2)) | (refine wpList_store_part rfl 34 (.tmp 2) (.tmp 37) rfl w.heap.size 0 (msgC zeroMsg) (msgC ({ depM (o : Int) l with body := { zeroBody with kind := UInt8.ofNat k } })) (msgC ({ depM (o : Int) l with body := { zeroBody with kind := UInt8.ofNat k } })) 34 D8.out.res HLM.out.1 HLM.out.2.1 rfl rfl HLM.out.2.2 (one_msgC _) ?_; intro w9 G9))
      exact bodyPost_ret (ret_range (cs := msgC ({ depM (o : Int) l with body := { zeroBody with kind := UInt8.ofNat k } })) rfl rfl (range_of G9.out.1) Tryz.underlying34 rfl HLM.out.2.2) rfl ⟨rfl, D8.out.cut.far G9.out.2 HG.out, Lib.hid (gb_new D8.out.gb G9.out.2 (Nat.le_refl _))⟩

open Classical in
/-- What whole answers: the message, or none, and the error. -/
noncomputable def wholeM (m : MMsg) (s : Cst) : MMsg × Int := if s.2 = false ∧ s.1 = [] ∧ m.may then (m, 0) else (zeroMsg, 5)
theorem TgM.zero {w : World} {m : MMsg} {wr : World} (H : TgM w m wr) : w.heap.size ≤ wr.heap.size := H.bel.size
set_option maxHeartbeats 4000000 in
theorem whole_sp (m : MMsg) {w : World} {lo g : Nat} (rem : List UInt8) (h : CtS w lo g (rem, true)) (hm : m.Wf)  :
    Calls Tryz.prog 47 #[.agg (msgC m).toArray, .pointer (some ⟨g, 0, none⟩)] w fun E w' => E = .returned (.tuple #[.agg (msgC zeroMsg).toArray, .int .i64 5]) ∧ Hid (Below w.heap.size w w') := by
  have HI : Hid ((Tryz.prog.info? 34).map (·.size) = some (msgC m).length) := Lib.hid (by rw [msgC_length hm]; exact Tryz.is34)
  have hzl : (msgC zeroMsg).length = 121 := msgC_length ⟨rfl, zero_wf, rfl⟩
  have HL : Hid (0 + (msgC zeroMsg).length ≤ (msgC zeroMsg).length ∧ setAll (msgC zeroMsg) 0 (msgC zeroMsg) = msgC zeroMsg ∧ (Tryz.prog.info? 34).map (·.size) = some (msgC zeroMsg).length) := Lib.hid (by
    have h2 : (msgC zeroMsg).length = 121 := hzl
    exact ⟨by omega, setAll_all (hzl.trans h2.symm), by rw [h2]; exact Tryz.is34⟩)
  have hzm : ∀ w, (zeroValue 34).run Tryz.prog w = .ok (.agg (msgC zeroMsg).toArray) w := zero_msg
  have H0 : Hid (TgM w m ((w.alloc (.cells (msgC m).toArray 34)).alloc (.cells (msgC zeroMsg).toArray 34))) := Lib.hid ⟨((Below.refl _ _).alloc (Nat.le_refl _) _).alloc (by simp) _, by simp, by
    have h1 := heap_alloc_new w (.cells (msgC m).toArray 34)
    exact (((Below.refl _ _).alloc (Nat.le_refl _) (.cells (msgC zeroMsg).toArray 34) : Below (w.alloc (.cells (msgC m).toArray 34)).heap.size _ _).block w.heap.size (by simp)).trans h1, by simpa using heap_alloc_new (w.alloc (.cells (msgC m).toArray 34)) (.cells (msgC zeroMsg).toArray 34)⟩
  have HC : Hid (CtS ((w.alloc (.cells (msgC m).toArray 34)).alloc (.cells (msgC zeroMsg).toArray 34)) lo g (rem, true)) := Lib.hid ((h.below ((Below.refl _ _).alloc (Nat.le_refl _) _)).below ((Below.refl _ _).alloc (Nat.le_refl _) _))
  clear h hm
  go_enter Tryz.func47, Tryz.ntmps47
  go_wp2_with (first | (go_at_call 78; refine (Oct.ok_any g rem true _ HC.out).mono ?_; rintro E w1 ⟨rfl, rfl⟩) | (refine wpList_store_part rfl 34 (.tmp 4) (.tmp 19) rfl (w.heap.size + 1) 0 (msgC zeroMsg) (msgC zeroMsg) (msgC zeroMsg) 34 H0.out.res HL.out.1 HL.out.2.1 rfl rfl HL.out.2.2 (one_msgC _) ?_; intro w9 G9))
  exact bodyPost_ret (ret_range2 (cs := msgC zeroMsg) rfl rfl rfl (range_of G9.out.1) Tryz.underlying34 rfl HL.out.2.2) rfl ⟨rfl, Lib.hid (H0.out.bel.grown G9.out.2 H0.out.bel.size (fun k hk => by injection hk with hk; omega))⟩
set_option maxHeartbeats 4000000 in
theorem whole_left (m : MMsg) {w : World} {lo g : Nat} (rem : List UInt8) (h : CtS w lo g (rem, false)) (hm : m.Wf) (hl2 : 0 < rem.length) :
    Calls Tryz.prog 47 #[.agg (msgC m).toArray, .pointer (some ⟨g, 0, none⟩)] w fun E w' => E = .returned (.tuple #[.agg (msgC zeroMsg).toArray, .int .i64 5]) ∧ Hid (Below w.heap.size w w') := by
  have HI : Hid ((Tryz.prog.info? 34).map (·.size) = some (msgC m).length) := Lib.hid (by rw [msgC_length hm]; exact Tryz.is34)
  have hzl : (msgC zeroMsg).length = 121 := msgC_length ⟨rfl, zero_wf, rfl⟩
  have HL : Hid (0 + (msgC zeroMsg).length ≤ (msgC zeroMsg).length ∧ setAll (msgC zeroMsg) 0 (msgC zeroMsg) = msgC zeroMsg ∧ (Tryz.prog.info? 34).map (·.size) = some (msgC zeroMsg).length) := Lib.hid (by
    have h2 : (msgC zeroMsg).length = 121 := hzl
    exact ⟨by omega, setAll_all (hzl.trans h2.symm), by rw [h2]; exact Tryz.is34⟩)
  have hzm : ∀ w, (zeroValue 34).run Tryz.prog w = .ok (.agg (msgC zeroMsg).toArray) w := zero_msg
  have H0 : Hid (TgM w m ((w.alloc (.cells (msgC m).toArray 34)).alloc (.cells (msgC zeroMsg).toArray 34))) := Lib.hid ⟨((Below.refl _ _).alloc (Nat.le_refl _) _).alloc (by simp) _, by simp, by
    have h1 := heap_alloc_new w (.cells (msgC m).toArray 34)
    exact (((Below.refl _ _).alloc (Nat.le_refl _) (.cells (msgC zeroMsg).toArray 34) : Below (w.alloc (.cells (msgC m).toArray 34)).heap.size _ _).block w.heap.size (by simp)).trans h1, by simpa using heap_alloc_new (w.alloc (.cells (msgC m).toArray 34)) (.cells (msgC zeroMsg).toArray 34)⟩
  have HC : Hid (CtS ((w.alloc (.cells (msgC m).toArray 34)).alloc (.cells (msgC zeroMsg).toArray 34)) lo g (rem, false)) := Lib.hid ((h.below ((Below.refl _ _).alloc (Nat.le_refl _) _)).below ((Below.refl _ _).alloc (Nat.le_refl _) _))
  clear h hm
  go_enter Tryz.func47, Tryz.ntmps47
  go_wp2_with (first | (go_at_call 78; refine (Oct.ok_any g rem false _ HC.out).mono ?_; rintro E w1 ⟨rfl, rfl⟩) | (go_at_call 79; refine (Oct.left_any g rem false _ HC.out).mono ?_; rintro E w2 ⟨rfl, q2, rfl⟩; have H2 := Lib.hid (H0.out.drewN q2)) | (refine wpList_store_part rfl 34 (.tmp 4) (.tmp 19) rfl (w.heap.size + 1) 0 (msgC zeroMsg) (msgC zeroMsg) (msgC zeroMsg) 34 H2.out.res HL.out.1 HL.out.2.1 rfl rfl HL.out.2.2 (one_msgC _) ?_; intro w9 G9))
  exact bodyPost_ret (ret_range2 (cs := msgC zeroMsg) rfl rfl rfl (range_of G9.out.1) Tryz.underlying34 rfl HL.out.2.2) rfl ⟨rfl, Lib.hid (H2.out.bel.grown G9.out.2 H2.out.bel.size (fun k hk => by injection hk with hk; omega))⟩
set_option maxHeartbeats 4000000 in
theorem whole_no (m : MMsg) {w : World} {lo g : Nat} (rem : List UInt8) (h : CtS w lo g (rem, false)) (hm : m.Wf) (hl : rem = []) (HM : Hid (∀ W, Below w.heap.size w W → Calls Tryz.prog 13 #[.agg (msgC m).toArray] W fun E w' => E = .returned (.bool false) ∧ Hid (Below W.heap.size W w'))) :
    Calls Tryz.prog 47 #[.agg (msgC m).toArray, .pointer (some ⟨g, 0, none⟩)] w fun E w' => E = .returned (.tuple #[.agg (msgC zeroMsg).toArray, .int .i64 5]) ∧ Hid (Below w.heap.size w w') := by
  subst hl
  have HI : Hid ((Tryz.prog.info? 34).map (·.size) = some (msgC m).length) := Lib.hid (by rw [msgC_length hm]; exact Tryz.is34)
  have hzl : (msgC zeroMsg).length = 121 := msgC_length ⟨rfl, zero_wf, rfl⟩
  have HL : Hid (0 + (msgC zeroMsg).length ≤ (msgC zeroMsg).length ∧ setAll (msgC zeroMsg) 0 (msgC zeroMsg) = msgC zeroMsg ∧ (Tryz.prog.info? 34).map (·.size) = some (msgC zeroMsg).length) := Lib.hid (by
    have h2 : (msgC zeroMsg).length = 121 := hzl
    exact ⟨by omega, setAll_all (hzl.trans h2.symm), by rw [h2]; exact Tryz.is34⟩)
  have hzm : ∀ w, (zeroValue 34).run Tryz.prog w = .ok (.agg (msgC zeroMsg).toArray) w := zero_msg
  have H0 : Hid (TgM w m ((w.alloc (.cells (msgC m).toArray 34)).alloc (.cells (msgC zeroMsg).toArray 34))) := Lib.hid ⟨((Below.refl _ _).alloc (Nat.le_refl _) _).alloc (by simp) _, by simp, by
    have h1 := heap_alloc_new w (.cells (msgC m).toArray 34)
    exact (((Below.refl _ _).alloc (Nat.le_refl _) (.cells (msgC zeroMsg).toArray 34) : Below (w.alloc (.cells (msgC m).toArray 34)).heap.size _ _).block w.heap.size (by simp)).trans h1, by simpa using heap_alloc_new (w.alloc (.cells (msgC m).toArray 34)) (.cells (msgC zeroMsg).toArray 34)⟩
  have HC : Hid (CtS ((w.alloc (.cells (msgC m).toArray 34)).alloc (.cells (msgC zeroMsg).toArray 34)) lo g ([], false)) := Lib.hid ((h.below ((Below.refl _ _).alloc (Nat.le_refl _) _)).below ((Below.refl _ _).alloc (Nat.le_refl _) _))
  clear h hm
  go_enter Tryz.func47, Tryz.ntmps47
  go_wp2_with (first | (go_at_call 78; refine (Oct.ok_any g [] false _ HC.out).mono ?_; rintro E w1 ⟨rfl, rfl⟩) | (go_at_call 79; refine (Oct.left_any g [] false _ HC.out).mono ?_; rintro E w2 ⟨rfl, q2, rfl⟩; have H2 := Lib.hid (H0.out.drewN q2)) | ((with_reducible refine wpList_load_midG ?_ 34 (.tmp 2) ?_ w.heap.size 0 ?_ (msgC m) _ ?_ Tryz.underlying34 ?_ ?_ ?_); (· rfl); (· rfl); (· rfl); (· exact range_of H2.out.box); (· rfl); (· exact HI.out)) | (go_at_call 13; refine (HM.out _ H2.out.bel).mono ?_; rintro E w3 ⟨rfl, hb3⟩; have H3 := Lib.hid (H2.out.next hb3.out)) | (refine wpList_store_part rfl 34 (.tmp 4) (.tmp 19) rfl (w.heap.size + 1) 0 (msgC zeroMsg) (msgC zeroMsg) (msgC zeroMsg) 34 H3.out.res HL.out.1 HL.out.2.1 rfl rfl HL.out.2.2 (one_msgC _) ?_; intro w9 G9))
  exact bodyPost_ret (ret_range2 (cs := msgC zeroMsg) rfl rfl rfl (range_of G9.out.1) Tryz.underlying34 rfl HL.out.2.2) rfl ⟨rfl, Lib.hid (H3.out.bel.grown G9.out.2 H3.out.bel.size (fun k hk => by injection hk with hk; omega))⟩
set_option maxHeartbeats 4000000 in
theorem whole_yes (m : MMsg) {w : World} {lo g : Nat} (rem : List UInt8) (h : CtS w lo g (rem, false)) (hm : m.Wf) (hl : rem = []) (HM : Hid (∀ W, Below w.heap.size w W → Calls Tryz.prog 13 #[.agg (msgC m).toArray] W fun E w' => E = .returned (.bool true) ∧ Hid (Below W.heap.size W w'))) :
    Calls Tryz.prog 47 #[.agg (msgC m).toArray, .pointer (some ⟨g, 0, none⟩)] w fun E w' => E = .returned (.tuple #[.agg (msgC m).toArray, .int .i64 0]) ∧ Hid (Below w.heap.size w w') := by
  subst hl
  have HI : Hid ((Tryz.prog.info? 34).map (·.size) = some (msgC m).length) := Lib.hid (by rw [msgC_length hm]; exact Tryz.is34)
  have hzl : (msgC zeroMsg).length = 121 := msgC_length ⟨rfl, zero_wf, rfl⟩
  have HL : Hid (0 + (msgC m).length ≤ (msgC zeroMsg).length ∧ setAll (msgC zeroMsg) 0 (msgC m) = msgC m ∧ (Tryz.prog.info? 34).map (·.size) = some (msgC m).length) := Lib.hid (by
    have h2 : (msgC m).length = 121 := msgC_length hm
    exact ⟨by omega, setAll_all (hzl.trans h2.symm), by rw [h2]; exact Tryz.is34⟩)
  have hzm : ∀ w, (zeroValue 34).run Tryz.prog w = .ok (.agg (msgC zeroMsg).toArray) w := zero_msg
  have H0 : Hid (TgM w m ((w.alloc (.cells (msgC m).toArray 34)).alloc (.cells (msgC zeroMsg).toArray 34))) := Lib.hid ⟨((Below.refl _ _).alloc (Nat.le_refl _) _).alloc (by simp) _, by simp, by
    have h1 := heap_alloc_new w (.cells (msgC m).toArray 34)
    exact (((Below.refl _ _).alloc (Nat.le_refl _) (.cells (msgC zeroMsg).toArray 34) : Below (w.alloc (.cells (msgC m).toArray 34)).heap.size _ _).block w.heap.size (by simp)).trans h1, by simpa using heap_alloc_new (w.alloc (.cells (msgC m).toArray 34)) (.cells (msgC zeroMsg).toArray 34)⟩
  have HC : Hid (CtS ((w.alloc (.cells (msgC m).toArray 34)).alloc (.cells (msgC zeroMsg).toArray 34)) lo g ([], false)) := Lib.hid ((h.below ((Below.refl _ _).alloc (Nat.le_refl _) _)).below ((Below.refl _ _).alloc (Nat.le_refl _) _))
  clear h hm
  go_enter Tryz.func47, Tryz.ntmps47
  go_wp2_with (first | (go_at_call 78; refine (Oct.ok_any g [] false _ HC.out).mono ?_; rintro E w1 ⟨rfl, rfl⟩) | (go_at_call 79; refine (Oct.left_any g [] false _ HC.out).mono ?_; rintro E w2 ⟨rfl, q2, rfl⟩; have H2 := Lib.hid (H0.out.drewN q2)) | ((with_reducible refine wpList_load_midG ?_ 34 (.tmp 2) ?_ w.heap.size 0 ?_ (msgC m) _ ?_ Tryz.underlying34 ?_ ?_ ?_); (· rfl); (· rfl); (· rfl); (· exact range_of H2.out.box); (· rfl); (· exact HI.out)) | (go_at_call 13; refine (HM.out _ H2.out.bel).mono ?_; rintro E w3 ⟨rfl, hb3⟩; have H3 := Lib.hid (H2.out.next hb3.out)) | ((with_reducible refine wpList_load_midG ?_ 34 (.tmp 2) ?_ w.heap.size 0 ?_ (msgC m) _ ?_ Tryz.underlying34 ?_ ?_ ?_); (· rfl); (· rfl); (· rfl); (· exact range_of H3.out.box); (· rfl); (· exact HI.out)) | (refine wpList_store_part rfl 34 (.tmp 4) (.tmp 20) rfl (w.heap.size + 1) 0 (msgC zeroMsg) (msgC m) (msgC m) 34 H3.out.res HL.out.1 HL.out.2.1 rfl rfl HL.out.2.2 (one_msgC _) ?_; intro w9 G9))
  exact bodyPost_ret (ret_range2 (cs := msgC m) rfl rfl rfl (range_of G9.out.1) Tryz.underlying34 rfl HL.out.2.2) rfl ⟨rfl, Lib.hid (H3.out.bel.grown G9.out.2 H3.out.bel.size (fun k hk => by injection hk with hk; omega))⟩

open Classical in
theorem whole_ms (m : MMsg) {w : World} {lo g : Nat} (s : Cst) (h : CtS w lo g s) (hm : m.Wf) (hq : Prs w m.body.qa m.body.qs) (hn : m.body.qs.length ≤ 140737488355328) :
    Calls Tryz.prog 47 #[.agg (msgC m).toArray, .pointer (some ⟨g, 0, none⟩)] w fun E w' => E = .returned (.tuple #[.agg (msgC (wholeM m s).1).toArray, .int .i64 (wholeM m s).2]) ∧ Hid (Below w.heap.size w w') := by
  obtain ⟨rem, sp⟩ := s
  cases sp with
  | true =>
    rw [show wholeM m (rem, true) = (zeroMsg, 5) by simp [wholeM]]
    exact whole_sp m rem h hm
  | false =>
    by_cases hr : rem = []
    · by_cases hmay : m.may
      · rw [show wholeM m (rem, false) = (m, 0) by simp [wholeM, hr, hmay]]
        exact whole_yes m rem h hm hr (Lib.hid fun W hb => (may_ms m W hm (hq.below hb) hn).mono fun E w' hE => ⟨hE.1.trans (ret_bool (decide_eq_true hmay)), hE.2⟩)
      · rw [show wholeM m (rem, false) = (zeroMsg, 5) by simp [wholeM, hmay]]
        exact whole_no m rem h hm hr (Lib.hid fun W hb => (may_ms m W hm (hq.below hb) hn).mono fun E w' hE => ⟨hE.1.trans (ret_bool (decide_eq_false hmay)), hE.2⟩)
    · rw [show wholeM m (rem, false) = (zeroMsg, 5) by simp [wholeM, hr]]
      have : 0 < rem.length := List.length_pos_iff.2 hr
      exact whole_left m rem h hm this
end Go.Proofs.YtghjogneogkpoaaGreatDoor.Sh

namespace Go.Proofs.YtghjogneogkpoaaGreatDoor.Sh
open Go.RowKit
set_option maxRecDepth 100000


/-- What Get makes of what was read. -/
def gotM (n : Nat) (M : MMsg) (t : List UInt8) : MMsg := { M with number := n, tag := t }
set_option maxHeartbeats 8000000 in
theorem get_by (A : Option Addr) (N c : Nat) (bs : List UInt8) (w : World) (n : Nat) (M : MMsg) (t : List UInt8) (s1 s2 s3 : Cst) (hr : Oct.Rd w A N bs) (hs : Oct.Sl A N c) (hN : N ≤ 140737488355328)
    (e1 : cWord (bs, false) = (n, s1)) (e3 : cTag s2 = (t, s3)) (hM : M.Wf)
    (hct : ∀ (W : World) (lo g : Nat), CtS W lo g s1 → Calls Tryz.prog 45 #[.pointer (some ⟨g, 0, none⟩)] W fun E w' => E = .returned (.agg (msgC M).toArray) ∧ CtS w' lo g s2 ∧ Hid (W.grownBy w' (some g)))
    (R : MMsg) (er : Int) (hR : R.Wf) (hwh : ∀ (W : World) (lo g : Nat), CtS W lo g s3 → Calls Tryz.prog 47 #[.agg (msgC (gotM n M t)).toArray, .pointer (some ⟨g, 0, none⟩)] W fun E w' => E = .returned (.tuple #[.agg (msgC R).toArray, .int .i64 er]) ∧ Hid (Below W.heap.size W w')) :
    Calls Tryz.prog 21 #[.slice A N c] w fun E w' => E = .returned (.tuple #[.agg (msgC R).toArray, .int .i64 er]) ∧ Hid (Below w.heap.size w w') := by
  have ht : t.length = 32 := by have := cTag_len s2; rw [e3] at this; exact this
  have hzw : zeroMsg.Wf := ⟨rfl, zero_wf, rfl⟩
  have hzl : (msgC zeroMsg).length = 121 := msgC_length hzw
  have hzm : ∀ w, (zeroValue 34).run Tryz.prog w = .ok (.agg (msgC zeroMsg).toArray) w := zero_msg
  have ok : ∀ X : MMsg, X.Wf → 0 + (msgC X).length ≤ (msgC zeroMsg).length ∧ setAll (msgC zeroMsg) 0 (msgC X) = msgC X ∧ (Tryz.prog.info? 34).map (·.size) = some (msgC X).length := fun X hX =>
    ⟨by rw [msgC_length hX]; omega, setAll_all (hzl.trans (msgC_length hX).symm), by rw [msgC_length hX]; exact Tryz.is34⟩
  have HM := Lib.hid (ok M hM)
  have HR := Lib.hid (ok R hR)
  have HG' : Hid ((Tryz.prog.info? 34).map (·.size) = some (msgC (gotM n M t)).length) := Lib.hid (ok (gotM n M t) ⟨hM.1, hM.2.1, ht⟩).2.2
  have HJ : Hid ((Tryz.prog.info? 27).map (·.size) = some (u8s t).length) := Lib.hid (by rw [u8s_length, ht]; exact Tryz.size27)
  have HS1 : Hid ((msgC M).set 1 (.int .u64 (n : Int)) = msgC { M with number := n } ∧ (msgC M)[1]? = some (.int .u64 (M.number : Int))) := Lib.hid ⟨rfl, rfl⟩
  have HS2 : Hid (89 + (u8s t).length ≤ (msgC { M with number := n }).length ∧ setAll (msgC { M with number := n }) 89 (u8s t) = msgC (gotM n M t)) := Lib.hid ⟨by rw [u8s_length, ht, msgC_length (m := { M with number := n }) hM]; omega, set_tag { M with number := n } t hM ht⟩
  have HCT := Lib.hid hct
  have HWH := Lib.hid hwh
  have HZ0 : Hid ((w.alloc (.cells (msgC zeroMsg).toArray 34)).heap[w.heap.size]? = some (.cells (msgC zeroMsg).toArray 34 (0, 0))) := Lib.hid (heap_alloc_new w _)
  have HNW := Lib.hid (Oct.new_any A N c bs (w.alloc (.cells (msgC zeroMsg).toArray 34)) (hr.below ((Below.refl _ _).alloc (Nat.le_refl _) _)) hs hN)
  have HWD : Hid (∀ (W : World) (lo g : Nat), CtS W lo g (bs, false) → Calls Tryz.prog 44 #[.pointer (some ⟨g, 0, none⟩)] W fun E w' => E = .returned (.int .u64 (n : Int)) ∧ CtS w' lo g s1 ∧ Hid (W.grownBy w' (some g))) := Lib.hid fun W lo g h => by have := word_s h; rw [e1] at this; exact this
  have HTG : Hid (∀ (W : World) (lo g : Nat), CtS W lo g s2 → Calls Tryz.prog 46 #[.pointer (some ⟨g, 0, none⟩)] W fun E w' => E = .returned (.agg (u8s t).toArray) ∧ CtS w' lo g s3 ∧ Hid (W.grownBy w' (some g))) := Lib.hid fun W lo g h => by have := cutTag_ms h; rw [e3] at this; exact this
  clear hr hs e1 e3 hM hct hR hwh ht hzw hzl ok
  go_enter Tryz.func21, Tryz.ntmps21
  go_wp2_with (first | (go_at_call 43; refine HNW.out.mono ?_; rintro E w1 ⟨g, rfl, hg, hc, hb⟩; have C1 : Hid (CtS w1 (w.alloc (.cells (msgC zeroMsg).toArray 34)).heap.size g (bs, false)) := Lib.hid hc; have D1 : Hid (Below w.heap.size w w1 ∧ w1.heap[w.heap.size]? = some (.cells (msgC zeroMsg).toArray 34 (0, 0)) ∧ w.heap.size < g ∧ g < w1.heap.size) := Lib.hid ⟨((Below.refl _ _).alloc (Nat.le_refl _) _).trans (hb.mono (by simp)), (hb.block _ (by simp)).trans HZ0.out, Nat.lt_of_lt_of_le (by simp) hg, C1.out.lt⟩; clear hg hc hb) | (go_at_call 44; refine (HWD.out w1 _ g C1.out).mono ?_; rintro E w2 ⟨rfl, hc2, hg2⟩; have C2 := Lib.hid hc2; have D2 : Hid (Below w.heap.size w w2 ∧ w2.heap[w.heap.size]? = some (.cells (msgC zeroMsg).toArray 34 (0, 0)) ∧ w.heap.size < g ∧ g < w2.heap.size) := Lib.hid ⟨D1.out.1.grown hg2.out D1.out.1.size (fun k hk => by injection hk with hk; have := D1.out.2.2.1; omega), (hg2.out.block _ (by have := D1.out.2.2; omega) (fun e => by injection e with e; have := D1.out.2.2.1; omega)).trans D1.out.2.1, D1.out.2.2.1, Nat.lt_of_lt_of_le D1.out.2.2.2 hg2.out.size⟩; clear hc2 hg2) | (go_at_call 45; refine (HCT.out w2 _ g C2.out).mono ?_; rintro E w3 ⟨rfl, hc3, hg3⟩; have C3 := Lib.hid hc3; have D3 : Hid (Below w.heap.size w w3 ∧ w3.heap[w.heap.size]? = some (.cells (msgC zeroMsg).toArray 34 (0, 0)) ∧ w.heap.size < g ∧ g < w3.heap.size) := Lib.hid ⟨D2.out.1.grown hg3.out D2.out.1.size (fun k hk => by injection hk with hk; have := D2.out.2.2.1; omega), (hg3.out.block _ (by have := D2.out.2.2; omega) (fun e => by injection e with e; have := D2.out.2.2.1; omega)).trans D2.out.2.1, D2.out.2.2.1, Nat.lt_of_lt_of_le D2.out.2.2.2 hg3.out.size⟩; clear hc3 hg3; have HN3 : Hid ((w3.alloc (.cells (msgC zeroMsg).toArray 34)).heap[w3.heap.size]? = some (.cells (msgC zeroMsg).toArray 34 (0, 0))) := Lib.hid (heap_alloc_new w3 _)) | (refine wpList_store_part rfl 34 (.tmp 6) (.tmp 12) rfl w3.heap.size 0 (msgC zeroMsg) (msgC M) (msgC M) 34 HN3.out HM.out.1 HM.out.2.1 rfl rfl HM.out.2.2 (one_msgC _) ?_; intro w4 G4; have B4 : Hid (Below w3.heap.size w3 w4) := Lib.hid (((Below.refl _ _).alloc (Nat.le_refl _) _).grown G4.out.2 (by simp) (fun k hk => by injection hk with hk; omega)); have C4 := Lib.hid (C3.out.below B4.out); have D4 : Hid (Below w.heap.size w w4 ∧ w4.heap[w.heap.size]? = some (.cells (msgC zeroMsg).toArray 34 (0, 0)) ∧ w.heap.size < g ∧ g < w3.heap.size ∧ w3.heap.size < w4.heap.size) := Lib.hid ⟨D3.out.1.trans (B4.out.mono D3.out.1.size), (B4.out.block _ (by have := D3.out.2.2; omega)).trans D3.out.2.1, D3.out.2.2.1, D3.out.2.2.2, (Array.getElem?_eq_some_iff.1 G4.out.1).1⟩) | (go_at_call 46; refine (HTG.out w4 _ g C4.out).mono ?_; rintro E w5 ⟨rfl, hc5, hg5⟩; have C5 := Lib.hid hc5; have D5 : Hid (Below w.heap.size w w5 ∧ w5.heap[w.heap.size]? = some (.cells (msgC zeroMsg).toArray 34 (0, 0)) ∧ w5.heap[w3.heap.size]? = some (.cells (msgC M).toArray 34 (0, 0)) ∧ w.heap.size < g ∧ g < w3.heap.size) := Lib.hid ⟨D4.out.1.grown hg5.out D4.out.1.size (fun k hk => by injection hk with hk; have := D4.out.2.2.1; omega), (hg5.out.block _ (by have := D4.out.2.2; omega) (fun e => by injection e with e; have := D4.out.2.2.1; omega)).trans D4.out.2.1, (hg5.out.block _ D4.out.2.2.2.2 (fun e => by injection e with e; have := D4.out.2.2.2.1; omega)).trans G4.out.1, D4.out.2.2.1, D4.out.2.2.2.1⟩; clear hc5 hg5; have cn : w5.cell? ⟨w3.heap.size, 1, none⟩ = some (.int .u64 (M.number : Int)) := range_of D5.out.2.2.1 1 _ HS1.out.2; have hf := fun k => free_block D5.out.2.2.1 k; have HH6 : Hid ((w5.setCell ⟨w3.heap.size, 1, none⟩ (.int .u64 (n : Int))).heap[w3.heap.size]? = some (.cells (msgC { M with number := n }).toArray 34 (0, 0))) := Lib.hid ((heap_set D5.out.2.2.1 (.int .u64 (n : Int)) (k := 1)).trans (congrArg (fun C : List Value => some (Obj.cells C.toArray 34 (0, 0))) HS1.out.1)); have GG6 := Lib.hid (gb_set w5 w3.heap.size 1 (.int .u64 (n : Int)))) | (refine wpList_store_part rfl 27 (.tmp 17) (.tmp 15) rfl w3.heap.size 89 (msgC { M with number := n }) (msgC (gotM n M t)) (u8s t) 34 HH6.out HS2.out.1 HS2.out.2 rfl rfl HJ.out (u8s_one _) ?_; intro w7 G7; have GG7 := Lib.hid (gb_trans GG6.out G7.out.2); have C7 : Hid (CtS w7 (w.alloc (.cells (msgC zeroMsg).toArray 34)).heap.size g s3) := Lib.hid (C5.out.far GG7.out D5.out.2.2.2.2); have hs5 : w3.heap.size < w5.heap.size := (Array.getElem?_eq_some_iff.1 D5.out.2.2.1).1; have D7 : Hid (Below w.heap.size w w7 ∧ w7.heap[w.heap.size]? = some (.cells (msgC zeroMsg).toArray 34 (0, 0)) ∧ w7.heap[w3.heap.size]? = some (.cells (msgC (gotM n M t)).toArray 34 (0, 0)) ∧ w.heap.size < w3.heap.size) := Lib.hid ⟨D5.out.1.grown GG7.out D5.out.1.size (fun k hk => by injection hk with hk; have := D5.out.2.2.2; omega), (GG7.out.block _ (by have := D5.out.2.2.2; omega) (fun e => by injection e with e; have := D5.out.2.2.2; omega)).trans D5.out.2.1, G7.out.1, by have := D5.out.2.2.2; omega⟩) | ((with_reducible refine wpList_load_midG ?_ 34 (.tmp 6) ?_ w3.heap.size 0 ?_ (msgC (gotM n M t)) _ ?_ Tryz.underlying34 ?_ ?_ ?_); (· rfl); (· rfl); (· rfl); (· exact range_of D7.out.2.2.1); (· rfl); (· exact HG'.out)) | (go_at_call 47; refine (HWH.out w7 _ g C7.out).mono ?_; rintro E w8 ⟨rfl, hb8⟩; have D8 : Hid (Below w.heap.size w w8 ∧ w8.heap[w.heap.size]? = some (.cells (msgC zeroMsg).toArray 34 (0, 0))) := Lib.hid ⟨D7.out.1.trans (hb8.out.mono D7.out.1.size), (hb8.out.block _ ((Array.getElem?_eq_some_iff.1 D7.out.2.1).1)).trans D7.out.2.1⟩) | (refine wpList_store_part rfl 34 (.tmp 2) (.tmp 21) rfl w.heap.size 0 (msgC zeroMsg) (msgC R) (msgC R) 34 D8.out.2 HR.out.1 HR.out.2.1 rfl rfl HR.out.2.2 (one_msgC _) ?_; intro w9 G9))
  exact bodyPost_ret (ret_range2 (cs := msgC R) rfl rfl rfl (range_of G9.out.1) Tryz.underlying34 rfl HR.out.2.2) rfl ⟨rfl, Lib.hid (D8.out.1.grown G9.out.2 D8.out.1.size (fun k hk => by injection hk with hk; omega))⟩
end Go.Proofs.YtghjogneogkpoaaGreatDoor.Sh

namespace Go.Proofs.YtghjogneogkpoaaGreatDoor.Sh
open Go.RowKit
set_option maxRecDepth 100000


def b0 : MBody := { zeroBody with kind := 2, k := 1 }
def m0 : MMsg := { zeroMsg with origin := 2, number := 1, body := b0 }
def P0 : List UInt8 := be 8 1 ++ (msgB m0 ++ noTag)
theorem m0_wf : m0.Wf := ⟨rfl, ⟨rfl, rfl⟩, rfl⟩
theorem m0_may : m0.may := by
  refine ⟨by decide, ⟨by decide, rfl, ?_⟩, by kernel_rfl, by decide, ?_⟩
  · intro x hx
    have : x = 0 := List.eq_of_mem_replicate hx
    omega
  · have e : bodyOwn b0 = { zeroBody with kind := 2, view := 0, k := 1 } := by simp [bodyOwn, b0, zeroBody]
    show b0.same (bodyOwn b0)
    rw [e]
    exact ⟨rfl, rfl, rfl, rfl, rfl⟩
theorem m0_prs (w : World) : Prs w m0.body.qa m0.body.qs := fun h => absurd h (by decide)
theorem putM0 : putM m0 = P0 := by rw [putM, if_pos m0_may]; rfl
theorem P0_length : P0.length = 146 := by kernel_rfl
theorem r1 : cWord (P0, false) = (1, (P0.drop 8, false)) := by kernel_rfl
theorem r2 : cByte (P0.drop 8, false) = (2, (P0.drop 9, false)) := by kernel_rfl
theorem r3 : cDeps 11 (P0.drop 9, false) = (List.replicate 11 0, (P0.drop 97, false)) := by kernel_rfl
theorem r4 : cByte (P0.drop 97, false) = (2, (P0.drop 98, false)) := by kernel_rfl
theorem r5 : rdCommit (P0.drop 98, false) = ({ zeroBody with view := 0, k := 1 }, (P0.drop 114, false)) := by kernel_rfl
theorem r6 : cTag (P0.drop 114, false) = (noTag, ([], false)) := by kernel_rfl
theorem n1 : cWord ([], false) = (0, ([], true)) := by kernel_rfl
theorem n2 : cByte ([], true) = (0, ([], true)) := by kernel_rfl
theorem n3 : cDeps 11 ([], true) = (List.replicate 11 0, ([], true)) := by kernel_rfl
theorem n6 : cTag ([], true) = (noTag, ([], true)) := by kernel_rfl
theorem zeroM_wf : zeroMsg.Wf := ⟨rfl, zero_wf, rfl⟩
theorem get_nil (w : World) : Calls Tryz.prog 21 #[.slice none 0 0] w fun E w' => E = .returned (.tuple #[.agg (msgC zeroMsg).toArray, .int .i64 5]) ∧ Hid (Below w.heap.size w w') := by
  refine get_by none 0 0 [] w 0 ({ depM ((0 : Nat) : Int) (List.replicate 11 0) with body := { zeroBody with kind := UInt8.ofNat 0 } }) noTag ([], true) ([], true) ([], true) ⟨rfl, fun h => absurd h (by omega)⟩ ⟨fun _ => ⟨rfl, rfl⟩, Nat.le_refl _, by omega⟩ (by omega) n1 n6 ⟨rfl, ⟨rfl, rfl⟩, rfl⟩ (fun W lo g h => cutTagged_x 0 0 (List.replicate 11 0) ([], true) ([], true) ([], true) h n2 n3 n2 (by kernel_rfl)) zeroMsg 5 zeroM_wf (fun W lo g h => ?_)
  have := whole_ms (gotM 0 ({ depM ((0 : Nat) : Int) (List.replicate 11 0) with body := { zeroBody with kind := UInt8.ofNat 0 } }) noTag) ([], true) h ⟨rfl, ⟨rfl, rfl⟩, rfl⟩ (fun h => absurd h (by decide)) (by decide)
  rwa [show wholeM (gotM 0 ({ depM ((0 : Nat) : Int) (List.replicate 11 0) with body := { zeroBody with kind := UInt8.ofNat 0 } }) noTag) ([], true) = (zeroMsg, 5) by simp [wholeM]] at this
theorem got0 : gotM 1 ({ depM ((2 : Nat) : Int) (List.replicate 11 0) with body := { (rdCommit (P0.drop 98, false)).1 with kind := UInt8.ofNat 2 } }) noTag = m0 := by
  rw [r5]
  rfl
theorem get_m0 (A : Option Addr) (n c B : Nat) (w : World) (h : Ow B w A n c P0) : Calls Tryz.prog 21 #[.slice A n c] w fun E w' => E = .returned (.tuple #[.agg (msgC m0).toArray, .int .i64 0]) ∧ Hid (Below w.heap.size w w') := by
  have hl := h.len
  rw [P0_length] at hl
  have hr : Oct.Rd w A n P0 := ⟨h.rd.1, fun hn => let ⟨b, o, e, hb, _, hc⟩ := h.rd.2 hn; ⟨b, o, e, hb, hc⟩⟩
  refine get_by A n c P0 w 1 ({ depM ((2 : Nat) : Int) (List.replicate 11 0) with body := { (rdCommit (P0.drop 98, false)).1 with kind := UInt8.ofNat 2 } }) noTag (P0.drop 8, false) (P0.drop 114, false) ([], false) hr h.2 (by omega) r1 r6 ⟨rfl, by rw [r5]; exact ⟨rfl, rfl⟩, rfl⟩ (fun W lo g h => ?_) m0 0 m0_wf (fun W lo g h => ?_)
  · have := cutTagged_103 2 2 1 (List.replicate 11 0) (P0.drop 9, false) (P0.drop 97, false) (P0.drop 98, false) h r2 r3 r4 (by kernel_rfl) rdCommit cutCommit_ms (by rw [r5]; exact ⟨rfl, rfl⟩)
    rw [show (rdCommit (P0.drop 98, false)).2 = (P0.drop 114, false) by rw [r5]] at this
    exact this
  · rw [got0]
    have := whole_ms m0 ([], false) h m0_wf (m0_prs W) (by decide)
    rwa [show wholeM m0 ([], false) = (m0, 0) by simp [wholeM, m0_may]] at this
theorem tag_m0 : numTag 2 1 (msgB m0) ≠ noTag := by
  intro h
  have := congrArg (fun l : List UInt8 => l.getD 0 0) h
  revert this
  decide +kernel
end Go.Proofs.YtghjogneogkpoaaGreatDoor.Sh

namespace Go.Proofs.YtghjogneogkpoaaGreatDoor.Sh
open Go.RowKit
set_option maxRecDepth 100000


def m1 : MMsg := { m0 with tag := numTag 2 1 (msgB m0) }
theorem m1_wf : m1.Wf := ⟨rfl, ⟨rfl, rfl⟩, numTag_length _ _ _⟩
theorem m1_right : m1.right := ⟨m0_may, rfl⟩
theorem m0_wrong : ¬ m0.right := fun h => tag_m0 h.2.symm
theorem m0_same : m0.same m0 := ⟨rfl, rfl, rfl, ⟨rfl, rfl, rfl, rfl, rfl, rfl⟩, rfl⟩
open Classical in
theorem may_m0 (w : World) : Calls Tryz.prog 14 #[.agg (msgC m0).toArray] w fun E w' => E = .returned (.bool true) ∧ Hid (Below w.heap.size w w') :=
  (may_rf_by m0 w m0_wf (Lib.hid fun W _ => body_rf m0.body W m0_wf.2.1 (m0_prs W) (by decide) (fun h => absurd h (by decide)))).mono fun E w' hE => ⟨hE.1.trans (ret_bool (decide_eq_true m0_may)), hE.2⟩
theorem bytes_m0 (w : World) : Calls Tryz.prog 16 #[.agg (msgC m0).toArray] w fun E w' => ∃ A' n' c', E = .returned (.slice A' n' c') ∧ Ow w.heap.size w' A' n' c' (msgB m0) ∧ Hid (Below w.heap.size w w') := by
  have := bytesr_2 m0 w m0_wf (by decide) (Lib.hid rfl) (Lib.hid fun W _ => may_m0 W)
  exact this
theorem tagged_m0 (w : World) (hk : KIs w) (h0 : 0 < w.heap.size) : Calls Tryz.prog 12 #[.agg (msgC m0).toArray] w fun E w' => E = .returned (.agg (msgC m1).toArray) ∧ Hid (Below w.heap.size w w') := by
  refine tagged_rf m0 (numTag 2 1 (msgB m0)) w m0_wf (numTag_length _ _ _) (Lib.hid fun W _ => may_m0 W) (Lib.hid fun W _ => bytes_m0 W) (Lib.hid fun W A n c hb ho => ?_)
  have hl := ho.len
  have hml := msgB_len m0_wf m0_may
  exact (refNumbered_any 2 1 (msgB m0) A n c W ho.rd ho.2 (by omega) (hk.below hb h0) (Nat.lt_of_lt_of_le h0 hb.size)).mono fun E w' hE => ⟨hE.1, hE.2⟩
theorem P0_at {w : World} {A : Option Addr} {n c B : Nat} (h : Ow B w A n c (putM m0)) : Ow B w A n c P0 ∧ n = 146 := by
  rw [putM0] at h
  exact ⟨h, by rw [← h.len, P0_length]⟩
theorem built_m0 : Array.foldl (fun (cs : Array Value) (x : Value × Nat) => cs.setIfInBounds (13 + x.snd) x.fst) (((msgC zeroMsg).set 0 (Value.int IntKind.i64 2)).set 1 (Value.int IntKind.u64 1)).toArray ((Tryz.zeroCells32.setIfInBounds 0 (Value.int IntKind.u8 2)).setIfInBounds 2 (Value.int IntKind.u64 1)).zipIdx 0 76 = (msgC m0).toArray := by kernel_rfl
theorem build_b0 (w : World) : (Instr.build 32 #[(0, .int .u8 2), (2, .int .u64 1)]).run Tryz.prog w = .ok (.agg (bodyC b0).toArray) w := by kernel_rfl
theorem build_m0 (w : World) : (Instr.build 34 #[(0, .int .i64 2), (1, .int .u64 1), (3, .agg (bodyC b0).toArray)]).run Tryz.prog w = .ok (.agg (msgC m0).toArray) w := by kernel_rfl
/-- While the example runs: the message lies in the block w.heap.size. -/
structure WkAt (w wr : World) : Prop where
  bel : Below w.heap.size w wr
  box : wr.heap[w.heap.size]? = some (.cells (msgC m0).toArray 34 (0, 0))
theorem WkAt.next {w wr w' : World} (H : WkAt w wr) (hb : Below wr.heap.size wr w') : WkAt w w' :=
  ⟨H.bel.trans (hb.mono H.bel.size), (hb.block _ (Array.getElem?_eq_some_iff.1 H.box).1).trans H.box⟩
open Classical in
set_option maxHeartbeats 8000000 in
theorem works_any (w : World) (hk : KIs w) (h0 : 0 < w.heap.size) : Calls Tryz.prog 11 #[] w fun E w' => E = .returned (.bool true) ∧ Hid (Below w.heap.size w w') := by
  have HI : Hid ((Tryz.prog.info? 34).map (·.size) = some (msgC m0).length) := Lib.hid (by rw [msgC_length m0_wf]; exact Tryz.is34)
  have HIZ : Hid ((Tryz.prog.info? 34).map (·.size) = some (msgC zeroMsg).length) := Lib.hid (by rw [msgC_length zeroM_wf]; exact Tryz.is34)
  have HL : Hid (0 + (msgC m0).length ≤ (msgC zeroMsg).length ∧ setAll (msgC zeroMsg) 0 (msgC m0) = msgC m0) := Lib.hid ⟨by rw [msgC_length m0_wf, msgC_length zeroM_wf]; omega, setAll_all (by rw [msgC_length m0_wf, msgC_length zeroM_wf])⟩
  have HLZ : Hid (0 + (msgC zeroMsg).length ≤ (msgC zeroMsg).length ∧ setAll (msgC zeroMsg) 0 (msgC zeroMsg) = msgC zeroMsg) := Lib.hid ⟨by omega, setAll_all rfl⟩
  have hzm : ∀ w, (zeroValue 34).run Tryz.prog w = .ok (.agg (msgC zeroMsg).toArray) w := zero_msg
  have hb1 := build_b0
  have hb2 := build_m0
  have HZ0 : Hid ((w.alloc (.cells (msgC zeroMsg).toArray 34)).heap[w.heap.size]? = some (.cells (msgC zeroMsg).toArray 34 (0, 0))) := Lib.hid (heap_alloc_new w _)
  have HPUT := Lib.hid (fun W => (put_ms m0 W m0_wf (m0_prs W) (by decide)))
  have HGET := Lib.hid (fun (A : Option Addr) (n c B : Nat) W h => get_m0 A n c B W h)
  have HNIL := Lib.hid (fun W => get_nil W)
  have HMAY := Lib.hid (fun W => (may_ms m0 W m0_wf (m0_prs W) (by decide)).mono fun E w' hE => (⟨hE.1.trans (ret_bool (decide_eq_true m0_may)), hE.2⟩ : E = .returned (.bool true) ∧ Hid (Below W.heap.size W w')))
  have HSM := Lib.hid (fun W => (same_rf m0 m0 W m0_wf m0_wf (m0_prs W) (m0_prs W) (by decide) (by decide)).mono fun E w' hE => (⟨bool_of hE.1 m0_same, hE.2⟩ : E = .returned (.bool true) ∧ Below W.heap.size W w'))
  have HTG := Lib.hid (fun W (h : Below w.heap.size w W) => tagged_m0 W (hk.below h h0) (Nat.lt_of_lt_of_le h0 h.size))
  have HR1 := Lib.hid (fun W (h : Below w.heap.size w W) => (right_ms m1 W m1_wf (m0_prs W) (by decide) (hk.below h h0) (Nat.lt_of_lt_of_le h0 h.size)).mono fun E w' hE => (⟨hE.1.trans (ret_bool (decide_eq_true m1_right)), hE.2⟩ : E = .returned (.bool true) ∧ Hid (Below W.heap.size W w')))
  have HR0 := Lib.hid (fun W (h : Below w.heap.size w W) => (right_ms m0 W m0_wf (m0_prs W) (by decide) (hk.below h h0) (Nat.lt_of_lt_of_le h0 h.size)).mono fun E w' hE => (⟨hE.1.trans (ret_bool (decide_eq_false m0_wrong)), hE.2⟩ : E = .returned (.bool false) ∧ Hid (Below W.heap.size W w')))
  clear hk h0
  have HONE : Hid (∀ v ∈ msgC m0, v.oneCell' = true) := Lib.hid (one_msgC _)
  have HK0 : Hid (∀ w wr w' : World, WkAt w wr → Below wr.heap.size wr w' → WkAt w w') := Lib.hid fun _ _ _ h hb => h.next hb
  have HKM : Hid (∀ w w1 : World, Below w.heap.size w w1 → w1.heap[w.heap.size]? = some (.cells (msgC m0).toArray 34 (0, 0)) → WkAt w w1) := Lib.hid fun _ _ h1 h2 => ⟨h1, h2⟩
  have HKB : Hid (∀ w wr : World, WkAt w wr → wr.heap[w.heap.size]? = some (.cells (msgC m0).toArray 34 (0, 0))) := Lib.hid fun _ _ h => h.box
  have HBV := Lib.hid built_m0
  clear hb1 hb2
  generalize hM1 : msgC m1 = M1 at HTG HR1
  generalize hM0 : msgC m0 = M0 at HI HL HBV HPUT HGET HMAY HSM HTG HR0 HONE HKM HKB
  clear hM1 hM0
  go_enter Tryz.func11, Tryz.ntmps11
  go_wp2_with (first | (refine wpList_store_part rfl 34 (.tmp 1) (.tmp 8) rfl w.heap.size 0 (msgC zeroMsg) M0 M0 34 HZ0.out HL.out.1 HL.out.2 rfl (congrArg Value.agg HBV.out) HI.out HONE.out ?_; intro w1 Gw1; have Kw1 : Hid (WkAt w w1) := Lib.hid (HKM.out _ _ (((Below.refl _ _).alloc (Nat.le_refl _) _).grown Gw1.out.2 (by simp) (fun k hk => by injection hk with hk; omega)) Gw1.out.1)) | ((with_reducible refine wpList_load_midG ?_ 34 (.tmp 1) ?_ w.heap.size 0 ?_ M0 _ ?_ Tryz.underlying34 ?_ ?_ ?_); (· rfl); (· rfl); (· rfl); (· exact range_of (HKB.out _ _ Kw1.out)); (· rfl); (· exact HI.out)) | (go_at_call 17; with_reducible refine (HPUT.out _).mono ?_; rintro E w2 ⟨A2, n2, c2, rfl, H2, hb2⟩; obtain ⟨o2, rfl⟩ := P0_at H2; have O2 := Lib.hid o2; clear o2 H2; have Kw2 := Lib.hid (Kw1.out.next hb2.out)) | (go_at_call 21; with_reducible refine (HGET.out A2 146 c2 _ w2 O2.out).mono ?_; rintro E w3 ⟨rfl, hb3⟩; have Kw3 := Lib.hid (Kw2.out.next hb3.out); have Nw3 : Hid ((w3.alloc (.cells (msgC zeroMsg).toArray 34)).heap[w3.heap.size]? = some (.cells (msgC zeroMsg).toArray 34 (0, 0))) := Lib.hid (heap_alloc_new w3 _)) | (refine wpList_store_part rfl 34 (.tmp 3) (.tmp 14) rfl w3.heap.size 0 (msgC zeroMsg) M0 M0 34 Nw3.out HL.out.1 HL.out.2 rfl rfl HI.out HONE.out ?_; intro w4 Gw4; have BBw4 : Hid (Below w3.heap.size w3 w4) := Lib.hid (((Below.refl _ _).alloc (Nat.le_refl _) _).grown Gw4.out.2 (by simp) (fun k hk => by injection hk with hk; omega)); have Kw4 := Lib.hid (Kw3.out.next BBw4.out)) | (go_at_call 21; with_reducible refine (HNIL.out w4).mono ?_; rintro E w5 ⟨rfl, hb5⟩; have Kw5 := Lib.hid (Kw4.out.next hb5.out); have Nw5 : Hid ((w5.alloc (.cells (msgC zeroMsg).toArray 34)).heap[w5.heap.size]? = some (.cells (msgC zeroMsg).toArray 34 (0, 0))) := Lib.hid (heap_alloc_new w5 _)) | (refine wpList_store_part rfl 34 (.tmp 5) (.tmp 18) rfl w5.heap.size 0 (msgC zeroMsg) (msgC zeroMsg) (msgC zeroMsg) 34 Nw5.out HLZ.out.1 HLZ.out.2 rfl rfl HIZ.out (one_msgC _) ?_; intro w6 Gw6; have BBw6 : Hid (Below w5.heap.size w5 w6) := Lib.hid (((Below.refl _ _).alloc (Nat.le_refl _) _).grown Gw6.out.2 (by simp) (fun k hk => by injection hk with hk; omega)); have Kw6 := Lib.hid (Kw5.out.next BBw6.out)) | ((with_reducible refine wpList_load_midG ?_ 34 (.tmp 1) ?_ w.heap.size 0 ?_ M0 _ ?_ Tryz.underlying34 ?_ ?_ ?_); (· rfl); (· rfl); (· rfl); (· exact range_of (HKB.out _ _ Kw6.out)); (· rfl); (· exact HI.out)) | (go_at_call 13; with_reducible refine (HMAY.out _).mono ?_; rintro E w7 ⟨rfl, hb7⟩; have Kw7 := Lib.hid (Kw6.out.next hb7.out); have X7 : Hid (w7.heap[w3.heap.size]? = some (.cells M0.toArray 34 (0, 0))) := Lib.hid ((((hb5.out.trans (BBw6.out.mono hb5.out.size)).trans (hb7.out.mono (Nat.le_trans hb5.out.size BBw6.out.size))).block _ (Array.getElem?_eq_some_iff.1 Gw4.out.1).1).trans Gw4.out.1)) | ((with_reducible refine wpList_load_midG ?_ 34 (.tmp 3) ?_ w3.heap.size 0 ?_ M0 _ ?_ Tryz.underlying34 ?_ ?_ ?_); (· rfl); (· rfl); (· rfl); (· exact range_of X7.out); (· rfl); (· exact HI.out)) | ((with_reducible refine wpList_load_midG ?_ 34 (.tmp 1) ?_ w.heap.size 0 ?_ M0 _ ?_ Tryz.underlying34 ?_ ?_ ?_); (· rfl); (· rfl); (· rfl); (· exact range_of (HKB.out _ _ Kw7.out)); (· rfl); (· exact HI.out)) | (go_at_call 25; with_reducible refine (HSM.out _).mono ?_; rintro E w8 ⟨rfl, hb8⟩; have Kw8 := Lib.hid (Kw7.out.next hb8)) | ((with_reducible refine wpList_load_midG ?_ 34 (.tmp 1) ?_ w.heap.size 0 ?_ M0 _ ?_ Tryz.underlying34 ?_ ?_ ?_); (· rfl); (· rfl); (· rfl); (· exact range_of (HKB.out _ _ Kw8.out)); (· rfl); (· exact HI.out)) | (go_at_call 12; with_reducible refine (HTG.out _ Kw8.out.bel).mono ?_; rintro E w9 ⟨rfl, hb9⟩; have Kw9 := Lib.hid (Kw8.out.next hb9.out)) | (go_at_call 19; with_reducible refine (HR1.out _ Kw9.out.bel).mono ?_; rintro E w10 ⟨rfl, hb10⟩; have Kw10 := Lib.hid (Kw9.out.next hb10.out)) | ((with_reducible refine wpList_load_midG ?_ 34 (.tmp 1) ?_ w.heap.size 0 ?_ M0 _ ?_ Tryz.underlying34 ?_ ?_ ?_); (· rfl); (· rfl); (· rfl); (· exact range_of (HKB.out _ _ Kw10.out)); (· rfl); (· exact HI.out)) | (go_at_call 19; with_reducible refine (HR0.out _ Kw10.out.bel).mono ?_; rintro E w11 ⟨rfl, hb11⟩; have Kw11 := Lib.hid (Kw10.out.next hb11.out)))
  go_ret
  exact ⟨rfl, Lib.hid Kw11.out.bel⟩
end Go.Proofs.YtghjogneogkpoaaGreatDoor.Sh
