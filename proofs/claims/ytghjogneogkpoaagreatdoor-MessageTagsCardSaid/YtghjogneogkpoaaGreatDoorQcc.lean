/-
  What is proved: Signed and Authentic, by the program and by the document. Conditions as stated.
-/
import Derived.Test.YtghjogneogkpoaaGreatDoorQbc
namespace Go.Proofs.YtghjogneogkpoaaGreatDoor.Sh
open Go.RowKit
set_option maxRecDepth 100000


theorem zero_req (w : World) : (zeroValue 29).run Tryz.prog w = .ok (.agg (reqC zeroReq).toArray) w := by kernel_rfl
theorem field_tag (r : MReq) (hr : r.tag.length = 32) (w : World) : (Instr.field 29 (.agg (reqC r).toArray) 3).run Tryz.prog w = .ok (.agg (u8s r.tag).toArray) w := by
  have hp := run_part_agg (P := Tryz.prog) Tryz.underlying27 rfl Tryz.size27 (xs := (reqC r).toArray) (off := 8) (ys := u8s r.tag) (by
    rw [List.extract_toArray]
    congr 1
    exact List.take_of_length_le (Nat.le_of_eq ((u8s_length r.tag).trans hr))) w
  unfold Instr.field
  rw [Sem.run_bind, run_underlying Tryz.underlying29 w]
  simpa [asAgg] using hp
theorem same_tags (a b : List UInt8) (w : World) (ha : a.length = 32) (hb : b.length = 32) : Calls Tryz.prog 58 #[.agg (u8s a).toArray, .agg (u8s b).toArray] w fun E w' => E = .returned (.bool (decide (a = b))) ∧ Below w.heap.size w w' := by
  by_cases h : a = b
  · subst h
    simpa using same_yes a w ha
  · simpa [h] using same_no a b w ha hb h
/-- A request's own tag; a request with it. -/
def tagReq (r : MReq) : List UInt8 := hmac (cliKey r.client) (reqB r)
def signR (r : MReq) : MReq := if reqMay r then { r with tag := tagReq r } else r
def authR (r : MReq) : Bool := reqMay r && decide (r.tag = tagReq r)
theorem tagReq_len (r : MReq) : (tagReq r).length = 32 := hmac_length _ _
theorem set_rtag (r : MReq) (t : List UInt8) (hr : r.tag.length = 32) (ht : t.length = 32) : setAll (reqC r) 8 (u8s t) = reqC { r with tag := t } := by
  have e : ∀ t : List UInt8, reqC { r with tag := t } = (.int .i64 r.client :: .int .u64 (r.time : Int) :: opC r.op) ++ (u8s t ++ []) := fun t => by simp [reqC]
  have := setAll_mid (u8s t) (.int .i64 r.client :: .int .u64 (r.time : Int) :: opC r.op) (u8s r.tag) [] (by rw [u8s_length, u8s_length, hr, ht])
  rw [← e t, ← e r.tag] at this
  exact this
theorem one_reqs (r : MReq) : ∀ v ∈ reqC r, v.oneCell' = true := one_reqC r
set_option maxHeartbeats 4000000 in
theorem signed_by (r : MReq) (z : Bool) (out : List UInt8) (w : World) (hr : r.tag.length = 32) (ho : out.length = 32)
    (HA : Hid (∀ W, Below w.heap.size w W → Calls Tryz.prog 27 #[.agg (reqC r).toArray] W fun E w' => E = .returned (.bool z) ∧ Hid (Below W.heap.size W w')))
    (HT : Hid (z = true → ∀ W, Below w.heap.size w W → Calls Tryz.prog 57 #[.agg (reqC r).toArray] W fun E w' => E = .returned (.agg (u8s out).toArray) ∧ Hid (Below W.heap.size W w'))) :
    Calls Tryz.prog 29 #[.agg (reqC r).toArray] w fun E w' => E = .returned (.agg (reqC (if z then { r with tag := out } else r)).toArray) ∧ Hid (Below w.heap.size w w') := by
  have hr2 : ({ r with tag := out } : MReq).tag.length = 32 := ho
  have HIR : Hid ((Tryz.prog.info? 29).map (·.size) = some (reqC r).length) := Lib.hid (by rw [reqC_length hr]; exact Tryz.is29)
  have HIR2 : Hid ((Tryz.prog.info? 29).map (·.size) = some (reqC { r with tag := out }).length) := Lib.hid (by rw [reqC_length hr2]; exact Tryz.is29)
  have HJ : Hid ((Tryz.prog.info? 27).map (·.size) = some (u8s out).length) := Lib.hid (by rw [u8s_length, ho]; exact Tryz.size27)
  have HL : Hid (0 + (reqC r).length ≤ (reqC zeroReq).length ∧ setAll (reqC zeroReq) 0 (reqC r) = reqC r) := Lib.hid ⟨by rw [reqC_length hr, reqC_length (r := zeroReq) rfl]; omega, setAll_all (by rw [reqC_length hr, reqC_length (r := zeroReq) rfl])⟩
  have HL2 : Hid (0 + (reqC { r with tag := out }).length ≤ (reqC zeroReq).length ∧ setAll (reqC zeroReq) 0 (reqC { r with tag := out }) = reqC { r with tag := out }) := Lib.hid ⟨by rw [reqC_length hr2, reqC_length (r := zeroReq) rfl]; omega, setAll_all (by rw [reqC_length hr2, reqC_length (r := zeroReq) rfl])⟩
  have HLT : Hid (8 + (u8s out).length ≤ (reqC r).length ∧ setAll (reqC r) 8 (u8s out) = reqC { r with tag := out }) := Lib.hid ⟨by rw [reqC_length hr, u8s_length, ho]; omega, set_rtag r out hr ho⟩
  have hz : ∀ w, (zeroValue 29).run Tryz.prog w = .ok (.agg (reqC zeroReq).toArray) w := zero_req
  have H0 := Lib.hid (BxR.start w (reqC r) (reqC zeroReq) 29 29)
  clear hr hr2 ho
  cases z
  · go_enter Tryz.func29, Tryz.ntmps29
    go_wp2_with (first | ((with_reducible refine wpList_load_midG ?_ 29 (.tmp 1) ?_ w.heap.size 0 ?_ (reqC r) _ ?_ Tryz.underlying29 ?_ ?_ ?_); (· rfl); (· rfl); (· rfl); (· exact range_of H0.out.box); (· rfl); (· exact HIR.out)) | (go_at_call 27; refine (HA.out _ H0.out.bel).mono ?_; rintro E w1 ⟨rfl, hb1⟩; have H1 := Lib.hid (H0.out.next hb1.out)) | ((with_reducible refine wpList_load_midG ?_ 29 (.tmp 1) ?_ w.heap.size 0 ?_ (reqC r) _ ?_ Tryz.underlying29 ?_ ?_ ?_); (· rfl); (· rfl); (· rfl); (· exact range_of H1.out.box); (· rfl); (· exact HIR.out)) | (refine wpList_store_part rfl 29 (.tmp 2) (.tmp 8) rfl (w.heap.size + 1) 0 (reqC zeroReq) (reqC r) (reqC r) 29 H1.out.res HL.out.1 HL.out.2 rfl rfl HIR.out (one_reqC _) ?_; intro w9 G9))
    exact bodyPost_ret (ret_range (cs := reqC r) rfl rfl (range_of G9.out.1) Tryz.underlying29 rfl HIR.out) rfl ⟨rfl, Lib.hid (H1.out.bel.grown G9.out.2 H1.out.bel.size (fun k hk => by injection hk with hk; omega))⟩
  · go_enter Tryz.func29, Tryz.ntmps29
    go_wp2_with (first | ((with_reducible refine wpList_load_midG ?_ 29 (.tmp 1) ?_ w.heap.size 0 ?_ (reqC r) _ ?_ Tryz.underlying29 ?_ ?_ ?_); (· rfl); (· rfl); (· rfl); (· exact range_of H0.out.box); (· rfl); (· exact HIR.out)) | (go_at_call 27; refine (HA.out _ H0.out.bel).mono ?_; rintro E w1 ⟨rfl, hb1⟩; have H1 := Lib.hid (H0.out.next hb1.out)) | ((with_reducible refine wpList_load_midG ?_ 29 (.tmp 1) ?_ w.heap.size 0 ?_ (reqC r) _ ?_ Tryz.underlying29 ?_ ?_ ?_); (· rfl); (· rfl); (· rfl); (· exact range_of H1.out.box); (· rfl); (· exact HIR.out)) | (go_at_call 57; refine (HT.out (by simp) _ H1.out.bel).mono ?_; rintro E w2 ⟨rfl, hb2⟩; have H2 := Lib.hid (H1.out.next hb2.out)) | (refine wpList_store_part rfl 27 (.tmp 7) (.tmp 6) rfl w.heap.size 8 (reqC r) (reqC { r with tag := out }) (u8s out) 29 H2.out.box HLT.out.1 HLT.out.2 rfl rfl HJ.out (u8s_one _) ?_; intro w3 G3; have H3 := Lib.hid (H2.out.put G3.out)) | ((with_reducible refine wpList_load_midG ?_ 29 (.tmp 1) ?_ w.heap.size 0 ?_ (reqC { r with tag := out }) _ ?_ Tryz.underlying29 ?_ ?_ ?_); (· rfl); (· rfl); (· rfl); (· exact range_of H3.out.box); (· rfl); (· exact HIR2.out)) | (refine wpList_store_part rfl 29 (.tmp 2) (.tmp 8) rfl (w.heap.size + 1) 0 (reqC zeroReq) (reqC { r with tag := out }) (reqC { r with tag := out }) 29 H3.out.res HL2.out.1 HL2.out.2 rfl rfl HIR2.out (one_reqC _) ?_; intro w9 G9))
    exact bodyPost_ret (ret_range (cs := reqC { r with tag := out }) rfl rfl (range_of G9.out.1) Tryz.underlying29 rfl HIR2.out) rfl ⟨rfl, Lib.hid (H3.out.bel.grown G9.out.2 H3.out.bel.size (fun k hk => by injection hk with hk; omega))⟩
set_option maxHeartbeats 8000000 in
theorem signed_rfby (r : MReq) (z : Bool) (key out : List UInt8) (w : World) (hr : r.tag.length = 32) (ho : out.length = 32)
    (HA : Hid (∀ W, Below w.heap.size w W → Calls Tryz.prog 28 #[.agg (reqC r).toArray] W fun E w' => E = .returned (.bool z) ∧ Hid (Below W.heap.size W w')))
    (HC : Hid (∀ W, Below w.heap.size w W → Calls Tryz.prog 54 #[.int .i64 r.client] W fun E w' => ∃ A n c, E = .returned (.slice A n c) ∧ Hid (Rd (fun _ => True) w' A n key ∧ Sl A n c) ∧ Hid (Below W.heap.size W w')))
    (HP : Hid (z = true → ∀ W, Below w.heap.size w W → Calls Tryz.prog 39 #[.slice none 0 0, .agg (reqC r).toArray] W fun E w' => ∃ A n c, E = .returned (.slice A n c) ∧ Hid (Ow W.heap.size w' A n c (reqB r)) ∧ Hid (Below W.heap.size W w')))
    (HO : Hid (z = true → ∀ (W : World) (A : Option Addr) (n c : Nat) (A' : Option Addr) (n' c' : Nat), Below w.heap.size w W → Rd (fun _ => True) W A n key ∧ Sl A n c → Ow 0 W A' n' c' (reqB r) → Calls Tryz.prog 53 #[.slice A n c, .slice A' n' c'] W fun E w' => E = .returned (.agg (u8s out).toArray) ∧ Hid (Below W.heap.size W w'))) :
    Calls Tryz.prog 26 #[.agg (reqC r).toArray] w fun E w' => E = .returned (.agg (reqC (if z then { r with tag := out } else r)).toArray) ∧ Hid (Below w.heap.size w w') := by
  have HLR := Lib.hid hr
  have HLO := Lib.hid ho
  have hr2 : ({ r with tag := out } : MReq).tag.length = 32 := ho
  have HIR : Hid ((Tryz.prog.info? 29).map (·.size) = some (reqC r).length) := Lib.hid (by rw [reqC_length hr]; exact Tryz.is29)
  have HIR2 : Hid ((Tryz.prog.info? 29).map (·.size) = some (reqC { r with tag := out }).length) := Lib.hid (by rw [reqC_length hr2]; exact Tryz.is29)
  have HJ : Hid ((Tryz.prog.info? 27).map (·.size) = some (u8s out).length) := Lib.hid (by rw [u8s_length, ho]; exact Tryz.size27)
  have HL : Hid (0 + (reqC r).length ≤ (reqC zeroReq).length ∧ setAll (reqC zeroReq) 0 (reqC r) = reqC r) := Lib.hid ⟨by rw [reqC_length hr, reqC_length (r := zeroReq) rfl]; omega, setAll_all (by rw [reqC_length hr, reqC_length (r := zeroReq) rfl])⟩
  have HL2 : Hid (0 + (reqC { r with tag := out }).length ≤ (reqC zeroReq).length ∧ setAll (reqC zeroReq) 0 (reqC { r with tag := out }) = reqC { r with tag := out }) := Lib.hid ⟨by rw [reqC_length hr2, reqC_length (r := zeroReq) rfl]; omega, setAll_all (by rw [reqC_length hr2, reqC_length (r := zeroReq) rfl])⟩
  have HLT : Hid (8 + (u8s out).length ≤ (reqC r).length ∧ setAll (reqC r) 8 (u8s out) = reqC { r with tag := out }) := Lib.hid ⟨by rw [reqC_length hr, u8s_length, ho]; omega, set_rtag r out hr ho⟩
  have hz : ∀ w, (zeroValue 29).run Tryz.prog w = .ok (.agg (reqC zeroReq).toArray) w := zero_req
  have H0 := Lib.hid (BxR.start w (reqC r) (reqC zeroReq) 29 29)
  clear hr hr2 ho
  cases z
  · go_enter Tryz.func26, Tryz.ntmps26
    go_wp2_with (first | ((with_reducible refine wpList_load_midG ?_ 29 (.tmp 1) ?_ w.heap.size 0 ?_ (reqC r) _ ?_ Tryz.underlying29 ?_ ?_ ?_); (· rfl); (· rfl); (· rfl); (· exact range_of H0.out.box); (· rfl); (· exact HIR.out)) | (go_at_call 28; refine (HA.out _ H0.out.bel).mono ?_; rintro E w1 ⟨rfl, hb1⟩; have H1 := Lib.hid (H0.out.next hb1.out)) | ((with_reducible refine wpList_load_midG ?_ 29 (.tmp 1) ?_ w.heap.size 0 ?_ (reqC r) _ ?_ Tryz.underlying29 ?_ ?_ ?_); (· rfl); (· rfl); (· rfl); (· exact range_of H1.out.box); (· rfl); (· exact HIR.out)) | (refine wpList_store_part rfl 29 (.tmp 2) (.tmp 12) rfl (w.heap.size + 1) 0 (reqC zeroReq) (reqC r) (reqC r) 29 H1.out.res HL.out.1 HL.out.2 rfl rfl HIR.out (one_reqC _) ?_; intro w9 G9))
    exact bodyPost_ret (ret_range (cs := reqC r) rfl rfl (range_of G9.out.1) Tryz.underlying29 rfl HIR.out) rfl ⟨rfl, Lib.hid (H1.out.bel.grown G9.out.2 H1.out.bel.size (fun k hk => by injection hk with hk; omega))⟩
  · go_enter Tryz.func26, Tryz.ntmps26
    go_wp2_with (first | ((with_reducible refine wpList_load_midG ?_ 29 (.tmp 1) ?_ w.heap.size 0 ?_ (reqC r) _ ?_ Tryz.underlying29 ?_ ?_ ?_); (· rfl); (· rfl); (· rfl); (· exact range_of H0.out.box); (· rfl); (· exact HIR.out)) | (go_at_call 28; refine (HA.out _ H0.out.bel).mono ?_; rintro E w1 ⟨rfl, hb1⟩; have H1 := Lib.hid (H0.out.next hb1.out)))
    refine wp_region_any (by kernel_rfl) ?_
    have H3 := Lib.hid (H1.out.drewN 1)
    change wpAny _ _ _ _ _ _ _ (w1.drewN 1)
    generalize w1.drewN 1 = w3 at H3 ⊢
    refine wpAny_of_held (S := fun W => ∃ t : List UInt8, t.length = 32 ∧ W.rangeAt w.heap.size 0 (reqC { r with tag := t })) _ _ _ _ ?_
    refine tk 0 ⟨some 5, .fieldAddr 29 (.tmp 1) 0, _, _, _, none⟩ (.pointer (some ⟨w.heap.size, 0, none⟩)) rfl (by kernel_rfl) (fun _ _ _ h => h) (⟨r.tag, HLR.out, range_of H3.out.box⟩) (fun W hSW => by go_simp) ?_
    try simp only [Act.put, l0, l1, l2]
    refine tk 1 ⟨some 6, .load 3 (.tmp 5), _, _, _, none⟩ (.int .i64 r.client) rfl (by kernel_rfl) (fun _ _ _ h => h) (⟨r.tag, HLR.out, range_of H3.out.box⟩) (fun W hSW => by obtain ⟨t, ht, hx⟩ := hSW; have hv : W.cell? ⟨w.heap.size, 0, none⟩ = some (.int .i64 r.client) := (req_lies hx).client; go_simp) ?_
    try simp only [Act.put, l0, l1, l2]
    refine rdy [2, 3] (by kernel_rfl) ?_
    refine (AllReadyH.cons (o := ⟨some 7, .call { callee := .value (.func 54), args := #[.tmp 6], argTypes := #[3] }, _, _, _, none⟩) rfl (fun K' hK' => ?_) (AllReadyH.cons (o := ⟨some 8, .load 29 (.tmp 1), _, _, _, none⟩) rfl (fun K' hK' => ?_) AllReadyH.nil))
    · go_simp
      go_at_call 54
      refine (HC.out w3 H3.out.bel).mono ?_
      rintro E w4 ⟨A4, n4, c4, rfl, K4, b4⟩
      have H4 := Lib.hid (H3.out.next b4.out)
      refine hK'.out _ _ (⟨r.tag, HLR.out, range_of H4.out.box⟩) (fun _ => ?_)
      clear hK' K'
      try simp only [Act.put, l0, l1, l2]
      refine rdy [3] (by kernel_rfl) ?_
      refine AllReadyH.cons (o := ⟨some 8, .load 29 (.tmp 1), _, _, _, none⟩) rfl (fun K' hK' => ?_) AllReadyH.nil
      refine step_load_mid rfl 29 (.tmp 1) rfl w.heap.size 0 rfl (reqC r) _ (range_of H4.out.box) Tryz.underlying29 rfl HIR.out ?_
      refine hK'.out _ _ ⟨r.tag, HLR.out, range_of H4.out.box⟩ (fun _ => ?_)
      clear hK' K'
      try simp only [Act.put, l0, l1, l2]
      refine rdy [4] (by kernel_rfl) ?_
      refine AllReadyH.cons (o := ⟨some 9, .call { callee := .value (.func 39), args := #[.const (.slice none 0 0), .tmp 8], argTypes := #[38, 29] }, _, _, _, none⟩) rfl (fun K' hK' => ?_) AllReadyH.nil
      go_simp
      go_at_call 39
      refine (HP.out (by simp) w4 H4.out.bel).mono ?_
      rintro E w5 ⟨A5, n5, c5, rfl, O5, b5⟩
      have H5 := Lib.hid (H4.out.next b5.out)
      refine hK'.out _ _ (⟨r.tag, HLR.out, range_of H5.out.box⟩) (fun _ => ?_)
      clear hK' K'
      try simp only [Act.put, l0, l1, l2]
      refine rdy [5] (by kernel_rfl) ?_
      refine AllReadyH.cons (o := ⟨some 10, .call { callee := .value (.func 53), args := #[.tmp 7, .tmp 9], argTypes := #[38, 38] }, _, _, _, none⟩) rfl (fun K' hK' => ?_) AllReadyH.nil
      go_simp
      go_at_call 53
      refine (HO.out (by simp) w5 A4 n4 c4 A5 n5 c5 H5.out.bel ⟨K4.out.1.below b5.out (fun _ h _ => h), K4.out.2⟩ (O5.out.low (Nat.zero_le _))).mono ?_
      rintro E w6 ⟨rfl, b6⟩
      have H6 := Lib.hid (H5.out.next b6.out)
      refine hK'.out _ _ (⟨r.tag, HLR.out, range_of H6.out.box⟩) (fun _ => ?_)
      clear hK' K'
      try simp only [Act.put, l0, l1, l2]
      refine tk 6 ⟨some 11, .fieldAddr 29 (.tmp 1) 3, _, _, _, none⟩ (.pointer (some ⟨w.heap.size, 8, none⟩)) rfl (by kernel_rfl) (fun _ _ _ h => h) (⟨r.tag, HLR.out, range_of H6.out.box⟩) (fun W hSW => by go_simp) ?_
      try simp only [Act.put, l0, l1, l2]
      refine rdy [7] (by kernel_rfl) ?_
      refine AllReadyH.cons (o := ⟨none, .store 27 (.tmp 11) (.tmp 10), _, _, _, none⟩) rfl (fun K' hK' => ?_) AllReadyH.nil
      refine step_store_cells rfl 27 (.tmp 11) (.tmp 10) rfl w.heap.size 8 (u8s out) rfl rfl (there_block H6.out.box 8 _ HLT.out.1) HJ.out (u8s_one _) ?_
      have H7 := Lib.hid (H6.out.put (put_part H6.out.box HLT.out.2))
      refine hK'.out _ _ ⟨out, HLO.out, range_of H7.out.box⟩ (fun _ => ?_)
      clear hK' K'
      refine wpAnyH_done (by kernel_rfl) ?_ _
      generalize w6.setCells w.heap.size 8 (u8s out) = w7 at H7 ⊢
      go_wp2_with (first | ((with_reducible refine wpList_load_midG ?_ 29 (.tmp 1) ?_ w.heap.size 0 ?_ (reqC { r with tag := out }) _ ?_ Tryz.underlying29 ?_ ?_ ?_); (· rfl); (· rfl); (· rfl); (· exact range_of H7.out.box); (· rfl); (· exact HIR2.out)) | (refine wpList_store_part rfl 29 (.tmp 2) (.tmp 12) rfl (w.heap.size + 1) 0 (reqC zeroReq) (reqC { r with tag := out }) (reqC { r with tag := out }) 29 H7.out.res HL2.out.1 HL2.out.2 rfl rfl HIR2.out (one_reqC _) ?_; intro w9 G9))
      exact bodyPost_ret (ret_range (cs := reqC { r with tag := out }) rfl rfl (range_of G9.out.1) Tryz.underlying29 rfl HIR2.out) rfl ⟨rfl, Lib.hid (H7.out.bel.grown G9.out.2 H7.out.bel.size (fun k hk => by injection hk with hk; omega))⟩
    · refine step_load_mid rfl 29 (.tmp 1) rfl w.heap.size 0 rfl (reqC r) _ (range_of H3.out.box) Tryz.underlying29 rfl HIR.out ?_
      refine hK'.out _ _ ⟨r.tag, HLR.out, range_of H3.out.box⟩ (fun _ => ?_)
      clear hK' K'
      try simp only [Act.put, l0, l1, l2]
      refine rdy [2] (by kernel_rfl) ?_
      refine AllReadyH.cons (o := ⟨some 7, .call { callee := .value (.func 54), args := #[.tmp 6], argTypes := #[3] }, _, _, _, none⟩) rfl (fun K' hK' => ?_) AllReadyH.nil
      go_simp
      go_at_call 54
      refine (HC.out w3 H3.out.bel).mono ?_
      rintro E w4 ⟨A4, n4, c4, rfl, K4, b4⟩
      have H4 := Lib.hid (H3.out.next b4.out)
      refine hK'.out _ _ (⟨r.tag, HLR.out, range_of H4.out.box⟩) (fun _ => ?_)
      clear hK' K'
      try simp only [Act.put, l0, l1, l2]
      refine rdy [4] (by kernel_rfl) ?_
      refine AllReadyH.cons (o := ⟨some 9, .call { callee := .value (.func 39), args := #[.const (.slice none 0 0), .tmp 8], argTypes := #[38, 29] }, _, _, _, none⟩) rfl (fun K' hK' => ?_) AllReadyH.nil
      go_simp
      go_at_call 39
      refine (HP.out (by simp) w4 H4.out.bel).mono ?_
      rintro E w5 ⟨A5, n5, c5, rfl, O5, b5⟩
      have H5 := Lib.hid (H4.out.next b5.out)
      refine hK'.out _ _ (⟨r.tag, HLR.out, range_of H5.out.box⟩) (fun _ => ?_)
      clear hK' K'
      try simp only [Act.put, l0, l1, l2]
      refine rdy [5] (by kernel_rfl) ?_
      refine AllReadyH.cons (o := ⟨some 10, .call { callee := .value (.func 53), args := #[.tmp 7, .tmp 9], argTypes := #[38, 38] }, _, _, _, none⟩) rfl (fun K' hK' => ?_) AllReadyH.nil
      go_simp
      go_at_call 53
      refine (HO.out (by simp) w5 A4 n4 c4 A5 n5 c5 H5.out.bel ⟨K4.out.1.below b5.out (fun _ h _ => h), K4.out.2⟩ (O5.out.low (Nat.zero_le _))).mono ?_
      rintro E w6 ⟨rfl, b6⟩
      have H6 := Lib.hid (H5.out.next b6.out)
      refine hK'.out _ _ (⟨r.tag, HLR.out, range_of H6.out.box⟩) (fun _ => ?_)
      clear hK' K'
      try simp only [Act.put, l0, l1, l2]
      refine tk 6 ⟨some 11, .fieldAddr 29 (.tmp 1) 3, _, _, _, none⟩ (.pointer (some ⟨w.heap.size, 8, none⟩)) rfl (by kernel_rfl) (fun _ _ _ h => h) (⟨r.tag, HLR.out, range_of H6.out.box⟩) (fun W hSW => by go_simp) ?_
      try simp only [Act.put, l0, l1, l2]
      refine rdy [7] (by kernel_rfl) ?_
      refine AllReadyH.cons (o := ⟨none, .store 27 (.tmp 11) (.tmp 10), _, _, _, none⟩) rfl (fun K' hK' => ?_) AllReadyH.nil
      refine step_store_cells rfl 27 (.tmp 11) (.tmp 10) rfl w.heap.size 8 (u8s out) rfl rfl (there_block H6.out.box 8 _ HLT.out.1) HJ.out (u8s_one _) ?_
      have H7 := Lib.hid (H6.out.put (put_part H6.out.box HLT.out.2))
      refine hK'.out _ _ ⟨out, HLO.out, range_of H7.out.box⟩ (fun _ => ?_)
      clear hK' K'
      refine wpAnyH_done (by kernel_rfl) ?_ _
      generalize w6.setCells w.heap.size 8 (u8s out) = w7 at H7 ⊢
      go_wp2_with (first | ((with_reducible refine wpList_load_midG ?_ 29 (.tmp 1) ?_ w.heap.size 0 ?_ (reqC { r with tag := out }) _ ?_ Tryz.underlying29 ?_ ?_ ?_); (· rfl); (· rfl); (· rfl); (· exact range_of H7.out.box); (· rfl); (· exact HIR2.out)) | (refine wpList_store_part rfl 29 (.tmp 2) (.tmp 12) rfl (w.heap.size + 1) 0 (reqC zeroReq) (reqC { r with tag := out }) (reqC { r with tag := out }) 29 H7.out.res HL2.out.1 HL2.out.2 rfl rfl HIR2.out (one_reqC _) ?_; intro w9 G9))
      exact bodyPost_ret (ret_range (cs := reqC { r with tag := out }) rfl rfl (range_of G9.out.1) Tryz.underlying29 rfl HIR2.out) rfl ⟨rfl, Lib.hid (H7.out.bel.grown G9.out.2 H7.out.bel.size (fun k hk => by injection hk with hk; omega))⟩
end Go.Proofs.YtghjogneogkpoaaGreatDoor.Sh
