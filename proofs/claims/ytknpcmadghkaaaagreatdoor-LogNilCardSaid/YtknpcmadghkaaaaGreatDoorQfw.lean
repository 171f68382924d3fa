/- Laws and walks. -/
import Derived.Test.YtknpcmadghkaaaaGreatDoorQaw
set_option maxHeartbeats 16000000
set_option maxRecDepth 100000
namespace Go.Proofs.YtknpcmadghkaaaaGreatDoor.Sh
open Go.RowKit
theorem zero_tag27 (w : World) : (zeroValue 30).run Tryz.prog w = .ok (.agg (u8s noTag).toArray) w := by kernel_rfl
theorem tagOf_msby (r : MReq) (key out : List UInt8) (w : World) (hr : r.tag.length = 32) (ho : out.length = 32)
  (HC : Hid (∀ W, Below w.heap.size w W -> Calls Tryz.prog 151 #[.int .i64 r.client] W fun E w' => ∃ A n c, E = .returned (.slice A n c) /\ Hid (Rd (fun _ => True) w' A n key /\ Sl A n c) /\ Hid (Below W.heap.size W w')))
  (HP : Hid (∀ W, Below w.heap.size w W -> Calls Tryz.prog 152 #[.slice none 0 0, .agg (reqC r).toArray] W fun E w' => ∃ A n c, E = .returned (.slice A n c) /\ Hid (Ow W.heap.size w' A n c (reqB r)) /\ Hid (Below W.heap.size W w')))
  (HO : Hid (∀ (W : World) (A : Option Addr) (n c : Nat) (A' : Option Addr) (n' c' : Nat), Below w.heap.size w W -> Rd (fun _ => True) W A n key /\ Sl A n c -> Ow 0 W A' n' c' (reqB r) -> Calls Tryz.prog 150 #[.slice A n c, .slice A' n' c'] W fun E w' => E = .returned (.agg (u8s out).toArray) /\ Hid (Below W.heap.size W w'))) :
  Calls Tryz.prog 126 #[.agg (reqC r).toArray] w fun E w' => E = .returned (.agg (u8s out).toArray) /\ Hid (Below w.heap.size w w') := by
 have HIR : Hid ((Tryz.prog.info? 32).map (·.size) = some (reqC r).length) := iq (by rw [reqC_length hr]; exact Tryz.is32)
 have HJ : Hid ((Tryz.prog.info? 30).map (·.size) = some (u8s out).length) := iq (by rw [u8s_length, ho]; exact Tryz.size30)
 have HL : Hid (0 + (u8s out).length <= (u8s noTag).length /\ setAll (u8s noTag) 0 (u8s out) = u8s out) := iq ⟨by rw [u8s_length, u8s_length, ho]; decide, setAll_all (by rw [u8s_length, u8s_length, ho]; decide)⟩
 have hz : ∀ w, (zeroValue 30).run Tryz.prog w = .ok (.agg (u8s noTag).toArray) w := zero_tag27
 have H0 := iq (BxR.start w (reqC r) (u8s noTag) 32 30)
 clear hr ho
 go_enter Tryz.func126, Tryz.ntmps126
 go_wp2_with fail
 refine wp_region_any (by kernel_rfl) ?_
 have H3 := iq (H0.out.drewN 1)
 change wpAny _ _ _ _ _ _ _ (((w.alloc (.cells (reqC r).toArray 32)).alloc (.cells (u8s noTag).toArray 30)).drewN 1)
 generalize ((w.alloc (.cells (reqC r).toArray 32)).alloc (.cells (u8s noTag).toArray 30)).drewN 1 = w3 at H3 ⊢
 refine wpAny_of_held (S := fun W => W.rangeAt w.heap.size 0 (reqC r)) _ _ _ _ ?_
 refine tk 0 ⟨some 3, .fieldAddr 32 (.tmp 1) 0, _, _, _, none⟩ (.pointer (some ⟨w.heap.size, 0, none⟩)) rfl (by kernel_rfl) (fun _ _ _ => id) (range_of H3.out.box) (fun W hSW => by go_simp) ?_
 try simp only [Act.put, l0, l1, l2]
 refine tk 1 ⟨some 4, .load 3 (.tmp 3), _, _, _, none⟩ (.int .i64 r.client) rfl (by kernel_rfl) (fun _ _ _ => id) (range_of H3.out.box) (fun W hSW => by have hv := (req_lies hSW).client; go_simp) ?_
 try simp only [pu, l0, l1, l2]
 refine tk 3 ⟨some 6, .load 32 (.tmp 1), _, _, _, none⟩ (.agg (reqC r).toArray) rfl (by kernel_rfl) (fun _ _ _ => id) (range_of H3.out.box) (fun W hSW => exec_load_mid 32 (.tmp 1) rfl w.heap.size 0 rfl (reqC r) _ (hSW) Tryz.underlying32 rfl (HIR.out)) ?_
 try simp only [pu, l0, l1, l2]
 refine rd1 2 ⟨some 5, .call { callee := .value (.func 151), args := #[.tmp 4], argTypes := #[3] }, _, _, _, none⟩ (by kernel_rfl) rfl fun K' hK' => ?_
 go_simp
 go_at_call 151
 refine (HC.out w3 H3.out.bel).mono ?_
 rintro E w4 ⟨A4, n4, c4, rfl, K4, b4⟩
 have H4 := iq (H3.out.next b4.out)
 refine hK'.out _ _ (range_of H4.out.box) (fun _ => ?_)
 clear hK' K'
 try simp only [Act.put, l0, l1, l2]
 refine rd1 4 ⟨some 7, .call { callee := .value (.func 152), args := #[.const (.slice none 0 0), .tmp 6], argTypes := #[23, 32] }, _, _, _, none⟩ (by kernel_rfl) rfl fun K' hK' => ?_
 go_simp
 go_at_call 152
 refine (HP.out w4 H4.out.bel).mono ?_
 rintro E w5 ⟨A5, n5, c5, rfl, O5, b5⟩
 have H5 := iq (H4.out.next b5.out)
 refine hK'.out _ _ (range_of H5.out.box) (fun _ => ?_)
 clear hK' K'
 try simp only [Act.put, l0, l1, l2]
 refine rd1 5 ⟨some 8, .call { callee := .value (.func 150), args := #[.tmp 5, .tmp 7], argTypes := #[23, 23] }, _, _, _, none⟩ (by kernel_rfl) rfl fun K' hK' => ?_
 go_simp
 go_at_call 150
 refine (HO.out w5 A4 n4 c4 A5 n5 c5 H5.out.bel ⟨K4.out.1.below b5.out (fun _ h _ => h), K4.out.2⟩ (O5.out.low (Nat.zero_le _))).mono ?_
 rintro E w6 ⟨rfl, b6⟩
 have H6 := iq (H5.out.next b6.out)
 refine hK'.out _ _ (range_of H6.out.box) (fun _ => ?_)
 clear hK' K'
 try simp only [Act.put, l0, l1, l2]
 refine rd1 6 ⟨none, .store 30 (.tmp 2) (.tmp 8), _, _, _, none⟩ (by kernel_rfl) rfl fun K' hK' => ?_
 refine step_store_cells rfl 30 (.tmp 2) (.tmp 8) rfl (w.heap.size + 1) 0 (u8s out) rfl rfl (there_block H6.out.res 0 _ HL.out.1) HJ.out (u8s_one _) ?_
 have G7 := iq (put_part H6.out.res (cs := u8s out) (o := 0) HL.out.2)
 refine hK'.out _ _ (range_of ((G7.out.2.block _ H6.out.lt0 (fun e => by injection e with e; omega)).trans H6.out.box)) (fun _ => ?_)
 clear hK' K'
 refine wpAnyH_done (by kernel_rfl) ?_ _
 go_wp2_with fail
 exact bodyPost_ret (ret_range (cs := u8s out) rfl rfl (range_of G7.out.1) Tryz.underlying30 rfl HJ.out) rfl ⟨rfl, iq (H6.out.bel.grown G7.out.2 H6.out.bel.size (fun k hk => by injection hk with hk; omega))⟩
theorem authentic_by (r : MReq) (z q : Bool) (out : List UInt8) (w : World) (hr : r.tag.length = 32) (ho : out.length = 32)
  (HA : Hid (∀ W, Below w.heap.size w W -> Calls Tryz.prog 121 #[.agg (reqC r).toArray] W fun E w' => E = .returned (.bool z) /\ Hid (Below W.heap.size W w')))
  (HT : Hid (z = true -> ∀ W, Below w.heap.size w W -> Calls Tryz.prog 126 #[.agg (reqC r).toArray] W fun E w' => E = .returned (.agg (u8s out).toArray) /\ Hid (Below W.heap.size W w')))
  (HS : Hid (∀ W, Below w.heap.size w W -> Calls Tryz.prog 125 #[.agg (u8s r.tag).toArray, .agg (u8s out).toArray] W fun E w' => E = .returned (.bool q) /\ Hid (Below W.heap.size W w'))) :
  Calls Tryz.prog 97 #[.agg (reqC r).toArray] w fun E w' => E = .returned (.bool (z && q)) /\ Hid (Below w.heap.size w w') := by
 have HIR : Hid ((Tryz.prog.info? 32).map (·.size) = some (reqC r).length) := iq (by rw [reqC_length hr]; exact Tryz.is32)
 have HTI : Hid ((Tryz.prog.info? 30).map (·.size) = some (u8s r.tag).length) := iq (by rw [u8s_length, hr]; exact Tryz.size30)
 have HRQ := iq hr
 have HLO := iq ho
 have H0 : Hid (RqAt w.heap.size w (reqC r) (w.alloc (.cells (reqC r).toArray 32))) := iq ⟨bl.alloc (Nat.le_refl _) _, by simp, range_box w (reqC r) 32⟩
 clear hr ho
 cases z
 ·go_enter Tryz.func97, Tryz.ntmps97
  go_wp2_with fail
  refine wp_region_any (by kernel_rfl) ?_
  have H3 := iq (H0.out.drewN 1)
  change wpAny _ _ _ _ _ _ _ ((w.alloc (.cells (reqC r).toArray 32)).drewN 1)
  generalize (w.alloc (.cells (reqC r).toArray 32)).drewN 1 = w3 at H3 ⊢
  refine wpAny_of_held (S := fun W => W.rangeAt w.heap.size 0 (reqC r)) _ _ _ _ ?_
  refine tk 0 ⟨some 3, .load 32 (.tmp 1), _, _, _, none⟩ (.agg (reqC r).toArray) rfl (by kernel_rfl) (fun _ _ _ => id) (H3.out.src) (fun W hSW => exec_load_mid 32 (.tmp 1) rfl w.heap.size 0 rfl (reqC r) _ (hSW) Tryz.underlying32 rfl (HIR.out)) ?_
  try simp only [Act.put, l0, l1, l2]
  refine rd1 1 ⟨some 4, .call { callee := .value (.func 121), args := #[.tmp 3], argTypes := #[32] }, _, _, _, none⟩ (by kernel_rfl) rfl fun K' hK' => ?_
  go_simp
  go_at_call 121
  refine (HA.out w3 H3.out.bel).mono ?_
  rintro E w4 ⟨rfl, b4⟩
  have H4 := iq (H3.out.next (Nat.le_refl _) b4.out)
  refine hK'.out _ _ (H4.out.src) (fun _ => ?_)
  clear hK' K'
  try simp only [Act.put, l0, l1, l2]
  refine tk 2 ⟨some 5, .move (.tmp 4), _, _, _, none⟩ (.bool false) rfl (by kernel_rfl) (fun _ _ _ => id) (H4.out.src) (fun W hSW => by go_simp) ?_
  try simp only [pu, l0, l1, l2]
  refine sk 3 ⟨some 6, .fieldAddr 32 (.tmp 1) 3, _, _, _, some (2, true)⟩ rfl (by kernel_rfl) (fun _ _ _ => id) (H4.out.src) ?_
  try simp only [pu, l0, l1, l2]
  refine sk 4 ⟨some 7, .load 30 (.tmp 6), _, _, _, some (2, true)⟩ rfl (by kernel_rfl) (fun _ _ _ => id) (H4.out.src) ?_
  try simp only [pu, l0, l1, l2]
  refine sk 5 ⟨some 8, .load 32 (.tmp 1), _, _, _, some (2, true)⟩ rfl (by kernel_rfl) (fun _ _ _ => id) (H4.out.src) ?_
  try simp only [pu, l0, l1, l2]
  refine sk 6 ⟨some 9, .call { callee := .value (.func 126), args := #[.tmp 8], argTypes := #[32] }, _, _, _, some (2, true)⟩ rfl (by kernel_rfl) (fun _ _ _ => id) (H4.out.src) ?_
  try simp only [pu, l0, l1, l2]
  refine sk 7 ⟨some 10, .call { callee := .value (.func 125), args := #[.tmp 7, .tmp 9], argTypes := #[30, 30] }, _, _, _, some (2, true)⟩ rfl (by kernel_rfl) (fun _ _ _ => id) (H4.out.src) ?_
  try simp only [pu, l0, l1, l2]
  refine tk 8 ⟨some 11, .pick (.tmp 5) (.tmp 10) (.const (.bool false)), _, _, _, none⟩ (.bool false) rfl (by kernel_rfl) (fun _ _ _ => id) (H4.out.src) (fun W hSW => by go_simp) ?_
  try simp only [pu, l0, l1, l2]
  refine tk 9 ⟨some 2, .assign (.tmp 11), _, _, _, none⟩ (.bool false) rfl (by kernel_rfl) (fun _ _ _ => id) (H4.out.src) (fun W hSW => by go_simp) ?_
  try simp only [pu, l0, l1, l2]
  refine wpAnyH_done (by kernel_rfl) ?_ _
  go_wp2_with fail
  go_ret
  exact ⟨rfl, iq H4.out.bel⟩
 ·go_enter Tryz.func97, Tryz.ntmps97
  go_wp2_with fail
  refine wp_region_any (by kernel_rfl) ?_
  have H3 := iq (H0.out.drewN 1)
  change wpAny _ _ _ _ _ _ _ ((w.alloc (.cells (reqC r).toArray 32)).drewN 1)
  generalize (w.alloc (.cells (reqC r).toArray 32)).drewN 1 = w3 at H3 ⊢
  refine wpAny_of_held (S := fun W => W.rangeAt w.heap.size 0 (reqC r)) _ _ _ _ ?_
  refine tk 0 ⟨some 3, .load 32 (.tmp 1), _, _, _, none⟩ (.agg (reqC r).toArray) rfl (by kernel_rfl) (fun _ _ _ => id) (H3.out.src) (fun W hSW => exec_load_mid 32 (.tmp 1) rfl w.heap.size 0 rfl (reqC r) _ (hSW) Tryz.underlying32 rfl (HIR.out)) ?_
  try simp only [Act.put, l0, l1, l2]
  refine rd1 1 ⟨some 4, .call { callee := .value (.func 121), args := #[.tmp 3], argTypes := #[32] }, _, _, _, none⟩ (by kernel_rfl) rfl fun K' hK' => ?_
  go_simp
  go_at_call 121
  refine (HA.out w3 H3.out.bel).mono ?_
  rintro E w4 ⟨rfl, b4⟩
  have H4 := iq (H3.out.next (Nat.le_refl _) b4.out)
  refine hK'.out _ _ (H4.out.src) (fun _ => ?_)
  clear hK' K'
  try simp only [Act.put, l0, l1, l2]
  refine tk 2 ⟨some 5, .move (.tmp 4), _, _, _, none⟩ (.bool true) rfl (by kernel_rfl) (fun _ _ _ => id) (H4.out.src) (fun W hSW => by go_simp) ?_
  try simp only [pu, l0, l1, l2]
  refine tk 3 ⟨some 6, .fieldAddr 32 (.tmp 1) 3, _, _, _, some (2, true)⟩ (.pointer (some ⟨w.heap.size, 8, none⟩)) rfl (by kernel_rfl) (fun _ _ _ => id) (H4.out.src) (fun W hSW => by go_simp) ?_
  try simp only [pu, l0, l1, l2]
  refine tk 4 ⟨some 7, .load 30 (.tmp 6), _, _, _, some (2, true)⟩ (.agg (u8s r.tag).toArray) rfl (by kernel_rfl) (fun _ _ _ => id) (H4.out.src) (fun W hSW => exec_load_mid 30 (.tmp 6) rfl w.heap.size 8 rfl (u8s r.tag) _ ((req_lies hSW).tag) Tryz.underlying30 rfl (HTI.out)) ?_
  try simp only [pu, l0, l1, l2]
  refine tk 5 ⟨some 8, .load 32 (.tmp 1), _, _, _, some (2, true)⟩ (.agg (reqC r).toArray) rfl (by kernel_rfl) (fun _ _ _ => id) (H4.out.src) (fun W hSW => exec_load_mid 32 (.tmp 1) rfl w.heap.size 0 rfl (reqC r) _ (hSW) Tryz.underlying32 rfl (HIR.out)) ?_
  try simp only [pu, l0, l1, l2]
  refine rd1 6 ⟨some 9, .call { callee := .value (.func 126), args := #[.tmp 8], argTypes := #[32] }, _, _, _, some (2, true)⟩ (by kernel_rfl) rfl fun K' hK' => ?_
  go_simp
  go_at_call 126
  refine (HT.out (by simp) w4 H4.out.bel).mono ?_
  rintro E w5 ⟨rfl, b5⟩
  have H5 := iq (H4.out.next (Nat.le_refl _) b5.out)
  refine hK'.out _ _ (H5.out.src) (fun _ => ?_)
  clear hK' K'
  try simp only [Act.put, l0, l1, l2]
  refine rd1 7 ⟨some 10, .call { callee := .value (.func 125), args := #[.tmp 7, .tmp 9], argTypes := #[30, 30] }, _, _, _, some (2, true)⟩ (by kernel_rfl) rfl fun K' hK' => ?_
  go_simp
  go_at_call 125
  refine (HS.out w5 H5.out.bel).mono ?_
  rintro E w6 ⟨rfl, b6⟩
  have H6 := iq (H5.out.next (Nat.le_refl _) b6.out)
  refine hK'.out _ _ (H6.out.src) (fun _ => ?_)
  clear hK' K'
  try simp only [Act.put, l0, l1, l2]
  refine tk 8 ⟨some 11, .pick (.tmp 5) (.tmp 10) (.const (.bool false)), _, _, _, none⟩ (.bool q) rfl (by kernel_rfl) (fun _ _ _ => id) (H6.out.src) (fun W hSW => by go_simp) ?_
  try simp only [pu, l0, l1, l2]
  refine tk 9 ⟨some 2, .assign (.tmp 11), _, _, _, none⟩ (.bool q) rfl (by kernel_rfl) (fun _ _ _ => id) (H6.out.src) (fun W hSW => by go_simp) ?_
  try simp only [pu, l0, l1, l2]
  refine wpAnyH_done (by kernel_rfl) ?_ _
  go_wp2_with fail
  go_ret
  exact ⟨rfl, iq H6.out.bel⟩
theorem tagOf_ms (r : MReq) (w : World) (hr : r.tag.length = 32) (hm : reqMay r = true) (hk : KIs w) (h0 : 0 < w.heap.size) :
  Calls Tryz.prog 126 #[.agg (reqC r).toArray] w fun E w' => E = .returned (.agg (u8s (tagReq r)).toArray) /\ Hid (Below w.heap.size w w') := by
 have hkl : (cliKey r.client).length <= 32 := keyI_length _ _ _
 have hrl := reqB_len hm
 refine tagOf_msby r (cliKey r.client) (tagReq r) w hr (tagReq_len r)
  (iq fun W h => (client_any r.client W (hk.below h h0) (Nat.lt_of_lt_of_le h0 h.size)).mono fun _ _ ⟨A, c, he, hx, hb⟩ => ⟨A, _, c, he, iq ⟨hx.out.1.mono fun _ _ _ => trivial, hx.out.2⟩, iq hb⟩)
  (iq fun W h => (putRequest_ms r W.heap.size 0 0 W none [] (Ow.nil _ _) (Nat.le_refl _) (by omega) hm).mono fun _ _ ⟨A, n, c, he, hx, hb⟩ => ⟨A, n, c, he, iq (by simpa using hx), hb⟩)
  (iq fun W A n c A' n' c' h h1 h2 => ?_)
 have e1 := h1.1.1
 have e2 := h2.len
 exact (of_any (cliKey r.client) (reqB r) A n c A' n' c' W h1.1 h1.2 h2.rd h2.2 (by omega) (by omega) (hk.below h h0) (Nat.lt_of_lt_of_le h0 h.size)).mono fun _ _ hE => ⟨hE.1, iq hE.2⟩
theorem authentic_ms (r : MReq) (w : World) (hr : r.tag.length = 32) (hk : KIs w) (h0 : 0 < w.heap.size) :
  Calls Tryz.prog 97 #[.agg (reqC r).toArray] w fun E w' => E = .returned (.bool (authR r)) /\ Hid (Below w.heap.size w w') :=
 authentic_by r (reqMay r) (decide (r.tag = tagReq r)) (tagReq r) w hr (tagReq_len r) (iq fun W _ => (asked_ms r W).mono fun _ _ hE => ⟨hE.1, iq hE.2⟩) (iq fun hm W h => tagOf_ms r W hr hm (hk.below h h0) (Nat.lt_of_lt_of_le h0 h.size))
  (iq fun W _ => (same_tags r.tag (tagReq r) W hr (tagReq_len r)).mono fun _ _ hE => ⟨hE.1, iq hE.2⟩)
end Go.Proofs.YtknpcmadghkaaaaGreatDoor.Sh
