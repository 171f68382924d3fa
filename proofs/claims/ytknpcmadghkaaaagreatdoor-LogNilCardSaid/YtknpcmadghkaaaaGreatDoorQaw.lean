/- Laws and walks. -/
import Derived.Test.YtknpcmadghkaaaaGreatDoorV6w
import Derived.Test.YtknpcmadghkaaaaGreatDoorV9w
import Derived.Lib.AppendStr
set_option maxHeartbeats 16000000
set_option maxRecDepth 100000
namespace Go.Proofs.YtknpcmadghkaaaaGreatDoor.Sh
open Go.RowKit
structure BxR (w : World) (C Z : List Value) (t u : TypeId) (wr : World) : Prop where
 bel : Below w.heap.size w wr
 lt : w.heap.size + 1 < wr.heap.size
 box : wr.heap[w.heap.size]? = some (.cells C.toArray t (0, 0))
 res : wr.heap[w.heap.size + 1]? = some (.cells Z.toArray u (0, 0))
theorem BxR.start (w : World) (C Z : List Value) (t u : TypeId) : BxR w C Z t u ((w.alloc (.cells C.toArray t)).alloc (.cells Z.toArray u)) :=
 ⟨(bl.alloc (Nat.le_refl _) _).alloc (by simp) _, by simp, by
  have h1 := heap_alloc_new w (.cells C.toArray t)
  exact ((bl.alloc (Nat.le_refl _) (.cells Z.toArray u) : Below (w.alloc (.cells C.toArray t)).heap.size _ _).block w.heap.size (by simp)).trans h1, by simpa using heap_alloc_new (w.alloc (.cells C.toArray t)) (.cells Z.toArray u)⟩
theorem BxR.next {w : World} {C Z : List Value} {t u : TypeId} {wr w' : World} (H : BxR w C Z t u wr) (hb : Below wr.heap.size wr w') : BxR w C Z t u w' :=
 ⟨H.bel.trans (hb.mono H.bel.size), Nat.lt_of_lt_of_le H.lt hb.size, (hb.block _ (by have := H.lt; omega)).trans H.box, (hb.block _ H.lt).trans H.res⟩
theorem BxR.drewN {w : World} {C Z : List Value} {t u : TypeId} {wr : World} (H : BxR w C Z t u wr) (q : Nat) : BxR w C Z t u (wr.drewN q) := ⟨below_drewN H.bel q, H.lt, H.box, H.res⟩
theorem BxR.put {w : World} {C C' Z : List Value} {t u : TypeId} {wr w' : World} (H : BxR w C Z t u wr) (h : w'.heap[w.heap.size]? = some (.cells C'.toArray t (0, 0)) /\ wr.grownBy w' (some w.heap.size)) : BxR w C' Z t u w' :=
 ⟨H.bel.grown h.2 H.bel.size (fun k hk => by injection hk with hk; omega), Nat.lt_of_lt_of_le H.lt h.2.size, h.1, (h.2.block _ H.lt (fun e => by injection e with e; omega)).trans H.res⟩
theorem BxR.lt0 {w : World} {C Z : List Value} {t u : TypeId} {wr : World} (H : BxR w C Z t u wr) : w.heap.size < wr.heap.size := by have := H.lt; omega
theorem put_part {w : World} {g o : Nat} {C D cs : List Value} {t : TypeId} (hC : w.heap[g]? = some (.cells C.toArray t (0, 0))) (hD : setAll C o cs = D) : (w.setCells g o cs).heap[g]? = some (.cells D.toArray t (0, 0)) /\ w.grownBy (w.setCells g o cs) (some g) :=
 ⟨by rw [heap_setCells cs o w _ hC, hD], gb_setCells _ _ _ _⟩
theorem rhalf_ow {B n c : Nat} {w : World} {A : Option Addr} {bs : List UInt8} (num : Nat) (h : Ow B w A n c bs) (hn : n <= 100000000) (hnum : num <= 65535) :
  Calls Tryz.prog 148 #[.slice A n c, .int .u16 (num : Int)] w fun E w' => ∃ A' c', E = .returned (.slice A' (n + 2) c') /\ Ow w.heap.size w' A' (n + 2) c' (bs ++ be 2 num) /\ Hid (Below w.heap.size w w') := by
 have HO := iq h
 clear h
 have hw : IntKind.u64.wrap (num : Int) = (num : Int) := by rw [IntKind.wrap_u64]; omega
 go_enter Tryz.func148, Tryz.ntmps148
 go_wp2_with (go_at_call 119; go_must (refine (refPut_any A n c bs num 2 w HO.out.rd HO.out.2 (by omega) (by omega)).mono ?_); rintro e w' ⟨A', c', rfl, ho, hb⟩)
 go_ret
 exact ⟨_, _, rfl, ho.out, iq hb⟩
theorem rtext_ow {B n c : Nat} {w : World} {A : Option Addr} {bs : List UInt8} (s : ByteArray) (h : Ow B w A n c bs) (hn : n <= 100000000) (hs : s.size <= 65535) :
  Calls Tryz.prog 120 #[.slice A n c, .string s] w fun E w' => ∃ A' n' c', E = .returned (.tuple #[.slice A' n' c', .int .i64 0]) /\ Ow w.heap.size w' A' n' c' (bs ++ txtB s) /\ Hid (Below w.heap.size w w') := by
 obtain ⟨i0, hi, hz0, hz1, hz2⟩ := info_parts Tryz.info5
 have HO := iq h
 clear h
 have hso : ¬ ((s.size : Int) > 65535) := by omega
 have hsn : ¬ (65535 < s.size) := by omega
 have hsm : ¬ ((65535 : Int) < (s.size : Int)) := by omega
 have hw : (s.size : Int) % 65536 = (s.size : Int) := by omega
 go_enter Tryz.func120, Tryz.ntmps120
 go_wp2_with (first
  | (go_at_call 148; refine (rhalf_ow s.size HO.out hn hs).mono ?_; rintro e w' ⟨A1, c1, rfl, ho, hb⟩)
  | (at_builtin; go_must (refine Lib.wpList_append_own_string _ rfl (.tmp 13) (.tmp 14) 23 9 rfl w.heap.size 5 i0 Tryz.underlying23 Tryz.underlying9 hi hz0 hz1 hz2 _ (n + 2) _ rfl ho.1 s rfl (by unfold maxLen; omega) (by omega) hb.out.size ?_); intro v' w2 hv2 hg2 _; obtain ⟨A', c', rfl, hsl⟩ := Oct.own_shape hv2))
 go_ret2
 refine ⟨_, _, _, rfl, ⟨?_, hsl⟩, iq (hb.out.grown hg2 hb.out.size (fun k hk => (ho.1.lt k hk).1))⟩
 rw [txtB, <- List.append_assoc, u8s_append]
 exact hv2
open Go.RowKit
theorem request_rf (r : MReq) (B n c : Nat) (w : World) (A : Option Addr) (bs : List UInt8) (h : Ow B w A n c bs) (hB : B <= w.heap.size) (hn : n <= 1001000) (hr : reqMay r = true) :
  Calls Tryz.prog 85 #[.slice A n c, .agg (reqC r).toArray] w fun E w' => ∃ A' n' c', E = .returned (.slice A' n' c') /\ Ow w.heap.size w' A' n' c' (bs ++ reqB r) /\ Hid (Below B w w') := by
 have hl := h.len
 have HBB := iq hB
 have HO := iq h
 have HM : Hid ((1 <= r.client /\ r.client <= 8) /\ r.op.key.size <= 32 /\ r.op.to.size <= 32 /\ r.op.value.size <= 128 /\ r.op.old.size <= 128) := iq (by
  simp only [reqMay, opMay, Bool.and_eq_true, decide_eq_true_eq] at hr
  exact ⟨hr.1, hr.2.2.1.1, hr.2.2.1.2, hr.2.2.2.1, hr.2.2.2.2⟩)
 have hcw : IntKind.u8.wrap r.client = ((byteOf r.client).toNat : Int) := by
  rw [byteOf_val (by have := HM.out.1; omega)]
  have := HM.out.1
  unfold IntKind.wrap
  simp [IntKind.bits, IntKind.signed]
  omega
 have L := req_lies (range_box w (reqC r) 32)
 have c0 : (w.alloc (.cells (reqC r).toArray 32)).cell? ⟨w.heap.size, 0, none⟩ = some (.int .i64 r.client) := L.client
 have c2 : (w.alloc (.cells (reqC r).toArray 32)).cell? ⟨w.heap.size, 2, none⟩ = some (.int .u8 (r.op.kind.toNat : Int)) := L.op.kind
 have H0 : Hid (RqAt B w (reqC r) (w.alloc (.cells (reqC r).toArray 32))) := iq ⟨(bl.alloc (Nat.le_refl _) _).mono hB, by simp, range_box w (reqC r) 32⟩
 clear L hr h
 go_enter Tryz.func85, Tryz.ntmps85
 go_wp2_with (at_builtin; go_must (refine wpList_append_made rfl (.tmp 5) (.tmp 12) rfl B n 2 (w.heap.size + 1) (.slice A n c) bs [byteOf r.client, r.op.kind] _ (by simp) rfl rfl (HO.out.1.alloc _) (Nat.le_trans HBB.out (by simp)) rfl rfl (by omega) ?_); intro A1 c1 w1 K1 G1)
 have HQ0 := iq ((H0.out.grown HBB.out HO.out.1 G1.out))
 have O1 : Hid (Ow B w1 A1 (n + 2) c1 (bs ++ [byteOf r.client, r.op.kind])) := iq K1.out
 clear K1 G1 c0 c2 H0 hcw
 refine wp_region_any (by kernel_rfl) ?_
 have HQ := iq (HQ0.out.drewN 1)
 have O3 : Hid (Ow B (w1.drewN 1) A1 (n + 2) c1 (bs ++ [byteOf r.client, r.op.kind])) := iq (O1.out.below (below_drewN bl 1))
 clear HQ0 O1
 change wpAny _ _ _ _ _ _ _ (w1.drewN 1)
 generalize w1.drewN 1 = w3 at HQ O3 ⊢
 refine wpAny_of_held (S := fun W => Below w3.heap.size w3 W) _ _ _ _ ?_
 refine tk 0 ⟨some 14, .move (.tmp 0), _, _, _, none⟩ (.slice A1 (n + 2) c1) rfl (by kernel_rfl) (fun _ _ _ => id) bl (fun W hSW => by go_simp) ?_
 try simp only [Act.put, l0, l1, l2]
 refine tk 1 ⟨some 15, .fieldAddr 32 (.tmp 3) 1, _, _, _, none⟩ (.pointer (some ⟨w.heap.size, 1, none⟩)) rfl (by kernel_rfl) (fun _ _ _ => id) bl (fun W hSW => by go_simp) ?_
 try simp only [pu, l0, l1, l2]
 refine tk 2 ⟨some 16, .load 25 (.tmp 15), _, _, _, none⟩ (.int .u64 (r.time : Int)) rfl (by kernel_rfl) (fun _ _ _ => id) bl (fun W hSW => by have hv := (hSW.cell (p := ⟨w.heap.size, 1, none⟩) HQ.out.lt).trans (req_lies HQ.out.src).time; go_simp) ?_
 try simp only [pu, l0, l1, l2]
 refine tk 4 ⟨some 18, .fieldAddr 32 (.tmp 3) 2, _, _, _, none⟩ (.pointer (some ⟨w.heap.size, 2, none⟩)) rfl (by kernel_rfl) (fun _ _ _ => id) bl (fun W hSW => by go_simp) ?_
 try simp only [pu, l0, l1, l2]
 refine tk 5 ⟨some 19, .fieldAddr 29 (.tmp 18) 5, _, _, _, none⟩ (.pointer (some ⟨w.heap.size, 7, none⟩)) rfl (by kernel_rfl) (fun _ _ _ => id) bl (fun W hSW => by go_simp) ?_
 try simp only [pu, l0, l1, l2]
 refine tk 6 ⟨some 20, .load 25 (.tmp 19), _, _, _, none⟩ (.int .u64 (r.op.amount : Int)) rfl (by kernel_rfl) (fun _ _ _ => id) bl (fun W hSW => by have hv := (hSW.cell (p := ⟨w.heap.size, 7, none⟩) HQ.out.lt).trans (req_lies HQ.out.src).op.amount; go_simp) ?_
 try simp only [pu, l0, l1, l2]
 refine rd1 3 ⟨some 17, .call { callee := .value (.func 84), args := #[.tmp 14, .tmp 16], argTypes := #[23, 25] }, _, _, _, none⟩ (by kernel_rfl) rfl fun K' hK' => ?_
 go_simp
 go_at_call 84
 refine (rword_ow r.time O3.out (by omega)).mono ?_
 rintro E w4 ⟨Aw4, nw4, cw4, rfl, Hw4, bw4⟩
 have lw4 := Hw4.len
 have Ow4 := iq Hw4
 clear Hw4
 simp only [List.length_append, be_length, List.length_cons, List.length_nil] at lw4
 refine hK'.out _ _ (bw4.out) (fun _ => wpAnyH_next (bw4.out) ?_)
 clear hK' K'
 try simp only [Act.put, l0, l1, l2]
 refine rd1 7 ⟨some 21, .call { callee := .value (.func 84), args := #[.tmp 17, .tmp 20], argTypes := #[23, 25] }, _, _, _, none⟩ (by kernel_rfl) rfl fun K' hK' => ?_
 go_simp
 go_at_call 84
 refine (rword_ow r.op.amount Ow4.out (by omega)).mono ?_
 rintro E w5 ⟨Aw5, nw5, cw5, rfl, Hw5, bw5⟩
 have lw5 := Hw5.len
 have Ow5 := iq Hw5
 clear Hw5
 simp only [List.length_append, be_length, List.length_cons, List.length_nil] at lw5
 refine hK'.out _ _ (bw5.out) (fun _ => wpAnyH_next (bw5.out) ?_)
 clear hK' K'
 try simp only [Act.put, l0, l1, l2]
 refine tk 8 ⟨some 0, .assign (.tmp 21), _, _, _, none⟩ (.slice Aw5 nw5 cw5) rfl (by kernel_rfl) (fun _ _ _ => id) bl (fun W hSW => by go_simp) ?_
 try simp only [pu, l0, l1]
 refine wpAnyH_done (by kernel_rfl) ?_ _
 have HQ5 := iq ((HQ.out.next HBB.out bw4.out).next HBB.out bw5.out)
 have HOW : Hid (Ow (w.heap.size + 1) w5 Aw5 nw5 cw5 (bs ++ [byteOf r.client, r.op.kind] ++ be 8 r.time ++ be 8 r.op.amount)) := iq (Ow5.out.low (by have := HQ.out.lt; have := bw4.out.size; omega))
 clear HQ O3 Ow4 Ow5 bw4 bw5
 have k3 : w5.cell? ⟨w.heap.size, 3, none⟩ = some (.string r.op.key) := (req_lies HQ5.out.src).op.key
 go_wp2_with (first | (go_at_call 120; (with_reducible refine (rtext_ow r.op.key HOW.out (by have := HM.out; omega) (by have := HM.out; omega)).mono ?_); rintro E w6 ⟨Aw6, nw6, cw6, rfl, Hw6, bw6⟩; have lw6 := Hw6.len; have Ow6 := iq Hw6; clear Hw6; simp only [List.length_append, be_length, List.length_cons, List.length_nil, txtB_len] at lw6; have HQw6 := iq (HQ5.out.next HBB.out bw6.out); have kw6 : w6.cell? ⟨w.heap.size, 4, none⟩ = some (.string r.op.value) := (req_lies HQw6.out.src).op.value) | (go_at_call 120; (with_reducible refine (rtext_ow r.op.value Ow6.out (by have := HM.out; omega) (by have := HM.out; omega)).mono ?_); rintro E w7 ⟨Aw7, nw7, cw7, rfl, Hw7, bw7⟩; have lw7 := Hw7.len; have Ow7 := iq Hw7; clear Hw7; simp only [List.length_append, be_length, List.length_cons, List.length_nil, txtB_len] at lw7; have HQw7 := iq (HQw6.out.next HBB.out bw7.out); have kw7 : w7.cell? ⟨w.heap.size, 5, none⟩ = some (.string r.op.old) := (req_lies HQw7.out.src).op.old) | (go_at_call 120; (with_reducible refine (rtext_ow r.op.old Ow7.out (by have := HM.out; omega) (by have := HM.out; omega)).mono ?_); rintro E w8 ⟨Aw8, nw8, cw8, rfl, Hw8, bw8⟩; have lw8 := Hw8.len; have Ow8 := iq Hw8; clear Hw8; simp only [List.length_append, be_length, List.length_cons, List.length_nil, txtB_len] at lw8; have HQw8 := iq (HQw7.out.next HBB.out bw8.out); have kw8 : w8.cell? ⟨w.heap.size, 6, none⟩ = some (.string r.op.to) := (req_lies HQw8.out.src).op.to) | (go_at_call 120; (with_reducible refine (rtext_ow r.op.to Ow8.out (by have := HM.out; omega) (by have := HM.out; omega)).mono ?_); rintro E w9 ⟨Aw9, nw9, cw9, rfl, Hw9, bw9⟩; have lw9 := Hw9.len; have Ow9 := iq Hw9; clear Hw9; simp only [List.length_append, be_length, List.length_cons, List.length_nil, txtB_len] at lw9; have HQw9 := iq (HQw8.out.next HBB.out bw9.out)))
 go_ret
 have HE : bs ++ [byteOf r.client, r.op.kind] ++ be 8 r.time ++ be 8 r.op.amount ++ txtB r.op.key ++ txtB r.op.value ++ txtB r.op.old ++ txtB r.op.to = bs ++ reqB r := by simp [reqB]
 exact ⟨_, _, _, rfl, by rw [<- HE]; exact Ow9.out.low (by have := HQw8.out.lt; omega), iq HQw9.out.bel⟩
open Go.RowKit
theorem zero_req (w : World) : (zeroValue 32).run Tryz.prog w = .ok (.agg (reqC zeroReq).toArray) w := by kernel_rfl
theorem same_tags (a b : List UInt8) (w : World) (ha : a.length = 32) (hb : b.length = 32) : Calls Tryz.prog 125 #[.agg (u8s a).toArray, .agg (u8s b).toArray] w fun E w' => E = .returned (.bool (decide (a = b))) /\ Below w.heap.size w w' := by
 by_cases h : a = b
 ·subst h
  simpa using same_yes a w ha
 ·simpa [h] using same_no a b w ha hb h
def tagReq (r : MReq) : List UInt8 := hmac (cliKey r.client) (reqB r)
def signR (r : MReq) : MReq := if reqMay r then { r with tag := tagReq r } else r
def authR (r : MReq) : Bool := reqMay r && decide (r.tag = tagReq r)
theorem tagReq_len (r : MReq) : (tagReq r).length = 32 := hmac_length _ _
theorem set_rtag (r : MReq) (t : List UInt8) (hr : r.tag.length = 32) (ht : t.length = 32) : setAll (reqC r) 8 (u8s t) = reqC { r with tag := t } := by
 have e : ∀ t : List UInt8, reqC { r with tag := t } = (.int .i64 r.client :: .int .u64 (r.time : Int) :: opC r.op) ++ (u8s t ++ []) := fun t => by simp [reqC]
 have := setAll_mid (u8s t) (.int .i64 r.client :: .int .u64 (r.time : Int) :: opC r.op) (u8s r.tag) [] (by rw [u8s_length, u8s_length, hr, ht])
 rw [<- e t, <- e r.tag] at this
 exact this
theorem signed_rfby (r : MReq) (z : Bool) (key out : List UInt8) (w : World) (hr : r.tag.length = 32) (ho : out.length = 32)
  (HA : Hid (∀ W, Below w.heap.size w W -> Calls Tryz.prog 86 #[.agg (reqC r).toArray] W fun E w' => E = .returned (.bool z) /\ Hid (Below W.heap.size W w')))
  (HC : Hid (∀ W, Below w.heap.size w W -> Calls Tryz.prog 87 #[.int .i64 r.client] W fun E w' => ∃ A n c, E = .returned (.slice A n c) /\ Hid (Rd (fun _ => True) w' A n key /\ Sl A n c) /\ Hid (Below W.heap.size W w')))
  (HP : Hid (z = true -> ∀ W, Below w.heap.size w W -> Calls Tryz.prog 85 #[.slice none 0 0, .agg (reqC r).toArray] W fun E w' => ∃ A n c, E = .returned (.slice A n c) /\ Hid (Ow W.heap.size w' A n c (reqB r)) /\ Hid (Below W.heap.size W w')))
  (HO : Hid (z = true -> ∀ (W : World) (A : Option Addr) (n c : Nat) (A' : Option Addr) (n' c' : Nat), Below w.heap.size w W -> Rd (fun _ => True) W A n key /\ Sl A n c -> Ow 0 W A' n' c' (reqB r) -> Calls Tryz.prog 82 #[.slice A n c, .slice A' n' c'] W fun E w' => E = .returned (.agg (u8s out).toArray) /\ Hid (Below W.heap.size W w'))) :
  Calls Tryz.prog 56 #[.agg (reqC r).toArray] w fun E w' => E = .returned (.agg (reqC (if z then { r with tag := out } else r)).toArray) /\ Hid (Below w.heap.size w w') := by
 have HLR := iq hr
 have HLO := iq ho
 have hr2 : ({ r with tag := out } : MReq).tag.length = 32 := ho
 have HIR : Hid ((Tryz.prog.info? 32).map (·.size) = some (reqC r).length) := iq (by rw [reqC_length hr]; exact Tryz.is32)
 have HIR2 : Hid ((Tryz.prog.info? 32).map (·.size) = some (reqC { r with tag := out }).length) := iq (by rw [reqC_length hr2]; exact Tryz.is32)
 have HJ : Hid ((Tryz.prog.info? 30).map (·.size) = some (u8s out).length) := iq (by rw [u8s_length, ho]; exact Tryz.size30)
 have HL : Hid (0 + (reqC r).length <= (reqC zeroReq).length /\ setAll (reqC zeroReq) 0 (reqC r) = reqC r) := iq ⟨by rw [reqC_length hr, reqC_length (r := zeroReq) rfl]; omega, setAll_all (by rw [reqC_length hr, reqC_length (r := zeroReq) rfl])⟩
 have HL2 : Hid (0 + (reqC { r with tag := out }).length <= (reqC zeroReq).length /\ setAll (reqC zeroReq) 0 (reqC { r with tag := out }) = reqC { r with tag := out }) := iq ⟨by rw [reqC_length hr2, reqC_length (r := zeroReq) rfl]; omega, setAll_all (by rw [reqC_length hr2, reqC_length (r := zeroReq) rfl])⟩
 have HLT : Hid (8 + (u8s out).length <= (reqC r).length /\ setAll (reqC r) 8 (u8s out) = reqC { r with tag := out }) := iq ⟨by rw [reqC_length hr, u8s_length, ho]; omega, set_rtag r out hr ho⟩
 have hz : ∀ w, (zeroValue 32).run Tryz.prog w = .ok (.agg (reqC zeroReq).toArray) w := zero_req
 have H0 := iq (BxR.start w (reqC r) (reqC zeroReq) 32 32)
 clear hr hr2 ho
 cases z
 ·go_enter Tryz.func56, Tryz.ntmps56
  go_wp2_with (first | ((with_reducible refine wpList_load_midG ?_ 32 (.tmp 1) ?_ w.heap.size 0 ?_ (reqC r) _ ?_ Tryz.underlying32 ?_ ?_ ?_); rfl; rfl; rfl; exact range_of H0.out.box; rfl; exact HIR.out) | (go_at_call 86; refine (HA.out _ H0.out.bel).mono ?_; rintro E w1 ⟨rfl, hb1⟩; have H1 := iq (H0.out.next hb1.out)) | ((with_reducible refine wpList_load_midG ?_ 32 (.tmp 1) ?_ w.heap.size 0 ?_ (reqC r) _ ?_ Tryz.underlying32 ?_ ?_ ?_); rfl; rfl; rfl; exact range_of H1.out.box; rfl; exact HIR.out) | (refine wpList_store_part rfl 32 (.tmp 2) (.tmp 12) rfl (w.heap.size + 1) 0 (reqC zeroReq) (reqC r) (reqC r) 32 H1.out.res HL.out.1 HL.out.2 rfl rfl HIR.out (one_reqC _) ?_; intro w9 G9))
  exact bodyPost_ret (ret_range (cs := reqC r) rfl rfl (range_of G9.out.1) Tryz.underlying32 rfl HIR.out) rfl ⟨rfl, iq (H1.out.bel.grown G9.out.2 H1.out.bel.size (fun k hk => by injection hk with hk; omega))⟩
 ·go_enter Tryz.func56, Tryz.ntmps56
  go_wp2_with (first | ((with_reducible refine wpList_load_midG ?_ 32 (.tmp 1) ?_ w.heap.size 0 ?_ (reqC r) _ ?_ Tryz.underlying32 ?_ ?_ ?_); rfl; rfl; rfl; exact range_of H0.out.box; rfl; exact HIR.out) | (go_at_call 86; refine (HA.out _ H0.out.bel).mono ?_; rintro E w1 ⟨rfl, hb1⟩; have H1 := iq (H0.out.next hb1.out)))
  refine wp_region_any (by kernel_rfl) ?_
  have H3 := iq (H1.out.drewN 1)
  change wpAny _ _ _ _ _ _ _ (w1.drewN 1)
  generalize w1.drewN 1 = w3 at H3 ⊢
  refine wpAny_of_held (S := fun W => ∃ t : List UInt8, t.length = 32 /\ W.rangeAt w.heap.size 0 (reqC { r with tag := t })) _ _ _ _ ?_
  refine tk 0 ⟨some 5, .fieldAddr 32 (.tmp 1) 0, _, _, _, none⟩ (.pointer (some ⟨w.heap.size, 0, none⟩)) rfl (by kernel_rfl) (fun _ _ _ => id) (⟨r.tag, HLR.out, range_of H3.out.box⟩) (fun W hSW => by go_simp) ?_
  try simp only [Act.put, l0, l1, l2]
  refine tk 1 ⟨some 6, .load 3 (.tmp 5), _, _, _, none⟩ (.int .i64 r.client) rfl (by kernel_rfl) (fun _ _ _ => id) (⟨r.tag, HLR.out, range_of H3.out.box⟩) (fun W hSW => by obtain ⟨t, ht, hx⟩ := hSW; have hv : W.cell? ⟨w.heap.size, 0, none⟩ = some (.int .i64 r.client) := (req_lies hx).client; go_simp) ?_
  try simp only [pu, l0, l1, l2]
  refine rdy [2, 3] (by kernel_rfl) ?_
  refine (AllReadyH.cons (o := ⟨some 7, .call { callee := .value (.func 87), args := #[.tmp 6], argTypes := #[3] }, _, _, _, none⟩) rfl (fun K' hK' => ?_) (AllReadyH.cons (o := ⟨some 8, .load 32 (.tmp 1), _, _, _, none⟩) rfl (fun K' hK' => ?_) AllReadyH.nil))
  ·go_simp
   go_at_call 87
   refine (HC.out w3 H3.out.bel).mono ?_
   rintro E w4 ⟨A4, n4, c4, rfl, K4, b4⟩
   have H4 := iq (H3.out.next b4.out)
   refine hK'.out _ _ (⟨r.tag, HLR.out, range_of H4.out.box⟩) (fun _ => ?_)
   clear hK' K'
   try simp only [Act.put, l0, l1, l2]
   refine rd1 3 ⟨some 8, .load 32 (.tmp 1), _, _, _, none⟩ (by kernel_rfl) rfl fun K' hK' => ?_
   refine step_load_mid rfl 32 (.tmp 1) rfl w.heap.size 0 rfl (reqC r) _ (range_of H4.out.box) Tryz.underlying32 rfl HIR.out ?_
   refine hK'.out _ _ ⟨r.tag, HLR.out, range_of H4.out.box⟩ (fun _ => ?_)
   clear hK' K'
   try simp only [Act.put, l0, l1, l2]
   refine rd1 4 ⟨some 9, .call { callee := .value (.func 85), args := #[.const (.slice none 0 0), .tmp 8], argTypes := #[23, 32] }, _, _, _, none⟩ (by kernel_rfl) rfl fun K' hK' => ?_
   go_simp
   go_at_call 85
   refine (HP.out (by simp) w4 H4.out.bel).mono ?_
   rintro E w5 ⟨A5, n5, c5, rfl, O5, b5⟩
   have H5 := iq (H4.out.next b5.out)
   refine hK'.out _ _ (⟨r.tag, HLR.out, range_of H5.out.box⟩) (fun _ => ?_)
   clear hK' K'
   try simp only [Act.put, l0, l1, l2]
   refine rd1 5 ⟨some 10, .call { callee := .value (.func 82), args := #[.tmp 7, .tmp 9], argTypes := #[23, 23] }, _, _, _, none⟩ (by kernel_rfl) rfl fun K' hK' => ?_
   go_simp
   go_at_call 82
   refine (HO.out (by simp) w5 A4 n4 c4 A5 n5 c5 H5.out.bel ⟨K4.out.1.below b5.out (fun _ h _ => h), K4.out.2⟩ (O5.out.low (Nat.zero_le _))).mono ?_
   rintro E w6 ⟨rfl, b6⟩
   have H6 := iq (H5.out.next b6.out)
   refine hK'.out _ _ (⟨r.tag, HLR.out, range_of H6.out.box⟩) (fun _ => ?_)
   clear hK' K'
   try simp only [Act.put, l0, l1, l2]
   refine tk 6 ⟨some 11, .fieldAddr 32 (.tmp 1) 3, _, _, _, none⟩ (.pointer (some ⟨w.heap.size, 8, none⟩)) rfl (by kernel_rfl) (fun _ _ _ => id) (⟨r.tag, HLR.out, range_of H6.out.box⟩) (fun W hSW => by go_simp) ?_
   try simp only [pu, l0, l1, l2]
   refine rd1 7 ⟨none, .store 30 (.tmp 11) (.tmp 10), _, _, _, none⟩ (by kernel_rfl) rfl fun K' hK' => ?_
   refine step_store_cells rfl 30 (.tmp 11) (.tmp 10) rfl w.heap.size 8 (u8s out) rfl rfl (there_block H6.out.box 8 _ HLT.out.1) HJ.out (u8s_one _) ?_
   have H7 := iq (H6.out.put (put_part H6.out.box HLT.out.2))
   refine hK'.out _ _ ⟨out, HLO.out, range_of H7.out.box⟩ (fun _ => ?_)
   clear hK' K'
   refine wpAnyH_done (by kernel_rfl) ?_ _
   generalize w6.setCells w.heap.size 8 (u8s out) = w7 at H7 ⊢
   go_wp2_with (first | ((with_reducible refine wpList_load_midG ?_ 32 (.tmp 1) ?_ w.heap.size 0 ?_ (reqC { r with tag := out }) _ ?_ Tryz.underlying32 ?_ ?_ ?_); rfl; rfl; rfl; exact range_of H7.out.box; rfl; exact HIR2.out) | (refine wpList_store_part rfl 32 (.tmp 2) (.tmp 12) rfl (w.heap.size + 1) 0 (reqC zeroReq) (reqC { r with tag := out }) (reqC { r with tag := out }) 32 H7.out.res HL2.out.1 HL2.out.2 rfl rfl HIR2.out (one_reqC _) ?_; intro w9 G9))
   exact bodyPost_ret (ret_range (cs := reqC { r with tag := out }) rfl rfl (range_of G9.out.1) Tryz.underlying32 rfl HIR2.out) rfl ⟨rfl, iq (H7.out.bel.grown G9.out.2 H7.out.bel.size (fun k hk => by injection hk with hk; omega))⟩
  ·refine step_load_mid rfl 32 (.tmp 1) rfl w.heap.size 0 rfl (reqC r) _ (range_of H3.out.box) Tryz.underlying32 rfl HIR.out ?_
   refine hK'.out _ _ ⟨r.tag, HLR.out, range_of H3.out.box⟩ (fun _ => ?_)
   clear hK' K'
   try simp only [Act.put, l0, l1, l2]
   refine rd1 2 ⟨some 7, .call { callee := .value (.func 87), args := #[.tmp 6], argTypes := #[3] }, _, _, _, none⟩ (by kernel_rfl) rfl fun K' hK' => ?_
   go_simp
   go_at_call 87
   refine (HC.out w3 H3.out.bel).mono ?_
   rintro E w4 ⟨A4, n4, c4, rfl, K4, b4⟩
   have H4 := iq (H3.out.next b4.out)
   refine hK'.out _ _ (⟨r.tag, HLR.out, range_of H4.out.box⟩) (fun _ => ?_)
   clear hK' K'
   try simp only [Act.put, l0, l1, l2]
   refine rd1 4 ⟨some 9, .call { callee := .value (.func 85), args := #[.const (.slice none 0 0), .tmp 8], argTypes := #[23, 32] }, _, _, _, none⟩ (by kernel_rfl) rfl fun K' hK' => ?_
   go_simp
   go_at_call 85
   refine (HP.out (by simp) w4 H4.out.bel).mono ?_
   rintro E w5 ⟨A5, n5, c5, rfl, O5, b5⟩
   have H5 := iq (H4.out.next b5.out)
   refine hK'.out _ _ (⟨r.tag, HLR.out, range_of H5.out.box⟩) (fun _ => ?_)
   clear hK' K'
   try simp only [Act.put, l0, l1, l2]
   refine rd1 5 ⟨some 10, .call { callee := .value (.func 82), args := #[.tmp 7, .tmp 9], argTypes := #[23, 23] }, _, _, _, none⟩ (by kernel_rfl) rfl fun K' hK' => ?_
   go_simp
   go_at_call 82
   refine (HO.out (by simp) w5 A4 n4 c4 A5 n5 c5 H5.out.bel ⟨K4.out.1.below b5.out (fun _ h _ => h), K4.out.2⟩ (O5.out.low (Nat.zero_le _))).mono ?_
   rintro E w6 ⟨rfl, b6⟩
   have H6 := iq (H5.out.next b6.out)
   refine hK'.out _ _ (⟨r.tag, HLR.out, range_of H6.out.box⟩) (fun _ => ?_)
   clear hK' K'
   try simp only [Act.put, l0, l1, l2]
   refine tk 6 ⟨some 11, .fieldAddr 32 (.tmp 1) 3, _, _, _, none⟩ (.pointer (some ⟨w.heap.size, 8, none⟩)) rfl (by kernel_rfl) (fun _ _ _ => id) (⟨r.tag, HLR.out, range_of H6.out.box⟩) (fun W hSW => by go_simp) ?_
   try simp only [pu, l0, l1, l2]
   refine rd1 7 ⟨none, .store 30 (.tmp 11) (.tmp 10), _, _, _, none⟩ (by kernel_rfl) rfl fun K' hK' => ?_
   refine step_store_cells rfl 30 (.tmp 11) (.tmp 10) rfl w.heap.size 8 (u8s out) rfl rfl (there_block H6.out.box 8 _ HLT.out.1) HJ.out (u8s_one _) ?_
   have H7 := iq (H6.out.put (put_part H6.out.box HLT.out.2))
   refine hK'.out _ _ ⟨out, HLO.out, range_of H7.out.box⟩ (fun _ => ?_)
   clear hK' K'
   refine wpAnyH_done (by kernel_rfl) ?_ _
   generalize w6.setCells w.heap.size 8 (u8s out) = w7 at H7 ⊢
   go_wp2_with (first | ((with_reducible refine wpList_load_midG ?_ 32 (.tmp 1) ?_ w.heap.size 0 ?_ (reqC { r with tag := out }) _ ?_ Tryz.underlying32 ?_ ?_ ?_); rfl; rfl; rfl; exact range_of H7.out.box; rfl; exact HIR2.out) | (refine wpList_store_part rfl 32 (.tmp 2) (.tmp 12) rfl (w.heap.size + 1) 0 (reqC zeroReq) (reqC { r with tag := out }) (reqC { r with tag := out }) 32 H7.out.res HL2.out.1 HL2.out.2 rfl rfl HIR2.out (one_reqC _) ?_; intro w9 G9))
   exact bodyPost_ret (ret_range (cs := reqC { r with tag := out }) rfl rfl (range_of G9.out.1) Tryz.underlying32 rfl HIR2.out) rfl ⟨rfl, iq (H7.out.bel.grown G9.out.2 H7.out.bel.size (fun k hk => by injection hk with hk; omega))⟩
open Go.RowKit
theorem signed_rf (r : MReq) (w : World) (hr : r.tag.length = 32) (hk : KIs w) (h0 : 0 < w.heap.size) :
  Calls Tryz.prog 56 #[.agg (reqC r).toArray] w fun E w' => E = .returned (.agg (reqC (signR r)).toArray) /\ Hid (Below w.heap.size w w') := by
 have hkl : (cliKey r.client).length <= 32 := keyI_length _ _ _
 refine signed_rfby r (reqMay r) (cliKey r.client) (tagReq r) w hr (tagReq_len r) (iq fun W _ => (asked_rf r W).mono fun _ _ hE => ⟨hE.1, iq hE.2⟩)
  (iq fun W h => (refClient_any r.client W (hk.below h h0) (Nat.lt_of_lt_of_le h0 h.size)).mono fun _ _ ⟨A, c, he, hx, hb⟩ => ⟨A, _, c, he, iq ⟨hx.out.1.mono fun _ _ _ => trivial, hx.out.2⟩, iq hb⟩)
  (iq fun hm W h => (request_rf r W.heap.size 0 0 W none [] (Ow.nil _ _) (Nat.le_refl _) (by omega) hm).mono fun _ _ ⟨A, n, c, he, hx, hb⟩ => ⟨A, n, c, he, iq (by simpa using hx), hb⟩)
  (iq fun hm W A n c A' n' c' h h1 h2 => ?_)
 have e1 := h1.1.1
 have e2 := h2.len
 have hrl := reqB_len hm
 exact (refOf_any (cliKey r.client) (reqB r) A n c A' n' c' W (by omega) (by omega) h1.1 h1.2 h2.rd h2.2 (hk.below h h0) (Nat.lt_of_lt_of_le h0 h.size)).mono fun _ _ hE => ⟨hE.1, iq hE.2⟩
end Go.Proofs.YtknpcmadghkaaaaGreatDoor.Sh
