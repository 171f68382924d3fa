/- Laws and walks. -/
import Derived.Test.YtknpcmadghkaaaaGreatDoorLvw
set_option maxHeartbeats 16000000
set_option maxRecDepth 100000
namespace Go.Proofs.YtknpcmadghkaaaaGreatDoor.Sh
open Go.RowKit
theorem take_nil (w : World) (m : MMsg) : Calls Tryz.prog 15 #[.pointer none, .agg (msgC m).toArray] w fun E w' => E = .returned (.tuple #[.bool false, .int .i64 2]) /\ Below w.heap.size w w' := by
 have HB : Hid (Below w.heap.size w (w.alloc (.cells (msgC m).toArray 39))) := iq (bl.alloc (Nat.le_refl _) _)
 go_enter Tryz.func15, Tryz.ntmps15
 go_wp2_with fail
 exact bodyPost_ret (results_tmp2 rfl _ _ _) rfl ⟨rfl, HB.out⟩
open Go.RowKit
theorem exec_idx {P : Program} {o : Oper} {f : Operand -> Value} {w : World} {t : TypeId} {x y : Operand} {u v r : Value} (ho : o.op = Op.index t x y) (hx : f x = u) (hy : f y = v) (hr : (Instr.index t u v).run P w = .ok r w) : (execOp f o).run P w = .ok (.value r) w := by
 unfold execOp
 simp [ho, hx, hy, hr]
theorem kind_at1 (W : World) : (Instr.index 110 (.agg (kindC .nilFunc).toArray) (.int .u8 1)).run Tryz.prog W = .ok (fv 64) W := by kernel_rfl
theorem kind_at2 (W : World) : (Instr.index 110 (.agg (kindC .nilFunc).toArray) (.int .u8 2)).run Tryz.prog W = .ok (fv 65) W := by kernel_rfl
theorem kind_at3 (W : World) : (Instr.index 110 (.agg (kindC .nilFunc).toArray) (.int .u8 3)).run Tryz.prog W = .ok (fv 66) W := by kernel_rfl
theorem kind_at4 (W : World) : (Instr.index 110 (.agg (kindC .nilFunc).toArray) (.int .u8 4)).run Tryz.prog W = .ok (fv 67) W := by kernel_rfl
theorem kind_at5 (W : World) : (Instr.index 110 (.agg (kindC .nilFunc).toArray) (.int .u8 5)).run Tryz.prog W = .ok (fv 68) W := by kernel_rfl
theorem kind_at6 (W : World) : (Instr.index 110 (.agg (kindC .nilFunc).toArray) (.int .u8 6)).run Tryz.prog W = .ok (fv 69) W := by kernel_rfl
theorem kind_at {kd : Nat} (h1 : 1 <= kd) (h6 : kd <= 6) (W : World) : (Instr.index 110 (.agg (kindC .nilFunc).toArray) (.int .u8 (kd : Int))).run Tryz.prog W = .ok (fv (63 + kd)) W := by
 have : kd = 1 \/ kd = 2 \/ kd = 3 \/ kd = 4 \/ kd = 5 \/ kd = 6 := by omega
 rcases this with rfl | rfl | rfl | rfl | rfl | rfl
 ·exact kind_at1 W
 ·exact kind_at2 W
 ·exact kind_at3 W
 ·exact kind_at4 W
 ·exact kind_at5 W
 ·exact kind_at6 W
theorem may_o {m : MMsg} (h : m.may) : 1 <= m.origin /\ m.origin <= 11 /\ 1 <= m.number /\ m.number <= 65536 := by
 have h1 := of_decide_eq_true h.1
 have h2 := of_decide_eq_true h.2.1.1
 exact ⟨h1.1, h1.2, h2.1, h2.2⟩
theorem nxt_num {M : MLogs} {m : MMsg} {o : Nat} {s : MStr} (hs : M.strs[o]? = some s) (ho : m.origin = (o : Int) + 1) (h : nxt M m = true) : m.number = s.tak + 1 := by
 simp only [nxt, Bool.and_eq_true, decide_eq_true_eq] at h
 rw [h.2, show m.origin.toNat - 1 = o by omega, tk_some hs]
open Classical in
theorem take_go {v w : World} {A : LA} {M : MLogs} {os : List Thing} (H : LogFr v w A M os) (m : MMsg) (hm : m.Wf) (hq : Prs w m.body.qa m.body.qs) (hn : m.body.qs.length <= 140737488355328) (h : m.may) (h2 : nms M.n m = true) {o : Nat} {s : MStr} (hs : M.strs[o]? = some s) (ho : m.origin = (o : Int) + 1) (h3 : nxt M m = true)
  {kd : Nat} (hkd : m.body.kind.toNat = kd) (hk1 : 1 <= kd) (hk6 : kd <= 6) (hE : ∀ args W, (callFunc (63 + kd) args).run Tryz.prog W = .ok (.enter (63 + kd) args) W) (T : Bool × MLogs)
  (HK : ∀ (W : World) (os' : List Thing), LogFr v W A (M.upd o { s with tak := s.tak + 1 }) os' -> Calls Tryz.prog (63 + kd) #[.pointer (some ⟨A.L, 0, none⟩), .agg (msgC m).toArray] W fun E w' => E = .returned (.bool T.1) /\ ∃ A' : LA, A'.L = A.L /\ LogFr v w' A' T.2 os') :
  Calls Tryz.prog 15 #[.pointer (some ⟨A.L, 0, none⟩), .agg (msgC m).toArray] w fun E w' => E = .returned (.tuple #[.bool T.1, .int .i64 0]) /\ ∃ A' : LA, A'.L = A.L /\ LogFr v w' A' T.2 os := by
 obtain ⟨a, ha⟩ := H.sa_at hs
 have hon : o < M.n := (List.getElem?_eq_some_iff.1 hs).1
 have HA := iq ha
 have HS := iq hs
 have H11 : Hid (M.n <= 11 /\ o < M.n) := iq ⟨H.ok.n11, hon⟩
 have HTk : Hid (s.tak < 65536) := iq (by have := nxt_num hs ho h3; have := may_o h; omega)
 have HKK := iq HK
 have HM := iq (fun (W : World) (mb : Nat) (h : W.heap[mb]? = some (.cells (msgC m).toArray 39 (0, 0))) => msg_lies (range_of h) hm)
 have hkw : IntKind.u64.wrap ((s.tak : Int) + 1) = (s.tak : Int) + 1 := by rw [IntKind.wrap_u64]; have := HTk.out; omega
 have HKd := iq (kind_at hk1 hk6)
 have HKt : Hid ((m.body.kind.toNat : Int) = (kd : Int)) := iq (by rw [hkd])
 have H0 := iq (H.push (H.fr.box (msgC m).toArray 39))
 have hB : Below w.heap.size w (w.alloc (.cells (msgC m).toArray 39)) := bl.alloc (Nat.le_refl _) _
 have HI := iq (info_msg hm)
 have HQ := iq (fun (W : World) (hb : Below w.heap.size w W) => hq.below hb)
 have HB := iq hB
 have HMa := iq (may_ms m (w.alloc (.cells (msgC m).toArray 39)) hm (hq.below hB) hn)
 have HW := iq hm
 have HNn := iq hn
 have hd : decide m.may = true := decide_eq_true h
 rw [hd] at HMa
 have HN2 := iq h2
 have HN3 := iq h3
 have HO := iq ho
 have HOn := iq hon
 clear hd h H hB hq hm hn h2 h3 ho hon hs ha HK hkd hk1 hk6
 go_enter Tryz.func15, Tryz.ntmps15
 go_wp2_with (first | ((with_reducible refine wpList_load_midG ?_ 39 (.tmp 3) ?_ w.heap.size 0 ?_ (msgC m) _ ?_ Tryz.underlying39 ?_ ?_ ?_); rotate_left; rfl; rfl; exact range_of H0.out.top; rfl; exact HI.out; rotate_left; rfl) | ((with_reducible refine wpList_load_midG ?_ 39 (.tmp 3) ?_ w.heap.size 0 ?_ (msgC m) _ ?_ Tryz.underlying39 ?_ ?_ ?_); rotate_left; rfl; rfl; exact range_of H2.out.top; rfl; exact HI.out; rotate_left; rfl) | ((with_reducible refine wpList_load_midG ?_ 39 (.tmp 3) ?_ w.heap.size 0 ?_ (msgC m) _ ?_ Tryz.underlying39 ?_ ?_ ?_); rotate_left; rfl; rfl; exact range_of H3.out.top; rfl; exact HI.out; rotate_left; rfl) | (go_at_call 36; refine HMa.out.mono ?_; rintro E w2 ⟨rfl, hb2⟩; have H2 := iq (H0.out.below hb2.out); have HB2 := iq (HB.out.trans (hb2.out.mono HB.out.size)); clear hb2) | (go_at_call 37; refine (names_any (H2.out.hd.cells.1) ((hdT_ok A M).lt _ H2.out.hd A.L (.inl rfl)) m HW.out (HQ.out _ HB2.out) HNn.out).mono ?_; rintro E w3 ⟨rfl, hb3⟩; rw [HN2.out]; have H3 := iq (H2.out.below hb3); have HB3 := iq (HB2.out.trans (hb3.mono HB2.out.size)); clear hb3) | (go_at_call 38; refine (isNext_any H3.out m HW.out HO.out HOn.out).mono ?_; rintro E w4 ⟨rfl, hb4⟩; rw [HN3.out]; have H4 := iq (H3.out.below hb4); have HB4 := iq (HB3.out.trans (hb4.mono HB3.out.size)); clear hb4; have co := (HM.out _ _ H4.out.top).origin) | (go_at_call 39; refine (stream_any H4.out.hd H11.out.1 HOn.out HO.out).mono ?_; rintro E w5 ⟨rfl, rfl⟩; have ct := (H4.out.hd.str HA.out HS.out).1; have cf : World.frozen? _ ⟨A.g, o * 4, none⟩ = false := free_block H4.out.hd.row (o * 4); have GT := iq (H4.out.tick HA.out HS.out HTk.out)))
 have G0 := GT.out
 rw [show (((s.tak + 1 : Nat)) : Int) = (s.tak : Int) + 1 by omega] at G0
 clear GT ct cf co hkw
 refine wp_region_any (by kernel_rfl) ?_
 change wpAny _ _ _ _ _ _ _ (World.drewN _ 1)
 refine held_gen (G := fun W' => wpAny _ _ _ _ _ _ _ W') (fun W' => LogFr v W' A (M.upd o { s with tak := s.tak + 1 }) (blkT w.heap.size (msgC m).toArray 39 :: os)) (G0.drewN 1) (fun y0 hw => ?_)
 have G1 := iq hw
 clear hw G0
 obtain ⟨mb, hmb⟩ : ∃ x, x = w.heap.size := ⟨_, rfl⟩
 rw [<- hmb] at G1 ⊢
 clear hmb
 refine wpAny_of_held (S := fun W => W.heap[mb]? = some (.cells (msgC m).toArray 39 (0, 0))) _ _ _ _ ?_
 refine tk 1 ⟨some 35, .fieldAddr 39 (.tmp 3) 3, _, _, _, none⟩ (.pointer (some ⟨mb, 13, none⟩)) rfl (by kernel_rfl) (fun _ _ _ => id) (G1.out.top) (fun W hSW => by go_simp) ?_
 try simp only [Act.put, l0, l1, l2]
 refine tk 2 ⟨some 36, .fieldAddr 35 (.tmp 35) 0, _, _, _, none⟩ (.pointer (some ⟨mb, 13, none⟩)) rfl (by kernel_rfl) (fun _ _ _ => id) (G1.out.top) (fun W hSW => by go_simp) ?_
 try simp only [pu, l0, l1, l2]
 refine tk 3 ⟨some 37, .load 5 (.tmp 36), _, _, _, none⟩ (.int .u8 (kd : Int)) rfl (by kernel_rfl) (fun _ _ _ => id) (G1.out.top) (fun W hSW => by have hv := (HM.out W mb hSW).body.kind; have hv2 := HKt.out; go_simp) ?_
 try simp only [pu, l0, l1, l2]
 refine tk 5 ⟨some 39, .move (.tmp 0), _, _, _, none⟩ (.pointer (some ⟨A.L, 0, none⟩)) rfl (by kernel_rfl) (fun _ _ _ => id) (G1.out.top) (fun W hSW => by go_simp) ?_
 try simp only [pu, l0, l1, l2]
 refine tk 6 ⟨some 40, .load 39 (.tmp 3), _, _, _, none⟩ (.agg (msgC m).toArray) rfl (by kernel_rfl) (fun _ _ _ => id) (G1.out.top) (fun W hSW => exec_load_mid 39 (.tmp 3) rfl mb 0 rfl (msgC m) _ (range_of hSW) Tryz.underlying39 rfl (HI.out)) ?_
 try simp only [pu, l0, l1, l2]
 refine rd1 0 ⟨some 34, .call { callee := .value (.func 40), args := #[], argTypes := #[] }, _, _, _, none⟩ (by kernel_rfl) rfl fun K' hK' => ?_
 go_simp
 go_at_call 40
 refine (kinds_any _).mono ?_
 rintro E y1 ⟨rfl, hb1⟩
 have G2 := iq (G1.out.below hb1)
 clear hb1 G1
 refine hK'.out _ _ G2.out.top (fun _ => ?_)
 clear hK' K'
 try simp only [Act.put, l0, l1, l2]
 refine tk 4 ⟨some 38, .index 110 (.tmp 34) (.tmp 37), _, _, _, none⟩ (fv (63 + kd)) rfl (by kernel_rfl) (fun _ _ _ => id) (G2.out.top) (fun W hSW => exec_idx rfl rfl rfl (HKd.out W)) ?_
 try simp only [pu, l0, l1, l2]
 refine rd1 7 ⟨some 41, .call { callee := .value (.tmp 38), args := #[.tmp 39, .tmp 40], argTypes := #[46, 39] }, _, _, _, none⟩ (by kernel_rfl) rfl fun K' hK' => ?_
 simp only [fv]
 go_simp
 refine (HKK.out _ _ G2.out).mono ?_
 rintro E y2 ⟨rfl, A1, hA1, hG⟩
 have G3 := iq hG
 have HA1 := iq hA1
 clear hG hA1
 refine hK'.out _ _ G3.out.top (fun _ => ?_)
 clear hK' K'
 try simp only [Act.put, l0, l1, l2]
 refine tk 8 ⟨some 4, .assign (.tmp 41), _, _, _, none⟩ (.bool T.1) rfl (by kernel_rfl) (fun _ _ _ => id) (G3.out.top) (fun W hSW => by go_simp) ?_
 try simp only [pu, l0, l1, l2]
 refine tk 9 ⟨some 5, .assign (.const (.int .i64 0)), _, _, _, none⟩ (.int .i64 0) rfl (by kernel_rfl) (fun _ _ _ => id) (G3.out.top) (fun W hSW => by go_simp) ?_
 try simp only [pu, l0, l1, l2]
 refine wpAnyH_done (by kernel_rfl) ?_ _
 go_wp2_with fail
 exact bodyPost_ret (results_tmp2 rfl _ _ _) rfl ⟨rfl, A1, HA1.out, G3.out.pop⟩
open Go.RowKit
theorem enter64 : ∀ args W, (callFunc (63 + 1) args).run Tryz.prog W = .ok (.enter (63 + 1) args) W := fun _ _ => by kernel_rfl
theorem enter65 : ∀ args W, (callFunc (63 + 2) args).run Tryz.prog W = .ok (.enter (63 + 2) args) W := fun _ _ => by kernel_rfl
theorem take_prep {v w : World} {A : LA} {M : MLogs} {os : List Thing} (H : LogFr v w A M os) (m : MMsg) (hm : m.Wf) (hq : Prs w m.body.qa m.body.qs) (hn : m.body.qs.length <= 140737488355328) (h : m.may) (h2 : nms M.n m = true) {o : Nat} {s : MStr} (hs : M.strs[o]? = some s) (ho : m.origin = (o : Int) + 1) (h3 : nxt M m = true) (hk : m.body.kind.toNat = 1) (hT : tot M.vs < 1000000) (hkk : PkOk (rk m.body.req)) :
  Calls Tryz.prog 15 #[.pointer (some ⟨A.L, 0, none⟩), .agg (msgC m).toArray] w fun E w' => E = .returned (.tuple #[.bool ((M.upd o { s with tak := s.tak + 1 }).prp o m).1, .int .i64 0]) /\ ∃ A' : LA, A'.L = A.L /\ LogFr v w' A' ((M.upd o { s with tak := s.tak + 1 }).prp o m).2 os := by
 have hnum := nxt_num hs ho h3
 refine take_go H m hm hq hn h h2 hs ho h3 hk (by decide) (by decide) enter64 _ fun W os' H' => ?_
 refine prepare_any H' m hm (s := { s with tak := s.tak + 1 }) ?_ ho hnum ?_ hT h.2.2.2.1 hkk
 ·simp [MLogs.upd, (List.getElem?_eq_some_iff.1 hs).1]
 ·intro V hV e p hp
  rw [upd_n] at e
  have := (H.ok.prm V hV).2 p hp
  rw [e, tk_some hs] at this
  omega
theorem take_com {v w : World} {A : LA} {M : MLogs} {os : List Thing} (H : LogFr v w A M os) (m : MMsg) (hm : m.Wf) (hq : Prs w m.body.qa m.body.qs) (hn : m.body.qs.length <= 140737488355328) (h : m.may) (h2 : nms M.n m = true) {o : Nat} {s : MStr} (hs : M.strs[o]? = some s) (ho : m.origin = (o : Int) + 1) (h3 : nxt M m = true) (hk : m.body.kind.toNat = 2) (hT : tot M.vs < 1000000) :
  Calls Tryz.prog 15 #[.pointer (some ⟨A.L, 0, none⟩), .agg (msgC m).toArray] w fun E w' => E = .returned (.tuple #[.bool ((M.upd o { s with tak := s.tak + 1 }).cmt o m).1, .int .i64 0]) /\ ∃ A' : LA, A'.L = A.L /\ LogFr v w' A' ((M.upd o { s with tak := s.tak + 1 }).cmt o m).2 os := by
 refine take_go H m hm hq hn h h2 hs ho h3 hk (by decide) (by decide) enter65 _ fun W os' H' => ?_
 refine commit_any H' m hm (s := { s with tak := s.tak + 1 }) ?_ ho hT h.2.2.2.1
 ·simp [MLogs.upd, (List.getElem?_eq_some_iff.1 hs).1]
open Go.RowKit
theorem Log_at {v w : World} {A : LA} {M : MLogs} {os : List Thing} (H : LogFr v w A M os) (hT : tot M.vs <= 1000000000) {x i : Nat} (hv : x < 18446744073709551616) (hx : vix M.vs x = some i) {V : MV} (hV : M.vs[i]? = some V) :
  Calls Tryz.prog 17 #[.pointer (some ⟨A.L, 0, none⟩), .int .u64 (x : Int)] w fun E w' => ∃ B, E = .returned (.tuple #[.slice (some ⟨B, 0, none⟩) V.log.length V.log.length, .bool true]) /\ LogFr v w' A M (blkT B (flatR V.log).toArray 32 :: os) := by
 obtain ⟨a, V', ha, hV', _, hp⟩ := H.vF_at hx
 obtain rfl : V = V' := Option.some.inj (hV.symm.trans hV')
 have hv1 := view_any H.hd hv
 rw [hp] at hv1
 have HV := iq hv1
 have HL := iq (log_view H hT ha hV)
 generalize (V.log.length : Int) = n at HL ⊢
 clear H hT hv hx hV hV' ha hp hv1
 go_enter Tryz.func17, Tryz.ntmps17
 go_wp2_with (first | (go_at_call 43; refine HV.out.mono ?_; rintro E w2 ⟨rfl, rfl⟩) | (go_at_call 44; refine HL.out.mono ?_; rintro E w3 ⟨B, rfl, h⟩; have H3 := iq h; clear h))
 exact bodyPost_ret (results_tmp2 rfl _ _ _) rfl ⟨B, rfl, H3.out⟩
theorem Voted_at {v w : World} {A : LA} {M : MLogs} {os : List Thing} (H : LogFr v w A M os) {o : Nat} {s : MStr} (hs : M.strs[o]? = some s) {r : Int} (ho : r = (o : Int) + 1) {x : Nat} (hv : x < 18446744073709551616) :
  Calls Tryz.prog 23 #[.pointer (some ⟨A.L, 0, none⟩), .int .i64 r, .int .u64 (x : Int)] w fun E w' => E = .returned (.tuple #[.int .i64 (((vot s.past.L x).getD 0 : Nat) : Int), .bool (vot s.past.L x).isSome]) /\ w = w' := by
 obtain ⟨a, ha⟩ := H.sa_at hs
 have hon : o < M.n := (List.getElem?_eq_some_iff.1 hs).1
 have HSt := iq (stream_any H.hd H.ok.n11 hon ho)
 have HVo := iq (voted_any (H.past ha hs).hd hv)
 have c1 := (H.hd.str ha hs).2.1
 generalize (((vot s.past.L x).getD 0 : Nat) : Int) = n at HVo ⊢
 generalize (vot s.past.L x).isSome = z at HVo ⊢
 clear H hs ho hv ha hon
 go_enter Tryz.func23, Tryz.ntmps23
 go_wp2_with (first | (go_at_call 39; refine HSt.out.mono ?_; rintro E w2 ⟨rfl, rfl⟩) | (go_at_call 52; refine HVo.out.mono ?_; rintro E w3 ⟨rfl, rfl⟩))
 exact bodyPost_ret (results_tmp2 rfl _ _ _) rfl ⟨rfl, rfl⟩
theorem Holds_at {v w : World} {A : LA} {M : MLogs} {os : List Thing} (H : LogFr v w A M os) (hT : tot M.vs <= 1000000000) {x i : Nat} (hv : x < 18446744073709551616) (hx : vix M.vs x = some i) {V : MV} (hV : M.vs[i]? = some V) {c : Int} {t : Nat} (hk : PkOk (c, t)) :
  Calls Tryz.prog 20 #[.pointer (some ⟨A.L, 0, none⟩), .int .u64 (x : Int), .int .i64 c, .int .u64 (t : Int)] w fun E w' => E = .returned (.bool (has V.log (c, t))) /\ Below w.heap.size w w' := by
 obtain ⟨a, V', ha, hV', _, hp⟩ := H.vF_at hx
 obtain rfl : V = V' := Option.some.inj (hV.symm.trans hV')
 have hv1 := view_any H.hd hv
 rw [hp] at hv1
 have HV := iq hv1
 have HL : Hid (Calls Tryz.prog 47 #[.pointer (some ⟨a.b, 0, none⟩), .agg #[.int .i64 c, .int .u64 (t : Int)]] w fun E w' => E = .returned (.bool (has V.log (c, t))) /\ Below w.heap.size w w') := iq (holds_any H hT ha hV (c, t) hk)
 generalize has V.log (c, t) = z at HL ⊢
 clear H hT hv hx hV hV' ha hp hv1
 go_enter Tryz.func20, Tryz.ntmps20
 go_wp2_with (first | (go_at_call 43; refine HV.out.mono ?_; rintro E w2 ⟨rfl, rfl⟩) | (go_at_call 47; refine HL.out.mono ?_; rintro E w3 ⟨rfl, h⟩; have H3 := iq h; clear h))
 go_ret
 exact ⟨rfl, H3.out⟩
end Go.Proofs.YtknpcmadghkaaaaGreatDoor.Sh
