/- Laws and walks. -/
import Derived.Test.YtknpcmadghkaaaaGreatDoorLww
import Derived.Test.YtknpcmadghkaaaaGreatDoorUdw
set_option maxHeartbeats 16000000
set_option maxRecDepth 100000
namespace Go.Proofs.YtknpcmadghkaaaaGreatDoor.Sh
open Go.RowKit
theorem exec_bd1 {P : Program} {o : Oper} {f : Operand -> Value} {w : World} {t : TypeId} {n0 : Nat} {p0 : Operand} {x0 v : Value} (ho : o.op = .build t #[(n0, p0)]) (h0 : f p0 = x0) (hr : (Instr.build t #[(n0, x0)]).run P w = .ok v w) : (execOp f o).run P w = .ok (.value v) w := by
 unfold execOp
 simp only [ho, List.map_toArray, List.map_cons, List.map_nil, h0, Sem.run_bind, hr, Result.andThen_ok]
 rfl
theorem exec_bd2 {P : Program} {o : Oper} {f : Operand -> Value} {w : World} {t : TypeId} {n0 n1 : Nat} {p0 p1 : Operand} {x0 x1 v : Value} (ho : o.op = .build t #[(n0, p0), (n1, p1)]) (h0 : f p0 = x0) (h1 : f p1 = x1) (hr : (Instr.build t #[(n0, x0), (n1, x1)]).run P w = .ok v w) : (execOp f o).run P w = .ok (.value v) w := by
 unfold execOp
 simp only [ho, List.map_toArray, List.map_cons, List.map_nil, h0, h1, Sem.run_bind, hr, Result.andThen_ok]
 rfl
theorem exec_bd3 {P : Program} {o : Oper} {f : Operand -> Value} {w : World} {t : TypeId} {n0 n1 n2 : Nat} {p0 p1 p2 : Operand} {x0 x1 x2 v : Value} (ho : o.op = .build t #[(n0, p0), (n1, p1), (n2, p2)]) (h0 : f p0 = x0) (h1 : f p1 = x1) (h2 : f p2 = x2) (hr : (Instr.build t #[(n0, x0), (n1, x1), (n2, x2)]).run P w = .ok v w) : (execOp f o).run P w = .ok (.value v) w := by
 unfold execOp
 simp only [ho, List.map_toArray, List.map_cons, List.map_nil, h0, h1, h2, Sem.run_bind, hr, Result.andThen_ok]
 rfl
theorem exec_bd4 {P : Program} {o : Oper} {f : Operand -> Value} {w : World} {t : TypeId} {n0 n1 n2 n3 : Nat} {p0 p1 p2 p3 : Operand} {x0 x1 x2 x3 v : Value} (ho : o.op = .build t #[(n0, p0), (n1, p1), (n2, p2), (n3, p3)]) (h0 : f p0 = x0) (h1 : f p1 = x1) (h2 : f p2 = x2) (h3 : f p3 = x3) (hr : (Instr.build t #[(n0, x0), (n1, x1), (n2, x2), (n3, x3)]).run P w = .ok v w) : (execOp f o).run P w = .ok (.value v) w := by
 unfold execOp
 simp only [ho, List.map_toArray, List.map_cons, List.map_nil, h0, h1, h2, h3, Sem.run_bind, hr, Result.andThen_ok]
 rfl
theorem wpList_opG {P : Program} {ops : Array Oper} {rest : List Oper} {op : Oper} {a : Act} {w : World} {Q : Exit -> Act -> World -> Prop} (hw : Region.wanted op (yielded ops a.tmps) = true) {v : Value} (hr : (execOp a.eval op).run P w = .ok (.value v) w)
  (h : wpList P ops Q rest (a.put op.dst v) w) : wpList P ops Q (op :: rest) a w :=
 wpList_step fun K hK => by
  rw [if_pos hw]
  unfold Oper.wp
  rw [hr]
  exact hK _ _ h
theorem wpList_bd1 {P : Program} {ops : Array Oper} {rest : List Oper} {op : Oper} {a : Act} {w : World} {Q : Exit -> Act -> World -> Prop} (t : TypeId) {n0 : Nat} (p0 : Operand) {x0 v : Value} (ho : op.op = .build t #[(n0, p0)]) (hw : Region.wanted op (yielded ops a.tmps) = true) (hr : (Instr.build t #[(n0, x0)]).run P w = .ok v w) (h0 : a.eval p0 = x0)
  (h : wpList P ops Q rest (a.put op.dst v) w) : wpList P ops Q (op :: rest) a w := wpList_opG hw (exec_bd1 ho h0 hr) h
theorem wpList_bd2 {P : Program} {ops : Array Oper} {rest : List Oper} {op : Oper} {a : Act} {w : World} {Q : Exit -> Act -> World -> Prop} (t : TypeId) {n0 n1 : Nat} (p0 p1 : Operand) {x0 x1 v : Value} (ho : op.op = .build t #[(n0, p0), (n1, p1)]) (hw : Region.wanted op (yielded ops a.tmps) = true) (hr : (Instr.build t #[(n0, x0), (n1, x1)]).run P w = .ok v w) (h0 : a.eval p0 = x0) (h1 : a.eval p1 = x1)
  (h : wpList P ops Q rest (a.put op.dst v) w) : wpList P ops Q (op :: rest) a w := wpList_opG hw (exec_bd2 ho h0 h1 hr) h
theorem wpList_bd3 {P : Program} {ops : Array Oper} {rest : List Oper} {op : Oper} {a : Act} {w : World} {Q : Exit -> Act -> World -> Prop} (t : TypeId) {n0 n1 n2 : Nat} (p0 p1 p2 : Operand) {x0 x1 x2 v : Value} (ho : op.op = .build t #[(n0, p0), (n1, p1), (n2, p2)]) (hw : Region.wanted op (yielded ops a.tmps) = true) (hr : (Instr.build t #[(n0, x0), (n1, x1), (n2, x2)]).run P w = .ok v w) (h0 : a.eval p0 = x0) (h1 : a.eval p1 = x1) (h2 : a.eval p2 = x2)
  (h : wpList P ops Q rest (a.put op.dst v) w) : wpList P ops Q (op :: rest) a w := wpList_opG hw (exec_bd3 ho h0 h1 h2 hr) h
theorem wpList_bd4 {P : Program} {ops : Array Oper} {rest : List Oper} {op : Oper} {a : Act} {w : World} {Q : Exit -> Act -> World -> Prop} (t : TypeId) {n0 n1 n2 n3 : Nat} (p0 p1 p2 p3 : Operand) {x0 x1 x2 x3 v : Value} (ho : op.op = .build t #[(n0, p0), (n1, p1), (n2, p2), (n3, p3)]) (hw : Region.wanted op (yielded ops a.tmps) = true) (hr : (Instr.build t #[(n0, x0), (n1, x1), (n2, x2), (n3, x3)]).run P w = .ok v w) (h0 : a.eval p0 = x0) (h1 : a.eval p1 = x1) (h2 : a.eval p2 = x2) (h3 : a.eval p3 = x3)
  (h : wpList P ops Q rest (a.put op.dst v) w) : wpList P ops Q (op :: rest) a w := wpList_opG hw (exec_bd4 ho h0 h1 h2 h3 hr) h
theorem prs_w (m : MMsg) (h : m.body.qs = []) (W : World) : Prs W m.body.qa m.body.qs := fun hn => by rw [h] at hn; cases hn
def opW : MOp := { zeroOp with kind := 2, key := ⟨#[97]⟩, value := ⟨#[49]⟩ }
def rq0 : MReq := { zeroReq with client := 1, time := 1, op := opW }
def rqG (g : Nat -> UInt8) : MReq := { rq0 with tag := (List.range 32).map g }
def rqW : MReq := signR rq0
theorem rq0_may : reqMay rq0 = true := by decide
theorem sign_auth {r : MReq} (h : reqMay r = true) : authR (signR r) = true := by
 unfold signR
 rw [if_pos h]
 unfold authR
 simp only [Bool.and_eq_true, decide_eq_true_eq]
 exact ⟨h, rfl⟩
theorem rqW_auth : authR rqW = true := sign_auth rq0_may
theorem range_get (l : List UInt8) (h : l.length = 32) : l = (List.range 32).map fun i => l.getD i 0 := by
 apply List.ext_getElem
 ·simp [h]
 ·intro i h1 h2
  simp [List.getElem?_eq_getElem h1]
theorem rqW_g : ∃ g, rqW = rqG g := by
 refine ⟨fun i => (tagReq rq0).getD i 0, ?_⟩
 have e := range_get (tagReq rq0) (tagReq_len _)
 show signR rq0 = _
 unfold signR rqG
 rw [if_pos rq0_may, <- e]
def v1 : List Nat := 1 :: List.replicate 10 0
def bP (g : Nat -> UInt8) : MBody := { zeroBody with kind := 1, req := rqG g }
def bC : MBody := { zeroBody with kind := 2, k := 1 }
def mP (g : Nat -> UInt8) : MMsg := { zeroMsg with origin := 1, number := 1, body := bP g }
def mC3 : MMsg := { zeroMsg with origin := 3, number := 1, body := bC }
def mC2 : MMsg := { zeroMsg with origin := 2, number := 1, deps := v1, body := bC }
theorem bP_wf (g : Nat -> UInt8) : (bP g).Wf := ⟨rfl, rfl⟩
theorem bC_wf : bC.Wf := ⟨rfl, rfl⟩
theorem mP_wf (g : Nat -> UInt8) : (mP g).Wf := ⟨rfl, bP_wf g, rfl⟩
theorem mC3_wf : mC3.Wf := ⟨rfl, bC_wf, rfl⟩
theorem mC2_wf : mC2.Wf := ⟨rfl, bC_wf, rfl⟩
theorem bP_may (g : Nat -> UInt8) : (bP g).may := by
 refine ⟨rq0_may, (by decide : (0 : Nat) < 1073741824), ?_⟩
 exact ⟨rfl, rfl, rfl, rfl, rfl⟩
theorem bC_may : bC.may := by
 refine ⟨by kernel_rfl, by decide, ?_⟩
 exact ⟨rfl, rfl, rfl, rfl, rfl⟩
theorem mP_may (g : Nat -> UInt8) : (mP g).may := ⟨(by decide : isRepl 1 = true), ⟨(by decide : isNum 1 = true), rfl, fun x hx => by have : x = 0 := List.eq_of_mem_replicate hx; omega⟩, bP_may g⟩
theorem mC3_may : mC3.may := ⟨by decide, ⟨by decide, rfl, fun x hx => by have : x = 0 := List.eq_of_mem_replicate hx; omega⟩, bC_may⟩
theorem mC2_may : mC2.may := ⟨by decide, ⟨by decide, rfl, fun x hx => by
 rcases List.mem_cons.1 hx with rfl | hx
 ·omega
 ·have : x = 0 := List.eq_of_mem_replicate hx; omega⟩, bC_may⟩
def MMsg.tg (m : MMsg) (t : List UInt8) : MMsg := { m with tag := t }
theorem tg_wf {m : MMsg} (h : m.Wf) {t : List UInt8} (ht : t.length = 32) : (m.tg t).Wf := ⟨h.1, h.2.1, ht⟩
theorem tag_tg {m : MMsg} (h : m.may) : tagM m = m.tg (numTag m.origin m.number (msgB m)) := if_pos h
theorem build_op (w : World) : (Instr.build 29 #[(0, .int .u8 2), (1, .string ⟨#[97]⟩), (2, .string ⟨#[49]⟩)]).run Tryz.prog w = .ok (.agg (opC opW).toArray) w := by kernel_rfl
theorem build_rq (w : World) : (Instr.build 32 #[(0, .int .i64 1), (1, .int .u64 1), (2, .agg (opC opW).toArray)]).run Tryz.prog w = .ok (.agg (reqC rq0).toArray) w := by kernel_rfl
theorem build_bP (g : Nat -> UInt8) (w : World) : (Instr.build 35 #[(0, .int .u8 1), (3, .agg (reqC (rqG g)).toArray)]).run Tryz.prog w = .ok (.agg (bodyC (bP g)).toArray) w := by kernel_rfl
theorem build_mP (g : Nat -> UInt8) (w : World) : (Instr.build 39 #[(0, .int .i64 1), (1, .int .u64 1), (3, .agg (bodyC (bP g)).toArray)]).run Tryz.prog w = .ok (.agg (msgC (mP g)).toArray) w := by kernel_rfl
theorem build_bC (w : World) : (Instr.build 35 #[(0, .int .u8 2), (2, .int .u64 1)]).run Tryz.prog w = .ok (.agg (bodyC bC).toArray) w := by kernel_rfl
theorem build_mC3 (w : World) : (Instr.build 39 #[(0, .int .i64 3), (1, .int .u64 1), (3, .agg (bodyC bC).toArray)]).run Tryz.prog w = .ok (.agg (msgC mC3).toArray) w := by kernel_rfl
theorem build_v1 (w : World) : (Instr.build 37 #[(0, .int .u64 1)]).run Tryz.prog w = .ok (.agg (u64s v1).toArray) w := by kernel_rfl
theorem build_mC2 (w : World) : (Instr.build 39 #[(0, .int .i64 2), (1, .int .u64 1), (2, .agg (u64s v1).toArray), (3, .agg (bodyC bC).toArray)]).run Tryz.prog w = .ok (.agg (msgC mC2).toArray) w := by kernel_rfl
open Go.RowKit
theorem rqW_len : rqW.tag.length = 32 := by
 obtain ⟨g, hg⟩ := rqW_g
 rw [hg]
 simp [rqG]
theorem request_any (w : World) (hk : KIs w) (h0 : 0 < w.heap.size) : Calls Tryz.prog 29 #[] w fun E w' => E = .returned (.agg (reqC rqW).toArray) /\ Below w.heap.size w w' := by
 have hz := zero_req
 have H0 := iq ((Fr.start hk h0).box (reqC zeroReq).toArray 32)
 have HB1 := iq build_op
 have HB2 := iq build_rq
 have HS : Hid (∀ W, KIs W -> 0 < W.heap.size -> Calls Tryz.prog 56 #[.agg (reqC rq0).toArray] W fun E w' => E = .returned (.agg (reqC rqW).toArray) /\ Hid (Below W.heap.size W w')) := iq fun W h1 h2 => signed_rf rq0 W rfl h1 h2
 have HI := iq (Tryz.in32 rqW_len)
 have HSA : Hid (0 + (reqC rqW).length <= (reqC zeroReq).length /\ setAll (reqC zeroReq) 0 (reqC rqW) = reqC rqW) := iq ⟨by rw [reqC_length rqW_len, reqC_length (r := zeroReq) rfl]; decide, setAll_req _ rqW_len⟩
 generalize rqW = r at *
 clear hk h0
 go_enter Tryz.func29, Tryz.ntmps29
 go_wp2_with (first | ((with_reducible refine wpList_bd3 29 (.const (.int .u8 2)) (.const (.string ⟨#[97]⟩)) (.const (.string ⟨#[49]⟩)) ?_ ?_ (HB1.out _) ?_ ?_ ?_ ?_); rfl; rotate_left; rfl; rfl; rfl; rotate_left; rfl) | ((with_reducible refine wpList_bd3 32 (.const (.int .i64 1)) (.const (.int .u64 1)) (.tmp 1) ?_ ?_ (HB2.out _) ?_ ?_ ?_ ?_); rfl; rotate_left; rfl; rfl; rfl; rotate_left; rfl) | (go_at_call 56; refine (HS.out _ H0.out.ksW H0.out.posW).mono ?_; rintro E w3 ⟨rfl, b3⟩; have H3 := iq (H0.out.below b3.out); clear b3) | (refine wpList_store_part rfl 32 (.tmp 0) (.tmp 3) rfl w.heap.size 0 (reqC zeroReq) (reqC r) (reqC r) 32 H3.out.hd HSA.out.1 HSA.out.2 rfl rfl HI.out (one_reqC _) ?_; intro w4 G; have H4 : Hid (Fr w w4 [blkT w.heap.size (reqC r).toArray 32]) := iq (show Fr w w4 (blkT w.heap.size (reqC r).toArray 32 :: []) from H3.out.turn (own_grown G.out.2 rfl) G.out.1 (blkT_ok _ _ _)); clear G))
 exact bodyPost_ret (ret_range (cs := reqC r) rfl rfl (range_of H4.out.hd) Tryz.underlying32 rfl HI.out) rfl ⟨rfl, H4.out.bel⟩
open Go.RowKit
def pW : MPast := ⟨[(0, 1)], 0⟩
def V1 (g : Nat -> UInt8) : MV := ⟨0, 0, [], [(1, rqG g)], none⟩
def M1 (g : Nat -> UInt8) : MLogs := ⟨[⟨1, pW, []⟩, .new, .new], [V1 g]⟩
def M2 (g : Nat -> UInt8) : MLogs := ⟨[⟨1, pW, []⟩, .new, ⟨1, .new, []⟩], [V1 g]⟩
def M3 (g : Nat -> UInt8) : MLogs := ⟨[⟨1, pW, []⟩, ⟨1, pW, []⟩, ⟨1, .new, []⟩], [V1 g]⟩
theorem prp_new : Sh.prp .new 0 = (true, pW) := by kernel_rfl
theorem cmt_new1 : Sh.cmt .new 0 1 (1 : Nat) = (true, pW) := by kernel_rfl
theorem cmt_new0 : (Sh.cmt .new 0 1 (0 : Nat)).1 = false := by kernel_rfl
theorem kn_1 (g : Nat -> UInt8) : (V1 g).kn 1 = 1 := by kernel_rfl
theorem kn_0 (g : Nat -> UInt8) : (V1 g).kn 0 = 0 := by kernel_rfl
theorem rq_ok (g : Nat -> UInt8) : PkOk (rk (rqG g)) := ⟨(by decide : (Lit.int .i64 1).wf = true), (by decide : (Lit.int .u64 1).wf = true)⟩
variable {g : Nat -> UInt8} {t : List UInt8}
theorem do1 (ha : authR (rqG g) = true) : ((MLogs.new 3).upd 0 { MStr.new with tak := MStr.new.tak + 1 }).prp 0 ((mP g).tg t) = (true, M1 g) := by
 rw [prp_some (i := 0) (V := .zero) (s := { MStr.new with tak := 1 }) rfl rfl rfl]
 rw [if_pos ⟨rfl, ha, rfl, (by show (Sh.prp .new 0).1 = true; rw [prp_new])⟩]
 show (true, MLogs.updV (MLogs.upd _ 0 { ({ MStr.new with tak := 1 } : MStr) with past := (Sh.prp .new 0).2 }) 0 _) = _
 rw [prp_new]
 rfl
theorem do2 : ((M1 g).upd 2 { MStr.new with tak := MStr.new.tak + 1 }).cmt 2 (mC3.tg t) = (false, M2 g) := by
 rw [cmt_some (i := 0) (V := V1 g) (s := { MStr.new with tak := 1 }) rfl rfl rfl]
 rw [if_neg (fun h => by
  have h2 : (Sh.cmt .new 0 1 ((V1 g).kn 0 : Nat)).1 = true := h.2
  rw [kn_0, cmt_new0] at h2
  cases h2)]
 rfl
theorem do3 : ((M2 g).upd 1 { MStr.new with tak := MStr.new.tak + 1 }).cmt 1 (mC2.tg t) = (true, M3 g) := by
 rw [cmt_some (i := 0) (V := V1 g) (s := { MStr.new with tak := 1 }) rfl rfl rfl]
 rw [if_pos ⟨(by show ¬ (0 % 3 = 1); decide), (by show (Sh.cmt .new 0 1 ((V1 g).kn 1 : Nat)).1 = true; rw [kn_1, cmt_new1])⟩]
 show (true, MLogs.upd _ 1 { ({ MStr.new with tak := 1 } : MStr) with past := (Sh.cmt .new 0 1 ((V1 g).kn 1 : Nat)).2 }) = _
 rw [kn_1, cmt_new1]
 rfl
variable {v w : World} {A : LA} {os : List Thing}
theorem take1 (H : LogFr v w A (.new 3) os) (ht : t.length = 32) (ha : authR (rqG g) = true) : Calls Tryz.prog 15 #[.pointer (some ⟨A.L, 0, none⟩), .agg (msgC ((mP g).tg t)).toArray] w fun E w' => E = .returned (.tuple #[.bool true, .int .i64 0]) /\ ∃ A' : LA, A'.L = A.L /\ LogFr v w' A' (M1 g) os := by
 have h := take_prep H ((mP g).tg t) (tg_wf (mP_wf g) ht) (prs_w _ rfl _) (Nat.zero_le _) (mP_may g) rfl (o := 0) (s := .new) rfl rfl rfl rfl (by show (0 : Nat) < 1000000; decide) (rq_ok g)
 rw [do1 ha] at h
 exact h
theorem take2 (H : LogFr v w A (M1 g) os) (ht : t.length = 32) : Calls Tryz.prog 15 #[.pointer (some ⟨A.L, 0, none⟩), .agg (msgC (mC3.tg t)).toArray] w fun E w' => E = .returned (.tuple #[.bool false, .int .i64 0]) /\ ∃ A' : LA, A'.L = A.L /\ LogFr v w' A' (M2 g) os := by
 have h := take_com H (mC3.tg t) (tg_wf mC3_wf ht) (prs_w _ rfl _) (Nat.zero_le _) mC3_may rfl (o := 2) (s := .new) rfl rfl rfl rfl (by show (1 : Nat) < 1000000; decide)
 rw [do2] at h
 exact h
theorem take3 (H : LogFr v w A (M2 g) os) (ht : t.length = 32) : Calls Tryz.prog 15 #[.pointer (some ⟨A.L, 0, none⟩), .agg (msgC (mC2.tg t)).toArray] w fun E w' => E = .returned (.tuple #[.bool true, .int .i64 0]) /\ ∃ A' : LA, A'.L = A.L /\ LogFr v w' A' (M3 g) os := by
 have h := take_com H (mC2.tg t) (tg_wf mC2_wf ht) (prs_w _ rfl _) (Nat.zero_le _) mC2_may rfl (o := 1) (s := .new) rfl rfl rfl rfl (by show (1 : Nat) < 1000000; decide)
 rw [do3] at h
 exact h
theorem log3 (H : LogFr v w A (M3 g) os) : Calls Tryz.prog 17 #[.pointer (some ⟨A.L, 0, none⟩), .int .u64 0] w fun E w' => ∃ B, E = .returned (.tuple #[.slice (some ⟨B, 0, none⟩) 1 1, .bool true]) /\ ∃ o, LogFr v w' A (M3 g) (o :: os) :=
 (Log_at H (x := 0) (i := 0) (V := V1 g) (by show (1 : Nat) <= 1000000000; decide) (by decide) rfl rfl).mono fun _ _ ⟨B, e, h⟩ => ⟨B, e, _, h⟩
theorem voted3 (H : LogFr v w A (M3 g) os) : Calls Tryz.prog 23 #[.pointer (some ⟨A.L, 0, none⟩), .int .i64 2, .int .u64 0] w fun E w' => E = .returned (.tuple #[.int .i64 1, .bool true]) /\ w = w' :=
 Voted_at H (o := 1) (s := ⟨1, pW, []⟩) rfl rfl (x := 0) (by decide)
theorem holds3 (H : LogFr v w A (M3 g) os) : Calls Tryz.prog 20 #[.pointer (some ⟨A.L, 0, none⟩), .int .u64 0, .int .i64 1, .int .u64 1] w fun E w' => E = .returned (.bool true) /\ Below w.heap.size w w' :=
 Holds_at H (x := 0) (i := 0) (V := V1 g) (by show (1 : Nat) <= 1000000000; decide) (by decide) rfl rfl (c := 1) (t := 1) (rq_ok g)
open Go.RowKit
theorem new_4 (W : World) : Calls Tryz.prog 13 #[.int .i64 4] W fun E w' => E = .returned (.tuple #[.pointer none, .int .i64 1]) /\ W = w' := new_bad W (.inr (.inr (by decide)))
theorem new_3 {w : World} (hk : KIs w) (h0 : 0 < w.heap.size) : Calls Tryz.prog 13 #[.int .i64 3] w fun E w' => ∃ (L : Nat) (A : LA), A.L = L /\ E = .returned (.tuple #[.pointer (some ⟨L, 0, none⟩), .int .i64 0]) /\ LogFr w w' A (.new 3) [] :=
 (new_logs (Fr.start hk h0) (n := 3) (by decide) (by decide) (by decide)).mono fun _ _ ⟨A, e, h⟩ => ⟨A.L, A, rfl, e, h⟩
theorem works_any (w : World) (hk : KIs w) (h0 : 0 < w.heap.size) : Calls Tryz.prog 11 #[] w fun E w' => E = .returned (.bool true) /\ Below w.heap.size w w' := by
 obtain ⟨g, hg⟩ := rqW_g
 have ha0 := rqW_auth
 rw [hg] at ha0
 have HRq : Hid (∀ W, KIs W -> 0 < W.heap.size -> Calls Tryz.prog 29 #[] W fun E w' => E = .returned (.agg (reqC (rqG g)).toArray) /\ Below W.heap.size W w') := iq fun W h1 h2 => by rw [<- hg]; exact request_any W h1 h2
 clear hg
 obtain ⟨t1, ht1, hl1⟩ : ∃ t, tagM (mP g) = (mP g).tg t /\ t.length = 32 := ⟨_, tag_tg (mP_may g), numTag_length _ _ _⟩
 have HT1 : Hid (∀ W, KIs W -> 0 < W.heap.size -> Calls Tryz.prog 28 #[.agg (msgC (mP g)).toArray] W fun E w' => E = .returned (.agg (msgC ((mP g).tg t1)).toArray) /\ Hid (Below W.heap.size W w')) := iq fun W h1 h2 => by rw [<- ht1]; exact tagged_any (mP g) W (mP_wf g) (prs_w _ rfl W) (Nat.zero_le _) h1 h2
 obtain ⟨t2, ht2, hl2⟩ : ∃ t, tagM mC3 = mC3.tg t /\ t.length = 32 := ⟨_, tag_tg (mC3_may), numTag_length _ _ _⟩
 have HT2 : Hid (∀ W, KIs W -> 0 < W.heap.size -> Calls Tryz.prog 28 #[.agg (msgC mC3).toArray] W fun E w' => E = .returned (.agg (msgC (mC3.tg t2)).toArray) /\ Hid (Below W.heap.size W w')) := iq fun W h1 h2 => by rw [<- ht2]; exact tagged_any mC3 W (mC3_wf) (prs_w _ rfl W) (Nat.zero_le _) h1 h2
 obtain ⟨t3, ht3, hl3⟩ : ∃ t, tagM mC2 = mC2.tg t /\ t.length = 32 := ⟨_, tag_tg (mC2_may), numTag_length _ _ _⟩
 have HT3 : Hid (∀ W, KIs W -> 0 < W.heap.size -> Calls Tryz.prog 28 #[.agg (msgC mC2).toArray] W fun E w' => E = .returned (.agg (msgC (mC2.tg t3)).toArray) /\ Hid (Below W.heap.size W w')) := iq fun W h1 h2 => by rw [<- ht3]; exact tagged_any mC2 W (mC2_wf) (prs_w _ rfl W) (Nat.zero_le _) h1 h2
 have HN := iq (new_3 hk h0)
 have HK1 : Hid (∀ W A, LogFr w W A (.new 3) [] -> Calls Tryz.prog 15 #[.pointer (some ⟨A.L, 0, none⟩), .agg (msgC ((mP g).tg t1)).toArray] W fun E w' => E = .returned (.tuple #[.bool true, .int .i64 0]) /\ ∃ A' : LA, A'.L = A.L /\ LogFr w w' A' (M1 g) []) := iq fun W A H => take1 H hl1 ha0
 have HK2 : Hid (∀ W A, LogFr w W A (M1 g) [] -> Calls Tryz.prog 15 #[.pointer (some ⟨A.L, 0, none⟩), .agg (msgC (mC3.tg t2)).toArray] W fun E w' => E = .returned (.tuple #[.bool false, .int .i64 0]) /\ ∃ A' : LA, A'.L = A.L /\ LogFr w w' A' (M2 g) []) := iq fun W A H => take2 H hl2
 have HK3 : Hid (∀ W A, LogFr w W A (M2 g) [] -> Calls Tryz.prog 15 #[.pointer (some ⟨A.L, 0, none⟩), .agg (msgC (mC2.tg t3)).toArray] W fun E w' => E = .returned (.tuple #[.bool true, .int .i64 0]) /\ ∃ A' : LA, A'.L = A.L /\ LogFr w w' A' (M3 g) []) := iq fun W A H => take3 H hl3
 have HB1 := iq (build_bP g)
 have HB2 := iq (build_mP g)
 have HB3 := iq build_bC
 have HB4 := iq build_mC3
 have HB5 := iq build_v1
 have HB6 := iq build_mC2
 have HLg := iq (fun (W : World) (A : LA) (H : LogFr w W A (M3 g) []) => log3 H)
 have HVt := iq (fun (W : World) (A : LA) (o : Thing) (H : LogFr w W A (M3 g) [o]) => voted3 H)
 have HHo := iq (fun (W : World) (A : LA) (o : Thing) (H : LogFr w W A (M3 g) [o]) => holds3 H)
 generalize (mP g).tg t1 = o1 at *
 generalize mC3.tg t2 = o2 at *
 generalize mC2.tg t3 = o3 at *
 obtain ⟨m1, hm1⟩ : ∃ m, m = mP g := ⟨_, rfl⟩
 rw [<- hm1] at HT1 HB2
 obtain ⟨b1, hb1⟩ : ∃ m, m = bP g := ⟨_, rfl⟩
 rw [<- hb1] at HB1 HB2
 generalize rqG g = r at *
 generalize M1 g = N1 at *
 generalize M2 g = N2 at *
 generalize M3 g = N3 at *
 generalize mC3 = m2 at *
 generalize mC2 = m3 at *
 generalize bC = b2 at *
 generalize v1 = d at *
 clear hk h0 ht1 ht2 ht3 hl1 hl2 hl3 ha0 hm1 hb1
 go_enter Tryz.func11, Tryz.ntmps11
 go_wp2_with (first | (go_at_call 13; refine HN.out.mono ?_; rintro E w1 ⟨L, A1, hL, rfl, h⟩; have H1 := iq h; clear h HN) | (go_at_call 13; refine (new_4 _).mono ?_; rintro E w2 ⟨rfl, rfl⟩) | (go_at_call 29; refine (HRq.out _ H1.out.fr.ksW H1.out.fr.posW).mono ?_; rintro E w3 ⟨rfl, b3⟩; have H3 := iq (H1.out.below b3); clear b3 H1) | ((with_reducible refine wpList_bd2 35 (.const (.int .u8 1)) (.tmp 35) ?_ ?_ (HB1.out _) ?_ ?_ ?_); rfl; rotate_left; rfl; rfl; rotate_left; rfl) | ((with_reducible refine wpList_bd3 39 (.const (.int .i64 1)) (.const (.int .u64 1)) (.tmp 36) ?_ ?_ (HB2.out _) ?_ ?_ ?_ ?_); rfl; rotate_left; rfl; rfl; rfl; rotate_left; rfl) | (go_at_call 28; refine (HT1.out _ H3.out.fr.ksW H3.out.fr.posW).mono ?_; rintro E w4 ⟨rfl, b4⟩; have H4 := iq (H3.out.below b4.out); clear b4 H3) | (go_at_call 15; rw [<- hL]; refine (HK1.out _ _ H4.out).mono ?_; rintro E w5 ⟨rfl, A2, hA2, h⟩; have H5 := iq h; rw [hL] at hA2 ⊢; clear h hL H4) | ((with_reducible refine wpList_bd2 35 (.const (.int .u8 2)) (.const (.int .u64 1)) ?_ ?_ (HB3.out _) ?_ ?_ ?_); rfl; rotate_left; rfl; rfl; rotate_left; rfl) | ((with_reducible refine wpList_bd3 39 (.const (.int .i64 3)) (.const (.int .u64 1)) (.tmp 44) ?_ ?_ (HB4.out _) ?_ ?_ ?_ ?_); rfl; rotate_left; rfl; rfl; rfl; rotate_left; rfl) | (go_at_call 28; refine (HT2.out _ H5.out.fr.ksW H5.out.fr.posW).mono ?_; rintro E w6 ⟨rfl, b6⟩; have H6 := iq (H5.out.below b6.out); clear b6 H5) | (go_at_call 15; rw [<- hA2]; refine (HK2.out _ _ H6.out).mono ?_; rintro E w7 ⟨rfl, A3, hA3, h⟩; have H7 := iq h; rw [hA2] at hA3 ⊢; clear h hA2 H6) | ((with_reducible refine wpList_bd1 37 (.const (.int .u64 1)) ?_ ?_ (HB5.out _) ?_ ?_); rfl; rotate_left; rfl; rotate_left; rfl) | ((with_reducible refine wpList_bd4 39 (.const (.int .i64 2)) (.const (.int .u64 1)) (.tmp 52) (.tmp 53) ?_ ?_ (HB6.out _) ?_ ?_ ?_ ?_ ?_); rfl; rotate_left; rfl; rfl; rfl; rfl; rotate_left; rfl) | (go_at_call 28; refine (HT3.out _ H7.out.fr.ksW H7.out.fr.posW).mono ?_; rintro E w8 ⟨rfl, b8⟩; have H8 := iq (H7.out.below b8.out); clear b8 H7) | (go_at_call 15; rw [<- hA3]; refine (HK3.out _ _ H8.out).mono ?_; rintro E w9 ⟨rfl, A4, hA4, h⟩; have H9 := iq h; rw [hA3] at hA4 ⊢; clear h hA3 H8) | (go_at_call 17; rw [<- hA4]; refine (HLg.out _ _ H9.out).mono ?_; rintro E w10 ⟨B, rfl, o, h⟩; have H10 := iq h; rw [hA4]; clear h) | (go_at_call 23; rw [<- hA4]; refine (HVt.out _ _ _ H10.out).mono ?_; rintro E w11 ⟨rfl, rfl⟩; rw [hA4]) | (go_at_call 20; rw [<- hA4]; refine (HHo.out _ _ _ H10.out).mono ?_; rintro E w12 ⟨rfl, b12⟩; have H12 := iq (H10.out.below b12); clear b12))
 go_ret
 exact ⟨rfl, H12.out.fr.bel⟩
end Go.Proofs.YtknpcmadghkaaaaGreatDoor.Sh
