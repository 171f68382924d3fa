/- Laws and walks. -/
import Derived.Test.YtknpcmadghkaaaaGreatDoorLsw
import Derived.Test.YtknpcmadghkaaaaGreatDoorQfw
set_option maxHeartbeats 16000000
set_option maxRecDepth 100000
namespace Go.Proofs.YtknpcmadghkaaaaGreatDoor.Sh
open Go.RowKit
def MLogs.prp (M : MLogs) (o : Nat) (m : MMsg) : Bool × MLogs :=
 match vix M.vs m.body.view with
 | none => (false, M)
 | some i => match M.vs[i]?, M.strs[o]? with
  | some V, some s => if m.body.view % M.n = o /\ authR m.body.req = true /\ has V.log (rk m.body.req) = false /\ (Sh.prp s.past m.body.view).1 = true then (true, (M.upd o { s with past := (Sh.prp s.past m.body.view).2 }).updV i (V.add m.number m.body.req)) else (false, M)
  | _, _ => (false, M)
theorem prp_none {M : MLogs} {o : Nat} {m : MMsg} (h : vix M.vs m.body.view = none) : M.prp o m = (false, M) := by rw [MLogs.prp, h]
theorem prp_some {M : MLogs} {o i : Nat} {m : MMsg} {V : MV} {s : MStr} (h : vix M.vs m.body.view = some i) (h1 : M.vs[i]? = some V) (h2 : M.strs[o]? = some s) :
  M.prp o m = if m.body.view % M.n = o /\ authR m.body.req = true /\ has V.log (rk m.body.req) = false /\ (Sh.prp s.past m.body.view).1 = true then (true, (M.upd o { s with past := (Sh.prp s.past m.body.view).2 }).updV i (V.add m.number m.body.req)) else (false, M) := by
 unfold MLogs.prp
 simp only [h, h1, h2]
theorem pprp_false {p : MPast} {x : Nat} (h : (Sh.prp p x).1 = false) : (Sh.prp p x).2 = p := by
 unfold Sh.prp at h ⊢
 by_cases e : opn p x = true /\ vot p.L x ≠ some 9223372036854775807
 ·rw [if_pos e] at h; cases h
 ·rw [if_neg e]
theorem upd_id {M : MLogs} {o : Nat} {s : MStr} (h : M.strs[o]? = some s) : M.upd o s = M := by
 unfold MLogs.upd
 rw [set_id h]
theorem LogFr.vF_at {v W : World} {A : LA} {M : MLogs} {os : List Thing} (H : LogFr v W A M os) {x i : Nat} (h : vix M.vs x = some i) : ∃ (a : VA) (V : MV), A.va[i]? = some a /\ M.vs[i]? = some V /\ V.v = x /\ (vF A.va M.vs (x : Int)).getD (.pointer none) = .pointer (some ⟨a.b, 0, none⟩) := by
 obtain ⟨V, hV, hv⟩ := vix_lt h
 obtain ⟨a, ha⟩ := H.va_at hV
 exact ⟨a, V, ha, hV, hv, by rw [vF_nat, h]; simp [ha]⟩
theorem vF_no {va : List VA} {vs : List MV} {x : Nat} (h : vix vs x = none) : (vF va vs (x : Int)).getD (.pointer none) = .pointer none := by rw [vF_nat, h]; rfl
theorem setAll_req (r : MReq) (hr : r.tag.length = 32) : setAll (reqC zeroReq) 0 (reqC r) = reqC r := setAll_all (by rw [reqC_length hr, reqC_length (r := zeroReq) rfl])
def RdS (g o pb mb rb : Nat) (m : MMsg) (W : World) : Prop := W.heap[mb]? = some (.cells (msgC m).toArray 39 (0, 0)) /\ W.heap[rb]? = some (.cells (reqC m.body.req).toArray 32 (0, 0)) /\ W.cell? ⟨g, o * 4 + 1, none⟩ = some (.pointer (some ⟨pb, 0, none⟩))
theorem rds {v W : World} {A : LA} {M : MLogs} {os : List Thing} {mb rb o : Nat} {m : MMsg} {a : SA} {s : MStr} (H : LogFr v W A M (blkT rb (reqC m.body.req).toArray 32 :: blkT mb (msgC m).toArray 39 :: os)) (ha : A.sa[o]? = some a) (hs : M.strs[o]? = some s) : RdS A.g o a.pb mb rb m W :=
 ⟨H.pop.top, H.top, (H.hd.str ha hs).2.1⟩
theorem prepare_any {v w : World} {A : LA} {M : MLogs} {os : List Thing} (H : LogFr v w A M os) (m : MMsg) (hm : m.Wf) {o : Nat} {s : MStr} (hs : M.strs[o]? = some s) (ho : m.origin = (o : Int) + 1) (hnum : m.number = s.tak) (hlt : ∀ V ∈ M.vs, V.v % M.n = o -> ∀ p ∈ V.P, p.1 < m.number) (hT : tot M.vs < 1000000) (hv : m.body.view < 1073741824) (hk : PkOk (rk m.body.req)) :
  Calls Tryz.prog 64 #[.pointer (some ⟨A.L, 0, none⟩), .agg (msgC m).toArray] w fun E w' => E = .returned (.bool (M.prp o m).1) /\ ∃ A' : LA, A'.L = A.L /\ LogFr v w' A' (M.prp o m).2 os := by
 obtain ⟨a, ha⟩ := H.sa_at hs
 have hrt : m.body.req.tag.length = 32 := hm.2.1.1
 have H0 := iq (H.push (H.fr.box (msgC m).toArray 39))
 have HI := iq (Tryz.in32 hrt)
 have HRt := iq hrt
 have HM := iq (fun (W : World) (mb : Nat) (h : W.heap[mb]? = some (.cells (msgC m).toArray 39 (0, 0))) => msg_lies (range_of h) hm)
 have hon : o < M.n := (List.getElem?_eq_some_iff.1 hs).1
 have h11 := H.ok.n11
 have h3 := H.ok.n3
 have HSel : Hid ((vix M.vs m.body.view = none) \/ ∃ i, vix M.vs m.body.view = some i) := iq (by cases vix M.vs m.body.view <;> simp)
 have HS := iq hs
 have HA := iq ha
 have HO := iq ho
 have HK := iq hk
 have HT := iq hT
 have HV := iq hv
 have HN := iq hnum
 have HLt := iq hlt
 have H311 : Hid (3 <= M.n /\ M.n <= 11 /\ o < M.n) := iq ⟨h3, h11, hon⟩
 clear H hs ha ho hnum hlt hT hv hk hrt hm hon h11 h3
 go_enter Tryz.func64, Tryz.ntmps64
 go_wp2_with fail
 refine wp_region_any (by kernel_rfl) ?_
 change wpAny _ _ _ _ _ _ _ (World.drewN _ 1)
 refine held_gen (G := fun W' => wpAny _ _ _ _ _ _ _ W') (fun W' => LogFr v W' A M (blkT w.heap.size (msgC m).toArray 39 :: os)) (H0.out.drewN 1) (fun y0 hw => ?_)
 have G0 := iq hw
 clear hw H0
 obtain ⟨mb, hmb⟩ : ∃ x, x = w.heap.size := ⟨_, rfl⟩
 rw [<- hmb] at G0 ⊢
 clear hmb
 refine wpAny_of_held (S := fun W => W.heap[mb]? = some (.cells (msgC m).toArray 39 (0, 0))) _ _ _ _ ?_
 refine tk 0 ⟨some 8, .fieldAddr 39 (.tmp 3) 3, _, _, _, none⟩ (.pointer (some ⟨mb, 13, none⟩)) rfl (by kernel_rfl) (fun _ _ _ => id) (G0.out.top) (fun W hSW => by go_simp) ?_
 try simp only [Act.put, l0, l1, l2]
 refine tk 1 ⟨some 9, .fieldAddr 35 (.tmp 8) 1, _, _, _, none⟩ (.pointer (some ⟨mb, 14, none⟩)) rfl (by kernel_rfl) (fun _ _ _ => id) (G0.out.top) (fun W hSW => by go_simp) ?_
 try simp only [pu, l0, l1, l2]
 refine tk 2 ⟨some 10, .load 25 (.tmp 9), _, _, _, none⟩ (.int .u64 (m.body.view : Int)) rfl (by kernel_rfl) (fun _ _ _ => id) (G0.out.top) (fun W hSW => by have hv := (HM.out W mb hSW).body.view; go_simp) ?_
 try simp only [pu, l0, l1, l2]
 refine tk 3 ⟨some 11, .fieldAddr 39 (.tmp 3) 3, _, _, _, none⟩ (.pointer (some ⟨mb, 13, none⟩)) rfl (by kernel_rfl) (fun _ _ _ => id) (G0.out.top) (fun W hSW => by go_simp) ?_
 try simp only [pu, l0, l1, l2]
 refine tk 4 ⟨some 12, .fieldAddr 35 (.tmp 11) 3, _, _, _, none⟩ (.pointer (some ⟨mb, 16, none⟩)) rfl (by kernel_rfl) (fun _ _ _ => id) (G0.out.top) (fun W hSW => by go_simp) ?_
 try simp only [pu, l0, l1, l2]
 refine tk 5 ⟨some 13, .load 32 (.tmp 12), _, _, _, none⟩ (.agg (reqC m.body.req).toArray) rfl (by kernel_rfl) (fun _ _ _ => id) (G0.out.top) (fun W hSW => exec_load_mid 32 (.tmp 12) rfl mb 16 rfl (reqC m.body.req) _ (HM.out W mb hSW).body.req.all Tryz.underlying32 rfl (HI.out)) ?_
 try simp only [pu, l0, l1, l2]
 refine rd1 6 ⟨some 6, .alloc 32, _, _, _, none⟩ (by kernel_rfl) rfl fun K' hK' => ?_
 have hz := zero_req
 go_simp
 clear hz
 have G1 := iq (G0.out.push (G0.out.fr.box (reqC zeroReq).toArray 32))
 refine hK'.out _ _ G1.out.pop.top (fun _ => ?_)
 clear hK' K' G0
 try simp only [Act.put, l0, l1, l2]
 obtain ⟨rb, hrb⟩ : ∃ c, c = y0.heap.size := ⟨_, rfl⟩
 rw [<- hrb] at G1 ⊢
 clear hrb
 generalize y0.alloc (.cells (reqC zeroReq).toArray 32) = y1 at G1 ⊢
 refine tk 7 ⟨some 5, .assign (.tmp 10), _, _, _, none⟩ (.int .u64 (m.body.view : Int)) rfl (by kernel_rfl) (fun _ _ _ => id) (G1.out.pop.top) (fun W hSW => by go_simp) ?_
 try simp only [Act.put, l0, l1, l2]
 refine rd1 8 ⟨none, .store 32 (.tmp 6) (.tmp 13), _, _, _, none⟩ (by kernel_rfl) rfl fun K' hK' => ?_
 refine step_store_cells rfl 32 (.tmp 6) (.tmp 13) rfl rb 0 (reqC m.body.req) rfl rfl (there_block G1.out.top 0 _ (by rw [reqC_length HRt.out, reqC_length (r := zeroReq) rfl]; decide)) HI.out (one_reqC _) ?_
 have G2 : Hid (LogFr v (y1.setCells rb 0 (reqC m.body.req)) A M (blkT rb (reqC m.body.req).toArray 32 :: blkT mb (msgC m).toArray 39 :: os)) := iq (by
  have h := G1.out.front.setAll 0 (reqC m.body.req)
  rw [setAll_req _ HRt.out] at h
  exact G1.out.pop.push h)
 generalize y1.setCells rb 0 (reqC m.body.req) = y2 at G2 ⊢
 refine hK'.out _ _ G2.out.pop.top (fun _ => ?_)
 clear hK' K' G1
 refine wpAnyH_done (by kernel_rfl) ?_ _
 rcases HSel.out with hx | ⟨i, hx⟩
 ·have HX := iq (prp_none (o := o) hx)
  have hvn := vF_no (va := A.va) hx
  clear hx
  go_wp2_with (go_at_call 43; refine (view_any G2.out.hd (v := m.body.view) (by have := HV.out; omega)).mono ?_; rintro E w3 ⟨rfl, rfl⟩)
  try rw [hvn]
  refine wp_region_any (by kernel_rfl) ?_
  change wpAny _ _ _ _ _ _ _ (World.drewN _ 1)
  have G3 := iq (G2.out.drewN 1)
  generalize y2.drewN 1 = y3 at G3 ⊢
  clear G2
  refine wpAny_of_held (S := fun _ => True) _ _ _ _ ?_
  refine tk 0 ⟨some 17, .move (.tmp 7), _, _, _, none⟩ (.pointer none) rfl (by kernel_rfl) (fun _ _ _ => id) (trivial) (fun W hSW => by go_simp) ?_
  try simp only [Act.put, l0, l1, l2]
  refine tk 1 ⟨some 18, .binOp .eql 86 (.tmp 17) (.const (.pointer none)) 86, _, _, _, none⟩ (.bool true) rfl (by kernel_rfl) (fun _ _ _ => id) (trivial) (fun W hSW => by go_simp) ?_
  try simp only [pu, l0, l1, l2]
  refine tk 2 ⟨some 19, .move (.tmp 18), _, _, _, none⟩ (.bool true) rfl (by kernel_rfl) (fun _ _ _ => id) (trivial) (fun W hSW => by go_simp) ?_
  try simp only [pu, l0, l1, l2]
  refine sk 3 ⟨some 20, .fieldAddr 39 (.tmp 3) 0, _, _, _, some (2, false)⟩ rfl (by kernel_rfl) (fun _ _ _ => id) (trivial) ?_
  try simp only [pu, l0, l1, l2]
  refine sk 4 ⟨some 21, .load 3 (.tmp 20), _, _, _, some (2, false)⟩ rfl (by kernel_rfl) (fun _ _ _ => id) (trivial) ?_
  try simp only [pu, l0, l1, l2]
  refine sk 5 ⟨some 22, .move (.tmp 0), _, _, _, some (2, false)⟩ rfl (by kernel_rfl) (fun _ _ _ => id) (trivial) ?_
  try simp only [pu, l0, l1, l2]
  refine sk 6 ⟨some 23, .move (.tmp 5), _, _, _, some (2, false)⟩ rfl (by kernel_rfl) (fun _ _ _ => id) (trivial) ?_
  try simp only [pu, l0, l1, l2]
  refine sk 7 ⟨some 24, .call { callee := .value (.func 96), args := #[.tmp 22, .tmp 23], argTypes := #[46, 25] }, _, _, _, some (2, false)⟩ rfl (by kernel_rfl) (fun _ _ _ => id) (trivial) ?_
  try simp only [pu, l0, l1, l2]
  refine sk 8 ⟨some 25, .binOp .neq 3 (.tmp 21) (.tmp 24) 3, _, _, _, some (2, false)⟩ rfl (by kernel_rfl) (fun _ _ _ => id) (trivial) ?_
  try simp only [pu, l0, l1, l2]
  refine tk 9 ⟨some 26, .pick (.tmp 19) (.const (.bool true)) (.tmp 25), _, _, _, none⟩ (.bool true) rfl (by kernel_rfl) (fun _ _ _ => id) (trivial) (fun W hSW => by go_simp) ?_
  try simp only [pu, l0, l1, l2]
  refine tk 10 ⟨some 27, .move (.tmp 26), _, _, _, none⟩ (.bool true) rfl (by kernel_rfl) (fun _ _ _ => id) (trivial) (fun W hSW => by go_simp) ?_
  try simp only [pu, l0, l1, l2]
  refine sk 11 ⟨some 28, .load 32 (.tmp 6), _, _, _, some (10, false)⟩ rfl (by kernel_rfl) (fun _ _ _ => id) (trivial) ?_
  try simp only [pu, l0, l1, l2]
  refine sk 12 ⟨some 29, .call { callee := .value (.func 97), args := #[.tmp 28], argTypes := #[32] }, _, _, _, some (10, false)⟩ rfl (by kernel_rfl) (fun _ _ _ => id) (trivial) ?_
  try simp only [pu, l0, l1, l2]
  refine sk 13 ⟨some 30, .unOp .not 4 (.tmp 29), _, _, _, some (10, false)⟩ rfl (by kernel_rfl) (fun _ _ _ => id) (trivial) ?_
  try simp only [pu, l0, l1, l2]
  refine tk 14 ⟨some 31, .pick (.tmp 27) (.const (.bool true)) (.tmp 30), _, _, _, none⟩ (.bool true) rfl (by kernel_rfl) (fun _ _ _ => id) (trivial) (fun W hSW => by go_simp) ?_
  try simp only [pu, l0, l1, l2]
  refine tk 15 ⟨some 32, .move (.tmp 31), _, _, _, none⟩ (.bool true) rfl (by kernel_rfl) (fun _ _ _ => id) (trivial) (fun W hSW => by go_simp) ?_
  try simp only [pu, l0, l1, l2]
  refine sk 16 ⟨some 33, .move (.tmp 7), _, _, _, some (15, false)⟩ rfl (by kernel_rfl) (fun _ _ _ => id) (trivial) ?_
  try simp only [pu, l0, l1, l2]
  refine sk 17 ⟨some 34, .load 32 (.tmp 6), _, _, _, some (15, false)⟩ rfl (by kernel_rfl) (fun _ _ _ => id) (trivial) ?_
  try simp only [pu, l0, l1, l2]
  refine sk 18 ⟨some 35, .call { callee := .value (.func 98), args := #[.tmp 34], argTypes := #[32] }, _, _, _, some (15, false)⟩ rfl (by kernel_rfl) (fun _ _ _ => id) (trivial) ?_
  try simp only [pu, l0, l1, l2]
  refine sk 19 ⟨some 36, .call { callee := .value (.func 47), args := #[.tmp 33, .tmp 35], argTypes := #[86, 117] }, _, _, _, some (15, false)⟩ rfl (by kernel_rfl) (fun _ _ _ => id) (trivial) ?_
  try simp only [pu, l0, l1, l2]
  refine tk 20 ⟨some 37, .pick (.tmp 32) (.const (.bool true)) (.tmp 36), _, _, _, none⟩ (.bool true) rfl (by kernel_rfl) (fun _ _ _ => id) (trivial) (fun W hSW => by go_simp) ?_
  try simp only [pu, l0, l1, l2]
  refine tk 21 ⟨some 38, .move (.tmp 37), _, _, _, none⟩ (.bool true) rfl (by kernel_rfl) (fun _ _ _ => id) (trivial) (fun W hSW => by go_simp) ?_
  try simp only [pu, l0, l1, l2]
  refine sk 22 ⟨some 39, .move (.tmp 0), _, _, _, some (21, false)⟩ rfl (by kernel_rfl) (fun _ _ _ => id) (trivial) ?_
  try simp only [pu, l0, l1, l2]
  refine sk 23 ⟨some 40, .fieldAddr 39 (.tmp 3) 0, _, _, _, some (21, false)⟩ rfl (by kernel_rfl) (fun _ _ _ => id) (trivial) ?_
  try simp only [pu, l0, l1, l2]
  refine sk 24 ⟨some 41, .load 3 (.tmp 40), _, _, _, some (21, false)⟩ rfl (by kernel_rfl) (fun _ _ _ => id) (trivial) ?_
  try simp only [pu, l0, l1, l2]
  refine sk 25 ⟨some 42, .call { callee := .value (.func 39), args := #[.tmp 39, .tmp 41], argTypes := #[46, 3] }, _, _, _, some (21, false)⟩ rfl (by kernel_rfl) (fun _ _ _ => id) (trivial) ?_
  try simp only [pu, l0, l1, l2]
  refine sk 26 ⟨some 43, .nilCheck (.tmp 42), _, _, _, some (21, false)⟩ rfl (by kernel_rfl) (fun _ _ _ => id) (trivial) ?_
  try simp only [pu, l0, l1, l2]
  refine sk 27 ⟨some 44, .fieldAddr 96 (.tmp 43) 1, _, _, _, some (21, false)⟩ rfl (by kernel_rfl) (fun _ _ _ => id) (trivial) ?_
  try simp only [pu, l0, l1, l2]
  refine sk 28 ⟨some 45, .load 92 (.tmp 44), _, _, _, some (21, false)⟩ rfl (by kernel_rfl) (fun _ _ _ => id) (trivial) ?_
  try simp only [pu, l0, l1, l2]
  refine sk 29 ⟨some 46, .move (.tmp 5), _, _, _, some (21, false)⟩ rfl (by kernel_rfl) (fun _ _ _ => id) (trivial) ?_
  try simp only [pu, l0, l1, l2]
  refine sk 30 ⟨some 47, .call { callee := .value (.func 99), args := #[.tmp 45, .tmp 46], argTypes := #[92, 25] }, _, _, _, some (21, false)⟩ rfl (by kernel_rfl) (fun _ _ _ => id) (trivial) ?_
  try simp only [pu, l0, l1, l2]
  refine sk 31 ⟨some 48, .unOp .not 4 (.tmp 47), _, _, _, some (21, false)⟩ rfl (by kernel_rfl) (fun _ _ _ => id) (trivial) ?_
  try simp only [pu, l0, l1, l2]
  refine tk 32 ⟨some 49, .pick (.tmp 38) (.const (.bool true)) (.tmp 48), _, _, _, none⟩ (.bool true) rfl (by kernel_rfl) (fun _ _ _ => id) (trivial) (fun W hSW => by go_simp) ?_
  try simp only [pu, l0, l1, l2]
  refine wpAnyH_done (by kernel_rfl) ?_ _
  clear hvn
  go_wp2_with fail
  go_ret
  exact ⟨ret_bool (by rw [HX.out]), A, rfl, by rw [HX.out]; exact G3.out.pop.pop⟩
 ·obtain ⟨c, V, hc, hV, hVv, hptr⟩ := G2.out.vF_at hx
  have HX := iq (prp_some hx hV HS.out)
  have HVV := iq hV
  have HC := iq hc
  have HVv := iq hVv
  have HPr := iq (primary_any G2.out.hd H311.out.1 H311.out.2.1 m.body.view (by have := HV.out; omega))
  clear hx hV hc hVv
  go_wp2_with (go_at_call 43; refine (view_any G2.out.hd (v := m.body.view) (by have := HV.out; omega)).mono ?_; rintro E w3 ⟨rfl, rfl⟩)
  try rw [hptr]
  clear hptr
  refine wp_region_any (by kernel_rfl) ?_
  change wpAny _ _ _ _ _ _ _ (World.drewN _ 1)
  have G3 := iq (G2.out.drewN 1)
  generalize y2.drewN 1 = y3 at G3 ⊢
  clear G2
  have HPm := iq (fun (W : World) (A' : LA) (M' : MLogs) (os' : List Thing) (hn : M'.n = M.n) (h : LogFr v W A' M' os') => primary_any h.hd (by rw [hn]; exact H311.out.1) (by rw [hn]; exact H311.out.2.1) m.body.view (by have := HV.out; omega))
  clear HPr
  refine wpAny_of_held (S := RdS A.g o a.pb mb rb m) _ _ _ _ ?_
  by_cases hp : m.body.view % M.n = o
  ·have hpr : ((m.origin : Int) == ((m.body.view % M.n : Nat) : Int) + 1) = true := by rw [HO.out]; simp; omega
   have hpr2 : (m.origin == (m.body.view : Int) % (M.n : Int) + 1) = true := by rw [HO.out]; simp; omega
   cases hau : authR m.body.req with
   | false =>
    have HNo : Hid (¬ (m.body.view % M.n = o /\ authR m.body.req = true /\ has V.log (rk m.body.req) = false /\ (Sh.prp s.past m.body.view).1 = true)) := iq fun h => by rw [hau] at h; cases h.2.1
    refine tk 0 ⟨some 17, .move (.tmp 7), _, _, _, none⟩ (.pointer (some ⟨c.b, 0, none⟩)) rfl (by kernel_rfl) (fun _ _ _ => id) ((rds G3.out HA.out HS.out)) (fun W hSW => by go_simp) ?_
    try simp only [Act.put, l0, l1, l2]
    refine tk 1 ⟨some 18, .binOp .eql 86 (.tmp 17) (.const (.pointer none)) 86, _, _, _, none⟩ (.bool false) rfl (by kernel_rfl) (fun _ _ _ => id) ((rds G3.out HA.out HS.out)) (fun W hSW => by go_simp) ?_
    try simp only [pu, l0, l1, l2]
    refine tk 2 ⟨some 19, .move (.tmp 18), _, _, _, none⟩ (.bool false) rfl (by kernel_rfl) (fun _ _ _ => id) ((rds G3.out HA.out HS.out)) (fun W hSW => by go_simp) ?_
    try simp only [pu, l0, l1, l2]
    refine tk 3 ⟨some 20, .fieldAddr 39 (.tmp 3) 0, _, _, _, some (2, false)⟩ (.pointer (some ⟨mb, 0, none⟩)) rfl (by kernel_rfl) (fun _ _ _ => id) ((rds G3.out HA.out HS.out)) (fun W hSW => by go_simp) ?_
    try simp only [pu, l0, l1, l2]
    refine tk 4 ⟨some 21, .load 3 (.tmp 20), _, _, _, some (2, false)⟩ (.int .i64 m.origin) rfl (by kernel_rfl) (fun _ _ _ => id) ((rds G3.out HA.out HS.out)) (fun W hSW => by have hv := (HM.out W mb hSW.1).origin; go_simp) ?_
    try simp only [pu, l0, l1, l2]
    refine tk 5 ⟨some 22, .move (.tmp 0), _, _, _, some (2, false)⟩ (.pointer (some ⟨A.L, 0, none⟩)) rfl (by kernel_rfl) (fun _ _ _ => id) ((rds G3.out HA.out HS.out)) (fun W hSW => by go_simp) ?_
    try simp only [pu, l0, l1, l2]
    refine tk 6 ⟨some 23, .move (.tmp 5), _, _, _, some (2, false)⟩ (.int .u64 (m.body.view : Int)) rfl (by kernel_rfl) (fun _ _ _ => id) ((rds G3.out HA.out HS.out)) (fun W hSW => by go_simp) ?_
    try simp only [pu, l0, l1, l2]
    refine rd1 7 ⟨some 24, .call { callee := .value (.func 96), args := #[.tmp 22, .tmp 23], argTypes := #[46, 25] }, _, _, _, some (2, false)⟩ (by kernel_rfl) rfl fun K' hK' => ?_
    go_simp
    go_at_call 96
    refine (HPm.out _ _ _ _ rfl G3.out).mono ?_
    rintro E w4 ⟨rfl, rfl⟩
    refine hK'.out _ _ (rds G3.out HA.out HS.out) (fun _ => ?_)
    clear hK' K'
    try simp only [Act.put, l0, l1, l2]
    refine tk 8 ⟨some 25, .binOp .neq 3 (.tmp 21) (.tmp 24) 3, _, _, _, some (2, false)⟩ (.bool false) rfl (by kernel_rfl) (fun _ _ _ => id) ((rds G3.out HA.out HS.out)) (fun W hSW => by have hv := hpr; have ho8 := HO.out; go_simp) ?_
    try simp only [pu, l0, l1, l2]
    refine tk 9 ⟨some 26, .pick (.tmp 19) (.const (.bool true)) (.tmp 25), _, _, _, none⟩ (.bool false) rfl (by kernel_rfl) (fun _ _ _ => id) ((rds G3.out HA.out HS.out)) (fun W hSW => by go_simp) ?_
    try simp only [pu, l0, l1, l2]
    refine tk 10 ⟨some 27, .move (.tmp 26), _, _, _, none⟩ (.bool false) rfl (by kernel_rfl) (fun _ _ _ => id) ((rds G3.out HA.out HS.out)) (fun W hSW => by go_simp) ?_
    try simp only [pu, l0, l1, l2]
    refine tk 11 ⟨some 28, .load 32 (.tmp 6), _, _, _, some (10, false)⟩ (.agg (reqC m.body.req).toArray) rfl (by kernel_rfl) (fun _ _ _ => id) ((rds G3.out HA.out HS.out)) (fun W hSW => exec_load_mid 32 (.tmp 6) rfl rb 0 rfl (reqC m.body.req) _ (range_of hSW.2.1) Tryz.underlying32 rfl (HI.out)) ?_
    try simp only [pu, l0, l1, l2]
    refine rd1 12 ⟨some 29, .call { callee := .value (.func 97), args := #[.tmp 28], argTypes := #[32] }, _, _, _, some (10, false)⟩ (by kernel_rfl) rfl fun K' hK' => ?_
    go_simp
    go_at_call 97
    refine (authentic_ms m.body.req _ HRt.out G3.out.fr.ksW G3.out.fr.posW).mono ?_
    rintro E w4 ⟨rfl, hb4⟩
    rw [hau]
    have G4 := iq (G3.out.below hb4.out)
    clear hb4 G3
    refine hK'.out _ _ (rds G4.out HA.out HS.out) (fun _ => ?_)
    clear hK' K'
    try simp only [Act.put, l0, l1, l2]
    have G3 := iq G4.out
    clear G4
    refine tk 13 ⟨some 30, .unOp .not 4 (.tmp 29), _, _, _, some (10, false)⟩ (.bool true) rfl (by kernel_rfl) (fun _ _ _ => id) ((rds G3.out HA.out HS.out)) (fun W hSW => by go_simp) ?_
    try simp only [Act.put, l0, l1, l2]
    refine tk 14 ⟨some 31, .pick (.tmp 27) (.const (.bool true)) (.tmp 30), _, _, _, none⟩ (.bool true) rfl (by kernel_rfl) (fun _ _ _ => id) ((rds G3.out HA.out HS.out)) (fun W hSW => by go_simp) ?_
    try simp only [pu, l0, l1, l2]
    refine tk 15 ⟨some 32, .move (.tmp 31), _, _, _, none⟩ (.bool true) rfl (by kernel_rfl) (fun _ _ _ => id) ((rds G3.out HA.out HS.out)) (fun W hSW => by go_simp) ?_
    try simp only [pu, l0, l1, l2]
    refine sk 16 ⟨some 33, .move (.tmp 7), _, _, _, some (15, false)⟩ rfl (by kernel_rfl) (fun _ _ _ => id) ((rds G3.out HA.out HS.out)) ?_
    try simp only [pu, l0, l1, l2]
    refine sk 17 ⟨some 34, .load 32 (.tmp 6), _, _, _, some (15, false)⟩ rfl (by kernel_rfl) (fun _ _ _ => id) ((rds G3.out HA.out HS.out)) ?_
    try simp only [pu, l0, l1, l2]
    refine sk 18 ⟨some 35, .call { callee := .value (.func 98), args := #[.tmp 34], argTypes := #[32] }, _, _, _, some (15, false)⟩ rfl (by kernel_rfl) (fun _ _ _ => id) ((rds G3.out HA.out HS.out)) ?_
    try simp only [pu, l0, l1, l2]
    refine sk 19 ⟨some 36, .call { callee := .value (.func 47), args := #[.tmp 33, .tmp 35], argTypes := #[86, 117] }, _, _, _, some (15, false)⟩ rfl (by kernel_rfl) (fun _ _ _ => id) ((rds G3.out HA.out HS.out)) ?_
    try simp only [pu, l0, l1, l2]
    refine tk 20 ⟨some 37, .pick (.tmp 32) (.const (.bool true)) (.tmp 36), _, _, _, none⟩ (.bool true) rfl (by kernel_rfl) (fun _ _ _ => id) ((rds G3.out HA.out HS.out)) (fun W hSW => by go_simp) ?_
    try simp only [pu, l0, l1, l2]
    refine tk 21 ⟨some 38, .move (.tmp 37), _, _, _, none⟩ (.bool true) rfl (by kernel_rfl) (fun _ _ _ => id) ((rds G3.out HA.out HS.out)) (fun W hSW => by go_simp) ?_
    try simp only [pu, l0, l1, l2]
    refine sk 22 ⟨some 39, .move (.tmp 0), _, _, _, some (21, false)⟩ rfl (by kernel_rfl) (fun _ _ _ => id) ((rds G3.out HA.out HS.out)) ?_
    try simp only [pu, l0, l1, l2]
    refine sk 23 ⟨some 40, .fieldAddr 39 (.tmp 3) 0, _, _, _, some (21, false)⟩ rfl (by kernel_rfl) (fun _ _ _ => id) ((rds G3.out HA.out HS.out)) ?_
    try simp only [pu, l0, l1, l2]
    refine sk 24 ⟨some 41, .load 3 (.tmp 40), _, _, _, some (21, false)⟩ rfl (by kernel_rfl) (fun _ _ _ => id) ((rds G3.out HA.out HS.out)) ?_
    try simp only [pu, l0, l1, l2]
    refine sk 25 ⟨some 42, .call { callee := .value (.func 39), args := #[.tmp 39, .tmp 41], argTypes := #[46, 3] }, _, _, _, some (21, false)⟩ rfl (by kernel_rfl) (fun _ _ _ => id) ((rds G3.out HA.out HS.out)) ?_
    try simp only [pu, l0, l1, l2]
    refine sk 26 ⟨some 43, .nilCheck (.tmp 42), _, _, _, some (21, false)⟩ rfl (by kernel_rfl) (fun _ _ _ => id) ((rds G3.out HA.out HS.out)) ?_
    try simp only [pu, l0, l1, l2]
    refine sk 27 ⟨some 44, .fieldAddr 96 (.tmp 43) 1, _, _, _, some (21, false)⟩ rfl (by kernel_rfl) (fun _ _ _ => id) ((rds G3.out HA.out HS.out)) ?_
    try simp only [pu, l0, l1, l2]
    refine sk 28 ⟨some 45, .load 92 (.tmp 44), _, _, _, some (21, false)⟩ rfl (by kernel_rfl) (fun _ _ _ => id) ((rds G3.out HA.out HS.out)) ?_
    try simp only [pu, l0, l1, l2]
    refine sk 29 ⟨some 46, .move (.tmp 5), _, _, _, some (21, false)⟩ rfl (by kernel_rfl) (fun _ _ _ => id) ((rds G3.out HA.out HS.out)) ?_
    try simp only [pu, l0, l1, l2]
    refine sk 30 ⟨some 47, .call { callee := .value (.func 99), args := #[.tmp 45, .tmp 46], argTypes := #[92, 25] }, _, _, _, some (21, false)⟩ rfl (by kernel_rfl) (fun _ _ _ => id) ((rds G3.out HA.out HS.out)) ?_
    try simp only [pu, l0, l1, l2]
    refine sk 31 ⟨some 48, .unOp .not 4 (.tmp 47), _, _, _, some (21, false)⟩ rfl (by kernel_rfl) (fun _ _ _ => id) ((rds G3.out HA.out HS.out)) ?_
    try simp only [pu, l0, l1, l2]
    refine tk 32 ⟨some 49, .pick (.tmp 38) (.const (.bool true)) (.tmp 48), _, _, _, none⟩ (.bool true) rfl (by kernel_rfl) (fun _ _ _ => id) ((rds G3.out HA.out HS.out)) (fun W hSW => by go_simp) ?_
    try simp only [pu, l0, l1, l2]
    refine wpAnyH_done (by kernel_rfl) ?_ _
    clear hpr hpr2 hau
    go_wp2_with fail
    go_ret
    exact ⟨ret_bool (by rw [HX.out, if_neg HNo.out]), A, rfl, by rw [HX.out, if_neg HNo.out]; exact G3.out.pop.pop⟩
   | true =>
    cases hhas : has V.log (rk m.body.req) with
    | true =>
     have HNo : Hid (¬ (m.body.view % M.n = o /\ authR m.body.req = true /\ has V.log (rk m.body.req) = false /\ (Sh.prp s.past m.body.view).1 = true)) := iq fun h => by rw [hhas] at h; cases h.2.2.1
     refine tk 0 ⟨some 17, .move (.tmp 7), _, _, _, none⟩ (.pointer (some ⟨c.b, 0, none⟩)) rfl (by kernel_rfl) (fun _ _ _ => id) ((rds G3.out HA.out HS.out)) (fun W hSW => by go_simp) ?_
     try simp only [Act.put, l0, l1, l2]
     refine tk 1 ⟨some 18, .binOp .eql 86 (.tmp 17) (.const (.pointer none)) 86, _, _, _, none⟩ (.bool false) rfl (by kernel_rfl) (fun _ _ _ => id) ((rds G3.out HA.out HS.out)) (fun W hSW => by go_simp) ?_
     try simp only [pu, l0, l1, l2]
     refine tk 2 ⟨some 19, .move (.tmp 18), _, _, _, none⟩ (.bool false) rfl (by kernel_rfl) (fun _ _ _ => id) ((rds G3.out HA.out HS.out)) (fun W hSW => by go_simp) ?_
     try simp only [pu, l0, l1, l2]
     refine tk 3 ⟨some 20, .fieldAddr 39 (.tmp 3) 0, _, _, _, some (2, false)⟩ (.pointer (some ⟨mb, 0, none⟩)) rfl (by kernel_rfl) (fun _ _ _ => id) ((rds G3.out HA.out HS.out)) (fun W hSW => by go_simp) ?_
     try simp only [pu, l0, l1, l2]
     refine tk 4 ⟨some 21, .load 3 (.tmp 20), _, _, _, some (2, false)⟩ (.int .i64 m.origin) rfl (by kernel_rfl) (fun _ _ _ => id) ((rds G3.out HA.out HS.out)) (fun W hSW => by have hv := (HM.out W mb hSW.1).origin; go_simp) ?_
     try simp only [pu, l0, l1, l2]
     refine tk 5 ⟨some 22, .move (.tmp 0), _, _, _, some (2, false)⟩ (.pointer (some ⟨A.L, 0, none⟩)) rfl (by kernel_rfl) (fun _ _ _ => id) ((rds G3.out HA.out HS.out)) (fun W hSW => by go_simp) ?_
     try simp only [pu, l0, l1, l2]
     refine tk 6 ⟨some 23, .move (.tmp 5), _, _, _, some (2, false)⟩ (.int .u64 (m.body.view : Int)) rfl (by kernel_rfl) (fun _ _ _ => id) ((rds G3.out HA.out HS.out)) (fun W hSW => by go_simp) ?_
     try simp only [pu, l0, l1, l2]
     refine rd1 7 ⟨some 24, .call { callee := .value (.func 96), args := #[.tmp 22, .tmp 23], argTypes := #[46, 25] }, _, _, _, some (2, false)⟩ (by kernel_rfl) rfl fun K' hK' => ?_
     go_simp
     go_at_call 96
     refine (HPm.out _ _ _ _ rfl G3.out).mono ?_
     rintro E w4 ⟨rfl, rfl⟩
     refine hK'.out _ _ (rds G3.out HA.out HS.out) (fun _ => ?_)
     clear hK' K'
     try simp only [Act.put, l0, l1, l2]
     refine tk 8 ⟨some 25, .binOp .neq 3 (.tmp 21) (.tmp 24) 3, _, _, _, some (2, false)⟩ (.bool false) rfl (by kernel_rfl) (fun _ _ _ => id) ((rds G3.out HA.out HS.out)) (fun W hSW => by have hv := hpr; have ho8 := HO.out; go_simp) ?_
     try simp only [pu, l0, l1, l2]
     refine tk 9 ⟨some 26, .pick (.tmp 19) (.const (.bool true)) (.tmp 25), _, _, _, none⟩ (.bool false) rfl (by kernel_rfl) (fun _ _ _ => id) ((rds G3.out HA.out HS.out)) (fun W hSW => by go_simp) ?_
     try simp only [pu, l0, l1, l2]
     refine tk 10 ⟨some 27, .move (.tmp 26), _, _, _, none⟩ (.bool false) rfl (by kernel_rfl) (fun _ _ _ => id) ((rds G3.out HA.out HS.out)) (fun W hSW => by go_simp) ?_
     try simp only [pu, l0, l1, l2]
     refine tk 11 ⟨some 28, .load 32 (.tmp 6), _, _, _, some (10, false)⟩ (.agg (reqC m.body.req).toArray) rfl (by kernel_rfl) (fun _ _ _ => id) ((rds G3.out HA.out HS.out)) (fun W hSW => exec_load_mid 32 (.tmp 6) rfl rb 0 rfl (reqC m.body.req) _ (range_of hSW.2.1) Tryz.underlying32 rfl (HI.out)) ?_
     try simp only [pu, l0, l1, l2]
     refine rd1 12 ⟨some 29, .call { callee := .value (.func 97), args := #[.tmp 28], argTypes := #[32] }, _, _, _, some (10, false)⟩ (by kernel_rfl) rfl fun K' hK' => ?_
     go_simp
     go_at_call 97
     refine (authentic_ms m.body.req _ HRt.out G3.out.fr.ksW G3.out.fr.posW).mono ?_
     rintro E w4 ⟨rfl, hb4⟩
     rw [hau]
     have G4 := iq (G3.out.below hb4.out)
     clear hb4 G3
     refine hK'.out _ _ (rds G4.out HA.out HS.out) (fun _ => ?_)
     clear hK' K'
     try simp only [Act.put, l0, l1, l2]
     have G3 := iq G4.out
     clear G4
     refine tk 13 ⟨some 30, .unOp .not 4 (.tmp 29), _, _, _, some (10, false)⟩ (.bool false) rfl (by kernel_rfl) (fun _ _ _ => id) ((rds G3.out HA.out HS.out)) (fun W hSW => by go_simp) ?_
     try simp only [Act.put, l0, l1, l2]
     refine tk 14 ⟨some 31, .pick (.tmp 27) (.const (.bool true)) (.tmp 30), _, _, _, none⟩ (.bool false) rfl (by kernel_rfl) (fun _ _ _ => id) ((rds G3.out HA.out HS.out)) (fun W hSW => by go_simp) ?_
     try simp only [pu, l0, l1, l2]
     refine tk 15 ⟨some 32, .move (.tmp 31), _, _, _, none⟩ (.bool false) rfl (by kernel_rfl) (fun _ _ _ => id) ((rds G3.out HA.out HS.out)) (fun W hSW => by go_simp) ?_
     try simp only [pu, l0, l1, l2]
     refine tk 16 ⟨some 33, .move (.tmp 7), _, _, _, some (15, false)⟩ (.pointer (some ⟨c.b, 0, none⟩)) rfl (by kernel_rfl) (fun _ _ _ => id) ((rds G3.out HA.out HS.out)) (fun W hSW => by go_simp) ?_
     try simp only [pu, l0, l1, l2]
     refine tk 17 ⟨some 34, .load 32 (.tmp 6), _, _, _, some (15, false)⟩ (.agg (reqC m.body.req).toArray) rfl (by kernel_rfl) (fun _ _ _ => id) ((rds G3.out HA.out HS.out)) (fun W hSW => exec_load_mid 32 (.tmp 6) rfl rb 0 rfl (reqC m.body.req) _ (range_of hSW.2.1) Tryz.underlying32 rfl (HI.out)) ?_
     try simp only [pu, l0, l1, l2]
     refine rd1 18 ⟨some 35, .call { callee := .value (.func 98), args := #[.tmp 34], argTypes := #[32] }, _, _, _, some (15, false)⟩ (by kernel_rfl) rfl fun K' hK' => ?_
     go_simp
     go_at_call 98
     refine (by_any m.body.req _).mono ?_
     rintro E w4 ⟨rfl, hb4⟩
     have G4 := iq (G3.out.below hb4)
     clear hb4 G3
     refine hK'.out _ _ (rds G4.out HA.out HS.out) (fun _ => ?_)
     clear hK' K'
     try simp only [Act.put, l0, l1, l2]
     have G3 := iq G4.out
     clear G4
     refine rd1 19 ⟨some 36, .call { callee := .value (.func 47), args := #[.tmp 33, .tmp 35], argTypes := #[86, 117] }, _, _, _, some (15, false)⟩ (by kernel_rfl) rfl fun K' hK' => ?_
     go_simp
     go_at_call 47
     refine (holds_any G3.out (by have := HT.out; omega) HC.out HVV.out _ HK.out).mono ?_
     rintro E w4 ⟨rfl, hb4⟩
     rw [hhas]
     have G4 := iq (G3.out.below hb4)
     clear hb4 G3
     refine hK'.out _ _ (rds G4.out HA.out HS.out) (fun _ => ?_)
     clear hK' K'
     try simp only [Act.put, l0, l1, l2]
     have G3 := iq G4.out
     clear G4
     refine tk 20 ⟨some 37, .pick (.tmp 32) (.const (.bool true)) (.tmp 36), _, _, _, none⟩ (.bool true) rfl (by kernel_rfl) (fun _ _ _ => id) ((rds G3.out HA.out HS.out)) (fun W hSW => by go_simp) ?_
     try simp only [Act.put, l0, l1, l2]
     refine tk 21 ⟨some 38, .move (.tmp 37), _, _, _, none⟩ (.bool true) rfl (by kernel_rfl) (fun _ _ _ => id) ((rds G3.out HA.out HS.out)) (fun W hSW => by go_simp) ?_
     try simp only [pu, l0, l1, l2]
     refine sk 22 ⟨some 39, .move (.tmp 0), _, _, _, some (21, false)⟩ rfl (by kernel_rfl) (fun _ _ _ => id) ((rds G3.out HA.out HS.out)) ?_
     try simp only [pu, l0, l1, l2]
     refine sk 23 ⟨some 40, .fieldAddr 39 (.tmp 3) 0, _, _, _, some (21, false)⟩ rfl (by kernel_rfl) (fun _ _ _ => id) ((rds G3.out HA.out HS.out)) ?_
     try simp only [pu, l0, l1, l2]
     refine sk 24 ⟨some 41, .load 3 (.tmp 40), _, _, _, some (21, false)⟩ rfl (by kernel_rfl) (fun _ _ _ => id) ((rds G3.out HA.out HS.out)) ?_
     try simp only [pu, l0, l1, l2]
     refine sk 25 ⟨some 42, .call { callee := .value (.func 39), args := #[.tmp 39, .tmp 41], argTypes := #[46, 3] }, _, _, _, some (21, false)⟩ rfl (by kernel_rfl) (fun _ _ _ => id) ((rds G3.out HA.out HS.out)) ?_
     try simp only [pu, l0, l1, l2]
     refine sk 26 ⟨some 43, .nilCheck (.tmp 42), _, _, _, some (21, false)⟩ rfl (by kernel_rfl) (fun _ _ _ => id) ((rds G3.out HA.out HS.out)) ?_
     try simp only [pu, l0, l1, l2]
     refine sk 27 ⟨some 44, .fieldAddr 96 (.tmp 43) 1, _, _, _, some (21, false)⟩ rfl (by kernel_rfl) (fun _ _ _ => id) ((rds G3.out HA.out HS.out)) ?_
     try simp only [pu, l0, l1, l2]
     refine sk 28 ⟨some 45, .load 92 (.tmp 44), _, _, _, some (21, false)⟩ rfl (by kernel_rfl) (fun _ _ _ => id) ((rds G3.out HA.out HS.out)) ?_
     try simp only [pu, l0, l1, l2]
     refine sk 29 ⟨some 46, .move (.tmp 5), _, _, _, some (21, false)⟩ rfl (by kernel_rfl) (fun _ _ _ => id) ((rds G3.out HA.out HS.out)) ?_
     try simp only [pu, l0, l1, l2]
     refine sk 30 ⟨some 47, .call { callee := .value (.func 99), args := #[.tmp 45, .tmp 46], argTypes := #[92, 25] }, _, _, _, some (21, false)⟩ rfl (by kernel_rfl) (fun _ _ _ => id) ((rds G3.out HA.out HS.out)) ?_
     try simp only [pu, l0, l1, l2]
     refine sk 31 ⟨some 48, .unOp .not 4 (.tmp 47), _, _, _, some (21, false)⟩ rfl (by kernel_rfl) (fun _ _ _ => id) ((rds G3.out HA.out HS.out)) ?_
     try simp only [pu, l0, l1, l2]
     refine tk 32 ⟨some 49, .pick (.tmp 38) (.const (.bool true)) (.tmp 48), _, _, _, none⟩ (.bool true) rfl (by kernel_rfl) (fun _ _ _ => id) ((rds G3.out HA.out HS.out)) (fun W hSW => by go_simp) ?_
     try simp only [pu, l0, l1, l2]
     refine wpAnyH_done (by kernel_rfl) ?_ _
     clear hpr hpr2 hau hhas
     go_wp2_with fail
     go_ret
     exact ⟨ret_bool (by rw [HX.out, if_neg HNo.out]), A, rfl, by rw [HX.out, if_neg HNo.out]; exact G3.out.pop.pop⟩
    | false =>
     cases hpp : (Sh.prp s.past m.body.view).1 with
     | false =>
      have HNo : Hid (¬ (m.body.view % M.n = o /\ authR m.body.req = true /\ has V.log (rk m.body.req) = false /\ (Sh.prp s.past m.body.view).1 = true)) := iq fun h => by rw [hpp] at h; cases h.2.2.2
      have HP2 := iq (pprp_false hpp)
      refine tk 0 ⟨some 17, .move (.tmp 7), _, _, _, none⟩ (.pointer (some ⟨c.b, 0, none⟩)) rfl (by kernel_rfl) (fun _ _ _ => id) ((rds G3.out HA.out HS.out)) (fun W hSW => by go_simp) ?_
      try simp only [Act.put, l0, l1, l2]
      refine tk 1 ⟨some 18, .binOp .eql 86 (.tmp 17) (.const (.pointer none)) 86, _, _, _, none⟩ (.bool false) rfl (by kernel_rfl) (fun _ _ _ => id) ((rds G3.out HA.out HS.out)) (fun W hSW => by go_simp) ?_
      try simp only [pu, l0, l1, l2]
      refine tk 2 ⟨some 19, .move (.tmp 18), _, _, _, none⟩ (.bool false) rfl (by kernel_rfl) (fun _ _ _ => id) ((rds G3.out HA.out HS.out)) (fun W hSW => by go_simp) ?_
      try simp only [pu, l0, l1, l2]
      refine tk 3 ⟨some 20, .fieldAddr 39 (.tmp 3) 0, _, _, _, some (2, false)⟩ (.pointer (some ⟨mb, 0, none⟩)) rfl (by kernel_rfl) (fun _ _ _ => id) ((rds G3.out HA.out HS.out)) (fun W hSW => by go_simp) ?_
      try simp only [pu, l0, l1, l2]
      refine tk 4 ⟨some 21, .load 3 (.tmp 20), _, _, _, some (2, false)⟩ (.int .i64 m.origin) rfl (by kernel_rfl) (fun _ _ _ => id) ((rds G3.out HA.out HS.out)) (fun W hSW => by have hv := (HM.out W mb hSW.1).origin; go_simp) ?_
      try simp only [pu, l0, l1, l2]
      refine tk 5 ⟨some 22, .move (.tmp 0), _, _, _, some (2, false)⟩ (.pointer (some ⟨A.L, 0, none⟩)) rfl (by kernel_rfl) (fun _ _ _ => id) ((rds G3.out HA.out HS.out)) (fun W hSW => by go_simp) ?_
      try simp only [pu, l0, l1, l2]
      refine tk 6 ⟨some 23, .move (.tmp 5), _, _, _, some (2, false)⟩ (.int .u64 (m.body.view : Int)) rfl (by kernel_rfl) (fun _ _ _ => id) ((rds G3.out HA.out HS.out)) (fun W hSW => by go_simp) ?_
      try simp only [pu, l0, l1, l2]
      refine rd1 7 ⟨some 24, .call { callee := .value (.func 96), args := #[.tmp 22, .tmp 23], argTypes := #[46, 25] }, _, _, _, some (2, false)⟩ (by kernel_rfl) rfl fun K' hK' => ?_
      go_simp
      go_at_call 96
      refine (HPm.out _ _ _ _ rfl G3.out).mono ?_
      rintro E w4 ⟨rfl, rfl⟩
      refine hK'.out _ _ (rds G3.out HA.out HS.out) (fun _ => ?_)
      clear hK' K'
      try simp only [Act.put, l0, l1, l2]
      refine tk 8 ⟨some 25, .binOp .neq 3 (.tmp 21) (.tmp 24) 3, _, _, _, some (2, false)⟩ (.bool false) rfl (by kernel_rfl) (fun _ _ _ => id) ((rds G3.out HA.out HS.out)) (fun W hSW => by have hv := hpr; have ho8 := HO.out; go_simp) ?_
      try simp only [pu, l0, l1, l2]
      refine tk 9 ⟨some 26, .pick (.tmp 19) (.const (.bool true)) (.tmp 25), _, _, _, none⟩ (.bool false) rfl (by kernel_rfl) (fun _ _ _ => id) ((rds G3.out HA.out HS.out)) (fun W hSW => by go_simp) ?_
      try simp only [pu, l0, l1, l2]
      refine tk 10 ⟨some 27, .move (.tmp 26), _, _, _, none⟩ (.bool false) rfl (by kernel_rfl) (fun _ _ _ => id) ((rds G3.out HA.out HS.out)) (fun W hSW => by go_simp) ?_
      try simp only [pu, l0, l1, l2]
      refine tk 11 ⟨some 28, .load 32 (.tmp 6), _, _, _, some (10, false)⟩ (.agg (reqC m.body.req).toArray) rfl (by kernel_rfl) (fun _ _ _ => id) ((rds G3.out HA.out HS.out)) (fun W hSW => exec_load_mid 32 (.tmp 6) rfl rb 0 rfl (reqC m.body.req) _ (range_of hSW.2.1) Tryz.underlying32 rfl (HI.out)) ?_
      try simp only [pu, l0, l1, l2]
      refine rd1 12 ⟨some 29, .call { callee := .value (.func 97), args := #[.tmp 28], argTypes := #[32] }, _, _, _, some (10, false)⟩ (by kernel_rfl) rfl fun K' hK' => ?_
      go_simp
      go_at_call 97
      refine (authentic_ms m.body.req _ HRt.out G3.out.fr.ksW G3.out.fr.posW).mono ?_
      rintro E w4 ⟨rfl, hb4⟩
      rw [hau]
      have G4 := iq (G3.out.below hb4.out)
      clear hb4 G3
      refine hK'.out _ _ (rds G4.out HA.out HS.out) (fun _ => ?_)
      clear hK' K'
      try simp only [Act.put, l0, l1, l2]
      have G3 := iq G4.out
      clear G4
      refine tk 13 ⟨some 30, .unOp .not 4 (.tmp 29), _, _, _, some (10, false)⟩ (.bool false) rfl (by kernel_rfl) (fun _ _ _ => id) ((rds G3.out HA.out HS.out)) (fun W hSW => by go_simp) ?_
      try simp only [Act.put, l0, l1, l2]
      refine tk 14 ⟨some 31, .pick (.tmp 27) (.const (.bool true)) (.tmp 30), _, _, _, none⟩ (.bool false) rfl (by kernel_rfl) (fun _ _ _ => id) ((rds G3.out HA.out HS.out)) (fun W hSW => by go_simp) ?_
      try simp only [pu, l0, l1, l2]
      refine tk 15 ⟨some 32, .move (.tmp 31), _, _, _, none⟩ (.bool false) rfl (by kernel_rfl) (fun _ _ _ => id) ((rds G3.out HA.out HS.out)) (fun W hSW => by go_simp) ?_
      try simp only [pu, l0, l1, l2]
      refine tk 16 ⟨some 33, .move (.tmp 7), _, _, _, some (15, false)⟩ (.pointer (some ⟨c.b, 0, none⟩)) rfl (by kernel_rfl) (fun _ _ _ => id) ((rds G3.out HA.out HS.out)) (fun W hSW => by go_simp) ?_
      try simp only [pu, l0, l1, l2]
      refine tk 17 ⟨some 34, .load 32 (.tmp 6), _, _, _, some (15, false)⟩ (.agg (reqC m.body.req).toArray) rfl (by kernel_rfl) (fun _ _ _ => id) ((rds G3.out HA.out HS.out)) (fun W hSW => exec_load_mid 32 (.tmp 6) rfl rb 0 rfl (reqC m.body.req) _ (range_of hSW.2.1) Tryz.underlying32 rfl (HI.out)) ?_
      try simp only [pu, l0, l1, l2]
      refine rd1 18 ⟨some 35, .call { callee := .value (.func 98), args := #[.tmp 34], argTypes := #[32] }, _, _, _, some (15, false)⟩ (by kernel_rfl) rfl fun K' hK' => ?_
      go_simp
      go_at_call 98
      refine (by_any m.body.req _).mono ?_
      rintro E w4 ⟨rfl, hb4⟩
      have G4 := iq (G3.out.below hb4)
      clear hb4 G3
      refine hK'.out _ _ (rds G4.out HA.out HS.out) (fun _ => ?_)
      clear hK' K'
      try simp only [Act.put, l0, l1, l2]
      have G3 := iq G4.out
      clear G4
      refine rd1 19 ⟨some 36, .call { callee := .value (.func 47), args := #[.tmp 33, .tmp 35], argTypes := #[86, 117] }, _, _, _, some (15, false)⟩ (by kernel_rfl) rfl fun K' hK' => ?_
      go_simp
      go_at_call 47
      refine (holds_any G3.out (by have := HT.out; omega) HC.out HVV.out _ HK.out).mono ?_
      rintro E w4 ⟨rfl, hb4⟩
      rw [hhas]
      have G4 := iq (G3.out.below hb4)
      clear hb4 G3
      refine hK'.out _ _ (rds G4.out HA.out HS.out) (fun _ => ?_)
      clear hK' K'
      try simp only [Act.put, l0, l1, l2]
      have G3 := iq G4.out
      clear G4
      refine tk 20 ⟨some 37, .pick (.tmp 32) (.const (.bool true)) (.tmp 36), _, _, _, none⟩ (.bool false) rfl (by kernel_rfl) (fun _ _ _ => id) ((rds G3.out HA.out HS.out)) (fun W hSW => by go_simp) ?_
      try simp only [Act.put, l0, l1, l2]
      refine tk 21 ⟨some 38, .move (.tmp 37), _, _, _, none⟩ (.bool false) rfl (by kernel_rfl) (fun _ _ _ => id) ((rds G3.out HA.out HS.out)) (fun W hSW => by go_simp) ?_
      try simp only [pu, l0, l1, l2]
      refine tk 22 ⟨some 39, .move (.tmp 0), _, _, _, some (21, false)⟩ (.pointer (some ⟨A.L, 0, none⟩)) rfl (by kernel_rfl) (fun _ _ _ => id) ((rds G3.out HA.out HS.out)) (fun W hSW => by go_simp) ?_
      try simp only [pu, l0, l1, l2]
      refine tk 23 ⟨some 40, .fieldAddr 39 (.tmp 3) 0, _, _, _, some (21, false)⟩ (.pointer (some ⟨mb, 0, none⟩)) rfl (by kernel_rfl) (fun _ _ _ => id) ((rds G3.out HA.out HS.out)) (fun W hSW => by go_simp) ?_
      try simp only [pu, l0, l1, l2]
      refine tk 24 ⟨some 41, .load 3 (.tmp 40), _, _, _, some (21, false)⟩ (.int .i64 m.origin) rfl (by kernel_rfl) (fun _ _ _ => id) ((rds G3.out HA.out HS.out)) (fun W hSW => by have hv := (HM.out W mb hSW.1).origin; go_simp) ?_
      try simp only [pu, l0, l1, l2]
      refine tk 29 ⟨some 46, .move (.tmp 5), _, _, _, some (21, false)⟩ (.int .u64 (m.body.view : Int)) rfl (by kernel_rfl) (fun _ _ _ => id) ((rds G3.out HA.out HS.out)) (fun W hSW => by go_simp) ?_
      try simp only [pu, l0, l1, l2]
      refine rd1 25 ⟨some 42, .call { callee := .value (.func 39), args := #[.tmp 39, .tmp 41], argTypes := #[46, 3] }, _, _, _, some (21, false)⟩ (by kernel_rfl) rfl fun K' hK' => ?_
      go_simp
      go_at_call 39
      refine (stream_any G3.out.hd H311.out.2.1 H311.out.2.2 HO.out).mono ?_
      rintro E w4 ⟨rfl, rfl⟩
      refine hK'.out _ _ (rds G3.out HA.out HS.out) (fun _ => ?_)
      clear hK' K'
      try simp only [Act.put, l0, l1, l2]
      refine tk 26 ⟨some 43, .nilCheck (.tmp 42), _, _, _, some (21, false)⟩ (.pointer (some ⟨A.g, o * 4, none⟩)) rfl (by kernel_rfl) (fun _ _ _ => id) ((rds G3.out HA.out HS.out)) (fun W hSW => by go_simp) ?_
      try simp only [pu, l0, l1, l2]
      refine tk 27 ⟨some 44, .fieldAddr 96 (.tmp 43) 1, _, _, _, some (21, false)⟩ (.pointer (some ⟨A.g, o * 4 + 1, none⟩)) rfl (by kernel_rfl) (fun _ _ _ => id) ((rds G3.out HA.out HS.out)) (fun W hSW => by go_simp) ?_
      try simp only [pu, l0, l1, l2]
      refine tk 28 ⟨some 45, .load 92 (.tmp 44), _, _, _, some (21, false)⟩ (.pointer (some ⟨a.pb, 0, none⟩)) rfl (by kernel_rfl) (fun _ _ _ => id) ((rds G3.out HA.out HS.out)) (fun W hSW => by have hv := hSW.2.2; go_simp) ?_
      try simp only [pu, l0, l1, l2]
      refine rd1 30 ⟨some 47, .call { callee := .value (.func 99), args := #[.tmp 45, .tmp 46], argTypes := #[92, 25] }, _, _, _, some (21, false)⟩ (by kernel_rfl) rfl fun K' hK' => ?_
      go_simp
      go_at_call 99
      refine (Prepare_any ⟨_, _, G3.out.past HA.out HS.out⟩ (x := m.body.view) (by have := HV.out; omega)).mono ?_
      rintro E w4 ⟨rfl, hpa⟩
      rw [hpp]
      obtain ⟨A1, e1, e2, e3, hL⟩ := G3.out.past_put HA.out HS.out hpa
      have hhd : HdAt w4 A M := (let ⟨_, _, hf⟩ := hpa; hf.hd2)
      have HSn : Hid (RdS A.g o a.pb mb rb m w4) := iq ⟨hL.pop.top, hL.top, (hhd.str HA.out HS.out).2.1⟩
      have G5 := iq hL
      have HE1 : Hid (A1.L = A.L /\ A1.va = A.va) := iq ⟨e1, e3⟩
      clear hpa hL hhd e1 e2 e3
      refine hK'.out _ _ HSn.out (fun _ => ?_)
      clear hK' K'
      try simp only [Act.put, l0, l1, l2]
      refine tk 31 ⟨some 48, .unOp .not 4 (.tmp 47), _, _, _, some (21, false)⟩ (.bool true) rfl (by kernel_rfl) (fun _ _ _ => id) (HSn.out) (fun W hSW => by go_simp) ?_
      try simp only [pu, l0, l1, l2]
      refine tk 32 ⟨some 49, .pick (.tmp 38) (.const (.bool true)) (.tmp 48), _, _, _, none⟩ (.bool true) rfl (by kernel_rfl) (fun _ _ _ => id) (HSn.out) (fun W hSW => by go_simp) ?_
      try simp only [pu, l0, l1, l2]
      refine wpAnyH_done (by kernel_rfl) ?_ _
      clear hpr hpr2 hau hhas hpp
      go_wp2_with fail
      go_ret
      exact ⟨ret_bool (by rw [HX.out, if_neg HNo.out]), A1, HE1.out.1, by
       rw [HX.out, if_neg HNo.out]
       have h := G5.out
       rw [HP2.out, show ({ s with past := s.past } : MStr) = s from rfl, upd_id HS.out] at h
       exact h.pop.pop⟩
     | true =>
      have HYes : Hid (m.body.view % M.n = o /\ authR m.body.req = true /\ has V.log (rk m.body.req) = false /\ (Sh.prp s.past m.body.view).1 = true) := iq ⟨hp, hau, hhas, hpp⟩
      refine tk 0 ⟨some 17, .move (.tmp 7), _, _, _, none⟩ (.pointer (some ⟨c.b, 0, none⟩)) rfl (by kernel_rfl) (fun _ _ _ => id) ((rds G3.out HA.out HS.out)) (fun W hSW => by go_simp) ?_
      try simp only [Act.put, l0, l1, l2]
      refine tk 1 ⟨some 18, .binOp .eql 86 (.tmp 17) (.const (.pointer none)) 86, _, _, _, none⟩ (.bool false) rfl (by kernel_rfl) (fun _ _ _ => id) ((rds G3.out HA.out HS.out)) (fun W hSW => by go_simp) ?_
      try simp only [pu, l0, l1, l2]
      refine tk 2 ⟨some 19, .move (.tmp 18), _, _, _, none⟩ (.bool false) rfl (by kernel_rfl) (fun _ _ _ => id) ((rds G3.out HA.out HS.out)) (fun W hSW => by go_simp) ?_
      try simp only [pu, l0, l1, l2]
      refine tk 3 ⟨some 20, .fieldAddr 39 (.tmp 3) 0, _, _, _, some (2, false)⟩ (.pointer (some ⟨mb, 0, none⟩)) rfl (by kernel_rfl) (fun _ _ _ => id) ((rds G3.out HA.out HS.out)) (fun W hSW => by go_simp) ?_
      try simp only [pu, l0, l1, l2]
      refine tk 4 ⟨some 21, .load 3 (.tmp 20), _, _, _, some (2, false)⟩ (.int .i64 m.origin) rfl (by kernel_rfl) (fun _ _ _ => id) ((rds G3.out HA.out HS.out)) (fun W hSW => by have hv := (HM.out W mb hSW.1).origin; go_simp) ?_
      try simp only [pu, l0, l1, l2]
      refine tk 5 ⟨some 22, .move (.tmp 0), _, _, _, some (2, false)⟩ (.pointer (some ⟨A.L, 0, none⟩)) rfl (by kernel_rfl) (fun _ _ _ => id) ((rds G3.out HA.out HS.out)) (fun W hSW => by go_simp) ?_
      try simp only [pu, l0, l1, l2]
      refine tk 6 ⟨some 23, .move (.tmp 5), _, _, _, some (2, false)⟩ (.int .u64 (m.body.view : Int)) rfl (by kernel_rfl) (fun _ _ _ => id) ((rds G3.out HA.out HS.out)) (fun W hSW => by go_simp) ?_
      try simp only [pu, l0, l1, l2]
      refine rd1 7 ⟨some 24, .call { callee := .value (.func 96), args := #[.tmp 22, .tmp 23], argTypes := #[46, 25] }, _, _, _, some (2, false)⟩ (by kernel_rfl) rfl fun K' hK' => ?_
      go_simp
      go_at_call 96
      refine (HPm.out _ _ _ _ rfl G3.out).mono ?_
      rintro E w4 ⟨rfl, rfl⟩
      refine hK'.out _ _ (rds G3.out HA.out HS.out) (fun _ => ?_)
      clear hK' K'
      try simp only [Act.put, l0, l1, l2]
      refine tk 8 ⟨some 25, .binOp .neq 3 (.tmp 21) (.tmp 24) 3, _, _, _, some (2, false)⟩ (.bool false) rfl (by kernel_rfl) (fun _ _ _ => id) ((rds G3.out HA.out HS.out)) (fun W hSW => by have hv := hpr; have ho8 := HO.out; go_simp) ?_
      try simp only [pu, l0, l1, l2]
      refine tk 9 ⟨some 26, .pick (.tmp 19) (.const (.bool true)) (.tmp 25), _, _, _, none⟩ (.bool false) rfl (by kernel_rfl) (fun _ _ _ => id) ((rds G3.out HA.out HS.out)) (fun W hSW => by go_simp) ?_
      try simp only [pu, l0, l1, l2]
      refine tk 10 ⟨some 27, .move (.tmp 26), _, _, _, none⟩ (.bool false) rfl (by kernel_rfl) (fun _ _ _ => id) ((rds G3.out HA.out HS.out)) (fun W hSW => by go_simp) ?_
      try simp only [pu, l0, l1, l2]
      refine tk 11 ⟨some 28, .load 32 (.tmp 6), _, _, _, some (10, false)⟩ (.agg (reqC m.body.req).toArray) rfl (by kernel_rfl) (fun _ _ _ => id) ((rds G3.out HA.out HS.out)) (fun W hSW => exec_load_mid 32 (.tmp 6) rfl rb 0 rfl (reqC m.body.req) _ (range_of hSW.2.1) Tryz.underlying32 rfl (HI.out)) ?_
      try simp only [pu, l0, l1, l2]
      refine rd1 12 ⟨some 29, .call { callee := .value (.func 97), args := #[.tmp 28], argTypes := #[32] }, _, _, _, some (10, false)⟩ (by kernel_rfl) rfl fun K' hK' => ?_
      go_simp
      go_at_call 97
      refine (authentic_ms m.body.req _ HRt.out G3.out.fr.ksW G3.out.fr.posW).mono ?_
      rintro E w4 ⟨rfl, hb4⟩
      rw [hau]
      have G4 := iq (G3.out.below hb4.out)
      clear hb4 G3
      refine hK'.out _ _ (rds G4.out HA.out HS.out) (fun _ => ?_)
      clear hK' K'
      try simp only [Act.put, l0, l1, l2]
      have G3 := iq G4.out
      clear G4
      refine tk 13 ⟨some 30, .unOp .not 4 (.tmp 29), _, _, _, some (10, false)⟩ (.bool false) rfl (by kernel_rfl) (fun _ _ _ => id) ((rds G3.out HA.out HS.out)) (fun W hSW => by go_simp) ?_
      try simp only [Act.put, l0, l1, l2]
      refine tk 14 ⟨some 31, .pick (.tmp 27) (.const (.bool true)) (.tmp 30), _, _, _, none⟩ (.bool false) rfl (by kernel_rfl) (fun _ _ _ => id) ((rds G3.out HA.out HS.out)) (fun W hSW => by go_simp) ?_
      try simp only [pu, l0, l1, l2]
      refine tk 15 ⟨some 32, .move (.tmp 31), _, _, _, none⟩ (.bool false) rfl (by kernel_rfl) (fun _ _ _ => id) ((rds G3.out HA.out HS.out)) (fun W hSW => by go_simp) ?_
      try simp only [pu, l0, l1, l2]
      refine tk 16 ⟨some 33, .move (.tmp 7), _, _, _, some (15, false)⟩ (.pointer (some ⟨c.b, 0, none⟩)) rfl (by kernel_rfl) (fun _ _ _ => id) ((rds G3.out HA.out HS.out)) (fun W hSW => by go_simp) ?_
      try simp only [pu, l0, l1, l2]
      refine tk 17 ⟨some 34, .load 32 (.tmp 6), _, _, _, some (15, false)⟩ (.agg (reqC m.body.req).toArray) rfl (by kernel_rfl) (fun _ _ _ => id) ((rds G3.out HA.out HS.out)) (fun W hSW => exec_load_mid 32 (.tmp 6) rfl rb 0 rfl (reqC m.body.req) _ (range_of hSW.2.1) Tryz.underlying32 rfl (HI.out)) ?_
      try simp only [pu, l0, l1, l2]
      refine rd1 18 ⟨some 35, .call { callee := .value (.func 98), args := #[.tmp 34], argTypes := #[32] }, _, _, _, some (15, false)⟩ (by kernel_rfl) rfl fun K' hK' => ?_
      go_simp
      go_at_call 98
      refine (by_any m.body.req _).mono ?_
      rintro E w4 ⟨rfl, hb4⟩
      have G4 := iq (G3.out.below hb4)
      clear hb4 G3
      refine hK'.out _ _ (rds G4.out HA.out HS.out) (fun _ => ?_)
      clear hK' K'
      try simp only [Act.put, l0, l1, l2]
      have G3 := iq G4.out
      clear G4
      refine rd1 19 ⟨some 36, .call { callee := .value (.func 47), args := #[.tmp 33, .tmp 35], argTypes := #[86, 117] }, _, _, _, some (15, false)⟩ (by kernel_rfl) rfl fun K' hK' => ?_
      go_simp
      go_at_call 47
      refine (holds_any G3.out (by have := HT.out; omega) HC.out HVV.out _ HK.out).mono ?_
      rintro E w4 ⟨rfl, hb4⟩
      rw [hhas]
      have G4 := iq (G3.out.below hb4)
      clear hb4 G3
      refine hK'.out _ _ (rds G4.out HA.out HS.out) (fun _ => ?_)
      clear hK' K'
      try simp only [Act.put, l0, l1, l2]
      have G3 := iq G4.out
      clear G4
      refine tk 20 ⟨some 37, .pick (.tmp 32) (.const (.bool true)) (.tmp 36), _, _, _, none⟩ (.bool false) rfl (by kernel_rfl) (fun _ _ _ => id) ((rds G3.out HA.out HS.out)) (fun W hSW => by go_simp) ?_
      try simp only [Act.put, l0, l1, l2]
      refine tk 21 ⟨some 38, .move (.tmp 37), _, _, _, none⟩ (.bool false) rfl (by kernel_rfl) (fun _ _ _ => id) ((rds G3.out HA.out HS.out)) (fun W hSW => by go_simp) ?_
      try simp only [pu, l0, l1, l2]
      refine tk 22 ⟨some 39, .move (.tmp 0), _, _, _, some (21, false)⟩ (.pointer (some ⟨A.L, 0, none⟩)) rfl (by kernel_rfl) (fun _ _ _ => id) ((rds G3.out HA.out HS.out)) (fun W hSW => by go_simp) ?_
      try simp only [pu, l0, l1, l2]
      refine tk 23 ⟨some 40, .fieldAddr 39 (.tmp 3) 0, _, _, _, some (21, false)⟩ (.pointer (some ⟨mb, 0, none⟩)) rfl (by kernel_rfl) (fun _ _ _ => id) ((rds G3.out HA.out HS.out)) (fun W hSW => by go_simp) ?_
      try simp only [pu, l0, l1, l2]
      refine tk 24 ⟨some 41, .load 3 (.tmp 40), _, _, _, some (21, false)⟩ (.int .i64 m.origin) rfl (by kernel_rfl) (fun _ _ _ => id) ((rds G3.out HA.out HS.out)) (fun W hSW => by have hv := (HM.out W mb hSW.1).origin; go_simp) ?_
      try simp only [pu, l0, l1, l2]
      refine tk 29 ⟨some 46, .move (.tmp 5), _, _, _, some (21, false)⟩ (.int .u64 (m.body.view : Int)) rfl (by kernel_rfl) (fun _ _ _ => id) ((rds G3.out HA.out HS.out)) (fun W hSW => by go_simp) ?_
      try simp only [pu, l0, l1, l2]
      refine rd1 25 ⟨some 42, .call { callee := .value (.func 39), args := #[.tmp 39, .tmp 41], argTypes := #[46, 3] }, _, _, _, some (21, false)⟩ (by kernel_rfl) rfl fun K' hK' => ?_
      go_simp
      go_at_call 39
      refine (stream_any G3.out.hd H311.out.2.1 H311.out.2.2 HO.out).mono ?_
      rintro E w4 ⟨rfl, rfl⟩
      refine hK'.out _ _ (rds G3.out HA.out HS.out) (fun _ => ?_)
      clear hK' K'
      try simp only [Act.put, l0, l1, l2]
      refine tk 26 ⟨some 43, .nilCheck (.tmp 42), _, _, _, some (21, false)⟩ (.pointer (some ⟨A.g, o * 4, none⟩)) rfl (by kernel_rfl) (fun _ _ _ => id) ((rds G3.out HA.out HS.out)) (fun W hSW => by go_simp) ?_
      try simp only [pu, l0, l1, l2]
      refine tk 27 ⟨some 44, .fieldAddr 96 (.tmp 43) 1, _, _, _, some (21, false)⟩ (.pointer (some ⟨A.g, o * 4 + 1, none⟩)) rfl (by kernel_rfl) (fun _ _ _ => id) ((rds G3.out HA.out HS.out)) (fun W hSW => by go_simp) ?_
      try simp only [pu, l0, l1, l2]
      refine tk 28 ⟨some 45, .load 92 (.tmp 44), _, _, _, some (21, false)⟩ (.pointer (some ⟨a.pb, 0, none⟩)) rfl (by kernel_rfl) (fun _ _ _ => id) ((rds G3.out HA.out HS.out)) (fun W hSW => by have hv := hSW.2.2; go_simp) ?_
      try simp only [pu, l0, l1, l2]
      refine rd1 30 ⟨some 47, .call { callee := .value (.func 99), args := #[.tmp 45, .tmp 46], argTypes := #[92, 25] }, _, _, _, some (21, false)⟩ (by kernel_rfl) rfl fun K' hK' => ?_
      go_simp
      go_at_call 99
      refine (Prepare_any ⟨_, _, G3.out.past HA.out HS.out⟩ (x := m.body.view) (by have := HV.out; omega)).mono ?_
      rintro E w4 ⟨rfl, hpa⟩
      rw [hpp]
      obtain ⟨A1, e1, e2, e3, hL⟩ := G3.out.past_put HA.out HS.out hpa
      have hhd : HdAt w4 A M := (let ⟨_, _, hf⟩ := hpa; hf.hd2)
      have HSn : Hid (RdS A.g o a.pb mb rb m w4) := iq ⟨hL.pop.top, hL.top, (hhd.str HA.out HS.out).2.1⟩
      have G5 := iq hL
      have HE1 : Hid (A1.L = A.L /\ A1.va = A.va) := iq ⟨e1, e3⟩
      clear hpa hL hhd e1 e2 e3
      refine hK'.out _ _ HSn.out (fun _ => ?_)
      clear hK' K'
      try simp only [Act.put, l0, l1, l2]
      refine tk 31 ⟨some 48, .unOp .not 4 (.tmp 47), _, _, _, some (21, false)⟩ (.bool false) rfl (by kernel_rfl) (fun _ _ _ => id) (HSn.out) (fun W hSW => by go_simp) ?_
      try simp only [pu, l0, l1, l2]
      refine tk 32 ⟨some 49, .pick (.tmp 38) (.const (.bool true)) (.tmp 48), _, _, _, none⟩ (.bool false) rfl (by kernel_rfl) (fun _ _ _ => id) (HSn.out) (fun W hSW => by go_simp) ?_
      try simp only [pu, l0, l1, l2]
      refine wpAnyH_done (by kernel_rfl) ?_ _
      clear hpr hpr2 hau hhas hpp
      have c1 := (HM.out w4 mb HSn.out.1).number
      have HVw := iq (G5.out.view (by rw [HE1.out.2]; exact HC.out) HVV.out)
      have HLen : Hid (V.log.length <= 1000000) := iq (by have h1 := G5.out.ok.len' (i := i) HVV.out; have h2 := HT.out; exact Nat.le_trans h1 (Nat.le_of_lt h2))
      have HRR := iq (range_of HSn.out.2.1)
      go_wp2_with (first | ((with_reducible refine wpList_load_midG ?_ 32 (.tmp 6) ?_ rb 0 ?_ (reqC m.body.req) _ ?_ Tryz.underlying32 ?_ ?_ ?_); rotate_left; rfl; rfl; exact HRR.out; rfl; exact HI.out; rotate_left; rfl) | (go_at_call 100; refine (add_any HVw.out m.number m.body.req HRt.out HK.out HLen.out).mono ?_; rintro E w5 ⟨rfl, c', hc', hF⟩; have HF := iq hF; have HCb := iq hc'; clear hF hc'))
      go_ret
      exact ⟨ret_bool (by rw [HX.out, if_pos HYes.out]), { A1 with va := A1.va.set i c' }, HE1.out.1, by
       rw [HX.out, if_pos HYes.out]
       refine (G5.out.view_put (by rw [HE1.out.2]; exact HC.out) HVV.out HCb.out HF.out (G5.out.ok.add HVV.out HYes.out.2.2.1 ⟨HRt.out, HK.out⟩ (HLt.out V (List.mem_of_getElem? HVV.out) (by rw [HVv.out]; exact HYes.out.1)) ?_)).pop.pop
       rw [upd_n, HVv.out, HYes.out.1, tk_upd_same HS.out, HN.out]
       exact Nat.le_refl _⟩
  ·skip
   have hpr3 : ¬ (m.origin = (m.body.view : Int) % (M.n : Int) + 1) := by
    rw [HO.out]
    have e : ((m.body.view % M.n : Nat) : Int) = (m.body.view : Int) % (M.n : Int) := by simp
    omega
   have hpr : ((m.origin : Int) == ((m.body.view % M.n : Nat) : Int) + 1) = false := by rw [HO.out]; simp; omega
   have hpr2 : (m.origin == (m.body.view : Int) % (M.n : Int) + 1) = false := by rw [HO.out]; simp; omega
   have HNo : Hid (¬ (m.body.view % M.n = o /\ authR m.body.req = true /\ has V.log (rk m.body.req) = false /\ (Sh.prp s.past m.body.view).1 = true)) := iq fun h => hp h.1
   clear hp
   refine tk 0 ⟨some 17, .move (.tmp 7), _, _, _, none⟩ (.pointer (some ⟨c.b, 0, none⟩)) rfl (by kernel_rfl) (fun _ _ _ => id) ((rds G3.out HA.out HS.out)) (fun W hSW => by go_simp) ?_
   try simp only [Act.put, l0, l1, l2]
   refine tk 1 ⟨some 18, .binOp .eql 86 (.tmp 17) (.const (.pointer none)) 86, _, _, _, none⟩ (.bool false) rfl (by kernel_rfl) (fun _ _ _ => id) ((rds G3.out HA.out HS.out)) (fun W hSW => by go_simp) ?_
   try simp only [pu, l0, l1, l2]
   refine tk 2 ⟨some 19, .move (.tmp 18), _, _, _, none⟩ (.bool false) rfl (by kernel_rfl) (fun _ _ _ => id) ((rds G3.out HA.out HS.out)) (fun W hSW => by go_simp) ?_
   try simp only [pu, l0, l1, l2]
   refine tk 3 ⟨some 20, .fieldAddr 39 (.tmp 3) 0, _, _, _, some (2, false)⟩ (.pointer (some ⟨mb, 0, none⟩)) rfl (by kernel_rfl) (fun _ _ _ => id) ((rds G3.out HA.out HS.out)) (fun W hSW => by go_simp) ?_
   try simp only [pu, l0, l1, l2]
   refine tk 4 ⟨some 21, .load 3 (.tmp 20), _, _, _, some (2, false)⟩ (.int .i64 m.origin) rfl (by kernel_rfl) (fun _ _ _ => id) ((rds G3.out HA.out HS.out)) (fun W hSW => by have hv := (HM.out W mb hSW.1).origin; go_simp) ?_
   try simp only [pu, l0, l1, l2]
   refine tk 5 ⟨some 22, .move (.tmp 0), _, _, _, some (2, false)⟩ (.pointer (some ⟨A.L, 0, none⟩)) rfl (by kernel_rfl) (fun _ _ _ => id) ((rds G3.out HA.out HS.out)) (fun W hSW => by go_simp) ?_
   try simp only [pu, l0, l1, l2]
   refine tk 6 ⟨some 23, .move (.tmp 5), _, _, _, some (2, false)⟩ (.int .u64 (m.body.view : Int)) rfl (by kernel_rfl) (fun _ _ _ => id) ((rds G3.out HA.out HS.out)) (fun W hSW => by go_simp) ?_
   try simp only [pu, l0, l1, l2]
   refine rd1 7 ⟨some 24, .call { callee := .value (.func 96), args := #[.tmp 22, .tmp 23], argTypes := #[46, 25] }, _, _, _, some (2, false)⟩ (by kernel_rfl) rfl fun K' hK' => ?_
   go_simp
   go_at_call 96
   refine (HPm.out _ _ _ _ rfl G3.out).mono ?_
   rintro E w4 ⟨rfl, rfl⟩
   refine hK'.out _ _ (rds G3.out HA.out HS.out) (fun _ => ?_)
   clear hK' K'
   try simp only [Act.put, l0, l1, l2]
   refine tk 8 ⟨some 25, .binOp .neq 3 (.tmp 21) (.tmp 24) 3, _, _, _, some (2, false)⟩ (.bool true) rfl (by kernel_rfl) (fun _ _ _ => id) ((rds G3.out HA.out HS.out)) (fun W hSW => by have hv := hpr; have hv3 := hpr3; go_simp) ?_
   try simp only [pu, l0, l1, l2]
   refine tk 9 ⟨some 26, .pick (.tmp 19) (.const (.bool true)) (.tmp 25), _, _, _, none⟩ (.bool true) rfl (by kernel_rfl) (fun _ _ _ => id) ((rds G3.out HA.out HS.out)) (fun W hSW => by go_simp) ?_
   try simp only [pu, l0, l1, l2]
   refine tk 10 ⟨some 27, .move (.tmp 26), _, _, _, none⟩ (.bool true) rfl (by kernel_rfl) (fun _ _ _ => id) ((rds G3.out HA.out HS.out)) (fun W hSW => by go_simp) ?_
   try simp only [pu, l0, l1, l2]
   refine sk 11 ⟨some 28, .load 32 (.tmp 6), _, _, _, some (10, false)⟩ rfl (by kernel_rfl) (fun _ _ _ => id) ((rds G3.out HA.out HS.out)) ?_
   try simp only [pu, l0, l1, l2]
   refine sk 12 ⟨some 29, .call { callee := .value (.func 97), args := #[.tmp 28], argTypes := #[32] }, _, _, _, some (10, false)⟩ rfl (by kernel_rfl) (fun _ _ _ => id) ((rds G3.out HA.out HS.out)) ?_
   try simp only [pu, l0, l1, l2]
   refine sk 13 ⟨some 30, .unOp .not 4 (.tmp 29), _, _, _, some (10, false)⟩ rfl (by kernel_rfl) (fun _ _ _ => id) ((rds G3.out HA.out HS.out)) ?_
   try simp only [pu, l0, l1, l2]
   refine tk 14 ⟨some 31, .pick (.tmp 27) (.const (.bool true)) (.tmp 30), _, _, _, none⟩ (.bool true) rfl (by kernel_rfl) (fun _ _ _ => id) ((rds G3.out HA.out HS.out)) (fun W hSW => by go_simp) ?_
   try simp only [pu, l0, l1, l2]
   refine tk 15 ⟨some 32, .move (.tmp 31), _, _, _, none⟩ (.bool true) rfl (by kernel_rfl) (fun _ _ _ => id) ((rds G3.out HA.out HS.out)) (fun W hSW => by go_simp) ?_
   try simp only [pu, l0, l1, l2]
   refine sk 16 ⟨some 33, .move (.tmp 7), _, _, _, some (15, false)⟩ rfl (by kernel_rfl) (fun _ _ _ => id) ((rds G3.out HA.out HS.out)) ?_
   try simp only [pu, l0, l1, l2]
   refine sk 17 ⟨some 34, .load 32 (.tmp 6), _, _, _, some (15, false)⟩ rfl (by kernel_rfl) (fun _ _ _ => id) ((rds G3.out HA.out HS.out)) ?_
   try simp only [pu, l0, l1, l2]
   refine sk 18 ⟨some 35, .call { callee := .value (.func 98), args := #[.tmp 34], argTypes := #[32] }, _, _, _, some (15, false)⟩ rfl (by kernel_rfl) (fun _ _ _ => id) ((rds G3.out HA.out HS.out)) ?_
   try simp only [pu, l0, l1, l2]
   refine sk 19 ⟨some 36, .call { callee := .value (.func 47), args := #[.tmp 33, .tmp 35], argTypes := #[86, 117] }, _, _, _, some (15, false)⟩ rfl (by kernel_rfl) (fun _ _ _ => id) ((rds G3.out HA.out HS.out)) ?_
   try simp only [pu, l0, l1, l2]
   refine tk 20 ⟨some 37, .pick (.tmp 32) (.const (.bool true)) (.tmp 36), _, _, _, none⟩ (.bool true) rfl (by kernel_rfl) (fun _ _ _ => id) ((rds G3.out HA.out HS.out)) (fun W hSW => by go_simp) ?_
   try simp only [pu, l0, l1, l2]
   refine tk 21 ⟨some 38, .move (.tmp 37), _, _, _, none⟩ (.bool true) rfl (by kernel_rfl) (fun _ _ _ => id) ((rds G3.out HA.out HS.out)) (fun W hSW => by go_simp) ?_
   try simp only [pu, l0, l1, l2]
   refine sk 22 ⟨some 39, .move (.tmp 0), _, _, _, some (21, false)⟩ rfl (by kernel_rfl) (fun _ _ _ => id) ((rds G3.out HA.out HS.out)) ?_
   try simp only [pu, l0, l1, l2]
   refine sk 23 ⟨some 40, .fieldAddr 39 (.tmp 3) 0, _, _, _, some (21, false)⟩ rfl (by kernel_rfl) (fun _ _ _ => id) ((rds G3.out HA.out HS.out)) ?_
   try simp only [pu, l0, l1, l2]
   refine sk 24 ⟨some 41, .load 3 (.tmp 40), _, _, _, some (21, false)⟩ rfl (by kernel_rfl) (fun _ _ _ => id) ((rds G3.out HA.out HS.out)) ?_
   try simp only [pu, l0, l1, l2]
   refine sk 25 ⟨some 42, .call { callee := .value (.func 39), args := #[.tmp 39, .tmp 41], argTypes := #[46, 3] }, _, _, _, some (21, false)⟩ rfl (by kernel_rfl) (fun _ _ _ => id) ((rds G3.out HA.out HS.out)) ?_
   try simp only [pu, l0, l1, l2]
   refine sk 26 ⟨some 43, .nilCheck (.tmp 42), _, _, _, some (21, false)⟩ rfl (by kernel_rfl) (fun _ _ _ => id) ((rds G3.out HA.out HS.out)) ?_
   try simp only [pu, l0, l1, l2]
   refine sk 27 ⟨some 44, .fieldAddr 96 (.tmp 43) 1, _, _, _, some (21, false)⟩ rfl (by kernel_rfl) (fun _ _ _ => id) ((rds G3.out HA.out HS.out)) ?_
   try simp only [pu, l0, l1, l2]
   refine sk 28 ⟨some 45, .load 92 (.tmp 44), _, _, _, some (21, false)⟩ rfl (by kernel_rfl) (fun _ _ _ => id) ((rds G3.out HA.out HS.out)) ?_
   try simp only [pu, l0, l1, l2]
   refine sk 29 ⟨some 46, .move (.tmp 5), _, _, _, some (21, false)⟩ rfl (by kernel_rfl) (fun _ _ _ => id) ((rds G3.out HA.out HS.out)) ?_
   try simp only [pu, l0, l1, l2]
   refine sk 30 ⟨some 47, .call { callee := .value (.func 99), args := #[.tmp 45, .tmp 46], argTypes := #[92, 25] }, _, _, _, some (21, false)⟩ rfl (by kernel_rfl) (fun _ _ _ => id) ((rds G3.out HA.out HS.out)) ?_
   try simp only [pu, l0, l1, l2]
   refine sk 31 ⟨some 48, .unOp .not 4 (.tmp 47), _, _, _, some (21, false)⟩ rfl (by kernel_rfl) (fun _ _ _ => id) ((rds G3.out HA.out HS.out)) ?_
   try simp only [pu, l0, l1, l2]
   refine tk 32 ⟨some 49, .pick (.tmp 38) (.const (.bool true)) (.tmp 48), _, _, _, none⟩ (.bool true) rfl (by kernel_rfl) (fun _ _ _ => id) ((rds G3.out HA.out HS.out)) (fun W hSW => by go_simp) ?_
   try simp only [pu, l0, l1, l2]
   refine wpAnyH_done (by kernel_rfl) ?_ _
   clear hpr hpr2 hpr3
   go_wp2_with fail
   go_ret
   exact ⟨ret_bool (by rw [HX.out, if_neg HNo.out]), A, rfl, by rw [HX.out, if_neg HNo.out]; exact G3.out.pop.pop⟩
end Go.Proofs.YtknpcmadghkaaaaGreatDoor.Sh
