/- Laws and walks. -/
import Derived.Test.YtknpcmadghkaaaaGreatDoorLhw
set_option maxHeartbeats 16000000
set_option maxRecDepth 100000
namespace Go.Proofs.YtknpcmadghkaaaaGreatDoor.Sh
open Go.RowKit
theorem tk_some {M : MLogs} {i : Nat} {s : MStr} (h : M.strs[i]? = some s) : M.tk i = s.tak := by simp [MLogs.tk, h]
theorem tk_none {M : MLogs} {i : Nat} (h : M.n <= i) : M.tk i = 0 := by simp [MLogs.tk, List.getElem?_eq_none h]
theorem stC_at : ∀ (sa : List SA) (ss : List MStr) (i : Nat) (a : SA) (s : MStr), sa[i]? = some a -> ss[i]? = some s -> ∀ k v, (srC a s)[k]? = some v -> (stC sa ss)[i * 4 + k]? = some v
 | x :: sa, y :: ss, 0, a, s, h1, h2, k, v, hv => by
  simp at h1 h2; subst h1 h2
  have hk : k < 4 := (List.getElem?_eq_some_iff.1 hv).1
  show (srC x y ++ stC sa ss)[0 * 4 + k]? = _
  rw [List.getElem?_append_left (by show 0 * 4 + k < 4; omega)]
  simpa using hv
 | x :: sa, y :: ss, i + 1, a, s, h1, h2, k, v, hv => by
  have ih := stC_at sa ss i a s (by simpa using h1) (by simpa using h2) k v hv
  show (srC x y ++ stC sa ss)[(i + 1) * 4 + k]? = _
  rw [List.getElem?_append_right (by show 4 <= _; omega)]
  rwa [show (i + 1) * 4 + k - (srC x y).length = i * 4 + k by show (i + 1) * 4 + k - 4 = _; omega]
theorem HdAt.str {W : World} {A : LA} {M : MLogs} (h : HdAt W A M) {i : Nat} {a : SA} {s : MStr} (h1 : A.sa[i]? = some a) (h2 : M.strs[i]? = some s) :
  W.cell? ⟨A.g, i * 4, none⟩ = some (.int .u64 (s.tak : Int)) /\ W.cell? ⟨A.g, i * 4 + 1, none⟩ = some (.pointer (some ⟨a.pb, 0, none⟩)) /\ W.cell? ⟨A.g, i * 4 + 2, none⟩ = some (.map (some a.cb)) /\ W.cell? ⟨A.g, i * 4 + 3, none⟩ = some (.int .u64 (s.last : Int)) := by
 have hk : ∀ k v, (srC a s)[k]? = some v -> W.cell? ⟨A.g, i * 4 + k, none⟩ = some v := fun k v hv => by
  have h3 := stC_at _ _ i a s h1 h2 k v hv
  exact block_cell h.row _ v (by rw [List.getElem?_append_left (List.getElem?_eq_some_iff.1 h3).1]; exact h3)
 exact ⟨hk 0 _ rfl, hk 1 _ rfl, hk 2 _ rfl, hk 3 _ rfl⟩
theorem stream_at {v W : World} {A : LA} {M : MLogs} {os : List Thing} (H : LogFr v W A M os) (i : Nat) {r : Int} (hr : r = (i : Int) + 1) :
  Calls Tryz.prog 39 #[.pointer (some ⟨A.L, 0, none⟩), .int .i64 r] W fun E w' => ∃ b o : Nat, E = .returned (.pointer (some ⟨b, o, none⟩)) /\ Below W.heap.size W w' /\ w'.cell? ⟨b, o, none⟩ = some (.int .u64 (M.tk i : Int)) := by
 by_cases hi : i < M.n
 ·obtain ⟨s, hs⟩ : ∃ s, M.strs[i]? = some s := ⟨_, List.getElem?_eq_getElem hi⟩
  obtain ⟨a, ha⟩ := H.sa_at hs
  refine (stream_any H.hd H.ok.n11 hi hr).mono ?_
  rintro E w' ⟨rfl, rfl⟩
  exact ⟨_, _, rfl, Below.refl _ _, by rw [tk_some hs]; exact (H.hd.str ha hs).1⟩
 ·refine (stream_none H.hd (.inr (by subst hr; omega))).mono ?_
  rintro E w' ⟨rfl, rfl⟩
  exact ⟨_, _, rfl, bl.alloc (Nat.le_refl _) _, by rw [tk_none (by omega)]; exact block_cell (C := strZ) (heap_alloc_new W _) 0 _ rfl⟩
def nxtD (M : MLogs) (m : MMsg) (j : Nat) : Bool := (List.range j).all fun i => decide (m.deps.getD i 0 <= M.tk i)
def nxt (M : MLogs) (m : MMsg) : Bool := nxtD M m 11 && decide (m.number = M.tk (m.origin.toNat - 1) + 1)
theorem nxtD_succ (M : MLogs) (m : MMsg) (j : Nat) : nxtD M m (j + 1) = (nxtD M m j && decide (m.deps.getD j 0 <= M.tk j)) := by
 simp [nxtD, List.range_succ]
theorem nxtD_no {M : MLogs} {m : MMsg} {i j : Nat} (h : ¬ m.deps.getD i 0 <= M.tk i) (hi : i < j) : nxtD M m j = false := by
 rw [Bool.eq_false_iff]
 intro e
 rw [nxtD, List.all_eq_true] at e
 have := e i (List.mem_range.2 hi)
 exact h (of_decide_eq_true this)
theorem isNext_any {v w : World} {A : LA} {M : MLogs} {os : List Thing} (H : LogFr v w A M os) (m : MMsg) (hm : m.Wf) {o : Nat} (ho : m.origin = (o : Int) + 1) (hon : o < M.n) :
  Calls Tryz.prog 38 #[.pointer (some ⟨A.L, 0, none⟩), .agg (msgC m).toArray] w fun E w' => E = .returned (.bool (nxt M m)) /\ Below w.heap.size w w' := by
 obtain ⟨s, hs⟩ : ∃ s, M.strs[o]? = some s := ⟨_, List.getElem?_eq_getElem hon⟩
 obtain ⟨a, ha⟩ := H.sa_at hs
 obtain ⟨w1, hw1⟩ : ∃ x, x = w.alloc (.cells (msgC m).toArray 39) := ⟨_, rfl⟩
 have hB : Below w.heap.size w w1 := by rw [hw1]; exact bl.alloc (Nat.le_refl _) _
 have hs1 : w1.heap.size = w.heap.size + 1 := by rw [hw1]; simp
 have h2 : w1.heap[w.heap.size]? = some (.cells (msgC m).toArray 39 (0, 0)) := by rw [hw1]; exact heap_alloc_new w _
 have HM := iq (fun (W : World) (hb : Below w1.heap.size w1 W) => msg_lies (range_of ((hb.block _ (by omega)).trans h2)) hm)
 have HLF := iq (fun (W : World) (hb : Below w1.heap.size w1 W) => (H.below hB).below hb)
 have HS := iq (fun (W : World) (hb : Below w1.heap.size w1 W) (i : Nat) (r : Int) (hr : r = (i : Int) + 1) => stream_at (HLF.out W hb) i hr)
 have HO := iq (fun (W : World) (hb : Below w1.heap.size w1 W) => stream_any (HLF.out W hb).hd H.ok.n11 hon ho)
 have HT := iq (fun (W : World) (hb : Below w1.heap.size w1 W) => ((HLF.out W hb).hd.str ha hs).1)
 have hnx : nxt M m = (nxtD M m 11 && decide (m.number = s.tak + 1)) := by rw [nxt, show m.origin.toNat - 1 = o by omega, tk_some hs]
 have HT2 := iq (H.ok.tak s (List.mem_of_getElem? hs))
 rw [hnx]
 have HLn := iq hm.1
 have HBw := iq hB
 have HW1 := iq hw1
 have HD : Hid (∀ (j x : Nat), m.deps[j]? = some x -> (u64s m.deps)[j]? = some (.int .u64 (x : Int))) := iq fun j x h => by simp [u64s, h]
 obtain ⟨T, hT⟩ : ∃ T, T = s.tak := ⟨_, rfl⟩
 rw [<- hT] at HT HT2 ⊢
 have HSz := iq hs1
 clear hB h2 hs1 hw1 hnx hs ha H hT ho hon hm
 have HI : Hid ((Tryz.prog.info? 37).map (·.size) = some (u64s m.deps).length) := iq (by rw [u64s_length, HLn.out]; kernel_rfl)
 have HR : Hid ((w.alloc (.cells (msgC m).toArray 39)).rangeAt w.heap.size 2 (u64s m.deps)) := iq (by rw [<- HW1.out]; exact (HM.out w1 bl).deps)
 go_enter Tryz.func38, Tryz.ntmps38
 go_wp2_with (((with_reducible refine wpList_load_midG ?_ 37 (.tmp 7) ?_ w.heap.size 2 ?_ (u64s m.deps) _ ?_ Tryz.underlying37 ?_ ?_ ?_); rotate_left; rfl; rfl; exact HR.out; rfl; exact HI.out; rotate_left; rfl))
 rw [<- HW1.out]
 clear HR
 go_loopw [9] (fun v9 wr => ∃ j : Nat, j <= 11 /\ v9 = .int .i64 (j : Int) /\ Hid (nxtD M m j = true) /\ Hid (Below w1.heap.size w1 wr)) (fun v9 _ => 11 - (intOf v9).toNat)
 case atStart => exact ⟨0, by omega, rfl, iq rfl, iq bl⟩
 case round =>
  obtain ⟨j, hj, rfl, HF, D⟩ := hrel
  by_cases hjj : j < 11
  ·have hdec : decide ((j : Int) < 11) = true := decide_eq_true (by omega)
   have hj0 : (0 : Int) <= (j : Int) := by omega
   have hjn : (j : Int) < 11 := by omega
   have htn : ((j : Int)).toNat = j := by omega
   have hw1 : IntKind.i64.wrap ((j : Int) + 1) = (j : Int) + 1 := by rw [IntKind.wrap_i64]; omega
   obtain ⟨x, hx⟩ : ∃ x, m.deps[j]? = some x := ⟨_, List.getElem?_eq_getElem (by rw [HLn.out]; exact hjj)⟩
   have HV := iq (HD.out j x hx)
   have HSj := iq (HS.out wr D.out j _ rfl)
   have hg : m.deps.getD j 0 = x := by simp [hx]
   clear hx
   obtain ⟨T2, hT2⟩ : ∃ T, T = M.tk j := ⟨_, rfl⟩
   rw [<- hT2] at HSj
   by_cases hle : x <= T2
   ·have kd : decide (T2 < x) = false := decide_eq_false (by omega)
    have kd2 : decide ((T2 : Int) < (x : Int)) = false := decide_eq_false (by omega)
    have HF2 : Hid (nxtD M m (j + 1) = true) := iq (by rw [nxtD_succ, HF.out, hg, <- hT2]; simp [hle])
    clear hle hT2 hg
    go_wp2_with (first | (refine wpList_index_cells rfl 37 (.tmp 8) (.tmp 9) rfl rfl rfl Tryz.underlying37 Tryz.underlying25 Tryz.is25 hjj HV.out ?_) | (go_at_call 39; refine HSj.out.mono ?_; rintro E w3 ⟨b3, o3, rfl, hb3, hc3⟩; have D3 := iq (D.out.trans (hb3.mono D.out.size)); clear hb3))
    go_roundw
    case measure => simp [intOf] <;> omega
    case rel => exact ⟨j + 1, by omega, by go_num, HF2, D3⟩
   ·have kd : decide (T2 < x) = true := decide_eq_true (by omega)
    have kd2 : decide ((T2 : Int) < (x : Int)) = true := decide_eq_true (by omega)
    have HF2 : Hid (nxtD M m 11 = false) := iq (nxtD_no (i := j) (by rw [hg, <- hT2]; exact hle) hjj)
    clear hle hT2 hg
    go_wp2_with (first | (refine wpList_index_cells rfl 37 (.tmp 8) (.tmp 9) rfl rfl rfl Tryz.underlying37 Tryz.underlying25 Tryz.is25 hjj HV.out ?_) | (go_at_call 39; refine HSj.out.mono ?_; rintro E w3 ⟨b3, o3, rfl, hb3, hc3⟩; have D3 := iq (D.out.trans (hb3.mono D.out.size)); clear hb3))
    go_ret
    exact ⟨ret_bool (by rw [HF2.out]; rfl), HBw.out.trans (D3.out.mono HBw.out.size)⟩
  ·obtain rfl : j = 11 := by omega
   have ka : IntKind.u64.wrap ((T : Int) + 1) = (T : Int) + 1 := by rw [IntKind.wrap_u64]; have := HT2.out; omega
   have kb : ((m.number : Int) == (T : Int) + 1) = decide (m.number = T + 1) := by rw [Bool.eq_iff_iff]; simp only [beq_iff_eq, decide_eq_true_eq]; omega
   go_wp2_with fail
   refine wp_region_any (by kernel_rfl) ?_
   change wpAny _ _ _ _ _ _ _ (World.drewN _ 1)
   have D0 := iq (D.out.trans (below_drewN (Below.refl wr.heap.size wr) 1 |>.mono D.out.size))
   generalize wr.drewN 1 = w2 at D0 ⊢
   clear D
   refine wpAny_of_held (S := fun W => Below w1.heap.size w1 W) _ _ _ _ ?_
   refine tk 0 ⟨some 23, .fieldAddr 39 (.tmp 3) 1, _, _, _, none⟩ (.pointer (some ⟨w.heap.size, 1, none⟩)) rfl (by kernel_rfl) (fun _ _ _ => id) (D0.out) (fun W hSW => by go_simp) ?_
   try simp only [Act.put, l0, l1, l2]
   refine tk 1 ⟨some 24, .load 25 (.tmp 23), _, _, _, none⟩ (.int .u64 (m.number : Int)) rfl (by kernel_rfl) (fun _ _ _ => id) (D0.out) (fun W hSW => by have hv := (HM.out W hSW).number; go_simp) ?_
   try simp only [pu, l0, l1, l2]
   refine tk 2 ⟨some 25, .move (.tmp 0), _, _, _, none⟩ (.pointer (some ⟨A.L, 0, none⟩)) rfl (by kernel_rfl) (fun _ _ _ => id) (D0.out) (fun W hSW => by go_simp) ?_
   try simp only [pu, l0, l1, l2]
   refine tk 3 ⟨some 26, .fieldAddr 39 (.tmp 3) 0, _, _, _, none⟩ (.pointer (some ⟨w.heap.size, 0, none⟩)) rfl (by kernel_rfl) (fun _ _ _ => id) (D0.out) (fun W hSW => by go_simp) ?_
   try simp only [pu, l0, l1, l2]
   refine tk 4 ⟨some 27, .load 3 (.tmp 26), _, _, _, none⟩ (.int .i64 m.origin) rfl (by kernel_rfl) (fun _ _ _ => id) (D0.out) (fun W hSW => by have hv := (HM.out W hSW).origin; go_simp) ?_
   try simp only [pu, l0, l1, l2]
   refine rd1 5 ⟨some 28, .call { callee := .value (.func 39), args := #[.tmp 25, .tmp 27], argTypes := #[46, 3] }, _, _, _, none⟩ (by kernel_rfl) rfl fun K' hK' => ?_
   go_simp
   go_at_call 39
   refine (HO.out _ D0.out).mono ?_
   rintro E w3 ⟨rfl, rfl⟩
   refine hK'.out _ _ D0.out (fun _ => ?_)
   clear hK' K'
   try simp only [Act.put, l0, l1, l2]
   refine tk 6 ⟨some 29, .nilCheck (.tmp 28), _, _, _, none⟩ (.pointer (some ⟨A.g, o * 4, none⟩)) rfl (by kernel_rfl) (fun _ _ _ => id) (D0.out) (fun W hSW => by go_simp) ?_
   try simp only [pu, l0, l1, l2]
   refine tk 7 ⟨some 30, .fieldAddr 96 (.tmp 29) 0, _, _, _, none⟩ (.pointer (some ⟨A.g, o * 4, none⟩)) rfl (by kernel_rfl) (fun _ _ _ => id) (D0.out) (fun W hSW => by go_simp) ?_
   try simp only [pu, l0, l1, l2]
   refine tk 8 ⟨some 31, .load 25 (.tmp 30), _, _, _, none⟩ (.int .u64 (T : Int)) rfl (by kernel_rfl) (fun _ _ _ => id) (D0.out) (fun W hSW => by have hv := HT.out W hSW; go_simp) ?_
   try simp only [pu, l0, l1, l2]
   refine tk 9 ⟨some 32, .binOp .add 25 (.tmp 31) (.const (.int .u64 1)) 25, _, _, _, none⟩ (.int .u64 ((T : Int) + 1)) rfl (by kernel_rfl) (fun _ _ _ => id) (D0.out) (fun W hSW => by have hv := ka; go_simp) ?_
   try simp only [pu, l0, l1, l2]
   refine tk 10 ⟨some 33, .binOp .eql 25 (.tmp 24) (.tmp 32) 25, _, _, _, none⟩ (.bool (decide (m.number = T + 1))) rfl (by kernel_rfl) (fun _ _ _ => id) (D0.out) (fun W hSW => by have hv := kb; go_simp) ?_
   try simp only [pu, l0, l1, l2]
   refine tk 11 ⟨some 4, .assign (.tmp 33), _, _, _, none⟩ (.bool (decide (m.number = T + 1))) rfl (by kernel_rfl) (fun _ _ _ => id) (D0.out) (fun W hSW => by go_simp) ?_
   try simp only [pu, l0, l1, l2]
   refine wpAnyH_done (by kernel_rfl) ?_ _
   go_wp2_with fail
   go_ret
   exact ⟨ret_bool (by rw [HF.out]; rfl), HBw.out.trans (D0.out.mono HBw.out.size)⟩
open Go.RowKit
def fv (k : Nat) : Value := .func (.func k) #[] #[]
def kindC (z : Value) : List Value := [z, fv 64, fv 65, fv 66, fv 67, fv 68, fv 69]
theorem Tryz.in110 : (Tryz.prog.info? 110).map (·.size) = some 7 := by kernel_rfl
theorem kindC_one (z : Value) (h : z = .nilFunc) : ∀ v ∈ kindC z, v.oneCell' = true := by
 subst h
 intro v hv
 simp only [kindC, List.mem_cons, List.not_mem_nil, or_false] at hv
 rcases hv with rfl | rfl | rfl | rfl | rfl | rfl | rfl <;> rfl
theorem kinds_any (w : World) : Calls Tryz.prog 40 #[] w fun E w' => E = .returned (.agg (kindC .nilFunc).toArray) /\ Below w.heap.size w w' := by
 go_enter Tryz.func40, Tryz.ntmps40
 go_wp2_with (refine wpList_store_fresh rfl 110 (.tmp 0) (.tmp 1) rfl (kindC .nilFunc) rfl rfl rfl Tryz.in110 (kindC_one _ rfl) ?_; intro w2 G)
 exact bodyPost_ret (ret_range (cs := kindC .nilFunc) rfl rfl G.out.2.1 Tryz.underlying110 rfl Tryz.in110) rfl ⟨rfl, G.out.1⟩
theorem by_any (r : MReq) (w : World) : Calls Tryz.prog 98 #[.agg (reqC r).toArray] w fun E w' => E = .returned (kv (rk r)) /\ Below w.heap.size w w' := by
 have hL := req_lies (range_box w (reqC r) 32)
 have hc := (heap_alloc_old (w.alloc (.cells (reqC r).toArray 32)) (.cells #[.int .i64 0, .int .u64 0] 117) (r := w.heap.size) (by simp))
 have h0 : ((w.alloc (.cells (reqC r).toArray 32)).alloc (.cells #[.int .i64 0, .int .u64 0] 117)).cell? ⟨w.heap.size, 0, none⟩ = some (.int .i64 r.client) := (cell_kept hc 0).trans hL.client
 have h1 : ((w.alloc (.cells (reqC r).toArray 32)).alloc (.cells #[.int .i64 0, .int .u64 0] 117)).cell? ⟨w.heap.size, 1, none⟩ = some (.int .u64 (r.time : Int)) := (cell_kept hc 1).trans hL.time
 have HR : Hid (((w.alloc (.cells (reqC r).toArray 32)).alloc (.cells #[.int .i64 r.client, .int .u64 (r.time : Int)] 117)).rangeAt (w.heap.size + 1) 0 (prC (rk r))) := iq (range_of (t := 117) (by have := heap_alloc_new (w.alloc (.cells (reqC r).toArray 32)) (.cells #[.int .i64 r.client, .int .u64 (r.time : Int)] 117); simpa [prC, rk] using this))
 have HB : Hid (Below w.heap.size w ((w.alloc (.cells (reqC r).toArray 32)).alloc (.cells #[.int .i64 r.client, .int .u64 (r.time : Int)] 117))) := iq ((bl.alloc (Nat.le_refl _) _).alloc (by simp) _)
 clear hc hL
 go_enter Tryz.func98, Tryz.ntmps98
 go_wp2
 exact bodyPost_ret (ret_range (cs := prC (rk r)) rfl rfl HR.out Tryz.underlying117 rfl (by kernel_rfl)) rfl ⟨rfl, HB.out⟩
open Go.RowKit
theorem tot_take_le : ∀ (l : List MV) (i j : Nat), i <= j -> tot (l.take i) <= tot (l.take j)
 | [], i, j, _ => by simp [tot]
 | V :: r, 0, j, _ => by simp [tot]
 | V :: r, i + 1, 0, h => by omega
 | V :: r, i + 1, j + 1, h => by
  have := tot_take_le r i j (by omega)
  simp only [tot, List.take_succ_cons, List.map_cons, List.sum_cons] at this ⊢
  omega
theorem tot_take_succ : ∀ (l : List MV) (i : Nat) (V : MV), l[i]? = some V -> tot (l.take (i + 1)) = tot (l.take i) + V.P.length
 | [], i, V, h => by simp at h
 | U :: r, 0, V, h => by simp at h; subst h; simp [tot]
 | U :: r, i + 1, V, h => by
  have := tot_take_succ r i V (by simpa using h)
  simp only [tot, List.take_succ_cons, List.map_cons, List.sum_cons] at this ⊢
  omega
theorem log_length (V : MV) : V.log.length = V.S.length + V.P.length := by simp [MV.log]
theorem MLogs.Ok.len {M : MLogs} (h : M.Ok) : ∀ (i : Nat) (V : MV), M.vs[i]? = some V -> V.log.length <= tot (M.vs.take (i + 1)) := by
 intro i
 induction i using Nat.strongRecOn with
 | _ i ih =>
  intro V hV
  rw [tot_take_succ _ _ _ hV, log_length]
  have h1 := (h.vw i V hV).src
  cases hs : V.src with
  | none => rw [hs] at h1; rw [h1]; simp
  | some j =>
   rw [hs] at h1
   obtain ⟨hj, U, hU, _, hp⟩ := h1
   have := ih j hj U hU
   have := hp.length_le
   have := tot_take_le M.vs (j + 1) i (by omega)
   omega
theorem MLogs.Ok.len' {M : MLogs} (h : M.Ok) {i : Nat} {V : MV} (hV : M.vs[i]? = some V) : V.log.length <= tot M.vs :=
 Nat.le_trans (h.len i V hV) (by have := tot_take_le M.vs (i + 1) (max (i + 1) M.vs.length) (by omega); rwa [List.take_of_length_le (l := M.vs) (i := max (i + 1) M.vs.length) (by omega)] at this)
def vidx (va : List VA) : Value -> Nat
 | .pointer (some a) => va.findIdx (fun x => x.b == a.block) + 1
 | _ => 0
theorem LogFr.va_inj {v W : World} {A : LA} {M : MLogs} {os : List Thing} (H : LogFr v W A M os) {i j : Nat} {a c : VA} (h1 : A.va[i]? = some a) (h2 : A.va[j]? = some c) (e : a.b = c.b) : i = j := by
 have hp : (vT A.va M.vs).Pairwise fun a b => ∀ k, a.F k -> ¬ b.F k := by
  refine H.fr.apart.sublist ?_
  refine List.Sublist.trans ?_ (List.sublist_append_right _ _)
  refine List.Sublist.trans ?_ (List.sublist_append_right _ _)
  refine List.Sublist.trans ?_ (List.sublist_append_right _ _)
  exact List.sublist_append_left _ _
 have key : ∀ {i j : Nat} {a c : VA}, A.va[i]? = some a -> A.va[j]? = some c -> a.b = c.b -> ¬ i < j := by
  intro i j a c h1 h2 e hlt
  have l1 := (List.getElem?_eq_some_iff.1 h1).1
  have l2 := (List.getElem?_eq_some_iff.1 h2).1
  have e1 := zipWith_at (fun a V => vwT a (sbO A.va V) V) h1 (List.getElem?_eq_getElem (l := M.vs) (by rw [<- H.lv]; exact l1))
  have e2 := zipWith_at (fun a V => vwT a (sbO A.va V) V) h2 (List.getElem?_eq_getElem (l := M.vs) (by rw [<- H.lv]; exact l2))
  obtain ⟨g1, e1⟩ := List.getElem?_eq_some_iff.1 e1
  obtain ⟨g2, e2⟩ := List.getElem?_eq_some_iff.1 e2
  have h := List.pairwise_iff_getElem.1 hp i j g1 g2 hlt a.b
  have e1' : (vT A.va M.vs)[i]'g1 = _ := e1
  have e2' : (vT A.va M.vs)[j]'g2 = _ := e2
  rw [e1', e2'] at h
  exact h (.inl rfl) (.inl e)
 have k1 := key h1 h2 e
 have k2 := key h2 h1 e.symm
 omega
theorem LogFr.vidx {v W : World} {A : LA} {M : MLogs} {os : List Thing} (H : LogFr v W A M os) {i : Nat} {a : VA} (h : A.va[i]? = some a) : vidx A.va (.pointer (some ⟨a.b, 0, none⟩)) = i + 1 := by
 show A.va.findIdx (fun x => x.b == a.b) + 1 = i + 1
 obtain ⟨hi, e⟩ := List.getElem?_eq_some_iff.1 h
 have h1 : A.va.findIdx (fun x => x.b == a.b) < A.va.length := List.findIdx_lt_length_of_exists ⟨a, by rw [<- e]; exact List.getElem_mem hi, by simp⟩
 have h2 := List.findIdx_getElem (w := h1)
 have := H.va_inj (i := A.va.findIdx (fun x => x.b == a.b)) (j := i) (a := A.va[A.va.findIdx (fun x => x.b == a.b)]) (c := a) (List.getElem?_eq_getElem h1) h (by simpa using h2)
 rw [this]
def has (l : List MReq) (k : Int × Nat) : Bool := l.any fun r => decide (rk r = k)
theorem has_iff {l : List MReq} {k : Int × Nat} : has l k = true ↔ ∃ r ∈ l, rk r = k := by simp [has]
theorem has_app (l m : List MReq) (k : Int × Nat) : has (l ++ m) k = (has l k || has m k) := by simp [has]
theorem nodup_at {l : List MReq} (h : (l.map rk).Nodup) {i j : Nat} {a b : MReq} (h1 : l[i]? = some a) (h2 : l[j]? = some b) (e : rk a = rk b) : i = j := by
 have g1 : (l.map rk)[i]? = some (rk a) := by simp [h1]
 have g2 : (l.map rk)[j]? = some (rk a) := by simp [h2, e]
 obtain ⟨i1, e1⟩ := List.getElem?_eq_some_iff.1 g1
 obtain ⟨i2, e2⟩ := List.getElem?_eq_some_iff.1 g2
 have hp := List.pairwise_iff_getElem.1 h
 rcases Nat.lt_trichotomy i j with hl | hl | hl
 ·exact absurd (e1.trans e2.symm) (hp i j i1 i2 hl)
 ·exact hl
 ·exact absurd (e2.trans e1.symm) (hp j i i2 i1 hl)
theorem hold_step {V : MV} (hk : (V.log.map rk).Nodup) {f : Nat} (h1 : V.S.length <= f) (h2 : f <= V.log.length) (k : Int × Nat) :
  has (V.log.take f) k = (match plcL (V.P.map (·.2)) V.S.length k with | some j => decide (j < f) | none => false || has V.S k) /\ ∀ j, plcL (V.P.map (·.2)) V.S.length k = some j -> j < V.log.length /\ (¬ j < f -> has V.S k = false) := by
 have hat : ∀ j r, V.S.length <= j -> (V.P.map (·.2))[j - V.S.length]? = some r -> V.log[j]? = some r := fun j r h1 hr => by
  unfold MV.log
  rw [List.getElem?_append_right h1]; exact hr
 cases hp : plcL (V.P.map (·.2)) V.S.length k with
 | none =>
  refine ⟨?_, fun j h => (by cases h)⟩
  have h3 := plcL_none hp
  show has (V.log.take f) k = has V.S k
  have e : V.log.take f = V.S ++ (V.P.map (·.2)).take (f - V.S.length) := by
   unfold MV.log
   rw [List.take_append, List.take_of_length_le h1]
  rw [e, has_app]
  have h4 : has ((V.P.map (·.2)).take (f - V.S.length)) k = false := by
   rw [Bool.eq_false_iff]
   intro h
   obtain ⟨r, hr, e⟩ := has_iff.1 h
   exact h3 r (List.mem_of_mem_take hr) e
  rw [h4, Bool.or_false]
 | some j =>
  obtain ⟨hj, r, hr, hrk⟩ := plcL_some hp
  have hl := hat j r hj hr
  have hjl := (List.getElem?_eq_some_iff.1 hl).1
  have hfar : ∀ (l : List MReq), l <+: V.log -> l.length <= j -> has l k = false := fun l hl2 hle => by
   rw [Bool.eq_false_iff]
   intro h
   obtain ⟨q, hq, e⟩ := has_iff.1 h
   obtain ⟨i, hi, rfl⟩ := List.getElem_of_mem hq
   have hi2 : V.log[i]? = some l[i] := by
    obtain ⟨t, ht⟩ := hl2
    rw [<- ht, List.getElem?_append_left hi, List.getElem?_eq_getElem hi]
   have := nodup_at hk hi2 hl (e.trans hrk.symm)
   omega
  refine ⟨?_, fun j' h => ?_⟩
  ·show has (V.log.take f) k = decide (j < f)
   by_cases hf : j < f
   ·rw [decide_eq_true hf]
    exact has_iff.2 ⟨r, List.mem_of_getElem? (i := j) (by rw [List.getElem?_take_of_lt hf]; exact hl), hrk⟩
   ·rw [decide_eq_false hf]
    exact hfar _ (List.take_prefix _ _) (by rw [List.length_take]; omega)
  ·injection h with h
   subst h
   exact ⟨hjl, fun _ => hfar _ ⟨V.P.map (·.2), rfl⟩ hj⟩
open Go.RowKit
theorem exec_look {P : Program} {o : Oper} {f : Operand -> Value} {w : World} {t : TypeId} {x y : Operand} {c : Bool} {m u r : Value} (ho : o.op = Op.lookup t x y c) (hx : f x = m) (hy : f y = u) (hr : (Instr.lookup t m u c).run P w = .ok r w) : (execOp f o).run P w = .ok (.value r) w := by
 unfold execOp
 simp only [ho, hx, hy, Sem.run_bind, hr, Result.andThen_ok, Sem.run_pure]
theorem LogFr.vw {v W : World} {A : LA} {M : MLogs} {os : List Thing} (H : LogFr v W A M os) {i : Nat} {a : VA} {V : MV} (h1 : A.va[i]? = some a) (h2 : M.vs[i]? = some V) : ViewAt W a (sbO A.va V) V := (H.view h1 h2).hd
theorem ViewAt.cells {W : World} {a : VA} {sb : Option Nat} {V : MV} (h : ViewAt W a sb V) : W.cell? ⟨a.b, 0, none⟩ = some (.int .u64 (V.num : Int)) /\ W.cell? ⟨a.b, 1, none⟩ = some (ptO sb) /\ W.cell? ⟨a.b, 2, none⟩ = some (.int .i64 (V.S.length : Int)) /\ W.cell? ⟨a.b, 3, none⟩ = some a.rn /\ W.cell? ⟨a.b, 4, none⟩ = some a.rq /\ W.cell? ⟨a.b, 5, none⟩ = some (.map (some a.mm)) :=
 ⟨block_cell h.top 0 _ rfl, block_cell h.top 1 _ rfl, block_cell h.top 2 _ rfl, block_cell h.top 3 _ rfl, block_cell h.top 4 _ rfl, block_cell h.top 5 _ rfl⟩
theorem LogFr.src {v W : World} {A : LA} {M : MLogs} {os : List Thing} (H : LogFr v W A M os) {i : Nat} {V : MV} (h2 : M.vs[i]? = some V) :
  (ptO (sbO A.va V) = .pointer none /\ V.S = []) \/ ∃ (j : Nat) (c : VA) (U : MV), ptO (sbO A.va V) = .pointer (some ⟨c.b, 0, none⟩) /\ j < i /\ A.va[j]? = some c /\ M.vs[j]? = some U /\ U.S.length < V.S.length /\ V.S <+: U.log := by
 have h1 := (H.ok.vw i V h2).src
 cases hs : V.src with
 | none => rw [hs] at h1; exact .inl ⟨by rw [sbO, hs]; rfl, h1⟩
 | some j =>
  rw [hs] at h1
  obtain ⟨hj, U, hU, hl, hp⟩ := h1
  obtain ⟨c, hc⟩ := H.va_at hU
  exact .inr ⟨j, c, U, by rw [sbO, hs]; simp [hc, ptO], hj, hc, hU, hl, hp⟩
def Seek (A : LA) (M : MLogs) (k : Int × Nat) (res : Bool) (f : Nat) (v0 : Value) : Prop :=
 (v0 = .pointer none /\ res = false) \/ ∃ (i : Nat) (a : VA) (U : MV), v0 = .pointer (some ⟨a.b, 0, none⟩) /\ A.va[i]? = some a /\ M.vs[i]? = some U /\ U.S.length <= f /\ f <= U.log.length /\ has (U.log.take f) k = res
theorem seek_next {v W : World} {A : LA} {M : MLogs} {os : List Thing} (H : LogFr v W A M os) {k : Int × Nat} {res : Bool} {i : Nat} {a : VA} {U : MV} (h1 : A.va[i]? = some a) (h2 : M.vs[i]? = some U) (hr : has U.S k = res) :
  Seek A M k res U.S.length (ptO (sbO A.va U)) /\ vidx A.va (ptO (sbO A.va U)) < vidx A.va (.pointer (some ⟨a.b, 0, none⟩)) := by
 rw [H.vidx h1]
 rcases H.src h2 with ⟨e, hS⟩ | ⟨j, c, X, e, hj, hc, hX, hl, hp⟩
 ·rw [e]
  refine ⟨.inl ⟨rfl, ?_⟩, by show 0 < _; omega⟩
  rw [hS] at hr
  exact hr.symm
 ·rw [e, H.vidx hc]
  refine ⟨.inr ⟨j, c, X, rfl, hc, hX, Nat.le_of_lt hl, hp.length_le, ?_⟩, by omega⟩
  rw [<- hr]
  obtain ⟨t, ht⟩ := hp
  rw [<- ht, List.take_left]
theorem holds_any {v w : World} {A : LA} {M : MLogs} {os : List Thing} (H : LogFr v w A M os) (hT : tot M.vs <= 1000000000) {i : Nat} {a : VA} {V : MV} (ha : A.va[i]? = some a) (hV : M.vs[i]? = some V) (k : Int × Nat) (hk : PkOk k) :
  Calls Tryz.prog 47 #[.pointer (some ⟨a.b, 0, none⟩), kv k] w fun E w' => E = .returned (.bool (has V.log k)) /\ Below w.heap.size w w' := by
 obtain ⟨w1, hw1⟩ : ∃ x, x = w.alloc (.cells (prC k).toArray 117) := ⟨_, rfl⟩
 have hB : Below w.heap.size w w1 := by rw [hw1]; exact bl.alloc (Nat.le_refl _) _
 have h2 : w1.heap[w.heap.size]? = some (.cells (prC k).toArray 117 (0, 0)) := by rw [hw1]; exact heap_alloc_new w _
 have hs1 : w.heap.size < w1.heap.size := by rw [hw1]; simp
 have HK := iq (fun (W : World) (hb : Below w1.heap.size w1 W) => range_of ((hb.block _ hs1).trans h2))
 have HLF := iq (fun (W : World) (hb : Below w1.heap.size w1 W) => (H.below hB).below hb)
 have HLen := iq (fun (i : Nat) (V : MV) (h : M.vs[i]? = some V) => Nat.le_trans (H.ok.len' h) hT)
 have HLg : Hid (∀ W, W = w.alloc (.cells (prC k).toArray 117) -> Calls Tryz.prog 78 #[.pointer (some ⟨a.b, 0, none⟩)] W fun E w' => E = .returned (.int .i64 (V.log.length : Int)) /\ ∃ n, w' = W.drewN n) := iq fun W hW => by have hW2 : W = w1 := hW.trans hw1.symm; subst hW2; exact length_any ((HLF.out _ bl).vw ha hV) (by have := HLen.out i V hV; omega)
 have HBw := iq hB
 have HW1 := iq hw1
 have HOk := iq H.ok
 have HKk := iq hk
 have HI : Hid ((Tryz.prog.info? 117).map (·.size) = some (prC k).length) := iq (by kernel_rfl)
 obtain ⟨res, hres⟩ : ∃ r, r = has V.log k := ⟨_, rfl⟩
 rw [<- hres]
 have HS0 : Hid (Seek A M k res V.log.length (.pointer (some ⟨a.b, 0, none⟩))) := iq (.inr ⟨i, a, V, rfl, ha, hV, by rw [log_length]; omega, Nat.le_refl _, by rw [List.take_length, hres]⟩)
 have HX := iq (fun (U : MV) (i : Nat) (h : M.vs[i]? = some U) => (H.ok.vw i U h).keys)
 obtain ⟨f0, hf0⟩ : ∃ f, f = V.log.length := ⟨_, rfl⟩
 rw [<- hf0] at HLg HS0
 clear H hT ha hV hk hB h2 hs1 hw1 hres hf0
 unfold kv
 go_enter Tryz.func47, Tryz.ntmps47
 go_wp2_with (go_at_call 78; refine (HLg.out _ rfl).mono ?_; rintro E w2 ⟨rfl, nq, rfl⟩)
 have HB0 : Hid (Below w1.heap.size w1 ((w.alloc (.cells (prC k).toArray 117)).drewN nq)) := iq (by rw [<- HW1.out]; exact below_drewN bl nq)
 generalize (w.alloc (.cells (prC k).toArray 117)).drewN nq = w2 at HB0 ⊢
 go_loopw [5, 0] (fun v5 v0 wr => ∃ f : Nat, v5 = .int .i64 (f : Int) /\ Hid (Seek A M k res f v0) /\ Hid (Below w1.heap.size w1 wr)) (fun _ v0 _ => vidx A.va v0)
 case atStart => exact ⟨f0, rfl, HS0, HB0⟩
 case round =>
  clear HS0 HB0 HLg
  obtain ⟨f, rfl, HSk, D⟩ := hrel
  rcases HSk.out with ⟨rfl, hr⟩ | ⟨iu, c, U, rfl, hc, hU, h1, h2, h3⟩
  ·have HR := iq hr
   clear hr HSk
   go_wp2_with fail
   go_ret
   exact ⟨ret_bool (by rw [HR.out]), HBw.out.trans (D.out.mono HBw.out.size)⟩
  ·have HVw := iq (fun (W : World) (hb : Below w1.heap.size w1 W) => (HLF.out W hb).vw hc hU)
   have HSt := iq (hold_step (HX.out U iu hU) h1 h2 k)
   have HNx := iq (fun (W : World) (hb : Below w1.heap.size w1 W) (hr : has U.S k = res) => seek_next (HLF.out W hb) hc hU hr)
   have HR3 := iq h3
   have HUl := iq (HLen.out iu U hU)
   have Hf := iq (show f <= U.log.length from h2)
   clear h1 h2 h3 hU hc HSk
   go_wp2_with fail
   refine wp_region_any (by kernel_rfl) ?_
   change wpAny _ _ _ _ _ _ _ (World.drewN _ 1)
   have D0 := iq (D.out.trans (below_drewN (Below.refl wr.heap.size wr) 1 |>.mono D.out.size))
   generalize wr.drewN 1 = w3 at D0 ⊢
   clear D
   refine wpAny_of_held (S := fun W => Below w1.heap.size w1 W) _ _ _ _ ?_
   cases hp : plcL (U.P.map (·.2)) U.S.length k with
   | none =>
    have hS : has U.S k = res := by rw [<- HR3.out, HSt.out.1, hp]; rfl
    refine tk 0 ⟨some 17, .move (.tmp 0), _, _, _, none⟩ (.pointer (some ⟨c.b, 0, none⟩)) rfl (by kernel_rfl) (fun _ _ _ => id) (D0.out) (fun W hSW => by go_simp) ?_
    try simp only [Act.put, l0, l1, l2]
    refine tk 1 ⟨some 18, .nilCheck (.tmp 17), _, _, _, none⟩ (.pointer (some ⟨c.b, 0, none⟩)) rfl (by kernel_rfl) (fun _ _ _ => id) (D0.out) (fun W hSW => by go_simp) ?_
    try simp only [pu, l0, l1, l2]
    refine tk 2 ⟨some 19, .fieldAddr 133 (.tmp 18) 5, _, _, _, none⟩ (.pointer (some ⟨c.b, 5, none⟩)) rfl (by kernel_rfl) (fun _ _ _ => id) (D0.out) (fun W hSW => by go_simp) ?_
    try simp only [pu, l0, l1, l2]
    refine tk 3 ⟨some 20, .load 131 (.tmp 19), _, _, _, none⟩ (.map (some c.mm)) rfl (by kernel_rfl) (fun _ _ _ => id) (D0.out) (fun W hSW => by have hv := (HVw.out W hSW).cells.2.2.2.2.2; go_simp) ?_
    try simp only [pu, l0, l1, l2]
    refine tk 4 ⟨some 21, .load 117 (.tmp 3), _, _, _, none⟩ (.agg (prC k).toArray) rfl (by kernel_rfl) (fun _ _ _ => id) (D0.out) (fun W hSW => exec_load_mid 117 (.tmp 3) rfl w.heap.size 0 rfl (prC k) _ (HK.out W hSW) Tryz.underlying117 rfl (HI.out)) ?_
    try simp only [pu, l0, l1, l2]
    refine tk 5 ⟨some 22, .lookup 131 (.tmp 20) (.tmp 21) true, _, _, _, none⟩ (.tuple #[.int .i64 0, .bool false]) rfl (by kernel_rfl) (fun _ _ _ => id) (D0.out) (fun W hSW => exec_look rfl rfl rfl (by have := mapA_look (HVw.out W hSW).mp HKk.out; unfold MV.plc at this; rw [hp] at this; exact this)) ?_
    try simp only [pu, l0, l1, l2]
    refine tk 6 ⟨some 16, .move (.tmp 22), _, _, _, none⟩ (.tuple #[.int .i64 0, .bool false]) rfl (by kernel_rfl) (fun _ _ _ => id) (D0.out) (fun W hSW => by go_simp) ?_
    try simp only [pu, l0, l1, l2]
    refine tk 7 ⟨some 23, .extract (.tmp 16) 0, _, _, _, none⟩ (.int .i64 0) rfl (by kernel_rfl) (fun _ _ _ => id) (D0.out) (fun W hSW => by go_simp) ?_
    try simp only [pu, l0, l1, l2]
    refine tk 8 ⟨some 24, .extract (.tmp 16) 1, _, _, _, none⟩ (.bool false) rfl (by kernel_rfl) (fun _ _ _ => id) (D0.out) (fun W hSW => by go_simp) ?_
    try simp only [pu, l0, l1, l2]
    refine tk 9 ⟨some 6, .assign (.tmp 23), _, _, _, none⟩ (.int .i64 0) rfl (by kernel_rfl) (fun _ _ _ => id) (D0.out) (fun W hSW => by go_simp) ?_
    try simp only [pu, l0, l1, l2]
    refine tk 10 ⟨some 7, .assign (.tmp 24), _, _, _, none⟩ (.bool false) rfl (by kernel_rfl) (fun _ _ _ => id) (D0.out) (fun W hSW => by go_simp) ?_
    try simp only [pu, l0, l1, l2]
    refine wpAnyH_done (by kernel_rfl) ?_ _
    have HN2 := iq (HNx.out w3 D0.out hS)
    obtain ⟨c1, c2⟩ : w3.cell? ⟨c.b, 1, none⟩ = some (ptO (sbO A.va U)) /\ w3.cell? ⟨c.b, 2, none⟩ = some (.int .i64 (U.S.length : Int)) := ⟨(HVw.out w3 D0.out).cells.2.1, (HVw.out w3 D0.out).cells.2.2.1⟩
    obtain ⟨q, hq⟩ : ∃ q, q = ptO (sbO A.va U) := ⟨_, rfl⟩
    rw [<- hq] at HN2 c1
    obtain ⟨z, hz⟩ : ∃ z, z = U.S.length := ⟨_, rfl⟩
    rw [<- hz] at HN2 c2
    clear hq hz hS
    clear hp
    go_wp2_with fail
    go_roundw
    case measure => exact HN2.out.2
    case rel => exact ⟨z, rfl, iq HN2.out.1, D0⟩
   | some j =>
    obtain ⟨hjl, hjf⟩ := HSt.out.2 j hp
    have hres : decide (j < f) = res := by rw [<- HR3.out, HSt.out.1, hp]
    by_cases hj : j < f
    ·have kd : decide ((j : Int) < (f : Int)) = true := decide_eq_true (by omega)
     have kd2 : decide (j < f) = true := decide_eq_true hj
     have HR := iq (hres.symm.trans kd2)
     have HP := iq hp
     clear hres hj hjf hjl
     have hp := HP.out
     refine tk 0 ⟨some 17, .move (.tmp 0), _, _, _, none⟩ (.pointer (some ⟨c.b, 0, none⟩)) rfl (by kernel_rfl) (fun _ _ _ => id) (D0.out) (fun W hSW => by go_simp) ?_
     try simp only [Act.put, l0, l1, l2]
     refine tk 1 ⟨some 18, .nilCheck (.tmp 17), _, _, _, none⟩ (.pointer (some ⟨c.b, 0, none⟩)) rfl (by kernel_rfl) (fun _ _ _ => id) (D0.out) (fun W hSW => by go_simp) ?_
     try simp only [pu, l0, l1, l2]
     refine tk 2 ⟨some 19, .fieldAddr 133 (.tmp 18) 5, _, _, _, none⟩ (.pointer (some ⟨c.b, 5, none⟩)) rfl (by kernel_rfl) (fun _ _ _ => id) (D0.out) (fun W hSW => by go_simp) ?_
     try simp only [pu, l0, l1, l2]
     refine tk 3 ⟨some 20, .load 131 (.tmp 19), _, _, _, none⟩ (.map (some c.mm)) rfl (by kernel_rfl) (fun _ _ _ => id) (D0.out) (fun W hSW => by have hv := (HVw.out W hSW).cells.2.2.2.2.2; go_simp) ?_
     try simp only [pu, l0, l1, l2]
     refine tk 4 ⟨some 21, .load 117 (.tmp 3), _, _, _, none⟩ (.agg (prC k).toArray) rfl (by kernel_rfl) (fun _ _ _ => id) (D0.out) (fun W hSW => exec_load_mid 117 (.tmp 3) rfl w.heap.size 0 rfl (prC k) _ (HK.out W hSW) Tryz.underlying117 rfl (HI.out)) ?_
     try simp only [pu, l0, l1, l2]
     refine tk 5 ⟨some 22, .lookup 131 (.tmp 20) (.tmp 21) true, _, _, _, none⟩ (.tuple #[.int .i64 (j : Int), .bool true]) rfl (by kernel_rfl) (fun _ _ _ => id) (D0.out) (fun W hSW => exec_look rfl rfl rfl (by have := mapA_look (HVw.out W hSW).mp HKk.out; unfold MV.plc at this; rw [hp] at this; exact this)) ?_
     try simp only [pu, l0, l1, l2]
     refine tk 6 ⟨some 16, .move (.tmp 22), _, _, _, none⟩ (.tuple #[.int .i64 (j : Int), .bool true]) rfl (by kernel_rfl) (fun _ _ _ => id) (D0.out) (fun W hSW => by go_simp) ?_
     try simp only [pu, l0, l1, l2]
     refine tk 7 ⟨some 23, .extract (.tmp 16) 0, _, _, _, none⟩ (.int .i64 (j : Int)) rfl (by kernel_rfl) (fun _ _ _ => id) (D0.out) (fun W hSW => by go_simp) ?_
     try simp only [pu, l0, l1, l2]
     refine tk 8 ⟨some 24, .extract (.tmp 16) 1, _, _, _, none⟩ (.bool true) rfl (by kernel_rfl) (fun _ _ _ => id) (D0.out) (fun W hSW => by go_simp) ?_
     try simp only [pu, l0, l1, l2]
     refine tk 9 ⟨some 6, .assign (.tmp 23), _, _, _, none⟩ (.int .i64 (j : Int)) rfl (by kernel_rfl) (fun _ _ _ => id) (D0.out) (fun W hSW => by go_simp) ?_
     try simp only [pu, l0, l1, l2]
     refine tk 10 ⟨some 7, .assign (.tmp 24), _, _, _, none⟩ (.bool true) rfl (by kernel_rfl) (fun _ _ _ => id) (D0.out) (fun W hSW => by go_simp) ?_
     try simp only [pu, l0, l1, l2]
     refine wpAnyH_done (by kernel_rfl) ?_ _
     clear hp
     go_wp2_with fail
     go_ret
     exact ⟨ret_bool (by rw [HR.out]), HBw.out.trans (D0.out.mono HBw.out.size)⟩
    ·have kd : decide ((j : Int) < (f : Int)) = false := decide_eq_false (by omega)
     have kd2 : decide (j < f) = false := decide_eq_false hj
     have hS : has U.S k = res := by rw [hjf hj, <- hres, kd2]
     clear hres hj hjf hjl
     refine tk 0 ⟨some 17, .move (.tmp 0), _, _, _, none⟩ (.pointer (some ⟨c.b, 0, none⟩)) rfl (by kernel_rfl) (fun _ _ _ => id) (D0.out) (fun W hSW => by go_simp) ?_
     try simp only [Act.put, l0, l1, l2]
     refine tk 1 ⟨some 18, .nilCheck (.tmp 17), _, _, _, none⟩ (.pointer (some ⟨c.b, 0, none⟩)) rfl (by kernel_rfl) (fun _ _ _ => id) (D0.out) (fun W hSW => by go_simp) ?_
     try simp only [pu, l0, l1, l2]
     refine tk 2 ⟨some 19, .fieldAddr 133 (.tmp 18) 5, _, _, _, none⟩ (.pointer (some ⟨c.b, 5, none⟩)) rfl (by kernel_rfl) (fun _ _ _ => id) (D0.out) (fun W hSW => by go_simp) ?_
     try simp only [pu, l0, l1, l2]
     refine tk 3 ⟨some 20, .load 131 (.tmp 19), _, _, _, none⟩ (.map (some c.mm)) rfl (by kernel_rfl) (fun _ _ _ => id) (D0.out) (fun W hSW => by have hv := (HVw.out W hSW).cells.2.2.2.2.2; go_simp) ?_
     try simp only [pu, l0, l1, l2]
     refine tk 4 ⟨some 21, .load 117 (.tmp 3), _, _, _, none⟩ (.agg (prC k).toArray) rfl (by kernel_rfl) (fun _ _ _ => id) (D0.out) (fun W hSW => exec_load_mid 117 (.tmp 3) rfl w.heap.size 0 rfl (prC k) _ (HK.out W hSW) Tryz.underlying117 rfl (HI.out)) ?_
     try simp only [pu, l0, l1, l2]
     refine tk 5 ⟨some 22, .lookup 131 (.tmp 20) (.tmp 21) true, _, _, _, none⟩ (.tuple #[.int .i64 (j : Int), .bool true]) rfl (by kernel_rfl) (fun _ _ _ => id) (D0.out) (fun W hSW => exec_look rfl rfl rfl (by have := mapA_look (HVw.out W hSW).mp HKk.out; unfold MV.plc at this; rw [hp] at this; exact this)) ?_
     try simp only [pu, l0, l1, l2]
     refine tk 6 ⟨some 16, .move (.tmp 22), _, _, _, none⟩ (.tuple #[.int .i64 (j : Int), .bool true]) rfl (by kernel_rfl) (fun _ _ _ => id) (D0.out) (fun W hSW => by go_simp) ?_
     try simp only [pu, l0, l1, l2]
     refine tk 7 ⟨some 23, .extract (.tmp 16) 0, _, _, _, none⟩ (.int .i64 (j : Int)) rfl (by kernel_rfl) (fun _ _ _ => id) (D0.out) (fun W hSW => by go_simp) ?_
     try simp only [pu, l0, l1, l2]
     refine tk 8 ⟨some 24, .extract (.tmp 16) 1, _, _, _, none⟩ (.bool true) rfl (by kernel_rfl) (fun _ _ _ => id) (D0.out) (fun W hSW => by go_simp) ?_
     try simp only [pu, l0, l1, l2]
     refine tk 9 ⟨some 6, .assign (.tmp 23), _, _, _, none⟩ (.int .i64 (j : Int)) rfl (by kernel_rfl) (fun _ _ _ => id) (D0.out) (fun W hSW => by go_simp) ?_
     try simp only [pu, l0, l1, l2]
     refine tk 10 ⟨some 7, .assign (.tmp 24), _, _, _, none⟩ (.bool true) rfl (by kernel_rfl) (fun _ _ _ => id) (D0.out) (fun W hSW => by go_simp) ?_
     try simp only [pu, l0, l1, l2]
     refine wpAnyH_done (by kernel_rfl) ?_ _
     clear hp
     have HN2 := iq (HNx.out w3 D0.out hS)
     obtain ⟨c1, c2⟩ : w3.cell? ⟨c.b, 1, none⟩ = some (ptO (sbO A.va U)) /\ w3.cell? ⟨c.b, 2, none⟩ = some (.int .i64 (U.S.length : Int)) := ⟨(HVw.out w3 D0.out).cells.2.1, (HVw.out w3 D0.out).cells.2.2.1⟩
     obtain ⟨q, hq⟩ : ∃ q, q = ptO (sbO A.va U) := ⟨_, rfl⟩
     rw [<- hq] at HN2 c1
     obtain ⟨z, hz⟩ : ∃ z, z = U.S.length := ⟨_, rfl⟩
     rw [<- hz] at HN2 c2
     clear hq hz hS
     go_wp2_with fail
     go_roundw
     case measure => exact HN2.out.2
     case rel => exact ⟨z, rfl, iq HN2.out.1, D0⟩
end Go.Proofs.YtknpcmadghkaaaaGreatDoor.Sh
