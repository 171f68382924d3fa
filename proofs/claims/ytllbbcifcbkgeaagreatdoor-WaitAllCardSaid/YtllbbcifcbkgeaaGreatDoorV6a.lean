/- Laws and walks. -/
import Derived.Test.YtllbbcifcbkgeaaGreatDoorS8a
import Derived.Test.YtllbbcifcbkgeaaGreatDoorV3a
import Derived.Test.YtllbbcifcbkgeaaGreatDoorV5a
set_option maxHeartbeats 16000000
set_option maxRecDepth 100000
namespace Go.Proofs.YtllbbcifcbkgeaaGreatDoor
open Go.RowKit
theorem rd_sh {w : World} {A : Option Addr} {n : Nat} {bs : List UInt8} (h : Oct.Rd w A n bs) : Sh.Rd (fun _ => True) w A n bs :=
 ⟨h.1, fun hn => let ⟨b, o, e, hb, hc⟩ := h.2 hn; ⟨b, o, e, hb, trivial, hc⟩⟩
def isRep (i : Int) : Bool := decide (1 <= i /\ i <= 11)
theorem repKey_len (i : Int) : (Sh.repKey i).length = if isRep i then 32 else 0 := by
 unfold Sh.repKey Sh.keyI isRep
 by_cases h : i < 1 \/ 11 < i
 ·rw [if_pos h, if_neg (by simp; omega)]
  rfl
 ·rw [if_neg h, Sh.sumOf_length, if_pos (by simp; omega)]
theorem isReplica_any (i : Int) (w : World) (hk : Sh.KIs w) (h0 : 0 < w.heap.size) :
  Calls Tryz.prog 86 #[.int .i64 i] w fun E w' => E = .returned (.bool (isRep i)) /\ Below w.heap.size w w' := by
 have HR := iq (Sh.replica_any i w hk h0)
 have hl := repKey_len i
 generalize Sh.repKey i = key at HR hl
 cases hi : isRep i with
 | true =>
  rw [hi, if_pos rfl] at hl
  rw [hl] at HR
  clear hi hk
  go_enter Tryz.func86, Tryz.ntmps86
  go_wp2_with (go_at_call 101; refine HR.out.mono ?_; rintro E w1 ⟨A, c, rfl, H1, hb1⟩)
  go_ret
  exact ⟨rfl, hb1⟩
 | false =>
  rw [hi, if_neg (by simp)] at hl
  rw [hl] at HR
  clear hi hk
  go_enter Tryz.func86, Tryz.ntmps86
  go_wp2_with (go_at_call 101; refine HR.out.mono ?_; rintro E w1 ⟨A, c, rfl, H1, hb1⟩)
  go_ret
  exact ⟨rfl, hb1⟩
def mayN (n m : Nat) : Bool := decide (1 <= n /\ n <= 65536 /\ m <= 1024)
theorem mayBe_any (n m c : Nat) (A : Option Addr) (w : World) : Calls Tryz.prog 87 #[.int .u64 (n : Int), .slice A m c] w fun E w' => E = .returned (.bool (mayN n m)) /\ w = w' := by
 by_cases h1 : 1 <= n
 ·by_cases h2 : n <= 65536
  ·have e : mayN n m = decide ((m : Int) <= 1024) := by rw [mayN]; congr 1; rw [eq_iff_iff]; omega
   rw [e]
   clear e
   go_enter Tryz.func87, Tryz.ntmps87
   go_wp2
   go_ret
   exact ⟨rfl, rfl⟩
  ·have e : mayN n m = false := by simp [mayN]; omega
   rw [e]
   clear e
   go_enter Tryz.func87, Tryz.ntmps87
   go_wp2
   go_ret
   exact ⟨rfl, rfl⟩
 ·have e : mayN n m = false := by simp [mayN]; omega
  rw [e]
  clear e
  go_enter Tryz.func87, Tryz.ntmps87
  go_wp2
  go_ret
  exact ⟨rfl, rfl⟩
def tagV (t : List UInt8) : Value := .agg (u8s t).toArray
theorem tag_size : (Tryz.prog.info? 45).map (·.size) = some 32 := by kernel_rfl
theorem tag_info {l : List UInt8} (h : l.length = 32) : (Tryz.prog.info? 45).map (·.size) = some (u8s l).length := by rw [u8s_length, h]; exact tag_size
theorem row_new (w : World) (cs : List Value) (t : TypeId) : (w.alloc (.cells cs.toArray t)).heap[w.heap.size]? = some (.cells cs.toArray t (0, 0)) := heap_alloc_new w _
theorem exec_load_mid {P : Program} {o : Oper} {f : Operand -> Value} {w : World} (ty : TypeId) (x : Operand) (ho : o.op = .load ty x) (b off : Nat) (hx : f x = .pointer (some ⟨b, off, none⟩)) (cs : List Value) (d : TypeDesc)
  (hc : w.rangeAt b off cs) (hu : P.underlying ty = some d) (hd : d.isRow = true) (hi : (P.info? ty).map (·.size) = some cs.length) : (execOp f o).run P w = .ok (.value (.agg cs.toArray)) w := by
 unfold execOp
 simp only [ho, hx, Instr.loadAt, Instr.sureAddr, Sem.run_bind, Sem.run_pure, Result.andThen_ok, run_loadVar_mid w b off ty cs d hc hu hd hi]
def chk (i : Int) (n : Nat) (b t : List UInt8) : Bool := isRep i && mayN n b.length && decide (t = Sh.numTag i n b)
theorem check_us (i : Int) (n : Nat) {A : Option Addr} {c : Nat} {b t : List UInt8} {w : World} (hr : Oct.Rd w A b.length b) (hs : Oct.Sl A b.length c) (hL : b.length < 1000000000000) (ht : t.length = 32) (hk : Sh.KIs w) (h0 : 0 < w.heap.size) :
  Calls Tryz.prog 68 #[.int .i64 i, .int .u64 (n : Int), .slice A b.length c, tagV t] w fun E w' => E = .returned (.bool (chk i n b t)) /\ Hid (Below w.heap.size w w') := by
 have HI := iq (fun W (hb : Below w.heap.size w W) => isReplica_any i W (hk.below hb h0) (Nat.lt_of_lt_of_le h0 hb.size))
 have HM := iq (fun W => mayBe_any n b.length c A W)
 have HN := iq (fun W (hb : Below w.heap.size w W) => Sh.numbered_any i n b A b.length c W (rd_sh (hr.below hb)) hs hL (hk.below hb h0) (Nat.lt_of_lt_of_le h0 hb.size))
 have HT : Hid ((Tryz.prog.info? 45).map (·.size) = some (u8s t).length) := iq (tag_info ht)
 have hTL := Sh.numTag_length i n b
 unfold tagV chk
 clear hr hs hL hk
 cases hrep : isRep i with
 | false =>
  rw [hrep] at HI
  rw [Bool.false_and, Bool.false_and]
  generalize Sh.numTag i n b = tg at *
  clear hrep hTL HN HM HT
  go_enter Tryz.func68, Tryz.ntmps68
  go_wp2_with fail
  try try simp only [Act.put, l0, l1, l2]
  refine wp_region_any (by kernel_rfl) ?_
  change wpAny _ _ _ _ _ _ _ ((w.alloc (.cells (u8s t).toArray 45)).drewN 1)
  have HQ : Hid (((w.alloc (.cells (u8s t).toArray 45)).drewN 1).heap[w.heap.size]? = some (.cells (u8s t).toArray 45 (0, 0)) /\ Below w.heap.size w ((w.alloc (.cells (u8s t).toArray 45)).drewN 1) /\ w.heap.size < ((w.alloc (.cells (u8s t).toArray 45)).drewN 1).heap.size) := iq ⟨row_new w (u8s t) _, Sh.below_drewN (bl.alloc (Nat.le_refl _) _) 1, by simp⟩
  generalize (w.alloc (.cells (u8s t).toArray 45)).drewN 1 = w7 at HQ ⊢
  refine wpAny_of_held (S := fun W => Below w7.heap.size w7 W) _ _ _ _ ?_
  refine tk 0 ⟨some 9, .move (.tmp 0), _, _, _, none⟩ (.int .i64 i) rfl (by kernel_rfl) (fun _ _ _ => id) bl (fun W hSW => by go_simp) ?_
  try simp only [Act.put, l0, l1, l2]
  refine rd1 1 ⟨some 10, .call { callee := .value (.func 86), args := #[.tmp 9], argTypes := #[3] }, _, _, _, none⟩ (by kernel_rfl) rfl fun K' hK' => ?_
  go_simp
  go_at_call 86
  refine (HI.out w7 HQ.out.2.1).mono ?_
  rintro E w8 ⟨rfl, hbw8⟩
  have HBw8 := iq hbw8
  clear hbw8
  refine hK'.out _ _ HBw8.out (fun _ => Sh.wpAnyH_next HBw8.out ?_)
  clear hK' K'
  try simp only [Act.put, l0, l1, l2]
  refine tk 2 ⟨some 11, .move (.tmp 10), _, _, _, none⟩ (.bool false) rfl (by kernel_rfl) (fun _ _ _ => id) bl (fun W hSW => by go_simp) ?_
  try simp only [pu, l0, l1, l2]
  refine sk 3 ⟨some 12, .move (.tmp 1), _, _, _, some (2, true)⟩ rfl (by kernel_rfl) (fun _ _ _ => id) bl ?_
  try simp only [pu, l0, l1, l2]
  refine sk 4 ⟨some 13, .move (.tmp 2), _, _, _, some (2, true)⟩ rfl (by kernel_rfl) (fun _ _ _ => id) bl ?_
  try simp only [pu, l0, l1, l2]
  refine sk 5 ⟨some 14, .call { callee := .value (.func 87), args := #[.tmp 12, .tmp 13], argTypes := #[25, 23] }, _, _, _, some (2, true)⟩ rfl (by kernel_rfl) (fun _ _ _ => id) bl ?_
  try simp only [pu, l0, l1, l2]
  refine tk 6 ⟨some 15, .pick (.tmp 11) (.tmp 14) (.const (.bool false)), _, _, _, none⟩ (.bool false) rfl (by kernel_rfl) (fun _ _ _ => id) bl (fun W hSW => by go_simp) ?_
  try simp only [pu, l0, l1, l2]
  refine tk 7 ⟨some 16, .move (.tmp 15), _, _, _, none⟩ (.bool false) rfl (by kernel_rfl) (fun _ _ _ => id) bl (fun W hSW => by go_simp) ?_
  try simp only [pu, l0, l1, l2]
  refine sk 8 ⟨some 17, .load 45 (.tmp 7), _, _, _, some (7, true)⟩ rfl (by kernel_rfl) (fun _ _ _ => id) bl ?_
  try simp only [pu, l0, l1, l2]
  refine sk 9 ⟨some 18, .move (.tmp 0), _, _, _, some (7, true)⟩ rfl (by kernel_rfl) (fun _ _ _ => id) bl ?_
  try simp only [pu, l0, l1, l2]
  refine sk 10 ⟨some 19, .move (.tmp 1), _, _, _, some (7, true)⟩ rfl (by kernel_rfl) (fun _ _ _ => id) bl ?_
  try simp only [pu, l0, l1, l2]
  refine sk 11 ⟨some 20, .move (.tmp 2), _, _, _, some (7, true)⟩ rfl (by kernel_rfl) (fun _ _ _ => id) bl ?_
  try simp only [pu, l0, l1, l2]
  refine sk 12 ⟨some 21, .call { callee := .value (.func 89), args := #[.tmp 18, .tmp 19, .tmp 20], argTypes := #[3, 25, 23] }, _, _, _, some (7, true)⟩ rfl (by kernel_rfl) (fun _ _ _ => id) bl ?_
  try simp only [pu, l0, l1, l2]
  refine sk 13 ⟨some 22, .call { callee := .value (.func 88), args := #[.tmp 17, .tmp 21], argTypes := #[45, 45] }, _, _, _, some (7, true)⟩ rfl (by kernel_rfl) (fun _ _ _ => id) bl ?_
  try simp only [pu, l0, l1, l2]
  refine tk 14 ⟨some 23, .pick (.tmp 16) (.tmp 22) (.const (.bool false)), _, _, _, none⟩ (.bool false) rfl (by kernel_rfl) (fun _ _ _ => id) bl (fun W hSW => by go_simp) ?_
  try simp only [pu, l0, l1, l2]
  refine tk 15 ⟨some 8, .assign (.tmp 23), _, _, _, none⟩ (.bool false) rfl (by kernel_rfl) (fun _ _ _ => id) bl (fun W hSW => by go_simp) ?_
  try simp only [pu, l0, l1, l2]
  refine wpAnyH_done (by kernel_rfl) ?_ _
  go_wp2_with fail
  go_ret
  exact ⟨rfl, iq (HQ.out.2.1.trans (HBw8.out.mono HQ.out.2.1.size))⟩
 | true =>
  rw [hrep] at HI
  rw [Bool.true_and]
  cases hmay : mayN n b.length with
  | false =>
   rw [hmay] at HM
   rw [Bool.false_and]
   generalize Sh.numTag i n b = tg at *
   clear hrep hTL HN HT hmay
   go_enter Tryz.func68, Tryz.ntmps68
   go_wp2_with fail
   try try simp only [Act.put, l0, l1, l2]
   refine wp_region_any (by kernel_rfl) ?_
   change wpAny _ _ _ _ _ _ _ ((w.alloc (.cells (u8s t).toArray 45)).drewN 1)
   have HQ : Hid (((w.alloc (.cells (u8s t).toArray 45)).drewN 1).heap[w.heap.size]? = some (.cells (u8s t).toArray 45 (0, 0)) /\ Below w.heap.size w ((w.alloc (.cells (u8s t).toArray 45)).drewN 1) /\ w.heap.size < ((w.alloc (.cells (u8s t).toArray 45)).drewN 1).heap.size) := iq ⟨row_new w (u8s t) _, Sh.below_drewN (bl.alloc (Nat.le_refl _) _) 1, by simp⟩
   generalize (w.alloc (.cells (u8s t).toArray 45)).drewN 1 = w7 at HQ ⊢
   refine wpAny_of_held (S := fun W => Below w7.heap.size w7 W) _ _ _ _ ?_
   refine tk 0 ⟨some 9, .move (.tmp 0), _, _, _, none⟩ (.int .i64 i) rfl (by kernel_rfl) (fun _ _ _ => id) bl (fun W hSW => by go_simp) ?_
   try simp only [Act.put, l0, l1, l2]
   refine rd1 1 ⟨some 10, .call { callee := .value (.func 86), args := #[.tmp 9], argTypes := #[3] }, _, _, _, none⟩ (by kernel_rfl) rfl fun K' hK' => ?_
   go_simp
   go_at_call 86
   refine (HI.out w7 HQ.out.2.1).mono ?_
   rintro E w8 ⟨rfl, hbw8⟩
   have HBw8 := iq hbw8
   clear hbw8
   refine hK'.out _ _ HBw8.out (fun _ => Sh.wpAnyH_next HBw8.out ?_)
   clear hK' K'
   try simp only [Act.put, l0, l1, l2]
   refine tk 2 ⟨some 11, .move (.tmp 10), _, _, _, none⟩ (.bool true) rfl (by kernel_rfl) (fun _ _ _ => id) bl (fun W hSW => by go_simp) ?_
   try simp only [pu, l0, l1, l2]
   refine tk 3 ⟨some 12, .move (.tmp 1), _, _, _, some (2, true)⟩ (.int .u64 (n : Int)) rfl (by kernel_rfl) (fun _ _ _ => id) bl (fun W hSW => by go_simp) ?_
   try simp only [pu, l0, l1, l2]
   refine tk 4 ⟨some 13, .move (.tmp 2), _, _, _, some (2, true)⟩ (.slice A b.length c) rfl (by kernel_rfl) (fun _ _ _ => id) bl (fun W hSW => by go_simp) ?_
   try simp only [pu, l0, l1, l2]
   refine rd1 5 ⟨some 14, .call { callee := .value (.func 87), args := #[.tmp 12, .tmp 13], argTypes := #[25, 23] }, _, _, _, some (2, true)⟩ (by kernel_rfl) rfl fun K' hK' => ?_
   go_simp
   go_at_call 87
   refine (HM.out w8).mono ?_
   rintro E w9 ⟨rfl, rfl⟩
   refine hK'.out _ _ bl (fun _ => ?_)
   clear hK' K'
   try simp only [Act.put, l0, l1, l2]
   refine tk 6 ⟨some 15, .pick (.tmp 11) (.tmp 14) (.const (.bool false)), _, _, _, none⟩ (.bool false) rfl (by kernel_rfl) (fun _ _ _ => id) bl (fun W hSW => by go_simp) ?_
   try simp only [pu, l0, l1, l2]
   refine tk 7 ⟨some 16, .move (.tmp 15), _, _, _, none⟩ (.bool false) rfl (by kernel_rfl) (fun _ _ _ => id) bl (fun W hSW => by go_simp) ?_
   try simp only [pu, l0, l1, l2]
   refine sk 8 ⟨some 17, .load 45 (.tmp 7), _, _, _, some (7, true)⟩ rfl (by kernel_rfl) (fun _ _ _ => id) bl ?_
   try simp only [pu, l0, l1, l2]
   refine sk 9 ⟨some 18, .move (.tmp 0), _, _, _, some (7, true)⟩ rfl (by kernel_rfl) (fun _ _ _ => id) bl ?_
   try simp only [pu, l0, l1, l2]
   refine sk 10 ⟨some 19, .move (.tmp 1), _, _, _, some (7, true)⟩ rfl (by kernel_rfl) (fun _ _ _ => id) bl ?_
   try simp only [pu, l0, l1, l2]
   refine sk 11 ⟨some 20, .move (.tmp 2), _, _, _, some (7, true)⟩ rfl (by kernel_rfl) (fun _ _ _ => id) bl ?_
   try simp only [pu, l0, l1, l2]
   refine sk 12 ⟨some 21, .call { callee := .value (.func 89), args := #[.tmp 18, .tmp 19, .tmp 20], argTypes := #[3, 25, 23] }, _, _, _, some (7, true)⟩ rfl (by kernel_rfl) (fun _ _ _ => id) bl ?_
   try simp only [pu, l0, l1, l2]
   refine sk 13 ⟨some 22, .call { callee := .value (.func 88), args := #[.tmp 17, .tmp 21], argTypes := #[45, 45] }, _, _, _, some (7, true)⟩ rfl (by kernel_rfl) (fun _ _ _ => id) bl ?_
   try simp only [pu, l0, l1, l2]
   refine tk 14 ⟨some 23, .pick (.tmp 16) (.tmp 22) (.const (.bool false)), _, _, _, none⟩ (.bool false) rfl (by kernel_rfl) (fun _ _ _ => id) bl (fun W hSW => by go_simp) ?_
   try simp only [pu, l0, l1, l2]
   refine tk 15 ⟨some 8, .assign (.tmp 23), _, _, _, none⟩ (.bool false) rfl (by kernel_rfl) (fun _ _ _ => id) bl (fun W hSW => by go_simp) ?_
   try simp only [pu, l0, l1, l2]
   refine wpAnyH_done (by kernel_rfl) ?_ _
   go_wp2_with fail
   go_ret
   exact ⟨rfl, iq (HQ.out.2.1.trans (HBw8.out.mono HQ.out.2.1.size))⟩
  | true =>
   rw [hmay] at HM
   rw [Bool.true_and]
   have hsame : ∀ W : World, Calls Tryz.prog 88 #[.agg (u8s t).toArray, .agg (u8s (Sh.numTag i n b)).toArray] W fun E w' => E = .returned (.bool (decide (t = Sh.numTag i n b))) /\ Below W.heap.size W w' := fun W => by
    by_cases hq : t = Sh.numTag i n b
    ·rw [decide_eq_true hq]
     have := Sh.same_yes t W ht
     rw [<- hq]
     exact this
    ·rw [decide_eq_false hq]
     exact Sh.same_no t _ W ht hTL hq
   generalize decide (t = Sh.numTag i n b) = ans at hsame ⊢
   have HSAME := iq hsame
   have HN : Hid (∀ W : World, Below w.heap.size w W -> Calls Tryz.prog 89 #[.int .i64 i, .int .u64 (n : Int), .slice A b.length c] W fun E w' => E = .returned (.agg (u8s (Sh.numTag i n b)).toArray) /\ Below W.heap.size W w') := HN
   generalize u8s (Sh.numTag i n b) = tg at HN HSAME
   clear hrep hTL hmay hsame
   go_enter Tryz.func68, Tryz.ntmps68
   go_wp2_with fail
   try try simp only [Act.put, l0, l1, l2]
   refine wp_region_any (by kernel_rfl) ?_
   change wpAny _ _ _ _ _ _ _ ((w.alloc (.cells (u8s t).toArray 45)).drewN 1)
   have HQ : Hid (((w.alloc (.cells (u8s t).toArray 45)).drewN 1).heap[w.heap.size]? = some (.cells (u8s t).toArray 45 (0, 0)) /\ Below w.heap.size w ((w.alloc (.cells (u8s t).toArray 45)).drewN 1) /\ w.heap.size < ((w.alloc (.cells (u8s t).toArray 45)).drewN 1).heap.size) := iq ⟨row_new w (u8s t) _, Sh.below_drewN (bl.alloc (Nat.le_refl _) _) 1, by simp⟩
   generalize (w.alloc (.cells (u8s t).toArray 45)).drewN 1 = w7 at HQ ⊢
   refine wpAny_of_held (S := fun W => Below w7.heap.size w7 W) _ _ _ _ ?_
   refine tk 0 ⟨some 9, .move (.tmp 0), _, _, _, none⟩ (.int .i64 i) rfl (by kernel_rfl) (fun _ _ _ => id) bl (fun W hSW => by go_simp) ?_
   try simp only [Act.put, l0, l1, l2]
   refine rd1 1 ⟨some 10, .call { callee := .value (.func 86), args := #[.tmp 9], argTypes := #[3] }, _, _, _, none⟩ (by kernel_rfl) rfl fun K' hK' => ?_
   go_simp
   go_at_call 86
   refine (HI.out w7 HQ.out.2.1).mono ?_
   rintro E w8 ⟨rfl, hbw8⟩
   have HBw8 := iq hbw8
   clear hbw8
   refine hK'.out _ _ HBw8.out (fun _ => Sh.wpAnyH_next HBw8.out ?_)
   clear hK' K'
   try simp only [Act.put, l0, l1, l2]
   refine tk 2 ⟨some 11, .move (.tmp 10), _, _, _, none⟩ (.bool true) rfl (by kernel_rfl) (fun _ _ _ => id) bl (fun W hSW => by go_simp) ?_
   try simp only [pu, l0, l1, l2]
   refine tk 3 ⟨some 12, .move (.tmp 1), _, _, _, some (2, true)⟩ (.int .u64 (n : Int)) rfl (by kernel_rfl) (fun _ _ _ => id) bl (fun W hSW => by go_simp) ?_
   try simp only [pu, l0, l1, l2]
   refine tk 4 ⟨some 13, .move (.tmp 2), _, _, _, some (2, true)⟩ (.slice A b.length c) rfl (by kernel_rfl) (fun _ _ _ => id) bl (fun W hSW => by go_simp) ?_
   try simp only [pu, l0, l1, l2]
   refine rd1 5 ⟨some 14, .call { callee := .value (.func 87), args := #[.tmp 12, .tmp 13], argTypes := #[25, 23] }, _, _, _, some (2, true)⟩ (by kernel_rfl) rfl fun K' hK' => ?_
   go_simp
   go_at_call 87
   refine (HM.out w8).mono ?_
   rintro E w9 ⟨rfl, rfl⟩
   refine hK'.out _ _ bl (fun _ => ?_)
   clear hK' K'
   try simp only [Act.put, l0, l1, l2]
   refine tk 6 ⟨some 15, .pick (.tmp 11) (.tmp 14) (.const (.bool false)), _, _, _, none⟩ (.bool true) rfl (by kernel_rfl) (fun _ _ _ => id) bl (fun W hSW => by go_simp) ?_
   try simp only [pu, l0, l1, l2]
   refine tk 7 ⟨some 16, .move (.tmp 15), _, _, _, none⟩ (.bool true) rfl (by kernel_rfl) (fun _ _ _ => id) bl (fun W hSW => by go_simp) ?_
   try simp only [pu, l0, l1, l2]
   have HB78 : Hid (Below w.heap.size w w8) := iq (HQ.out.2.1.trans (HBw8.out.mono HQ.out.2.1.size))
   refine tk 8 ⟨some 17, .load 45 (.tmp 7), _, _, _, some (7, true)⟩ (.agg (u8s t).toArray) rfl (by kernel_rfl) (fun _ _ _ => id) bl (fun W hSW => exec_load_mid 45 (.tmp 7) rfl w.heap.size 0 rfl (u8s t) _ (range_block ((hSW.block _ (Nat.lt_of_lt_of_le HQ.out.2.2 HBw8.out.size)).trans ((HBw8.out.block _ HQ.out.2.2).trans HQ.out.1)) 0 _ (fun j v hv => by rw [Nat.zero_add]; exact hv)) Tryz.underlying45 rfl HT.out) ?_
   try simp only [Act.put, l0, l1, l2]
   refine tk 9 ⟨some 18, .move (.tmp 0), _, _, _, some (7, true)⟩ (.int .i64 i) rfl (by kernel_rfl) (fun _ _ _ => id) bl (fun W hSW => by go_simp) ?_
   try simp only [pu, l0, l1, l2]
   refine tk 10 ⟨some 19, .move (.tmp 1), _, _, _, some (7, true)⟩ (.int .u64 (n : Int)) rfl (by kernel_rfl) (fun _ _ _ => id) bl (fun W hSW => by go_simp) ?_
   try simp only [pu, l0, l1, l2]
   refine tk 11 ⟨some 20, .move (.tmp 2), _, _, _, some (7, true)⟩ (.slice A b.length c) rfl (by kernel_rfl) (fun _ _ _ => id) bl (fun W hSW => by go_simp) ?_
   try simp only [pu, l0, l1, l2]
   refine rd1 12 ⟨some 21, .call { callee := .value (.func 89), args := #[.tmp 18, .tmp 19, .tmp 20], argTypes := #[3, 25, 23] }, _, _, _, some (7, true)⟩ (by kernel_rfl) rfl fun K' hK' => ?_
   go_simp
   go_at_call 89
   refine (HN.out w8 HB78.out).mono ?_
   rintro E w10 ⟨rfl, hbw10⟩
   have HBw10 := iq hbw10
   clear hbw10
   refine hK'.out _ _ HBw10.out (fun _ => Sh.wpAnyH_next HBw10.out ?_)
   clear hK' K'
   try simp only [Act.put, l0, l1, l2]
   refine rd1 13 ⟨some 22, .call { callee := .value (.func 88), args := #[.tmp 17, .tmp 21], argTypes := #[45, 45] }, _, _, _, some (7, true)⟩ (by kernel_rfl) rfl fun K' hK' => ?_
   go_simp
   go_at_call 88
   refine (HSAME.out w10).mono ?_
   rintro E w11 ⟨rfl, hbw11⟩
   have HBw11 := iq hbw11
   clear hbw11
   refine hK'.out _ _ HBw11.out (fun _ => Sh.wpAnyH_next HBw11.out ?_)
   clear hK' K'
   try simp only [Act.put, l0, l1, l2]
   refine tk 14 ⟨some 23, .pick (.tmp 16) (.tmp 22) (.const (.bool false)), _, _, _, none⟩ (.bool ans) rfl (by kernel_rfl) (fun _ _ _ => id) bl (fun W hSW => by go_simp) ?_
   try simp only [pu, l0, l1, l2]
   refine tk 15 ⟨some 8, .assign (.tmp 23), _, _, _, none⟩ (.bool ans) rfl (by kernel_rfl) (fun _ _ _ => id) bl (fun W hSW => by go_simp) ?_
   try simp only [pu, l0, l1, l2]
   refine wpAnyH_done (by kernel_rfl) ?_ _
   go_wp2_with fail
   go_ret
   exact ⟨rfl, iq ((HB78.out.trans (HBw10.out.mono HB78.out.size)).trans (HBw11.out.mono (Nat.le_trans HB78.out.size HBw10.out.size)))⟩
end Go.Proofs.YtllbbcifcbkgeaaGreatDoor
namespace Go.Proofs.YtllbbcifcbkgeaaGreatDoor.Sh
open Go.RowKit
theorem right_by (m : MMsg) (w : World) (hm : m.Wf) (z q : Bool)
  (HM : Hid (∀ W, Below w.heap.size w W -> Calls Tryz.prog 41 #[.agg (msgC m).toArray] W fun E w' => E = .returned (.bool z) /\ Hid (Below W.heap.size W w')))
  (HT : Hid (z = true -> ∀ W, Below w.heap.size w W -> Calls Tryz.prog 69 #[.agg (msgC m).toArray] W fun E w' => ∃ A' n' c', E = .returned (.slice A' n' c') /\ Ow W.heap.size w' A' n' c' (msgB m) /\ Hid (Below W.heap.size W w')))
  (HC : Hid (∀ (W : World) (A : Option Addr) (n c : Nat), Below w.heap.size w W -> Ow 0 W A n c (msgB m) -> Calls Tryz.prog 68 #[.int .i64 m.origin, .int .u64 (m.number : Int), .slice A n c, .agg (u8s m.tag).toArray] W fun E w' => E = .returned (.bool q) /\ Hid (Below W.heap.size W w'))) :
  Calls Tryz.prog 43 #[.agg (msgC m).toArray] w fun E w' => E = .returned (.bool (z && q)) /\ Hid (Below w.heap.size w w') := by
 have HI : Hid ((Tryz.prog.info? 52).map (·.size) = some (msgC m).length) := iq (by rw [msgC_length hm]; exact Tryz.is52)
 have HL : Hid (RqAt w.heap.size w (msgC m) (w.alloc (.cells (msgC m).toArray 52))) := iq ⟨bl.alloc (Nat.le_refl _) _, by simp, range_box w (msgC m) 52⟩
 have HMW := iq hm
 have HJ : Hid ((Tryz.prog.info? 45).map (·.size) = some (u8s m.tag).length) := iq (by rw [u8s_length, hm.2.2]; exact Tryz.size45)
 clear hm
 cases z
 ·go_enter Tryz.func43, Tryz.ntmps43
  go_wp2_with fail
  refine wp_region_any (by kernel_rfl) ?_
  have H3 := iq (HL.out.drewN 1)
  change wpAny _ _ _ _ _ _ _ ((w.alloc (.cells (msgC m).toArray 52)).drewN 1)
  generalize (w.alloc (.cells (msgC m).toArray 52)).drewN 1 = w3 at H3 ⊢
  clear HL
  refine wpAny_of_held (S := fun W => W.rangeAt w.heap.size 0 (msgC m)) _ _ _ _ ?_
  refine tk 0 ⟨some 3, .load 52 (.tmp 1), _, _, _, none⟩ (.agg (msgC m).toArray) rfl (by kernel_rfl) (fun _ _ _ => id) (H3.out.src) (fun W hSW => exec_load_mid 52 (.tmp 1) rfl w.heap.size 0 rfl (msgC m) _ (hSW) Tryz.underlying52 rfl (HI.out)) ?_
  try simp only [Act.put, l0, l1, l2]
  refine rd1 1 ⟨some 4, .call { callee := .value (.func 41), args := #[.tmp 3], argTypes := #[52] }, _, _, _, none⟩ (by kernel_rfl) rfl fun K' hK' => ?_
  go_simp
  go_at_call 41
  refine (HM.out _ H3.out.bel).mono ?_
  rintro E w4 ⟨rfl, hb4⟩
  have H4 := iq (H3.out.next (Nat.le_refl _) hb4.out)
  refine hK'.out _ _ H4.out.src (fun _ => ?_)
  clear hK' K'
  try simp only [Act.put, l0, l1, l2]
  refine tk 2 ⟨some 5, .move (.tmp 4), _, _, _, none⟩ (.bool false) rfl (by kernel_rfl) (fun _ _ _ => id) (H4.out.src) (fun W hSW => by go_simp) ?_
  try simp only [pu, l0, l1, l2]
  refine sk 3 ⟨some 6, .fieldAddr 52 (.tmp 1) 0, _, _, _, some (2, true)⟩ rfl (by kernel_rfl) (fun _ _ _ => id) (H4.out.src) ?_
  try simp only [pu, l0, l1, l2]
  refine sk 4 ⟨some 7, .load 3 (.tmp 6), _, _, _, some (2, true)⟩ rfl (by kernel_rfl) (fun _ _ _ => id) (H4.out.src) ?_
  try simp only [pu, l0, l1, l2]
  refine sk 5 ⟨some 8, .fieldAddr 52 (.tmp 1) 1, _, _, _, some (2, true)⟩ rfl (by kernel_rfl) (fun _ _ _ => id) (H4.out.src) ?_
  try simp only [pu, l0, l1, l2]
  refine sk 6 ⟨some 9, .load 25 (.tmp 8), _, _, _, some (2, true)⟩ rfl (by kernel_rfl) (fun _ _ _ => id) (H4.out.src) ?_
  try simp only [pu, l0, l1, l2]
  refine sk 7 ⟨some 10, .load 52 (.tmp 1), _, _, _, some (2, true)⟩ rfl (by kernel_rfl) (fun _ _ _ => id) (H4.out.src) ?_
  try simp only [pu, l0, l1, l2]
  refine sk 8 ⟨some 11, .call { callee := .value (.func 69), args := #[.tmp 10], argTypes := #[52] }, _, _, _, some (2, true)⟩ rfl (by kernel_rfl) (fun _ _ _ => id) (H4.out.src) ?_
  try simp only [pu, l0, l1, l2]
  refine sk 9 ⟨some 12, .fieldAddr 52 (.tmp 1) 4, _, _, _, some (2, true)⟩ rfl (by kernel_rfl) (fun _ _ _ => id) (H4.out.src) ?_
  try simp only [pu, l0, l1, l2]
  refine sk 10 ⟨some 13, .load 45 (.tmp 12), _, _, _, some (2, true)⟩ rfl (by kernel_rfl) (fun _ _ _ => id) (H4.out.src) ?_
  try simp only [pu, l0, l1, l2]
  refine sk 11 ⟨some 14, .call { callee := .value (.func 68), args := #[.tmp 7, .tmp 9, .tmp 11, .tmp 13], argTypes := #[3, 25, 23, 45] }, _, _, _, some (2, true)⟩ rfl (by kernel_rfl) (fun _ _ _ => id) (H4.out.src) ?_
  try simp only [pu, l0, l1, l2]
  refine tk 12 ⟨some 15, .pick (.tmp 5) (.tmp 14) (.const (.bool false)), _, _, _, none⟩ (.bool false) rfl (by kernel_rfl) (fun _ _ _ => id) (H4.out.src) (fun W hSW => by go_simp) ?_
  try simp only [pu, l0, l1, l2]
  refine tk 13 ⟨some 2, .assign (.tmp 15), _, _, _, none⟩ (.bool false) rfl (by kernel_rfl) (fun _ _ _ => id) (H4.out.src) (fun W hSW => by go_simp) ?_
  try simp only [pu, l0, l1, l2]
  refine wpAnyH_done (by kernel_rfl) ?_ _
  go_wp2_with fail
  go_ret
  exact ⟨rfl, iq H4.out.bel⟩
 ·go_enter Tryz.func43, Tryz.ntmps43
  go_wp2_with fail
  refine wp_region_any (by kernel_rfl) ?_
  have H3 := iq (HL.out.drewN 1)
  change wpAny _ _ _ _ _ _ _ ((w.alloc (.cells (msgC m).toArray 52)).drewN 1)
  generalize (w.alloc (.cells (msgC m).toArray 52)).drewN 1 = w3 at H3 ⊢
  clear HL
  refine wpAny_of_held (S := fun W => W.rangeAt w.heap.size 0 (msgC m)) _ _ _ _ ?_
  refine tk 0 ⟨some 3, .load 52 (.tmp 1), _, _, _, none⟩ (.agg (msgC m).toArray) rfl (by kernel_rfl) (fun _ _ _ => id) (H3.out.src) (fun W hSW => exec_load_mid 52 (.tmp 1) rfl w.heap.size 0 rfl (msgC m) _ (hSW) Tryz.underlying52 rfl (HI.out)) ?_
  try simp only [Act.put, l0, l1, l2]
  refine rd1 1 ⟨some 4, .call { callee := .value (.func 41), args := #[.tmp 3], argTypes := #[52] }, _, _, _, none⟩ (by kernel_rfl) rfl fun K' hK' => ?_
  go_simp
  go_at_call 41
  refine (HM.out _ H3.out.bel).mono ?_
  rintro E w4 ⟨rfl, hb4⟩
  have H4 := iq (H3.out.next (Nat.le_refl _) hb4.out)
  refine hK'.out _ _ H4.out.src (fun _ => ?_)
  clear hK' K'
  try simp only [Act.put, l0, l1, l2]
  refine tk 2 ⟨some 5, .move (.tmp 4), _, _, _, none⟩ (.bool true) rfl (by kernel_rfl) (fun _ _ _ => id) (H4.out.src) (fun W hSW => by go_simp) ?_
  try simp only [pu, l0, l1, l2]
  refine tk 3 ⟨some 6, .fieldAddr 52 (.tmp 1) 0, _, _, _, some (2, true)⟩ (.pointer (some ⟨w.heap.size, 0, none⟩)) rfl (by kernel_rfl) (fun _ _ _ => id) (H4.out.src) (fun W hSW => by go_simp) ?_
  try simp only [pu, l0, l1, l2]
  refine tk 4 ⟨some 7, .load 3 (.tmp 6), _, _, _, some (2, true)⟩ (.int .i64 m.origin) rfl (by kernel_rfl) (fun _ _ _ => id) (H4.out.src) (fun W hSW => by have hv := (msg_lies hSW HMW.out).origin; go_simp) ?_
  try simp only [pu, l0, l1, l2]
  refine tk 5 ⟨some 8, .fieldAddr 52 (.tmp 1) 1, _, _, _, some (2, true)⟩ (.pointer (some ⟨w.heap.size, 1, none⟩)) rfl (by kernel_rfl) (fun _ _ _ => id) (H4.out.src) (fun W hSW => by go_simp) ?_
  try simp only [pu, l0, l1, l2]
  refine tk 6 ⟨some 9, .load 25 (.tmp 8), _, _, _, some (2, true)⟩ (.int .u64 (m.number : Int)) rfl (by kernel_rfl) (fun _ _ _ => id) (H4.out.src) (fun W hSW => by have hv := (msg_lies hSW HMW.out).number; go_simp) ?_
  try simp only [pu, l0, l1, l2]
  refine tk 7 ⟨some 10, .load 52 (.tmp 1), _, _, _, some (2, true)⟩ (.agg (msgC m).toArray) rfl (by kernel_rfl) (fun _ _ _ => id) (H4.out.src) (fun W hSW => exec_load_mid 52 (.tmp 1) rfl w.heap.size 0 rfl (msgC m) _ (hSW) Tryz.underlying52 rfl (HI.out)) ?_
  try simp only [pu, l0, l1, l2]
  refine tk 9 ⟨some 12, .fieldAddr 52 (.tmp 1) 4, _, _, _, some (2, true)⟩ (.pointer (some ⟨w.heap.size, 89, none⟩)) rfl (by kernel_rfl) (fun _ _ _ => id) (H4.out.src) (fun W hSW => by go_simp) ?_
  try simp only [pu, l0, l1, l2]
  refine tk 10 ⟨some 13, .load 45 (.tmp 12), _, _, _, some (2, true)⟩ (.agg (u8s m.tag).toArray) rfl (by kernel_rfl) (fun _ _ _ => id) (H4.out.src) (fun W hSW => exec_load_mid 45 (.tmp 12) rfl w.heap.size 89 rfl (u8s m.tag) _ ((msg_lies hSW HMW.out).tag) Tryz.underlying45 rfl (HJ.out)) ?_
  try simp only [pu, l0, l1, l2]
  refine rd1 8 ⟨some 11, .call { callee := .value (.func 69), args := #[.tmp 10], argTypes := #[52] }, _, _, _, some (2, true)⟩ (by kernel_rfl) rfl fun K' hK' => ?_
  go_simp
  go_at_call 69
  refine (HT.out (by simp) _ H4.out.bel).mono ?_
  rintro E w5 ⟨A5, n5, c5, rfl, H5, hb5⟩
  have O5 := iq H5
  clear H5
  have H6 := iq (H4.out.next (Nat.le_refl _) hb5.out)
  refine hK'.out _ _ H6.out.src (fun _ => ?_)
  clear hK' K'
  try simp only [Act.put, l0, l1, l2]
  refine rd1 11 ⟨some 14, .call { callee := .value (.func 68), args := #[.tmp 7, .tmp 9, .tmp 11, .tmp 13], argTypes := #[3, 25, 23, 45] }, _, _, _, some (2, true)⟩ (by kernel_rfl) rfl fun K' hK' => ?_
  go_simp
  go_at_call 68
  refine (HC.out w5 A5 n5 c5 H6.out.bel (O5.out.low (B' := 0) (Nat.zero_le _))).mono ?_
  rintro E w7 ⟨rfl, hb7⟩
  have H7 := iq (H6.out.next (Nat.le_refl _) hb7.out)
  refine hK'.out _ _ H7.out.src (fun _ => ?_)
  clear hK' K'
  try simp only [Act.put, l0, l1, l2]
  refine tk 12 ⟨some 15, .pick (.tmp 5) (.tmp 14) (.const (.bool false)), _, _, _, none⟩ (.bool q) rfl (by kernel_rfl) (fun _ _ _ => id) (H7.out.src) (fun W hSW => by go_simp) ?_
  try simp only [pu, l0, l1, l2]
  refine tk 13 ⟨some 2, .assign (.tmp 15), _, _, _, none⟩ (.bool q) rfl (by kernel_rfl) (fun _ _ _ => id) (H7.out.src) (fun W hSW => by go_simp) ?_
  try simp only [pu, l0, l1, l2]
  refine wpAnyH_done (by kernel_rfl) ?_ _
  go_wp2_with fail
  go_ret
  exact ⟨rfl, iq H7.out.bel⟩
theorem right_no (m : MMsg) (w : World) (hm : m.Wf)
  (HM : Hid (∀ W, Below w.heap.size w W -> Calls Tryz.prog 41 #[.agg (msgC m).toArray] W fun E w' => E = .returned (.bool false) /\ Hid (Below W.heap.size W w'))) :
  Calls Tryz.prog 43 #[.agg (msgC m).toArray] w fun E w' => E = .returned (.bool false) /\ Hid (Below w.heap.size w w') := by
 have HI : Hid ((Tryz.prog.info? 52).map (·.size) = some (msgC m).length) := iq (by rw [msgC_length hm]; exact Tryz.is52)
 have HL : Hid (RqAt w.heap.size w (msgC m) (w.alloc (.cells (msgC m).toArray 52))) := iq ⟨bl.alloc (Nat.le_refl _) _, by simp, range_box w (msgC m) 52⟩
 clear hm
 go_enter Tryz.func43, Tryz.ntmps43
 go_wp2_with fail
 refine wp_region_any (by kernel_rfl) ?_
 have H3 := iq (HL.out.drewN 1)
 change wpAny _ _ _ _ _ _ _ ((w.alloc (.cells (msgC m).toArray 52)).drewN 1)
 generalize (w.alloc (.cells (msgC m).toArray 52)).drewN 1 = w3 at H3 ⊢
 clear HL
 refine wpAny_of_held (S := fun W => W.rangeAt w.heap.size 0 (msgC m)) _ _ _ _ ?_
 refine tk 0 ⟨some 3, .load 52 (.tmp 1), _, _, _, none⟩ (.agg (msgC m).toArray) rfl (by kernel_rfl) (fun _ _ _ => id) (H3.out.src) (fun W hSW => exec_load_mid 52 (.tmp 1) rfl w.heap.size 0 rfl (msgC m) _ (hSW) Tryz.underlying52 rfl (HI.out)) ?_
 try simp only [Act.put, l0, l1, l2]
 refine rd1 1 ⟨some 4, .call { callee := .value (.func 41), args := #[.tmp 3], argTypes := #[52] }, _, _, _, none⟩ (by kernel_rfl) rfl fun K' hK' => ?_
 go_simp
 go_at_call 41
 refine (HM.out _ H3.out.bel).mono ?_
 rintro E w4 ⟨rfl, hb4⟩
 have H4 := iq (H3.out.next (Nat.le_refl _) hb4.out)
 refine hK'.out _ _ H4.out.src (fun _ => ?_)
 clear hK' K'
 try simp only [Act.put, l0, l1, l2]
 refine tk 2 ⟨some 5, .move (.tmp 4), _, _, _, none⟩ (.bool false) rfl (by kernel_rfl) (fun _ _ _ => id) (H4.out.src) (fun W hSW => by go_simp) ?_
 try simp only [pu, l0, l1, l2]
 refine sk 3 ⟨some 6, .fieldAddr 52 (.tmp 1) 0, _, _, _, some (2, true)⟩ rfl (by kernel_rfl) (fun _ _ _ => id) (H4.out.src) ?_
 try simp only [pu, l0, l1, l2]
 refine sk 4 ⟨some 7, .load 3 (.tmp 6), _, _, _, some (2, true)⟩ rfl (by kernel_rfl) (fun _ _ _ => id) (H4.out.src) ?_
 try simp only [pu, l0, l1, l2]
 refine sk 5 ⟨some 8, .fieldAddr 52 (.tmp 1) 1, _, _, _, some (2, true)⟩ rfl (by kernel_rfl) (fun _ _ _ => id) (H4.out.src) ?_
 try simp only [pu, l0, l1, l2]
 refine sk 6 ⟨some 9, .load 25 (.tmp 8), _, _, _, some (2, true)⟩ rfl (by kernel_rfl) (fun _ _ _ => id) (H4.out.src) ?_
 try simp only [pu, l0, l1, l2]
 refine sk 7 ⟨some 10, .load 52 (.tmp 1), _, _, _, some (2, true)⟩ rfl (by kernel_rfl) (fun _ _ _ => id) (H4.out.src) ?_
 try simp only [pu, l0, l1, l2]
 refine sk 8 ⟨some 11, .call { callee := .value (.func 69), args := #[.tmp 10], argTypes := #[52] }, _, _, _, some (2, true)⟩ rfl (by kernel_rfl) (fun _ _ _ => id) (H4.out.src) ?_
 try simp only [pu, l0, l1, l2]
 refine sk 9 ⟨some 12, .fieldAddr 52 (.tmp 1) 4, _, _, _, some (2, true)⟩ rfl (by kernel_rfl) (fun _ _ _ => id) (H4.out.src) ?_
 try simp only [pu, l0, l1, l2]
 refine sk 10 ⟨some 13, .load 45 (.tmp 12), _, _, _, some (2, true)⟩ rfl (by kernel_rfl) (fun _ _ _ => id) (H4.out.src) ?_
 try simp only [pu, l0, l1, l2]
 refine sk 11 ⟨some 14, .call { callee := .value (.func 68), args := #[.tmp 7, .tmp 9, .tmp 11, .tmp 13], argTypes := #[3, 25, 23, 45] }, _, _, _, some (2, true)⟩ rfl (by kernel_rfl) (fun _ _ _ => id) (H4.out.src) ?_
 try simp only [pu, l0, l1, l2]
 refine tk 12 ⟨some 15, .pick (.tmp 5) (.tmp 14) (.const (.bool false)), _, _, _, none⟩ (.bool false) rfl (by kernel_rfl) (fun _ _ _ => id) (H4.out.src) (fun W hSW => by go_simp) ?_
 try simp only [pu, l0, l1, l2]
 refine tk 13 ⟨some 2, .assign (.tmp 15), _, _, _, none⟩ (.bool false) rfl (by kernel_rfl) (fun _ _ _ => id) (H4.out.src) (fun W hSW => by go_simp) ?_
 try simp only [pu, l0, l1, l2]
 refine wpAnyH_done (by kernel_rfl) ?_ _
 go_wp2_with fail
 go_ret
 exact ⟨rfl, iq H4.out.bel⟩
def MMsg.right (m : MMsg) : Prop := m.may /\ m.tag = numTag m.origin m.number (msgB m)
open Classical in
theorem right_ms (m : MMsg) (w : World) (hm : m.Wf) (hq : Prs w m.body.qa m.body.qs) (hn : m.body.qs.length <= 140737488355328) (hk : KIs w) (h0 : 0 < w.heap.size) :
  Calls Tryz.prog 43 #[.agg (msgC m).toArray] w fun E w' => E = .returned (.bool (decide m.right)) /\ Hid (Below w.heap.size w w') := by
 by_cases hmay : m.may
 ·have hc : ∀ (W : World) (A : Option Addr) (n c : Nat), Below w.heap.size w W -> Ow 0 W A n c (msgB m) -> Calls Tryz.prog 68 #[.int .i64 m.origin, .int .u64 (m.number : Int), .slice A n c, .agg (u8s m.tag).toArray] W fun E w' => E = .returned (.bool (decide (m.tag = numTag m.origin m.number (msgB m)))) /\ Hid (Below W.heap.size W w') := by
   intro W A n c hb ho
   have hl := ho.len
   subst hl
   have hlen := msgB_len hm hmay
   have hr : Oct.Rd W A (msgB m).length (msgB m) := ⟨ho.rd.1, fun hn => let ⟨b, o, e, hb, _, hc⟩ := ho.rd.2 hn; ⟨b, o, e, hb, hc⟩⟩
   refine (check_us m.origin m.number hr ho.2 (by omega) hm.2.2 (hk.below hb h0) (Nat.lt_of_lt_of_le h0 hb.size)).mono fun E w' hE => ⟨hE.1.trans (ret_bool ?_), hE.2⟩
   have h1 : isRep m.origin = true := hmay.1
   have h2 : mayN m.number (msgB m).length = true := by
    have := hmay.2.1.1
    simp only [isNum, decide_eq_true_eq] at this
    simp only [mayN, decide_eq_true_eq]
    omega
   rw [chk, h1, h2, Bool.true_and, Bool.true_and]
  refine (right_by m w hm (decide m.may) _ (iq fun W h => may_ms m W hm (hq.below h) hn) (iq fun hz W h => tagged_ms m W hm (hq.below h) (of_decide_eq_true hz)) (iq hc)).mono fun E w' hE => ⟨hE.1.trans (ret_bool ?_), hE.2⟩
  rw [Bool.eq_iff_iff, decide_eq_true_iff]
  simp only [MMsg.right, Bool.and_eq_true, decide_eq_true_eq]
 ·have hne : ¬ m.right := fun h => hmay h.1
  have hx : ∀ (W : World), Below w.heap.size w W -> Calls Tryz.prog 41 #[.agg (msgC m).toArray] W fun E w' => E = .returned (.bool false) /\ Hid (Below W.heap.size W w') := fun W h => (may_ms m W hm (hq.below h) hn).mono fun E w' hE => ⟨hE.1.trans (ret_bool (decide_eq_false hmay)), hE.2⟩
  refine (right_no m w hm (iq hx)).mono fun E w' hE => ⟨hE.1.trans (ret_bool (decide_eq_false hne).symm), hE.2⟩
end Go.Proofs.YtllbbcifcbkgeaaGreatDoor.Sh
