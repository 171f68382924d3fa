/- Laws and walks. -/
import Derived.Test.YtknpcmadghkaaaaGreatDoorS8w
import Derived.Test.YtknpcmadghkaaaaGreatDoorS9w
import Derived.BigQuiet
import Derived.ChangeKeysEq
set_option maxHeartbeats 16000000
set_option maxRecDepth 100000
namespace Go.Proofs.YtknpcmadghkaaaaGreatDoor.Sh
open Go.RowKit
structure MOp where
 kind : UInt8
 key : ByteArray
 value : ByteArray
 old : ByteArray
 to : ByteArray
 amount : Nat
structure MReq where
 client : Int
 time : Nat
 op : MOp
 tag : List UInt8
structure MBody where
 kind : UInt8
 view : Nat
 k : Nat
 req : MReq
 qa : Option Addr
 qc : Nat
 qs : List (Int × Nat)
 dig : List UInt8
structure MMsg where
 origin : Int
 number : Nat
 deps : List Nat
 body : MBody
 tag : List UInt8
def u64s (l : List Nat) : List Value := l.map fun (n : Nat) => Value.int .u64 (n : Int)
theorem u64s_length (l : List Nat) : (u64s l).length = l.length := by simp [u64s]
def opC (o : MOp) : List Value := [.int .u8 (o.kind.toNat : Int), .string o.key, .string o.value, .string o.old, .string o.to, .int .u64 (o.amount : Int)]
def reqC (r : MReq) : List Value := .int .i64 r.client :: .int .u64 (r.time : Int) :: (opC r.op ++ u8s r.tag)
def MBody.qv (b : MBody) : Value := .slice b.qa b.qs.length b.qc
def bodyC (b : MBody) : List Value := .int .u8 (b.kind.toNat : Int) :: .int .u64 (b.view : Int) :: .int .u64 (b.k : Int) :: (reqC b.req ++ (b.qv :: u8s b.dig))
def msgC (m : MMsg) : List Value := .int .i64 m.origin :: .int .u64 (m.number : Int) :: (u64s m.deps ++ (bodyC m.body ++ u8s m.tag))
def MBody.Wf (b : MBody) : Prop := b.req.tag.length = 32 /\ b.dig.length = 32
def MMsg.Wf (m : MMsg) : Prop := m.deps.length = 11 /\ m.body.Wf /\ m.tag.length = 32
theorem opC_length (o : MOp) : (opC o).length = 6 := rfl
theorem reqC_length {r : MReq} (h : r.tag.length = 32) : (reqC r).length = 40 := by simp [reqC, opC_length, u8s_length, h]
theorem bodyC_length {b : MBody} (h : b.Wf) : (bodyC b).length = 76 := by simp [bodyC, reqC_length h.1, u8s_length, h.2]
theorem msgC_length {m : MMsg} (h : m.Wf) : (msgC m).length = 121 := by simp [msgC, bodyC_length h.2.1, u8s_length, u64s_length, h.1, h.2.2]
theorem range_app {w : World} {g o : Nat} {a b : List Value} (h : w.rangeAt g o (a ++ b)) : w.rangeAt g o a /\ w.rangeAt g (o + a.length) b :=
 ⟨fun j v hv => h j v (by rw [List.getElem?_append_left (List.getElem?_eq_some_iff.1 hv).1]; exact hv),
   fun j v hv => by
  have := h (a.length + j) v (by rw [List.getElem?_append_right (by omega)]; simpa using hv)
  rwa [<- Nat.add_assoc] at this⟩
theorem range_cons {w : World} {g o : Nat} {a : Value} {b : List Value} (h : w.rangeAt g o (a :: b)) : w.cell? ⟨g, o, none⟩ = some a /\ w.rangeAt g (o + 1) b :=
 ⟨h 0 a rfl, fun j v hv => by
  have := h (j + 1) v (by simpa using hv)
  rwa [show o + (j + 1) = o + 1 + j by omega] at this⟩
theorem wpList_load_midG {P : Program} {ops : Array Oper} {rest : List Oper} {op : Oper} {a : Act} {w : World} {Q : Exit -> Act -> World -> Prop} (hw : Region.wanted op (yielded ops a.tmps) = true) (ty : TypeId) (x : Operand) (ho : op.op = .load ty x)
  (b o : Nat) (hx : a.eval x = .pointer (some ⟨b, o, none⟩)) (cs : List Value) (d : TypeDesc) (hc : w.rangeAt b o cs)
  (hu : P.underlying ty = some d) (hd : d.isRow = true) (hi : (P.info? ty).map (·.size) = some cs.length)
  (h : wpList P ops Q rest (a.put op.dst (.agg cs.toArray)) w) : wpList P ops Q (op :: rest) a w :=
 wpList_step fun K hK => by
  rw [if_pos hw]
  exact wp_load_mid ty x ho b o hx cs d hc hu hd hi (hK _ _ h)
structure OpLies (w : World) (g o : Nat) (p : MOp) : Prop where
 kind : w.cell? ⟨g, o, none⟩ = some (.int .u8 (p.kind.toNat : Int))
 key : w.cell? ⟨g, o + 1, none⟩ = some (.string p.key)
 value : w.cell? ⟨g, o + 2, none⟩ = some (.string p.value)
 old : w.cell? ⟨g, o + 3, none⟩ = some (.string p.old)
 to : w.cell? ⟨g, o + 4, none⟩ = some (.string p.to)
 amount : w.cell? ⟨g, o + 5, none⟩ = some (.int .u64 (p.amount : Int))
 all : w.rangeAt g o (opC p)
theorem op_lies {w : World} {g o : Nat} {p : MOp} (h : w.rangeAt g o (opC p)) : OpLies w g o p :=
 ⟨h 0 _ rfl, h 1 _ rfl, h 2 _ rfl, h 3 _ rfl, h 4 _ rfl, h 5 _ rfl, h⟩
structure ReqLies (w : World) (g o : Nat) (r : MReq) : Prop where
 client : w.cell? ⟨g, o, none⟩ = some (.int .i64 r.client)
 time : w.cell? ⟨g, o + 1, none⟩ = some (.int .u64 (r.time : Int))
 op : OpLies w g (o + 2) r.op
 tag : w.rangeAt g (o + 8) (u8s r.tag)
 all : w.rangeAt g o (reqC r)
theorem req_lies {w : World} {g o : Nat} {r : MReq} (h : w.rangeAt g o (reqC r)) : ReqLies w g o r := by
 have h1 := range_cons h
 have h2 := range_cons h1.2
 have h3 := range_app h2.2
 exact ⟨h1.1, h2.1, op_lies h3.1, h3.2, h⟩
structure BodyLies (w : World) (g o : Nat) (b : MBody) : Prop where
 kind : w.cell? ⟨g, o, none⟩ = some (.int .u8 (b.kind.toNat : Int))
 view : w.cell? ⟨g, o + 1, none⟩ = some (.int .u64 (b.view : Int))
 k : w.cell? ⟨g, o + 2, none⟩ = some (.int .u64 (b.k : Int))
 req : ReqLies w g (o + 3) b.req
 q : w.cell? ⟨g, o + 43, none⟩ = some b.qv
 dig : w.rangeAt g (o + 44) (u8s b.dig)
 all : w.rangeAt g o (bodyC b)
theorem body_lies {w : World} {g o : Nat} {b : MBody} (h : w.rangeAt g o (bodyC b)) (hw : b.Wf) : BodyLies w g o b := by
 have h1 := range_cons h
 have h2 := range_cons h1.2
 have h3 := range_cons h2.2
 have h4 := range_app h3.2
 have h5 := range_cons h4.2
 rw [reqC_length hw.1] at h5
 exact ⟨h1.1, h2.1, h3.1, req_lies h4.1, h5.1, h5.2, h⟩
structure MsgLies (w : World) (g : Nat) (m : MMsg) : Prop where
 origin : w.cell? ⟨g, 0, none⟩ = some (.int .i64 m.origin)
 number : w.cell? ⟨g, 1, none⟩ = some (.int .u64 (m.number : Int))
 deps : w.rangeAt g 2 (u64s m.deps)
 body : BodyLies w g 13 m.body
 tag : w.rangeAt g 89 (u8s m.tag)
 all : w.rangeAt g 0 (msgC m)
theorem msg_lies {w : World} {g : Nat} {m : MMsg} (h : w.rangeAt g 0 (msgC m)) (hw : m.Wf) : MsgLies w g m := by
 have h1 := range_cons h
 have h2 := range_cons h1.2
 have h3 := range_app h2.2
 rw [u64s_length, hw.1] at h3
 have h4 := range_app h3.2
 rw [bodyC_length hw.2.1] at h4
 exact ⟨h1.1, h2.1, h3.1, body_lies h4.1 hw.2.1, h4.2, h⟩
theorem range_box (w : World) (C : List Value) (t : TypeId) : (w.alloc (.cells C.toArray t)).rangeAt w.heap.size 0 C := by
 intro j v hv
 rw [Nat.zero_add]
 exact cell_of_row _ _ j C.toArray t (0, 0) (heap_alloc_new w _) |>.trans (by simpa using hv)
theorem Tryz.is29 : (Tryz.prog.info? 29).map (·.size) = some 6 := by kernel_rfl
theorem Tryz.is32 : (Tryz.prog.info? 32).map (·.size) = some 40 := by kernel_rfl
theorem Tryz.is35 : (Tryz.prog.info? 35).map (·.size) = some 76 := by kernel_rfl
theorem Tryz.is39 : (Tryz.prog.info? 39).map (·.size) = some 121 := by kernel_rfl
def isRepl (i : Int) : Bool := decide (1 <= i /\ i <= 11)
def isNum (n : Nat) : Bool := decide (1 <= n /\ n <= 65536)
def isCnt (n : Nat) : Bool := decide (1 <= n /\ n <= 4611686018427387904)
theorem isReplica_ms (i : Int) (w : World) : Calls Tryz.prog 59 #[.int .i64 i] w fun E w' => E = .returned (.bool (isRepl i)) /\ w = w' := by
 by_cases h1 : 1 <= i
 ·have e : isRepl i = decide (i <= 11) := by simp [isRepl, h1]
  rw [e]
  clear e
  go_enter Tryz.func59, Tryz.ntmps59
  go_wp2
  go_ret
  exact ⟨rfl, rfl⟩
 ·have e : isRepl i = false := by simp [isRepl, h1]
  rw [e]
  clear e
  go_enter Tryz.func59, Tryz.ntmps59
  go_wp2
  go_ret
  exact ⟨rfl, rfl⟩
theorem isNumber_ms (n : Nat) (w : World) : Calls Tryz.prog 91 #[.int .u64 (n : Int)] w fun E w' => E = .returned (.bool (isNum n)) /\ w = w' := by
 by_cases h1 : 1 <= n
 ·have e : isNum n = decide ((n : Int) <= 65536) := by rw [isNum]; congr 1; rw [eq_iff_iff]; omega
  rw [e]
  clear e
  go_enter Tryz.func91, Tryz.ntmps91
  go_wp2
  go_ret
  exact ⟨rfl, rfl⟩
 ·have e : isNum n = false := by simp [isNum, h1]
  rw [e]
  clear e
  go_enter Tryz.func91, Tryz.ntmps91
  go_wp2
  go_ret
  exact ⟨rfl, rfl⟩
theorem isCount_ms (n : Nat) (w : World) : Calls Tryz.prog 122 #[.int .u64 (n : Int)] w fun E w' => E = .returned (.bool (isCnt n)) /\ w = w' := by
 by_cases h1 : 1 <= n
 ·have e : isCnt n = decide ((n : Int) <= 4611686018427387904) := by rw [isCnt]; congr 1; rw [eq_iff_iff]; omega
  rw [e]
  clear e
  go_enter Tryz.func122, Tryz.ntmps122
  go_wp2
  go_ret
  exact ⟨rfl, rfl⟩
 ·have e : isCnt n = false := by simp [isCnt, h1]
  rw [e]
  clear e
  go_enter Tryz.func122, Tryz.ntmps122
  go_wp2
  go_ret
  exact ⟨rfl, rfl⟩
def opMay (o : MOp) : Bool := decide (o.key.size <= 32) && decide (o.to.size <= 32) && (decide (o.value.size <= 128) && decide (o.old.size <= 128))
theorem ret_bool {x y : Bool} (h : x = y) : Ending.returned (.bool x) = Ending.returned (.bool y) := by rw [h]
theorem mayOp_ms (o : MOp) (w : World) : Calls Tryz.prog 149 #[.agg (opC o).toArray] w fun E w' => E = .returned (.bool (opMay o)) /\ Below w.heap.size w w' := by
 have L := op_lies (range_box w (opC o) 29)
 have HB : Hid (Below w.heap.size w (w.alloc (.cells (opC o).toArray 29))) := iq (bl.alloc (Nat.le_refl _) _)
 have c1 : (w.alloc (.cells (opC o).toArray 29)).cell? ⟨w.heap.size, 1, none⟩ = some (.string o.key) := L.key
 have c2 : (w.alloc (.cells (opC o).toArray 29)).cell? ⟨w.heap.size, 2, none⟩ = some (.string o.value) := L.value
 have c3 : (w.alloc (.cells (opC o).toArray 29)).cell? ⟨w.heap.size, 3, none⟩ = some (.string o.old) := L.old
 have c4 : (w.alloc (.cells (opC o).toArray 29)).cell? ⟨w.heap.size, 4, none⟩ = some (.string o.to) := L.to
 clear L
 go_enter Tryz.func149, Tryz.ntmps149
 go_wp2_with fail
 all_goals
  go_ret
  refine ⟨ret_bool ?_, HB.out⟩
  rw [opMay, Bool.eq_iff_iff]
  simp only [Bool.and_eq_true, decide_eq_true_eq, Bool.false_eq_true, false_iff, not_and]
  omega
def reqMay (r : MReq) : Bool := decide (1 <= r.client /\ r.client <= 8) && (isCnt r.time && opMay r.op)
theorem asked_ms (r : MReq) (w : World) : Calls Tryz.prog 121 #[.agg (reqC r).toArray] w fun E w' => E = .returned (.bool (reqMay r)) /\ Below w.heap.size w w' := by
 have L := req_lies (range_box w (reqC r) 32)
 have HB : Hid (Below w.heap.size w (w.alloc (.cells (reqC r).toArray 32))) := iq (bl.alloc (Nat.le_refl _) _)
 have c0 : (w.alloc (.cells (reqC r).toArray 32)).cell? ⟨w.heap.size, 0, none⟩ = some (.int .i64 r.client) := L.client
 have c1 : (w.alloc (.cells (reqC r).toArray 32)).cell? ⟨w.heap.size, 1, none⟩ = some (.int .u64 (r.time : Int)) := L.time
 have HO : Hid ((w.alloc (.cells (reqC r).toArray 32)).rangeAt w.heap.size 2 (opC r.op)) := iq L.op.all
 have HC := iq (fun W => isCount_ms r.time W)
 have HM := iq (fun W => mayOp_ms r.op W)
 clear L
 unfold reqMay
 by_cases h1 : 1 <= r.client
 ·by_cases h2 : r.client <= 8
  ·rw [decide_eq_true (show 1 <= r.client /\ r.client <= 8 from ⟨h1, h2⟩), Bool.true_and]
   generalize isCnt r.time = q at HC ⊢
   generalize opMay r.op = z at HM ⊢
   cases q
   ·go_enter Tryz.func121, Tryz.ntmps121
    go_wp2_with (go_at_call 122; refine (HC.out _).mono ?_; rintro E w1 ⟨rfl, rfl⟩)
    go_ret
    exact ⟨rfl, HB.out⟩
   ·go_enter Tryz.func121, Tryz.ntmps121
    go_wp2_with (first | ((with_reducible refine wpList_load_midG ?_ 29 (.tmp 17) ?_ w.heap.size 2 ?_ (opC r.op) _ ?_ Tryz.underlying29 ?_ ?_ ?_); rfl; rfl; rfl; exact HO.out; rfl; exact Tryz.is29) | (go_at_call 122; refine (HC.out _).mono ?_; rintro E w1 ⟨rfl, rfl⟩) | (go_at_call 149; refine (HM.out _).mono ?_; rintro E w1 ⟨rfl, hb1⟩))
    go_ret
    exact ⟨rfl, HB.out.trans (hb1.mono (by simp))⟩
  ·rw [decide_eq_false (show ¬ (1 <= r.client /\ r.client <= 8) by omega), Bool.false_and]
   go_enter Tryz.func121, Tryz.ntmps121
   go_wp2_with fail
   go_ret
   exact ⟨rfl, HB.out⟩
 ·rw [decide_eq_false (show ¬ (1 <= r.client /\ r.client <= 8) by omega), Bool.false_and]
  go_enter Tryz.func121, Tryz.ntmps121
  go_wp2_with fail
  go_ret
  exact ⟨rfl, HB.out⟩
open Go.RowKit
def maxTo (l : List Nat) (j : Nat) : Nat := (l.take j).foldl max 0
theorem maxTo_succ {l : List Nat} {j x : Nat} (h : l[j]? = some x) : maxTo l (j + 1) = max (maxTo l j) x := by
 unfold maxTo
 rw [List.take_succ_eq_append_getElem (List.getElem?_eq_some_iff.1 h).1, List.foldl_append]
 simp [(List.getElem?_eq_some_iff.1 h).2]
theorem maxTo_le (l : List Nat) (n : Nat) : ∀ j, maxTo l j <= n ↔ ∀ x ∈ l.take j, x <= n := by
 intro j
 unfold maxTo
 have : ∀ (l : List Nat) (a : Nat), l.foldl max a <= n ↔ a <= n /\ ∀ x ∈ l, x <= n := by
  intro l
  induction l with
  | nil => intro a; simp
  | cons b t ih =>
   intro a
   rw [List.foldl_cons, ih]
   simp only [List.mem_cons, forall_eq_or_imp, Nat.max_le, and_assoc]
 rw [this]
 simp
theorem max_ms (l : List Nat) (b o : Nat) (w : World) (hl : l.length = 11) (hc : w.rangeAt b o (u64s l)) :
  Calls Tryz.prog 92 #[.slice (some ⟨b, o, none⟩) 11 11] w fun E w' => E = .returned (.int .u64 (maxTo l 11 : Int)) /\ w = w' := by
 have HC := iq (fun (j x : Nat) (h : l[j]? = some x) => hc j (.int .u64 (x : Int)) (by simp [u64s, h]))
 have HL := iq hl
 obtain ⟨x0, h0⟩ : ∃ x, l[0]? = some x := ⟨_, List.getElem?_eq_getElem (by omega)⟩
 have c0 : w.cell? ⟨b, o, none⟩ = some (.int .u64 (x0 : Int)) := HC.out 0 x0 h0
 have H1 : Hid (maxTo l 1 = x0) := iq (by rw [maxTo_succ h0]; simp [maxTo])
 clear hl hc h0
 go_enter Tryz.func92, Tryz.ntmps92
 go_wp2_with fail
 go_loop [3, 4] (fun v3 v4 => ∃ j : Nat, 1 <= j /\ j <= 11 /\ v4 = .int .i64 (j : Int) /\ ∃ m : Nat, v3 = .int .u64 (m : Int) /\ Hid (maxTo l j = m)) (fun _ v4 => 11 - (intOf v4).toNat)
 case atStart => exact ⟨1, by omega, by omega, rfl, x0, rfl, H1⟩
 case round =>
  obtain ⟨j, h1j, hj, rfl, m, rfl, HM⟩ := hrel
  by_cases hjj : j < 11
  ·obtain ⟨x, hx⟩ : ∃ x, l[j]? = some x := ⟨_, List.getElem?_eq_getElem (by rw [HL.out]; omega)⟩
   have hcx : w.cell? ⟨b, o + j, none⟩ = some (.int .u64 (x : Int)) := HC.out j x hx
   have HS : Hid (maxTo l (j + 1) = max m x) := iq (by rw [maxTo_succ hx, HM.out])
   clear hx
   go_wp2_with fail
   all_goals
    go_round
    case measure => simp [intOf] <;> omega
    case rel => exact ⟨j + 1, by omega, by omega, by go_num, max m x, congrArg (Value.int .u64) (by split <;> omega), HS⟩
  ·obtain rfl : j = 11 := by omega
   go_wp2_with fail
   go_ret
   exact ⟨by rw [HM.out]; rfl, rfl⟩
def prC (p : Int × Nat) : List Value := [.int .i64 p.1, .int .u64 (p.2 : Int)]
def Prs (w : World) (A : Option Addr) (qs : List (Int × Nat)) : Prop :=
 0 < qs.length -> ∃ b o, A = some ⟨b, o, none⟩ /\ b < w.heap.size /\ ∀ (j : Nat) (p : Int × Nat), qs[j]? = some p -> w.cell? ⟨b, o + j * 2, none⟩ = some (.int .i64 p.1) /\ w.cell? ⟨b, o + j * 2 + 1, none⟩ = some (.int .u64 (p.2 : Int))
theorem Prs.below {w w' : World} {A : Option Addr} {qs : List (Int × Nat)} (h : Prs w A qs) (hb : Below w.heap.size w w') : Prs w' A qs := fun hn =>
 let ⟨b, o, e, hl, hc⟩ := h hn
 ⟨b, o, e, Nat.lt_of_lt_of_le hl hb.size, fun j p hp => ⟨(hb.cell (p := ⟨b, _, none⟩) hl).trans (hc j p hp).1, (hb.cell (p := ⟨b, _, none⟩) hl).trans (hc j p hp).2⟩⟩
def prsGo : Int -> List (Int × Nat) -> Bool
 | _, [] => true
 | last, p :: r => decide (last < p.1) && (isRepl p.1 && (isNum p.2 && prsGo p.1 r))
def prsMay (qs : List (Int × Nat)) : Bool := prsGo 0 qs && decide (0 < qs.length)
theorem mayPairs_ms (A : Option Addr) (c : Nat) (qs : List (Int × Nat)) (w : World) (hq : Prs w A qs) (hn : qs.length <= 140737488355328) :
  Calls Tryz.prog 123 #[.slice A qs.length c] w fun E w' => E = .returned (.bool (prsMay qs)) /\ Below w.heap.size w w' := by
 have HQ := iq hq
 have HI := iq (fun i W => isReplica_ms i W)
 have HN := iq (fun n W => isNumber_ms n W)
 obtain ⟨n, hnn⟩ : ∃ n, n = qs.length := ⟨_, rfl⟩
 have HL := iq hnn
 rw [<- hnn] at hn ⊢
 clear hq hnn
 have HB0 := iq (Below.refl w.heap.size w)
 go_enter Tryz.func123, Tryz.ntmps123
 go_wp2_with fail
 go_loopw [3, 8] (fun v3 v8 wr => ∃ j : Nat, j <= n /\ v8 = .int .i64 (j : Int) /\ ∃ last : Int, v3 = .int .i64 last /\ Hid (Below w.heap.size w wr /\ prsGo 0 qs = prsGo last (qs.drop j))) (fun _ v8 _ => n - (intOf v8).toNat)
 case atStart => exact ⟨0, by omega, rfl, 0, rfl, iq ⟨HB0.out, rfl⟩⟩
 case round =>
  obtain ⟨j, hj, rfl, last, rfl, HR⟩ := hrel
  by_cases hjj : j < n
  ·obtain ⟨b, o, rfl, hbl, hc⟩ := HQ.out (by rw [<- HL.out]; omega)
   obtain ⟨p, hp⟩ : ∃ p, qs[j]? = some p := ⟨_, List.getElem?_eq_getElem (by rw [<- HL.out]; omega)⟩
   have c0 : wr.cell? ⟨b, o + j * 2, none⟩ = some (.int .i64 p.1) := (HR.out.1.cell (p := ⟨b, o + j * 2, none⟩) hbl).trans (hc j p hp).1
   have c1 : wr.cell? ⟨b, o + j * 2 + 1, none⟩ = some (.int .u64 (p.2 : Int)) := (HR.out.1.cell (p := ⟨b, o + j * 2 + 1, none⟩) hbl).trans (hc j p hp).2
   have HG : Hid (prsGo 0 qs = (decide (last < p.1) && (isRepl p.1 && (isNum p.2 && prsGo p.1 (qs.drop (j + 1)))))) := iq (by rw [HR.out.2, List.drop_eq_getElem_cons (by rw [<- HL.out]; omega), prsGo]; simp [(List.getElem?_eq_some_iff.1 hp).2])
   have HP : Hid (prsMay qs = (prsGo 0 qs && decide (0 < qs.length))) := iq rfl
   obtain ⟨x, y⟩ := p
   clear hc hp
   dsimp only at c0 c1 HG
   have HI' := iq (fun W => HI.out x W)
   have HN' := iq (fun W => HN.out y W)
   by_cases hlt : last < x
   ·have e1 : decide (last < x) = true := decide_eq_true hlt
    rw [e1, Bool.true_and] at HG
    clear e1
    cases hq1 : isRepl x with
    | false =>
     rw [hq1] at HI' HG
     rw [Bool.false_and] at HG
     go_wp2_with (first | (go_at_call 59; refine (HI'.out _).mono ?_; rintro E w1 ⟨rfl, rfl⟩) | (go_at_call 91; refine (HN'.out _).mono ?_; rintro E w1 ⟨rfl, rfl⟩))
     go_ret
     exact ⟨ret_bool (by rw [HP.out, HG.out, Bool.false_and]), HR.out.1.alloc HR.out.1.size _⟩
    | true =>
     rw [hq1] at HI' HG
     rw [Bool.true_and] at HG
     cases hq2 : isNum y with
     | false =>
      rw [hq2] at HN' HG
      rw [Bool.false_and] at HG
      go_wp2_with (first | (go_at_call 59; refine (HI'.out _).mono ?_; rintro E w1 ⟨rfl, rfl⟩) | (go_at_call 91; refine (HN'.out _).mono ?_; rintro E w1 ⟨rfl, rfl⟩))
      go_ret
      exact ⟨ret_bool (by rw [HP.out, HG.out, Bool.false_and]), HR.out.1.alloc HR.out.1.size _⟩
     | true =>
      rw [hq2] at HN' HG
      rw [Bool.true_and] at HG
      go_wp2_with (first | (go_at_call 59; refine (HI'.out _).mono ?_; rintro E w1 ⟨rfl, rfl⟩) | (go_at_call 91; refine (HN'.out _).mono ?_; rintro E w1 ⟨rfl, rfl⟩))
      go_roundw
      case measure => simp [intOf] <;> omega
      case rel => exact ⟨j + 1, by omega, by go_num, x, rfl, iq ⟨HR.out.1.alloc HR.out.1.size _, HG.out⟩⟩
   ·rw [decide_eq_false hlt, Bool.false_and] at HG
    go_wp2_with fail
    go_ret
    exact ⟨ret_bool (by rw [HP.out, HG.out, Bool.false_and]), HR.out.1.alloc HR.out.1.size _⟩
  ·have HG : Hid (prsGo 0 qs = true) := iq (by rw [HR.out.2, List.drop_eq_nil_of_le (by rw [<- HL.out]; omega), prsGo])
   have HP : Hid (prsMay qs = decide (0 < n)) := iq (by rw [prsMay, HG.out, Bool.true_and, <- HL.out])
   go_wp2_with fail
   go_ret
   rw [HP.out]
   exact ⟨rfl, HR.out.1⟩
open Go.RowKit
theorem isAgg_of {P : Program} {e : TypeId} {td : TypeDesc} (he : P.underlying e = some td) (w : World) : (isAgg e).run P w = .ok td.isRow w := by
 unfold isAgg
 rw [Sem.run_bind, run_underlying he w]
 cases td <;> rfl
theorem run_part_cell {P : Program} {e : TypeId} {td : TypeDesc} (he : P.underlying e = some td) (hd : td.isRow = false) {xs : Array Value} {i : Nat} {v : Value} (hv : xs[i]? = some v) (w : World) : (part e xs i).run P w = .ok v w := by
 have := isAgg_of he w
 rw [hd] at this
 simp [part, this, hv]
theorem run_part_agg {P : Program} {e : TypeId} {td : TypeDesc} (he : P.underlying e = some td) (hd : td.isRow = true) {n : Nat} (hi : (P.info? e).map (·.size) = some n) {xs : Array Value} {off : Nat} {ys : List Value} (hy : xs.extract off (off + n) = ys.toArray) (w : World) :
  (part e xs off).run P w = .ok (.agg ys.toArray) w := by
 have := isAgg_of he w
 rw [hd] at this
 cases hq : P.info? e with
 | none => simp [hq] at hi
 | some i =>
  have hs : i.size = n := by simpa [hq] using hi
  simp [part, this, sizeOf, typeInfo, hq, hs, hy]
theorem eqF_nil {P : Program} {d : Nat} {xs ys : Array Value} {w : World} : (Op.eqFields d xs ys []).run P w = .ok true w := by simp [Op.eqFields]
theorem eqF_cons {P : Program} {d : Nat} {xs ys : Array Value} {f : Field} {fs : List Field} {a b : Value} {r q : Bool} {w : World} (hn : (f.name != "_") = true) (pa : (part f.type xs f.offset).run P w = .ok a w) (pb : (part f.type ys f.offset).run P w = .ok b w)
  (he : (Op.equalIn d f.type a b).run P w = .ok r w) (hq : (Op.eqFields d xs ys fs).run P w = .ok q w) : (Op.eqFields d xs ys (f :: fs)).run P w = .ok (r && q) w := by
 have hn' : f.name ≠ "_" := by simpa using hn
 simp only [Op.eqFields, if_pos hn', Sem.run_bind, pa, pb, he, Result.andThen_ok]
 cases r
 ·simp
 ·simpa using hq
theorem eqItems_nums {P : Program} {d : Nat} {e : TypeId} {kd : IntKind} (he : P.underlying e = some (.int kd)) (k : IntKind) (l m : List Int) (w : World) :
  ∀ is : List Nat, (∀ i ∈ is, i < l.length /\ i < m.length) -> (Op.eqItems (d + 1) e 1 (l.map (Value.int k)).toArray (m.map (Value.int k)).toArray is).run P w = .ok (is.all fun i => l.getD i 0 == m.getD i 0) w
 | [], _ => by simp [Op.eqItems]
 | i :: is, h => by
  obtain ⟨h1, h2⟩ := h i (by simp)
  have hr := eqItems_nums (d := d) he k l m w is fun j hj => h j (by simp [hj])
  have e1 : ((l.map (Value.int k)).toArray)[i]? = some (.int k (l.getD i 0)) := by simp [h1]
  have e2 : ((m.map (Value.int k)).toArray)[i]? = some (.int k (m.getD i 0)) := by simp [h2]
  simp only [Op.eqItems, Nat.mul_one, Sem.run_bind, run_part_int he e1, run_part_int he e2, Result.andThen_ok, run_equalIn_int w d e k kd _ _ he, List.all_cons]
  cases hq : (l.getD i 0 == m.getD i 0)
  ·simp
  ·simp [hr]
theorem eq_nums_of {P : Program} {t e : TypeId} {n d : Nat} {kd : IntKind} (hu : P.underlying t = some (.array n e)) (he : P.underlying e = some (.int kd)) (hs : (P.info? e).isSome = true) (hc : P.cellsOf e = 1) (k : IntKind) (l m : List Int) (hl : l.length = n) (hm : m.length = n)
  {b : Bool} (hb : b = true ↔ l = m) (w : World) : (Op.equalIn (d + 2) t (.agg (l.map (Value.int k)).toArray) (.agg (m.map (Value.int k)).toArray)).run P w = .ok b w := by
 obtain ⟨i, hi⟩ := Option.isSome_iff_exists.1 hs
 rw [run_equalIn_array w (d + 1) _ _ hu hi, hc, eqItems_nums (d := d) he k l m w _ (fun i hi => by rw [hl, hm]; simpa using hi)]
 congr 1
 rw [Bool.eq_iff_iff, hb, List.all_eq_true]
 constructor
 ·intro hall
  apply List.ext_getElem (by rw [hl, hm])
  intro i h1 h2
  have := hall i (by simp; omega)
  simpa [List.getD_eq_getElem?_getD, List.getElem?_eq_getElem h1, List.getElem?_eq_getElem h2] using this
 ·rintro rfl
  simp
theorem u8s_nums (l : List UInt8) : u8s l = (l.map fun b => (b.toNat : Int)).map (Value.int .u8) := by simp [u8s]
theorem Tryz.cells25 : Tryz.prog.cellsOf 25 = 1 := by kernel_rfl
theorem eq_tag_of {d : Nat} (l m : List UInt8) (hl : l.length = 32) (hm : m.length = 32) {b : Bool} (hb : b = true ↔ l = m) (w : World) : (Op.equalIn (d + 2) 30 (.agg (u8s l).toArray) (.agg (u8s m).toArray)).run Tryz.prog w = .ok b w := by
 rw [u8s_nums, u8s_nums]
 refine eq_nums_of Tryz.underlying30 Tryz.underlying5 Tryz.has5 Tryz.cells5 .u8 _ _ (by simpa) (by simpa) (hb.trans ?_) w
 constructor
 ·rintro rfl; rfl
 ·intro h
  exact (List.map_inj_right (fun x y (h : (x.toNat : Int) = (y.toNat : Int)) => UInt8.toNat_inj.1 (by omega))).1 h
theorem fields_of {P : Program} {t : TypeId} {fs : Array Field} (h : P.underlying t = some (.struct fs)) : (P.fieldsOf t).toList = fs.toList := by rw [Program.fieldsOf, h]
theorem struct_of {P : Program} {t : TypeId} {fs : Array Field} (h : P.underlying t = some (.struct fs)) : P.underlying t = some (.struct (P.fieldsOf t)) := by rw [Program.fieldsOf, h]
theorem eq_int_of {d : Nat} {e : TypeId} {k k' : IntKind} {x y : Int} (he : Tryz.prog.underlying e = some (.int k')) (w : World) : (Op.equalIn (d + 1) e (.int k x) (.int k y)).run Tryz.prog w = .ok (x == y) w := run_equalIn_int w d e k k' x y he
theorem eq_str_of {d : Nat} {x y : ByteArray} (w : World) : (Op.equalIn (d + 1) 9 (.string x) (.string y)).run Tryz.prog w = .ok (decide (x = y)) w := by
 rw [run_equalIn_string w d 9 x y Tryz.underlying9]
 congr 1
 rw [Bool.eq_iff_iff]
 simp only [beq_iff_eq, decide_eq_true_eq, ByteArray.toList_eq]
 constructor
 ·intro h
  obtain ⟨⟨x⟩⟩ := x
  obtain ⟨⟨y⟩⟩ := y
  simpa using h
 ·rintro rfl
  rfl
theorem eq_pair_of {d : Nat} (x x' : Int) (y y' : Nat) {b : Bool} (hb : b = true ↔ (x, y) = (x', y')) (w : World) : (Op.equalIn (d + 2) 78 (.agg #[.int .i64 x, .int .u64 (y : Int)]) (.agg #[.int .i64 x', .int .u64 (y' : Int)])).run Tryz.prog w = .ok b w := by
 rw [run_equalIn_struct w (d + 1) 78 _ _ (struct_of Tryz.underlying78) (by kernel_rfl), fields_of Tryz.underlying78]
 refine Eq.trans (eqF_cons rfl (run_part_cell Tryz.underlying3 rfl rfl w) (run_part_cell Tryz.underlying3 rfl rfl w) (eq_int_of Tryz.underlying3 w)
  (eqF_cons rfl (run_part_cell Tryz.underlying25 rfl rfl w) (run_part_cell Tryz.underlying25 rfl rfl w) (eq_int_of Tryz.underlying25 w) eqF_nil)) ?_
 congr 1
 rw [Bool.eq_iff_iff, hb]
 simp only [Bool.and_eq_true, beq_iff_eq, and_true, Prod.mk.injEq]
 omega
theorem op_ext {p q : MOp} : (p.kind = q.kind /\ p.key = q.key /\ p.value = q.value /\ p.old = q.old /\ p.to = q.to /\ p.amount = q.amount) ↔ p = q := by
 obtain ⟨a1, a2, a3, a4, a5, a6⟩ := p
 obtain ⟨b1, b2, b3, b4, b5, b6⟩ := q
 simp
theorem req_ext {p q : MReq} : (p.client = q.client /\ p.time = q.time /\ p.op = q.op /\ p.tag = q.tag) ↔ p = q := by
 obtain ⟨a1, a2, a3, a4⟩ := p
 obtain ⟨b1, b2, b3, b4⟩ := q
 simp
theorem eq_op_of {d : Nat} (p q : MOp) {b : Bool} (hb : b = true ↔ p = q) (w : World) : (Op.equalIn (d + 2) 29 (.agg (opC p).toArray) (.agg (opC q).toArray)).run Tryz.prog w = .ok b w := by
 rw [run_equalIn_struct w (d + 1) 29 _ _ (struct_of Tryz.underlying29) (by kernel_rfl), fields_of Tryz.underlying29]
 refine Eq.trans (eqF_cons rfl (run_part_cell Tryz.underlying5 rfl rfl w) (run_part_cell Tryz.underlying5 rfl rfl w) (eq_int_of Tryz.underlying5 w)
  (eqF_cons rfl (run_part_cell Tryz.underlying9 rfl rfl w) (run_part_cell Tryz.underlying9 rfl rfl w) (eq_str_of w)
  (eqF_cons rfl (run_part_cell Tryz.underlying9 rfl rfl w) (run_part_cell Tryz.underlying9 rfl rfl w) (eq_str_of w)
  (eqF_cons rfl (run_part_cell Tryz.underlying9 rfl rfl w) (run_part_cell Tryz.underlying9 rfl rfl w) (eq_str_of w)
  (eqF_cons rfl (run_part_cell Tryz.underlying9 rfl rfl w) (run_part_cell Tryz.underlying9 rfl rfl w) (eq_str_of w)
  (eqF_cons rfl (run_part_cell Tryz.underlying25 rfl rfl w) (run_part_cell Tryz.underlying25 rfl rfl w) (eq_int_of Tryz.underlying25 w) eqF_nil)))))) ?_
 congr 1
 rw [Bool.eq_iff_iff, hb, <- op_ext]
 simp only [Bool.and_eq_true, beq_iff_eq, decide_eq_true_eq, and_true, Int.ofNat_inj, UInt8.toNat_inj]
open Classical in
theorem eq_req_of {d : Nat} (r s : MReq) (hr : r.tag.length = 32) (hs : s.tag.length = 32) {b : Bool} (hb : b = true ↔ r = s) (w : World) : (Op.equalIn (d + 3) 32 (.agg (reqC r).toArray) (.agg (reqC s).toArray)).run Tryz.prog w = .ok b w := by
 rw [run_equalIn_struct w (d + 2) 32 _ _ (struct_of Tryz.underlying32) (by kernel_rfl), fields_of Tryz.underlying32]
 have ht : ∀ r : MReq, r.tag.length = 32 -> (reqC r).toArray.extract 8 (8 + 32) = (u8s r.tag).toArray := fun r h => by
  rw [List.extract_toArray]
  congr 1
  exact List.take_of_length_le (Nat.le_of_eq ((u8s_length r.tag).trans h))
 have ho : ∀ r : MReq, (reqC r).toArray.extract 2 (2 + 6) = (opC r.op).toArray := fun r => by
  rw [List.extract_toArray]
  rfl
 refine Eq.trans (eqF_cons rfl (run_part_cell Tryz.underlying3 rfl rfl w) (run_part_cell Tryz.underlying3 rfl rfl w) (eq_int_of Tryz.underlying3 w)
  (eqF_cons rfl (run_part_cell Tryz.underlying25 rfl rfl w) (run_part_cell Tryz.underlying25 rfl rfl w) (eq_int_of Tryz.underlying25 w)
  (eqF_cons rfl (run_part_agg Tryz.underlying29 rfl Tryz.is29 (ho r) w) (run_part_agg Tryz.underlying29 rfl Tryz.is29 (ho s) w) (eq_op_of r.op s.op (b := decide (r.op = s.op)) (by simp) w)
  (eqF_cons rfl (run_part_agg Tryz.underlying30 rfl Tryz.size30 (ht r hr) w) (run_part_agg Tryz.underlying30 rfl Tryz.size30 (ht s hs) w) (eq_tag_of r.tag s.tag hr hs (b := decide (r.tag = s.tag)) (by simp) w) eqF_nil)))) ?_
 congr 1
 rw [Bool.eq_iff_iff, hb, <- req_ext]
 simp only [Bool.and_eq_true, beq_iff_eq, decide_eq_true_eq, and_true, Int.ofNat_inj]
open Go.RowKit
theorem Tryz.guard78 : Tryz.prog.eqGuardType Tryz.prog.depth 78 = false := by kernel_rfl
theorem prs_cells {w w' : World} {b o : Nat} {p : Int × Nat} {j : Nat} (h : w.cell? ⟨b, o + j * 2, none⟩ = some (.int .i64 p.1) /\ w.cell? ⟨b, o + j * 2 + 1, none⟩ = some (.int .u64 (p.2 : Int))) (hb : Below w.heap.size w w') (hl : b < w.heap.size) :
  w'.cell? ⟨b, o + j * 2, none⟩ = some (.int .i64 p.1) /\ w'.cell? ⟨b, o + j * 2 + 1, none⟩ = some (.int .u64 (p.2 : Int)) :=
 ⟨(hb.cell (p := ⟨b, _, none⟩) hl).trans h.1, (hb.cell (p := ⟨b, _, none⟩) hl).trans h.2⟩
theorem equal_ms (A A' : Option Addr) (c c' : Nat) (qs ps : List (Int × Nat)) (w : World) (hq : Prs w A qs) (hp : Prs w A' ps) (hn : qs.length <= 140737488355328) (hm : ps.length <= 140737488355328) :
  Calls Tryz.prog 124 #[.slice A qs.length c, .slice A' ps.length c'] w fun E w' => E = .returned (.bool (decide (qs = ps))) /\ Below w.heap.size w w' := by
 have HQ := iq hq
 have HP := iq hp
 obtain ⟨n, hnn⟩ : ∃ n, n = qs.length := ⟨_, rfl⟩
 obtain ⟨m, hmm⟩ : ∃ n, n = ps.length := ⟨_, rfl⟩
 have HL := iq hnn
 have HM := iq hmm
 rw [<- hnn] at hn ⊢
 rw [<- hmm] at hm ⊢
 clear hq hp hnn hmm
 have HB0 := iq (Below.refl w.heap.size w)
 by_cases hnm : n = m
 ·subst hnm
  have hno : ¬ ((n : Int) ≠ (n : Int)) := by omega
  go_enter Tryz.func124, Tryz.ntmps124
  go_wp2_with fail
  go_loopw [13] (fun v13 wr => ∃ j : Nat, j <= n /\ v13 = .int .i64 (j : Int) /\ Hid (Below w.heap.size w wr /\ qs.take j = ps.take j)) (fun v13 _ => n - (intOf v13).toNat)
  case atStart => exact ⟨0, by omega, rfl, iq ⟨HB0.out, rfl⟩⟩
  case round =>
   obtain ⟨j, hj, rfl, HR⟩ := hrel
   by_cases hjj : j < n
   ·obtain ⟨b, o, rfl, hbl, hc⟩ := HQ.out (by rw [<- HL.out]; omega)
    obtain ⟨b', o', rfl, hbl', hc'⟩ := HP.out (by rw [<- HM.out]; omega)
    obtain ⟨p, hp⟩ : ∃ p, qs[j]? = some p := ⟨_, List.getElem?_eq_getElem (by rw [<- HL.out]; omega)⟩
    obtain ⟨q, hq⟩ : ∃ p, ps[j]? = some p := ⟨_, List.getElem?_eq_getElem (by rw [<- HM.out]; omega)⟩
    obtain ⟨c0, c1⟩ := prs_cells (hc j p hp) HR.out.1 hbl
    obtain ⟨d0, d1⟩ := prs_cells (hc' j q hq) HR.out.1 hbl'
    have HE : Hid (p = q -> qs.take (j + 1) = ps.take (j + 1)) := iq (fun e => by
     rw [List.take_add_one, List.take_add_one, HR.out.2, hp, hq, e])
    have HN : Hid (p ≠ q -> qs ≠ ps) := iq (fun e h => e (by rw [h, hq] at hp; injection hp with h; exact h.symm))
    obtain ⟨x, y⟩ := p
    obtain ⟨x', y'⟩ := q
    clear hc hp hc' hq
    dsimp only at c0 c1 d0 d1
    by_cases he : (x, y) = (x', y')
    ·have heq : ∀ w, (Op.equalIn 10000 78 (.agg #[.int .i64 x, .int .u64 (y : Int)]) (.agg #[.int .i64 x', .int .u64 (y' : Int)])).run Tryz.prog w = .ok true w := fun w => eq_pair_of (d := 9998) x x' y y' (by simp only [true_iff]; exact he) w
     have hg := Tryz.guard78
     go_wp2_with fail
     go_quiet (fail)
     go_wp2_with fail
     go_roundw
     case measure => simp [intOf] <;> omega
     case rel => exact ⟨j + 1, by omega, by go_num, iq ⟨below_drewN HR.out.1 _, HE.out he⟩⟩
    ·have heq : ∀ w, (Op.equalIn 10000 78 (.agg #[.int .i64 x, .int .u64 (y : Int)]) (.agg #[.int .i64 x', .int .u64 (y' : Int)])).run Tryz.prog w = .ok false w := fun w => eq_pair_of (d := 9998) x x' y y' (by simp only [Bool.false_eq_true, false_iff]; exact he) w
     have hg := Tryz.guard78
     go_wp2_with fail
     go_quiet (fail)
     go_wp2_with fail
     go_ret
     exact ⟨ret_bool (by rw [decide_eq_false (HN.out he)]), below_drewN HR.out.1 _⟩
   ·have HE : Hid (qs = ps) := iq (by
     have := HR.out.2
     rwa [List.take_of_length_le (by rw [<- HL.out]; omega), List.take_of_length_le (by rw [<- HM.out]; omega)] at this)
    go_wp2_with fail
    go_ret
    exact ⟨ret_bool (by rw [decide_eq_true HE.out]), HR.out.1⟩
 ·have HN : Hid (qs ≠ ps) := iq (fun h => hnm (by rw [HL.out, HM.out, h]))
  have hno : ((n : Int) ≠ (m : Int)) := by omega
  go_enter Tryz.func124, Tryz.ntmps124
  go_wp2_with fail
  go_ret
  exact ⟨ret_bool (by rw [decide_eq_false HN.out]), HB0.out⟩
open Go.RowKit
theorem pairs_rf (A A' : Option Addr) (c c' : Nat) (qs ps : List (Int × Nat)) (w : World) (hq : Prs w A qs) (hp : Prs w A' ps) (hn : qs.length <= 140737488355328) (hm : ps.length <= 140737488355328) :
  Calls Tryz.prog 134 #[.slice A qs.length c, .slice A' ps.length c'] w fun E w' => E = .returned (.bool (decide (qs = ps))) /\ Below w.heap.size w w' := by
 have HQ := iq hq
 have HP := iq hp
 obtain ⟨n, hnn⟩ : ∃ n, n = qs.length := ⟨_, rfl⟩
 obtain ⟨m, hmm⟩ : ∃ n, n = ps.length := ⟨_, rfl⟩
 have HL := iq hnn
 have HM := iq hmm
 rw [<- hnn] at hn ⊢
 rw [<- hmm] at hm ⊢
 clear hq hp hnn hmm
 have HB0 := iq (Below.refl w.heap.size w)
 by_cases hnm : n = m
 ·subst hnm
  have hno : ¬ ((n : Int) ≠ (n : Int)) := by omega
  go_enter Tryz.func134, Tryz.ntmps134
  go_wp2_with fail
  go_loopw [5] (fun v5 wr => ∃ j : Nat, j <= n /\ v5 = .int .i64 (j : Int) /\ Hid (Below w.heap.size w wr /\ qs.take j = ps.take j)) (fun v5 _ => n - (intOf v5).toNat)
  case atStart => exact ⟨0, by omega, rfl, iq ⟨HB0.out, rfl⟩⟩
  case round =>
   obtain ⟨j, hj, rfl, HR⟩ := hrel
   by_cases hjj : j < n
   ·obtain ⟨b, o, rfl, hbl, hc⟩ := HQ.out (by rw [<- HL.out]; omega)
    obtain ⟨b', o', rfl, hbl', hc'⟩ := HP.out (by rw [<- HM.out]; omega)
    obtain ⟨p, hp⟩ : ∃ p, qs[j]? = some p := ⟨_, List.getElem?_eq_getElem (by rw [<- HL.out]; omega)⟩
    obtain ⟨q, hq⟩ : ∃ p, ps[j]? = some p := ⟨_, List.getElem?_eq_getElem (by rw [<- HM.out]; omega)⟩
    obtain ⟨c0, c1⟩ := prs_cells (hc j p hp) HR.out.1 hbl
    obtain ⟨d0, d1⟩ := prs_cells (hc' j q hq) HR.out.1 hbl'
    have HE : Hid (p = q -> qs.take (j + 1) = ps.take (j + 1)) := iq (fun e => by
     rw [List.take_add_one, List.take_add_one, HR.out.2, hp, hq, e])
    have HN : Hid (p ≠ q -> qs ≠ ps) := iq (fun e h => e (by rw [h, hq] at hp; injection hp with h; exact h.symm))
    obtain ⟨x, y⟩ := p
    obtain ⟨x', y'⟩ := q
    clear hc hp hc' hq
    dsimp only at c0 c1 d0 d1
    by_cases he : (x, y) = (x', y')
    ·have heq : ∀ w, (Op.equalIn 10000 78 (.agg #[.int .i64 x, .int .u64 (y : Int)]) (.agg #[.int .i64 x', .int .u64 (y' : Int)])).run Tryz.prog w = .ok true w := fun w => eq_pair_of (d := 9998) x x' y y' (by simp only [true_iff]; exact he) w
     have hg := Tryz.guard78
     go_wp2_with fail
     go_quiet (fail)
     go_wp2_with fail
     go_roundw
     case measure => simp [intOf] <;> omega
     case rel => exact ⟨j + 1, by omega, by go_num, iq ⟨below_drewN HR.out.1 _, HE.out he⟩⟩
    ·have heq : ∀ w, (Op.equalIn 10000 78 (.agg #[.int .i64 x, .int .u64 (y : Int)]) (.agg #[.int .i64 x', .int .u64 (y' : Int)])).run Tryz.prog w = .ok false w := fun w => eq_pair_of (d := 9998) x x' y y' (by simp only [Bool.false_eq_true, false_iff]; exact he) w
     have hg := Tryz.guard78
     go_wp2_with fail
     go_quiet (fail)
     go_wp2_with fail
     go_ret
     exact ⟨ret_bool (by rw [decide_eq_false (HN.out he)]), below_drewN HR.out.1 _⟩
   ·have HE : Hid (qs = ps) := iq (by
     have := HR.out.2
     rwa [List.take_of_length_le (by rw [<- HL.out]; omega), List.take_of_length_le (by rw [<- HM.out]; omega)] at this)
    go_wp2_with fail
    go_ret
    exact ⟨ret_bool (by rw [decide_eq_true HE.out]), HR.out.1⟩
 ·have HN : Hid (qs ≠ ps) := iq (fun h => hnm (by rw [HL.out, HM.out, h]))
  have hno : ((n : Int) ≠ (m : Int)) := by omega
  go_enter Tryz.func134, Tryz.ntmps134
  go_wp2_with fail
  go_ret
  exact ⟨ret_bool (by rw [decide_eq_false HN.out]), HB0.out⟩
def MBody.same (a b : MBody) : Prop := a.view = b.view /\ a.k = b.k /\ a.req = b.req /\ a.qs = b.qs /\ a.dig = b.dig
theorem two_boxed (w : World) (C D : List Value) (t u : TypeId) : ((w.alloc (.cells C.toArray t)).alloc (.cells D.toArray u)).rangeAt w.heap.size 0 C /\ ((w.alloc (.cells C.toArray t)).alloc (.cells D.toArray u)).rangeAt (w.heap.size + 1) 0 D := by
 refine ⟨World.rangeAt_alloc (range_box w C t) _, ?_⟩
 have := range_box (w.alloc (.cells C.toArray t)) D u
 simpa using this
theorem Tryz.guard32 : Tryz.prog.eqGuardType Tryz.prog.depth 32 = false := by kernel_rfl
theorem same_ms (a b : MBody) (w : World) (ha : a.Wf) (hb : b.Wf) (hqa : Prs w a.qa a.qs) (hqb : Prs w b.qa b.qs) (hna : a.qs.length <= 140737488355328) (hnb : b.qs.length <= 140737488355328) :
  Calls Tryz.prog 94 #[.agg (bodyC a).toArray, .agg (bodyC b).toArray] w fun E w' => (∃ z, E = .returned (.bool z) /\ (z = true ↔ a.same b)) /\ Below w.heap.size w w' := by
 have R := two_boxed w (bodyC a) (bodyC b) 35 35
 have HB : Hid (Below w.heap.size w ((w.alloc (.cells (bodyC a).toArray 35)).alloc (.cells (bodyC b).toArray 35))) := iq ((bl.alloc (Nat.le_refl _) _).alloc (by simp) _)
 have LA := body_lies R.1 ha
 have LB := body_lies R.2 hb
 have a1 : ((w.alloc (.cells (bodyC a).toArray 35)).alloc (.cells (bodyC b).toArray 35)).cell? ⟨w.heap.size, 1, none⟩ = some (.int .u64 (a.view : Int)) := LA.view
 have a2 : ((w.alloc (.cells (bodyC a).toArray 35)).alloc (.cells (bodyC b).toArray 35)).cell? ⟨w.heap.size, 2, none⟩ = some (.int .u64 (a.k : Int)) := LA.k
 have a43 : ((w.alloc (.cells (bodyC a).toArray 35)).alloc (.cells (bodyC b).toArray 35)).cell? ⟨w.heap.size, 43, none⟩ = some (.slice a.qa a.qs.length a.qc) := LA.q
 have b1 : ((w.alloc (.cells (bodyC a).toArray 35)).alloc (.cells (bodyC b).toArray 35)).cell? ⟨w.heap.size + 1, 1, none⟩ = some (.int .u64 (b.view : Int)) := LB.view
 have b2 : ((w.alloc (.cells (bodyC a).toArray 35)).alloc (.cells (bodyC b).toArray 35)).cell? ⟨w.heap.size + 1, 2, none⟩ = some (.int .u64 (b.k : Int)) := LB.k
 have b43 : ((w.alloc (.cells (bodyC a).toArray 35)).alloc (.cells (bodyC b).toArray 35)).cell? ⟨w.heap.size + 1, 43, none⟩ = some (.slice b.qa b.qs.length b.qc) := LB.q
 have RA : Hid (((w.alloc (.cells (bodyC a).toArray 35)).alloc (.cells (bodyC b).toArray 35)).rangeAt w.heap.size 3 (reqC a.req)) := iq LA.req.all
 have RB : Hid (((w.alloc (.cells (bodyC a).toArray 35)).alloc (.cells (bodyC b).toArray 35)).rangeAt (w.heap.size + 1) 3 (reqC b.req)) := iq LB.req.all
 have DA : Hid (∀ W, Below ((w.alloc (.cells (bodyC a).toArray 35)).alloc (.cells (bodyC b).toArray 35)).heap.size ((w.alloc (.cells (bodyC a).toArray 35)).alloc (.cells (bodyC b).toArray 35)) W -> W.rangeAt w.heap.size 44 (u8s a.dig)) := iq fun W h => rangeAt_below LA.dig h (by simp; omega)
 have DB : Hid (∀ W, Below ((w.alloc (.cells (bodyC a).toArray 35)).alloc (.cells (bodyC b).toArray 35)).heap.size ((w.alloc (.cells (bodyC a).toArray 35)).alloc (.cells (bodyC b).toArray 35)) W -> W.rangeAt (w.heap.size + 1) 44 (u8s b.dig)) := iq fun W h => rangeAt_below LB.dig h (by simp)
 have IA : Hid ((Tryz.prog.info? 32).map (·.size) = some (reqC a.req).length) := iq (by rw [reqC_length ha.1]; exact Tryz.is32)
 have IB : Hid ((Tryz.prog.info? 32).map (·.size) = some (reqC b.req).length) := iq (by rw [reqC_length hb.1]; exact Tryz.is32)
 have JA : Hid ((Tryz.prog.info? 30).map (·.size) = some (u8s a.dig).length) := iq (by rw [u8s_length, ha.2]; exact Tryz.size30)
 have JB : Hid ((Tryz.prog.info? 30).map (·.size) = some (u8s b.dig).length) := iq (by rw [u8s_length, hb.2]; exact Tryz.size30)
 have HE : Hid (∀ W, Below w.heap.size w W -> Calls Tryz.prog 124 #[.slice a.qa a.qs.length a.qc, .slice b.qa b.qs.length b.qc] W fun E w' => E = .returned (.bool (decide (a.qs = b.qs))) /\ Below W.heap.size W w') := iq fun W h => equal_ms _ _ _ _ _ _ W (hqa.below h) (hqb.below h) hna hnb
 have g29 := Tryz.guard32
 have g27 := Tryz.guard30
 have e29 : ∀ z : Bool, (z = true ↔ a.req = b.req) -> ∀ w, (Op.equalIn 10000 32 (.agg (reqC a.req).toArray) (.agg (reqC b.req).toArray)).run Tryz.prog w = .ok z w := fun z hz w => eq_req_of (d := 9997) a.req b.req ha.1 hb.1 hz w
 have e27 : ∀ z : Bool, (z = true ↔ a.dig = b.dig) -> ∀ w, (Op.equalIn 10000 30 (.agg (u8s a.dig).toArray) (.agg (u8s b.dig).toArray)).run Tryz.prog w = .ok z w := fun z hz w => eq_tag_of (d := 9998) a.dig b.dig ha.2 hb.2 hz w
 clear R LA LB hqa hqb hna hnb ha hb
 by_cases Y0 : a.view = b.view
 ·have f0 : (a.view : Int) = (b.view : Int) := by rw [Y0]
  have H0 := iq Y0
  clear Y0
  by_cases Y1 : a.k = b.k
  ·have f1 : (a.k : Int) = (b.k : Int) := by rw [Y1]
   have H1 := iq Y1
   clear Y1
   by_cases Y2 : a.req = b.req
   ·have f2 := e29 true (by simp only [true_iff]; exact Y2)
    have H2 := iq Y2
    clear Y2
    by_cases Y3 : a.qs = b.qs
    ·rw [decide_eq_true Y3] at HE
     have H3 := iq Y3
     clear Y3
     by_cases Y4 : a.dig = b.dig
     ·have f4 := e27 true (by simp only [true_iff]; exact Y4)
      have H4 := iq Y4
      clear Y4
      go_enter Tryz.func94, Tryz.ntmps94
      go_wp2_with (first | ((with_reducible refine wpList_load_midG ?_ 32 (.tmp 18) ?_ w.heap.size 3 ?_ (reqC a.req) _ ?_ Tryz.underlying32 ?_ ?_ ?_); rfl; rfl; rfl; exact RA.out; rfl; exact IA.out) | ((with_reducible refine wpList_load_midG ?_ 32 (.tmp 20) ?_ (w.heap.size + 1) 3 ?_ (reqC b.req) _ ?_ Tryz.underlying32 ?_ ?_ ?_); rfl; rfl; rfl; exact RB.out; rfl; exact IB.out) | (go_at_call 124; refine (HE.out _ HB.out).mono ?_; rintro E w3 ⟨rfl, hb3⟩; have HB3 := iq hb3; clear hb3) | ((with_reducible refine wpList_load_midG ?_ 30 (.tmp 32) ?_ w.heap.size 44 ?_ (u8s a.dig) _ ?_ Tryz.underlying30 ?_ ?_ ?_); rfl; rfl; rfl; exact DA.out _ HB3.out; rfl; exact JA.out) | ((with_reducible refine wpList_load_midG ?_ 30 (.tmp 34) ?_ (w.heap.size + 1) 44 ?_ (u8s b.dig) _ ?_ Tryz.underlying30 ?_ ?_ ?_); rfl; rfl; rfl; exact DB.out _ HB3.out; rfl; exact JB.out))
      go_ret
      exact ⟨⟨true, rfl, by simp only [true_iff]; exact ⟨H0.out, H1.out, H2.out, H3.out, H4.out⟩⟩, HB.out.trans (HB3.out.mono HB.out.size)⟩
     ·have N4 := Y4
      have f4 := e27 false (by simp only [Bool.false_eq_true, false_iff]; exact N4)
      have G4 := iq N4
      clear N4 Y4
      go_enter Tryz.func94, Tryz.ntmps94
      go_wp2_with (first | ((with_reducible refine wpList_load_midG ?_ 32 (.tmp 18) ?_ w.heap.size 3 ?_ (reqC a.req) _ ?_ Tryz.underlying32 ?_ ?_ ?_); rfl; rfl; rfl; exact RA.out; rfl; exact IA.out) | ((with_reducible refine wpList_load_midG ?_ 32 (.tmp 20) ?_ (w.heap.size + 1) 3 ?_ (reqC b.req) _ ?_ Tryz.underlying32 ?_ ?_ ?_); rfl; rfl; rfl; exact RB.out; rfl; exact IB.out) | (go_at_call 124; refine (HE.out _ HB.out).mono ?_; rintro E w3 ⟨rfl, hb3⟩; have HB3 := iq hb3; clear hb3) | ((with_reducible refine wpList_load_midG ?_ 30 (.tmp 32) ?_ w.heap.size 44 ?_ (u8s a.dig) _ ?_ Tryz.underlying30 ?_ ?_ ?_); rfl; rfl; rfl; exact DA.out _ HB3.out; rfl; exact JA.out) | ((with_reducible refine wpList_load_midG ?_ 30 (.tmp 34) ?_ (w.heap.size + 1) 44 ?_ (u8s b.dig) _ ?_ Tryz.underlying30 ?_ ?_ ?_); rfl; rfl; rfl; exact DB.out _ HB3.out; rfl; exact JB.out))
      go_ret
      exact ⟨⟨false, rfl, by simp only [Bool.false_eq_true, false_iff]; exact fun h => G4.out h.2.2.2.2⟩, HB.out.trans (HB3.out.mono HB.out.size)⟩
    ·have N3 := Y3
     rw [decide_eq_false N3] at HE
     have G3 := iq N3
     clear N3 Y3
     go_enter Tryz.func94, Tryz.ntmps94
     go_wp2_with (first | ((with_reducible refine wpList_load_midG ?_ 32 (.tmp 18) ?_ w.heap.size 3 ?_ (reqC a.req) _ ?_ Tryz.underlying32 ?_ ?_ ?_); rfl; rfl; rfl; exact RA.out; rfl; exact IA.out) | ((with_reducible refine wpList_load_midG ?_ 32 (.tmp 20) ?_ (w.heap.size + 1) 3 ?_ (reqC b.req) _ ?_ Tryz.underlying32 ?_ ?_ ?_); rfl; rfl; rfl; exact RB.out; rfl; exact IB.out) | (go_at_call 124; refine (HE.out _ HB.out).mono ?_; rintro E w3 ⟨rfl, hb3⟩; have HB3 := iq hb3; clear hb3) | ((with_reducible refine wpList_load_midG ?_ 30 (.tmp 32) ?_ w.heap.size 44 ?_ (u8s a.dig) _ ?_ Tryz.underlying30 ?_ ?_ ?_); rfl; rfl; rfl; exact DA.out _ HB3.out; rfl; exact JA.out) | ((with_reducible refine wpList_load_midG ?_ 30 (.tmp 34) ?_ (w.heap.size + 1) 44 ?_ (u8s b.dig) _ ?_ Tryz.underlying30 ?_ ?_ ?_); rfl; rfl; rfl; exact DB.out _ HB3.out; rfl; exact JB.out))
     go_ret
     exact ⟨⟨false, rfl, by simp only [Bool.false_eq_true, false_iff]; exact fun h => G3.out h.2.2.2.1⟩, HB.out.trans (HB3.out.mono HB.out.size)⟩
   ·have N2 := Y2
    have f2 := e29 false (by simp only [Bool.false_eq_true, false_iff]; exact N2)
    have G2 := iq N2
    clear N2 Y2
    go_enter Tryz.func94, Tryz.ntmps94
    go_wp2_with (first | ((with_reducible refine wpList_load_midG ?_ 32 (.tmp 18) ?_ w.heap.size 3 ?_ (reqC a.req) _ ?_ Tryz.underlying32 ?_ ?_ ?_); rfl; rfl; rfl; exact RA.out; rfl; exact IA.out) | ((with_reducible refine wpList_load_midG ?_ 32 (.tmp 20) ?_ (w.heap.size + 1) 3 ?_ (reqC b.req) _ ?_ Tryz.underlying32 ?_ ?_ ?_); rfl; rfl; rfl; exact RB.out; rfl; exact IB.out) | (go_at_call 124; refine (HE.out _ HB.out).mono ?_; rintro E w3 ⟨rfl, hb3⟩; have HB3 := iq hb3; clear hb3) | ((with_reducible refine wpList_load_midG ?_ 30 (.tmp 32) ?_ w.heap.size 44 ?_ (u8s a.dig) _ ?_ Tryz.underlying30 ?_ ?_ ?_); rfl; rfl; rfl; exact DA.out _ HB3.out; rfl; exact JA.out) | ((with_reducible refine wpList_load_midG ?_ 30 (.tmp 34) ?_ (w.heap.size + 1) 44 ?_ (u8s b.dig) _ ?_ Tryz.underlying30 ?_ ?_ ?_); rfl; rfl; rfl; exact DB.out _ HB3.out; rfl; exact JB.out))
    go_ret
    exact ⟨⟨false, rfl, by simp only [Bool.false_eq_true, false_iff]; exact fun h => G2.out h.2.2.1⟩, HB.out⟩
  ·have N1 := Y1
   have f1 : ¬ ((a.k : Int) = (b.k : Int)) := by omega
   have G1 := iq N1
   clear N1 Y1
   go_enter Tryz.func94, Tryz.ntmps94
   go_wp2_with (first | ((with_reducible refine wpList_load_midG ?_ 32 (.tmp 18) ?_ w.heap.size 3 ?_ (reqC a.req) _ ?_ Tryz.underlying32 ?_ ?_ ?_); rfl; rfl; rfl; exact RA.out; rfl; exact IA.out) | ((with_reducible refine wpList_load_midG ?_ 32 (.tmp 20) ?_ (w.heap.size + 1) 3 ?_ (reqC b.req) _ ?_ Tryz.underlying32 ?_ ?_ ?_); rfl; rfl; rfl; exact RB.out; rfl; exact IB.out) | (go_at_call 124; refine (HE.out _ HB.out).mono ?_; rintro E w3 ⟨rfl, hb3⟩; have HB3 := iq hb3; clear hb3) | ((with_reducible refine wpList_load_midG ?_ 30 (.tmp 32) ?_ w.heap.size 44 ?_ (u8s a.dig) _ ?_ Tryz.underlying30 ?_ ?_ ?_); rfl; rfl; rfl; exact DA.out _ HB3.out; rfl; exact JA.out) | ((with_reducible refine wpList_load_midG ?_ 30 (.tmp 34) ?_ (w.heap.size + 1) 44 ?_ (u8s b.dig) _ ?_ Tryz.underlying30 ?_ ?_ ?_); rfl; rfl; rfl; exact DB.out _ HB3.out; rfl; exact JB.out))
   go_ret
   exact ⟨⟨false, rfl, by simp only [Bool.false_eq_true, false_iff]; exact fun h => G1.out h.2.1⟩, HB.out⟩
 ·have N0 := Y0
  have f0 : ¬ ((a.view : Int) = (b.view : Int)) := by omega
  have G0 := iq N0
  clear N0 Y0
  go_enter Tryz.func94, Tryz.ntmps94
  go_wp2_with (first | ((with_reducible refine wpList_load_midG ?_ 32 (.tmp 18) ?_ w.heap.size 3 ?_ (reqC a.req) _ ?_ Tryz.underlying32 ?_ ?_ ?_); rfl; rfl; rfl; exact RA.out; rfl; exact IA.out) | ((with_reducible refine wpList_load_midG ?_ 32 (.tmp 20) ?_ (w.heap.size + 1) 3 ?_ (reqC b.req) _ ?_ Tryz.underlying32 ?_ ?_ ?_); rfl; rfl; rfl; exact RB.out; rfl; exact IB.out) | (go_at_call 124; refine (HE.out _ HB.out).mono ?_; rintro E w3 ⟨rfl, hb3⟩; have HB3 := iq hb3; clear hb3) | ((with_reducible refine wpList_load_midG ?_ 30 (.tmp 32) ?_ w.heap.size 44 ?_ (u8s a.dig) _ ?_ Tryz.underlying30 ?_ ?_ ?_); rfl; rfl; rfl; exact DA.out _ HB3.out; rfl; exact JA.out) | ((with_reducible refine wpList_load_midG ?_ 30 (.tmp 34) ?_ (w.heap.size + 1) 44 ?_ (u8s b.dig) _ ?_ Tryz.underlying30 ?_ ?_ ?_); rfl; rfl; rfl; exact DB.out _ HB3.out; rfl; exact JB.out))
  go_ret
  exact ⟨⟨false, rfl, by simp only [Bool.false_eq_true, false_iff]; exact fun h => G0.out h.1⟩, HB.out⟩
open Go.RowKit
theorem ne_u8 {x y : UInt8} (h : ¬ x = y) : ¬ ((x.toNat : Int) = (y.toNat : Int)) := fun e => h (UInt8.toNat_inj.1 (by omega))
theorem sameBody_rf (a b : MBody) (w : World) (ha : a.Wf) (hb : b.Wf) (hqa : Prs w a.qa a.qs) (hqb : Prs w b.qa b.qs) (hna : a.qs.length <= 140737488355328) (hnb : b.qs.length <= 140737488355328) :
  Calls Tryz.prog 108 #[.agg (bodyC a).toArray, .agg (bodyC b).toArray] w fun E w' => (∃ z, E = .returned (.bool z) /\ (z = true ↔ a.kind = b.kind /\ a.same b)) /\ Below w.heap.size w w' := by
 have R := two_boxed w (bodyC a) (bodyC b) 35 35
 have HB : Hid (Below w.heap.size w ((w.alloc (.cells (bodyC a).toArray 35)).alloc (.cells (bodyC b).toArray 35))) := iq ((bl.alloc (Nat.le_refl _) _).alloc (by simp) _)
 have LA := body_lies R.1 ha
 have LB := body_lies R.2 hb
 have g29 := Tryz.guard32
 have g27 := Tryz.guard30
 have a0 : ((w.alloc (.cells (bodyC a).toArray 35)).alloc (.cells (bodyC b).toArray 35)).cell? ⟨w.heap.size, 0, none⟩ = some (.int .u8 (a.kind.toNat : Int)) := LA.kind
 have b0 : ((w.alloc (.cells (bodyC a).toArray 35)).alloc (.cells (bodyC b).toArray 35)).cell? ⟨w.heap.size + 1, 0, none⟩ = some (.int .u8 (b.kind.toNat : Int)) := LB.kind
 have a1 : ((w.alloc (.cells (bodyC a).toArray 35)).alloc (.cells (bodyC b).toArray 35)).cell? ⟨w.heap.size, 1, none⟩ = some (.int .u64 (a.view : Int)) := LA.view
 have b1 : ((w.alloc (.cells (bodyC a).toArray 35)).alloc (.cells (bodyC b).toArray 35)).cell? ⟨w.heap.size + 1, 1, none⟩ = some (.int .u64 (b.view : Int)) := LB.view
 have a2 : ((w.alloc (.cells (bodyC a).toArray 35)).alloc (.cells (bodyC b).toArray 35)).cell? ⟨w.heap.size, 2, none⟩ = some (.int .u64 (a.k : Int)) := LA.k
 have b2 : ((w.alloc (.cells (bodyC a).toArray 35)).alloc (.cells (bodyC b).toArray 35)).cell? ⟨w.heap.size + 1, 2, none⟩ = some (.int .u64 (b.k : Int)) := LB.k
 have Ra3 : Hid (∀ W, Below ((w.alloc (.cells (bodyC a).toArray 35)).alloc (.cells (bodyC b).toArray 35)).heap.size ((w.alloc (.cells (bodyC a).toArray 35)).alloc (.cells (bodyC b).toArray 35)) W -> W.rangeAt w.heap.size 3 (reqC a.req)) := iq fun W h => rangeAt_below LA.req.all h (by simp; omega)
 have Ia3 : Hid ((Tryz.prog.info? 32).map (·.size) = some (reqC a.req).length) := iq (by rw [reqC_length ha.1]; exact Tryz.is32)
 have Rb3 : Hid (∀ W, Below ((w.alloc (.cells (bodyC a).toArray 35)).alloc (.cells (bodyC b).toArray 35)).heap.size ((w.alloc (.cells (bodyC a).toArray 35)).alloc (.cells (bodyC b).toArray 35)) W -> W.rangeAt (w.heap.size + 1) 3 (reqC b.req)) := iq fun W h => rangeAt_below LB.req.all h (by simp)
 have Ib3 : Hid ((Tryz.prog.info? 32).map (·.size) = some (reqC b.req).length) := iq (by rw [reqC_length hb.1]; exact Tryz.is32)
 have e3 : ∀ z : Bool, (z = true ↔ a.req = b.req) -> ∀ w, (Op.equalIn 10000 32 (.agg (reqC a.req).toArray) (.agg (reqC b.req).toArray)).run Tryz.prog w = .ok z w := fun z hz w => eq_req_of (d := 9997) a.req b.req ha.1 hb.1 hz w
 have a43 : ((w.alloc (.cells (bodyC a).toArray 35)).alloc (.cells (bodyC b).toArray 35)).cell? ⟨w.heap.size, 43, none⟩ = some (.slice a.qa a.qs.length a.qc) := LA.q
 have b43 : ((w.alloc (.cells (bodyC a).toArray 35)).alloc (.cells (bodyC b).toArray 35)).cell? ⟨w.heap.size + 1, 43, none⟩ = some (.slice b.qa b.qs.length b.qc) := LB.q
 have HE : Hid (∀ W, Below w.heap.size w W -> Calls Tryz.prog 134 #[.slice a.qa a.qs.length a.qc, .slice b.qa b.qs.length b.qc] W fun E w' => E = .returned (.bool (decide (a.qs = b.qs))) /\ Below W.heap.size W w') := iq fun W h => pairs_rf _ _ _ _ _ _ W (hqa.below h) (hqb.below h) hna hnb
 have Ra5 : Hid (∀ W, Below ((w.alloc (.cells (bodyC a).toArray 35)).alloc (.cells (bodyC b).toArray 35)).heap.size ((w.alloc (.cells (bodyC a).toArray 35)).alloc (.cells (bodyC b).toArray 35)) W -> W.rangeAt w.heap.size 44 (u8s a.dig)) := iq fun W h => rangeAt_below LA.dig h (by simp; omega)
 have Ia5 : Hid ((Tryz.prog.info? 30).map (·.size) = some (u8s a.dig).length) := iq (by rw [u8s_length, ha.2]; exact Tryz.size30)
 have Rb5 : Hid (∀ W, Below ((w.alloc (.cells (bodyC a).toArray 35)).alloc (.cells (bodyC b).toArray 35)).heap.size ((w.alloc (.cells (bodyC a).toArray 35)).alloc (.cells (bodyC b).toArray 35)) W -> W.rangeAt (w.heap.size + 1) 44 (u8s b.dig)) := iq fun W h => rangeAt_below LB.dig h (by simp)
 have Ib5 : Hid ((Tryz.prog.info? 30).map (·.size) = some (u8s b.dig).length) := iq (by rw [u8s_length, hb.2]; exact Tryz.size30)
 have e5 : ∀ z : Bool, (z = true ↔ a.dig = b.dig) -> ∀ w, (Op.equalIn 10000 30 (.agg (u8s a.dig).toArray) (.agg (u8s b.dig).toArray)).run Tryz.prog w = .ok z w := fun z hz w => eq_tag_of (d := 9998) a.dig b.dig ha.2 hb.2 hz w
 clear R LA LB hqa hqb hna hnb ha hb
 by_cases Y0 : a.kind = b.kind
 ·have f0 : (a.kind.toNat : Int) = (b.kind.toNat : Int) := by rw [Y0]
  have H0 := iq Y0
  clear Y0
  by_cases Y1 : a.view = b.view
  ·have f1 : (a.view : Int) = (b.view : Int) := by rw [Y1]
   have H1 := iq Y1
   clear Y1
   by_cases Y2 : a.k = b.k
   ·have f2 : (a.k : Int) = (b.k : Int) := by rw [Y2]
    have H2 := iq Y2
    clear Y2
    by_cases Y3 : a.req = b.req
    ·have f3 := e3 true (by simp only [true_iff]; exact Y3)
     have H3 := iq Y3
     clear Y3
     by_cases Y4 : a.qs = b.qs
     ·rw [decide_eq_true Y4] at HE
      have H4 := iq Y4
      clear Y4
      by_cases Y5 : a.dig = b.dig
      ·have f5 := e5 true (by simp only [true_iff]; exact Y5)
       have H5 := iq Y5
       clear Y5
       go_enter Tryz.func108, Tryz.ntmps108
       go_wp2_with (first | ((with_reducible refine wpList_load_midG ?_ 32 (.tmp 25) ?_ w.heap.size 3 ?_ (reqC a.req) _ ?_ Tryz.underlying32 ?_ ?_ ?_); rfl; rfl; rfl; exact Ra3.out _ bl; rfl; exact Ia3.out) | ((with_reducible refine wpList_load_midG ?_ 32 (.tmp 27) ?_ (w.heap.size + 1) 3 ?_ (reqC b.req) _ ?_ Tryz.underlying32 ?_ ?_ ?_); rfl; rfl; rfl; exact Rb3.out _ bl; rfl; exact Ib3.out) | (go_at_call 134; refine (HE.out _ HB.out).mono ?_; rintro E w3 ⟨rfl, hb3⟩; have HB3 := iq hb3; clear hb3) | ((with_reducible refine wpList_load_midG ?_ 30 (.tmp 39) ?_ w.heap.size 44 ?_ (u8s a.dig) _ ?_ Tryz.underlying30 ?_ ?_ ?_); rfl; rfl; rfl; exact Ra5.out _ HB3.out; rfl; exact Ia5.out) | ((with_reducible refine wpList_load_midG ?_ 30 (.tmp 41) ?_ (w.heap.size + 1) 44 ?_ (u8s b.dig) _ ?_ Tryz.underlying30 ?_ ?_ ?_); rfl; rfl; rfl; exact Rb5.out _ HB3.out; rfl; exact Ib5.out))
       go_ret
       exact ⟨⟨true, rfl, by simp only [true_iff]; exact ⟨H0.out, H1.out, H2.out, H3.out, H4.out, H5.out⟩⟩, HB.out.trans (HB3.out.mono HB.out.size)⟩
      ·have N5 := Y5
       have f5 := e5 false (by simp only [Bool.false_eq_true, false_iff]; exact N5)
       have G5 := iq N5
       clear N5 Y5
       go_enter Tryz.func108, Tryz.ntmps108
       go_wp2_with (first | ((with_reducible refine wpList_load_midG ?_ 32 (.tmp 25) ?_ w.heap.size 3 ?_ (reqC a.req) _ ?_ Tryz.underlying32 ?_ ?_ ?_); rfl; rfl; rfl; exact Ra3.out _ bl; rfl; exact Ia3.out) | ((with_reducible refine wpList_load_midG ?_ 32 (.tmp 27) ?_ (w.heap.size + 1) 3 ?_ (reqC b.req) _ ?_ Tryz.underlying32 ?_ ?_ ?_); rfl; rfl; rfl; exact Rb3.out _ bl; rfl; exact Ib3.out) | (go_at_call 134; refine (HE.out _ HB.out).mono ?_; rintro E w3 ⟨rfl, hb3⟩; have HB3 := iq hb3; clear hb3) | ((with_reducible refine wpList_load_midG ?_ 30 (.tmp 39) ?_ w.heap.size 44 ?_ (u8s a.dig) _ ?_ Tryz.underlying30 ?_ ?_ ?_); rfl; rfl; rfl; exact Ra5.out _ HB3.out; rfl; exact Ia5.out) | ((with_reducible refine wpList_load_midG ?_ 30 (.tmp 41) ?_ (w.heap.size + 1) 44 ?_ (u8s b.dig) _ ?_ Tryz.underlying30 ?_ ?_ ?_); rfl; rfl; rfl; exact Rb5.out _ HB3.out; rfl; exact Ib5.out))
       go_ret
       exact ⟨⟨false, rfl, by simp only [Bool.false_eq_true, false_iff]; exact fun h => G5.out h.2.2.2.2.2⟩, HB.out.trans (HB3.out.mono HB.out.size)⟩
     ·have N4 := Y4
      rw [decide_eq_false N4] at HE
      have G4 := iq N4
      clear N4 Y4
      go_enter Tryz.func108, Tryz.ntmps108
      go_wp2_with (first | ((with_reducible refine wpList_load_midG ?_ 32 (.tmp 25) ?_ w.heap.size 3 ?_ (reqC a.req) _ ?_ Tryz.underlying32 ?_ ?_ ?_); rfl; rfl; rfl; exact Ra3.out _ bl; rfl; exact Ia3.out) | ((with_reducible refine wpList_load_midG ?_ 32 (.tmp 27) ?_ (w.heap.size + 1) 3 ?_ (reqC b.req) _ ?_ Tryz.underlying32 ?_ ?_ ?_); rfl; rfl; rfl; exact Rb3.out _ bl; rfl; exact Ib3.out) | (go_at_call 134; refine (HE.out _ HB.out).mono ?_; rintro E w3 ⟨rfl, hb3⟩; have HB3 := iq hb3; clear hb3) | ((with_reducible refine wpList_load_midG ?_ 30 (.tmp 39) ?_ w.heap.size 44 ?_ (u8s a.dig) _ ?_ Tryz.underlying30 ?_ ?_ ?_); rfl; rfl; rfl; exact Ra5.out _ HB3.out; rfl; exact Ia5.out) | ((with_reducible refine wpList_load_midG ?_ 30 (.tmp 41) ?_ (w.heap.size + 1) 44 ?_ (u8s b.dig) _ ?_ Tryz.underlying30 ?_ ?_ ?_); rfl; rfl; rfl; exact Rb5.out _ HB3.out; rfl; exact Ib5.out))
      go_ret
      exact ⟨⟨false, rfl, by simp only [Bool.false_eq_true, false_iff]; exact fun h => G4.out h.2.2.2.2.1⟩, HB.out.trans (HB3.out.mono HB.out.size)⟩
    ·have N3 := Y3
     have f3 := e3 false (by simp only [Bool.false_eq_true, false_iff]; exact N3)
     have G3 := iq N3
     clear N3 Y3
     go_enter Tryz.func108, Tryz.ntmps108
     go_wp2_with (first | ((with_reducible refine wpList_load_midG ?_ 32 (.tmp 25) ?_ w.heap.size 3 ?_ (reqC a.req) _ ?_ Tryz.underlying32 ?_ ?_ ?_); rfl; rfl; rfl; exact Ra3.out _ bl; rfl; exact Ia3.out) | ((with_reducible refine wpList_load_midG ?_ 32 (.tmp 27) ?_ (w.heap.size + 1) 3 ?_ (reqC b.req) _ ?_ Tryz.underlying32 ?_ ?_ ?_); rfl; rfl; rfl; exact Rb3.out _ bl; rfl; exact Ib3.out) | (go_at_call 134; refine (HE.out _ HB.out).mono ?_; rintro E w3 ⟨rfl, hb3⟩; have HB3 := iq hb3; clear hb3) | ((with_reducible refine wpList_load_midG ?_ 30 (.tmp 39) ?_ w.heap.size 44 ?_ (u8s a.dig) _ ?_ Tryz.underlying30 ?_ ?_ ?_); rfl; rfl; rfl; exact Ra5.out _ HB3.out; rfl; exact Ia5.out) | ((with_reducible refine wpList_load_midG ?_ 30 (.tmp 41) ?_ (w.heap.size + 1) 44 ?_ (u8s b.dig) _ ?_ Tryz.underlying30 ?_ ?_ ?_); rfl; rfl; rfl; exact Rb5.out _ HB3.out; rfl; exact Ib5.out))
     go_ret
     exact ⟨⟨false, rfl, by simp only [Bool.false_eq_true, false_iff]; exact fun h => G3.out h.2.2.2.1⟩, HB.out⟩
   ·have N2 := Y2
    have f2 : ¬ ((a.k : Int) = (b.k : Int)) := by omega
    have G2 := iq N2
    clear N2 Y2
    go_enter Tryz.func108, Tryz.ntmps108
    go_wp2_with (first | ((with_reducible refine wpList_load_midG ?_ 32 (.tmp 25) ?_ w.heap.size 3 ?_ (reqC a.req) _ ?_ Tryz.underlying32 ?_ ?_ ?_); rfl; rfl; rfl; exact Ra3.out _ bl; rfl; exact Ia3.out) | ((with_reducible refine wpList_load_midG ?_ 32 (.tmp 27) ?_ (w.heap.size + 1) 3 ?_ (reqC b.req) _ ?_ Tryz.underlying32 ?_ ?_ ?_); rfl; rfl; rfl; exact Rb3.out _ bl; rfl; exact Ib3.out) | (go_at_call 134; refine (HE.out _ HB.out).mono ?_; rintro E w3 ⟨rfl, hb3⟩; have HB3 := iq hb3; clear hb3) | ((with_reducible refine wpList_load_midG ?_ 30 (.tmp 39) ?_ w.heap.size 44 ?_ (u8s a.dig) _ ?_ Tryz.underlying30 ?_ ?_ ?_); rfl; rfl; rfl; exact Ra5.out _ HB3.out; rfl; exact Ia5.out) | ((with_reducible refine wpList_load_midG ?_ 30 (.tmp 41) ?_ (w.heap.size + 1) 44 ?_ (u8s b.dig) _ ?_ Tryz.underlying30 ?_ ?_ ?_); rfl; rfl; rfl; exact Rb5.out _ HB3.out; rfl; exact Ib5.out))
    go_ret
    exact ⟨⟨false, rfl, by simp only [Bool.false_eq_true, false_iff]; exact fun h => G2.out h.2.2.1⟩, HB.out⟩
  ·have N1 := Y1
   have f1 : ¬ ((a.view : Int) = (b.view : Int)) := by omega
   have G1 := iq N1
   clear N1 Y1
   go_enter Tryz.func108, Tryz.ntmps108
   go_wp2_with (first | ((with_reducible refine wpList_load_midG ?_ 32 (.tmp 25) ?_ w.heap.size 3 ?_ (reqC a.req) _ ?_ Tryz.underlying32 ?_ ?_ ?_); rfl; rfl; rfl; exact Ra3.out _ bl; rfl; exact Ia3.out) | ((with_reducible refine wpList_load_midG ?_ 32 (.tmp 27) ?_ (w.heap.size + 1) 3 ?_ (reqC b.req) _ ?_ Tryz.underlying32 ?_ ?_ ?_); rfl; rfl; rfl; exact Rb3.out _ bl; rfl; exact Ib3.out) | (go_at_call 134; refine (HE.out _ HB.out).mono ?_; rintro E w3 ⟨rfl, hb3⟩; have HB3 := iq hb3; clear hb3) | ((with_reducible refine wpList_load_midG ?_ 30 (.tmp 39) ?_ w.heap.size 44 ?_ (u8s a.dig) _ ?_ Tryz.underlying30 ?_ ?_ ?_); rfl; rfl; rfl; exact Ra5.out _ HB3.out; rfl; exact Ia5.out) | ((with_reducible refine wpList_load_midG ?_ 30 (.tmp 41) ?_ (w.heap.size + 1) 44 ?_ (u8s b.dig) _ ?_ Tryz.underlying30 ?_ ?_ ?_); rfl; rfl; rfl; exact Rb5.out _ HB3.out; rfl; exact Ib5.out))
   go_ret
   exact ⟨⟨false, rfl, by simp only [Bool.false_eq_true, false_iff]; exact fun h => G1.out h.2.1⟩, HB.out⟩
 ·have N0 := Y0
  have f0 : ¬ ((a.kind.toNat : Int) = (b.kind.toNat : Int)) := ne_u8 N0
  have G0 := iq N0
  clear N0 Y0
  go_enter Tryz.func108, Tryz.ntmps108
  go_wp2_with (first | ((with_reducible refine wpList_load_midG ?_ 32 (.tmp 25) ?_ w.heap.size 3 ?_ (reqC a.req) _ ?_ Tryz.underlying32 ?_ ?_ ?_); rfl; rfl; rfl; exact Ra3.out _ bl; rfl; exact Ia3.out) | ((with_reducible refine wpList_load_midG ?_ 32 (.tmp 27) ?_ (w.heap.size + 1) 3 ?_ (reqC b.req) _ ?_ Tryz.underlying32 ?_ ?_ ?_); rfl; rfl; rfl; exact Rb3.out _ bl; rfl; exact Ib3.out) | (go_at_call 134; refine (HE.out _ HB.out).mono ?_; rintro E w3 ⟨rfl, hb3⟩; have HB3 := iq hb3; clear hb3) | ((with_reducible refine wpList_load_midG ?_ 30 (.tmp 39) ?_ w.heap.size 44 ?_ (u8s a.dig) _ ?_ Tryz.underlying30 ?_ ?_ ?_); rfl; rfl; rfl; exact Ra5.out _ HB3.out; rfl; exact Ia5.out) | ((with_reducible refine wpList_load_midG ?_ 30 (.tmp 41) ?_ (w.heap.size + 1) 44 ?_ (u8s b.dig) _ ?_ Tryz.underlying30 ?_ ?_ ?_); rfl; rfl; rfl; exact Rb5.out _ HB3.out; rfl; exact Ib5.out))
  go_ret
  exact ⟨⟨false, rfl, by simp only [Bool.false_eq_true, false_iff]; exact fun h => G0.out h.1⟩, HB.out⟩
def MMsg.same (a b : MMsg) : Prop := a.origin = b.origin /\ a.number = b.number /\ a.deps = b.deps /\ (a.body.kind = b.body.kind /\ a.body.same b.body) /\ a.tag = b.tag
theorem bool_of {P : Prop} {E : Ending} (h : ∃ z, E = .returned (.bool z) /\ (z = true ↔ P)) (p : P) : E = .returned (.bool true) := by
 obtain ⟨z, rfl, hz⟩ := h
 rw [hz.2 p]
theorem bool_not {P : Prop} {E : Ending} (h : ∃ z, E = .returned (.bool z) /\ (z = true ↔ P)) (p : ¬ P) : E = .returned (.bool false) := by
 obtain ⟨z, rfl, hz⟩ := h
 rw [Bool.eq_false_iff.2 fun e => p (hz.1 e)]
end Go.Proofs.YtknpcmadghkaaaaGreatDoor.Sh
