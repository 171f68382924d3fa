/-
  What is proved: how a message lies in memory, field by field; what the small questions of package message answer. Conditions as stated.
-/
import Derived.Test.YtghjogneogkpoaaGreatDoorS8
import Derived.Test.YtghjogneogkpoaaGreatDoorS9
import Derived.BigQuiet
namespace Go.Proofs.YtghjogneogkpoaaGreatDoor.Sh
open Go.RowKit
set_option maxRecDepth 100000

structure MOp where
  kind : UInt8
  key : ByteArray
  value : ByteArray
  old : ByteArray
  to : ByteArray
  amount : Nat
structure MReq where
  client : Int
  time : Nat
  op : MOp
  tag : List UInt8
/-- A body; its pairs qs lie at qa, with room for qc. -/
structure MBody where
  kind : UInt8
  view : Nat
  k : Nat
  req : MReq
  qa : Option Addr
  qc : Nat
  qs : List (Int × Nat)
  dig : List UInt8
structure MMsg where
  origin : Int
  number : Nat
  deps : List Nat
  body : MBody
  tag : List UInt8

def u64s (l : List Nat) : List Value := l.map fun (n : Nat) => Value.int .u64 (n : Int)
theorem u64s_length (l : List Nat) : (u64s l).length = l.length := by simp [u64s]
def opC (o : MOp) : List Value := [.int .u8 (o.kind.toNat : Int), .string o.key, .string o.value, .string o.old, .string o.to, .int .u64 (o.amount : Int)]
def reqC (r : MReq) : List Value := .int .i64 r.client :: .int .u64 (r.time : Int) :: (opC r.op ++ u8s r.tag)
def MBody.qv (b : MBody) : Value := .slice b.qa b.qs.length b.qc
def bodyC (b : MBody) : List Value := .int .u8 (b.kind.toNat : Int) :: .int .u64 (b.view : Int) :: .int .u64 (b.k : Int) :: (reqC b.req ++ (b.qv :: u8s b.dig))
def msgC (m : MMsg) : List Value := .int .i64 m.origin :: .int .u64 (m.number : Int) :: (u64s m.deps ++ (bodyC m.body ++ u8s m.tag))
def MBody.Wf (b : MBody) : Prop := b.req.tag.length = 32 ∧ b.dig.length = 32
def MMsg.Wf (m : MMsg) : Prop := m.deps.length = 11 ∧ m.body.Wf ∧ m.tag.length = 32
theorem opC_length (o : MOp) : (opC o).length = 6 := rfl
theorem reqC_length {r : MReq} (h : r.tag.length = 32) : (reqC r).length = 40 := by simp [reqC, opC_length, u8s_length, h]
theorem bodyC_length {b : MBody} (h : b.Wf) : (bodyC b).length = 76 := by simp [bodyC, reqC_length h.1, u8s_length, h.2]
theorem msgC_length {m : MMsg} (h : m.Wf) : (msgC m).length = 121 := by simp [msgC, bodyC_length h.2.1, u8s_length, u64s_length, h.1, h.2.2]

theorem range_app {w : World} {g o : Nat} {a b : List Value} (h : w.rangeAt g o (a ++ b)) : w.rangeAt g o a ∧ w.rangeAt g (o + a.length) b :=
  ⟨fun j v hv => h j v (by rw [List.getElem?_append_left (List.getElem?_eq_some_iff.1 hv).1]; exact hv),
   fun j v hv => by
    have := h (a.length + j) v (by rw [List.getElem?_append_right (by omega)]; simpa using hv)
    rwa [← Nat.add_assoc] at this⟩
theorem range_cons {w : World} {g o : Nat} {a : Value} {b : List Value} (h : w.rangeAt g o (a :: b)) : w.cell? ⟨g, o, none⟩ = some a ∧ w.rangeAt g (o + 1) b :=
  ⟨h 0 a rfl, fun j v hv => by
    have := h (j + 1) v (by simpa using hv)
    rwa [show o + (j + 1) = o + 1 + j by omega] at this⟩

/-- A whole array or struct is loaded; the operation may be guarded. -/
theorem wpList_load_midG {P : Program} {ops : Array Oper} {rest : List Oper} {op : Oper} {a : Act} {w : World} {Q : Exit → Act → World → Prop} (hw : Region.wanted op (yielded ops a.tmps) = true) (ty : TypeId) (x : Operand) (ho : op.op = .load ty x)
    (b o : Nat) (hx : a.eval x = .pointer (some ⟨b, o, none⟩)) (cs : List Value) (d : TypeDesc) (hc : w.rangeAt b o cs)
    (hu : P.underlying ty = some d) (hd : d.isRow = true) (hi : (P.info? ty).map (·.size) = some cs.length)
    (h : wpList P ops Q rest (a.put op.dst (.agg cs.toArray)) w) : wpList P ops Q (op :: rest) a w :=
  wpList_step fun K hK => by
    rw [if_pos hw]
    exact wp_load_mid ty x ho b o hx cs d hc hu hd hi (hK _ _ h)

/-- An operation in block g from o on. -/
structure OpLies (w : World) (g o : Nat) (p : MOp) : Prop where
  kind : w.cell? ⟨g, o, none⟩ = some (.int .u8 (p.kind.toNat : Int))
  key : w.cell? ⟨g, o + 1, none⟩ = some (.string p.key)
  value : w.cell? ⟨g, o + 2, none⟩ = some (.string p.value)
  old : w.cell? ⟨g, o + 3, none⟩ = some (.string p.old)
  to : w.cell? ⟨g, o + 4, none⟩ = some (.string p.to)
  amount : w.cell? ⟨g, o + 5, none⟩ = some (.int .u64 (p.amount : Int))
  all : w.rangeAt g o (opC p)
theorem op_lies {w : World} {g o : Nat} {p : MOp} (h : w.rangeAt g o (opC p)) : OpLies w g o p :=
  ⟨h 0 _ rfl, h 1 _ rfl, h 2 _ rfl, h 3 _ rfl, h 4 _ rfl, h 5 _ rfl, h⟩
structure ReqLies (w : World) (g o : Nat) (r : MReq) : Prop where
  client : w.cell? ⟨g, o, none⟩ = some (.int .i64 r.client)
  time : w.cell? ⟨g, o + 1, none⟩ = some (.int .u64 (r.time : Int))
  op : OpLies w g (o + 2) r.op
  tag : w.rangeAt g (o + 8) (u8s r.tag)
  all : w.rangeAt g o (reqC r)
theorem req_lies {w : World} {g o : Nat} {r : MReq} (h : w.rangeAt g o (reqC r)) : ReqLies w g o r := by
  have h1 := range_cons h
  have h2 := range_cons h1.2
  have h3 := range_app h2.2
  exact ⟨h1.1, h2.1, op_lies h3.1, h3.2, h⟩
structure BodyLies (w : World) (g o : Nat) (b : MBody) : Prop where
  kind : w.cell? ⟨g, o, none⟩ = some (.int .u8 (b.kind.toNat : Int))
  view : w.cell? ⟨g, o + 1, none⟩ = some (.int .u64 (b.view : Int))
  k : w.cell? ⟨g, o + 2, none⟩ = some (.int .u64 (b.k : Int))
  req : ReqLies w g (o + 3) b.req
  q : w.cell? ⟨g, o + 43, none⟩ = some b.qv
  dig : w.rangeAt g (o + 44) (u8s b.dig)
  all : w.rangeAt g o (bodyC b)
theorem body_lies {w : World} {g o : Nat} {b : MBody} (h : w.rangeAt g o (bodyC b)) (hw : b.Wf) : BodyLies w g o b := by
  have h1 := range_cons h
  have h2 := range_cons h1.2
  have h3 := range_cons h2.2
  have h4 := range_app h3.2
  have h5 := range_cons h4.2
  rw [reqC_length hw.1] at h5
  exact ⟨h1.1, h2.1, h3.1, req_lies h4.1, h5.1, h5.2, h⟩
structure MsgLies (w : World) (g : Nat) (m : MMsg) : Prop where
  origin : w.cell? ⟨g, 0, none⟩ = some (.int .i64 m.origin)
  number : w.cell? ⟨g, 1, none⟩ = some (.int .u64 (m.number : Int))
  deps : w.rangeAt g 2 (u64s m.deps)
  body : BodyLies w g 13 m.body
  tag : w.rangeAt g 89 (u8s m.tag)
  all : w.rangeAt g 0 (msgC m)
theorem msg_lies {w : World} {g : Nat} {m : MMsg} (h : w.rangeAt g 0 (msgC m)) (hw : m.Wf) : MsgLies w g m := by
  have h1 := range_cons h
  have h2 := range_cons h1.2
  have h3 := range_app h2.2
  rw [u64s_length, hw.1] at h3
  have h4 := range_app h3.2
  rw [bodyC_length hw.2.1] at h4
  exact ⟨h1.1, h2.1, h3.1, body_lies h4.1 hw.2.1, h4.2, h⟩
/-- What a box holds. -/
theorem range_box (w : World) (C : List Value) (t : TypeId) : (w.alloc (.cells C.toArray t)).rangeAt w.heap.size 0 C := by
  intro j v hv
  rw [Nat.zero_add]
  exact cell_of_row _ _ j C.toArray t (0, 0) (heap_alloc_new w _) |>.trans (by simpa using hv)

theorem Tryz.is26 : (Tryz.prog.info? 26).map (·.size) = some 6 := by kernel_rfl
theorem Tryz.is29 : (Tryz.prog.info? 29).map (·.size) = some 40 := by kernel_rfl
theorem Tryz.is32 : (Tryz.prog.info? 32).map (·.size) = some 76 := by kernel_rfl
theorem Tryz.is34 : (Tryz.prog.info? 34).map (·.size) = some 121 := by kernel_rfl
theorem Tryz.is24 : (Tryz.prog.info? 24).map (·.size) = some 11 := by kernel_rfl

def isRepl (i : Int) : Bool := decide (1 ≤ i ∧ i ≤ 11)
def isNum (n : Nat) : Bool := decide (1 ≤ n ∧ n ≤ 65536)
def isCnt (n : Nat) : Bool := decide (1 ≤ n ∧ n ≤ 4611686018427387904)
theorem isReplica_ms (i : Int) (w : World) : Calls Tryz.prog 33 #[.int .i64 i] w fun E w' => E = .returned (.bool (isRepl i)) ∧ w = w' := by
  by_cases h1 : 1 ≤ i
  · have e : isRepl i = decide (i ≤ 11) := by simp [isRepl, h1]
    rw [e]
    clear e
    go_enter Tryz.func33, Tryz.ntmps33
    go_wp2
    go_ret
    exact ⟨rfl, rfl⟩
  · have e : isRepl i = false := by simp [isRepl, h1]
    rw [e]
    clear e
    go_enter Tryz.func33, Tryz.ntmps33
    go_wp2
    go_ret
    exact ⟨rfl, rfl⟩
theorem isNumber_ms (n : Nat) (w : World) : Calls Tryz.prog 60 #[.int .u64 (n : Int)] w fun E w' => E = .returned (.bool (isNum n)) ∧ w = w' := by
  by_cases h1 : 1 ≤ n
  · have e : isNum n = decide ((n : Int) ≤ 65536) := by rw [isNum]; congr 1; rw [eq_iff_iff]; omega
    rw [e]
    clear e
    go_enter Tryz.func60, Tryz.ntmps60
    go_wp2
    go_ret
    exact ⟨rfl, rfl⟩
  · have e : isNum n = false := by simp [isNum, h1]
    rw [e]
    clear e
    go_enter Tryz.func60, Tryz.ntmps60
    go_wp2
    go_ret
    exact ⟨rfl, rfl⟩
theorem isCount_ms (n : Nat) (w : World) : Calls Tryz.prog 55 #[.int .u64 (n : Int)] w fun E w' => E = .returned (.bool (isCnt n)) ∧ w = w' := by
  by_cases h1 : 1 ≤ n
  · have e : isCnt n = decide ((n : Int) ≤ 4611686018427387904) := by rw [isCnt]; congr 1; rw [eq_iff_iff]; omega
    rw [e]
    clear e
    go_enter Tryz.func55, Tryz.ntmps55
    go_wp2
    go_ret
    exact ⟨rfl, rfl⟩
  · have e : isCnt n = false := by simp [isCnt, h1]
    rw [e]
    clear e
    go_enter Tryz.func55, Tryz.ntmps55
    go_wp2
    go_ret
    exact ⟨rfl, rfl⟩

def opMay (o : MOp) : Bool := decide (o.key.size ≤ 32) && decide (o.to.size ≤ 32) && (decide (o.value.size ≤ 128) && decide (o.old.size ≤ 128))
theorem ret_bool {x y : Bool} (h : x = y) : Ending.returned (.bool x) = Ending.returned (.bool y) := by rw [h]
theorem mayOp_ms (o : MOp) (w : World) : Calls Tryz.prog 56 #[.agg (opC o).toArray] w fun E w' => E = .returned (.bool (opMay o)) ∧ Below w.heap.size w w' := by
  have L := op_lies (range_box w (opC o) 26)
  have HB : Hid (Below w.heap.size w (w.alloc (.cells (opC o).toArray 26))) := Lib.hid ((Below.refl _ _).alloc (Nat.le_refl _) _)
  have c1 : (w.alloc (.cells (opC o).toArray 26)).cell? ⟨w.heap.size, 1, none⟩ = some (.string o.key) := L.key
  have c2 : (w.alloc (.cells (opC o).toArray 26)).cell? ⟨w.heap.size, 2, none⟩ = some (.string o.value) := L.value
  have c3 : (w.alloc (.cells (opC o).toArray 26)).cell? ⟨w.heap.size, 3, none⟩ = some (.string o.old) := L.old
  have c4 : (w.alloc (.cells (opC o).toArray 26)).cell? ⟨w.heap.size, 4, none⟩ = some (.string o.to) := L.to
  clear L
  go_enter Tryz.func56, Tryz.ntmps56
  go_wp2_with fail
  all_goals
    go_ret
    refine ⟨ret_bool ?_, HB.out⟩
    rw [opMay, Bool.eq_iff_iff]
    simp only [Bool.and_eq_true, decide_eq_true_eq, Bool.false_eq_true, false_iff, not_and]
    omega

/-- May a request be? -/
def reqMay (r : MReq) : Bool := decide (1 ≤ r.client ∧ r.client ≤ 8) && (isCnt r.time && opMay r.op)
set_option maxHeartbeats 1000000 in
theorem asked_ms (r : MReq) (w : World) : Calls Tryz.prog 27 #[.agg (reqC r).toArray] w fun E w' => E = .returned (.bool (reqMay r)) ∧ Below w.heap.size w w' := by
  have L := req_lies (range_box w (reqC r) 29)
  have HB : Hid (Below w.heap.size w (w.alloc (.cells (reqC r).toArray 29))) := Lib.hid ((Below.refl _ _).alloc (Nat.le_refl _) _)
  have c0 : (w.alloc (.cells (reqC r).toArray 29)).cell? ⟨w.heap.size, 0, none⟩ = some (.int .i64 r.client) := L.client
  have c1 : (w.alloc (.cells (reqC r).toArray 29)).cell? ⟨w.heap.size, 1, none⟩ = some (.int .u64 (r.time : Int)) := L.time
  have HO : Hid ((w.alloc (.cells (reqC r).toArray 29)).rangeAt w.heap.size 2 (opC r.op)) := Lib.hid L.op.all
  have HC := Lib.hid (fun W => isCount_ms r.time W)
  have HM := Lib.hid (fun W => mayOp_ms r.op W)
  clear L
  unfold reqMay
  by_cases h1 : 1 ≤ r.client
  · by_cases h2 : r.client ≤ 8
    · rw [decide_eq_true (show 1 ≤ r.client ∧ r.client ≤ 8 from ⟨h1, h2⟩), Bool.true_and]
      generalize isCnt r.time = q at HC ⊢
      generalize opMay r.op = z at HM ⊢
      cases q
      · go_enter Tryz.func27, Tryz.ntmps27
        go_wp2_with (go_at_call 55; refine (HC.out _).mono ?_; rintro E w1 ⟨rfl, rfl⟩)
        go_ret
        exact ⟨rfl, HB.out⟩
      · go_enter Tryz.func27, Tryz.ntmps27
        go_wp2_with (first | ((with_reducible refine wpList_load_midG ?_ 26 (.tmp 17) ?_ w.heap.size 2 ?_ (opC r.op) _ ?_ Tryz.underlying26 ?_ ?_ ?_); (· rfl); (· rfl); (· rfl); (· exact HO.out); (· rfl); (· exact Tryz.is26)) | (go_at_call 55; refine (HC.out _).mono ?_; rintro E w1 ⟨rfl, rfl⟩) | (go_at_call 56; refine (HM.out _).mono ?_; rintro E w1 ⟨rfl, hb1⟩))
        go_ret
        exact ⟨rfl, HB.out.trans (hb1.mono (by simp))⟩
    · rw [decide_eq_false (show ¬ (1 ≤ r.client ∧ r.client ≤ 8) by omega), Bool.false_and]
      go_enter Tryz.func27, Tryz.ntmps27
      go_wp2_with fail
      go_ret
      exact ⟨rfl, HB.out⟩
  · rw [decide_eq_false (show ¬ (1 ≤ r.client ∧ r.client ≤ 8) by omega), Bool.false_and]
    go_enter Tryz.func27, Tryz.ntmps27
    go_wp2_with fail
    go_ret
    exact ⟨rfl, HB.out⟩
end Go.Proofs.YtghjogneogkpoaaGreatDoor.Sh
