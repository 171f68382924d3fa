/-
  What is proved: what is got of more or of less than was put (MessageBack). Conditions as stated.
-/
import Derived.Test.YtghjogneogkpoaaGreatDoorGsc
namespace Go.Proofs.YtghjogneogkpoaaGreatDoor.Sh
open Go.RowKit
set_option maxRecDepth 100000


theorem cWord_lt (s : Cst) : (cWord s).1 < 18446744073709551616 := by
  have h1 := Oct.tkOut_length s.1 s.2 8
  have h2 := Oct.num_lt _ (Oct.tkOut s.1 s.2 8) rfl
  have h3 : 256 ^ (Oct.tkOut s.1 s.2 8).length ≤ 256 ^ 8 := Nat.pow_le_pow_right (by omega) (by simpa using h1)
  have h4 : (cWord s).1 = Oct.num (Oct.tkOut s.1 s.2 8) := rfl
  rw [h4]
  exact Nat.lt_of_lt_of_le h2 h3
theorem got_amount (bs : List UInt8) : (gotG bs).body.req.op.amount < 18446744073709551616 := by
  have : ∀ k s, (rdBody k s).1.req.op.amount < 18446744073709551616 := fun k s => by
    unfold rdBody
    repeat' split
    all_goals first | exact cWord_lt _ | exact Nat.zero_lt_succ _
  exact this _ _
theorem got_wf (bs : List UInt8) : (gotG bs).Wf := ⟨(rdMsg_ok _).1.1, (rdMsg_ok _).1.2.1, cTag_len _⟩
theorem end_more (m : MMsg) (r : List UInt8) (hm : m.Wf) (hmay : m.may) (ha : m.body.req.op.amount < 18446744073709551616) : endG (putM m ++ r) = (r, false) := by
  have hnum := hmay.2.1.1
  simp only [isNum, decide_eq_true_eq] at hnum
  have e : putM m ++ r = be 8 m.number ++ (msgB m ++ (m.tag ++ r)) := by rw [putM, if_pos hmay]; simp [List.append_assoc]
  obtain ⟨_, h2⟩ := rdMsg_put m (m.tag ++ r) hm hmay ha
  have h3 := cTag_put m.tag r hm.2.2
  simp only [endG, e, cWord_put m.number _ (show m.number < 18446744073709551616 by omega), h2, h3]
/-- No message may be read of them. -/
def NoMsg (bs : List UInt8) : Prop := ¬ (endG bs = ([], false) ∧ (gotG bs).may)
theorem get_bad (A : Option Addr) (N c : Nat) (bs : List UInt8) (w : World) (hr : Oct.Rd w A N bs) (hs : Oct.Sl A N c) (hN : N ≤ 140737488355328) (h : NoMsg bs) :
    Calls Tryz.prog 21 #[.slice A N c] w fun E w' => E = .returned (.tuple #[.agg (msgC zeroMsg).toArray, .int .i64 5]) ∧ Hid (Below w.heap.size w w') := by
  refine (get_ms A N c bs w hr hs hN).mono fun E w' ⟨A7, c7, he, _, hb⟩ => ⟨?_, hb⟩
  rw [he, wholeM, if_neg fun ⟨h1, h2, h3⟩ => h ⟨Prod.ext h2 h1, (may_wq _ _ _).1 h3⟩]
theorem get_good (A : Option Addr) (N c : Nat) (bs : List UInt8) (w : World) (hr : Oct.Rd w A N bs) (hs : Oct.Sl A N c) (hN : N ≤ 140737488355328) (h1 : endG bs = ([], false)) (h2 : (gotG bs).may) :
    Calls Tryz.prog 21 #[.slice A N c] w fun E w' => ∃ A7 c7, E = .returned (.tuple #[.agg (msgC (wq (gotG bs) A7 c7)).toArray, .int .i64 0]) ∧ QOw w.heap.size w' A7 c7 (gotG bs).body.qs ∧ Hid (Below w.heap.size w w') := by
  refine (get_ms A N c bs w hr hs hN).mono fun E w' ⟨A7, c7, he, hq, hb⟩ => ⟨A7, c7, ?_, hq, hb⟩
  rw [he, h1, wholeM, if_pos ⟨rfl, rfl, (may_wq _ _ _).2 h2⟩]
theorem no_cut (m : MMsg) (r : Nat) (hm : m.Wf) (hmay : m.may) (ha : m.body.req.op.amount < 18446744073709551616) (hr : r < (putM m).length) : NoMsg ((putM m).take r) := by
  rintro ⟨h1, h2⟩
  have hp := put_got h1 h2
  have h3 := end_more (gotG ((putM m).take r)) ((putM m).drop r) (got_wf _) h2 (got_amount _)
  rw [hp, List.take_append_drop, (get_put m hm hmay ha none 0).2] at h3
  have := congrArg (fun s : Cst => s.1.length) h3
  simp only [List.length_drop, List.length_nil] at this
  omega
theorem no_ext (m : MMsg) (hm : m.Wf) (hmay : m.may) (ha : m.body.req.op.amount < 18446744073709551616) : NoMsg (putM m ++ [0]) := by
  rintro ⟨h1, _⟩
  rw [end_more m [0] hm hmay ha] at h1
  cases h1
theorem put_same (o m : MMsg) (hmo : o.Wf) (ho : o.may) (hao : o.body.req.op.amount < 18446744073709551616) (hm : m.Wf) (hmay : m.may) (ha : m.body.req.op.amount < 18446744073709551616) : o.same m ↔ putM o = putM m := by
  constructor
  · intro h
    rw [putM, if_pos ho, putM, if_pos hmay]
    obtain ⟨h1, h2, h3, ⟨h4, h5⟩, h6⟩ := h
    obtain ⟨oo, on, od, ⟨k1, k2, k3, k4, k5, k6, k7, k8⟩, ot⟩ := o
    obtain ⟨mo, mn, md, ⟨l1, l2, l3, l4, l5, l6, l7, l8⟩, mt⟩ := m
    simp only [MBody.same] at h1 h2 h3 h4 h5 h6
    subst h1 h2 h3 h4 h6
    obtain ⟨rfl, rfl, rfl, rfl, rfl⟩ := h5
    rfl
  · intro h
    have a := (get_put o hmo ho hao none 0).1
    have b := (get_put m hm hmay ha none 0).1
    rw [h] at a
    have e := a.symm.trans b
    show (wq o none 0).same (wq m none 0)
    rw [e]
    exact ⟨rfl, rfl, rfl, ⟨rfl, rfl, rfl, rfl, rfl, rfl⟩, rfl⟩
theorem str_eq {a b : List UInt8} : str a = str b ↔ a = b :=
  ⟨fun h => by
    have := congrArg (fun x : ByteArray => x.data.toList) h
    simpa [str] using this, fun h => by rw [h]⟩
theorem append_fresh {w : World} {ops : Array Oper} {rest : List Oper} {o : Oper} {a : Act} {Q : Exit → Act → World → Prop} (hgd : o.guard = none) (s x : Operand)
    (ho : o.op = Op.call { callee := Callee.builtin Builtin.append, args := #[s, x], argTypes := #[38, 38] })
    (B m c : Nat) (A : Option Addr) (bs : List UInt8) (hs : a.eval s = .slice (some ⟨w.heap.size, 0, none⟩) 0 0) (hx : a.eval x = .slice A m c)
    (hr : Ow B w A m c bs) (hm : m ≤ 140737488355328)
    (h : ∀ A' c' w', Hid (Ow w.heap.size w' A' m c' bs) → Hid (Below w.heap.size w w') → wpList Tryz.prog ops Q rest (a.put o.dst (.slice A' m c')) w') :
    wpList Tryz.prog ops Q (o :: rest) a (w.alloc (.cells #[] 5)) := by
  have hown := World.ownsRow_lit w #[] 0 (base := w.heap.size) (e := 5) (size := 1) (Nat.le_refl _) (Nat.zero_le _) rfl
  have hb : Below w.heap.size w (w.alloc (.cells #[] 5)) := (Below.refl _ _).alloc (Nat.le_refl _) _
  refine wpList_append_gb hgd s x ho w.heap.size 0 m c _ A [] bs hs hx hown (hr.below hb).rd (hr.below hb).2 (by simp) (by omega) fun A' c' w' h1 h2 => ?_
  rw [Nat.zero_add, List.nil_append] at h1
  rw [Nat.zero_add]
  exact h A' c' w' (Lib.hid ⟨h1.out.1, h1.out.2⟩) (Lib.hid (hb.grown h2.out (by simp) fun k hk => (hown.lt k hk).1))
theorem append_zero {w wr : World} {ops : Array Oper} {rest : List Oper} {o : Oper} {a : Act} {Q : Exit → Act → World → Prop} (hgd : o.guard = none) (s x : Operand)
    (ho : o.op = Op.call { callee := Callee.builtin Builtin.append, args := #[s, x], argTypes := #[38, 38] })
    (n c : Nat) (A : Option Addr) (bs : List UInt8) (hs : a.eval s = .slice A n c) (hx : a.eval x = .slice (some ⟨wr.heap.size, 0, none⟩) 1 1)
    (hr : Ow w.heap.size wr A n c bs) (hb : Below w.heap.size w wr) (hm : n ≤ 100000)
    (h : ∀ A' c' w', Hid (Ow w.heap.size w' A' (n + 1) c' (bs ++ [0])) → Hid (Below w.heap.size w w') → wpList Tryz.prog ops Q rest (a.put o.dst (.slice A' (n + 1) c')) w') :
    wpList Tryz.prog ops Q (o :: rest) a (wr.alloc (.cells #[.int .u8 0] 5)) := by
  refine wpList_append_made hgd s x ho w.heap.size n 1 wr.heap.size _ bs [0] _ rfl hs hx hr.1 hb.size rfl rfl (by omega) fun A' c' w' h1 h2 => ?_
  exact h A' c' w' (Lib.hid ⟨h1.out.1, h1.out.2⟩) (Lib.hid (hb.grown h2.out hb.size fun k hk => (hr.1.lt k hk).1))
end Go.Proofs.YtghjogneogkpoaaGreatDoor.Sh
