/-
  What is proved: what Get answers of a message's own bytes, and of none. Conditions as stated.
-/
import Derived.Test.YtghjogneogkpoaaGreatDoorGmc
namespace Go.Proofs.YtghjogneogkpoaaGreatDoor.Sh
open Go.RowKit
set_option maxRecDepth 100000


theorem body_may_q (b : MBody) (A : Option Addr) (c : Nat) : ({ b with qa := A, qc := c } : MBody).may ↔ b.may := by
  have h : ∀ x : MBody, bodyOwn { x with qa := A, qc := c } = (if x.kind = 4 then { bodyOwn x with qa := A, qc := c } else bodyOwn x) := fun x => by
    unfold bodyOwn
    dsimp only
    by_cases h1 : x.kind = 1 <;> by_cases h2 : x.kind = 2 <;> by_cases h4 : x.kind = 4 <;> by_cases h6 : x.kind = 6 <;> simp_all
  unfold MBody.may
  rw [h b]
  split <;> exact Iff.rfl
theorem may_wq (m : MMsg) (A : Option Addr) (c : Nat) : (wq m A c).may ↔ m.may := and_congr_right fun _ => and_congr_right fun _ => body_may_q m.body A c
theorem rdMsg_put (m : MMsg) (r : List UInt8) (hm : m.Wf) (hmay : m.may) (ha : m.body.req.op.amount < 18446744073709551616) :
    wq (rdMsg (msgB m ++ r, false)).1 m.body.qa m.body.qc = { m with number := 0, tag := noTag } ∧ (rdMsg (msgB m ++ r, false)).2 = (r, false) := by
  obtain ⟨ho, hn, hb⟩ := hmay
  simp only [isRepl, decide_eq_true_eq] at ho
  have e : msgB m ++ r = byteOf m.origin :: (depsB m.deps ++ (m.body.kind :: (bodyB m.body ++ r))) := by simp [msgB]
  have hd := cDeps_put m.deps (m.body.kind :: (bodyB m.body ++ r)) (fun x hx => by have := hn.2.2 x hx; omega) [] 0 (depsB m.deps ++ (m.body.kind :: (bodyB m.body ++ r)), false) rfl
  rw [Nat.zero_add, List.nil_append, hm.1] at hd
  have hbody := rdBody_put m.body r hm.2.1 hb ha
  have hor : ((byteOf m.origin).toNat : Int) = m.origin := byteOf_nat (by omega)
  rw [e]
  simp only [rdMsg, cByte_put, hd, hbody.2, and_true]
  have h1 := hbody.1
  have hk : UInt8.ofNat m.body.kind.toNat = m.body.kind := by simp
  rw [hk]
  simp only [wq, depM]
  rw [hor]
  obtain ⟨o, n, d, b, t⟩ := m
  simp only at h1 hm ⊢
  rw [hm.1, h1]
  simp [zeroMsg]
/-- What Get reads: the message, and what is left. -/
def gotG (bs : List UInt8) : MMsg := gotM (cWord (bs, false)).1 (rdMsg (cWord (bs, false)).2).1 (cTag (rdMsg (cWord (bs, false)).2).2).1
def endG (bs : List UInt8) : Cst := (cTag (rdMsg (cWord (bs, false)).2).2).2
theorem get_put (m : MMsg) (hm : m.Wf) (hmay : m.may) (ha : m.body.req.op.amount < 18446744073709551616) (A : Option Addr) (c : Nat) : wq (gotG (putM m)) A c = wq m A c ∧ endG (putM m) = ([], false) := by
  have hnum := hmay.2.1.1
  simp only [isNum, decide_eq_true_eq] at hnum
  have e : putM m = be 8 m.number ++ (msgB m ++ m.tag) := by rw [putM, if_pos hmay]
  obtain ⟨h1, h2⟩ := rdMsg_put m m.tag hm hmay ha
  have h3 := cTag_put m.tag [] hm.2.2
  rw [List.append_nil] at h3
  constructor
  · simp only [gotG, e, cWord_put m.number _ (show m.number < 18446744073709551616 by omega), h2, h3]
    have : wq (rdMsg (msgB m ++ m.tag, false)).1 A c = wq { m with number := 0, tag := noTag } A c := by rw [← h1]; rfl
    have h4 : wq (gotM m.number (rdMsg (msgB m ++ m.tag, false)).1 m.tag) A c = gotM m.number (wq (rdMsg (msgB m ++ m.tag, false)).1 A c) m.tag := rfl
    rw [h4, this]
    rfl
  · simp only [endG, e, cWord_put m.number _ (show m.number < 18446744073709551616 by omega), h2, h3]
theorem depM_wf2 {o : Int} {l : List Nat} (h : l.length = 11) : (depM o l).Wf := depM_wf (by omega)
theorem rdBody_ok (k : Nat) (s : Cst) : (rdBody k s).1.Wf ∧ (rdBody k s).1.qs.length ≤ 255 := by
  unfold rdBody
  split
  · exact ⟨⟨cTag_len _, rfl⟩, Nat.zero_le _⟩
  split
  · exact ⟨⟨rfl, rfl⟩, Nat.zero_le _⟩
  split
  · exact ⟨⟨rfl, rfl⟩, Nat.zero_le _⟩
  split
  · refine ⟨⟨rfl, rfl⟩, ?_⟩
    have h1 := rdPairs_len (cByte (cWord s).2).1 (cByte (cWord s).2).2
    have h2 := cByte_lt (cWord s).2
    simp only [rdNewView]
    omega
  split
  · exact ⟨⟨rfl, cTag_len _⟩, Nat.zero_le _⟩
  · exact ⟨zero_wf, Nat.zero_le _⟩
theorem rdMsg_ok (s : Cst) : (rdMsg s).1.Wf ∧ (rdMsg s).1.body.qs.length ≤ 255 :=
  ⟨⟨(depM_wf2 (o := 0) (cDeps_len 11 (cByte s).2)).1, (rdBody_ok _ _).1, rfl⟩, (rdBody_ok _ _).2⟩
theorem get_ms (A : Option Addr) (N c : Nat) (bs : List UInt8) (w : World) (hr : Oct.Rd w A N bs) (hs : Oct.Sl A N c) (hN : N ≤ 140737488355328) :
    Calls Tryz.prog 21 #[.slice A N c] w fun E w' => ∃ A7 c7, E = .returned (.tuple #[.agg (msgC (wholeM (wq (gotG bs) A7 c7) (endG bs)).1).toArray, .int .i64 (wholeM (wq (gotG bs) A7 c7) (endG bs)).2]) ∧ QOw w.heap.size w' A7 c7 (gotG bs).body.qs ∧ Hid (Below w.heap.size w w') := by
  obtain ⟨hw, hl⟩ := rdMsg_ok (cWord (bs, false)).2
  exact get_gen A N c bs w _ (rdMsg (cWord (bs, false)).2).1 _ _ _ _ hr hs hN rfl rfl hw (fun W lo g h => cutTagged_ms h) (fun A7 c7 W lo g h B hq => whole_ms (gotM (cWord (bs, false)).1 (wq (rdMsg (cWord (bs, false)).2).1 A7 c7) (cTag (rdMsg (cWord (bs, false)).2).2).1) _ h ⟨hw.1, hw.2.1, cTag_len _⟩ hq.prs (by show (rdMsg (cWord (bs, false)).2).1.body.qs.length ≤ _; omega))
/-- Of a message's own bytes, Get answers the message. -/
theorem get_own (m : MMsg) (A : Option Addr) (N c : Nat) (w : World) (hm : m.Wf) (hmay : m.may) (ha : m.body.req.op.amount < 18446744073709551616) (hr : Oct.Rd w A N (putM m)) (hs : Oct.Sl A N c) (hN : N ≤ 140737488355328) :
    Calls Tryz.prog 21 #[.slice A N c] w fun E w' => ∃ A7 c7, E = .returned (.tuple #[.agg (msgC (wq m A7 c7)).toArray, .int .i64 0]) ∧ QOw w.heap.size w' A7 c7 m.body.qs ∧ Hid (Below w.heap.size w w') := by
  refine (get_ms A N c (putM m) w hr hs hN).mono fun E w' ⟨A7, c7, he, hq, hb⟩ => ⟨A7, c7, ?_, ?_, hb⟩
  · obtain ⟨h1, h2⟩ := get_put m hm hmay ha A7 c7
    rw [he, h1, h2, wholeM, if_pos ⟨rfl, rfl, (may_wq m A7 c7).2 hmay⟩]
  · have h1 := (get_put m hm hmay ha none 0).1
    have h2 := congrArg (fun x : MMsg => x.body.qs) h1
    have : (gotG (putM m)).body.qs = m.body.qs := h2
    rwa [this] at hq
theorem endG_nil : (endG []).2 = true := by kernel_rfl
theorem get_none (A : Option Addr) (c : Nat) (w : World) (hs : Oct.Sl A 0 c) :
    Calls Tryz.prog 21 #[.slice A 0 c] w fun E w' => E = .returned (.tuple #[.agg (msgC zeroMsg).toArray, .int .i64 5]) ∧ Hid (Below w.heap.size w w') := by
  refine (get_ms A 0 c [] w ⟨rfl, fun h => absurd h (by omega)⟩ hs (by omega)).mono fun E w' ⟨A7, c7, he, _, hb⟩ => ⟨?_, hb⟩
  rw [he, wholeM, if_neg (by rw [endG_nil]; simp)]
theorem Ow.oct {B n c : Nat} {w : World} {A : Option Addr} {bs : List UInt8} (h : Ow B w A n c bs) : Oct.Rd w A n bs ∧ Oct.Sl A n c := ⟨⟨h.rd.1, fun hn => let ⟨b, o, e, hb, _, hc⟩ := h.rd.2 hn; ⟨b, o, e, hb, hc⟩⟩, h.2⟩
end Go.Proofs.YtghjogneogkpoaaGreatDoor.Sh
