/-
  What is proved: a message that was got has memory of its own, any message (MessageOwn). Conditions as stated.
-/
import Derived.Test.YtghjogneogkpoaaGreatDoorGpc
namespace Go.Proofs.YtghjogneogkpoaaGreatDoor.Sh
open Go.RowKit
set_option maxRecDepth 100000


theorem may_qs {b : MBody} (h : b.may) : b.qs.length ≤ 11 := by
  obtain ⟨hk, _, hs⟩ := h
  have hq := hs.2.2.2.1
  rcases kinds_of hk with ⟨e, _⟩ | e | e | e | ⟨e, hp⟩ | e
  · simp [bodyOwn, e, zeroBody] at hq; simp [hq]
  · simp [bodyOwn, e, zeroBody] at hq; simp [hq]
  · simp [bodyOwn, e, zeroBody] at hq; simp [hq]
  · simp [bodyOwn, e, zeroBody] at hq; simp [hq]
  · exact (prs_all hp).2
  · simp [bodyOwn, e, zeroBody] at hq; simp [hq]
theorem putM_len {m : MMsg} (hm : m.Wf) (h : m.may) : (putM m).length ≤ 2000 := by
  have := msgB_len hm h
  rw [putM, if_pos h]
  simp only [List.length_append, be_length, hm.2.2]
  omega
open Classical in
theorem own_any (m : MMsg) (w : World) (hm : m.Wf) (hq : Prs w m.body.qa m.body.qs) (ha : m.body.req.op.amount < 18446744073709551616) (hk : KIs w) (h0 : 0 < w.heap.size) :
    Calls Tryz.prog 9 #[.agg (msgC m).toArray] w fun E w' => E = .returned (.bool true) ∧ Below w.heap.size w w' := by
  have K : ∀ {W}, Below w.heap.size w W → KIs W ∧ 0 < W.heap.size := fun h => ⟨hk.below h h0, Nat.lt_of_lt_of_le h0 h.size⟩
  have HW : Hid (∀ W, Below w.heap.size w W → Calls Tryz.prog 11 #[] W fun E w' => E = .returned (.bool true) ∧ Hid (Below W.heap.size W w')) := Lib.hid fun W h => works_any W (K h).1 (K h).2
  have HF0 : Hid (∀ W, Below w.heap.size w W → Calls Tryz.prog 10 #[.agg (msgC m).toArray] W fun E w' => (∃ z, E = .returned (.bool z) ∧ (z = true → m.body.qs.length ≤ 40)) ∧ Hid (Below W.heap.size W w')) := Lib.hid fun W _ => few_any m W hm
  by_cases h : m.may
  · have hl := may_qs h.2.2
    have hpl := putM_len hm h
    exact own_yes m (putM m) _ w hm (Lib.hid rfl) (Lib.hid hpl) (Lib.hid fun hl W hb => (put_ms m W hm (hq.below hb) (by omega)).mono fun _ _ ⟨A, n, c, he, ho, hb⟩ => ⟨A, n, c, he, Lib.hid ho, hb⟩)
      (Lib.hid fun A n c W B ho => (get_own m A n c W hm h ha ho.oct.1 ho.oct.2 (by have := ho.len; omega)).mono fun _ _ ⟨A7, c7, he, hq, hb⟩ => ⟨A7, c7, he, Lib.hid hq, hb⟩)
      (Lib.hid fun A c B W hqq hb => (same_rf (wq m A c) m W hm hm hqq.prs (hq.below hb) (by show m.body.qs.length ≤ _; omega) (by omega)).mono fun _ _ hE => ⟨bool_of hE.1 ⟨rfl, rfl, rfl, ⟨rfl, rfl, rfl, rfl, rfl, rfl⟩, rfl⟩, Lib.hid hE.2⟩) HF0 HW
  · refine own_no m w hm (Lib.hid fun hl W hb => (put_ms m W hm (hq.below hb) (by omega)).mono fun E w' ⟨A, n, c, he, ho, hb⟩ => ?_) HF0 HW
    rw [putM, if_neg h] at ho
    have hn : 0 = n := ho.len
    subst hn
    exact ⟨A, c, he, Lib.hid ho.oct.2, hb⟩
theorem own_in (W : World) (hk : KIs W) (h0 : 0 < W.heap.size) (v : Value) (h : ∃ m : MMsg, v = .agg (msgC m).toArray ∧ m.Wf ∧ Prs W m.body.qa m.body.qs ∧ m.body.req.op.amount < 18446744073709551616) :
    Calls Tryz.prog 9 #[v] W fun E w' => E = .returned (.bool true) ∧ Below W.heap.size W w' := by
  obtain ⟨m, rfl, hm, hq, ha⟩ := h
  exact own_any m W hm hq ha hk h0
end Go.Proofs.YtghjogneogkpoaaGreatDoor.Sh
