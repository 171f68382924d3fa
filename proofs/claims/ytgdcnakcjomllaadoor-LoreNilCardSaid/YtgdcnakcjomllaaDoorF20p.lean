/-
  What is proved: whether messages are gone through. Conditions as stated.
-/
import Derived.Test.YtgdcnakcjomllaaDoorF19p
namespace Go.Proofs.YtgdcnakcjomllaaDoor.Sh
open Go.RowKit
set_option maxRecDepth 100000

/-- Messages that came in lie one behind the other. -/
def Ms (W : World) (A : Option Addr) (l : List MMsg) : Prop := (∀ m ∈ l, m.Wf) ∧ (0 < l.length → ∃ g o, A = some ⟨g, o, none⟩ ∧ g < W.heap.size ∧ ∀ (j : Nat) (m : MMsg), l[j]? = some m → W.rangeAt g (o + j * 121) (msgC m))
theorem Ms.below {W W' : World} {A : Option Addr} {l : List MMsg} (h : Ms W A l) (hb : Below W.heap.size W W') : Ms W' A l :=
  ⟨h.1, fun hn => let ⟨g, o, e, hl, hc⟩ := h.2 hn; ⟨g, o, e, Nat.lt_of_lt_of_le hl hb.size, fun j m hm => rangeAt_below' (hc j m hm) hl W' hb⟩⟩
theorem msgC_qa {W : World} {g o : Nat} {m : MMsg} (h : W.rangeAt g o (msgC m)) (hw : m.Wf) : W.cell? ⟨g, o + 56, none⟩ = some (.slice m.body.qa m.body.qs.length m.body.qc) := h 56 _ (msgC_q m hw)
set_option maxHeartbeats 2000000 in
theorem fewM_any (A : Option Addr) (c : Nat) (l : List MMsg) (w : World) (h : Ms w A l) (hl : l.length ≤ 1099511627776) :
    Calls Tryd.prog 4 #[.slice A l.length c] w fun E w' => ∃ z, E = .returned (.bool z) ∧ (z = true → l.length ≤ 30 ∧ ∀ m ∈ l, m.body.qs.length ≤ 20) ∧ w = w' := by
  have HM := Lib.hid h
  obtain ⟨n, hn⟩ : ∃ n, n = l.length := ⟨_, rfl⟩
  have HN := Lib.hid hn
  rw [← hn] at hl ⊢
  clear h hn
  go_enter Tryd.func4, Tryd.ntmps4
  by_cases h30 : (n : Int) > 30
  · have h30' : 30 < n := by omega
    go_wp2_with fail
    go_ret
    exact ⟨false, rfl, fun x => (by cases x), rfl⟩
  · have h30' : ¬ 30 < n := by omega
    have H30 : Hid (n ≤ 30) := Lib.hid (by omega)
    go_wp2_with fail
    go_loopw [3] (fun v3 wr => ∃ j : Nat, j ≤ n ∧ v3 = .int .i64 (j : Int) ∧ Hid (∀ m ∈ l.take j, m.body.qs.length ≤ 20) ∧ Hid (wr = w)) (fun v3 _ => n - (intOf v3).toNat)
    case atStart => exact ⟨0, by omega, rfl, Lib.hid (fun _ h => by simp at h), Lib.hid rfl⟩
    case round =>
      obtain ⟨j, hj, rfl, HQ, HW⟩ := hrel
      by_cases hjj : j < n
      · have hdec : decide ((j : Int) < (n : Int)) = true := decide_eq_true (by omega)
        have hj0 : (0 : Int) ≤ (j : Int) := by omega
        have hjn : (j : Int) < (n : Int) := by omega
        have htn : ((j : Int)).toNat = j := by omega
        have hw1 : IntKind.i64.wrap ((j : Int) + 1) = (j : Int) + 1 := by rw [IntKind.wrap_i64]; omega
        obtain ⟨m, hm⟩ : ∃ m, l[j]? = some m := ⟨_, List.getElem?_eq_getElem (by rw [← HN.out]; omega)⟩
        obtain ⟨g, o, rfl, _, hc⟩ := HM.out.2 (by rw [← HN.out]; omega)
        have hq := msgC_qa (hc j m hm) (HM.out.1 m (List.mem_of_getElem? hm))
        rw [← HW.out] at hq
        obtain ⟨k, hk⟩ : ∃ k, k = m.body.qs.length := ⟨_, rfl⟩
        rw [← hk] at hq
        have HT : Hid (k ≤ 20 → ∀ m ∈ l.take (j + 1), m.body.qs.length ≤ 20) := Lib.hid fun hle x hx => by
          rw [List.take_add_one, hm] at hx
          rcases List.mem_append.1 hx with hx | hx
          · exact HQ.out x hx
          · simp at hx; subst hx; omega
        clear hm hc hk HQ
        by_cases hk20 : (k : Int) > 20
        · have hk' : 20 < k := by omega
          go_wp2_with fail
          go_ret
          exact ⟨false, rfl, fun x => (by cases x), HW.out.symm⟩
        · have hk' : ¬ 20 < k := by omega
          have HQ2 := Lib.hid (HT.out (by omega))
          go_wp2_with fail
          go_roundw
          case measure => simp [intOf] <;> omega
          case rel => exact ⟨j + 1, by omega, by go_num, HQ2, HW⟩
      · obtain rfl : j = n := by omega
        go_wp2_with fail
        go_ret
        exact ⟨true, rfl, fun _ => ⟨H30.out, fun m hm => HQ.out m (by rw [HN.out, List.take_length]; exact hm)⟩, HW.out.symm⟩
end Go.Proofs.YtgdcnakcjomllaaDoor.Sh
