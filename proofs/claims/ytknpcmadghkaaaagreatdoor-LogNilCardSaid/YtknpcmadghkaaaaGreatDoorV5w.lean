/- Laws and walks. -/
import Derived.Test.YtknpcmadghkaaaaGreatDoorV4w
set_option maxHeartbeats 16000000
set_option maxRecDepth 100000
namespace Go.Proofs.YtknpcmadghkaaaaGreatDoor.Sh
open Go.RowKit
theorem depsB_take {l : List Nat} {j : Nat} {x : Nat} (h : l[j]? = some x) : depsB (l.take (j + 1)) = depsB (l.take j) ++ be 8 x := by
 unfold depsB
 rw [List.take_add_one, h, List.flatMap_append]
 simp
theorem Tryz.is25 : (Tryz.prog.info? 25).map (·.size) = some 1 := by kernel_rfl
open Go.RowKit
theorem prsGo_all : ∀ (qs : List (Int × Nat)) (last : Int), prsGo last qs = true -> (∀ p ∈ qs, 1 <= p.1 /\ p.1 <= 11 /\ 1 <= p.2 /\ p.2 <= 65536) /\ (0 <= last -> last <= 11 -> (qs.length : Int) <= 11 - last)
 | [], last, _ => ⟨(fun p hp => by cases hp), fun _ h => by simp; omega⟩
 | p :: r, last, h => by
  simp only [prsGo, Bool.and_eq_true, decide_eq_true_eq, isRepl, isNum] at h
  obtain ⟨h1, h2, h3, h4⟩ := h
  have ih := prsGo_all r p.1 h4
  refine ⟨fun q hq => ?_, fun h0 h5 => ?_⟩
  ·rcases List.mem_cons.1 hq with rfl | hq
   ·exact ⟨h2.1, h2.2, h3.1, h3.2⟩
   ·exact ih.1 q hq
  ·have := ih.2 (by omega) (by omega)
   simp only [List.length_cons]
   omega
theorem prs_all {qs : List (Int × Nat)} (h : prsMay qs = true) : (∀ p ∈ qs, 1 <= p.1 /\ p.1 <= 11 /\ 1 <= p.2 /\ p.2 <= 65536) /\ qs.length <= 11 := by
 simp only [prsMay, Bool.and_eq_true] at h
 have := prsGo_all qs 0 h.1
 exact ⟨this.1, by have := this.2 (by omega) (by omega); omega⟩
theorem kinds_of {x : MBody} (h : kindMay x = true) : x.kind = 1 /\ reqMay x.req = true \/ x.kind = 2 \/ x.kind = 3 \/ x.kind = 5 \/ x.kind = 4 /\ prsMay x.qs = true \/ x.kind = 6 := by
 unfold kindMay at h
 split at h
 ·next e => exact .inl ⟨e, h⟩
 split at h
 ·next e => exact .inr (.inl e)
 split at h
 ·next e => rcases e with e | e <;> simp [e]
 split at h
 ·next e =>
  rw [Bool.and_eq_true] at h
  exact .inr (.inr (.inr (.inr (.inl ⟨e, h.2⟩))))
 split at h
 ·next e => simp [e]
 ·cases h
open Go.RowKit
theorem depsB_len (l : List Nat) : (depsB l).length = 8 * l.length := by
 induction l with
 | nil => rfl
 | cons a t ih => rw [depsB, List.flatMap_cons, List.length_append, be_length]; rw [depsB] at ih; rw [ih, List.length_cons]; omega
theorem pairsB_len (l : List (Int × Nat)) : (pairsB l).length = 9 * l.length := by
 induction l with
 | nil => rfl
 | cons a t ih => rw [pairsB, List.flatMap_cons, List.length_append, pairB_len]; rw [pairsB] at ih; rw [ih, List.length_cons]; omega
theorem bodyB_len {x : MBody} (hx : x.Wf) (h : kindMay x = true) : (bodyB x).length <= 500 := by
 rcases kinds_of h with ⟨e, hr⟩ | e | e | e | ⟨e, hp⟩ | e
 ·have := reqB_len hr
  simp [bodyB, e, be_length, hx.1]
  omega
 ·simp [bodyB, e, be_length]
 ·simp [bodyB, e, be_length]
 ·simp [bodyB, e, be_length]
 ·have := (prs_all hp).2
  simp [bodyB, e, be_length, pairsB_len]
  omega
 ·simp [bodyB, e, be_length, hx.2]
theorem msgB_len {m : MMsg} (hm : m.Wf) (h : m.may) : (msgB m).length <= 700 := by
 have := bodyB_len hm.2.1 h.2.2.1
 simp only [msgB, List.length_cons, List.length_append, depsB_len, hm.1]
 omega
end Go.Proofs.YtknpcmadghkaaaaGreatDoor.Sh
