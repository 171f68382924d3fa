/-
  What is proved: a request told twice; two states that are the same but for the number. Conditions as stated.
-/
import Derived.Test.YtpageppjngbnpaaDoorGa
namespace Go.Proofs.YtpageppjngbnpaaDoor
open Go.RowKit
set_option maxRecDepth 100000

theorem Sh.wpAnyH_mono {P : Program} {md : Region.Mode} {ops : Array Oper} {Q : Exit → Act → World → Prop} {S S' : World → Prop} (hS : ∀ w, S' w → S w) : ∀ (fuel : Nat) (listed : Array Bool) (a : Act) (w : World), wpAnyH P md ops Q S' fuel listed a w → wpAnyH P md ops Q S fuel listed a w
  | 0, _, _, _, h => h
  | fuel + 1, _, _, _, h => ⟨h.1, fun i hi => wpOp_mono (fun a' w' h' => ⟨hS _ h'.1, wpAnyH_mono hS fuel _ a' w' h'.2⟩) (h.2 i hi)⟩

/-- From here on all memory that there is stays as it is. -/
theorem Sh.wpAnyH_next {P : Program} {md : Region.Mode} {ops : Array Oper} {Q : Exit → Act → World → Prop} {w0 w1 : World} (hb : Below w0.heap.size w0 w1) {fuel : Nat} {listed : Array Bool} {a : Act}
    (h : wpAnyH P md ops Q (fun W => Below w1.heap.size w1 W) fuel listed a w1) : wpAnyH P md ops Q (fun W => Below w0.heap.size w0 W) fuel listed a w1 :=
  wpAnyH_mono (fun _ h => hb.trans (h.mono hb.size)) _ _ _ _ h

/-- append of bytes that came in into an empty row with room, told whole. -/
theorem tR_twice {T : List Lst} (hT : T.length = 8) (xs : List It) (q : MRq) : (tR (tR T xs q).2.1 (tR T xs q).2.2 q).1.2 = false ∧ (tR (tR T xs q).2.1 (tR T xs q).2.2 q).2 = (tR T xs q).2 :=
  tR_old (tR_rise hT xs q).2
theorem tR_again {T : List Lst} (hT : T.length = 8) (xs : List It) (q : MRq) (h : (tR T xs q).1.2 = true) : (tR (tR T xs q).2.1 (tR T xs q).2.2 q).1.1 = (tR T xs q).1.1 := by
  cases hm : mayQ q with
  | false => rw [tR_no hm] at h; cases h
  | true =>
    have hl : (lastOf T q.client).1 < q.time := by rw [tR_done hm] at h; exact of_decide_eq_true h
    have hs := last_set hT (mayQ_iff.1 hm).1 (q.time, up (doR xs q.op).1)
    rw [tR_new hm hl]
    have := tR_at (T := T.set (q.client.toNat - 1) (q.time, up (doR xs q.op).1)) (xs := (doR xs q.op).2) hm (by rw [hs])
    rw [this, hs]
/-- The same but for the number. -/
def MSt.num (S : MSt) (n : Nat) : MSt := ⟨n, S.T, S.xs⟩
theorem MSt.num_next (S : MSt) (m : Nat) (q : MRq) (h : m + 1 < 18446744073709551616) : (S.num m).next q = (S.next q).num (m + 1) := by
  show MSt.mk _ _ _ = MSt.mk _ _ _
  rw [show (S.num m).n = m from rfl, Nat.mod_eq_of_lt h]
  rfl
theorem MSt.num_again (S : MSt) (hT : S.T.length = 8) (m : Nat) (q : MRq) (h : m + 1 < 18446744073709551616) : ((S.next q).num m).next q = (S.next q).num (m + 1) := by
  rw [MSt.num_next _ _ _ h]
  have h2 := (tR_twice hT S.xs q).2
  show MSt.mk _ (tR (tR S.T S.xs q).2.1 (tR S.T S.xs q).2.2 q).2.1 (tR (tR S.T S.xs q).2.1 (tR S.T S.xs q).2.2 q).2.2 = MSt.mk _ _ _
  rw [h2]
  rfl
theorem num_len (S : MSt) (m : Nat) : (stB (S.num m)).length = (stB S).length := by
  unfold stB MSt.num
  simp only [List.length_append, w8_length]
theorem num_drop (S : MSt) (m : Nat) : (stB (S.num m)).drop 8 = (stB S).drop 8 := by
  unfold stB MSt.num
  rw [List.drop_left' (w8_length _), List.drop_left' (w8_length _)]
theorem num_zero : S0.num 0 = S0 := rfl
theorem Bs.some {w : World} {A : Option Addr} {l : List UInt8} {c : Nat} (h : Bs w A l c) (h0 : 0 < l.length) : ∃ ad, A = some ad := by
  rcases A with _ | ad
  · have := (h.sl.1 rfl).1; omega
  · exact ⟨ad, rfl⟩
end Go.Proofs.YtpageppjngbnpaaDoor
