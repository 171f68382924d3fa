/-
  What is proved: requests of two clients with keys of their own: what the one is answered, and what its keys are, is the same without the other. Conditions as stated.
-/
import Derived.Test.YtflenghnmflenaaDoorSa
namespace Go.Proofs.YtflenghnmflenaaDoor
open Go.RowKit
set_option maxRecDepth 100000

def pk (s : Nat) (o : UInt8) : ByteArray := ⟨#[o, UInt8.ofNat (97 + s % 6)]⟩
def isP (k : ByteArray) : Bool := k.data.toList.head? == some (112 : UInt8)
def Ks : List ByteArray := (List.range 6).map (fun s => pk s 112) ++ (List.range 6).map (fun s => pk s 113)
theorem pk_mod (s : Nat) (o : UInt8) : pk s o = pk (s % 6) o := by unfold pk; rw [Nat.mod_mod]
theorem pk_p (s : Nat) : pk s 112 ∈ Ks ∧ isP (pk s 112) = true := ⟨List.mem_append_left _ (List.mem_map.2 ⟨s % 6, List.mem_range.2 (Nat.mod_lt _ (by omega)), (pk_mod s 112).symm⟩), rfl⟩
theorem pk_q (s : Nat) : pk s 113 ∈ Ks ∧ isP (pk s 113) = false := ⟨List.mem_append_right _ (List.mem_map.2 ⟨s % 6, List.mem_range.2 (Nat.mod_lt _ (by omega)), (pk_mod s 113).symm⟩), rfl⟩
/-- The request with a client and keys of its own. -/
def apq (o : UInt8) (cl : Int) (q : MRq) : MRq := ⟨cl, q.time, ⟨q.op.kind, pk q.op.key.size o, q.op.value, q.op.old, if q.op.kind = 5 then pk q.op.to.size o else q.op.to, q.op.amount⟩, q.tag⟩
structure Ap (T : List Lst) (xs : List It) (T2 : List Lst) (ys : List It) : Prop where
  last : lastOf T 1 = lastOf T2 1
  own : ys = mine isP xs
  among : Among Ks xs
  rise : Rise xs
  l1 : T.length = 8
  l2 : T2.length = 8
theorem Ap.small {T : List Lst} {xs : List It} {T2 : List Lst} {ys : List It} (H : Ap T xs T2 ys) : xs.length ≤ 12 := among_len H.rise H.among
theorem ap_among {o : UInt8} {cl : Int} {q : MRq} {xs : List It} (ho : ∀ s, pk s o ∈ Ks) (h : Among Ks xs) : Among Ks (doR xs (apq o cl q).op).2 :=
  among_do h (ho _) fun hk => by
    have hk' : q.op.kind = 5 := hk
    show (if q.op.kind = 5 then pk q.op.to.size o else q.op.to) ∈ Ks
    rw [if_pos hk']
    exact ho _
theorem Ap.odd {T : List Lst} {xs : List It} {T2 : List Lst} {ys : List It} (H : Ap T xs T2 ys) (q : MRq) : Ap (tR T xs (apq 113 2 q)).2.1 (tR T xs (apq 113 2 q)).2.2 T2 ys := by
  have hl : (tR T xs (apq 113 2 q)).2.1.length = 8 := by rw [tR_len, H.l1]
  have h1 : lastOf (tR T xs (apq 113 2 q)).2.1 1 = lastOf T 1 := by
    unfold tR
    repeat' split
    all_goals first
      | rfl
      | exact last_set_ne (c := 2) (c' := 1) (by omega) (by omega) (by omega) _
  rcases tR_xs T xs (apq 113 2 q) with e | e
  · rw [e]
    exact ⟨h1.trans H.last, H.own, H.among, H.rise, hl, H.l2⟩
  · rw [e]
    refine ⟨h1.trans H.last, ?_, ap_among (fun s => (pk_q s).1) H.among, do_rise H.rise _, hl, H.l2⟩
    rw [H.own]
    refine (mine_do_no H.rise (pk_q _).2 fun hk => ?_).symm
    have hk' : q.op.kind = 5 := hk
    show isP (if q.op.kind = 5 then pk q.op.to.size 113 else q.op.to) = false
    rw [if_pos hk']
    exact (pk_q _).2
theorem Ap.even {T : List Lst} {xs : List It} {T2 : List Lst} {ys : List It} (H : Ap T xs T2 ys) (q : MRq) :
    (tR T2 ys (apq 112 1 q)).1 = (tR T xs (apq 112 1 q)).1 ∧ Ap (tR T xs (apq 112 1 q)).2.1 (tR T xs (apq 112 1 q)).2.2 (tR T2 ys (apq 112 1 q)).2.1 (tR T2 ys (apq 112 1 q)).2.2 := by
  cases hm : mayQ (apq 112 1 q) with
  | false =>
    rw [tR_no hm, tR_no hm]
    exact ⟨rfl, H⟩
  | true =>
    have hc : (apq 112 1 q).client = 1 := rfl
    rcases Nat.lt_trichotomy (apq 112 1 q).time (lastOf T 1).1 with hx | hx | hx
    · rw [tR_low (T := T) hm (by rw [hc]; exact hx), tR_low (T := T2) hm (by rw [hc, ← H.last]; exact hx)]
      exact ⟨rfl, H⟩
    · rw [tR_at (T := T) hm (by rw [hc]; exact hx), tR_at (T := T2) hm (by rw [hc, ← H.last]; exact hx), hc, H.last]
      exact ⟨rfl, H⟩
    · have hd : doR (mine isP xs) (apq 112 1 q).op = ((doR xs (apq 112 1 q).op).1, mine isP (doR xs (apq 112 1 q).op).2) := mine_do H.rise (by have := H.small; omega) (pk_p _).2 fun hk => by
        have hk' : q.op.kind = 5 := hk
        show isP (if q.op.kind = 5 then pk q.op.to.size 112 else q.op.to) = true
        rw [if_pos hk']
        exact (pk_p _).2
      rw [tR_new (T := T) hm (by rw [hc]; exact hx), tR_new (T := T2) hm (by rw [hc, ← H.last]; exact hx), H.own, hd, hc]
      refine ⟨rfl, ?_, rfl, ap_among (fun s => (pk_p s).1) H.among, do_rise H.rise _, by simp [H.l1], by simp [H.l2]⟩
      exact (last_set (c := 1) H.l1 (by omega) _).trans (last_set (c := 1) H.l2 (by omega) _).symm
end Go.Proofs.YtflenghnmflenaaDoor
