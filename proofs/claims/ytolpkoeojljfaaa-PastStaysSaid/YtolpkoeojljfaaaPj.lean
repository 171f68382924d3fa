/-
  What is proved: a step of what came in, done; of no past. Conditions as stated.
-/
import Derived.Test.YtolpkoeojljfaaaPi
namespace Go.Proofs.Ytolpkoeojljfaaa
open Go.RowKit
set_option maxRecDepth 100000

structure MStep where
  op : Nat
  v : Nat
  k : Nat
  long : Int
def stC (x : MStep) : List Value := [.int .u8 (x.op : Int), .int .u64 (x.v : Int), .int .u64 (x.k : Int), .int .i64 x.long]
structure MStep.Wf (x : MStep) : Prop where
  op : x.op < 256
  v : x.v < 18446744073709551616
  k : x.k < 18446744073709551616
  lo : -9223372036854775808 ≤ x.long
  hi : x.long ≤ 9223372036854775807
/-- What a step does. -/
def doR (p : MPast) (x : MStep) : Bool × MPast := if x.op % 4 = 0 then chg p x.v else if x.op % 4 = 1 then ent p x.v x.long else if x.op % 4 = 2 then prp p x.v else cmt p x.v x.k x.long
theorem PaIs.below {v W W' : World} {os : List Thing} {b : Nat} {p : MPast} (h : PaIs v W os b p) (hb : Below W.heap.size W W') : PaIs v W' os b p := let ⟨rv, mb, H⟩ := h; ⟨rv, mb, H.below hb⟩
theorem PaIs.alloc {v W : World} {os : List Thing} {b : Nat} {p : MPast} (h : PaIs v W os b p) (o : Obj) : PaIs v (W.alloc o) os b p := h.below ((Below.refl _ _).alloc (Nat.le_refl _) _)
set_option maxHeartbeats 1000000 in
theorem does_any {v W : World} {os : List Thing} {b : Nat} {p : MPast} (HP : PaIs v W os b p) {x : MStep} (hx : x.Wf) :
    Calls Try.prog 10 #[.pointer (some ⟨b, 0, none⟩), .agg (stC x).toArray] W fun E W' => E = .returned (.bool (doR p x).1) ∧ PaIs v W' os b (doR p x).2 := by
  have HB := HP.alloc (.cells (stC x).toArray 30)
  have K0 := Lib.hid (Change_any HB hx.v)
  have K1 := Lib.hid (Enter_any HB hx.v hx.hi)
  have K2 := Lib.hid (Prepare_any HB hx.v)
  have K3 := Lib.hid (Commit_any HB (k := x.k) hx.v hx.hi)
  obtain ⟨op, xv, xk, xl⟩ := x
  have hop : op < 256 := hx.op
  unfold doR
  simp only [stC] at K0 K1 K2 K3 ⊢
  clear HP HB hx
  by_cases h0 : op % 4 = 0
  · rw [if_pos h0]
    have e0 : ((op : Int) % 4 == 0) = true := by simp; omega
    go_enter Try.func10, Try.ntmps10
    go_wp2_with (go_at_call 17; refine K0.out.mono ?_; rintro E w1 ⟨rfl, h⟩; have h' := Lib.hid h; clear h)
    go_ret
    exact ⟨rfl, h'.out⟩
  · rw [if_neg h0]
    have e0 : ((op : Int) % 4 == 0) = false := by simp; omega
    by_cases h1 : op % 4 = 1
    · rw [if_pos h1]
      have e1 : ((op : Int) % 4 == 1) = true := by simp; omega
      go_enter Try.func10, Try.ntmps10
      go_wp2_with (go_at_call 18; refine K1.out.mono ?_; rintro E w1 ⟨rfl, h⟩; have h' := Lib.hid h; clear h)
      go_ret
      exact ⟨rfl, h'.out⟩
    · rw [if_neg h1]
      have e1 : ((op : Int) % 4 == 1) = false := by simp; omega
      by_cases h2 : op % 4 = 2
      · rw [if_pos h2]
        have e2 : ((op : Int) % 4 == 2) = true := by simp; omega
        go_enter Try.func10, Try.ntmps10
        go_wp2_with (go_at_call 20; refine K2.out.mono ?_; rintro E w1 ⟨rfl, h⟩; have h' := Lib.hid h; clear h)
        go_ret
        exact ⟨rfl, h'.out⟩
      · rw [if_neg h2]
        have e2 : ((op : Int) % 4 == 2) = false := by simp; omega
        go_enter Try.func10, Try.ntmps10
        go_wp2_with (go_at_call 16; refine K3.out.mono ?_; rintro E w1 ⟨rfl, h⟩; have h' := Lib.hid h; clear h)
        go_ret
        exact ⟨rfl, h'.out⟩
end Go.Proofs.Ytolpkoeojljfaaa
