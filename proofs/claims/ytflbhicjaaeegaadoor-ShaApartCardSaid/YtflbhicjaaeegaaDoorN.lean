/-
  What is proved: the walk of ShaNil for whatever comes in. Conditions as stated.
-/
import Derived.Test.YtflbhicjaaeegaaDoorI
namespace Go.Proofs.YtflbhicjaaeegaaDoor
open Go.RowKit

/-- What the examples say, as a walk asks it. -/
def Works : Prop := ∀ w : World, KIs w → 0 < w.heap.size → Calls Tryd.prog 11 #[] w fun E w' => E = .returned (.bool true) ∧ Below w.heap.size w w'

set_option maxHeartbeats 400000 in
theorem shaNil_by (d : List UInt8) (hd : d.length = 32) (A : Option Addr) (n c : Nat) (w : World) (hW : Works) (hk : KIs w) (h0 : 0 < w.heap.size)
    (s0 : ∀ w : World, KIs w → 0 < w.heap.size → Calls Tryd.prog 12 #[.slice none 0 0] w fun E w' => E = .returned (.agg (u8s d).toArray) ∧ Below w.heap.size w w')
    (s1 : ∀ w : World, KIs w → 0 < w.heap.size → Calls Tryd.prog 16 #[.pointer none] w fun E w' => E = .returned (.agg (u8s d).toArray) ∧ Below w.heap.size w w') :
    Calls Tryd.prog 6 #[.slice A n c] w fun E w' => E = .returned (.bool true) ∧ Below w.heap.size w w' := by
  have HK := Lib.hid hk
  have HW := Lib.hid hW
  have S0 := Lib.hid s0
  have S1 := Lib.hid s1
  have heq := eq_bytes d hd
  have hgd := Tryd.guard29
  clear hk hW s0 s1
  by_cases hn : 8192 < n
  · go_enter Tryd.func6, Tryd.ntmps6
    go_wp2_with (first
      | (go_at_call 11; refine (HW.out w HK.out h0).mono ?_; rintro E w1 ⟨rfl, hb1⟩))
    go_ret
    exact ⟨rfl, hb1⟩
  · go_enter Tryd.func6, Tryd.ntmps6
    go_wp2_with (first
      | (go_at_call 15; refine (nilWrite_any _ _ _ _).mono ?_; rintro E w' ⟨rfl, rfl⟩)
      | (go_at_call 16; refine (S1.out w HK.out h0).mono ?_; rintro E w1 ⟨rfl, hb1⟩)
      | (go_at_call 12; refine (S0.out w1 (HK.out.below hb1 h0) (Nat.lt_of_lt_of_le h0 hb1.size)).mono ?_; rintro E w2 ⟨rfl, hb2⟩; have hb3 := hb1.trans (hb2.mono hb1.size))
      | (go_at_call 11; refine (HW.out w2 (HK.out.below hb3 h0) (Nat.lt_of_lt_of_le h0 hb3.size)).mono ?_; rintro E w4 ⟨rfl, hb4⟩))
    go_ret
    exact ⟨rfl, hb3.trans (hb4.mono hb3.size)⟩

theorem shaNil_walk (hW : Works) (W : World) (hk : KIs W) (h0 : 0 < W.heap.size) (A : Option Addr) (n c : Nat) (_h : ∃ bs, Rd (fun _ => True) W A n bs ∧ Sl A n c) :
    Calls Tryd.prog 6 #[.slice A n c] W fun E w' => E = .returned (.bool true) ∧ Below W.heap.size W w' :=
  have hs : ∀ w : World, KIs w → 0 < w.heap.size → Calls Tryd.prog 12 #[.slice none 0 0] w fun E w' => E = .returned (.agg (u8s (sumOf [])).toArray) ∧ Below w.heap.size w w' := fun w hk h0 =>
    sum_any [] none 0 w (Rd.nil _ _ _) ⟨fun _ => ⟨rfl, rfl⟩, Nat.le_refl _, by omega⟩ (by simp) hk h0
  shaNil_by (sumOf []) (sumOf_length _) A n c W hW hk h0 hs fun w hk h0 => nilSum_by (sumOf []) w hk h0 (by rw [u8s_length, sumOf_length]) hs
end Go.Proofs.YtflbhicjaaeegaaDoor
