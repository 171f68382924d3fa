/-
  What is proved: LedgerNil's walk. Conditions as stated.
-/
import Derived.Test.YtejckimplihmiaaDoorLu
namespace Go.Proofs.YtejckimplihmiaaDoor
open Go.RowKit
set_option maxRecDepth 100000

set_option maxHeartbeats 4000000 in
theorem nil_walk (o : MOp) {w : World} (hv : Vars w) : Calls Tryd.prog 5 #[.agg (opC o).toArray] w fun E w' => E = .returned (.bool true) ∧ Below w.heap.size w w' := by
  have HW : Hid (∀ W, Below w.heap.size w W → Calls Tryd.prog 9 #[] W fun E w' => E = .returned (.bool true) ∧ Below W.heap.size W w') := Lib.hid fun W hb => works_any (hv.below hb)
  have g43 := Tryd.guard43
  have e1 : ∀ w, (Op.equalIn 10000 43 (.agg #[.int .i64 2, .string ⟨#[]⟩]) (.agg #[.int .i64 2, .string ⟨#[]⟩])).run Tryd.prog w = .ok true w := fun w => eq_rep_of (d := 9998) (2, ⟨#[]⟩) (2, ⟨#[]⟩) (by simp) w
  have HD : Hid (∀ W, Calls Tryd.prog 15 #[.pointer none, .agg (opC o).toArray] W fun E w' => E = .returned (.agg #[.int .i64 2, .string ⟨#[]⟩]) ∧ Below W.heap.size W w') := Lib.hid fun W => do_nil o W
  have HF : Hid (∀ W A, Ops W A [o] → Calls Tryd.prog 8 #[.slice A 1 1] W fun E w' => (∃ z, E = .returned (.bool z)) ∧ Below W.heap.size W w') := Lib.hid fun W A h => (few_any A 1 [o] W h (by simp)).mono fun E w' h => ⟨let ⟨z, hz, _⟩ := h.1; ⟨z, hz⟩, h.2⟩
  obtain ⟨K, hK⟩ : ∃ K : Int, K = o.kind.toNat := ⟨_, rfl⟩
  have hC : opC o = [.int .u8 K, .string o.key, .string o.value, .string o.old, .string o.to, .int .u64 (o.amount : Int)] := by rw [hK]; rfl
  have HO : Hid (Ops ((w.alloc (.cells [.int .u8 K, .string o.key, .string o.value, .string o.old, .string o.to, .int .u64 (o.amount : Int)].toArray 41)).alloc (.cells [.int .u8 K, .string o.key, .string o.value, .string o.old, .string o.to, .int .u64 (o.amount : Int)].toArray 41)) (some ⟨w.heap.size + 1, 0, none⟩) [o]) := Lib.hid fun _ => ⟨w.heap.size + 1, 0, rfl, by simp, fun j p hp => by
    obtain ⟨rfl, rfl⟩ : j = 0 ∧ p = o := by
      cases j with
      | zero => exact ⟨rfl, by simpa using hp.symm⟩
      | succ j => simp at hp
    rw [hC]
    exact range_all (two_new w _ _ _)⟩
  have HB : Hid (Below w.heap.size w ((w.alloc (.cells [.int .u8 K, .string o.key, .string o.value, .string o.old, .string o.to, .int .u64 (o.amount : Int)].toArray 41)).alloc (.cells [.int .u8 K, .string o.key, .string o.value, .string o.old, .string o.to, .int .u64 (o.amount : Int)].toArray 41)) ∧ ((w.alloc (.cells [.int .u8 K, .string o.key, .string o.value, .string o.old, .string o.to, .int .u64 (o.amount : Int)].toArray 41)).alloc (.cells [.int .u8 K, .string o.key, .string o.value, .string o.old, .string o.to, .int .u64 (o.amount : Int)].toArray 41)).heap[w.heap.size]? = some (.cells [.int .u8 K, .string o.key, .string o.value, .string o.old, .string o.to, .int .u64 (o.amount : Int)].toArray 41 (0, 0)) ∧ w.heap.size < ((w.alloc (.cells [.int .u8 K, .string o.key, .string o.value, .string o.old, .string o.to, .int .u64 (o.amount : Int)].toArray 41)).alloc (.cells [.int .u8 K, .string o.key, .string o.value, .string o.old, .string o.to, .int .u64 (o.amount : Int)].toArray 41)).heap.size) :=
    Lib.hid ⟨((Below.refl _ _).alloc (Nat.le_refl _) _).alloc (by simp) _, one_new w _ _ _, by simp; omega⟩
  rw [hC] at HD ⊢
  clear hC hK hv
  go_enter Tryd.func5, Tryd.ntmps5
  go_wp2_with (go_at_call 8; refine (HF.out _ _ HO.out).mono ?_)
  rintro E w1 ⟨⟨z, rfl⟩, b1⟩
  obtain ⟨hb, hc, hl⟩ := HB.out
  have H1 := Lib.hid (hb.trans (b1.mono hb.size))
  have HC := Lib.hid ((b1.block _ hl).trans hc)
  clear HB HO HF b1 hb hc hl
  cases z with
  | false =>
    clear HC
    go_wp2_with (go_at_call 9; refine (HW.out _ H1.out).mono ?_; rintro E w2 ⟨rfl, b2⟩)
    go_ret
    exact ⟨rfl, H1.out.trans (b2.mono H1.out.size)⟩
  | true =>
    have c0 : w1.cell? ⟨w.heap.size, 0, none⟩ = some (.int .u8 K) := block_cell HC.out 0 _ rfl
    have c1 : w1.cell? ⟨w.heap.size, 1, none⟩ = some (.string o.key) := block_cell HC.out 1 _ rfl
    have c2 : w1.cell? ⟨w.heap.size, 2, none⟩ = some (.string o.value) := block_cell HC.out 2 _ rfl
    have c3 : w1.cell? ⟨w.heap.size, 3, none⟩ = some (.string o.old) := block_cell HC.out 3 _ rfl
    have c4 : w1.cell? ⟨w.heap.size, 4, none⟩ = some (.string o.to) := block_cell HC.out 4 _ rfl
    have c5 : w1.cell? ⟨w.heap.size, 5, none⟩ = some (.int .u64 (o.amount : Int)) := block_cell HC.out 5 _ rfl
    clear HC
    go_wp2_with (go_at_call 15; refine (HD.out _).mono ?_)
    rintro E w2 ⟨rfl, b2⟩
    have H2 := Lib.hid (H1.out.trans (b2.mono H1.out.size))
    clear H1 b2 c0 c1 c2 c3 c4 c5 HD
    go_wp2_with (first
      | (go_at_call 18; refine (list_nil _).mono ?_; rintro E w3 ⟨rfl, rfl⟩)
      | (go_at_call 9; refine (HW.out _ H2.out).mono ?_; rintro E w4 ⟨rfl, b4⟩))
    go_ret
    exact ⟨rfl, H2.out.trans (b4.mono H2.out.size)⟩
end Go.Proofs.YtejckimplihmiaaDoor
