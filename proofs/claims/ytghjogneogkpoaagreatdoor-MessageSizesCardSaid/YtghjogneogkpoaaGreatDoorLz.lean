/-
  What is proved: whether a message is gone through (Few); how many bytes a message has (MessageSizes).
  What is proved: how many bytes a message has (MessageSizes).
  What is proved: how many bytes a message has, any message (MessageSizes). Conditions as stated.
-/
import Derived.Test.YtghjogneogkpoaaGreatDoorWb
import Derived.Test.YtghjogneogkpoaaGreatDoorFa
namespace Go.Proofs.YtghjogneogkpoaaGreatDoor.Sh
open Go.RowKit
set_option maxRecDepth 100000


def FewP (m : MMsg) (w : World) (E : Ending) (w' : World) : Prop := (∃ z, E = .returned (.bool z) ∧ (z = true → m.body.qs.length ≤ 40)) ∧ Hid (Below w.heap.size w w')
set_option maxHeartbeats 4000000 in
theorem few_any (m : MMsg) (w : World) (hm : m.Wf) : Calls Tryz.prog 10 #[.agg (msgC m).toArray] w fun E w' => FewP m w E w' := by
  have L := msg_lies (range_box w (msgC m) 34) hm
  have HB : Hid (Below w.heap.size w ((w.alloc (.cells (msgC m).toArray 34)).alloc (.cells #[.int .u8 (m.body.req.op.kind.toNat : Int), .string m.body.req.op.key, .string m.body.req.op.value, .string m.body.req.op.old, .string m.body.req.op.to, .int .u64 (m.body.req.op.amount : Int)] 26))) := Lib.hid (((Below.refl _ _).alloc (Nat.le_refl _) _).alloc (by simp) _)
  have c0 : (w.alloc (.cells (msgC m).toArray 34)).cell? ⟨w.heap.size, 18, none⟩ = some (.int .u8 (m.body.req.op.kind.toNat : Int)) := L.body.req.op.kind
  have c1 : (w.alloc (.cells (msgC m).toArray 34)).cell? ⟨w.heap.size, 19, none⟩ = some (.string m.body.req.op.key) := L.body.req.op.key
  have c2 : (w.alloc (.cells (msgC m).toArray 34)).cell? ⟨w.heap.size, 20, none⟩ = some (.string m.body.req.op.value) := L.body.req.op.value
  have c3 : (w.alloc (.cells (msgC m).toArray 34)).cell? ⟨w.heap.size, 21, none⟩ = some (.string m.body.req.op.old) := L.body.req.op.old
  have c4 : (w.alloc (.cells (msgC m).toArray 34)).cell? ⟨w.heap.size, 22, none⟩ = some (.string m.body.req.op.to) := L.body.req.op.to
  have c5 : (w.alloc (.cells (msgC m).toArray 34)).cell? ⟨w.heap.size, 23, none⟩ = some (.int .u64 (m.body.req.op.amount : Int)) := L.body.req.op.amount
  have q2 : ((w.alloc (.cells (msgC m).toArray 34)).alloc (.cells #[.int .u8 (m.body.req.op.kind.toNat : Int), .string m.body.req.op.key, .string m.body.req.op.value, .string m.body.req.op.old, .string m.body.req.op.to, .int .u64 (m.body.req.op.amount : Int)] 26)).cell? ⟨w.heap.size, 56, none⟩ = some (.slice m.body.qa m.body.qs.length m.body.qc) := (((Below.refl _ _).alloc (Nat.le_refl _) (.cells #[.int .u8 (m.body.req.op.kind.toNat : Int), .string m.body.req.op.key, .string m.body.req.op.value, .string m.body.req.op.old, .string m.body.req.op.to, .int .u64 (m.body.req.op.amount : Int)] 26) : Below (w.alloc (.cells (msgC m).toArray 34)).heap.size (w.alloc (.cells (msgC m).toArray 34)) _).cell (p := ⟨w.heap.size, 56, none⟩) (by simp)).trans L.body.q
  have k1 : ((w.alloc (.cells (msgC m).toArray 34)).alloc (.cells #[.int .u8 (m.body.req.op.kind.toNat : Int), .string m.body.req.op.key, .string m.body.req.op.value, .string m.body.req.op.old, .string m.body.req.op.to, .int .u64 (m.body.req.op.amount : Int)] 26)).cell? ⟨w.heap.size + 1, 1, none⟩ = some (.string m.body.req.op.key) := by simp
  have k2 : ((w.alloc (.cells (msgC m).toArray 34)).alloc (.cells #[.int .u8 (m.body.req.op.kind.toNat : Int), .string m.body.req.op.key, .string m.body.req.op.value, .string m.body.req.op.old, .string m.body.req.op.to, .int .u64 (m.body.req.op.amount : Int)] 26)).cell? ⟨w.heap.size + 1, 2, none⟩ = some (.string m.body.req.op.value) := by simp
  have k3 : ((w.alloc (.cells (msgC m).toArray 34)).alloc (.cells #[.int .u8 (m.body.req.op.kind.toNat : Int), .string m.body.req.op.key, .string m.body.req.op.value, .string m.body.req.op.old, .string m.body.req.op.to, .int .u64 (m.body.req.op.amount : Int)] 26)).cell? ⟨w.heap.size + 1, 3, none⟩ = some (.string m.body.req.op.old) := by simp
  have k4 : ((w.alloc (.cells (msgC m).toArray 34)).alloc (.cells #[.int .u8 (m.body.req.op.kind.toNat : Int), .string m.body.req.op.key, .string m.body.req.op.value, .string m.body.req.op.old, .string m.body.req.op.to, .int .u64 (m.body.req.op.amount : Int)] 26)).cell? ⟨w.heap.size + 1, 4, none⟩ = some (.string m.body.req.op.to) := by simp
  obtain ⟨n, hn⟩ : ∃ n, n = m.body.qs.length := ⟨_, rfl⟩
  have HNN := Lib.hid hn
  rw [← hn] at q2
  clear L hm hn
  obtain ⟨s1, h1⟩ : ∃ s, IntKind.i64.wrap ((m.body.req.op.key.size : Int) + (m.body.req.op.value.size : Int)) = s := ⟨_, rfl⟩
  obtain ⟨s2, h2⟩ : ∃ s, IntKind.i64.wrap (s1 + (m.body.req.op.old.size : Int)) = s := ⟨_, rfl⟩
  obtain ⟨s3, h3⟩ : ∃ s, IntKind.i64.wrap (s2 + (m.body.req.op.to.size : Int)) = s := ⟨_, rfl⟩
  by_cases hq : (n : Int) ≤ 40
  · have hqn : n ≤ 40 := by omega
    go_enter Tryz.func10, Tryz.ntmps10
    go_wp2_with fail
    go_ret
    exact ⟨⟨_, rfl, fun _ => by rw [← HNN.out]; exact hqn⟩, HB⟩
  · have hqn : ¬ (n ≤ 40) := by omega
    clear h1 h2 h3
    go_enter Tryz.func10, Tryz.ntmps10
    go_wp2_with fail
    go_ret
    exact ⟨⟨false, rfl, fun h => by cases h⟩, HB⟩
end Go.Proofs.YtghjogneogkpoaaGreatDoor.Sh

namespace Go.Proofs.YtghjogneogkpoaaGreatDoor.Sh
open Go.RowKit
set_option maxRecDepth 100000


theorem tagsLen (m : MMsg) (hm : m.Wf) : (msgB m).length = 90 + (bodyB m.body).length := by
  simp only [msgB, List.length_cons, List.length_append, depsB_len, hm.1]
  omega
set_option maxHeartbeats 8000000 in
theorem sizes_no (m : MMsg) (w : World) (hm : m.Wf) (HMY : Hid (m.body.qs.length ≤ 40 → ∀ W, Below w.heap.size w W → Calls Tryz.prog 13 #[.agg (msgC m).toArray] W fun E w' => E = .returned (.bool false) ∧ Hid (Below W.heap.size W w')))
    (HF : Hid (∀ W, Below w.heap.size w W → Calls Tryz.prog 10 #[.agg (msgC m).toArray] W fun E w' => (∃ z, E = .returned (.bool z) ∧ (z = true → m.body.qs.length ≤ 40)) ∧ Hid (Below W.heap.size W w')))
    (HW : Hid (∀ W, Below w.heap.size w W → Calls Tryz.prog 11 #[] W fun E w' => E = .returned (.bool true) ∧ Hid (Below W.heap.size W w'))) :
    Calls Tryz.prog 8 #[.agg (msgC m).toArray] w fun E w' => E = .returned (.bool true) ∧ Below w.heap.size w w' := by
  have HI : Hid ((Tryz.prog.info? 34).map (·.size) = some (msgC m).length) := Lib.hid (by rw [msgC_length hm]; exact Tryz.is34)
  have HL : Hid (RqAt w.heap.size w (msgC m) (w.alloc (.cells (msgC m).toArray 34))) := Lib.hid ⟨(Below.refl _ _).alloc (Nat.le_refl _) _, by simp, range_box w (msgC m) 34⟩
  have HMW := Lib.hid hm
  clear hm
  go_enter Tryz.func8, Tryz.ntmps8
  go_wp2_with (((with_reducible refine wpList_load_midG ?_ 34 (.tmp 1) ?_ w.heap.size 0 ?_ (msgC m) _ ?_ Tryz.underlying34 ?_ ?_ ?_); rotate_left; (· rfl); (· rfl); (· exact HL.out.src); (· rfl); (· exact HI.out); rotate_left; (· rfl)))
  go_at_call 10
  with_reducible refine (HF.out _ HL.out.bel).mono ?_
  rintro E w1 ⟨⟨z, rfl, hz⟩, hb1⟩
  have L1 := Lib.hid (HL.out.next (Nat.le_refl _) hb1.out)
  cases z
  · go_wp2_with ((go_at_call 11; (with_reducible refine (HW.out _ L1.out.bel).mono ?_); rintro E w7 ⟨rfl, hb7⟩; have L7 := Lib.hid (L1.out.next (Nat.le_refl _) hb7.out)))
    go_ret
    exact ⟨rfl, L7.out.bel⟩
  · have HZ := Lib.hid (hz rfl)
    clear hz
    go_wp2_with (first | ((with_reducible refine wpList_load_midG ?_ 34 (.tmp 1) ?_ w.heap.size 0 ?_ (msgC m) _ ?_ Tryz.underlying34 ?_ ?_ ?_); rotate_left; (· rfl); (· rfl); (· exact L1.out.src); (· rfl); (· exact HI.out); rotate_left; (· rfl)) | (go_at_call 13; (with_reducible refine (HMY.out HZ.out _ L1.out.bel).mono ?_); rintro E w2 ⟨rfl, hb2⟩; have L2 := Lib.hid (L1.out.next (Nat.le_refl _) hb2.out)) | (go_at_call 11; first | ((with_reducible refine (HW.out _ L2.out.bel).mono ?_); rintro E w7 ⟨rfl, hb7⟩; have L7 := Lib.hid (L2.out.next (Nat.le_refl _) hb7.out))))
    all_goals (go_ret; exact ⟨rfl, L7.out.bel⟩)
set_option maxHeartbeats 8000000 in
theorem sizes_2 (m : MMsg) (w : World) (hm : m.Wf) (nq : Nat) (HNQ : Hid (some m.body.qv = some (.slice m.body.qa nq m.body.qc))) (HKI : Hid (m.body.kind = 2))  (HMY : Hid (m.body.qs.length ≤ 40 → ∀ W, Below w.heap.size w W → Calls Tryz.prog 13 #[.agg (msgC m).toArray] W fun E w' => E = .returned (.bool true) ∧ Hid (Below W.heap.size W w')))
    (HBY : Hid (m.body.qs.length ≤ 40 → ∀ W, Below w.heap.size w W → Calls Tryz.prog 15 #[.agg (msgC m).toArray] W fun E w' => ∃ A c, E = .returned (.slice A (106) c) ∧ Hid (Below W.heap.size W w')))
    (HPU : Hid (m.body.qs.length ≤ 40 → ∀ W, Below w.heap.size w W → Calls Tryz.prog 17 #[.agg (msgC m).toArray] W fun E w' => ∃ A c, E = .returned (.slice A (106 + 40) c) ∧ Hid (Below W.heap.size W w')))
    (HF : Hid (∀ W, Below w.heap.size w W → Calls Tryz.prog 10 #[.agg (msgC m).toArray] W fun E w' => (∃ z, E = .returned (.bool z) ∧ (z = true → m.body.qs.length ≤ 40)) ∧ Hid (Below W.heap.size W w')))
    (HW : Hid (∀ W, Below w.heap.size w W → Calls Tryz.prog 11 #[] W fun E w' => E = .returned (.bool true) ∧ Hid (Below W.heap.size W w'))) :
    Calls Tryz.prog 8 #[.agg (msgC m).toArray] w fun E w' => E = .returned (.bool true) ∧ Below w.heap.size w w' := by
  have HI : Hid ((Tryz.prog.info? 34).map (·.size) = some (msgC m).length) := Lib.hid (by rw [msgC_length hm]; exact Tryz.is34)
  have HL : Hid (RqAt w.heap.size w (msgC m) (w.alloc (.cells (msgC m).toArray 34))) := Lib.hid ⟨(Below.refl _ _).alloc (Nat.le_refl _) _, by simp, range_box w (msgC m) 34⟩
  have HMW := Lib.hid hm
  clear hm
  go_enter Tryz.func8, Tryz.ntmps8
  go_wp2_with (((with_reducible refine wpList_load_midG ?_ 34 (.tmp 1) ?_ w.heap.size 0 ?_ (msgC m) _ ?_ Tryz.underlying34 ?_ ?_ ?_); rotate_left; (· rfl); (· rfl); (· exact HL.out.src); (· rfl); (· exact HI.out); rotate_left; (· rfl)))
  go_at_call 10
  with_reducible refine (HF.out _ HL.out.bel).mono ?_
  rintro E w1 ⟨⟨z, rfl, hz⟩, hb1⟩
  have L1 := Lib.hid (HL.out.next (Nat.le_refl _) hb1.out)
  cases z
  · go_wp2_with ((go_at_call 11; (with_reducible refine (HW.out _ L1.out.bel).mono ?_); rintro E w7 ⟨rfl, hb7⟩; have L7 := Lib.hid (L1.out.next (Nat.le_refl _) hb7.out)))
    go_ret
    exact ⟨rfl, L7.out.bel⟩
  · have HZ := Lib.hid (hz rfl)
    clear hz
    go_wp2_with (first | ((with_reducible refine wpList_load_midG ?_ 34 (.tmp 1) ?_ w.heap.size 0 ?_ (msgC m) _ ?_ Tryz.underlying34 ?_ ?_ ?_); rotate_left; (· rfl); (· rfl); (· exact L1.out.src); (· rfl); (· exact HI.out); rotate_left; (· rfl)) | (go_at_call 13; (with_reducible refine (HMY.out HZ.out _ L1.out.bel).mono ?_); rintro E w2 ⟨rfl, hb2⟩; have L2 := Lib.hid (L1.out.next (Nat.le_refl _) hb2.out); have c0 : w2.cell? ⟨w.heap.size, 18, none⟩ = some (.int .u8 (m.body.req.op.kind.toNat : Int)) := (msg_lies L2.out.src HMW.out).body.req.op.kind; have c1 : w2.cell? ⟨w.heap.size, 19, none⟩ = some (.string m.body.req.op.key) := (msg_lies L2.out.src HMW.out).body.req.op.key; have c2 : w2.cell? ⟨w.heap.size, 20, none⟩ = some (.string m.body.req.op.value) := (msg_lies L2.out.src HMW.out).body.req.op.value; have c3 : w2.cell? ⟨w.heap.size, 21, none⟩ = some (.string m.body.req.op.old) := (msg_lies L2.out.src HMW.out).body.req.op.old; have c4 : w2.cell? ⟨w.heap.size, 22, none⟩ = some (.string m.body.req.op.to) := (msg_lies L2.out.src HMW.out).body.req.op.to; have c5 : w2.cell? ⟨w.heap.size, 23, none⟩ = some (.int .u64 (m.body.req.op.amount : Int)) := (msg_lies L2.out.src HMW.out).body.req.op.amount; have L3 : Hid (RqAt w.heap.size w (msgC m) (w2.alloc (.cells #[.int .u8 (m.body.req.op.kind.toNat : Int), .string m.body.req.op.key, .string m.body.req.op.value, .string m.body.req.op.old, .string m.body.req.op.to, .int .u64 (m.body.req.op.amount : Int)] 26))) := Lib.hid (L2.out.next (Nat.le_refl _) ((Below.refl _ _).alloc (Nat.le_refl _) _)); have kk : (w2.alloc (.cells #[.int .u8 (m.body.req.op.kind.toNat : Int), .string m.body.req.op.key, .string m.body.req.op.value, .string m.body.req.op.old, .string m.body.req.op.to, .int .u64 (m.body.req.op.amount : Int)] 26)).cell? ⟨w.heap.size, 13, none⟩ = some (.int .u8 2) := (msg_lies L3.out.src HMW.out).body.kind.trans (by (rw [HKI.out]) <;> rfl); have kq : (w2.alloc (.cells #[.int .u8 (m.body.req.op.kind.toNat : Int), .string m.body.req.op.key, .string m.body.req.op.value, .string m.body.req.op.old, .string m.body.req.op.to, .int .u64 (m.body.req.op.amount : Int)] 26)).cell? ⟨w.heap.size, 56, none⟩ = some (.slice m.body.qa nq m.body.qc) := (msg_lies L3.out.src HMW.out).body.q.trans HNQ.out; have k1 : (w2.alloc (.cells #[.int .u8 (m.body.req.op.kind.toNat : Int), .string m.body.req.op.key, .string m.body.req.op.value, .string m.body.req.op.old, .string m.body.req.op.to, .int .u64 (m.body.req.op.amount : Int)] 26)).cell? ⟨w2.heap.size, 1, none⟩ = some (.string m.body.req.op.key) := (by simp); have k2 : (w2.alloc (.cells #[.int .u8 (m.body.req.op.kind.toNat : Int), .string m.body.req.op.key, .string m.body.req.op.value, .string m.body.req.op.old, .string m.body.req.op.to, .int .u64 (m.body.req.op.amount : Int)] 26)).cell? ⟨w2.heap.size, 2, none⟩ = some (.string m.body.req.op.value) := (by simp); have k3 : (w2.alloc (.cells #[.int .u8 (m.body.req.op.kind.toNat : Int), .string m.body.req.op.key, .string m.body.req.op.value, .string m.body.req.op.old, .string m.body.req.op.to, .int .u64 (m.body.req.op.amount : Int)] 26)).cell? ⟨w2.heap.size, 3, none⟩ = some (.string m.body.req.op.old) := (by simp); have k4 : (w2.alloc (.cells #[.int .u8 (m.body.req.op.kind.toNat : Int), .string m.body.req.op.key, .string m.body.req.op.value, .string m.body.req.op.old, .string m.body.req.op.to, .int .u64 (m.body.req.op.amount : Int)] 26)).cell? ⟨w2.heap.size, 4, none⟩ = some (.string m.body.req.op.to) := (by simp)) | ((with_reducible refine wpList_load_midG ?_ 34 (.tmp 1) ?_ w.heap.size 0 ?_ (msgC m) _ ?_ Tryz.underlying34 ?_ ?_ ?_); rotate_left; (· rfl); (· rfl); (· exact L3.out.src); (· rfl); (· exact HI.out); rotate_left; (· rfl)) | (go_at_call 15; (with_reducible refine (HBY.out HZ.out _ L3.out.bel).mono ?_); rintro E w5 ⟨A5, c5, rfl, hb5⟩; have L5 := Lib.hid (L3.out.next (Nat.le_refl _) hb5.out)) | ((with_reducible refine wpList_load_midG ?_ 34 (.tmp 1) ?_ w.heap.size 0 ?_ (msgC m) _ ?_ Tryz.underlying34 ?_ ?_ ?_); rotate_left; (· rfl); (· rfl); (· exact L5.out.src); (· rfl); (· exact HI.out); rotate_left; (· rfl)) | (go_at_call 17; (with_reducible refine (HPU.out HZ.out _ L5.out.bel).mono ?_); rintro E w6 ⟨A6, c6, rfl, hb6⟩; have L6 := Lib.hid (L5.out.next (Nat.le_refl _) hb6.out)) | (go_at_call 11; first | ((with_reducible refine (HW.out _ L6.out.bel).mono ?_); rintro E w7 ⟨rfl, hb7⟩; have L7 := Lib.hid (L6.out.next (Nat.le_refl _) hb7.out))))
    all_goals first
      | (go_ret; exact ⟨rfl, L7.out.bel⟩)
      | (exfalso; omega)
set_option maxHeartbeats 8000000 in
theorem sizes_3 (m : MMsg) (w : World) (hm : m.Wf) (nq : Nat) (HNQ : Hid (some m.body.qv = some (.slice m.body.qa nq m.body.qc))) (HKI : Hid (m.body.kind = 3))  (HMY : Hid (m.body.qs.length ≤ 40 → ∀ W, Below w.heap.size w W → Calls Tryz.prog 13 #[.agg (msgC m).toArray] W fun E w' => E = .returned (.bool true) ∧ Hid (Below W.heap.size W w')))
    (HBY : Hid (m.body.qs.length ≤ 40 → ∀ W, Below w.heap.size w W → Calls Tryz.prog 15 #[.agg (msgC m).toArray] W fun E w' => ∃ A c, E = .returned (.slice A (98) c) ∧ Hid (Below W.heap.size W w')))
    (HPU : Hid (m.body.qs.length ≤ 40 → ∀ W, Below w.heap.size w W → Calls Tryz.prog 17 #[.agg (msgC m).toArray] W fun E w' => ∃ A c, E = .returned (.slice A (98 + 40) c) ∧ Hid (Below W.heap.size W w')))
    (HF : Hid (∀ W, Below w.heap.size w W → Calls Tryz.prog 10 #[.agg (msgC m).toArray] W fun E w' => (∃ z, E = .returned (.bool z) ∧ (z = true → m.body.qs.length ≤ 40)) ∧ Hid (Below W.heap.size W w')))
    (HW : Hid (∀ W, Below w.heap.size w W → Calls Tryz.prog 11 #[] W fun E w' => E = .returned (.bool true) ∧ Hid (Below W.heap.size W w'))) :
    Calls Tryz.prog 8 #[.agg (msgC m).toArray] w fun E w' => E = .returned (.bool true) ∧ Below w.heap.size w w' := by
  have HI : Hid ((Tryz.prog.info? 34).map (·.size) = some (msgC m).length) := Lib.hid (by rw [msgC_length hm]; exact Tryz.is34)
  have HL : Hid (RqAt w.heap.size w (msgC m) (w.alloc (.cells (msgC m).toArray 34))) := Lib.hid ⟨(Below.refl _ _).alloc (Nat.le_refl _) _, by simp, range_box w (msgC m) 34⟩
  have HMW := Lib.hid hm
  clear hm
  go_enter Tryz.func8, Tryz.ntmps8
  go_wp2_with (((with_reducible refine wpList_load_midG ?_ 34 (.tmp 1) ?_ w.heap.size 0 ?_ (msgC m) _ ?_ Tryz.underlying34 ?_ ?_ ?_); rotate_left; (· rfl); (· rfl); (· exact HL.out.src); (· rfl); (· exact HI.out); rotate_left; (· rfl)))
  go_at_call 10
  with_reducible refine (HF.out _ HL.out.bel).mono ?_
  rintro E w1 ⟨⟨z, rfl, hz⟩, hb1⟩
  have L1 := Lib.hid (HL.out.next (Nat.le_refl _) hb1.out)
  cases z
  · go_wp2_with ((go_at_call 11; (with_reducible refine (HW.out _ L1.out.bel).mono ?_); rintro E w7 ⟨rfl, hb7⟩; have L7 := Lib.hid (L1.out.next (Nat.le_refl _) hb7.out)))
    go_ret
    exact ⟨rfl, L7.out.bel⟩
  · have HZ := Lib.hid (hz rfl)
    clear hz
    go_wp2_with (first | ((with_reducible refine wpList_load_midG ?_ 34 (.tmp 1) ?_ w.heap.size 0 ?_ (msgC m) _ ?_ Tryz.underlying34 ?_ ?_ ?_); rotate_left; (· rfl); (· rfl); (· exact L1.out.src); (· rfl); (· exact HI.out); rotate_left; (· rfl)) | (go_at_call 13; (with_reducible refine (HMY.out HZ.out _ L1.out.bel).mono ?_); rintro E w2 ⟨rfl, hb2⟩; have L2 := Lib.hid (L1.out.next (Nat.le_refl _) hb2.out); have c0 : w2.cell? ⟨w.heap.size, 18, none⟩ = some (.int .u8 (m.body.req.op.kind.toNat : Int)) := (msg_lies L2.out.src HMW.out).body.req.op.kind; have c1 : w2.cell? ⟨w.heap.size, 19, none⟩ = some (.string m.body.req.op.key) := (msg_lies L2.out.src HMW.out).body.req.op.key; have c2 : w2.cell? ⟨w.heap.size, 20, none⟩ = some (.string m.body.req.op.value) := (msg_lies L2.out.src HMW.out).body.req.op.value; have c3 : w2.cell? ⟨w.heap.size, 21, none⟩ = some (.string m.body.req.op.old) := (msg_lies L2.out.src HMW.out).body.req.op.old; have c4 : w2.cell? ⟨w.heap.size, 22, none⟩ = some (.string m.body.req.op.to) := (msg_lies L2.out.src HMW.out).body.req.op.to; have c5 : w2.cell? ⟨w.heap.size, 23, none⟩ = some (.int .u64 (m.body.req.op.amount : Int)) := (msg_lies L2.out.src HMW.out).body.req.op.amount; have L3 : Hid (RqAt w.heap.size w (msgC m) (w2.alloc (.cells #[.int .u8 (m.body.req.op.kind.toNat : Int), .string m.body.req.op.key, .string m.body.req.op.value, .string m.body.req.op.old, .string m.body.req.op.to, .int .u64 (m.body.req.op.amount : Int)] 26))) := Lib.hid (L2.out.next (Nat.le_refl _) ((Below.refl _ _).alloc (Nat.le_refl _) _)); have kk : (w2.alloc (.cells #[.int .u8 (m.body.req.op.kind.toNat : Int), .string m.body.req.op.key, .string m.body.req.op.value, .string m.body.req.op.old, .string m.body.req.op.to, .int .u64 (m.body.req.op.amount : Int)] 26)).cell? ⟨w.heap.size, 13, none⟩ = some (.int .u8 3) := (msg_lies L3.out.src HMW.out).body.kind.trans (by (rw [HKI.out]) <;> rfl); have kq : (w2.alloc (.cells #[.int .u8 (m.body.req.op.kind.toNat : Int), .string m.body.req.op.key, .string m.body.req.op.value, .string m.body.req.op.old, .string m.body.req.op.to, .int .u64 (m.body.req.op.amount : Int)] 26)).cell? ⟨w.heap.size, 56, none⟩ = some (.slice m.body.qa nq m.body.qc) := (msg_lies L3.out.src HMW.out).body.q.trans HNQ.out; have k1 : (w2.alloc (.cells #[.int .u8 (m.body.req.op.kind.toNat : Int), .string m.body.req.op.key, .string m.body.req.op.value, .string m.body.req.op.old, .string m.body.req.op.to, .int .u64 (m.body.req.op.amount : Int)] 26)).cell? ⟨w2.heap.size, 1, none⟩ = some (.string m.body.req.op.key) := (by simp); have k2 : (w2.alloc (.cells #[.int .u8 (m.body.req.op.kind.toNat : Int), .string m.body.req.op.key, .string m.body.req.op.value, .string m.body.req.op.old, .string m.body.req.op.to, .int .u64 (m.body.req.op.amount : Int)] 26)).cell? ⟨w2.heap.size, 2, none⟩ = some (.string m.body.req.op.value) := (by simp); have k3 : (w2.alloc (.cells #[.int .u8 (m.body.req.op.kind.toNat : Int), .string m.body.req.op.key, .string m.body.req.op.value, .string m.body.req.op.old, .string m.body.req.op.to, .int .u64 (m.body.req.op.amount : Int)] 26)).cell? ⟨w2.heap.size, 3, none⟩ = some (.string m.body.req.op.old) := (by simp); have k4 : (w2.alloc (.cells #[.int .u8 (m.body.req.op.kind.toNat : Int), .string m.body.req.op.key, .string m.body.req.op.value, .string m.body.req.op.old, .string m.body.req.op.to, .int .u64 (m.body.req.op.amount : Int)] 26)).cell? ⟨w2.heap.size, 4, none⟩ = some (.string m.body.req.op.to) := (by simp)) | ((with_reducible refine wpList_load_midG ?_ 34 (.tmp 1) ?_ w.heap.size 0 ?_ (msgC m) _ ?_ Tryz.underlying34 ?_ ?_ ?_); rotate_left; (· rfl); (· rfl); (· exact L3.out.src); (· rfl); (· exact HI.out); rotate_left; (· rfl)) | (go_at_call 15; (with_reducible refine (HBY.out HZ.out _ L3.out.bel).mono ?_); rintro E w5 ⟨A5, c5, rfl, hb5⟩; have L5 := Lib.hid (L3.out.next (Nat.le_refl _) hb5.out)) | ((with_reducible refine wpList_load_midG ?_ 34 (.tmp 1) ?_ w.heap.size 0 ?_ (msgC m) _ ?_ Tryz.underlying34 ?_ ?_ ?_); rotate_left; (· rfl); (· rfl); (· exact L5.out.src); (· rfl); (· exact HI.out); rotate_left; (· rfl)) | (go_at_call 17; (with_reducible refine (HPU.out HZ.out _ L5.out.bel).mono ?_); rintro E w6 ⟨A6, c6, rfl, hb6⟩; have L6 := Lib.hid (L5.out.next (Nat.le_refl _) hb6.out)) | (go_at_call 11; first | ((with_reducible refine (HW.out _ L6.out.bel).mono ?_); rintro E w7 ⟨rfl, hb7⟩; have L7 := Lib.hid (L6.out.next (Nat.le_refl _) hb7.out))))
    all_goals first
      | (go_ret; exact ⟨rfl, L7.out.bel⟩)
      | (exfalso; omega)
set_option maxHeartbeats 8000000 in
theorem sizes_5 (m : MMsg) (w : World) (hm : m.Wf) (nq : Nat) (HNQ : Hid (some m.body.qv = some (.slice m.body.qa nq m.body.qc))) (HKI : Hid (m.body.kind = 5))  (HMY : Hid (m.body.qs.length ≤ 40 → ∀ W, Below w.heap.size w W → Calls Tryz.prog 13 #[.agg (msgC m).toArray] W fun E w' => E = .returned (.bool true) ∧ Hid (Below W.heap.size W w')))
    (HBY : Hid (m.body.qs.length ≤ 40 → ∀ W, Below w.heap.size w W → Calls Tryz.prog 15 #[.agg (msgC m).toArray] W fun E w' => ∃ A c, E = .returned (.slice A (98) c) ∧ Hid (Below W.heap.size W w')))
    (HPU : Hid (m.body.qs.length ≤ 40 → ∀ W, Below w.heap.size w W → Calls Tryz.prog 17 #[.agg (msgC m).toArray] W fun E w' => ∃ A c, E = .returned (.slice A (98 + 40) c) ∧ Hid (Below W.heap.size W w')))
    (HF : Hid (∀ W, Below w.heap.size w W → Calls Tryz.prog 10 #[.agg (msgC m).toArray] W fun E w' => (∃ z, E = .returned (.bool z) ∧ (z = true → m.body.qs.length ≤ 40)) ∧ Hid (Below W.heap.size W w')))
    (HW : Hid (∀ W, Below w.heap.size w W → Calls Tryz.prog 11 #[] W fun E w' => E = .returned (.bool true) ∧ Hid (Below W.heap.size W w'))) :
    Calls Tryz.prog 8 #[.agg (msgC m).toArray] w fun E w' => E = .returned (.bool true) ∧ Below w.heap.size w w' := by
  have HI : Hid ((Tryz.prog.info? 34).map (·.size) = some (msgC m).length) := Lib.hid (by rw [msgC_length hm]; exact Tryz.is34)
  have HL : Hid (RqAt w.heap.size w (msgC m) (w.alloc (.cells (msgC m).toArray 34))) := Lib.hid ⟨(Below.refl _ _).alloc (Nat.le_refl _) _, by simp, range_box w (msgC m) 34⟩
  have HMW := Lib.hid hm
  clear hm
  go_enter Tryz.func8, Tryz.ntmps8
  go_wp2_with (((with_reducible refine wpList_load_midG ?_ 34 (.tmp 1) ?_ w.heap.size 0 ?_ (msgC m) _ ?_ Tryz.underlying34 ?_ ?_ ?_); rotate_left; (· rfl); (· rfl); (· exact HL.out.src); (· rfl); (· exact HI.out); rotate_left; (· rfl)))
  go_at_call 10
  with_reducible refine (HF.out _ HL.out.bel).mono ?_
  rintro E w1 ⟨⟨z, rfl, hz⟩, hb1⟩
  have L1 := Lib.hid (HL.out.next (Nat.le_refl _) hb1.out)
  cases z
  · go_wp2_with ((go_at_call 11; (with_reducible refine (HW.out _ L1.out.bel).mono ?_); rintro E w7 ⟨rfl, hb7⟩; have L7 := Lib.hid (L1.out.next (Nat.le_refl _) hb7.out)))
    go_ret
    exact ⟨rfl, L7.out.bel⟩
  · have HZ := Lib.hid (hz rfl)
    clear hz
    go_wp2_with (first | ((with_reducible refine wpList_load_midG ?_ 34 (.tmp 1) ?_ w.heap.size 0 ?_ (msgC m) _ ?_ Tryz.underlying34 ?_ ?_ ?_); rotate_left; (· rfl); (· rfl); (· exact L1.out.src); (· rfl); (· exact HI.out); rotate_left; (· rfl)) | (go_at_call 13; (with_reducible refine (HMY.out HZ.out _ L1.out.bel).mono ?_); rintro E w2 ⟨rfl, hb2⟩; have L2 := Lib.hid (L1.out.next (Nat.le_refl _) hb2.out); have c0 : w2.cell? ⟨w.heap.size, 18, none⟩ = some (.int .u8 (m.body.req.op.kind.toNat : Int)) := (msg_lies L2.out.src HMW.out).body.req.op.kind; have c1 : w2.cell? ⟨w.heap.size, 19, none⟩ = some (.string m.body.req.op.key) := (msg_lies L2.out.src HMW.out).body.req.op.key; have c2 : w2.cell? ⟨w.heap.size, 20, none⟩ = some (.string m.body.req.op.value) := (msg_lies L2.out.src HMW.out).body.req.op.value; have c3 : w2.cell? ⟨w.heap.size, 21, none⟩ = some (.string m.body.req.op.old) := (msg_lies L2.out.src HMW.out).body.req.op.old; have c4 : w2.cell? ⟨w.heap.size, 22, none⟩ = some (.string m.body.req.op.to) := (msg_lies L2.out.src HMW.out).body.req.op.to; have c5 : w2.cell? ⟨w.heap.size, 23, none⟩ = some (.int .u64 (m.body.req.op.amount : Int)) := (msg_lies L2.out.src HMW.out).body.req.op.amount; have L3 : Hid (RqAt w.heap.size w (msgC m) (w2.alloc (.cells #[.int .u8 (m.body.req.op.kind.toNat : Int), .string m.body.req.op.key, .string m.body.req.op.value, .string m.body.req.op.old, .string m.body.req.op.to, .int .u64 (m.body.req.op.amount : Int)] 26))) := Lib.hid (L2.out.next (Nat.le_refl _) ((Below.refl _ _).alloc (Nat.le_refl _) _)); have kk : (w2.alloc (.cells #[.int .u8 (m.body.req.op.kind.toNat : Int), .string m.body.req.op.key, .string m.body.req.op.value, .string m.body.req.op.old, .string m.body.req.op.to, .int .u64 (m.body.req.op.amount : Int)] 26)).cell? ⟨w.heap.size, 13, none⟩ = some (.int .u8 5) := (msg_lies L3.out.src HMW.out).body.kind.trans (by (rw [HKI.out]) <;> rfl); have kq : (w2.alloc (.cells #[.int .u8 (m.body.req.op.kind.toNat : Int), .string m.body.req.op.key, .string m.body.req.op.value, .string m.body.req.op.old, .string m.body.req.op.to, .int .u64 (m.body.req.op.amount : Int)] 26)).cell? ⟨w.heap.size, 56, none⟩ = some (.slice m.body.qa nq m.body.qc) := (msg_lies L3.out.src HMW.out).body.q.trans HNQ.out; have k1 : (w2.alloc (.cells #[.int .u8 (m.body.req.op.kind.toNat : Int), .string m.body.req.op.key, .string m.body.req.op.value, .string m.body.req.op.old, .string m.body.req.op.to, .int .u64 (m.body.req.op.amount : Int)] 26)).cell? ⟨w2.heap.size, 1, none⟩ = some (.string m.body.req.op.key) := (by simp); have k2 : (w2.alloc (.cells #[.int .u8 (m.body.req.op.kind.toNat : Int), .string m.body.req.op.key, .string m.body.req.op.value, .string m.body.req.op.old, .string m.body.req.op.to, .int .u64 (m.body.req.op.amount : Int)] 26)).cell? ⟨w2.heap.size, 2, none⟩ = some (.string m.body.req.op.value) := (by simp); have k3 : (w2.alloc (.cells #[.int .u8 (m.body.req.op.kind.toNat : Int), .string m.body.req.op.key, .string m.body.req.op.value, .string m.body.req.op.old, .string m.body.req.op.to, .int .u64 (m.body.req.op.amount : Int)] 26)).cell? ⟨w2.heap.size, 3, none⟩ = some (.string m.body.req.op.old) := (by simp); have k4 : (w2.alloc (.cells #[.int .u8 (m.body.req.op.kind.toNat : Int), .string m.body.req.op.key, .string m.body.req.op.value, .string m.body.req.op.old, .string m.body.req.op.to, .int .u64 (m.body.req.op.amount : Int)] 26)).cell? ⟨w2.heap.size, 4, none⟩ = some (.string m.body.req.op.to) := (by simp)) | ((with_reducible refine wpList_load_midG ?_ 34 (.tmp 1) ?_ w.heap.size 0 ?_ (msgC m) _ ?_ Tryz.underlying34 ?_ ?_ ?_); rotate_left; (· rfl); (· rfl); (· exact L3.out.src); (· rfl); (· exact HI.out); rotate_left; (· rfl)) | (go_at_call 15; (with_reducible refine (HBY.out HZ.out _ L3.out.bel).mono ?_); rintro E w5 ⟨A5, c5, rfl, hb5⟩; have L5 := Lib.hid (L3.out.next (Nat.le_refl _) hb5.out)) | ((with_reducible refine wpList_load_midG ?_ 34 (.tmp 1) ?_ w.heap.size 0 ?_ (msgC m) _ ?_ Tryz.underlying34 ?_ ?_ ?_); rotate_left; (· rfl); (· rfl); (· exact L5.out.src); (· rfl); (· exact HI.out); rotate_left; (· rfl)) | (go_at_call 17; (with_reducible refine (HPU.out HZ.out _ L5.out.bel).mono ?_); rintro E w6 ⟨A6, c6, rfl, hb6⟩; have L6 := Lib.hid (L5.out.next (Nat.le_refl _) hb6.out)) | (go_at_call 11; first | ((with_reducible refine (HW.out _ L6.out.bel).mono ?_); rintro E w7 ⟨rfl, hb7⟩; have L7 := Lib.hid (L6.out.next (Nat.le_refl _) hb7.out))))
    all_goals first
      | (go_ret; exact ⟨rfl, L7.out.bel⟩)
      | (exfalso; omega)
set_option maxHeartbeats 8000000 in
theorem sizes_6 (m : MMsg) (w : World) (hm : m.Wf) (nq : Nat) (HNQ : Hid (some m.body.qv = some (.slice m.body.qa nq m.body.qc))) (HKI : Hid (m.body.kind = 6))  (HMY : Hid (m.body.qs.length ≤ 40 → ∀ W, Below w.heap.size w W → Calls Tryz.prog 13 #[.agg (msgC m).toArray] W fun E w' => E = .returned (.bool true) ∧ Hid (Below W.heap.size W w')))
    (HBY : Hid (m.body.qs.length ≤ 40 → ∀ W, Below w.heap.size w W → Calls Tryz.prog 15 #[.agg (msgC m).toArray] W fun E w' => ∃ A c, E = .returned (.slice A (130) c) ∧ Hid (Below W.heap.size W w')))
    (HPU : Hid (m.body.qs.length ≤ 40 → ∀ W, Below w.heap.size w W → Calls Tryz.prog 17 #[.agg (msgC m).toArray] W fun E w' => ∃ A c, E = .returned (.slice A (130 + 40) c) ∧ Hid (Below W.heap.size W w')))
    (HF : Hid (∀ W, Below w.heap.size w W → Calls Tryz.prog 10 #[.agg (msgC m).toArray] W fun E w' => (∃ z, E = .returned (.bool z) ∧ (z = true → m.body.qs.length ≤ 40)) ∧ Hid (Below W.heap.size W w')))
    (HW : Hid (∀ W, Below w.heap.size w W → Calls Tryz.prog 11 #[] W fun E w' => E = .returned (.bool true) ∧ Hid (Below W.heap.size W w'))) :
    Calls Tryz.prog 8 #[.agg (msgC m).toArray] w fun E w' => E = .returned (.bool true) ∧ Below w.heap.size w w' := by
  have HI : Hid ((Tryz.prog.info? 34).map (·.size) = some (msgC m).length) := Lib.hid (by rw [msgC_length hm]; exact Tryz.is34)
  have HL : Hid (RqAt w.heap.size w (msgC m) (w.alloc (.cells (msgC m).toArray 34))) := Lib.hid ⟨(Below.refl _ _).alloc (Nat.le_refl _) _, by simp, range_box w (msgC m) 34⟩
  have HMW := Lib.hid hm
  clear hm
  go_enter Tryz.func8, Tryz.ntmps8
  go_wp2_with (((with_reducible refine wpList_load_midG ?_ 34 (.tmp 1) ?_ w.heap.size 0 ?_ (msgC m) _ ?_ Tryz.underlying34 ?_ ?_ ?_); rotate_left; (· rfl); (· rfl); (· exact HL.out.src); (· rfl); (· exact HI.out); rotate_left; (· rfl)))
  go_at_call 10
  with_reducible refine (HF.out _ HL.out.bel).mono ?_
  rintro E w1 ⟨⟨z, rfl, hz⟩, hb1⟩
  have L1 := Lib.hid (HL.out.next (Nat.le_refl _) hb1.out)
  cases z
  · go_wp2_with ((go_at_call 11; (with_reducible refine (HW.out _ L1.out.bel).mono ?_); rintro E w7 ⟨rfl, hb7⟩; have L7 := Lib.hid (L1.out.next (Nat.le_refl _) hb7.out)))
    go_ret
    exact ⟨rfl, L7.out.bel⟩
  · have HZ := Lib.hid (hz rfl)
    clear hz
    go_wp2_with (first | ((with_reducible refine wpList_load_midG ?_ 34 (.tmp 1) ?_ w.heap.size 0 ?_ (msgC m) _ ?_ Tryz.underlying34 ?_ ?_ ?_); rotate_left; (· rfl); (· rfl); (· exact L1.out.src); (· rfl); (· exact HI.out); rotate_left; (· rfl)) | (go_at_call 13; (with_reducible refine (HMY.out HZ.out _ L1.out.bel).mono ?_); rintro E w2 ⟨rfl, hb2⟩; have L2 := Lib.hid (L1.out.next (Nat.le_refl _) hb2.out); have c0 : w2.cell? ⟨w.heap.size, 18, none⟩ = some (.int .u8 (m.body.req.op.kind.toNat : Int)) := (msg_lies L2.out.src HMW.out).body.req.op.kind; have c1 : w2.cell? ⟨w.heap.size, 19, none⟩ = some (.string m.body.req.op.key) := (msg_lies L2.out.src HMW.out).body.req.op.key; have c2 : w2.cell? ⟨w.heap.size, 20, none⟩ = some (.string m.body.req.op.value) := (msg_lies L2.out.src HMW.out).body.req.op.value; have c3 : w2.cell? ⟨w.heap.size, 21, none⟩ = some (.string m.body.req.op.old) := (msg_lies L2.out.src HMW.out).body.req.op.old; have c4 : w2.cell? ⟨w.heap.size, 22, none⟩ = some (.string m.body.req.op.to) := (msg_lies L2.out.src HMW.out).body.req.op.to; have c5 : w2.cell? ⟨w.heap.size, 23, none⟩ = some (.int .u64 (m.body.req.op.amount : Int)) := (msg_lies L2.out.src HMW.out).body.req.op.amount; have L3 : Hid (RqAt w.heap.size w (msgC m) (w2.alloc (.cells #[.int .u8 (m.body.req.op.kind.toNat : Int), .string m.body.req.op.key, .string m.body.req.op.value, .string m.body.req.op.old, .string m.body.req.op.to, .int .u64 (m.body.req.op.amount : Int)] 26))) := Lib.hid (L2.out.next (Nat.le_refl _) ((Below.refl _ _).alloc (Nat.le_refl _) _)); have kk : (w2.alloc (.cells #[.int .u8 (m.body.req.op.kind.toNat : Int), .string m.body.req.op.key, .string m.body.req.op.value, .string m.body.req.op.old, .string m.body.req.op.to, .int .u64 (m.body.req.op.amount : Int)] 26)).cell? ⟨w.heap.size, 13, none⟩ = some (.int .u8 6) := (msg_lies L3.out.src HMW.out).body.kind.trans (by (rw [HKI.out]) <;> rfl); have kq : (w2.alloc (.cells #[.int .u8 (m.body.req.op.kind.toNat : Int), .string m.body.req.op.key, .string m.body.req.op.value, .string m.body.req.op.old, .string m.body.req.op.to, .int .u64 (m.body.req.op.amount : Int)] 26)).cell? ⟨w.heap.size, 56, none⟩ = some (.slice m.body.qa nq m.body.qc) := (msg_lies L3.out.src HMW.out).body.q.trans HNQ.out; have k1 : (w2.alloc (.cells #[.int .u8 (m.body.req.op.kind.toNat : Int), .string m.body.req.op.key, .string m.body.req.op.value, .string m.body.req.op.old, .string m.body.req.op.to, .int .u64 (m.body.req.op.amount : Int)] 26)).cell? ⟨w2.heap.size, 1, none⟩ = some (.string m.body.req.op.key) := (by simp); have k2 : (w2.alloc (.cells #[.int .u8 (m.body.req.op.kind.toNat : Int), .string m.body.req.op.key, .string m.body.req.op.value, .string m.body.req.op.old, .string m.body.req.op.to, .int .u64 (m.body.req.op.amount : Int)] 26)).cell? ⟨w2.heap.size, 2, none⟩ = some (.string m.body.req.op.value) := (by simp); have k3 : (w2.alloc (.cells #[.int .u8 (m.body.req.op.kind.toNat : Int), .string m.body.req.op.key, .string m.body.req.op.value, .string m.body.req.op.old, .string m.body.req.op.to, .int .u64 (m.body.req.op.amount : Int)] 26)).cell? ⟨w2.heap.size, 3, none⟩ = some (.string m.body.req.op.old) := (by simp); have k4 : (w2.alloc (.cells #[.int .u8 (m.body.req.op.kind.toNat : Int), .string m.body.req.op.key, .string m.body.req.op.value, .string m.body.req.op.old, .string m.body.req.op.to, .int .u64 (m.body.req.op.amount : Int)] 26)).cell? ⟨w2.heap.size, 4, none⟩ = some (.string m.body.req.op.to) := (by simp)) | ((with_reducible refine wpList_load_midG ?_ 34 (.tmp 1) ?_ w.heap.size 0 ?_ (msgC m) _ ?_ Tryz.underlying34 ?_ ?_ ?_); rotate_left; (· rfl); (· rfl); (· exact L3.out.src); (· rfl); (· exact HI.out); rotate_left; (· rfl)) | (go_at_call 15; (with_reducible refine (HBY.out HZ.out _ L3.out.bel).mono ?_); rintro E w5 ⟨A5, c5, rfl, hb5⟩; have L5 := Lib.hid (L3.out.next (Nat.le_refl _) hb5.out)) | ((with_reducible refine wpList_load_midG ?_ 34 (.tmp 1) ?_ w.heap.size 0 ?_ (msgC m) _ ?_ Tryz.underlying34 ?_ ?_ ?_); rotate_left; (· rfl); (· rfl); (· exact L5.out.src); (· rfl); (· exact HI.out); rotate_left; (· rfl)) | (go_at_call 17; (with_reducible refine (HPU.out HZ.out _ L5.out.bel).mono ?_); rintro E w6 ⟨A6, c6, rfl, hb6⟩; have L6 := Lib.hid (L5.out.next (Nat.le_refl _) hb6.out)) | (go_at_call 11; first | ((with_reducible refine (HW.out _ L6.out.bel).mono ?_); rintro E w7 ⟨rfl, hb7⟩; have L7 := Lib.hid (L6.out.next (Nat.le_refl _) hb7.out))))
    all_goals first
      | (go_ret; exact ⟨rfl, L7.out.bel⟩)
      | (exfalso; omega)
set_option maxHeartbeats 8000000 in
theorem sizes_4 (m : MMsg) (w : World) (hm : m.Wf) (nq : Nat) (HNQ : Hid (some m.body.qv = some (.slice m.body.qa nq m.body.qc))) (HKI : Hid (m.body.kind = 4)) (hnq : nq ≤ 11) (HMY : Hid (m.body.qs.length ≤ 40 → ∀ W, Below w.heap.size w W → Calls Tryz.prog 13 #[.agg (msgC m).toArray] W fun E w' => E = .returned (.bool true) ∧ Hid (Below W.heap.size W w')))
    (HBY : Hid (m.body.qs.length ≤ 40 → ∀ W, Below w.heap.size w W → Calls Tryz.prog 15 #[.agg (msgC m).toArray] W fun E w' => ∃ A c, E = .returned (.slice A (90 + (9 + 9 * nq)) c) ∧ Hid (Below W.heap.size W w')))
    (HPU : Hid (m.body.qs.length ≤ 40 → ∀ W, Below w.heap.size w W → Calls Tryz.prog 17 #[.agg (msgC m).toArray] W fun E w' => ∃ A c, E = .returned (.slice A (90 + (9 + 9 * nq) + 40) c) ∧ Hid (Below W.heap.size W w')))
    (HF : Hid (∀ W, Below w.heap.size w W → Calls Tryz.prog 10 #[.agg (msgC m).toArray] W fun E w' => (∃ z, E = .returned (.bool z) ∧ (z = true → m.body.qs.length ≤ 40)) ∧ Hid (Below W.heap.size W w')))
    (HW : Hid (∀ W, Below w.heap.size w W → Calls Tryz.prog 11 #[] W fun E w' => E = .returned (.bool true) ∧ Hid (Below W.heap.size W w'))) :
    Calls Tryz.prog 8 #[.agg (msgC m).toArray] w fun E w' => E = .returned (.bool true) ∧ Below w.heap.size w w' := by
  have HI : Hid ((Tryz.prog.info? 34).map (·.size) = some (msgC m).length) := Lib.hid (by rw [msgC_length hm]; exact Tryz.is34)
  have HL : Hid (RqAt w.heap.size w (msgC m) (w.alloc (.cells (msgC m).toArray 34))) := Lib.hid ⟨(Below.refl _ _).alloc (Nat.le_refl _) _, by simp, range_box w (msgC m) 34⟩
  have HMW := Lib.hid hm
  clear hm
  go_enter Tryz.func8, Tryz.ntmps8
  go_wp2_with (((with_reducible refine wpList_load_midG ?_ 34 (.tmp 1) ?_ w.heap.size 0 ?_ (msgC m) _ ?_ Tryz.underlying34 ?_ ?_ ?_); rotate_left; (· rfl); (· rfl); (· exact HL.out.src); (· rfl); (· exact HI.out); rotate_left; (· rfl)))
  go_at_call 10
  with_reducible refine (HF.out _ HL.out.bel).mono ?_
  rintro E w1 ⟨⟨z, rfl, hz⟩, hb1⟩
  have L1 := Lib.hid (HL.out.next (Nat.le_refl _) hb1.out)
  cases z
  · go_wp2_with ((go_at_call 11; (with_reducible refine (HW.out _ L1.out.bel).mono ?_); rintro E w7 ⟨rfl, hb7⟩; have L7 := Lib.hid (L1.out.next (Nat.le_refl _) hb7.out)))
    go_ret
    exact ⟨rfl, L7.out.bel⟩
  · have HZ := Lib.hid (hz rfl)
    clear hz
    go_wp2_with (first | ((with_reducible refine wpList_load_midG ?_ 34 (.tmp 1) ?_ w.heap.size 0 ?_ (msgC m) _ ?_ Tryz.underlying34 ?_ ?_ ?_); rotate_left; (· rfl); (· rfl); (· exact L1.out.src); (· rfl); (· exact HI.out); rotate_left; (· rfl)) | (go_at_call 13; (with_reducible refine (HMY.out HZ.out _ L1.out.bel).mono ?_); rintro E w2 ⟨rfl, hb2⟩; have L2 := Lib.hid (L1.out.next (Nat.le_refl _) hb2.out); have c0 : w2.cell? ⟨w.heap.size, 18, none⟩ = some (.int .u8 (m.body.req.op.kind.toNat : Int)) := (msg_lies L2.out.src HMW.out).body.req.op.kind; have c1 : w2.cell? ⟨w.heap.size, 19, none⟩ = some (.string m.body.req.op.key) := (msg_lies L2.out.src HMW.out).body.req.op.key; have c2 : w2.cell? ⟨w.heap.size, 20, none⟩ = some (.string m.body.req.op.value) := (msg_lies L2.out.src HMW.out).body.req.op.value; have c3 : w2.cell? ⟨w.heap.size, 21, none⟩ = some (.string m.body.req.op.old) := (msg_lies L2.out.src HMW.out).body.req.op.old; have c4 : w2.cell? ⟨w.heap.size, 22, none⟩ = some (.string m.body.req.op.to) := (msg_lies L2.out.src HMW.out).body.req.op.to; have c5 : w2.cell? ⟨w.heap.size, 23, none⟩ = some (.int .u64 (m.body.req.op.amount : Int)) := (msg_lies L2.out.src HMW.out).body.req.op.amount; have L3 : Hid (RqAt w.heap.size w (msgC m) (w2.alloc (.cells #[.int .u8 (m.body.req.op.kind.toNat : Int), .string m.body.req.op.key, .string m.body.req.op.value, .string m.body.req.op.old, .string m.body.req.op.to, .int .u64 (m.body.req.op.amount : Int)] 26))) := Lib.hid (L2.out.next (Nat.le_refl _) ((Below.refl _ _).alloc (Nat.le_refl _) _)); have kk : (w2.alloc (.cells #[.int .u8 (m.body.req.op.kind.toNat : Int), .string m.body.req.op.key, .string m.body.req.op.value, .string m.body.req.op.old, .string m.body.req.op.to, .int .u64 (m.body.req.op.amount : Int)] 26)).cell? ⟨w.heap.size, 13, none⟩ = some (.int .u8 4) := (msg_lies L3.out.src HMW.out).body.kind.trans (by (rw [HKI.out]) <;> rfl); have kq : (w2.alloc (.cells #[.int .u8 (m.body.req.op.kind.toNat : Int), .string m.body.req.op.key, .string m.body.req.op.value, .string m.body.req.op.old, .string m.body.req.op.to, .int .u64 (m.body.req.op.amount : Int)] 26)).cell? ⟨w.heap.size, 56, none⟩ = some (.slice m.body.qa nq m.body.qc) := (msg_lies L3.out.src HMW.out).body.q.trans HNQ.out; have k1 : (w2.alloc (.cells #[.int .u8 (m.body.req.op.kind.toNat : Int), .string m.body.req.op.key, .string m.body.req.op.value, .string m.body.req.op.old, .string m.body.req.op.to, .int .u64 (m.body.req.op.amount : Int)] 26)).cell? ⟨w2.heap.size, 1, none⟩ = some (.string m.body.req.op.key) := (by simp); have k2 : (w2.alloc (.cells #[.int .u8 (m.body.req.op.kind.toNat : Int), .string m.body.req.op.key, .string m.body.req.op.value, .string m.body.req.op.old, .string m.body.req.op.to, .int .u64 (m.body.req.op.amount : Int)] 26)).cell? ⟨w2.heap.size, 2, none⟩ = some (.string m.body.req.op.value) := (by simp); have k3 : (w2.alloc (.cells #[.int .u8 (m.body.req.op.kind.toNat : Int), .string m.body.req.op.key, .string m.body.req.op.value, .string m.body.req.op.old, .string m.body.req.op.to, .int .u64 (m.body.req.op.amount : Int)] 26)).cell? ⟨w2.heap.size, 3, none⟩ = some (.string m.body.req.op.old) := (by simp); have k4 : (w2.alloc (.cells #[.int .u8 (m.body.req.op.kind.toNat : Int), .string m.body.req.op.key, .string m.body.req.op.value, .string m.body.req.op.old, .string m.body.req.op.to, .int .u64 (m.body.req.op.amount : Int)] 26)).cell? ⟨w2.heap.size, 4, none⟩ = some (.string m.body.req.op.to) := (by simp)) | ((with_reducible refine wpList_load_midG ?_ 34 (.tmp 1) ?_ w.heap.size 0 ?_ (msgC m) _ ?_ Tryz.underlying34 ?_ ?_ ?_); rotate_left; (· rfl); (· rfl); (· exact L3.out.src); (· rfl); (· exact HI.out); rotate_left; (· rfl)) | (go_at_call 15; (with_reducible refine (HBY.out HZ.out _ L3.out.bel).mono ?_); rintro E w5 ⟨A5, c5, rfl, hb5⟩; have L5 := Lib.hid (L3.out.next (Nat.le_refl _) hb5.out)) | ((with_reducible refine wpList_load_midG ?_ 34 (.tmp 1) ?_ w.heap.size 0 ?_ (msgC m) _ ?_ Tryz.underlying34 ?_ ?_ ?_); rotate_left; (· rfl); (· rfl); (· exact L5.out.src); (· rfl); (· exact HI.out); rotate_left; (· rfl)) | (go_at_call 17; (with_reducible refine (HPU.out HZ.out _ L5.out.bel).mono ?_); rintro E w6 ⟨A6, c6, rfl, hb6⟩; have L6 := Lib.hid (L5.out.next (Nat.le_refl _) hb6.out)) | (go_at_call 11; first | ((with_reducible refine (HW.out _ L6.out.bel).mono ?_); rintro E w7 ⟨rfl, hb7⟩; have L7 := Lib.hid (L6.out.next (Nat.le_refl _) hb7.out))))
    all_goals first
      | (go_ret; exact ⟨rfl, L7.out.bel⟩)
      | (exfalso; omega)
set_option maxHeartbeats 8000000 in
theorem sizes_1 (m : MMsg) (w : World) (hm : m.Wf) (nq : Nat) (HNQ : Hid (some m.body.qv = some (.slice m.body.qa nq m.body.qc))) (HKI : Hid (m.body.kind = 1)) (N M : Nat) (hM : M = N + 40) (hN : N = 90 + (34 + m.body.req.op.key.size + m.body.req.op.value.size + m.body.req.op.old.size + m.body.req.op.to.size + 32)) (hks : m.body.req.op.key.size ≤ 32) (hts : m.body.req.op.to.size ≤ 32) (hvs : m.body.req.op.value.size ≤ 128) (hos : m.body.req.op.old.size ≤ 128) (HMY : Hid (m.body.qs.length ≤ 40 → ∀ W, Below w.heap.size w W → Calls Tryz.prog 13 #[.agg (msgC m).toArray] W fun E w' => E = .returned (.bool true) ∧ Hid (Below W.heap.size W w')))
    (HBY : Hid (m.body.qs.length ≤ 40 → ∀ W, Below w.heap.size w W → Calls Tryz.prog 15 #[.agg (msgC m).toArray] W fun E w' => ∃ A c, E = .returned (.slice A (N) c) ∧ Hid (Below W.heap.size W w')))
    (HPU : Hid (m.body.qs.length ≤ 40 → ∀ W, Below w.heap.size w W → Calls Tryz.prog 17 #[.agg (msgC m).toArray] W fun E w' => ∃ A c, E = .returned (.slice A (M) c) ∧ Hid (Below W.heap.size W w')))
    (HF : Hid (∀ W, Below w.heap.size w W → Calls Tryz.prog 10 #[.agg (msgC m).toArray] W fun E w' => (∃ z, E = .returned (.bool z) ∧ (z = true → m.body.qs.length ≤ 40)) ∧ Hid (Below W.heap.size W w')))
    (HW : Hid (∀ W, Below w.heap.size w W → Calls Tryz.prog 11 #[] W fun E w' => E = .returned (.bool true) ∧ Hid (Below W.heap.size W w'))) :
    Calls Tryz.prog 8 #[.agg (msgC m).toArray] w fun E w' => E = .returned (.bool true) ∧ Below w.heap.size w w' := by
  have HI : Hid ((Tryz.prog.info? 34).map (·.size) = some (msgC m).length) := Lib.hid (by rw [msgC_length hm]; exact Tryz.is34)
  have HL : Hid (RqAt w.heap.size w (msgC m) (w.alloc (.cells (msgC m).toArray 34))) := Lib.hid ⟨(Below.refl _ _).alloc (Nat.le_refl _) _, by simp, range_box w (msgC m) 34⟩
  have HMW := Lib.hid hm
  clear hm
  go_enter Tryz.func8, Tryz.ntmps8
  go_wp2_with (((with_reducible refine wpList_load_midG ?_ 34 (.tmp 1) ?_ w.heap.size 0 ?_ (msgC m) _ ?_ Tryz.underlying34 ?_ ?_ ?_); rotate_left; (· rfl); (· rfl); (· exact HL.out.src); (· rfl); (· exact HI.out); rotate_left; (· rfl)))
  go_at_call 10
  with_reducible refine (HF.out _ HL.out.bel).mono ?_
  rintro E w1 ⟨⟨z, rfl, hz⟩, hb1⟩
  have L1 := Lib.hid (HL.out.next (Nat.le_refl _) hb1.out)
  cases z
  · go_wp2_with ((go_at_call 11; (with_reducible refine (HW.out _ L1.out.bel).mono ?_); rintro E w7 ⟨rfl, hb7⟩; have L7 := Lib.hid (L1.out.next (Nat.le_refl _) hb7.out)))
    go_ret
    exact ⟨rfl, L7.out.bel⟩
  · have HZ := Lib.hid (hz rfl)
    clear hz
    go_wp2_with (first | ((with_reducible refine wpList_load_midG ?_ 34 (.tmp 1) ?_ w.heap.size 0 ?_ (msgC m) _ ?_ Tryz.underlying34 ?_ ?_ ?_); rotate_left; (· rfl); (· rfl); (· exact L1.out.src); (· rfl); (· exact HI.out); rotate_left; (· rfl)) | (go_at_call 13; (with_reducible refine (HMY.out HZ.out _ L1.out.bel).mono ?_); rintro E w2 ⟨rfl, hb2⟩; have L2 := Lib.hid (L1.out.next (Nat.le_refl _) hb2.out); have c0 : w2.cell? ⟨w.heap.size, 18, none⟩ = some (.int .u8 (m.body.req.op.kind.toNat : Int)) := (msg_lies L2.out.src HMW.out).body.req.op.kind; have c1 : w2.cell? ⟨w.heap.size, 19, none⟩ = some (.string m.body.req.op.key) := (msg_lies L2.out.src HMW.out).body.req.op.key; have c2 : w2.cell? ⟨w.heap.size, 20, none⟩ = some (.string m.body.req.op.value) := (msg_lies L2.out.src HMW.out).body.req.op.value; have c3 : w2.cell? ⟨w.heap.size, 21, none⟩ = some (.string m.body.req.op.old) := (msg_lies L2.out.src HMW.out).body.req.op.old; have c4 : w2.cell? ⟨w.heap.size, 22, none⟩ = some (.string m.body.req.op.to) := (msg_lies L2.out.src HMW.out).body.req.op.to; have c5 : w2.cell? ⟨w.heap.size, 23, none⟩ = some (.int .u64 (m.body.req.op.amount : Int)) := (msg_lies L2.out.src HMW.out).body.req.op.amount; have L3 : Hid (RqAt w.heap.size w (msgC m) (w2.alloc (.cells #[.int .u8 (m.body.req.op.kind.toNat : Int), .string m.body.req.op.key, .string m.body.req.op.value, .string m.body.req.op.old, .string m.body.req.op.to, .int .u64 (m.body.req.op.amount : Int)] 26))) := Lib.hid (L2.out.next (Nat.le_refl _) ((Below.refl _ _).alloc (Nat.le_refl _) _)); have kk : (w2.alloc (.cells #[.int .u8 (m.body.req.op.kind.toNat : Int), .string m.body.req.op.key, .string m.body.req.op.value, .string m.body.req.op.old, .string m.body.req.op.to, .int .u64 (m.body.req.op.amount : Int)] 26)).cell? ⟨w.heap.size, 13, none⟩ = some (.int .u8 1) := (msg_lies L3.out.src HMW.out).body.kind.trans (by (rw [HKI.out]) <;> rfl); have kq : (w2.alloc (.cells #[.int .u8 (m.body.req.op.kind.toNat : Int), .string m.body.req.op.key, .string m.body.req.op.value, .string m.body.req.op.old, .string m.body.req.op.to, .int .u64 (m.body.req.op.amount : Int)] 26)).cell? ⟨w.heap.size, 56, none⟩ = some (.slice m.body.qa nq m.body.qc) := (msg_lies L3.out.src HMW.out).body.q.trans HNQ.out; have k1 : (w2.alloc (.cells #[.int .u8 (m.body.req.op.kind.toNat : Int), .string m.body.req.op.key, .string m.body.req.op.value, .string m.body.req.op.old, .string m.body.req.op.to, .int .u64 (m.body.req.op.amount : Int)] 26)).cell? ⟨w2.heap.size, 1, none⟩ = some (.string m.body.req.op.key) := (by simp); have k2 : (w2.alloc (.cells #[.int .u8 (m.body.req.op.kind.toNat : Int), .string m.body.req.op.key, .string m.body.req.op.value, .string m.body.req.op.old, .string m.body.req.op.to, .int .u64 (m.body.req.op.amount : Int)] 26)).cell? ⟨w2.heap.size, 2, none⟩ = some (.string m.body.req.op.value) := (by simp); have k3 : (w2.alloc (.cells #[.int .u8 (m.body.req.op.kind.toNat : Int), .string m.body.req.op.key, .string m.body.req.op.value, .string m.body.req.op.old, .string m.body.req.op.to, .int .u64 (m.body.req.op.amount : Int)] 26)).cell? ⟨w2.heap.size, 3, none⟩ = some (.string m.body.req.op.old) := (by simp); have k4 : (w2.alloc (.cells #[.int .u8 (m.body.req.op.kind.toNat : Int), .string m.body.req.op.key, .string m.body.req.op.value, .string m.body.req.op.old, .string m.body.req.op.to, .int .u64 (m.body.req.op.amount : Int)] 26)).cell? ⟨w2.heap.size, 4, none⟩ = some (.string m.body.req.op.to) := (by simp)) | ((with_reducible refine wpList_load_midG ?_ 34 (.tmp 1) ?_ w.heap.size 0 ?_ (msgC m) _ ?_ Tryz.underlying34 ?_ ?_ ?_); rotate_left; (· rfl); (· rfl); (· exact L3.out.src); (· rfl); (· exact HI.out); rotate_left; (· rfl)) | (go_at_call 15; (with_reducible refine (HBY.out HZ.out _ L3.out.bel).mono ?_); rintro E w5 ⟨A5, c5, rfl, hb5⟩; have L5 := Lib.hid (L3.out.next (Nat.le_refl _) hb5.out); obtain ⟨s, hs⟩ : ∃ s : Int, (90 + (34 + (m.body.req.op.key.size : Int) + (m.body.req.op.value.size : Int) + (m.body.req.op.old.size : Int) + (m.body.req.op.to.size : Int) + 32)) = s := ⟨_, rfl⟩; rw [hs]; have hs1 : s ≤ 1024 := (by omega); have hs2 : s + 40 ≤ 4096 := (by omega); have hs3 : 0 ≤ s := (by omega); have hN' : (N : Int) = s := (by omega); have hM' : (M : Int) = s + 40 := (by omega); clear hs hN hM hks hts hvs hos c0 c1 c2 c3 c4 k1 k2 k3 k4 kk kq) | ((with_reducible refine wpList_load_midG ?_ 34 (.tmp 1) ?_ w.heap.size 0 ?_ (msgC m) _ ?_ Tryz.underlying34 ?_ ?_ ?_); rotate_left; (· rfl); (· rfl); (· exact L5.out.src); (· rfl); (· exact HI.out); rotate_left; (· rfl)) | (go_at_call 17; (with_reducible refine (HPU.out HZ.out _ L5.out.bel).mono ?_); rintro E w6 ⟨A6, c6, rfl, hb6⟩; have L6 := Lib.hid (L5.out.next (Nat.le_refl _) hb6.out)) | (go_at_call 11; first | ((with_reducible refine (HW.out _ L6.out.bel).mono ?_); rintro E w7 ⟨rfl, hb7⟩; have L7 := Lib.hid (L6.out.next (Nat.le_refl _) hb7.out))))
    all_goals first
      | (go_ret; exact ⟨rfl, L7.out.bel⟩)
      | (exfalso; omega)
end Go.Proofs.YtghjogneogkpoaaGreatDoor.Sh

namespace Go.Proofs.YtghjogneogkpoaaGreatDoor.Sh
open Go.RowKit
set_option maxRecDepth 100000


theorem reqB_num (r : MReq) : (reqB r).length = 26 + (r.op.key.size + r.op.value.size + r.op.old.size + r.op.to.size) := by
  simp only [reqB, List.length_cons, List.length_append, be_length, txtB_len]
  omega
theorem opMay_sizes {o : MOp} (h : opMay o = true) : o.key.size ≤ 32 ∧ o.to.size ≤ 32 ∧ o.value.size ≤ 128 ∧ o.old.size ≤ 128 := by
  simp only [opMay, Bool.and_eq_true, decide_eq_true_eq] at h
  omega
theorem calls_len {P : Program} {f : Nat} {args : Array Value} {w : World} {B n : Nat} {bs : List UInt8} (hl : bs.length = n)
    (h : Calls P f args w fun E w' => ∃ A' n' c', E = .returned (.slice A' n' c') ∧ Ow B w' A' n' c' bs ∧ Hid (Below w.heap.size w w')) :
    Calls P f args w fun E w' => ∃ A c, E = .returned (.slice A n c) ∧ Hid (Below w.heap.size w w') :=
  h.mono fun E w' ⟨A, n', c, he, ho, hb⟩ => ⟨A, c, by rw [he, ← ho.len, hl], hb⟩
open Classical in
theorem sizes_any (m : MMsg) (w : World) (hm : m.Wf) (hq : Prs w m.body.qa m.body.qs) (hk : KIs w) (h0 : 0 < w.heap.size) :
    Calls Tryz.prog 8 #[.agg (msgC m).toArray] w fun E w' => E = .returned (.bool true) ∧ Below w.heap.size w w' := by
  have HF : Hid (∀ W, Below w.heap.size w W → Calls Tryz.prog 10 #[.agg (msgC m).toArray] W fun E w' => (∃ z, E = .returned (.bool z) ∧ (z = true → m.body.qs.length ≤ 40)) ∧ Hid (Below W.heap.size W w')) := Lib.hid fun W _ => few_any m W hm
  have HW : Hid (∀ W, Below w.heap.size w W → Calls Tryz.prog 11 #[] W fun E w' => E = .returned (.bool true) ∧ Hid (Below W.heap.size W w')) :=
    Lib.hid fun W h => works_any W (hk.below h h0) (Nat.lt_of_lt_of_le h0 h.size)
  by_cases hmay : m.may
  case neg =>
    exact sizes_no m w hm (Lib.hid fun hl W h => (may_ms m W hm (hq.below h) (by omega)).mono fun E w' hE => ⟨hE.1.trans (ret_bool (by simpa using hmay)), hE.2⟩) HF HW
  have HMY : Hid (m.body.qs.length ≤ 40 → ∀ W, Below w.heap.size w W → Calls Tryz.prog 13 #[.agg (msgC m).toArray] W fun E w' => E = .returned (.bool true) ∧ Hid (Below W.heap.size W w')) :=
    Lib.hid fun hl W h => (may_ms m W hm (hq.below h) (by omega)).mono fun E w' hE => ⟨hE.1.trans (ret_bool (by simpa using hmay)), hE.2⟩
  have hbl : (bytesM m).length = 90 + (bodyB m.body).length := by rw [bytesM, if_pos hmay]; exact tagsLen m hm
  have hpl : (putM m).length = 90 + (bodyB m.body).length + 40 := by
    rw [putM, if_pos hmay]
    simp only [List.length_append, be_length, tagsLen m hm, hm.2.2]
    omega
  have HBY : ∀ n, 90 + (bodyB m.body).length = n → Hid (m.body.qs.length ≤ 40 → ∀ W, Below w.heap.size w W → Calls Tryz.prog 15 #[.agg (msgC m).toArray] W fun E w' => ∃ A c, E = .returned (.slice A n c) ∧ Hid (Below W.heap.size W w')) :=
    fun n hn => Lib.hid fun hl W h => calls_len (hbl.trans hn) (bytes_ms m W hm (hq.below h) (by omega))
  have HPU : ∀ n, 90 + (bodyB m.body).length + 40 = n → Hid (m.body.qs.length ≤ 40 → ∀ W, Below w.heap.size w W → Calls Tryz.prog 17 #[.agg (msgC m).toArray] W fun E w' => ∃ A c, E = .returned (.slice A n c) ∧ Hid (Below W.heap.size W w')) :=
    fun n hn => Lib.hid fun hl W h => calls_len (hpl.trans hn) (put_ms m W hm (hq.below h) (by omega))
  have hx := hm.2.1
  rcases kinds_of hmay.2.2.1 with ⟨e, hr⟩ | e | e | e | ⟨e, hp⟩ | e
  · have hr' := hr
    simp only [reqMay, Bool.and_eq_true] at hr'
    obtain ⟨s1, s2, s3, s4⟩ := opMay_sizes hr'.2.2
    have hn : 90 + (bodyB m.body).length = 90 + (34 + m.body.req.op.key.size + m.body.req.op.value.size + m.body.req.op.old.size + m.body.req.op.to.size + 32) := by
      simp [bodyB, e, be_length, hx.1, reqB_num]
      omega
    exact sizes_1 m w hm _ (Lib.hid rfl) (Lib.hid e) _ _ rfl rfl s1 s2 s3 s4 HMY (HBY _ hn) (HPU _ (by rw [hn])) HF HW
  · have hn : 90 + (bodyB m.body).length = 106 := by simp [bodyB, e, be_length]
    exact sizes_2 m w hm _ (Lib.hid rfl) (Lib.hid e) HMY (HBY _ hn) (HPU _ (by rw [hn])) HF HW
  · have hn : 90 + (bodyB m.body).length = 98 := by simp [bodyB, e, be_length]
    exact sizes_3 m w hm _ (Lib.hid rfl) (Lib.hid e) HMY (HBY _ hn) (HPU _ (by rw [hn])) HF HW
  · have hn : 90 + (bodyB m.body).length = 98 := by simp [bodyB, e, be_length]
    exact sizes_5 m w hm _ (Lib.hid rfl) (Lib.hid e) HMY (HBY _ hn) (HPU _ (by rw [hn])) HF HW
  · have hn : 90 + (bodyB m.body).length = 90 + (9 + 9 * m.body.qs.length) := by
      simp [bodyB, e, be_length, pairsB_len]
      omega
    exact sizes_4 m w hm _ (Lib.hid rfl) (Lib.hid e) (prs_all hp).2 HMY (HBY _ hn) (HPU _ (by rw [hn])) HF HW
  · have hn : 90 + (bodyB m.body).length = 130 := by simp [bodyB, e, be_length, hx.2]
    exact sizes_6 m w hm _ (Lib.hid rfl) (Lib.hid e) HMY (HBY _ hn) (HPU _ (by rw [hn])) HF HW
theorem sizes_in (W : World) (hk : KIs W) (h0 : 0 < W.heap.size) (v : Value) (h : ∃ m : MMsg, v = .agg (msgC m).toArray ∧ m.Wf ∧ Prs W m.body.qa m.body.qs) :
    Calls Tryz.prog 8 #[v] W fun E w' => E = .returned (.bool true) ∧ Below W.heap.size W w' := by
  obtain ⟨m, rfl, hm, hq⟩ := h
  exact sizes_any m W hm hq hk h0
end Go.Proofs.YtghjogneogkpoaaGreatDoor.Sh
