/-
  What is proved: whether a message is gone through (Few). Conditions as stated.
-/
import Derived.Test.YtghjogneogkpoaaGreatDoorV5c
namespace Go.Proofs.YtghjogneogkpoaaGreatDoor.Sh
open Go.RowKit
set_option maxRecDepth 100000

def FewP (m : MMsg) (w : World) (E : Ending) (w' : World) : Prop := (∃ z, E = .returned (.bool z) ∧ (z = true → m.body.qs.length ≤ 40)) ∧ Hid (Below w.heap.size w w')
set_option maxHeartbeats 4000000 in
theorem few_any (m : MMsg) (w : World) (hm : m.Wf) : Calls Tryz.prog 10 #[.agg (msgC m).toArray] w fun E w' => FewP m w E w' := by
  have L := msg_lies (range_box w (msgC m) 34) hm
  have HB : Hid (Below w.heap.size w ((w.alloc (.cells (msgC m).toArray 34)).alloc (.cells #[.int .u8 (m.body.req.op.kind.toNat : Int), .string m.body.req.op.key, .string m.body.req.op.value, .string m.body.req.op.old, .string m.body.req.op.to, .int .u64 (m.body.req.op.amount : Int)] 26))) := Lib.hid (((Below.refl _ _).alloc (Nat.le_refl _) _).alloc (by simp) _)
  have c0 : (w.alloc (.cells (msgC m).toArray 34)).cell? ⟨w.heap.size, 18, none⟩ = some (.int .u8 (m.body.req.op.kind.toNat : Int)) := L.body.req.op.kind
  have c1 : (w.alloc (.cells (msgC m).toArray 34)).cell? ⟨w.heap.size, 19, none⟩ = some (.string m.body.req.op.key) := L.body.req.op.key
  have c2 : (w.alloc (.cells (msgC m).toArray 34)).cell? ⟨w.heap.size, 20, none⟩ = some (.string m.body.req.op.value) := L.body.req.op.value
  have c3 : (w.alloc (.cells (msgC m).toArray 34)).cell? ⟨w.heap.size, 21, none⟩ = some (.string m.body.req.op.old) := L.body.req.op.old
  have c4 : (w.alloc (.cells (msgC m).toArray 34)).cell? ⟨w.heap.size, 22, none⟩ = some (.string m.body.req.op.to) := L.body.req.op.to
  have c5 : (w.alloc (.cells (msgC m).toArray 34)).cell? ⟨w.heap.size, 23, none⟩ = some (.int .u64 (m.body.req.op.amount : Int)) := L.body.req.op.amount
  have q2 : ((w.alloc (.cells (msgC m).toArray 34)).alloc (.cells #[.int .u8 (m.body.req.op.kind.toNat : Int), .string m.body.req.op.key, .string m.body.req.op.value, .string m.body.req.op.old, .string m.body.req.op.to, .int .u64 (m.body.req.op.amount : Int)] 26)).cell? ⟨w.heap.size, 56, none⟩ = some (.slice m.body.qa m.body.qs.length m.body.qc) := (((Below.refl _ _).alloc (Nat.le_refl _) (.cells #[.int .u8 (m.body.req.op.kind.toNat : Int), .string m.body.req.op.key, .string m.body.req.op.value, .string m.body.req.op.old, .string m.body.req.op.to, .int .u64 (m.body.req.op.amount : Int)] 26) : Below (w.alloc (.cells (msgC m).toArray 34)).heap.size (w.alloc (.cells (msgC m).toArray 34)) _).cell (p := ⟨w.heap.size, 56, none⟩) (by simp)).trans L.body.q
  have k1 : ((w.alloc (.cells (msgC m).toArray 34)).alloc (.cells #[.int .u8 (m.body.req.op.kind.toNat : Int), .string m.body.req.op.key, .string m.body.req.op.value, .string m.body.req.op.old, .string m.body.req.op.to, .int .u64 (m.body.req.op.amount : Int)] 26)).cell? ⟨w.heap.size + 1, 1, none⟩ = some (.string m.body.req.op.key) := by simp
  have k2 : ((w.alloc (.cells (msgC m).toArray 34)).alloc (.cells #[.int .u8 (m.body.req.op.kind.toNat : Int), .string m.body.req.op.key, .string m.body.req.op.value, .string m.body.req.op.old, .string m.body.req.op.to, .int .u64 (m.body.req.op.amount : Int)] 26)).cell? ⟨w.heap.size + 1, 2, none⟩ = some (.string m.body.req.op.value) := by simp
  have k3 : ((w.alloc (.cells (msgC m).toArray 34)).alloc (.cells #[.int .u8 (m.body.req.op.kind.toNat : Int), .string m.body.req.op.key, .string m.body.req.op.value, .string m.body.req.op.old, .string m.body.req.op.to, .int .u64 (m.body.req.op.amount : Int)] 26)).cell? ⟨w.heap.size + 1, 3, none⟩ = some (.string m.body.req.op.old) := by simp
  have k4 : ((w.alloc (.cells (msgC m).toArray 34)).alloc (.cells #[.int .u8 (m.body.req.op.kind.toNat : Int), .string m.body.req.op.key, .string m.body.req.op.value, .string m.body.req.op.old, .string m.body.req.op.to, .int .u64 (m.body.req.op.amount : Int)] 26)).cell? ⟨w.heap.size + 1, 4, none⟩ = some (.string m.body.req.op.to) := by simp
  obtain ⟨n, hn⟩ : ∃ n, n = m.body.qs.length := ⟨_, rfl⟩
  have HNN := Lib.hid hn
  rw [← hn] at q2
  clear L hm hn
  obtain ⟨s1, h1⟩ : ∃ s, IntKind.i64.wrap ((m.body.req.op.key.size : Int) + (m.body.req.op.value.size : Int)) = s := ⟨_, rfl⟩
  obtain ⟨s2, h2⟩ : ∃ s, IntKind.i64.wrap (s1 + (m.body.req.op.old.size : Int)) = s := ⟨_, rfl⟩
  obtain ⟨s3, h3⟩ : ∃ s, IntKind.i64.wrap (s2 + (m.body.req.op.to.size : Int)) = s := ⟨_, rfl⟩
  by_cases hq : (n : Int) ≤ 40
  · have hqn : n ≤ 40 := by omega
    go_enter Tryz.func10, Tryz.ntmps10
    go_wp2_with fail
    go_ret
    exact ⟨⟨_, rfl, fun _ => by rw [← HNN.out]; exact hqn⟩, HB⟩
  · have hqn : ¬ (n ≤ 40) := by omega
    clear h1 h2 h3
    go_enter Tryz.func10, Tryz.ntmps10
    go_wp2_with fail
    go_ret
    exact ⟨⟨false, rfl, fun h => by cases h⟩, HB⟩
end Go.Proofs.YtghjogneogkpoaaGreatDoor.Sh
