/- Laws and walks. -/
import Derived.Test.YtllbbcifcbkgeaaGreatDoorF16p
import Derived.Test.YtllbbcifcbkgeaaGreatDoorF12p
import Derived.Test.YtllbbcifcbkgeaaGreatDoorUdp
set_option maxHeartbeats 16000000
set_option maxRecDepth 100000
namespace Go.Proofs.YtllbbcifcbkgeaaGreatDoor.Sh
open Go.RowKit
theorem nm_nil : Nm [] := ⟨fun _ h => (by cases h), fun _ _ _ h => (by rw [strm_nil] at h; simp at h)⟩
theorem nm_snoc {n : Nat} {L : List MMsg} (h : Nm L) {m : MMsg} (hz : chk n L m = 0) (a : Option Addr) (c : Nat) : Nm (L ++ [m.at a c]) := by
 obtain ⟨h1, _, _, h4, _⟩ := chk_zero hz
 have ho1 : 1 <= m.origin /\ m.origin <= 11 := of_decide_eq_true h1.1
 refine ⟨fun x hx => ?_, fun i j t ht => ?_⟩
 ·rcases List.mem_append.1 hx with hx | hx
  ·exact h.1 x hx
  ·rw [List.mem_singleton.1 hx]; exact ho1
 ·rw [strm_snoc] at ht
  by_cases hj : j < (strm L i).length
  ·rw [List.getElem?_append_left hj] at ht
   exact h.2 i j t ht
  ·rw [List.getElem?_append_right (by omega)] at ht
   by_cases ho : (m.at a c).origin = (i : Int) + 1
   ·rw [if_pos ho] at ht
    have hl := (List.getElem?_eq_some_iff.1 ht).1
    simp at hl
    have e : j = (strm L i).length := by omega
    subst e
    simp at ht
    subst ht
    have hoi : m.oi = i := oi_of ho
    show m.number = _
    rw [h4, hoi, cnt]
   ·rw [if_neg ho] at ht; simp at ht
def bW : MBody := { zeroBody with kind := 3, view := 1 }
def v1 : List Nat := 1 :: List.replicate 10 0
def mW1 : MMsg := { zeroMsg with origin := 1, number := 1, body := bW }
def mW2 : MMsg := { zeroMsg with origin := 2, number := 1, deps := v1, body := bW }
def oW1 : MMsg := { mW1 with tag := numTag 1 1 (msgB mW1) }
def oW2 : MMsg := { mW2 with tag := numTag 2 1 (msgB mW2) }
theorem bW_wf : bW.Wf := ⟨rfl, rfl⟩
theorem mW1_wf : mW1.Wf := ⟨rfl, bW_wf, rfl⟩
theorem mW2_wf : mW2.Wf := ⟨rfl, bW_wf, rfl⟩
theorem oW1_wf : oW1.Wf := ⟨rfl, bW_wf, numTag_length _ _ _⟩
theorem oW2_wf : oW2.Wf := ⟨rfl, bW_wf, numTag_length _ _ _⟩
theorem bW_may : bW.may := by
 refine ⟨by kernel_rfl, by decide, ?_⟩
 have e : bodyOwn bW = { zeroBody with kind := 3, view := 1 } := by simp [bodyOwn, bW, zeroBody]
 rw [e]
 exact ⟨rfl, rfl, rfl, rfl, rfl⟩
theorem mW1_may : mW1.may := ⟨by decide, ⟨by decide, rfl, fun x hx => by have : x = 0 := List.eq_of_mem_replicate hx; omega⟩, bW_may⟩
theorem mW2_may : mW2.may := ⟨by decide, ⟨by decide, rfl, fun x hx => by
 rcases List.mem_cons.1 hx with rfl | hx
 ·omega
 ·have : x = 0 := List.eq_of_mem_replicate hx; omega⟩, bW_may⟩
theorem oW1_may : oW1.may := mW1_may
theorem oW2_may : oW2.may := mW2_may
theorem oW1_right : oW1.right := ⟨oW1_may, rfl⟩
theorem oW2_right : oW2.right := ⟨oW2_may, rfl⟩
theorem tag_w1 : tagM mW1 = oW1 := if_pos mW1_may
theorem tag_w2 : tagM mW2 = oW2 := if_pos mW2_may
theorem prs_w (m : MMsg) (h : m.body.qs = []) (W : World) : Prs W m.body.qa m.body.qs := fun hn => by rw [h] at hn; cases hn
def MMsg.turned (m : MMsg) (i : Nat) (x : UInt8) : MMsg := { m with tag := m.tag.set i x }
theorem turned_wf {m : MMsg} (h : m.Wf) (i : Nat) (x : UInt8) : (m.turned i x).Wf := ⟨h.1, h.2.1, by show (m.tag.set i x).length = 32; rw [List.length_set]; exact h.2.2⟩
theorem msgC_tag (m : MMsg) (h : m.Wf) {i : Nat} : (msgC m)[89 + i]? = m.tag[i]?.map fun x => Value.int .u8 (x.toNat : Int) := by
 have e : msgC m = (.int .i64 m.origin :: .int .u64 (m.number : Int) :: (u64s m.deps ++ bodyC m.body)) ++ u8s m.tag := by simp [msgC]
 have hl : (.int .i64 m.origin :: .int .u64 (m.number : Int) :: (u64s m.deps ++ bodyC m.body) : List Value).length = 89 := by simp [u64s_length, h.1, bodyC_length h.2.1]
 rw [e, List.getElem?_append_right (by omega), hl, Nat.add_sub_cancel_left, u8s, List.getElem?_map]
theorem msgC_turn (m : MMsg) (h : m.Wf) (i : Nat) (x : UInt8) : (msgC m).set (89 + i) (.int .u8 (x.toNat : Int)) = msgC (m.turned i x) := by
 have e : ∀ t : List UInt8, msgC { m with tag := t } = (.int .i64 m.origin :: .int .u64 (m.number : Int) :: (u64s m.deps ++ bodyC m.body)) ++ u8s t := fun t => by simp [msgC]
 have hl : (.int .i64 m.origin :: .int .u64 (m.number : Int) :: (u64s m.deps ++ bodyC m.body) : List Value).length = 89 := by simp [u64s_length, h.1, bodyC_length h.2.1]
 have e0 := e m.tag
 rw [show ({ m with tag := m.tag } : MMsg) = m from rfl] at e0
 rw [e0, List.set_append_right _ _ (by omega), hl, Nat.add_sub_cancel_left, MMsg.turned, e]
 congr 1
 simp [u8s, List.map_set]
theorem chk_w2 : chk 3 [] oW2 = 12 := by
 rw [chk_next oW2_may (by rfl) oW2_right (by rfl) (by rfl) true (by rfl)]
 rfl
theorem chk_bad (x : UInt8) (hx : oW1.tag[0]? = some x) : chk 3 [] (oW1.turned 0 (x ^^^ 1)) = 11 := by
 refine chk_tag (m := oW1.turned 0 (x ^^^ 1)) oW1_may (by rfl) (fun h => ?_)
 have h2 : oW1.tag.set 0 (x ^^^ 1) = oW1.tag := h.2
 have := congrArg (fun l => l[0]?) h2
 have hl : 0 < oW1.tag.length := (List.getElem?_eq_some_iff.1 hx).1
 simp only [List.getElem?_set_self hl, hx, Option.some.injEq] at this
 have h3 : (x ^^^ 1) ^^^ x = x ^^^ x := by rw [this]
 rw [UInt8.xor_comm x 1, UInt8.xor_assoc, UInt8.xor_self] at h3
 exact absurd h3 (by decide)
theorem chk_w1 : chk 3 [] oW1 = 0 := by
 rw [chk_next oW1_may (by rfl) oW1_right (by rfl) (by rfl) false (by rfl)]
 rfl
theorem chk_w2b (a : Option Addr) (c : Nat) : chk 3 ([] ++ [oW1.at a c]) oW2 = 0 := by
 rw [chk_next oW2_may (by rfl) oW2_right (by rfl) (by rfl) false (by rfl)]
 rfl
theorem chk_w1b (a a2 : Option Addr) (c c2 : Nat) : chk 3 ([] ++ [oW1.at a c] ++ [oW2.at a2 c2]) oW1 = 13 := chk_again oW1_may (by rfl) oW1_right (show 1 < 1 + 1 by decide)
theorem snc_w (a a2 : Option Addr) (c c2 : Nat) : (snc v1 9 ([] ++ [oW1.at a c] ++ [oW2.at a2 c2])).length = 1 := by rfl
end Go.Proofs.YtllbbcifcbkgeaaGreatDoor.Sh
