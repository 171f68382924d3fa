/-
  What is proved: the example of the law: a Commit, its bytes, and what is read of them. Conditions as stated.
-/
import Derived.Test.YtghjogneogkpoaaGreatDoorCf
import Derived.Test.YtghjogneogkpoaaGreatDoorMv
import Derived.Test.YtghjogneogkpoaaGreatDoorRg
namespace Go.Proofs.YtghjogneogkpoaaGreatDoor.Sh
open Go.RowKit
set_option maxRecDepth 100000


def b0 : MBody := { zeroBody with kind := 2, k := 1 }
def m0 : MMsg := { zeroMsg with origin := 2, number := 1, body := b0 }
def P0 : List UInt8 := be 8 1 ++ (msgB m0 ++ noTag)
theorem m0_wf : m0.Wf := ⟨rfl, ⟨rfl, rfl⟩, rfl⟩
theorem m0_may : m0.may := by
  refine ⟨by decide, ⟨by decide, rfl, ?_⟩, by kernel_rfl, by decide, ?_⟩
  · intro x hx
    have : x = 0 := List.eq_of_mem_replicate hx
    omega
  · have e : bodyOwn b0 = { zeroBody with kind := 2, view := 0, k := 1 } := by simp [bodyOwn, b0, zeroBody]
    show b0.same (bodyOwn b0)
    rw [e]
    exact ⟨rfl, rfl, rfl, rfl, rfl⟩
theorem m0_prs (w : World) : Prs w m0.body.qa m0.body.qs := fun h => absurd h (by decide)
theorem putM0 : putM m0 = P0 := by rw [putM, if_pos m0_may]; rfl
theorem P0_length : P0.length = 146 := by kernel_rfl
theorem r1 : cWord (P0, false) = (1, (P0.drop 8, false)) := by kernel_rfl
theorem r2 : cByte (P0.drop 8, false) = (2, (P0.drop 9, false)) := by kernel_rfl
theorem r3 : cDeps 11 (P0.drop 9, false) = (List.replicate 11 0, (P0.drop 97, false)) := by kernel_rfl
theorem r4 : cByte (P0.drop 97, false) = (2, (P0.drop 98, false)) := by kernel_rfl
theorem r5 : rdCommit (P0.drop 98, false) = ({ zeroBody with view := 0, k := 1 }, (P0.drop 114, false)) := by kernel_rfl
theorem r6 : cTag (P0.drop 114, false) = (noTag, ([], false)) := by kernel_rfl
theorem n1 : cWord ([], false) = (0, ([], true)) := by kernel_rfl
theorem n2 : cByte ([], true) = (0, ([], true)) := by kernel_rfl
theorem n3 : cDeps 11 ([], true) = (List.replicate 11 0, ([], true)) := by kernel_rfl
theorem n6 : cTag ([], true) = (noTag, ([], true)) := by kernel_rfl
theorem zeroM_wf : zeroMsg.Wf := ⟨rfl, zero_wf, rfl⟩
theorem get_nil (w : World) : Calls Tryz.prog 21 #[.slice none 0 0] w fun E w' => E = .returned (.tuple #[.agg (msgC zeroMsg).toArray, .int .i64 5]) ∧ Hid (Below w.heap.size w w') := by
  refine get_by none 0 0 [] w 0 ({ depM ((0 : Nat) : Int) (List.replicate 11 0) with body := { zeroBody with kind := UInt8.ofNat 0 } }) noTag ([], true) ([], true) ([], true) ⟨rfl, fun h => absurd h (by omega)⟩ ⟨fun _ => ⟨rfl, rfl⟩, Nat.le_refl _, by omega⟩ (by omega) n1 n6 ⟨rfl, ⟨rfl, rfl⟩, rfl⟩ (fun W lo g h => cutTagged_x 0 0 (List.replicate 11 0) ([], true) ([], true) ([], true) h n2 n3 n2 (by kernel_rfl)) zeroMsg 5 zeroM_wf (fun W lo g h => ?_)
  have := whole_ms (gotM 0 ({ depM ((0 : Nat) : Int) (List.replicate 11 0) with body := { zeroBody with kind := UInt8.ofNat 0 } }) noTag) ([], true) h ⟨rfl, ⟨rfl, rfl⟩, rfl⟩ (fun h => absurd h (by decide)) (by decide)
  rwa [show wholeM (gotM 0 ({ depM ((0 : Nat) : Int) (List.replicate 11 0) with body := { zeroBody with kind := UInt8.ofNat 0 } }) noTag) ([], true) = (zeroMsg, 5) by simp [wholeM]] at this
theorem got0 : gotM 1 ({ depM ((2 : Nat) : Int) (List.replicate 11 0) with body := { (rdCommit (P0.drop 98, false)).1 with kind := UInt8.ofNat 2 } }) noTag = m0 := by
  rw [r5]
  rfl
theorem get_m0 (A : Option Addr) (n c B : Nat) (w : World) (h : Ow B w A n c P0) : Calls Tryz.prog 21 #[.slice A n c] w fun E w' => E = .returned (.tuple #[.agg (msgC m0).toArray, .int .i64 0]) ∧ Hid (Below w.heap.size w w') := by
  have hl := h.len
  rw [P0_length] at hl
  have hr : Oct.Rd w A n P0 := ⟨h.rd.1, fun hn => let ⟨b, o, e, hb, _, hc⟩ := h.rd.2 hn; ⟨b, o, e, hb, hc⟩⟩
  refine get_by A n c P0 w 1 ({ depM ((2 : Nat) : Int) (List.replicate 11 0) with body := { (rdCommit (P0.drop 98, false)).1 with kind := UInt8.ofNat 2 } }) noTag (P0.drop 8, false) (P0.drop 114, false) ([], false) hr h.2 (by omega) r1 r6 ⟨rfl, by rw [r5]; exact ⟨rfl, rfl⟩, rfl⟩ (fun W lo g h => ?_) m0 0 m0_wf (fun W lo g h => ?_)
  · have := cutTagged_103 2 2 1 (List.replicate 11 0) (P0.drop 9, false) (P0.drop 97, false) (P0.drop 98, false) h r2 r3 r4 (by kernel_rfl) rdCommit cutCommit_ms (by rw [r5]; exact ⟨rfl, rfl⟩)
    rw [show (rdCommit (P0.drop 98, false)).2 = (P0.drop 114, false) by rw [r5]] at this
    exact this
  · rw [got0]
    have := whole_ms m0 ([], false) h m0_wf (m0_prs W) (by decide)
    rwa [show wholeM m0 ([], false) = (m0, 0) by simp [wholeM, m0_may]] at this
theorem tag_m0 : numTag 2 1 (msgB m0) ≠ noTag := by
  intro h
  have := congrArg (fun l : List UInt8 => l.getD 0 0) h
  revert this
  decide +kernel
end Go.Proofs.YtghjogneogkpoaaGreatDoor.Sh
