/-
  What is proved: StateWhole, of what came in. Conditions as stated.
-/
import Derived.Test.YtpageppjngbnpaaGreatDoorGw
namespace Go.Proofs.YtpageppjngbnpaaGreatDoor
open Go.RowKit
theorem whole_in (W : World) (hv : Vars W ∧ Sh.KIs W) (A : Option Addr) (n c : Nat) (h : ∃ qs : List MRq, qs.length = n ∧ Rqs W A qs) (hn : n ≤ 1099511627776) (cut : Int) (hc : (Lit.int .u16 cut).wf = true) :
    Calls Tryz.prog 6 #[.slice A n c, .int .u16 cut] W fun E w' => E = .returned (.bool true) ∧ Below W.heap.size W w' := by
  obtain ⟨qs, rfl, hQ⟩ := h
  refine whole_walk hv.1 hv.2 hQ hn cut ?_
  simp [Lit.wf, IntKind.min, IntKind.max, IntKind.signed, IntKind.bits] at hc
  omega
end Go.Proofs.YtpageppjngbnpaaGreatDoor
