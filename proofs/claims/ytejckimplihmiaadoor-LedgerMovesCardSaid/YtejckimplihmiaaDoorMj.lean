/-
  What is proved: LedgerMoves, of what came in. Conditions as stated.
-/
import Derived.Test.YtejckimplihmiaaDoorMi
import Derived.Test.YtejckimplihmiaaDoorLw
namespace Go.Proofs.YtejckimplihmiaaDoor
open Go.RowKit
theorem mov_in (W : World) (hv : Vars W) (A : Option Addr) (n c : Nat) (h : ∃ os : List MOp, os.length = n ∧ Ops W A os ∧ n ≤ c ∧ c ≤ 9223372036854775807 ∧ ∀ o ∈ os, o.amount < 18446744073709551616)
    (a : ByteArray) {p1 : Prop} (_ : p1) (b : ByteArray) {p2 : Prop} (_ : p2) (z : Int) (hz : (Lit.int .u64 z).wf = true) : Calls Tryd.prog 7 #[.slice A n c, .string a, .string b, .int .u64 z] W fun E w' => E = .returned (.bool true) ∧ Below W.heap.size W w' := by
  obtain ⟨os, rfl, hA, hn, hc, _⟩ := h
  have e := nat_of_u64 hz
  have hb : z.toNat < 18446744073709551616 := by
    simp [Lit.wf, IntKind.min, IntKind.max, IntKind.signed, IntKind.bits] at hz
    omega
  rw [e]
  exact mov_walk hv A c os a b z.toNat hA (by omega) hb
end Go.Proofs.YtejckimplihmiaaDoor
