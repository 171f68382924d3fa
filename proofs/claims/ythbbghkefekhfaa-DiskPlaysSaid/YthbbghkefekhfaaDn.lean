/-
  What is proved: the walk of DiskNil. No condition.
-/
import Derived.Test.YthbbghkefekhfaaDi
import Derived.Test.YthbbghkefekhfaaDj
namespace Go.Proofs.Ythbbghkefekhfaa

theorem works_are : Works := works_any
theorem diskNil_walk (x : Int) (_hx : (Lit.int .i64 x).wf = true) (n : Int) (hn : (Lit.int .i8 n).wf = true) (w : World) : Calls Try.prog 5 #[.int .i64 x, .int .i8 n] w fun E w' => E = .returned (.bool true) ∧ RowKit.Below w.heap.size w w' :=
  diskNil_by works_are x n w (by simp [Lit.wf, IntKind.min, IntKind.max, IntKind.signed, IntKind.bits] at hn; omega)
end Go.Proofs.Ythbbghkefekhfaa
