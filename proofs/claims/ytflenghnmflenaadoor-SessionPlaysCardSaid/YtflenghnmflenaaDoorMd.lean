/-
  What is proved: all items but those of two keys (others). Conditions as stated.
-/
import Derived.Test.YtflenghnmflenaaDoorMa
namespace Go.Proofs.YtflenghnmflenaaDoor
open Go.RowKit
set_option maxRecDepth 100000

def rest (xs : List It) (a b : ByteArray) : List It := xs.filter fun p => decide (p.1 ≠ a) && decide (p.1 ≠ b)
theorem rest_take {xs : List It} {a b : ByteArray} {j : Nat} {p : It} (hp : xs[j]? = some p) : rest (xs.take (j + 1)) a b = rest (xs.take j) a b ++ if decide (p.1 ≠ a) && decide (p.1 ≠ b) then [p] else [] := by
  rw [List.take_add_one, hp, rest, List.filter_append]
  congr 1
  simp [List.filter_cons]
end Go.Proofs.YtflenghnmflenaaDoor
