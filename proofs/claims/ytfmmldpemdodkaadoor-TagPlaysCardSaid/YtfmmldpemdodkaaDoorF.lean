/-
  What is proved: what New answers. Conditions as stated.
-/
import Derived.Test.YtfmmldpemdodkaaDoorE
namespace Go.Proofs.YtfmmldpemdodkaaDoor
open Go.RowKit

theorem Tryd.zero56 : (Tryd.prog.info? 56).map (fun i => (i.zero, i.size)) = some (some (.agg ((List.replicate 8 (Value.int .u32 0) ++ List.replicate 64 (Value.int .u8 0)) ++ [Value.int .i64 0, Value.int .u64 0]).toArray), 74) := by kernel_rfl

/-- The cells of a hash. -/
def hcells (nums : List UInt32) (blk : List UInt8) (f n : Nat) : List Value := u32s nums ++ (u8s blk ++ [.int .i64 (f : Int), .int .u64 (n : Int)])

/-- A hash lies at g, the bytes xs have gone through it; L is the length that it tells. -/
def HashIs (w : World) (g : Nat) (xs : List UInt8) (L : Nat) : Prop :=
  ∃ blk : List UInt8, blk.length = 64 ∧ blk.take (xs.length % 64) = xs.drop (64 * (xs.length / 64)) ∧ w.heap[g]? = some (.cells (hcells (absorb xs) blk (xs.length % 64) L).toArray 56 (0, 0))

theorem HashIs.below {B g L : Nat} {w w' : World} {xs : List UInt8} (h : HashIs w g xs L) (hb : Below B w w') (hB : g < B) : HashIs w' g xs L :=
  let ⟨blk, h1, h2, h3⟩ := h
  ⟨blk, h1, h2, (hb.block g hB).trans h3⟩
theorem HashIs.lt {g L : Nat} {w : World} {xs : List UInt8} (h : HashIs w g xs L) : g < w.heap.size :=
  let ⟨_, _, _, h3⟩ := h
  (Array.getElem?_eq_some_iff.1 h3).1

theorem new_any (w : World) : Calls Tryd.prog 26 #[] w fun E w' => ∃ g, E = .returned (.pointer (some ⟨g, 0, none⟩)) ∧ w.heap.size ≤ g ∧ HashIs w' g [] 0 ∧ Below w.heap.size w w' := by
  obtain ⟨hz, _⟩ := zero_of_info Tryd.zero56
  go_enter Tryd.func26, Tryd.ntmps26
  go_wp2_with (first | (go_at_call 36; refine (start_any _).mono ?_; rintro E w1 ⟨rfl, hb1⟩))
  go_ret
  refine ⟨w1.heap.size, rfl, hb1.size, ⟨List.replicate 64 0, rfl, rfl, ?_⟩, hb1.alloc hb1.size _⟩
  exact heap_alloc_new w1 _
end Go.Proofs.YtfmmldpemdodkaaDoor
