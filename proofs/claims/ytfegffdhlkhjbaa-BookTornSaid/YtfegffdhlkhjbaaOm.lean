/-
  What is proved: plain facts on numbers as bytes, the highest first. No condition.
-/
import Derived.Test.YtfegffdhlkhjbaaDa
import Derived.WalkKit
namespace Go.Proofs.Ytfegffdhlkhjbaa.Oct

/-- Byte i of a number of so many bytes, the highest one first. -/
def beAt (size n i : Nat) : UInt8 := UInt8.ofNat (n / 256 ^ (size - 1 - i))

/-- The first k bytes of a number of so many bytes. -/
def beTake (size n k : Nat) : List UInt8 := (List.range k).map (beAt size n)

/-- A number in so many bytes. -/
def be (size n : Nat) : List UInt8 := beTake size n size

theorem u8s_append (a b : List UInt8) : u8s (a ++ b) = u8s a ++ u8s b := by simp [u8s]
theorem beTake_length (size n k : Nat) : (beTake size n k).length = k := by simp [beTake]
theorem be_length (size n : Nat) : (be size n).length = size := beTake_length _ _ _
theorem beTake_zero (size n : Nat) : beTake size n 0 = [] := rfl
theorem beTake_succ (size n k : Nat) : beTake size n (k + 1) = beTake size n k ++ [beAt size n k] := by
  simp [beTake, List.range_succ]
theorem beAt_toNat (size n i : Nat) : ((beAt size n i).toNat : Int) = ((n / 256 ^ (size - 1 - i) % 256 : Nat) : Int) := by
  simp [beAt]
end Go.Proofs.Ytfegffdhlkhjbaa.Oct
