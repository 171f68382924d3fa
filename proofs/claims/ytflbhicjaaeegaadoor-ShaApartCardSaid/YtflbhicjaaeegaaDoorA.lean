/-
  What is proved: what a turn to the right answers, the program's and the document's. Conditions as stated.
-/
import Derived.Test.YtflbhicjaaeegaaDoorMath
import Derived.Test.YtflbhicjaaeegaaDoorProg
import Derived.WalkKit
import Derived.WalkSpells
import Derived.WalkLawsBesides
import Derived.Laws.BitsAllLaws
namespace Go.Proofs.YtflbhicjaaeegaaDoor
open Go.RowKit

/-- A 32-bit number as a value. -/
def u32 (x : UInt32) : Value := .int .u32 (x.toNat : Int)

theorem b_or (a b : UInt32) : bits .or .u32 (a.toNat : Int) (b.toNat : Int) = ((a ||| b).toNat : Int) := by
  rw [u32_or_nat _ _ a.toNat_lt b.toNat_lt, UInt32.toNat_or]
theorem b_xor (a b : UInt32) : bits .xor .u32 (a.toNat : Int) (b.toNat : Int) = ((a ^^^ b).toNat : Int) := by
  rw [u32_xor_nat _ _ a.toNat_lt b.toNat_lt, UInt32.toNat_xor]
theorem b_and (a b : UInt32) : bits .and .u32 (a.toNat : Int) (b.toNat : Int) = ((a &&& b).toNat : Int) := by
  rw [u32_and_nat _ _ a.toNat_lt b.toNat_lt, UInt32.toNat_and]
theorem b_not (a : UInt32) : bits .xor .u32 4294967295 (a.toNat : Int) = ((~~~a).toNat : Int) := by
  have h : ((4294967295 : UInt32).toNat : Int) = 4294967295 := rfl
  rw [← h, b_xor]
  congr 2
theorem b_add (a b : UInt32) : ((a.toNat : Int) + (b.toNat : Int)) % 4294967296 = ((a + b).toNat : Int) := by
  rw [UInt32.toNat_add]; omega

theorem bits_or_comm (a b : Int) : bits .or .u32 a b = bits .or .u32 b a := by
  show IntKind.u32.wrap ((BitVec.ofInt 32 a ||| BitVec.ofInt 32 b).toNat : Int) = IntKind.u32.wrap ((BitVec.ofInt 32 b ||| BitVec.ofInt 32 a).toNat : Int)
  rw [BitVec.or_comm]
theorem sh2 (x : UInt32) : bits .or .u32 ((x.toNat : Int) / 4) ((x.toNat : Int) * 1073741824 % 4294967296) = ((rotr x 2).toNat : Int) := by
  have h1 : (x.toNat : Int) / (4 : Int) = ((x >>> 2).toNat : Int) := by
    rw [UInt32.toNat_shiftRight, show ((2 : UInt32).toNat % 32) = 2 from rfl, Nat.shiftRight_eq_div_pow]; rfl
  have h2 : (x.toNat : Int) * (1073741824 : Int) % (4294967296 : Int) = ((x <<< (32 - 2)).toNat : Int) := by
    rw [UInt32.toNat_shiftLeft, show ((32 - 2 : UInt32).toNat % 32) = 30 from rfl, Nat.shiftLeft_eq]; rfl
  rw [h1, h2, b_or]; rfl
theorem hs2 (x : UInt32) : bits .or .u32 ((x.toNat : Int) * 1073741824 % 4294967296) ((x.toNat : Int) / 4) = ((rotr x 2).toNat : Int) := by
  rw [← sh2, bits_or_comm]
theorem rot2 (x : UInt32) (w : World) : Calls Tryd.prog 21 #[.int .u32 (x.toNat : Int), .int .u64 2] w fun e w' => e = .returned (.int .u32 ((rotr x 2).toNat : Int)) ∧ w = w' := by
  go_enter Tryd.func21, Tryd.ntmps21
  go_wp2
  go_ret
  exact ⟨by rw [sh2]; rfl, rfl⟩
theorem rotL2 (x : UInt32) (w : World) : Calls Tryd.prog 29 #[.int .u32 (x.toNat : Int), .int .i64 (-2)] w fun e w' => e = .returned (.int .u32 ((rotr x 2).toNat : Int)) ∧ w = w' := by
  have h : bits BinOp.and IntKind.u64 (IntKind.u64.wrap (-2)) 31 = 30 := by decide
  go_enter Tryd.func29, Tryd.ntmps29
  go_wp2
  go_ret
  exact ⟨by rw [hs2]; rfl, rfl⟩
theorem right2 (x : UInt32) (w : World) : Calls Tryd.prog 28 #[.int .u32 (x.toNat : Int), .int .i64 2] w fun e w' => e = .returned (.int .u32 ((rotr x 2).toNat : Int)) ∧ w = w' := by
  go_enter Tryd.func28, Tryd.ntmps28
  go_wp2_with (go_at_call 29; refine (rotL2 x _).mono ?_; rintro e w' ⟨rfl, rfl⟩)
  go_ret
  exact ⟨rfl, rfl⟩
theorem sh6 (x : UInt32) : bits .or .u32 ((x.toNat : Int) / 64) ((x.toNat : Int) * 67108864 % 4294967296) = ((rotr x 6).toNat : Int) := by
  have h1 : (x.toNat : Int) / (64 : Int) = ((x >>> 6).toNat : Int) := by
    rw [UInt32.toNat_shiftRight, show ((6 : UInt32).toNat % 32) = 6 from rfl, Nat.shiftRight_eq_div_pow]; rfl
  have h2 : (x.toNat : Int) * (67108864 : Int) % (4294967296 : Int) = ((x <<< (32 - 6)).toNat : Int) := by
    rw [UInt32.toNat_shiftLeft, show ((32 - 6 : UInt32).toNat % 32) = 26 from rfl, Nat.shiftLeft_eq]; rfl
  rw [h1, h2, b_or]; rfl
theorem hs6 (x : UInt32) : bits .or .u32 ((x.toNat : Int) * 67108864 % 4294967296) ((x.toNat : Int) / 64) = ((rotr x 6).toNat : Int) := by
  rw [← sh6, bits_or_comm]
theorem rot6 (x : UInt32) (w : World) : Calls Tryd.prog 21 #[.int .u32 (x.toNat : Int), .int .u64 6] w fun e w' => e = .returned (.int .u32 ((rotr x 6).toNat : Int)) ∧ w = w' := by
  go_enter Tryd.func21, Tryd.ntmps21
  go_wp2
  go_ret
  exact ⟨by rw [sh6]; rfl, rfl⟩
theorem rotL6 (x : UInt32) (w : World) : Calls Tryd.prog 29 #[.int .u32 (x.toNat : Int), .int .i64 (-6)] w fun e w' => e = .returned (.int .u32 ((rotr x 6).toNat : Int)) ∧ w = w' := by
  have h : bits BinOp.and IntKind.u64 (IntKind.u64.wrap (-6)) 31 = 26 := by decide
  go_enter Tryd.func29, Tryd.ntmps29
  go_wp2
  go_ret
  exact ⟨by rw [hs6]; rfl, rfl⟩
theorem right6 (x : UInt32) (w : World) : Calls Tryd.prog 28 #[.int .u32 (x.toNat : Int), .int .i64 6] w fun e w' => e = .returned (.int .u32 ((rotr x 6).toNat : Int)) ∧ w = w' := by
  go_enter Tryd.func28, Tryd.ntmps28
  go_wp2_with (go_at_call 29; refine (rotL6 x _).mono ?_; rintro e w' ⟨rfl, rfl⟩)
  go_ret
  exact ⟨rfl, rfl⟩
theorem sh7 (x : UInt32) : bits .or .u32 ((x.toNat : Int) / 128) ((x.toNat : Int) * 33554432 % 4294967296) = ((rotr x 7).toNat : Int) := by
  have h1 : (x.toNat : Int) / (128 : Int) = ((x >>> 7).toNat : Int) := by
    rw [UInt32.toNat_shiftRight, show ((7 : UInt32).toNat % 32) = 7 from rfl, Nat.shiftRight_eq_div_pow]; rfl
  have h2 : (x.toNat : Int) * (33554432 : Int) % (4294967296 : Int) = ((x <<< (32 - 7)).toNat : Int) := by
    rw [UInt32.toNat_shiftLeft, show ((32 - 7 : UInt32).toNat % 32) = 25 from rfl, Nat.shiftLeft_eq]; rfl
  rw [h1, h2, b_or]; rfl
theorem hs7 (x : UInt32) : bits .or .u32 ((x.toNat : Int) * 33554432 % 4294967296) ((x.toNat : Int) / 128) = ((rotr x 7).toNat : Int) := by
  rw [← sh7, bits_or_comm]
theorem rot7 (x : UInt32) (w : World) : Calls Tryd.prog 21 #[.int .u32 (x.toNat : Int), .int .u64 7] w fun e w' => e = .returned (.int .u32 ((rotr x 7).toNat : Int)) ∧ w = w' := by
  go_enter Tryd.func21, Tryd.ntmps21
  go_wp2
  go_ret
  exact ⟨by rw [sh7]; rfl, rfl⟩
theorem rotL7 (x : UInt32) (w : World) : Calls Tryd.prog 29 #[.int .u32 (x.toNat : Int), .int .i64 (-7)] w fun e w' => e = .returned (.int .u32 ((rotr x 7).toNat : Int)) ∧ w = w' := by
  have h : bits BinOp.and IntKind.u64 (IntKind.u64.wrap (-7)) 31 = 25 := by decide
  go_enter Tryd.func29, Tryd.ntmps29
  go_wp2
  go_ret
  exact ⟨by rw [hs7]; rfl, rfl⟩
theorem right7 (x : UInt32) (w : World) : Calls Tryd.prog 28 #[.int .u32 (x.toNat : Int), .int .i64 7] w fun e w' => e = .returned (.int .u32 ((rotr x 7).toNat : Int)) ∧ w = w' := by
  go_enter Tryd.func28, Tryd.ntmps28
  go_wp2_with (go_at_call 29; refine (rotL7 x _).mono ?_; rintro e w' ⟨rfl, rfl⟩)
  go_ret
  exact ⟨rfl, rfl⟩
theorem sh11 (x : UInt32) : bits .or .u32 ((x.toNat : Int) / 2048) ((x.toNat : Int) * 2097152 % 4294967296) = ((rotr x 11).toNat : Int) := by
  have h1 : (x.toNat : Int) / (2048 : Int) = ((x >>> 11).toNat : Int) := by
    rw [UInt32.toNat_shiftRight, show ((11 : UInt32).toNat % 32) = 11 from rfl, Nat.shiftRight_eq_div_pow]; rfl
  have h2 : (x.toNat : Int) * (2097152 : Int) % (4294967296 : Int) = ((x <<< (32 - 11)).toNat : Int) := by
    rw [UInt32.toNat_shiftLeft, show ((32 - 11 : UInt32).toNat % 32) = 21 from rfl, Nat.shiftLeft_eq]; rfl
  rw [h1, h2, b_or]; rfl
theorem hs11 (x : UInt32) : bits .or .u32 ((x.toNat : Int) * 2097152 % 4294967296) ((x.toNat : Int) / 2048) = ((rotr x 11).toNat : Int) := by
  rw [← sh11, bits_or_comm]
theorem rot11 (x : UInt32) (w : World) : Calls Tryd.prog 21 #[.int .u32 (x.toNat : Int), .int .u64 11] w fun e w' => e = .returned (.int .u32 ((rotr x 11).toNat : Int)) ∧ w = w' := by
  go_enter Tryd.func21, Tryd.ntmps21
  go_wp2
  go_ret
  exact ⟨by rw [sh11]; rfl, rfl⟩
theorem rotL11 (x : UInt32) (w : World) : Calls Tryd.prog 29 #[.int .u32 (x.toNat : Int), .int .i64 (-11)] w fun e w' => e = .returned (.int .u32 ((rotr x 11).toNat : Int)) ∧ w = w' := by
  have h : bits BinOp.and IntKind.u64 (IntKind.u64.wrap (-11)) 31 = 21 := by decide
  go_enter Tryd.func29, Tryd.ntmps29
  go_wp2
  go_ret
  exact ⟨by rw [hs11]; rfl, rfl⟩
theorem right11 (x : UInt32) (w : World) : Calls Tryd.prog 28 #[.int .u32 (x.toNat : Int), .int .i64 11] w fun e w' => e = .returned (.int .u32 ((rotr x 11).toNat : Int)) ∧ w = w' := by
  go_enter Tryd.func28, Tryd.ntmps28
  go_wp2_with (go_at_call 29; refine (rotL11 x _).mono ?_; rintro e w' ⟨rfl, rfl⟩)
  go_ret
  exact ⟨rfl, rfl⟩
theorem sh13 (x : UInt32) : bits .or .u32 ((x.toNat : Int) / 8192) ((x.toNat : Int) * 524288 % 4294967296) = ((rotr x 13).toNat : Int) := by
  have h1 : (x.toNat : Int) / (8192 : Int) = ((x >>> 13).toNat : Int) := by
    rw [UInt32.toNat_shiftRight, show ((13 : UInt32).toNat % 32) = 13 from rfl, Nat.shiftRight_eq_div_pow]; rfl
  have h2 : (x.toNat : Int) * (524288 : Int) % (4294967296 : Int) = ((x <<< (32 - 13)).toNat : Int) := by
    rw [UInt32.toNat_shiftLeft, show ((32 - 13 : UInt32).toNat % 32) = 19 from rfl, Nat.shiftLeft_eq]; rfl
  rw [h1, h2, b_or]; rfl
theorem hs13 (x : UInt32) : bits .or .u32 ((x.toNat : Int) * 524288 % 4294967296) ((x.toNat : Int) / 8192) = ((rotr x 13).toNat : Int) := by
  rw [← sh13, bits_or_comm]
theorem rot13 (x : UInt32) (w : World) : Calls Tryd.prog 21 #[.int .u32 (x.toNat : Int), .int .u64 13] w fun e w' => e = .returned (.int .u32 ((rotr x 13).toNat : Int)) ∧ w = w' := by
  go_enter Tryd.func21, Tryd.ntmps21
  go_wp2
  go_ret
  exact ⟨by rw [sh13]; rfl, rfl⟩
theorem rotL13 (x : UInt32) (w : World) : Calls Tryd.prog 29 #[.int .u32 (x.toNat : Int), .int .i64 (-13)] w fun e w' => e = .returned (.int .u32 ((rotr x 13).toNat : Int)) ∧ w = w' := by
  have h : bits BinOp.and IntKind.u64 (IntKind.u64.wrap (-13)) 31 = 19 := by decide
  go_enter Tryd.func29, Tryd.ntmps29
  go_wp2
  go_ret
  exact ⟨by rw [hs13]; rfl, rfl⟩
theorem right13 (x : UInt32) (w : World) : Calls Tryd.prog 28 #[.int .u32 (x.toNat : Int), .int .i64 13] w fun e w' => e = .returned (.int .u32 ((rotr x 13).toNat : Int)) ∧ w = w' := by
  go_enter Tryd.func28, Tryd.ntmps28
  go_wp2_with (go_at_call 29; refine (rotL13 x _).mono ?_; rintro e w' ⟨rfl, rfl⟩)
  go_ret
  exact ⟨rfl, rfl⟩
theorem sh17 (x : UInt32) : bits .or .u32 ((x.toNat : Int) / 131072) ((x.toNat : Int) * 32768 % 4294967296) = ((rotr x 17).toNat : Int) := by
  have h1 : (x.toNat : Int) / (131072 : Int) = ((x >>> 17).toNat : Int) := by
    rw [UInt32.toNat_shiftRight, show ((17 : UInt32).toNat % 32) = 17 from rfl, Nat.shiftRight_eq_div_pow]; rfl
  have h2 : (x.toNat : Int) * (32768 : Int) % (4294967296 : Int) = ((x <<< (32 - 17)).toNat : Int) := by
    rw [UInt32.toNat_shiftLeft, show ((32 - 17 : UInt32).toNat % 32) = 15 from rfl, Nat.shiftLeft_eq]; rfl
  rw [h1, h2, b_or]; rfl
theorem hs17 (x : UInt32) : bits .or .u32 ((x.toNat : Int) * 32768 % 4294967296) ((x.toNat : Int) / 131072) = ((rotr x 17).toNat : Int) := by
  rw [← sh17, bits_or_comm]
theorem rot17 (x : UInt32) (w : World) : Calls Tryd.prog 21 #[.int .u32 (x.toNat : Int), .int .u64 17] w fun e w' => e = .returned (.int .u32 ((rotr x 17).toNat : Int)) ∧ w = w' := by
  go_enter Tryd.func21, Tryd.ntmps21
  go_wp2
  go_ret
  exact ⟨by rw [sh17]; rfl, rfl⟩
theorem rotL17 (x : UInt32) (w : World) : Calls Tryd.prog 29 #[.int .u32 (x.toNat : Int), .int .i64 (-17)] w fun e w' => e = .returned (.int .u32 ((rotr x 17).toNat : Int)) ∧ w = w' := by
  have h : bits BinOp.and IntKind.u64 (IntKind.u64.wrap (-17)) 31 = 15 := by decide
  go_enter Tryd.func29, Tryd.ntmps29
  go_wp2
  go_ret
  exact ⟨by rw [hs17]; rfl, rfl⟩
theorem right17 (x : UInt32) (w : World) : Calls Tryd.prog 28 #[.int .u32 (x.toNat : Int), .int .i64 17] w fun e w' => e = .returned (.int .u32 ((rotr x 17).toNat : Int)) ∧ w = w' := by
  go_enter Tryd.func28, Tryd.ntmps28
  go_wp2_with (go_at_call 29; refine (rotL17 x _).mono ?_; rintro e w' ⟨rfl, rfl⟩)
  go_ret
  exact ⟨rfl, rfl⟩
theorem sh18 (x : UInt32) : bits .or .u32 ((x.toNat : Int) / 262144) ((x.toNat : Int) * 16384 % 4294967296) = ((rotr x 18).toNat : Int) := by
  have h1 : (x.toNat : Int) / (262144 : Int) = ((x >>> 18).toNat : Int) := by
    rw [UInt32.toNat_shiftRight, show ((18 : UInt32).toNat % 32) = 18 from rfl, Nat.shiftRight_eq_div_pow]; rfl
  have h2 : (x.toNat : Int) * (16384 : Int) % (4294967296 : Int) = ((x <<< (32 - 18)).toNat : Int) := by
    rw [UInt32.toNat_shiftLeft, show ((32 - 18 : UInt32).toNat % 32) = 14 from rfl, Nat.shiftLeft_eq]; rfl
  rw [h1, h2, b_or]; rfl
theorem hs18 (x : UInt32) : bits .or .u32 ((x.toNat : Int) * 16384 % 4294967296) ((x.toNat : Int) / 262144) = ((rotr x 18).toNat : Int) := by
  rw [← sh18, bits_or_comm]
theorem rot18 (x : UInt32) (w : World) : Calls Tryd.prog 21 #[.int .u32 (x.toNat : Int), .int .u64 18] w fun e w' => e = .returned (.int .u32 ((rotr x 18).toNat : Int)) ∧ w = w' := by
  go_enter Tryd.func21, Tryd.ntmps21
  go_wp2
  go_ret
  exact ⟨by rw [sh18]; rfl, rfl⟩
theorem rotL18 (x : UInt32) (w : World) : Calls Tryd.prog 29 #[.int .u32 (x.toNat : Int), .int .i64 (-18)] w fun e w' => e = .returned (.int .u32 ((rotr x 18).toNat : Int)) ∧ w = w' := by
  have h : bits BinOp.and IntKind.u64 (IntKind.u64.wrap (-18)) 31 = 14 := by decide
  go_enter Tryd.func29, Tryd.ntmps29
  go_wp2
  go_ret
  exact ⟨by rw [hs18]; rfl, rfl⟩
theorem right18 (x : UInt32) (w : World) : Calls Tryd.prog 28 #[.int .u32 (x.toNat : Int), .int .i64 18] w fun e w' => e = .returned (.int .u32 ((rotr x 18).toNat : Int)) ∧ w = w' := by
  go_enter Tryd.func28, Tryd.ntmps28
  go_wp2_with (go_at_call 29; refine (rotL18 x _).mono ?_; rintro e w' ⟨rfl, rfl⟩)
  go_ret
  exact ⟨rfl, rfl⟩
theorem sh19 (x : UInt32) : bits .or .u32 ((x.toNat : Int) / 524288) ((x.toNat : Int) * 8192 % 4294967296) = ((rotr x 19).toNat : Int) := by
  have h1 : (x.toNat : Int) / (524288 : Int) = ((x >>> 19).toNat : Int) := by
    rw [UInt32.toNat_shiftRight, show ((19 : UInt32).toNat % 32) = 19 from rfl, Nat.shiftRight_eq_div_pow]; rfl
  have h2 : (x.toNat : Int) * (8192 : Int) % (4294967296 : Int) = ((x <<< (32 - 19)).toNat : Int) := by
    rw [UInt32.toNat_shiftLeft, show ((32 - 19 : UInt32).toNat % 32) = 13 from rfl, Nat.shiftLeft_eq]; rfl
  rw [h1, h2, b_or]; rfl
theorem hs19 (x : UInt32) : bits .or .u32 ((x.toNat : Int) * 8192 % 4294967296) ((x.toNat : Int) / 524288) = ((rotr x 19).toNat : Int) := by
  rw [← sh19, bits_or_comm]
theorem rot19 (x : UInt32) (w : World) : Calls Tryd.prog 21 #[.int .u32 (x.toNat : Int), .int .u64 19] w fun e w' => e = .returned (.int .u32 ((rotr x 19).toNat : Int)) ∧ w = w' := by
  go_enter Tryd.func21, Tryd.ntmps21
  go_wp2
  go_ret
  exact ⟨by rw [sh19]; rfl, rfl⟩
theorem rotL19 (x : UInt32) (w : World) : Calls Tryd.prog 29 #[.int .u32 (x.toNat : Int), .int .i64 (-19)] w fun e w' => e = .returned (.int .u32 ((rotr x 19).toNat : Int)) ∧ w = w' := by
  have h : bits BinOp.and IntKind.u64 (IntKind.u64.wrap (-19)) 31 = 13 := by decide
  go_enter Tryd.func29, Tryd.ntmps29
  go_wp2
  go_ret
  exact ⟨by rw [hs19]; rfl, rfl⟩
theorem right19 (x : UInt32) (w : World) : Calls Tryd.prog 28 #[.int .u32 (x.toNat : Int), .int .i64 19] w fun e w' => e = .returned (.int .u32 ((rotr x 19).toNat : Int)) ∧ w = w' := by
  go_enter Tryd.func28, Tryd.ntmps28
  go_wp2_with (go_at_call 29; refine (rotL19 x _).mono ?_; rintro e w' ⟨rfl, rfl⟩)
  go_ret
  exact ⟨rfl, rfl⟩
theorem sh22 (x : UInt32) : bits .or .u32 ((x.toNat : Int) / 4194304) ((x.toNat : Int) * 1024 % 4294967296) = ((rotr x 22).toNat : Int) := by
  have h1 : (x.toNat : Int) / (4194304 : Int) = ((x >>> 22).toNat : Int) := by
    rw [UInt32.toNat_shiftRight, show ((22 : UInt32).toNat % 32) = 22 from rfl, Nat.shiftRight_eq_div_pow]; rfl
  have h2 : (x.toNat : Int) * (1024 : Int) % (4294967296 : Int) = ((x <<< (32 - 22)).toNat : Int) := by
    rw [UInt32.toNat_shiftLeft, show ((32 - 22 : UInt32).toNat % 32) = 10 from rfl, Nat.shiftLeft_eq]; rfl
  rw [h1, h2, b_or]; rfl
theorem hs22 (x : UInt32) : bits .or .u32 ((x.toNat : Int) * 1024 % 4294967296) ((x.toNat : Int) / 4194304) = ((rotr x 22).toNat : Int) := by
  rw [← sh22, bits_or_comm]
theorem rot22 (x : UInt32) (w : World) : Calls Tryd.prog 21 #[.int .u32 (x.toNat : Int), .int .u64 22] w fun e w' => e = .returned (.int .u32 ((rotr x 22).toNat : Int)) ∧ w = w' := by
  go_enter Tryd.func21, Tryd.ntmps21
  go_wp2
  go_ret
  exact ⟨by rw [sh22]; rfl, rfl⟩
theorem rotL22 (x : UInt32) (w : World) : Calls Tryd.prog 29 #[.int .u32 (x.toNat : Int), .int .i64 (-22)] w fun e w' => e = .returned (.int .u32 ((rotr x 22).toNat : Int)) ∧ w = w' := by
  have h : bits BinOp.and IntKind.u64 (IntKind.u64.wrap (-22)) 31 = 10 := by decide
  go_enter Tryd.func29, Tryd.ntmps29
  go_wp2
  go_ret
  exact ⟨by rw [hs22]; rfl, rfl⟩
theorem right22 (x : UInt32) (w : World) : Calls Tryd.prog 28 #[.int .u32 (x.toNat : Int), .int .i64 22] w fun e w' => e = .returned (.int .u32 ((rotr x 22).toNat : Int)) ∧ w = w' := by
  go_enter Tryd.func28, Tryd.ntmps28
  go_wp2_with (go_at_call 29; refine (rotL22 x _).mono ?_; rintro e w' ⟨rfl, rfl⟩)
  go_ret
  exact ⟨rfl, rfl⟩
theorem sh25 (x : UInt32) : bits .or .u32 ((x.toNat : Int) / 33554432) ((x.toNat : Int) * 128 % 4294967296) = ((rotr x 25).toNat : Int) := by
  have h1 : (x.toNat : Int) / (33554432 : Int) = ((x >>> 25).toNat : Int) := by
    rw [UInt32.toNat_shiftRight, show ((25 : UInt32).toNat % 32) = 25 from rfl, Nat.shiftRight_eq_div_pow]; rfl
  have h2 : (x.toNat : Int) * (128 : Int) % (4294967296 : Int) = ((x <<< (32 - 25)).toNat : Int) := by
    rw [UInt32.toNat_shiftLeft, show ((32 - 25 : UInt32).toNat % 32) = 7 from rfl, Nat.shiftLeft_eq]; rfl
  rw [h1, h2, b_or]; rfl
theorem hs25 (x : UInt32) : bits .or .u32 ((x.toNat : Int) * 128 % 4294967296) ((x.toNat : Int) / 33554432) = ((rotr x 25).toNat : Int) := by
  rw [← sh25, bits_or_comm]
theorem rot25 (x : UInt32) (w : World) : Calls Tryd.prog 21 #[.int .u32 (x.toNat : Int), .int .u64 25] w fun e w' => e = .returned (.int .u32 ((rotr x 25).toNat : Int)) ∧ w = w' := by
  go_enter Tryd.func21, Tryd.ntmps21
  go_wp2
  go_ret
  exact ⟨by rw [sh25]; rfl, rfl⟩
theorem rotL25 (x : UInt32) (w : World) : Calls Tryd.prog 29 #[.int .u32 (x.toNat : Int), .int .i64 (-25)] w fun e w' => e = .returned (.int .u32 ((rotr x 25).toNat : Int)) ∧ w = w' := by
  have h : bits BinOp.and IntKind.u64 (IntKind.u64.wrap (-25)) 31 = 7 := by decide
  go_enter Tryd.func29, Tryd.ntmps29
  go_wp2
  go_ret
  exact ⟨by rw [hs25]; rfl, rfl⟩
theorem right25 (x : UInt32) (w : World) : Calls Tryd.prog 28 #[.int .u32 (x.toNat : Int), .int .i64 25] w fun e w' => e = .returned (.int .u32 ((rotr x 25).toNat : Int)) ∧ w = w' := by
  go_enter Tryd.func28, Tryd.ntmps28
  go_wp2_with (go_at_call 29; refine (rotL25 x _).mono ?_; rintro e w' ⟨rfl, rfl⟩)
  go_ret
  exact ⟨rfl, rfl⟩

/-- A turn to the right by a constant. -/
def rotI (x : UInt32) (z : Int) : UInt32 := rotr x (UInt32.ofNat z.toNat)
def okRot (z : Int) : Bool := [2, 6, 7, 11, 13, 17, 18, 19, 22, 25].contains z
theorem okRot_cases {z : Int} (h : okRot z = true) : z = 2 ∨ z = 6 ∨ z = 7 ∨ z = 11 ∨ z = 13 ∨ z = 17 ∨ z = 18 ∨ z = 19 ∨ z = 22 ∨ z = 25 := by
  simpa [okRot] using h
theorem right_all (x : UInt32) (z : Int) (w : World) (hz : okRot z = true) : Calls Tryd.prog 28 #[.int .u32 (x.toNat : Int), .int .i64 z] w fun e w' => e = .returned (.int .u32 ((rotI x z).toNat : Int)) ∧ w = w' := by
  rcases okRot_cases hz with rfl | rfl | rfl | rfl | rfl | rfl | rfl | rfl | rfl | rfl
  · exact right2 x w
  · exact right6 x w
  · exact right7 x w
  · exact right11 x w
  · exact right13 x w
  · exact right17 x w
  · exact right18 x w
  · exact right19 x w
  · exact right22 x w
  · exact right25 x w
theorem rot_all (x : UInt32) (z : Int) (w : World) (hz : okRot z = true) : Calls Tryd.prog 21 #[.int .u32 (x.toNat : Int), .int .u64 z] w fun e w' => e = .returned (.int .u32 ((rotI x z).toNat : Int)) ∧ w = w' := by
  rcases okRot_cases hz with rfl | rfl | rfl | rfl | rfl | rfl | rfl | rfl | rfl | rfl
  · exact rot2 x w
  · exact rot6 x w
  · exact rot7 x w
  · exact rot11 x w
  · exact rot13 x w
  · exact rot17 x w
  · exact rot18 x w
  · exact rot19 x w
  · exact rot22 x w
  · exact rot25 x w
theorem rotI2 (x : UInt32) : rotI x 2 = rotr x 2 := rfl
theorem rotI6 (x : UInt32) : rotI x 6 = rotr x 6 := rfl
theorem rotI7 (x : UInt32) : rotI x 7 = rotr x 7 := rfl
theorem rotI11 (x : UInt32) : rotI x 11 = rotr x 11 := rfl
theorem rotI13 (x : UInt32) : rotI x 13 = rotr x 13 := rfl
theorem rotI17 (x : UInt32) : rotI x 17 = rotr x 17 := rfl
theorem rotI18 (x : UInt32) : rotI x 18 = rotr x 18 := rfl
theorem rotI19 (x : UInt32) : rotI x 19 = rotr x 19 := rfl
theorem rotI22 (x : UInt32) : rotI x 22 = rotr x 22 := rfl
theorem rotI25 (x : UInt32) : rotI x 25 = rotr x 25 := rfl
end Go.Proofs.YtflbhicjaaeegaaDoor
