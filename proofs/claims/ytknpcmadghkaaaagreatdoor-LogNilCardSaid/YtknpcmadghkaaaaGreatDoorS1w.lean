/- Laws and walks. -/
import Derived.WalkKit
import Derived.KernelRfl
import Derived.Test.YtknpcmadghkaaaaGreatDoorProg
import Derived.WalkSpells
import Derived.WalkLawsBesides
import Derived.Laws.BitsAllLaws
import Derived.Laws.CopyOwn
import Derived.Lib.Hide
import Derived.IntWalk
import Derived.Deep.DeepMust
import Derived.Deep.QuietTactic
import Derived.BigQuiet
import Derived.Deep.WholeRow
import Derived.Deep.MidRow
import Derived.StillTailTactics
import Derived.Test.YtknpcmadghkaaaaGreatDoorBasew
set_option maxHeartbeats 16000000
set_option maxRecDepth 100000

namespace Go.Proofs.YtknpcmadghkaaaaGreatDoor.Sh
def rotr (x n : UInt32) : UInt32 := (x >>> n) ||| (x <<< (32 - n))
structure S8 where
 a : UInt32
 b : UInt32
 c : UInt32
 d : UInt32
 e : UInt32
 f : UInt32
 g : UInt32
 h : UInt32
def S8.list (s : S8) : List UInt32 := [s.a, s.b, s.c, s.d, s.e, s.f, s.g, s.h]
def tOf (s : S8) (k w : UInt32) : UInt32 := s.h + (rotr s.e 6 ^^^ rotr s.e 11 ^^^ rotr s.e 25) + ((s.e &&& s.f) ^^^ (~~~s.e &&& s.g)) + k + w
def uOf (s : S8) : UInt32 := (rotr s.a 2 ^^^ rotr s.a 13 ^^^ rotr s.a 22) + ((s.a &&& s.b) ^^^ (s.a &&& s.c) ^^^ (s.b &&& s.c))
def rnd (k w : UInt32) (s : S8) : S8 := ⟨tOf s k w + uOf s, s.a, s.b, s.c, s.d + tOf s k w, s.e, s.f, s.g⟩
def rnds (ks ws : List UInt32) (s : S8) : Nat -> S8
 | 0 => s
 | n + 1 => rnd (ks.getD n 0) (ws.getD n 0) (rnds ks ws s n)
def s0 (x : UInt32) : UInt32 := rotr x 7 ^^^ rotr x 18 ^^^ (x >>> 3)
def s1 (x : UInt32) : UInt32 := rotr x 17 ^^^ rotr x 19 ^^^ (x >>> 10)
def word (b0 b1 b2 b3 : UInt8) : UInt32 := (b0.toUInt32 <<< 24) ||| (b1.toUInt32 <<< 16) ||| (b2.toUInt32 <<< 8) ||| b3.toUInt32
def wordAt (b : List UInt8) (i : Nat) : UInt32 := word (b.getD (4 * i) 0) (b.getD (4 * i + 1) 0) (b.getD (4 * i + 2) 0) (b.getD (4 * i + 3) 0)
def words (b : List UInt8) (n : Nat) : List UInt32 := (List.range n).map (wordAt b)
def nextW (l : List UInt32) (n : Nat) : UInt32 := l.getD n 0 + s0 (l.getD (n + 1) 0) + l.getD (n + 9) 0 + s1 (l.getD (n + 14) 0)
def sched (b : List UInt8) : Nat -> List UInt32
 | 0 => words b 16
 | n + 1 => sched b n ++ [nextW (sched b n) n]
def K : List UInt32 := [0x428a2f98, 0x71374491, 0xb5c0fbcf, 0xe9b5dba5, 0x3956c25b, 0x59f111f1, 0x923f82a4, 0xab1c5ed5,
 0xd807aa98, 0x12835b01, 0x243185be, 0x550c7dc3, 0x72be5d74, 0x80deb1fe, 0x9bdc06a7, 0xc19bf174,
 0xe49b69c1, 0xefbe4786, 0x0fc19dc6, 0x240ca1cc, 0x2de92c6f, 0x4a7484aa, 0x5cb0a9dc, 0x76f988da,
 0x983e5152, 0xa831c66d, 0xb00327c8, 0xbf597fc7, 0xc6e00bf3, 0xd5a79147, 0x06ca6351, 0x14292967,
 0x27b70a85, 0x2e1b2138, 0x4d2c6dfc, 0x53380d13, 0x650a7354, 0x766a0abb, 0x81c2c92e, 0x92722c85,
 0xa2bfe8a1, 0xa81a664b, 0xc24b8b70, 0xc76c51a3, 0xd192e819, 0xd6990624, 0xf40e3585, 0x106aa070,
 0x19a4c116, 0x1e376c08, 0x2748774c, 0x34b0bcb5, 0x391c0cb3, 0x4ed8aa4a, 0x5b9cca4f, 0x682e6ff3,
 0x748f82ee, 0x78a5636f, 0x84c87814, 0x8cc70208, 0x90befffa, 0xa4506ceb, 0xbef9a3f7, 0xc67178f2]
def first8 (l : List UInt32) : S8 := ⟨l.getD 0 0, l.getD 1 0, l.getD 2 0, l.getD 3 0, l.getD 4 0, l.getD 5 0, l.getD 6 0, l.getD 7 0⟩
def mixedOf (h : List UInt32) (b : List UInt8) : List UInt32 := (rnds K (sched b 48) (first8 h) 64).list
def blockOf (h : List UInt32) (b : List UInt8) : List UInt32 := List.zipWith (· + ·) h (mixedOf h b)
def H0 : List UInt32 := [0x6a09e667, 0xbb67ae85, 0x3c6ef372, 0xa54ff53a, 0x510e527f, 0x9b05688c, 0x1f83d9ab, 0x5be0cd19]
def absN : Nat -> List UInt32 -> List UInt8 -> List UInt32
 | 0, h, _ => h
 | n + 1, h, b => absN n (blockOf h (b.take 64)) (b.drop 64)
def absorb (b : List UInt8) : List UInt32 := absN (b.length / 64) H0 b
def lenBytes (n k : Nat) : List UInt8 := (List.range k).map fun i => UInt8.ofNat (8 * n / 2 ^ (56 - 8 * i))
def padOf (n : Nat) : List UInt8 := 128 :: (List.replicate ((119 - n % 64) % 64) 0 ++ lenBytes n 8)
def four (x : UInt32) : List UInt8 := [(x >>> 24).toUInt8, (x >>> 16).toUInt8, (x >>> 8).toUInt8, x.toUInt8]
def digestOf (l : List UInt32) : List UInt8 := l.flatMap four
def sumOf (b : List UInt8) : List UInt8 := digestOf (absorb (b ++ padOf b.length))
open Go.RowKit
def u32 (x : UInt32) : Value := .int .u32 (x.toNat : Int)
theorem b_or (a b : UInt32) : bits .or .u32 (a.toNat : Int) (b.toNat : Int) = ((a ||| b).toNat : Int) := by
 rw [u32_or_nat _ _ a.toNat_lt b.toNat_lt, UInt32.toNat_or]
theorem b_xor (a b : UInt32) : bits .xor .u32 (a.toNat : Int) (b.toNat : Int) = ((a ^^^ b).toNat : Int) := by
 rw [u32_xor_nat _ _ a.toNat_lt b.toNat_lt, UInt32.toNat_xor]
theorem b_and (a b : UInt32) : bits .and .u32 (a.toNat : Int) (b.toNat : Int) = ((a &&& b).toNat : Int) := by
 rw [u32_and_nat _ _ a.toNat_lt b.toNat_lt, UInt32.toNat_and]
theorem b_not (a : UInt32) : bits .xor .u32 4294967295 (a.toNat : Int) = ((~~~a).toNat : Int) := by
 have h : ((4294967295 : UInt32).toNat : Int) = 4294967295 := rfl
 rw [<- h, b_xor]
 congr 2
theorem b_add (a b : UInt32) : ((a.toNat : Int) + (b.toNat : Int)) % 4294967296 = ((a + b).toNat : Int) := by
 rw [UInt32.toNat_add]; omega
theorem bits_or_comm (a b : Int) : bits .or .u32 a b = bits .or .u32 b a := by
 show IntKind.u32.wrap ((BitVec.ofInt 32 a ||| BitVec.ofInt 32 b).toNat : Int) = IntKind.u32.wrap ((BitVec.ofInt 32 b ||| BitVec.ofInt 32 a).toNat : Int)
 rw [BitVec.or_comm]
theorem sh2 (x : UInt32) : bits .or .u32 ((x.toNat : Int) / 4) ((x.toNat : Int) * 1073741824 % 4294967296) = ((rotr x 2).toNat : Int) := by
 have h1 : (x.toNat : Int) / (4 : Int) = ((x >>> 2).toNat : Int) := by
  rw [UInt32.toNat_shiftRight, show ((2 : UInt32).toNat % 32) = 2 from rfl, Nat.shiftRight_eq_div_pow]; rfl
 have h2 : (x.toNat : Int) * (1073741824 : Int) % (4294967296 : Int) = ((x <<< (32 - 2)).toNat : Int) := by
  rw [UInt32.toNat_shiftLeft, show ((32 - 2 : UInt32).toNat % 32) = 30 from rfl, Nat.shiftLeft_eq]; rfl
 rw [h1, h2, b_or]; rfl
theorem hs2 (x : UInt32) : bits .or .u32 ((x.toNat : Int) * 1073741824 % 4294967296) ((x.toNat : Int) / 4) = ((rotr x 2).toNat : Int) := by
 rw [<- sh2, bits_or_comm]
theorem rot2 (x : UInt32) (w : World) : Calls Tryz.prog 161 #[.int .u32 (x.toNat : Int), .int .u64 2] w fun e w' => e = .returned (.int .u32 ((rotr x 2).toNat : Int)) /\ w = w' := by
 go_enter Tryz.func161, Tryz.ntmps161
 go_wp2
 go_ret
 exact ⟨by rw [sh2]; rfl, rfl⟩
theorem rotL2 (x : UInt32) (w : World) : Calls Tryz.prog 187 #[.int .u32 (x.toNat : Int), .int .i64 (-2)] w fun e w' => e = .returned (.int .u32 ((rotr x 2).toNat : Int)) /\ w = w' := by
 have h : bits BinOp.and IntKind.u64 (IntKind.u64.wrap (-2)) 31 = 30 := by decide
 go_enter Tryz.func187, Tryz.ntmps187
 go_wp2
 go_ret
 exact ⟨by rw [hs2]; rfl, rfl⟩
theorem right2 (x : UInt32) (w : World) : Calls Tryz.prog 186 #[.int .u32 (x.toNat : Int), .int .i64 2] w fun e w' => e = .returned (.int .u32 ((rotr x 2).toNat : Int)) /\ w = w' := by
 go_enter Tryz.func186, Tryz.ntmps186
 go_wp2_with (go_at_call 187; refine (rotL2 x _).mono ?_; rintro e w' ⟨rfl, rfl⟩)
 go_ret
 exact ⟨rfl, rfl⟩
theorem sh6 (x : UInt32) : bits .or .u32 ((x.toNat : Int) / 64) ((x.toNat : Int) * 67108864 % 4294967296) = ((rotr x 6).toNat : Int) := by
 have h1 : (x.toNat : Int) / (64 : Int) = ((x >>> 6).toNat : Int) := by
  rw [UInt32.toNat_shiftRight, show ((6 : UInt32).toNat % 32) = 6 from rfl, Nat.shiftRight_eq_div_pow]; rfl
 have h2 : (x.toNat : Int) * (67108864 : Int) % (4294967296 : Int) = ((x <<< (32 - 6)).toNat : Int) := by
  rw [UInt32.toNat_shiftLeft, show ((32 - 6 : UInt32).toNat % 32) = 26 from rfl, Nat.shiftLeft_eq]; rfl
 rw [h1, h2, b_or]; rfl
theorem hs6 (x : UInt32) : bits .or .u32 ((x.toNat : Int) * 67108864 % 4294967296) ((x.toNat : Int) / 64) = ((rotr x 6).toNat : Int) := by
 rw [<- sh6, bits_or_comm]
theorem rot6 (x : UInt32) (w : World) : Calls Tryz.prog 161 #[.int .u32 (x.toNat : Int), .int .u64 6] w fun e w' => e = .returned (.int .u32 ((rotr x 6).toNat : Int)) /\ w = w' := by
 go_enter Tryz.func161, Tryz.ntmps161
 go_wp2
 go_ret
 exact ⟨by rw [sh6]; rfl, rfl⟩
theorem rotL6 (x : UInt32) (w : World) : Calls Tryz.prog 187 #[.int .u32 (x.toNat : Int), .int .i64 (-6)] w fun e w' => e = .returned (.int .u32 ((rotr x 6).toNat : Int)) /\ w = w' := by
 have h : bits BinOp.and IntKind.u64 (IntKind.u64.wrap (-6)) 31 = 26 := by decide
 go_enter Tryz.func187, Tryz.ntmps187
 go_wp2
 go_ret
 exact ⟨by rw [hs6]; rfl, rfl⟩
theorem right6 (x : UInt32) (w : World) : Calls Tryz.prog 186 #[.int .u32 (x.toNat : Int), .int .i64 6] w fun e w' => e = .returned (.int .u32 ((rotr x 6).toNat : Int)) /\ w = w' := by
 go_enter Tryz.func186, Tryz.ntmps186
 go_wp2_with (go_at_call 187; refine (rotL6 x _).mono ?_; rintro e w' ⟨rfl, rfl⟩)
 go_ret
 exact ⟨rfl, rfl⟩
theorem sh7 (x : UInt32) : bits .or .u32 ((x.toNat : Int) / 128) ((x.toNat : Int) * 33554432 % 4294967296) = ((rotr x 7).toNat : Int) := by
 have h1 : (x.toNat : Int) / (128 : Int) = ((x >>> 7).toNat : Int) := by
  rw [UInt32.toNat_shiftRight, show ((7 : UInt32).toNat % 32) = 7 from rfl, Nat.shiftRight_eq_div_pow]; rfl
 have h2 : (x.toNat : Int) * (33554432 : Int) % (4294967296 : Int) = ((x <<< (32 - 7)).toNat : Int) := by
  rw [UInt32.toNat_shiftLeft, show ((32 - 7 : UInt32).toNat % 32) = 25 from rfl, Nat.shiftLeft_eq]; rfl
 rw [h1, h2, b_or]; rfl
theorem hs7 (x : UInt32) : bits .or .u32 ((x.toNat : Int) * 33554432 % 4294967296) ((x.toNat : Int) / 128) = ((rotr x 7).toNat : Int) := by
 rw [<- sh7, bits_or_comm]
theorem rot7 (x : UInt32) (w : World) : Calls Tryz.prog 161 #[.int .u32 (x.toNat : Int), .int .u64 7] w fun e w' => e = .returned (.int .u32 ((rotr x 7).toNat : Int)) /\ w = w' := by
 go_enter Tryz.func161, Tryz.ntmps161
 go_wp2
 go_ret
 exact ⟨by rw [sh7]; rfl, rfl⟩
theorem rotL7 (x : UInt32) (w : World) : Calls Tryz.prog 187 #[.int .u32 (x.toNat : Int), .int .i64 (-7)] w fun e w' => e = .returned (.int .u32 ((rotr x 7).toNat : Int)) /\ w = w' := by
 have h : bits BinOp.and IntKind.u64 (IntKind.u64.wrap (-7)) 31 = 25 := by decide
 go_enter Tryz.func187, Tryz.ntmps187
 go_wp2
 go_ret
 exact ⟨by rw [hs7]; rfl, rfl⟩
theorem right7 (x : UInt32) (w : World) : Calls Tryz.prog 186 #[.int .u32 (x.toNat : Int), .int .i64 7] w fun e w' => e = .returned (.int .u32 ((rotr x 7).toNat : Int)) /\ w = w' := by
 go_enter Tryz.func186, Tryz.ntmps186
 go_wp2_with (go_at_call 187; refine (rotL7 x _).mono ?_; rintro e w' ⟨rfl, rfl⟩)
 go_ret
 exact ⟨rfl, rfl⟩
theorem sh11 (x : UInt32) : bits .or .u32 ((x.toNat : Int) / 2048) ((x.toNat : Int) * 2097152 % 4294967296) = ((rotr x 11).toNat : Int) := by
 have h1 : (x.toNat : Int) / (2048 : Int) = ((x >>> 11).toNat : Int) := by
  rw [UInt32.toNat_shiftRight, show ((11 : UInt32).toNat % 32) = 11 from rfl, Nat.shiftRight_eq_div_pow]; rfl
 have h2 : (x.toNat : Int) * (2097152 : Int) % (4294967296 : Int) = ((x <<< (32 - 11)).toNat : Int) := by
  rw [UInt32.toNat_shiftLeft, show ((32 - 11 : UInt32).toNat % 32) = 21 from rfl, Nat.shiftLeft_eq]; rfl
 rw [h1, h2, b_or]; rfl
theorem hs11 (x : UInt32) : bits .or .u32 ((x.toNat : Int) * 2097152 % 4294967296) ((x.toNat : Int) / 2048) = ((rotr x 11).toNat : Int) := by
 rw [<- sh11, bits_or_comm]
theorem rot11 (x : UInt32) (w : World) : Calls Tryz.prog 161 #[.int .u32 (x.toNat : Int), .int .u64 11] w fun e w' => e = .returned (.int .u32 ((rotr x 11).toNat : Int)) /\ w = w' := by
 go_enter Tryz.func161, Tryz.ntmps161
 go_wp2
 go_ret
 exact ⟨by rw [sh11]; rfl, rfl⟩
theorem rotL11 (x : UInt32) (w : World) : Calls Tryz.prog 187 #[.int .u32 (x.toNat : Int), .int .i64 (-11)] w fun e w' => e = .returned (.int .u32 ((rotr x 11).toNat : Int)) /\ w = w' := by
 have h : bits BinOp.and IntKind.u64 (IntKind.u64.wrap (-11)) 31 = 21 := by decide
 go_enter Tryz.func187, Tryz.ntmps187
 go_wp2
 go_ret
 exact ⟨by rw [hs11]; rfl, rfl⟩
theorem right11 (x : UInt32) (w : World) : Calls Tryz.prog 186 #[.int .u32 (x.toNat : Int), .int .i64 11] w fun e w' => e = .returned (.int .u32 ((rotr x 11).toNat : Int)) /\ w = w' := by
 go_enter Tryz.func186, Tryz.ntmps186
 go_wp2_with (go_at_call 187; refine (rotL11 x _).mono ?_; rintro e w' ⟨rfl, rfl⟩)
 go_ret
 exact ⟨rfl, rfl⟩
theorem sh13 (x : UInt32) : bits .or .u32 ((x.toNat : Int) / 8192) ((x.toNat : Int) * 524288 % 4294967296) = ((rotr x 13).toNat : Int) := by
 have h1 : (x.toNat : Int) / (8192 : Int) = ((x >>> 13).toNat : Int) := by
  rw [UInt32.toNat_shiftRight, show ((13 : UInt32).toNat % 32) = 13 from rfl, Nat.shiftRight_eq_div_pow]; rfl
 have h2 : (x.toNat : Int) * (524288 : Int) % (4294967296 : Int) = ((x <<< (32 - 13)).toNat : Int) := by
  rw [UInt32.toNat_shiftLeft, show ((32 - 13 : UInt32).toNat % 32) = 19 from rfl, Nat.shiftLeft_eq]; rfl
 rw [h1, h2, b_or]; rfl
theorem hs13 (x : UInt32) : bits .or .u32 ((x.toNat : Int) * 524288 % 4294967296) ((x.toNat : Int) / 8192) = ((rotr x 13).toNat : Int) := by
 rw [<- sh13, bits_or_comm]
theorem rot13 (x : UInt32) (w : World) : Calls Tryz.prog 161 #[.int .u32 (x.toNat : Int), .int .u64 13] w fun e w' => e = .returned (.int .u32 ((rotr x 13).toNat : Int)) /\ w = w' := by
 go_enter Tryz.func161, Tryz.ntmps161
 go_wp2
 go_ret
 exact ⟨by rw [sh13]; rfl, rfl⟩
theorem rotL13 (x : UInt32) (w : World) : Calls Tryz.prog 187 #[.int .u32 (x.toNat : Int), .int .i64 (-13)] w fun e w' => e = .returned (.int .u32 ((rotr x 13).toNat : Int)) /\ w = w' := by
 have h : bits BinOp.and IntKind.u64 (IntKind.u64.wrap (-13)) 31 = 19 := by decide
 go_enter Tryz.func187, Tryz.ntmps187
 go_wp2
 go_ret
 exact ⟨by rw [hs13]; rfl, rfl⟩
theorem right13 (x : UInt32) (w : World) : Calls Tryz.prog 186 #[.int .u32 (x.toNat : Int), .int .i64 13] w fun e w' => e = .returned (.int .u32 ((rotr x 13).toNat : Int)) /\ w = w' := by
 go_enter Tryz.func186, Tryz.ntmps186
 go_wp2_with (go_at_call 187; refine (rotL13 x _).mono ?_; rintro e w' ⟨rfl, rfl⟩)
 go_ret
 exact ⟨rfl, rfl⟩
theorem sh17 (x : UInt32) : bits .or .u32 ((x.toNat : Int) / 131072) ((x.toNat : Int) * 32768 % 4294967296) = ((rotr x 17).toNat : Int) := by
 have h1 : (x.toNat : Int) / (131072 : Int) = ((x >>> 17).toNat : Int) := by
  rw [UInt32.toNat_shiftRight, show ((17 : UInt32).toNat % 32) = 17 from rfl, Nat.shiftRight_eq_div_pow]; rfl
 have h2 : (x.toNat : Int) * (32768 : Int) % (4294967296 : Int) = ((x <<< (32 - 17)).toNat : Int) := by
  rw [UInt32.toNat_shiftLeft, show ((32 - 17 : UInt32).toNat % 32) = 15 from rfl, Nat.shiftLeft_eq]; rfl
 rw [h1, h2, b_or]; rfl
theorem hs17 (x : UInt32) : bits .or .u32 ((x.toNat : Int) * 32768 % 4294967296) ((x.toNat : Int) / 131072) = ((rotr x 17).toNat : Int) := by
 rw [<- sh17, bits_or_comm]
theorem rot17 (x : UInt32) (w : World) : Calls Tryz.prog 161 #[.int .u32 (x.toNat : Int), .int .u64 17] w fun e w' => e = .returned (.int .u32 ((rotr x 17).toNat : Int)) /\ w = w' := by
 go_enter Tryz.func161, Tryz.ntmps161
 go_wp2
 go_ret
 exact ⟨by rw [sh17]; rfl, rfl⟩
theorem rotL17 (x : UInt32) (w : World) : Calls Tryz.prog 187 #[.int .u32 (x.toNat : Int), .int .i64 (-17)] w fun e w' => e = .returned (.int .u32 ((rotr x 17).toNat : Int)) /\ w = w' := by
 have h : bits BinOp.and IntKind.u64 (IntKind.u64.wrap (-17)) 31 = 15 := by decide
 go_enter Tryz.func187, Tryz.ntmps187
 go_wp2
 go_ret
 exact ⟨by rw [hs17]; rfl, rfl⟩
theorem right17 (x : UInt32) (w : World) : Calls Tryz.prog 186 #[.int .u32 (x.toNat : Int), .int .i64 17] w fun e w' => e = .returned (.int .u32 ((rotr x 17).toNat : Int)) /\ w = w' := by
 go_enter Tryz.func186, Tryz.ntmps186
 go_wp2_with (go_at_call 187; refine (rotL17 x _).mono ?_; rintro e w' ⟨rfl, rfl⟩)
 go_ret
 exact ⟨rfl, rfl⟩
theorem sh18 (x : UInt32) : bits .or .u32 ((x.toNat : Int) / 262144) ((x.toNat : Int) * 16384 % 4294967296) = ((rotr x 18).toNat : Int) := by
 have h1 : (x.toNat : Int) / (262144 : Int) = ((x >>> 18).toNat : Int) := by
  rw [UInt32.toNat_shiftRight, show ((18 : UInt32).toNat % 32) = 18 from rfl, Nat.shiftRight_eq_div_pow]; rfl
 have h2 : (x.toNat : Int) * (16384 : Int) % (4294967296 : Int) = ((x <<< (32 - 18)).toNat : Int) := by
  rw [UInt32.toNat_shiftLeft, show ((32 - 18 : UInt32).toNat % 32) = 14 from rfl, Nat.shiftLeft_eq]; rfl
 rw [h1, h2, b_or]; rfl
theorem hs18 (x : UInt32) : bits .or .u32 ((x.toNat : Int) * 16384 % 4294967296) ((x.toNat : Int) / 262144) = ((rotr x 18).toNat : Int) := by
 rw [<- sh18, bits_or_comm]
theorem rot18 (x : UInt32) (w : World) : Calls Tryz.prog 161 #[.int .u32 (x.toNat : Int), .int .u64 18] w fun e w' => e = .returned (.int .u32 ((rotr x 18).toNat : Int)) /\ w = w' := by
 go_enter Tryz.func161, Tryz.ntmps161
 go_wp2
 go_ret
 exact ⟨by rw [sh18]; rfl, rfl⟩
theorem rotL18 (x : UInt32) (w : World) : Calls Tryz.prog 187 #[.int .u32 (x.toNat : Int), .int .i64 (-18)] w fun e w' => e = .returned (.int .u32 ((rotr x 18).toNat : Int)) /\ w = w' := by
 have h : bits BinOp.and IntKind.u64 (IntKind.u64.wrap (-18)) 31 = 14 := by decide
 go_enter Tryz.func187, Tryz.ntmps187
 go_wp2
 go_ret
 exact ⟨by rw [hs18]; rfl, rfl⟩
theorem right18 (x : UInt32) (w : World) : Calls Tryz.prog 186 #[.int .u32 (x.toNat : Int), .int .i64 18] w fun e w' => e = .returned (.int .u32 ((rotr x 18).toNat : Int)) /\ w = w' := by
 go_enter Tryz.func186, Tryz.ntmps186
 go_wp2_with (go_at_call 187; refine (rotL18 x _).mono ?_; rintro e w' ⟨rfl, rfl⟩)
 go_ret
 exact ⟨rfl, rfl⟩
theorem sh19 (x : UInt32) : bits .or .u32 ((x.toNat : Int) / 524288) ((x.toNat : Int) * 8192 % 4294967296) = ((rotr x 19).toNat : Int) := by
 have h1 : (x.toNat : Int) / (524288 : Int) = ((x >>> 19).toNat : Int) := by
  rw [UInt32.toNat_shiftRight, show ((19 : UInt32).toNat % 32) = 19 from rfl, Nat.shiftRight_eq_div_pow]; rfl
 have h2 : (x.toNat : Int) * (8192 : Int) % (4294967296 : Int) = ((x <<< (32 - 19)).toNat : Int) := by
  rw [UInt32.toNat_shiftLeft, show ((32 - 19 : UInt32).toNat % 32) = 13 from rfl, Nat.shiftLeft_eq]; rfl
 rw [h1, h2, b_or]; rfl
theorem hs19 (x : UInt32) : bits .or .u32 ((x.toNat : Int) * 8192 % 4294967296) ((x.toNat : Int) / 524288) = ((rotr x 19).toNat : Int) := by
 rw [<- sh19, bits_or_comm]
theorem rot19 (x : UInt32) (w : World) : Calls Tryz.prog 161 #[.int .u32 (x.toNat : Int), .int .u64 19] w fun e w' => e = .returned (.int .u32 ((rotr x 19).toNat : Int)) /\ w = w' := by
 go_enter Tryz.func161, Tryz.ntmps161
 go_wp2
 go_ret
 exact ⟨by rw [sh19]; rfl, rfl⟩
theorem rotL19 (x : UInt32) (w : World) : Calls Tryz.prog 187 #[.int .u32 (x.toNat : Int), .int .i64 (-19)] w fun e w' => e = .returned (.int .u32 ((rotr x 19).toNat : Int)) /\ w = w' := by
 have h : bits BinOp.and IntKind.u64 (IntKind.u64.wrap (-19)) 31 = 13 := by decide
 go_enter Tryz.func187, Tryz.ntmps187
 go_wp2
 go_ret
 exact ⟨by rw [hs19]; rfl, rfl⟩
theorem right19 (x : UInt32) (w : World) : Calls Tryz.prog 186 #[.int .u32 (x.toNat : Int), .int .i64 19] w fun e w' => e = .returned (.int .u32 ((rotr x 19).toNat : Int)) /\ w = w' := by
 go_enter Tryz.func186, Tryz.ntmps186
 go_wp2_with (go_at_call 187; refine (rotL19 x _).mono ?_; rintro e w' ⟨rfl, rfl⟩)
 go_ret
 exact ⟨rfl, rfl⟩
theorem sh22 (x : UInt32) : bits .or .u32 ((x.toNat : Int) / 4194304) ((x.toNat : Int) * 1024 % 4294967296) = ((rotr x 22).toNat : Int) := by
 have h1 : (x.toNat : Int) / (4194304 : Int) = ((x >>> 22).toNat : Int) := by
  rw [UInt32.toNat_shiftRight, show ((22 : UInt32).toNat % 32) = 22 from rfl, Nat.shiftRight_eq_div_pow]; rfl
 have h2 : (x.toNat : Int) * (1024 : Int) % (4294967296 : Int) = ((x <<< (32 - 22)).toNat : Int) := by
  rw [UInt32.toNat_shiftLeft, show ((32 - 22 : UInt32).toNat % 32) = 10 from rfl, Nat.shiftLeft_eq]; rfl
 rw [h1, h2, b_or]; rfl
theorem hs22 (x : UInt32) : bits .or .u32 ((x.toNat : Int) * 1024 % 4294967296) ((x.toNat : Int) / 4194304) = ((rotr x 22).toNat : Int) := by
 rw [<- sh22, bits_or_comm]
theorem rot22 (x : UInt32) (w : World) : Calls Tryz.prog 161 #[.int .u32 (x.toNat : Int), .int .u64 22] w fun e w' => e = .returned (.int .u32 ((rotr x 22).toNat : Int)) /\ w = w' := by
 go_enter Tryz.func161, Tryz.ntmps161
 go_wp2
 go_ret
 exact ⟨by rw [sh22]; rfl, rfl⟩
theorem rotL22 (x : UInt32) (w : World) : Calls Tryz.prog 187 #[.int .u32 (x.toNat : Int), .int .i64 (-22)] w fun e w' => e = .returned (.int .u32 ((rotr x 22).toNat : Int)) /\ w = w' := by
 have h : bits BinOp.and IntKind.u64 (IntKind.u64.wrap (-22)) 31 = 10 := by decide
 go_enter Tryz.func187, Tryz.ntmps187
 go_wp2
 go_ret
 exact ⟨by rw [hs22]; rfl, rfl⟩
theorem right22 (x : UInt32) (w : World) : Calls Tryz.prog 186 #[.int .u32 (x.toNat : Int), .int .i64 22] w fun e w' => e = .returned (.int .u32 ((rotr x 22).toNat : Int)) /\ w = w' := by
 go_enter Tryz.func186, Tryz.ntmps186
 go_wp2_with (go_at_call 187; refine (rotL22 x _).mono ?_; rintro e w' ⟨rfl, rfl⟩)
 go_ret
 exact ⟨rfl, rfl⟩
theorem sh25 (x : UInt32) : bits .or .u32 ((x.toNat : Int) / 33554432) ((x.toNat : Int) * 128 % 4294967296) = ((rotr x 25).toNat : Int) := by
 have h1 : (x.toNat : Int) / (33554432 : Int) = ((x >>> 25).toNat : Int) := by
  rw [UInt32.toNat_shiftRight, show ((25 : UInt32).toNat % 32) = 25 from rfl, Nat.shiftRight_eq_div_pow]; rfl
 have h2 : (x.toNat : Int) * (128 : Int) % (4294967296 : Int) = ((x <<< (32 - 25)).toNat : Int) := by
  rw [UInt32.toNat_shiftLeft, show ((32 - 25 : UInt32).toNat % 32) = 7 from rfl, Nat.shiftLeft_eq]; rfl
 rw [h1, h2, b_or]; rfl
theorem hs25 (x : UInt32) : bits .or .u32 ((x.toNat : Int) * 128 % 4294967296) ((x.toNat : Int) / 33554432) = ((rotr x 25).toNat : Int) := by
 rw [<- sh25, bits_or_comm]
theorem rot25 (x : UInt32) (w : World) : Calls Tryz.prog 161 #[.int .u32 (x.toNat : Int), .int .u64 25] w fun e w' => e = .returned (.int .u32 ((rotr x 25).toNat : Int)) /\ w = w' := by
 go_enter Tryz.func161, Tryz.ntmps161
 go_wp2
 go_ret
 exact ⟨by rw [sh25]; rfl, rfl⟩
theorem rotL25 (x : UInt32) (w : World) : Calls Tryz.prog 187 #[.int .u32 (x.toNat : Int), .int .i64 (-25)] w fun e w' => e = .returned (.int .u32 ((rotr x 25).toNat : Int)) /\ w = w' := by
 have h : bits BinOp.and IntKind.u64 (IntKind.u64.wrap (-25)) 31 = 7 := by decide
 go_enter Tryz.func187, Tryz.ntmps187
 go_wp2
 go_ret
 exact ⟨by rw [hs25]; rfl, rfl⟩
theorem right25 (x : UInt32) (w : World) : Calls Tryz.prog 186 #[.int .u32 (x.toNat : Int), .int .i64 25] w fun e w' => e = .returned (.int .u32 ((rotr x 25).toNat : Int)) /\ w = w' := by
 go_enter Tryz.func186, Tryz.ntmps186
 go_wp2_with (go_at_call 187; refine (rotL25 x _).mono ?_; rintro e w' ⟨rfl, rfl⟩)
 go_ret
 exact ⟨rfl, rfl⟩
def rotI (x : UInt32) (z : Int) : UInt32 := rotr x (UInt32.ofNat z.toNat)
def okRot (z : Int) : Bool := [2, 6, 7, 11, 13, 17, 18, 19, 22, 25].contains z
theorem okRot_cases {z : Int} (h : okRot z = true) : z = 2 \/ z = 6 \/ z = 7 \/ z = 11 \/ z = 13 \/ z = 17 \/ z = 18 \/ z = 19 \/ z = 22 \/ z = 25 := by
 simpa [okRot] using h
theorem right_all (x : UInt32) (z : Int) (w : World) (hz : okRot z = true) : Calls Tryz.prog 186 #[.int .u32 (x.toNat : Int), .int .i64 z] w fun e w' => e = .returned (.int .u32 ((rotI x z).toNat : Int)) /\ w = w' := by
 rcases okRot_cases hz with rfl | rfl | rfl | rfl | rfl | rfl | rfl | rfl | rfl | rfl
 ·exact right2 x w
 ·exact right6 x w
 ·exact right7 x w
 ·exact right11 x w
 ·exact right13 x w
 ·exact right17 x w
 ·exact right18 x w
 ·exact right19 x w
 ·exact right22 x w
 ·exact right25 x w
theorem rot_all (x : UInt32) (z : Int) (w : World) (hz : okRot z = true) : Calls Tryz.prog 161 #[.int .u32 (x.toNat : Int), .int .u64 z] w fun e w' => e = .returned (.int .u32 ((rotI x z).toNat : Int)) /\ w = w' := by
 rcases okRot_cases hz with rfl | rfl | rfl | rfl | rfl | rfl | rfl | rfl | rfl | rfl
 ·exact rot2 x w
 ·exact rot6 x w
 ·exact rot7 x w
 ·exact rot11 x w
 ·exact rot13 x w
 ·exact rot17 x w
 ·exact rot18 x w
 ·exact rot19 x w
 ·exact rot22 x w
 ·exact rot25 x w
theorem rotI2 (x : UInt32) : rotI x 2 = rotr x 2 := rfl
theorem rotI6 (x : UInt32) : rotI x 6 = rotr x 6 := rfl
theorem rotI7 (x : UInt32) : rotI x 7 = rotr x 7 := rfl
theorem rotI11 (x : UInt32) : rotI x 11 = rotr x 11 := rfl
theorem rotI13 (x : UInt32) : rotI x 13 = rotr x 13 := rfl
theorem rotI17 (x : UInt32) : rotI x 17 = rotr x 17 := rfl
theorem rotI18 (x : UInt32) : rotI x 18 = rotr x 18 := rfl
theorem rotI19 (x : UInt32) : rotI x 19 = rotr x 19 := rfl
theorem rotI22 (x : UInt32) : rotI x 22 = rotr x 22 := rfl
theorem rotI25 (x : UInt32) : rotI x 25 = rotr x 25 := rfl
open Go.RowKit
def u32s (l : List UInt32) : List Value := l.map u32
def KIs (w : World) : Prop := ∀ i : Nat, i < 64 -> w.cell? ⟨0, i, none⟩ = some (.int .u32 ((K.getD i 0).toNat : Int))
theorem Tryz.size202 : (Tryz.prog.info? 202).map (·.size) = some 8 := by kernel_rfl
theorem Tryz.size204 : (Tryz.prog.info? 204).map (·.size) = some 64 := by kernel_rfl
theorem Tryz.size30 : (Tryz.prog.info? 30).map (·.size) = some 32 := by kernel_rfl
theorem Tryz.size216 : (Tryz.prog.info? 216).map (·.size) = some 64 := by kernel_rfl
theorem Tryz.size234 : (Tryz.prog.info? 234).map (·.size) = some 72 := by kernel_rfl
theorem Tryz.size233 : (Tryz.prog.info? 233).map (·.size) = some 74 := by kernel_rfl
theorem ret_range {P : Program} {fn : Func} {p : Tmp} {ty : TypeId} (h : fn.results = #[.cell p ty]) {tmps : Array Value} {w : World} {g : Nat} {cs : List Value} {d : TypeDesc}
  (hp : tmps.getD p undef = .pointer (some ⟨g, 0, none⟩)) (hc : w.rangeAt g 0 cs) (hu : P.underlying ty = some d) (hd : d.isRow = true) (hi : (P.info? ty).map (·.size) = some cs.length) :
  (results fn tmps).run P w = .ok (.agg cs.toArray) w := by
 have hp' : tmps[p]?.getD undef = .pointer (some ⟨g, 0, none⟩) := by simpa using hp
 simp [results, h, hp', asAddr, run_loadVar_mid w g 0 ty cs d hc hu hd hi]
theorem below_setCells {B : Nat} {a : World} {b : Nat} (hb : B <= b) : ∀ (vs : List Value) (o : Nat) (w : World), Below B a w -> Below B a (w.setCells b o vs)
 | [], _, _, h => h
 | v :: r, o, w, h => by
  rw [World.setCells]
  exact below_setCells hb r (o + 1) _ (h.setCell hb v)
theorem below_drewN {B : Nat} {a w : World} (h : Below B a w) (q : Nat) : Below B a (w.drewN q) := ⟨h.os, h.tape, h.output, h.size, h.block⟩
theorem range_new (w : World) (cs : List Value) (t : TypeId) : (w.alloc (.cells cs.toArray t)).rangeAt w.heap.size 0 cs := fun j v hv => by
 rw [Nat.zero_add, cell_of_row _ _ j cs.toArray t (0, 0) (heap_alloc_new w _)]
 simpa using hv
theorem there_new (w : World) (cs : Array Value) (t : TypeId) : (w.alloc (.cells cs t)).there w.heap.size 0 cs.size := fun j hj => by
 have h := heap_alloc_new w (.cells cs t)
 refine ⟨?_, ?_⟩
 ·rw [cell_of_row _ _ (0 + j) cs t (0, 0) h]
  simp [hj]
 ·simp only [World.frozen?, h]
  simp
theorem there_new2 (w : World) (o : Obj) (cs : Array Value) (t : TypeId) : ((w.alloc o).alloc (.cells cs t)).there (w.heap.size + 1) 0 cs.size := by
 have h := there_new (w.alloc o) cs t
 rwa [show (w.alloc o).heap.size = w.heap.size + 1 by simp] at h
theorem there_drewN {w : World} {b o n : Nat} (h : w.there b o n) (q : Nat) : (w.drewN q).there b o n := h
theorem u32s_one (l : List UInt32) : ∀ v ∈ u32s l, v.oneCell' = true := by
 intro v hv
 simp only [u32s, List.mem_map] at hv
 obtain ⟨x, _, rfl⟩ := hv
 rfl
theorem u32s_length (l : List UInt32) : (u32s l).length = l.length := by simp [u32s]
theorem wpList_store_cells {P : Program} {ops : Array Oper} {rest : List Oper} {op : Oper} {a : Act} {w : World} {Q : Exit -> Act -> World -> Prop} (hgd : op.guard = none) (ty : TypeId) (x y : Operand) (ho : op.op = .store ty x y)
  (b o : Nat) (cs : List Value) (hx : a.eval x = .pointer (some ⟨b, o, none⟩)) (hy : a.eval y = .agg cs.toArray)
  (ht : w.there b o cs.length) (hi : (P.info? ty).map (·.size) = some cs.length) (h1 : ∀ v ∈ cs, v.oneCell' = true)
  (h : wpList P ops Q rest (a.put op.dst undef) (w.setCells b o cs)) : wpList P ops Q (op :: rest) a w :=
 wpList_store_mid hgd ty x y ho b o cs.toArray hx hy (by simpa using ht) (by simpa using hi) (all_oneCell_toArray h1) (by simpa using h)
theorem start_any (w : World) : Calls Tryz.prog 180 #[] w fun e w' => e = .returned (.agg (u32s H0).toArray) /\ Below w.heap.size w w' := by
 go_enter Tryz.func180, Tryz.ntmps180
 go_wp2
 exact bodyPost_ret (ret_range rfl rfl (range_new w (u32s H0) 202) Tryz.underlying202 rfl Tryz.size202) rfl ⟨rfl, bl.alloc (Nat.le_refl _) _⟩
theorem startRef_any (w : World) : Calls Tryz.prog 146 #[] w fun e w' => e = .returned (.agg (u32s H0).toArray) /\ Below w.heap.size w w' := by
 go_enter Tryz.func146, Tryz.ntmps146
 go_wp2
 exact bodyPost_ret (ret_range rfl rfl (range_new w (u32s H0) 202) Tryz.underlying202 rfl Tryz.size202) rfl ⟨rfl, bl.alloc (Nat.le_refl _) _⟩
theorem b_not' (a : UInt32) : bits .xor .u32 (if IntKind.u32.signed = true then -1 else IntKind.u32.max) (a.toNat : Int) = ((~~~a).toNat : Int) := b_not a
theorem t_eq (s : S8) (k w : UInt32) :
  ((s.h.toNat : Int) + bits .xor .u32 (bits .xor .u32 ((rotr s.e 6).toNat : Int) ((rotr s.e 11).toNat : Int)) ((rotr s.e 25).toNat : Int) +
   bits .xor .u32 (bits .and .u32 (s.e.toNat : Int) (s.f.toNat : Int)) (bits .and .u32 (bits .xor .u32 (if IntKind.u32.signed = true then -1 else IntKind.u32.max) (s.e.toNat : Int)) (s.g.toNat : Int)) + (k.toNat : Int) + (w.toNat : Int)) % 4294967296 = ((tOf s k w).toNat : Int) := by
 simp only [b_xor, b_and, b_not', tOf, UInt32.toNat_add]
 omega
theorem u_eq (s : S8) :
  ((bits .xor .u32 (bits .xor .u32 ((rotr s.a 2).toNat : Int) ((rotr s.a 13).toNat : Int)) ((rotr s.a 22).toNat : Int)) +
   bits .xor .u32 (bits .xor .u32 (bits .and .u32 (s.a.toNat : Int) (s.b.toNat : Int)) (bits .and .u32 (s.a.toNat : Int) (s.c.toNat : Int))) (bits .and .u32 (s.b.toNat : Int) (s.c.toNat : Int))) % 4294967296 = ((uOf s).toNat : Int) := by
 simp only [b_xor, b_and, b_add, uOf]
theorem mixed_any (a b c d e f g h : UInt32) (ws : List UInt32) (gw : Nat) (w : World) (hk : KIs w) (h0 : 0 < w.heap.size) (hg : gw < w.heap.size)
  (hw : ∀ i, i < 64 -> w.cell? ⟨gw, i, none⟩ = some (u32 (ws.getD i 0))) :
  Calls Tryz.prog 185 #[.agg #[u32 a, u32 b, u32 c, u32 d, u32 e, u32 f, u32 g, u32 h], .pointer (some ⟨gw, 0, none⟩)] w fun E w' => E = .returned (.agg (u32s (rnds K ws ⟨a, b, c, d, e, f, g, h⟩ 64).list).toArray) /\ Below w.heap.size w w' := by
 have HK := iq hk
 have HW := iq hw
 clear hk hw
 unfold u32
 go_enter Tryz.func185, Tryz.ntmps185
 go_wp2
 go_quiet (fail)
 go_wp2
 go_loopw [5, 6, 7, 8, 9, 10, 11, 12, 32] (fun va vb vc vd ve vf vg vh vi wr => ∃ k : Nat, k <= 64 /\ vi = .int .i64 k /\
   va = .int .u32 ((rnds K ws ⟨a, b, c, d, e, f, g, h⟩ k).a.toNat : Int) /\ vb = .int .u32 ((rnds K ws ⟨a, b, c, d, e, f, g, h⟩ k).b.toNat : Int) /\
   vc = .int .u32 ((rnds K ws ⟨a, b, c, d, e, f, g, h⟩ k).c.toNat : Int) /\ vd = .int .u32 ((rnds K ws ⟨a, b, c, d, e, f, g, h⟩ k).d.toNat : Int) /\
   ve = .int .u32 ((rnds K ws ⟨a, b, c, d, e, f, g, h⟩ k).e.toNat : Int) /\ vf = .int .u32 ((rnds K ws ⟨a, b, c, d, e, f, g, h⟩ k).f.toNat : Int) /\
   vg = .int .u32 ((rnds K ws ⟨a, b, c, d, e, f, g, h⟩ k).g.toNat : Int) /\ vh = .int .u32 ((rnds K ws ⟨a, b, c, d, e, f, g, h⟩ k).h.toNat : Int) /\
   Below w.heap.size w wr /\ Hid (wr.there (w.heap.size + 1) 0 8))
  (fun _ _ _ _ _ _ _ _ vi _ => 64 - (intOf vi).toNat)
 case atStart => exact ⟨0, by omega, rfl, rfl, rfl, rfl, rfl, rfl, rfl, rfl, rfl, below_drewN ((bl.alloc (Nat.le_refl _) _).alloc (by simp) _) _, iq (there_drewN (there_new2 w _ _ _) _)⟩
 case round =>
  obtain ⟨k, hk, rfl, rfl, rfl, rfl, rfl, rfl, rfl, rfl, rfl, hb, HT⟩ := hrel
  by_cases hk8 : k < 64
  ·obtain ⟨st, hst⟩ : ∃ st, st = rnds K ws ⟨a, b, c, d, e, f, g, h⟩ k := ⟨_, rfl⟩
   have hwk : wr.cell? ⟨gw, k, none⟩ = some (.int .u32 ((ws.getD k 0).toNat : Int)) := (hb.cell (p := ⟨gw, k, none⟩) hg).trans (HW.out k hk8)
   have hkk : wr.cell? ⟨0, k, none⟩ = some (.int .u32 ((K.getD k 0).toNat : Int)) := (hb.cell (p := ⟨0, k, none⟩) h0).trans (HK.out k hk8)
   have hn : rnds K ws ⟨a, b, c, d, e, f, g, h⟩ (k + 1) = rnd (K.getD k 0) (ws.getD k 0) st := by rw [hst]; rfl
   rw [<- hst]
   generalize ws.getD k 0 = wk at hwk hn
   generalize K.getD k 0 = kk at hkk hn
   have HN := iq hn
   clear hn hst
   go_wp2
   go_quiet (first | (go_at_call 186; exact (right_all _ _ _ (by decide)).mono fun _ _ h => ⟨h.1, _, h.2.symm⟩))
   go_wp2_with (first | (go_at_call 186; refine (right_all _ _ _ (by decide)).mono ?_; rintro E w' ⟨rfl, rfl⟩))
   go_roundw
   case measure => simp [intOf]; omega
   case rel =>
    simp only [rotI2, rotI6, rotI11, rotI13, rotI22, rotI25, t_eq, u_eq]
    refine ⟨k + 1, by omega, by go_num, ?_, ?_, ?_, ?_, ?_, ?_, ?_, ?_, below_drewN hb _, iq (there_drewN HT.out _)⟩ <;> rw [HN.out] <;> first | rfl | (rw [b_add]; rfl)
  ·obtain rfl : k = 64 := by omega
   obtain ⟨st, hst⟩ : ∃ st, st = rnds K ws ⟨a, b, c, d, e, f, g, h⟩ 64 := ⟨_, rfl⟩
   rw [<- hst]
   have HS := iq hst
   clear hst
   go_wp2_with (first
    | (refine wpList_store_cells rfl 202 (.tmp 4) (.tmp 105) rfl (w.heap.size + 1) 0 (u32s st.list) rfl rfl HT.out Tryz.size202 (u32s_one _) ?_))
   exact bodyPost_ret (ret_range (cs := u32s st.list) rfl rfl (World.rangeAt_setCells_same _ _ _ (u32s st.list) HT.out) Tryz.underlying202 rfl Tryz.size202) rfl ⟨by rw [HS.out], below_setCells (Nat.le_succ _) _ _ _ hb⟩
variable {P : Program}
theorem still_of_quiet {ops : Array Oper} {w : World} {Q : Act -> Prop} : ∀ (l : List Oper) (a : Act), wpQuiet P ops (fun x => x = w) Q l a -> wpStill P ops w Q l a
 | [], _, h => h
 | o :: rest, a, h => by
  unfold wpQuiet at h
  unfold wpStill
  split at h
  ·rename_i hw
   rw [if_pos hw]
   obtain ⟨v, h1, h2⟩ := h
   have h3 := h1 w rfl
   have h4 := still_of_quiet rest _ h2
   unfold Oper.quietAt at h3
   unfold Oper.still
   generalize (execOp a.eval o).run P w = r at *
   cases r with
   | ok n w' =>
    cases n <;> simp only [Oper.quietUpon] at h3 <;> simp only [Oper.stillUpon]
    case value u => obtain ⟨rfl, rfl⟩ := h3; exact ⟨rfl, h4⟩
    case skip => obtain ⟨rfl, rfl⟩ := h3; exact ⟨rfl, h4⟩
    case enter f args => exact ⟨h3.1, v, h3.2, h4⟩
   | halt => simp only [Oper.quietUpon] at h3
  ·rename_i hw
   rw [if_neg hw]
   exact still_of_quiet rest _ h
theorem wp_region_quiet_tail {id : Nat} {Q : Exit -> Act -> World -> Prop} {a : Act} {w : World} {l : List Oper} (n : Nat) (hm : P.follows .mixedOrders = true) (hB : Region.lexTailB .any l.toArray n = true)
  (h : wpQuiet P l.toArray (fun x => x = w.drew) (fun a' => wpList P l.toArray Q (l.drop n) a' w.drew) (l.take n) a) : (Code.region id l.toArray true).wp P Q a w :=
 wp_region_still_tail n hm hB (still_of_quiet _ _ h)
open Go.RowKit
def u8s (bs : List UInt8) : List Value := bs.map fun b => Value.int .u8 (b.toNat : Int)
theorem rangeAt_u8 {w : World} {g : Nat} {b : List UInt8} (h : w.rangeAt g 0 (u8s b)) (j : Nat) (hj : j < b.length) : w.cell? ⟨g, j, none⟩ = some (.int .u8 ((b.getD j 0).toNat : Int)) := by
 have := h j (.int .u8 ((b.getD j 0).toNat : Int)) (by simp [u8s, List.getD_eq_getElem?_getD, List.getElem?_eq_getElem hj])
 rwa [Nat.zero_add] at this
theorem rangeAt_u32 {w : World} {g : Nat} {b : List UInt32} (h : w.rangeAt g 0 (u32s b)) (j : Nat) (hj : j < b.length) : w.cell? ⟨g, j, none⟩ = some (.int .u32 ((b.getD j 0).toNat : Int)) := by
 have := h j (.int .u32 ((b.getD j 0).toNat : Int)) (by simp [u32s, u32, List.getD_eq_getElem?_getD, List.getElem?_eq_getElem hj])
 rwa [Nat.zero_add] at this
theorem there_cell {w : World} {g n : Nat} (h : w.there g 0 n) (j : Nat) (hj : j < n) : w.frozen? ⟨g, j, none⟩ = false := by
 have := (h j hj).2
 rwa [Nat.zero_add] at this
theorem rangeAt_set {w : World} {g : Nat} {cs : List Value} (h : w.rangeAt g 0 cs) (k : Nat) (hk : k < cs.length) (v : Value) : (w.setCell ⟨g, k, none⟩ v).rangeAt g 0 (cs.set k v) := fun j u hu => by
 rw [Nat.zero_add]
 by_cases e : k = j
 ·subst e
  rw [List.getElem?_set_self hk] at hu
  have := h k cs[k] (by simp [hk])
  rw [Nat.zero_add] at this
  rw [World.cell?_setCell_same _ _ _ this, hu]
 ·rw [List.getElem?_set_ne e] at hu
  rw [World.cell?_setCell_other _ _ _ _ (by simp)]
  have := h j u hu
  rwa [Nat.zero_add] at this
theorem rangeAt_set_other {w : World} {g g' o : Nat} {cs : List Value} (h : w.rangeAt g o cs) (hg : g' ≠ g) (k : Nat) (v : Value) : (w.setCell ⟨g', k, none⟩ v).rangeAt g o cs := fun j u hu => by
 rw [World.cell?_setCell_other _ _ _ _ (by simp)]
 exact h j u hu
theorem there_set {w : World} {g g' o n : Nat} (h : w.there g o n) (k : Nat) (v : Value) : (w.setCell ⟨g', k, none⟩ v).there g o n := by
 have := World.there_setCells h g' k [v]
 exact this
def SpAt (b : List UInt8) (l : List UInt32) (w wr : World) : Prop :=
 Below w.heap.size w wr /\ wr.rangeAt w.heap.size 0 (u8s b) /\ wr.there (w.heap.size + 1) 0 64 /\ wr.rangeAt (w.heap.size + 1 + 1) 0 (u32s l) /\ wr.there (w.heap.size + 1 + 1) 0 64
theorem there_last (w : World) (o o' : Obj) (cs : Array Value) (t : TypeId) : (((w.alloc o).alloc o').alloc (.cells cs t)).there (w.heap.size + 1 + 1) 0 cs.size := by
 have h := there_new ((w.alloc o).alloc o') cs t
 rwa [show ((w.alloc o).alloc o').heap.size = w.heap.size + 1 + 1 by simp] at h
theorem range_last (w : World) (o o' : Obj) (cs : List Value) (t : TypeId) : (((w.alloc o).alloc o').alloc (.cells cs.toArray t)).rangeAt (w.heap.size + 1 + 1) 0 cs := by
 have h := range_new ((w.alloc o).alloc o') cs t
 rwa [show ((w.alloc o).alloc o').heap.size = w.heap.size + 1 + 1 by simp] at h
theorem SpAt.start (b : List UInt8) (w : World) (t : TypeId) : SpAt b (List.replicate 64 0) w (((w.alloc (.cells (u8s b).toArray t)).alloc (.cells (u32s (List.replicate 64 0)).toArray 216)).alloc (.cells (u32s (List.replicate 64 0)).toArray 216)) :=
 ⟨((bl.alloc (Nat.le_refl _) _).alloc (by simp) _).alloc (by simp; omega) _, World.rangeAt_alloc (World.rangeAt_alloc (range_new w _ t) _) _,
  World.there_alloc (there_new2 w _ _ _) _, range_last w _ _ _ _, there_last w _ _ _ _⟩
theorem SpAt.drewN {b : List UInt8} {l : List UInt32} {w wr : World} (h : SpAt b l w wr) (q : Nat) : SpAt b l w (wr.drewN q) := ⟨below_drewN h.1 q, h.2.1, h.2.2.1, h.2.2.2.1, h.2.2.2.2⟩
theorem SpAt.set {b : List UInt8} {l : List UInt32} {w wr : World} (h : SpAt b l w wr) (k : Nat) (hk : k < l.length) (x : UInt32) :
  SpAt b (l.set k x) w (wr.setCell ⟨w.heap.size + 1 + 1, k, none⟩ (.int .u32 (x.toNat : Int))) := by
 refine ⟨h.1.setCell (by show w.heap.size <= w.heap.size + 1 + 1; omega) _, rangeAt_set_other h.2.1 (by omega) _ _, there_set h.2.2.1 _ _, ?_, there_set h.2.2.2.2 _ _⟩
 have := rangeAt_set h.2.2.2.1 k (by simpa [u32s] using hk) (u32 x)
 rwa [show (u32s l).set k (u32 x) = u32s (l.set k x) by simp [u32s]] at this
theorem fill_set {A : Type} (a : List A) (z x : A) (n k : Nat) (ha : a.length = k) (hk : k < n) : (a ++ List.replicate (n - k) z).set k x = (a ++ [x]) ++ List.replicate (n - (k + 1)) z := by
 subst ha
 rw [show n - a.length = (n - (a.length + 1)) + 1 by omega, List.replicate_succ, List.set_append_right _ _ (Nat.le_refl _)]
 simp
theorem words_succ (b : List UInt8) (k : Nat) : words b (k + 1) = words b k ++ [wordAt b k] := by simp [words, List.range_succ]
theorem words_length (b : List UInt8) (n : Nat) : (words b n).length = n := by simp [words]
theorem sched_length (b : List UInt8) : ∀ n, (sched b n).length = 16 + n
 | 0 => words_length b 16
 | n + 1 => by rw [sched, List.length_append, sched_length b n]; simp; omega
theorem up8 (x : UInt8) : (x.toNat : Int) % (4294967296 : Int) = (x.toUInt32.toNat : Int) := by
 have := x.toNat_lt
 rw [UInt8.toNat_toUInt32]; omega
theorem shl24 (x : UInt32) : (x.toNat : Int) * (16777216 : Int) % (4294967296 : Int) = ((x <<< 24).toNat : Int) := by
 rw [UInt32.toNat_shiftLeft, show ((24 : UInt32).toNat % 32) = 24 from rfl, Nat.shiftLeft_eq]; omega
theorem shl16 (x : UInt32) : (x.toNat : Int) * (65536 : Int) % (4294967296 : Int) = ((x <<< 16).toNat : Int) := by
 rw [UInt32.toNat_shiftLeft, show ((16 : UInt32).toNat % 32) = 16 from rfl, Nat.shiftLeft_eq]; omega
theorem shl8 (x : UInt32) : (x.toNat : Int) * (256 : Int) % (4294967296 : Int) = ((x <<< 8).toNat : Int) := by
 rw [UInt32.toNat_shiftLeft, show ((8 : UInt32).toNat % 32) = 8 from rfl, Nat.shiftLeft_eq]; omega
theorem shr3 (x : UInt32) : (x.toNat : Int) / (8 : Int) = ((x >>> 3).toNat : Int) := by
 rw [UInt32.toNat_shiftRight, show ((3 : UInt32).toNat % 32) = 3 from rfl, Nat.shiftRight_eq_div_pow]; omega
theorem shr10 (x : UInt32) : (x.toNat : Int) / (1024 : Int) = ((x >>> 10).toNat : Int) := by
 rw [UInt32.toNat_shiftRight, show ((10 : UInt32).toNat % 32) = 10 from rfl, Nat.shiftRight_eq_div_pow]; omega
theorem word_eq (a b c d : UInt8) :
  bits .or .u32 (bits .or .u32 (bits .or .u32 ((a.toNat : Int) % 4294967296 * 16777216 % 4294967296) ((b.toNat : Int) % 4294967296 * 65536 % 4294967296)) ((c.toNat : Int) % 4294967296 * 256 % 4294967296)) ((d.toNat : Int) % 4294967296) = ((word a b c d).toNat : Int) := by
 simp only [up8, shl24, shl16, shl8, b_or, word]
theorem w_eq (x16 x15 x7 x2 : UInt32) :
  ((x16.toNat : Int) + bits .xor .u32 (bits .xor .u32 ((rotr x15 7).toNat : Int) ((rotr x15 18).toNat : Int)) ((x15.toNat : Int) / 8) + (x7.toNat : Int) +
   bits .xor .u32 (bits .xor .u32 ((rotr x2 17).toNat : Int) ((rotr x2 19).toNat : Int)) ((x2.toNat : Int) / 1024)) % 4294967296 = ((x16 + s0 x15 + x7 + s1 x2).toNat : Int) := by
 simp only [shr3, shr10, b_xor, s0, s1, UInt32.toNat_add]
 omega
theorem spread_any (b : List UInt8) (w : World) (hb64 : b.length = 64) :
  Calls Tryz.prog 184 #[.agg (u8s b).toArray] w fun E w' => E = .returned (.agg (u32s (sched b 48)).toArray) /\ Below w.heap.size w w' := by
 go_enter Tryz.func184, Tryz.ntmps184
 go_wp2
 go_loopw [8] (fun vi wr => ∃ k : Nat, k <= 16 /\ vi = .int .i64 k /\ Hid (SpAt b (words b k ++ List.replicate (64 - k) 0) w wr))
  (fun vi _ => 16 - (intOf vi).toNat)
 case atStart => exact ⟨0, by omega, rfl, iq (SpAt.start b w 204)⟩
 case round =>
  obtain ⟨k, hk, rfl, HA⟩ := hrel
  by_cases hk16 : k < 16
  ·have h0 := rangeAt_u8 HA.out.2.1 (4 * k) (by omega)
   have h1 := rangeAt_u8 HA.out.2.1 (4 * k + 1) (by omega)
   have h2 := rangeAt_u8 HA.out.2.1 (4 * k + 2) (by omega)
   have h3 := rangeAt_u8 HA.out.2.1 (4 * k + 3) (by omega)
   have hs := rangeAt_u32 HA.out.2.2.2.1 k (by simp [words_length]; omega)
   have hf := there_cell HA.out.2.2.2.2 k (by omega)
   obtain ⟨x, hx⟩ : ∃ x, x = wordAt b k := ⟨_, rfl⟩
   have HX := iq (show x = word (b.getD (4 * k) 0) (b.getD (4 * k + 1) 0) (b.getD (4 * k + 2) 0) (b.getD (4 * k + 3) 0) from hx)
   have HX2 := iq hx
   clear hx
   generalize (words b k ++ List.replicate (64 - k) 0).getD k 0 = old at hs
   generalize b.getD (4 * k) 0 = x0 at h0 HX
   generalize b.getD (4 * k + 1) 0 = x1 at h1 HX
   generalize b.getD (4 * k + 2) 0 = x2 at h2 HX
   generalize b.getD (4 * k + 3) 0 = x3 at h3 HX
   go_wp2
   go_region
   go_wp2
   go_roundw
   case measure => simp [intOf]; omega
   case rel =>
    refine ⟨k + 1, by omega, by go_num, iq ?_⟩
    rw [word_eq, <- HX.out]
    have := (HA.out.set k (by simp [words_length]; omega) x).drewN 1
    rw [fill_set _ _ _ 64 k (words_length b k) (by omega), show words b k ++ [x] = words b (k + 1) by rw [HX2.out, words_succ]] at this
    exact this
  ·obtain rfl : k = 16 := by omega
   go_wp2
   go_loopw [5] (fun vi wr => ∃ m : Nat, 16 <= m /\ m <= 64 /\ vi = .int .i64 m /\ Hid (SpAt b (sched b (m - 16) ++ List.replicate (64 - m) 0) w wr))
    (fun vi _ => 64 - (intOf vi).toNat)
   case atStart => exact ⟨16, by omega, by omega, rfl, HA⟩
   case round =>
    clear HA
    obtain ⟨m, hm16, hm, rfl, HA⟩ := hrel
    by_cases hm64 : m < 64
    ·obtain ⟨l, hl⟩ : ∃ l, l = sched b (m - 16) := ⟨_, rfl⟩
     have hll : l.length = m := by rw [hl, sched_length]; omega
     rw [<- hl] at HA
     have hg : ∀ j, j < m -> (l ++ List.replicate (64 - m) 0).getD j 0 = l.getD j 0 := fun j hj => by
      rw [List.getD_eq_getElem?_getD, List.getD_eq_getElem?_getD, List.getElem?_append_left (by omega)]
     have h15 := rangeAt_u32 HA.out.2.2.2.1 (m - 15) (by simp [hll]; omega)
     have h2 := rangeAt_u32 HA.out.2.2.2.1 (m - 2) (by simp [hll]; omega)
     have h16 := rangeAt_u32 HA.out.2.2.2.1 (m - 16) (by simp [hll]; omega)
     have h7 := rangeAt_u32 HA.out.2.2.2.1 (m - 7) (by simp [hll]; omega)
     have hs := rangeAt_u32 HA.out.2.2.2.1 m (by simp [hll]; omega)
     have hf := there_cell HA.out.2.2.2.2 m (by omega)
     rw [hg _ (by omega)] at h15 h2 h16 h7
     clear hg
     obtain ⟨x, hx⟩ : ∃ x, x = nextW l (m - 16) := ⟨_, rfl⟩
     have HX := iq (show x = l.getD (m - 16) 0 + s0 (l.getD (m - 15) 0) + l.getD (m - 7) 0 + s1 (l.getD (m - 2) 0) by
      rw [hx, nextW, show m - 16 + 1 = m - 15 by omega, show m - 16 + 9 = m - 7 by omega, show m - 16 + 14 = m - 2 by omega])
     have HX2 := iq hx
     have HL := iq hl
     have HLL := iq hll
     clear hx hl hll
     generalize (l ++ List.replicate (64 - m) 0).getD m 0 = old at hs
     generalize l.getD (m - 15) 0 = x15 at h15 HX
     generalize l.getD (m - 2) 0 = x2 at h2 HX
     generalize l.getD (m - 16) 0 = x16 at h16 HX
     generalize l.getD (m - 7) 0 = x7 at h7 HX
     go_wp2
     go_quiet (fail)
     go_wp2
     refine wp_region_quiet_tail 29 (by kernel_rfl) (by kernel_rfl) ?_
     simp only [List.take_succ_cons, List.take_zero, List.drop_succ_cons, List.drop_zero]
     repeat (first
      | go_big_quiet_skip
      | (go_big_quiet_want; go_big_quiet_op; first
        | go_big_quiet_on
        | (apply Exists.intro
           refine ⟨?_, ?_⟩
           ·(go_at_call 186; exact (right_all _ _ _ (by decide)).mono fun _ _ h => ⟨h.1, h.2.symm⟩)
           go_big_quiet_on)))
     refine wpQuiet_nil ?_
     go_wp2
     go_roundw
     case measure => simp [intOf]; omega
     case rel =>
      refine ⟨m + 1, by omega, by omega, by go_num, iq ?_⟩
      simp only [rotI7, rotI17, rotI18, rotI19, w_eq]
      rw [<- HX.out]
      have := (HA.out.drewN (nq + 1)).set m (by simp [HLL.out]; omega) x
      rw [fill_set _ _ _ 64 m HLL.out hm64, show l ++ [x] = sched b (m + 1 - 16) by rw [show m + 1 - 16 = m - 16 + 1 by omega, sched, <- HL.out, HX2.out]] at this
      exact this
    ·obtain rfl : m = 64 := by omega
     have HR : Hid (wr.rangeAt (w.heap.size + 1 + 1) 0 (u32s (sched b 48))) := iq (by simpa using HA.out.2.2.2.1)
     have hln : (u32s (sched b 48)).length = 64 := by rw [u32s_length, sched_length]
     have HT : Hid (wr.there (w.heap.size + 1) 0 (u32s (sched b 48)).length) := iq (by rw [hln]; exact HA.out.2.2.1)
     have HI : Hid ((Tryz.prog.info? 216).map (·.size) = some (u32s (sched b 48)).length) := iq (by rw [hln]; exact Tryz.size216)
     clear hln
     go_wp2_with (first
      | (refine wpList_load_mid rfl 216 (.tmp 3) rfl (w.heap.size + 1 + 1) 0 rfl (u32s (sched b 48)) _ HR.out Tryz.underlying216 rfl HI.out ?_)
      | (refine wpList_store_cells rfl 216 (.tmp 2) (.tmp 84) rfl (w.heap.size + 1) 0 (u32s (sched b 48)) rfl rfl HT.out HI.out (u32s_one _) ?_))
     exact bodyPost_ret (ret_range (cs := u32s (sched b 48)) rfl rfl (World.rangeAt_setCells_same _ _ _ (u32s (sched b 48)) HT.out) Tryz.underlying216 rfl HI.out) rfl ⟨rfl, below_setCells (Nat.le_succ _) _ _ _ HA.out.1⟩
end Go.Proofs.YtknpcmadghkaaaaGreatDoor.Sh
