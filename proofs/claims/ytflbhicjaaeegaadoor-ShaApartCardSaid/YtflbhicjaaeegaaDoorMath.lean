/-
  What is proved: plain facts on 32-bit numbers and on the digest as the chapter says it. No condition.
-/
import Derived.WalkKit
import Derived.KernelRfl
namespace Go.Proofs.YtflbhicjaaeegaaDoor

/-- A turn to the right. -/
def rotr (x n : UInt32) : UInt32 := (x >>> n) ||| (x <<< (32 - n))

structure S8 where
  a : UInt32
  b : UInt32
  c : UInt32
  d : UInt32
  e : UInt32
  f : UInt32
  g : UInt32
  h : UInt32

def S8.list (s : S8) : List UInt32 := [s.a, s.b, s.c, s.d, s.e, s.f, s.g, s.h]

/-- One round's two numbers. -/
def tOf (s : S8) (k w : UInt32) : UInt32 := s.h + (rotr s.e 6 ^^^ rotr s.e 11 ^^^ rotr s.e 25) + ((s.e &&& s.f) ^^^ (~~~s.e &&& s.g)) + k + w
def uOf (s : S8) : UInt32 := (rotr s.a 2 ^^^ rotr s.a 13 ^^^ rotr s.a 22) + ((s.a &&& s.b) ^^^ (s.a &&& s.c) ^^^ (s.b &&& s.c))
def rnd (k w : UInt32) (s : S8) : S8 := ⟨tOf s k w + uOf s, s.a, s.b, s.c, s.d + tOf s k w, s.e, s.f, s.g⟩

def rnds (ks ws : List UInt32) (s : S8) : Nat → S8
  | 0 => s
  | n + 1 => rnd (ks.getD n 0) (ws.getD n 0) (rnds ks ws s n)

def s0 (x : UInt32) : UInt32 := rotr x 7 ^^^ rotr x 18 ^^^ (x >>> 3)
def s1 (x : UInt32) : UInt32 := rotr x 17 ^^^ rotr x 19 ^^^ (x >>> 10)

def word (b0 b1 b2 b3 : UInt8) : UInt32 := (b0.toUInt32 <<< 24) ||| (b1.toUInt32 <<< 16) ||| (b2.toUInt32 <<< 8) ||| b3.toUInt32
def wordAt (b : List UInt8) (i : Nat) : UInt32 := word (b.getD (4 * i) 0) (b.getD (4 * i + 1) 0) (b.getD (4 * i + 2) 0) (b.getD (4 * i + 3) 0)
def words (b : List UInt8) (n : Nat) : List UInt32 := (List.range n).map (wordAt b)
def nextW (l : List UInt32) (n : Nat) : UInt32 := l.getD n 0 + s0 (l.getD (n + 1) 0) + l.getD (n + 9) 0 + s1 (l.getD (n + 14) 0)
def sched (b : List UInt8) : Nat → List UInt32
  | 0 => words b 16
  | n + 1 => sched b n ++ [nextW (sched b n) n]

def K : List UInt32 := [0x428a2f98, 0x71374491, 0xb5c0fbcf, 0xe9b5dba5, 0x3956c25b, 0x59f111f1, 0x923f82a4, 0xab1c5ed5,
  0xd807aa98, 0x12835b01, 0x243185be, 0x550c7dc3, 0x72be5d74, 0x80deb1fe, 0x9bdc06a7, 0xc19bf174,
  0xe49b69c1, 0xefbe4786, 0x0fc19dc6, 0x240ca1cc, 0x2de92c6f, 0x4a7484aa, 0x5cb0a9dc, 0x76f988da,
  0x983e5152, 0xa831c66d, 0xb00327c8, 0xbf597fc7, 0xc6e00bf3, 0xd5a79147, 0x06ca6351, 0x14292967,
  0x27b70a85, 0x2e1b2138, 0x4d2c6dfc, 0x53380d13, 0x650a7354, 0x766a0abb, 0x81c2c92e, 0x92722c85,
  0xa2bfe8a1, 0xa81a664b, 0xc24b8b70, 0xc76c51a3, 0xd192e819, 0xd6990624, 0xf40e3585, 0x106aa070,
  0x19a4c116, 0x1e376c08, 0x2748774c, 0x34b0bcb5, 0x391c0cb3, 0x4ed8aa4a, 0x5b9cca4f, 0x682e6ff3,
  0x748f82ee, 0x78a5636f, 0x84c87814, 0x8cc70208, 0x90befffa, 0xa4506ceb, 0xbef9a3f7, 0xc67178f2]

def first8 (l : List UInt32) : S8 := ⟨l.getD 0 0, l.getD 1 0, l.getD 2 0, l.getD 3 0, l.getD 4 0, l.getD 5 0, l.getD 6 0, l.getD 7 0⟩
def mixedOf (h : List UInt32) (b : List UInt8) : List UInt32 := (rnds K (sched b 48) (first8 h) 64).list
def blockOf (h : List UInt32) (b : List UInt8) : List UInt32 := List.zipWith (· + ·) h (mixedOf h b)

def H0 : List UInt32 := [0x6a09e667, 0xbb67ae85, 0x3c6ef372, 0xa54ff53a, 0x510e527f, 0x9b05688c, 0x1f83d9ab, 0x5be0cd19]


/-- So many blocks of bytes, one behind the other. -/
def absN : Nat → List UInt32 → List UInt8 → List UInt32
  | 0, h, _ => h
  | n + 1, h, b => absN n (blockOf h (b.take 64)) (b.drop 64)
def absorb (b : List UInt8) : List UInt32 := absN (b.length / 64) H0 b

/-- What stands behind so many bytes. -/
def lenBytes (n k : Nat) : List UInt8 := (List.range k).map fun i => UInt8.ofNat (8 * n / 2 ^ (56 - 8 * i))
def padOf (n : Nat) : List UInt8 := 128 :: (List.replicate ((119 - n % 64) % 64) 0 ++ lenBytes n 8)

def four (x : UInt32) : List UInt8 := [(x >>> 24).toUInt8, (x >>> 16).toUInt8, (x >>> 8).toUInt8, x.toUInt8]
def digestOf (l : List UInt32) : List UInt8 := l.flatMap four
def sumOf (b : List UInt8) : List UInt8 := digestOf (absorb (b ++ padOf b.length))

/-- The first four and the last four bytes, as a number. -/
def firstOf (d : List UInt8) : Nat := (d.take 4 ++ d.drop 28).foldl (fun n b => n * 256 + b.toNat) 0

def txtAbc : List UInt8 := [97, 98, 99]
def txtLong : List UInt8 := [97, 98, 99, 100, 98, 99, 100, 101, 99, 100, 101, 102, 100, 101, 102, 103, 101, 102, 103, 104, 102, 103, 104, 105, 103, 104, 105, 106, 104, 105, 106, 107, 105, 106, 107, 108, 106, 107, 108, 109, 107, 108, 109, 110, 108, 109, 110, 111, 109, 110, 111, 112, 110, 111, 112, 113]
set_option maxRecDepth 1000000 in
theorem first_nil : firstOf (sumOf []) = 16406829232276289621 := by kernel_rfl
set_option maxRecDepth 1000000 in
theorem first_abc : firstOf (sumOf txtAbc) = 13436514501914531245 := by kernel_rfl
set_option maxRecDepth 1000000 in
theorem first_long : firstOf (sumOf txtLong) = 2633878322359764673 := by kernel_rfl

end Go.Proofs.YtflbhicjaaeegaaDoor
