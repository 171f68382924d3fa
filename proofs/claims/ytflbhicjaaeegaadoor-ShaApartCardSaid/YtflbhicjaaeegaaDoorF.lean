/-
  What is proved: what first and New answer. Conditions as stated.
-/
import Derived.Test.YtflbhicjaaeegaaDoorE
namespace Go.Proofs.YtflbhicjaaeegaaDoor
open Go.RowKit

/-- The place of the k-th byte that first looks at. -/
def fAt (k : Nat) : Nat := if k < 4 then k else 24 + k
def numTo (d : List UInt8) : Nat → Nat
  | 0 => 0
  | k + 1 => numTo d k * 256 + (d.getD (fAt k) 0).toNat
theorem numTo_lt (d : List UInt8) : ∀ k, numTo d k < 256 ^ k
  | 0 => by simp [numTo]
  | k + 1 => by
    have := numTo_lt d k
    have h2 := (d.getD (fAt k) 0).toNat_lt
    rw [numTo, Nat.pow_succ]
    have : (numTo d k + 1) * 256 ≤ 256 ^ k * 256 := Nat.mul_le_mul_right _ this
    omega
theorem numTo_8 (d : List UInt8) (h : d.length = 32) : numTo d 8 = firstOf d := by
  match d, h with
  | [a0, a1, a2, a3, a4, a5, a6, a7, a8, a9, a10, a11, a12, a13, a14, a15, a16, a17, a18, a19, a20, a21, a22, a23, a24, a25, a26, a27, a28, a29, a30, a31], _ => rfl

theorem or_byte (N : Nat) (b : UInt8) (h : N < 72057594037927936) : bits .or .u64 ((N : Int) * 256) (b.toNat : Int) = ((N * 256 + b.toNat : Nat) : Int) := by
  have h2 := b.toNat_lt
  have e : (N : Int) * 256 = ((N * 256 : Nat) : Int) := by omega
  rw [e, u64_or_nat _ _ (by omega) (by omega)]
  have := Nat.two_pow_add_eq_or_of_lt (i := 8) (b := b.toNat) (by omega) N
  congr 1
  rw [Nat.mul_comm]
  exact this.symm

set_option maxHeartbeats 400000 in
theorem first_any (d : List UInt8) (w : World) (hd : d.length = 32) :
    Calls Tryd.prog 23 #[.agg (u8s d).toArray] w fun E w' => E = .returned (.int .u64 (firstOf d : Int)) ∧ Below w.heap.size w w' := by
  have HD := Lib.hid hd
  clear hd
  go_enter Tryd.func23, Tryd.ntmps23
  go_wp2
  go_loopw [3, 4] (fun vn vi wr => ∃ k : Nat, k ≤ 8 ∧ vi = .int .i64 k ∧ vn = .int .u64 (numTo d k : Int) ∧ Hid (Below w.heap.size w wr ∧ wr.rangeAt w.heap.size 0 (u8s d))) (fun _ vi _ => 8 - (intOf vi).toNat)
  case atStart => exact ⟨0, by omega, rfl, rfl, Lib.hid ⟨(Below.refl _ _).alloc (Nat.le_refl _) _, range_new w _ _⟩⟩
  case round =>
    obtain ⟨k, hk, rfl, rfl, HA⟩ := hrel
    by_cases hk8 : k < 8
    · have HB : Hid (numTo d k < 72057594037927936) := Lib.hid (Nat.lt_of_lt_of_le (numTo_lt d k) (Nat.le_trans (Nat.pow_le_pow_right (by omega) (by omega : k ≤ 7)) (by decide)))
      by_cases hk4 : k < 4
      · have hc := rangeAt_u8 HA.out.2 k (by rw [HD.out]; omega)
        have HN : Hid (numTo d (k + 1) = numTo d k * 256 + (d.getD k 0).toNat) := Lib.hid (by rw [numTo, fAt, if_pos hk4])
        generalize d.getD k 0 = b at hc HN
        generalize numTo d k = N at HN HB
        have hB := HB.out
        have hb := b.toNat_lt
        go_wp2
        go_roundw
        case measure => simp [intOf]; omega
        case rel => exact ⟨k + 1, by omega, by go_num, by rw [or_byte N b HB.out, HN.out], HA⟩
      · have hc := rangeAt_u8 HA.out.2 (24 + k) (by rw [HD.out]; omega)
        have HN : Hid (numTo d (k + 1) = numTo d k * 256 + (d.getD (24 + k) 0).toNat) := Lib.hid (by rw [numTo, fAt, if_neg hk4])
        generalize d.getD (24 + k) 0 = b at hc HN
        generalize numTo d k = N at HN HB
        have hB := HB.out
        have hb := b.toNat_lt
        go_wp2
        go_roundw
        case measure => simp [intOf]; omega
        case rel => exact ⟨k + 1, by omega, by go_num, by rw [or_byte N b HB.out, HN.out], HA⟩
    · obtain rfl : k = 8 := by omega
      go_wp2
      go_ret
      exact ⟨by rw [← numTo_8 d HD.out]; rfl, HA.out.1⟩

theorem Tryd.zero52 : (Tryd.prog.info? 52).map (fun i => (i.zero, i.size)) = some (some (.agg ((List.replicate 8 (Value.int .u32 0) ++ List.replicate 64 (Value.int .u8 0)) ++ [Value.int .i64 0, Value.int .u64 0]).toArray), 74) := by kernel_rfl

/-- The cells of a hash. -/
def hcells (nums : List UInt32) (blk : List UInt8) (f n : Nat) : List Value := u32s nums ++ (u8s blk ++ [.int .i64 (f : Int), .int .u64 (n : Int)])

/-- A hash lies at g, the bytes xs have gone through it; L is the length that it tells. -/
def HashIs (w : World) (g : Nat) (xs : List UInt8) (L : Nat) : Prop :=
  ∃ blk : List UInt8, blk.length = 64 ∧ blk.take (xs.length % 64) = xs.drop (64 * (xs.length / 64)) ∧ w.heap[g]? = some (.cells (hcells (absorb xs) blk (xs.length % 64) L).toArray 52 (0, 0))

theorem HashIs.below {B g L : Nat} {w w' : World} {xs : List UInt8} (h : HashIs w g xs L) (hb : Below B w w') (hB : g < B) : HashIs w' g xs L :=
  let ⟨blk, h1, h2, h3⟩ := h
  ⟨blk, h1, h2, (hb.block g hB).trans h3⟩
theorem HashIs.lt {g L : Nat} {w : World} {xs : List UInt8} (h : HashIs w g xs L) : g < w.heap.size :=
  let ⟨_, _, _, h3⟩ := h
  (Array.getElem?_eq_some_iff.1 h3).1

theorem new_any (w : World) : Calls Tryd.prog 14 #[] w fun E w' => ∃ g, E = .returned (.pointer (some ⟨g, 0, none⟩)) ∧ w.heap.size ≤ g ∧ HashIs w' g [] 0 ∧ Below w.heap.size w w' := by
  obtain ⟨hz, _⟩ := zero_of_info Tryd.zero52
  go_enter Tryd.func14, Tryd.ntmps14
  go_wp2_with (first | (go_at_call 24; refine (start_any _).mono ?_; rintro E w1 ⟨rfl, hb1⟩))
  go_ret
  refine ⟨w1.heap.size, rfl, hb1.size, ⟨List.replicate 64 0, rfl, rfl, ?_⟩, hb1.alloc hb1.size _⟩
  exact heap_alloc_new w1 _
end Go.Proofs.YtflbhicjaaeegaaDoor
