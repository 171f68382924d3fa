/-
  What is proved: what padding lays. Conditions as stated.
-/
import Derived.Test.YtflbhicjaaeegaaDoorX
namespace Go.Proofs.YtflbhicjaaeegaaDoor
open Go.RowKit

/-- What was laid so far. -/
def OwP (k : Nat) (xs : List UInt8) (w wr : World) (A : Option Addr) (c : Nat) : Prop :=
  wr.ownsRow w.heap.size 5 1 (.slice A k c) k (u8s xs) ∧ Sl A k c ∧ Below w.heap.size w wr
theorem OwP.next {k k' c c' : Nat} {xs ys : List UInt8} {w wr w' : World} {A A' : Option Addr} (H : OwP k xs w wr A c)
    (h : w'.ownsRow w.heap.size 5 1 (.slice A' k' c') k' (u8s ys) ∧ Sl A' k' c') (hb : Below w.heap.size wr w') : OwP k' ys w w' A' c' :=
  ⟨h.1, h.2, H.2.2.trans hb⟩
theorem own_one (w : World) (x : UInt8) : (w.alloc (.cells #[.int .u8 (x.toNat : Int)] 5)).ownsRow w.heap.size 5 1 (.slice (some ⟨w.heap.size, 0, none⟩) 1 1) 1 (u8s [x]) :=
  World.ownsRow_lit w #[.int .u8 (x.toNat : Int)] 1 (Nat.le_refl _) (by decide) rfl

set_option maxHeartbeats 400000 in
theorem pad_by (n z : Nat) (w : World) (hL : n < 100000000) (hz : z = (119 - n % 64) % 64) :
    Calls Tryd.prog 18 #[.int .i64 (n : Int)] w fun E w' => ∃ A' c', E = .returned (.slice A' (1 + z + 8) c') ∧ Hid (OwP (1 + z + 8) (padOf n) w w' A' c') := by
  have HZ := Lib.hid hz
  have hz63 : z < 64 := by omega
  clear hz
  go_enter Tryd.func18, Tryd.ntmps18
  go_wp2
  go_loopw [3] (fun v3 wr => ∃ (j : Nat) (A' : Option Addr) (c' : Nat), j ≤ z ∧ v3 = .slice A' (1 + j) c' ∧ Hid (OwP (1 + j) (128 :: List.replicate j 0) w wr A' c')) (fun v3 _ => 1 + z - lenOf v3)
  case atStart => exact ⟨0, some ⟨w.heap.size, 0, none⟩, 1, Nat.zero_le _, rfl, Lib.hid ⟨own_one w 128, ⟨(fun e => (by cases e)), Nat.le_refl _, by omega⟩, (Below.refl _ _).alloc (Nat.le_refl _) _⟩⟩
  case round =>
    obtain ⟨j, A3, c3, hj, rfl, HO3⟩ := hrel
    by_cases hjz : j < z
    · have h56 : ¬ (n + (1 + j)) % 64 = 56 := by have := HZ.out; omega
      go_wp2_with (first
        | (at_builtin; go_must (refine wpList_append_byte_own (w0 := wr) rfl (.tmp 13) (.tmp 14) rfl w.heap.size (1 + j) _ (128 :: List.replicate j 0) _ 0 rfl rfl HO3.out.1 (Below.refl _ _) HO3.out.2.2.size rfl (by have := HZ.out; omega) ?_); intro A4 c4 w4 h4 hb4; have HO4 := Lib.hid (HO3.out.next h4.out hb4); clear h4 hb4))
      go_roundw
      case measure => simp only [lenOf]; omega
      case rel =>
        refine ⟨j + 1, A4, c4, by omega, rfl, ?_⟩
        rw [List.cons_append, ← List.replicate_succ'] at HO4
        exact HO4
    · have h56 : (n + (1 + j)) % 64 = 56 := by have := HZ.out; omega
      obtain rfl : j = z := by omega
      have HO0 : Hid (OwP (1 + j + 0) (padTo n 0) w wr A3 c3) := Lib.hid (by
        rw [padTo, lenBytes, ← HZ.out]
        simpa using HO3.out)
      clear HO3 hjz
      go_wp2
      have e56 : (((n : Int) + (1 + (j : Int))) % 64 != 56) = false := by
        have h : ((n : Int) + (1 + (j : Int))) % 64 = 56 := by omega
        rw [h]
        rfl
      first
        | rw [e56]
        | skip
      clear e56 h56
      go_loopw [3, 5] (fun v3 vi wr => ∃ (k : Nat) (zi : Int) (A' : Option Addr) (c' : Nat), k ≤ 8 ∧ vi = .int .i64 zi ∧ zi = 7 - (k : Int) ∧ v3 = .slice A' (1 + j + k) c' ∧ Hid (OwP (1 + j + k) (padTo n k) w wr A' c')) (fun _ vi _ => (intOf vi + 1).toNat)
      case atStart => exact ⟨0, 7, A3, c3, by omega, rfl, by omega, rfl, HO0⟩
      case round =>
        clear HO0
        obtain ⟨k, zi, A5, c5, hk, rfl, hzi, rfl, HO5⟩ := hrel
        by_cases hk8 : k < 8
        · obtain ⟨t, ht⟩ : ∃ t, t = 7 - k := ⟨_, rfl⟩
          obtain rfl : zi = (t : Int) := by omega
          have ht8 : t < 8 := by omega
          have HBC : Hid ((n : Int) * 8 / 2 ^ (8 * t) % 256 = ((UInt8.ofNat (8 * n / 2 ^ (56 - 8 * k))).toNat : Int)) := Lib.hid (lenb13 n k t (by omega))
          have HT : Hid (t + k = 7) := Lib.hid (by omega)
          clear hzi ht hk8
          go_wp2_with (first
            | (at_builtin; go_must (refine wpList_append_byte_own (w0 := wr) rfl (.tmp 23) (.tmp 30) rfl w.heap.size (1 + j + k) _ (padTo n k) _ (UInt8.ofNat (8 * n / 2 ^ (56 - 8 * k))) rfl rfl HO5.out.1 (Below.refl _ _) HO5.out.2.2.size HBC.out (by omega) ?_); intro A6 c6 w6 h6 hb6; have HO6 := Lib.hid (HO5.out.next h6.out hb6); clear h6 hb6))
          go_roundw
          case measure => simp [intOf]
          case rel =>
            refine ⟨k + 1, (t : Int) - 1, A6, c6, by have := HT.out; omega, by go_num, by have := HT.out; omega, rfl, ?_⟩
            rw [padTo_succ]
            exact HO6
        · obtain rfl : k = 8 := by omega
          obtain rfl : zi = -1 := by omega
          clear hzi hk8
          go_wp2
          go_ret
          exact ⟨A5, c5, rfl, HO5⟩
theorem pad_any (n : Nat) (w : World) (hL : n < 100000000) :
    Calls Tryd.prog 18 #[.int .i64 (n : Int)] w fun E w' => ∃ A' c', E = .returned (.slice A' (padOf n).length c') ∧ Hid (OwP (padOf n).length (padOf n) w w' A' c') := by
  rw [padOf_length]
  exact pad_by n _ w hL rfl
end Go.Proofs.YtflbhicjaaeegaaDoor
