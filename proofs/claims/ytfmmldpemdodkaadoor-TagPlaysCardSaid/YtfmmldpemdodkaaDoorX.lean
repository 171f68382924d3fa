/-
  What is proved: the digest by definition, with the document's Blocks, is sumOf. Conditions as stated.
-/
import Derived.Test.YtfmmldpemdodkaaDoorV
import Derived.Test.YtfmmldpemdodkaaDoorS
namespace Go.Proofs.YtfmmldpemdodkaaDoor
open Go.RowKit

theorem getD_left {A : Type} (a b : List A) (i : Nat) (d : A) (h : i < a.length) : (a ++ b).getD i d = a.getD i d := by rw [List.getD_eq_getElem?_getD, List.getD_eq_getElem?_getD, List.getElem?_append_left h]
theorem getD_right {A : Type} (a b : List A) (i : Nat) (d : A) (h : a.length ≤ i) : (a ++ b).getD i d = b.getD (i - a.length) d := by rw [List.getD_eq_getElem?_getD, List.getD_eq_getElem?_getD, List.getElem?_append_right h]
theorem digestOf_at : ∀ (l : List UInt32) (i : Nat), i < 4 * l.length → (((digestOf l).getD i 0).toNat : Int) = ((l.getD (i / 4) 0).toNat : Int) / 2 ^ (24 - 8 * (i % 4)) % 256
  | [], i, h => by simp at h
  | x :: r, i, h => by
    rw [digestOf, List.flatMap_cons]
    by_cases h4 : i < 4
    · rw [getD_left _ _ _ _ (by exact h4)]
      match i, h4 with
      | 0, _ => exact (by24 x).symm
      | 1, _ => exact (by16 x).symm
      | 2, _ => exact (by8 x).symm
      | 3, _ => exact (by0 x).symm.trans (by simp)
    · obtain ⟨j, rfl⟩ : ∃ j, i = j + 4 := ⟨i - 4, by omega⟩
      rw [getD_right _ _ _ _ (by show 4 ≤ j + 4; omega)]
      have := digestOf_at r j (by rw [List.length_cons] at h; omega)
      rw [show (j + 4) / 4 = j / 4 + 1 by omega, show (j + 4) % 4 = j % 4 by omega, List.getD_cons_succ]
      rw [show j + 4 - (four x).length = j from rfl]
      exact this

theorem blocks_left (bs : List UInt8) : bs.length + 1 + (119 - bs.length % 64) % 64 + 8 = 64 * ((bs ++ padOf bs.length).length / 64) := by
  rw [List.length_append, padOf_length]
  omega
theorem part64 (all : List UInt8) (q : Nat) (h : q < all.length / 64) : ((all.drop (64 * q)).take 64).length = 64 := by
  rw [List.length_take, List.length_drop]
  omega
theorem H0_length : H0.length = 8 := rfl

theorem refSum_any (bs : List UInt8) (A : Option Addr) (c : Nat) (w : World) (hr : Rd (fun _ => True) w A bs.length bs) (hs : Sl A bs.length c) (hL : bs.length < 100000000) (hk : KIs w) (h0 : 0 < w.heap.size) :
    Calls Tryd.prog 21 #[.slice A bs.length c] w fun E w' => E = .returned (.agg (u8s (sumOf bs)).toArray) ∧ Below w.heap.size w w' :=
  sum13_by bs (bs ++ padOf bs.length) (sumOf bs) bs.length ((bs ++ padOf bs.length).length / 64) ((119 - bs.length % 64) % 64) (fun q => absN q H0 (bs ++ padOf bs.length)) A c w hr hs rfl hL hk h0 rfl rfl
    (blocks_left bs) startRef_any (fun q => absN_length q _ _ H0_length)
    (fun q w hq _ _ => by
      have := refBlock_any (absN q H0 (bs ++ padOf bs.length)) (((bs ++ padOf bs.length).drop (64 * q)).take 64) w (absN_length q _ _ H0_length) (part64 _ q hq)
      rw [← absN_succ] at this
      exact this)
    (sumOf_length bs) (fun i hi => digestOf_at (absorb (bs ++ padOf bs.length)) i (by rw [absorb_length]; omega))
end Go.Proofs.YtfmmldpemdodkaaDoor
