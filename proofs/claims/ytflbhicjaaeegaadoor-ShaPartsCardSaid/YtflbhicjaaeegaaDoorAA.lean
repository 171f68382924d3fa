/-
  What is proved: numbers put together from their bytes, and what blocks behind blocks give. Conditions as stated.
-/
import Derived.Test.YtflbhicjaaeegaaDoorZ
import Derived.Test.YtflbhicjaaeegaaDoorY
namespace Go.Proofs.YtflbhicjaaeegaaDoor
open Go.RowKit

/-- A number moved up by a byte. -/
def pushed (x : UInt32) (b : UInt8) : UInt32 := UInt32.ofNat (x.toNat % 16777216 * 256 + b.toNat)
theorem pushed_toNat (x : UInt32) (b : UInt8) : (pushed x b).toNat = x.toNat % 16777216 * 256 + b.toNat := by
  have := b.toNat_lt
  rw [pushed, UInt32.toNat_ofNat']
  omega
theorem pushed_four (x : UInt32) : pushed (pushed (pushed (pushed 0 (x >>> 24).toUInt8) (x >>> 16).toUInt8) (x >>> 8).toUInt8) x.toUInt8 = x := by
  apply UInt32.toNat_inj.1
  have h24 := by24 x
  have h16 := by16 x
  have h8 := by8 x
  have h0 := by0 x
  have hx := x.toNat_lt
  simp only [pushed_toNat]
  rw [show (0 : UInt32).toNat = 0 from rfl]
  omega
/-- The numbers behind so many bytes. -/
def fed (d : List UInt8) : Nat → List UInt32
  | 0 => List.replicate 8 0
  | i + 1 => (fed d i).set (i / 4) (pushed ((fed d i).getD (i / 4) 0) (d.getD i 0))
theorem fed_length (d : List UInt8) : ∀ i, (fed d i).length = 8
  | 0 => by simp [fed]
  | i + 1 => by rw [fed, List.length_set, fed_length d i]
theorem getD_set_self {A : Type} (l : List A) (j : Nat) (x z : A) (h : j < l.length) : (l.set j x).getD j z = x := by
  rw [List.getD_eq_getElem?_getD, List.getElem?_set_self h]
  rfl
theorem fed_four (d : List UInt8) (j : Nat) (hj : j < 8) : fed d (4 * j + 4) = (fed d (4 * j)).set j (pushed (pushed (pushed (pushed ((fed d (4 * j)).getD j 0) (d.getD (4 * j) 0)) (d.getD (4 * j + 1) 0)) (d.getD (4 * j + 2) 0)) (d.getD (4 * j + 3) 0)) := by
  have hl := fed_length d (4 * j)
  have e0 : 4 * j / 4 = j := by omega
  have e1 : (4 * j + 1) / 4 = j := by omega
  have e2 : (4 * j + 2) / 4 = j := by omega
  have e3 : (4 * j + 3) / 4 = j := by omega
  simp only [fed, e0, e1, e2, e3]
  generalize fed d (4 * j) = s at hl
  simp only [getD_set_self, List.set_set, hl, hj]
theorem digest_four (l : List UInt32) (j k : Nat) (hj : j < l.length) (hk : k < 4) : (digestOf l).getD (4 * j + k) 0 = (four (l.getD j 0)).getD k 0 := by
  induction l generalizing j with
  | nil => simp at hj
  | cons x r ih =>
    rw [digestOf, List.flatMap_cons]
    match j with
    | 0 => rw [getD_left _ _ _ _ (by show 4 * 0 + k < 4; omega)]; simp
    | j + 1 =>
      rw [getD_right _ _ _ _ (by show 4 ≤ 4 * (j + 1) + k; omega), List.getD_cons_succ, show 4 * (j + 1) + k - (four x).length = 4 * j + k by show 4 * (j + 1) + k - 4 = _; omega]
      exact ih j (by simpa using hj)
theorem fed_digest (l : List UInt32) (hl : l.length = 8) : ∀ j, j ≤ 8 → fed (digestOf l) (4 * j) = l.take j ++ List.replicate (8 - j) 0
  | 0, _ => by simp [fed]
  | j + 1, h => by
    have ih := fed_digest l hl j (by omega)
    have hj : j < l.length := by omega
    have hz : (l.take j ++ List.replicate (8 - j) (0 : UInt32)).getD j 0 = 0 := by
      rw [getD_right _ _ _ _ (by rw [List.length_take]; omega), List.getD_eq_getElem?_getD]
      rw [List.length_take, Nat.min_eq_left (by omega), Nat.sub_self, show 8 - j = (7 - j) + 1 by omega, List.replicate_succ]
      rfl
    have d0 := digest_four l j 0 hj (by omega)
    rw [Nat.add_zero] at d0
    rw [show 4 * (j + 1) = 4 * j + 4 by omega, fed_four _ j (by omega), ih, hz, d0, digest_four l j 1 hj (by omega), digest_four l j 2 hj (by omega), digest_four l j 3 hj (by omega)]
    rw [show ∀ x : UInt32, pushed (pushed (pushed (pushed 0 ((four x).getD 0 0)) ((four x).getD 1 0)) ((four x).getD 2 0)) ((four x).getD 3 0) = x from pushed_four]
    rw [fill_set (l.take j) 0 (l.getD j 0) 8 j (by rw [List.length_take]; omega) (by omega)]
    congr 1
    rw [List.take_add_one, List.getD_eq_getElem?_getD, List.getElem?_eq_getElem hj]
    rfl
theorem fed_32 (l : List UInt32) (hl : l.length = 8) : fed (digestOf l) 32 = l := by
  rw [fed_digest l hl 8 (Nat.le_refl _), List.take_of_length_le (by omega)]
  simp
theorem or_pushed (x : UInt32) (b : UInt8) : bits .or .u32 ((x.toNat : Int) * 256 % 4294967296) (b.toNat : Int) = ((pushed x b).toNat : Int) := by
  have h2 := b.toNat_lt
  have hx := x.toNat_lt
  have e : (x.toNat : Int) * 256 % 4294967296 = ((UInt32.ofNat (x.toNat % 16777216 * 256)).toNat : Int) := by
    rw [UInt32.toNat_ofNat']
    omega
  have eb : (b.toNat : Int) = ((UInt32.ofNat b.toNat).toNat : Int) := by
    rw [UInt32.toNat_ofNat']
    omega
  rw [e, eb, b_or, UInt32.toNat_or, UInt32.toNat_ofNat', UInt32.toNat_ofNat', pushed_toNat]
  have := Nat.two_pow_add_eq_or_of_lt (i := 8) (b := b.toNat) (by omega) (x.toNat % 16777216)
  rw [Nat.mod_eq_of_lt (by omega : x.toNat % 16777216 * 256 < 2 ^ 32), Nat.mod_eq_of_lt (by omega : b.toNat < 2 ^ 32), Nat.mul_comm, ← this]

theorem absN_add : ∀ (i j : Nat) (h : List UInt32) (x y : List UInt8), x.length = 64 * i → absN (i + j) h (x ++ y) = absN j (absN i h x) y
  | 0, j, h, x, y, hx => by
    rw [List.eq_nil_of_length_eq_zero (by omega : x.length = 0), Nat.zero_add]
    rfl
  | i + 1, j, h, x, y, hx => by
    rw [show i + 1 + j = (i + j) + 1 by omega, absN, absN, List.take_append_of_le_length (by omega), List.drop_append_of_le_length (by omega)]
    exact absN_add i j _ _ _ (by rw [List.length_drop]; omega)
/-- What goes on behind a digest. -/
theorem goes_on (b more : List UInt8) : sumOf (b ++ padOf b.length ++ more) = digestOf (absN ((more ++ padOf (b ++ padOf b.length ++ more).length).length / 64) (absorb (b ++ padOf b.length)) (more ++ padOf (b ++ padOf b.length ++ more).length)) := by
  obtain ⟨x, hx⟩ : ∃ x, x = b ++ padOf b.length := ⟨_, rfl⟩
  have h64 := blocks_left b
  have hl : x.length = 64 * (x.length / 64) := by
    rw [hx, List.length_append, padOf_length]
    omega
  rw [← hx]
  rw [sumOf, absorb, List.append_assoc]
  congr 1
  have hL : (x ++ (more ++ padOf (x ++ more).length)).length / 64 = x.length / 64 + (more ++ padOf (x ++ more).length).length / 64 := by
    generalize more ++ padOf (x ++ more).length = y
    rw [List.length_append]
    omega
  rw [hL]
  rw [absN_add _ _ _ _ _ hl]
  rfl
end Go.Proofs.YtflbhicjaaeegaaDoor
