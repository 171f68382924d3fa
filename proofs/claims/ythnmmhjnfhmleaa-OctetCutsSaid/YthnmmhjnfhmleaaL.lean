/-
  What is proved: what was put of items is cut again, and with one byte less it is not. Conditions as stated.
-/
import Derived.Test.YthnmmhjnfhmleaaK
namespace Go.Proofs.Ythnmmhjnfhmleaa
open Go.RowKit

/-- An item as Go has it, with a text that is short enough. -/
def It.ok (x : It) : Prop := x.n < 18446744073709551616 ∧ x.s.size ≤ 65535

theorem fits_yes {rem : List UInt8} {k : Nat} (h : k ≤ rem.length) : fits rem false (k : Int) = true := by
  simp only [fits, Bool.not_false, Bool.true_and, Bool.and_eq_true, decide_eq_true_eq]; omega
theorem fits_no {rem : List UInt8} {k : Int} (h : k < 0 ∨ (rem.length : Int) < k) : fits rem false k = false := by
  simp only [fits, Bool.not_false, Bool.true_and, Bool.and_eq_false_iff, decide_eq_false_iff_not]; omega
theorem tkOut_app {a b : List UInt8} {k : Nat} (h : a.length = k) : tkOut (a ++ b) false (k : Int) = a := by
  rw [tkOut, if_pos (fits_yes (by rw [List.length_append]; omega))]
  exact List.take_left' (by rw [h]; rfl)
theorem tkRem_app {a b : List UInt8} {k : Nat} (h : a.length = k) : tkRem (a ++ b) false (k : Int) = b := by
  rw [tkRem, if_pos (fits_yes (by rw [List.length_append]; omega))]
  exact List.drop_left' (by rw [h]; rfl)

theorem str_data (s : ByteArray) : str s.data.toList = s := by
  apply ByteArray.ext; simp [str]

theorem size_data (s : ByteArray) : s.data.toList.length = s.size := by rw [Array.length_toList]; rfl

theorem tsz_text {s : ByteArray} {rest : List UInt8} (hs : s.size ≤ 65535) : tsz (be 2 s.size ++ s.data.toList ++ rest) s.size = ((2 + s.size : Nat) : Int) := by
  have h1 : tkOut (be 2 s.size ++ s.data.toList ++ rest) false 2 = be 2 s.size := by
    rw [List.append_assoc]; exact tkOut_app (k := 2) (be_length _ _)
  have h2 : fits (be 2 s.size ++ s.data.toList ++ rest) false 2 = true := fits_yes (k := 2) (by simp [be_length])
  rw [tsz, h1, h2, num_be 2 s.size (by omega), if_pos ⟨rfl, Int.le_refl _⟩]
  omega

theorem It.cut_enc (x : It) (rest : List UInt8) (h : x.ok) : x.cut (x.enc ++ rest) = some rest := by
  obtain ⟨hn, hs⟩ := h
  unfold It.cut It.enc
  by_cases k0 : x.k % 3 = 0
  · rw [if_pos k0, if_pos k0]
    have h1 := tkOut_app (a := be 8 x.n) (b := rest) (k := 8) (be_length _ _)
    have h2 := tkRem_app (a := be 8 x.n) (b := rest) (k := 8) (be_length _ _)
    have h3 : fits (be 8 x.n ++ rest) false 8 = true := fits_yes (k := 8) (by simp [be_length])
    rw [show ((8 : Nat) : Int) = 8 from rfl] at h1 h2
    rw [h1, h2, h3, num_be 8 x.n (by omega), if_pos ⟨rfl, rfl⟩]
  · rw [if_neg k0, if_neg k0]
    by_cases k1 : x.k % 3 = 1
    · rw [if_pos k1, if_pos k1]
      have h1 := tkOut_app (a := be 2 (x.n % 65536)) (b := rest) (k := 2) (be_length _ _)
      have h2 := tkRem_app (a := be 2 (x.n % 65536)) (b := rest) (k := 2) (be_length _ _)
      have h3 : fits (be 2 (x.n % 65536) ++ rest) false 2 = true := fits_yes (k := 2) (by simp [be_length])
      rw [show ((2 : Nat) : Int) = 2 from rfl] at h1 h2
      rw [h1, h2, h3, num_be 2 (x.n % 65536) (by omega), if_pos ⟨rfl, rfl⟩]
    · rw [if_neg k1, if_neg k1, tsz_text hs]
      have hl : (be 2 x.s.size ++ x.s.data.toList).length = 2 + x.s.size := by rw [List.length_append, be_length, size_data]
      have h1 := tkOut_app (a := be 2 x.s.size ++ x.s.data.toList) (b := rest) (k := 2 + x.s.size) hl
      have h2 := tkRem_app (a := be 2 x.s.size ++ x.s.data.toList) (b := rest) (k := 2 + x.s.size) hl
      have h3 : fits (be 2 x.s.size ++ x.s.data.toList ++ rest) false ((2 + x.s.size : Nat) : Int) = true := fits_yes (by rw [List.length_append, hl]; omega)
      have h4 : (be 2 x.s.size ++ x.s.data.toList).drop 2 = x.s.data.toList := List.drop_left' (be_length _ _)
      rw [h1, h2, h3, h4, str_data, if_pos ⟨rfl, rfl⟩]

/-- What is put of items, one behind the other. -/
def encAll (its : List It) : List UInt8 := its.flatMap It.enc

theorem encAll_cons (x : It) (xs : List It) : encAll (x :: xs) = x.enc ++ encAll xs := by simp [encAll]
theorem encAll_snoc (x : It) (xs : List It) : encAll (xs ++ [x]) = encAll xs ++ x.enc := by simp [encAll]

theorem cutAll_enc : ∀ (its : List It) (rest : List UInt8), (∀ x ∈ its, x.ok) → cutAll its (encAll its ++ rest) = some rest
  | [], rest, _ => rfl
  | x :: xs, rest, h => by
    rw [encAll_cons, List.append_assoc, cutAll, It.cut_enc x _ (h x (by simp))]
    exact cutAll_enc xs rest fun y hy => h y (by simp [hy])

theorem It.enc_len (x : It) : 2 ≤ x.enc.length := by
  unfold It.enc
  split
  · rw [be_length]; omega
  · split
    · rw [be_length]; omega
    · rw [List.length_append, be_length]; omega

theorem tkOut_take {a : List UInt8} {k : Nat} (h : k ≤ a.length) : tkOut a false (k : Int) = a.take k := by
  rw [tkOut, if_pos (fits_yes h)]; rfl

theorem It.cut_less (x : It) (h : x.ok) : x.cut x.enc.dropLast = none := by
  obtain ⟨hn, hs⟩ := h
  unfold It.cut It.enc
  by_cases k0 : x.k % 3 = 0
  · rw [if_pos k0, if_pos k0, if_neg]
    rintro ⟨h1, _⟩
    rw [fits_no (by simp [be_length])] at h1
    cases h1
  · rw [if_neg k0, if_neg k0]
    by_cases k1 : x.k % 3 = 1
    · rw [if_pos k1, if_pos k1, if_neg]
      rintro ⟨h1, _⟩
      rw [fits_no (by simp [be_length])] at h1
      cases h1
    · rw [if_neg k1, if_neg k1, if_neg]
      rintro ⟨h1, _⟩
      have hl : (be 2 x.s.size ++ x.s.data.toList).dropLast.length = 1 + x.s.size := by rw [List.length_dropLast, List.length_append, be_length, size_data]; omega
      by_cases h0 : x.s.size = 0
      · have ht : tsz (be 2 x.s.size ++ x.s.data.toList).dropLast x.s.size = -1 := by
          rw [tsz, if_neg]
          rintro ⟨h2, _⟩
          rw [fits_no (by rw [hl]; omega)] at h2
          cases h2
        rw [ht, fits_no (by omega)] at h1
        cases h1
      · have e1 : (be 2 x.s.size ++ x.s.data.toList).dropLast = be 2 x.s.size ++ x.s.data.toList.dropLast := List.dropLast_append_of_ne_nil (by intro h; have := size_data x.s; rw [h] at this; simp at this; omega)
        have ht : tsz (be 2 x.s.size ++ x.s.data.toList).dropLast x.s.size = ((2 + x.s.size : Nat) : Int) := by
          have h2 : tkOut (be 2 x.s.size ++ x.s.data.toList).dropLast false 2 = be 2 x.s.size := by rw [e1]; exact tkOut_app (k := 2) (be_length _ _)
          have h3 : fits (be 2 x.s.size ++ x.s.data.toList).dropLast false 2 = true := fits_yes (k := 2) (by rw [hl]; omega)
          rw [tsz, h2, h3, num_be 2 x.s.size (by omega), if_pos ⟨rfl, Int.le_refl _⟩]
          omega
        rw [ht, fits_no (by rw [hl]; omega)] at h1
        cases h1

theorem cutAll_less : ∀ (its : List It), (∀ x ∈ its, x.ok) → encAll its ≠ [] → cutAll its (encAll its).dropLast = none
  | [], _, h => absurd rfl h
  | x :: xs, h, _ => by
    rw [encAll_cons]
    by_cases hx : encAll xs = []
    · have hxs : xs = [] := by
        match xs, hx with
        | [], _ => rfl
        | y :: ys, hx =>
          have := y.enc_len
          rw [encAll_cons] at hx
          rw [(List.append_eq_nil_iff.1 hx).1] at this
          simp at this
      subst hxs
      rw [hx, List.append_nil, cutAll, It.cut_less x (h x (by simp))]
      rfl
    · rw [List.dropLast_append_of_ne_nil hx, cutAll, It.cut_enc x _ (h x (by simp))]
      exact cutAll_less xs (fun y hy => h y (by simp [hy])) hx

theorem encAll_len : ∀ (its : List It), (∀ x ∈ its, x.s.size ≤ 2048) → (encAll its).length ≤ its.length * 2050
  | [], _ => by simp [encAll]
  | x :: xs, h => by
    have h1 : x.enc.length ≤ 2050 := by
      have := h x (by simp)
      unfold It.enc
      split
      · rw [be_length]; omega
      · split
        · rw [be_length]; omega
        · rw [List.length_append, be_length, size_data]; omega
    have h2 := encAll_len xs fun y hy => h y (by simp [hy])
    rw [encAll_cons, List.length_append, List.length_cons]
    omega

end Go.Proofs.Ythnmmhjnfhmleaa
