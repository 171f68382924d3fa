/-
  What is proved: what less answers, and that numbers as bytes stand in their order. Conditions as stated.
-/
import Derived.Test.YthnmmhjnfhmleaaH
namespace Go.Proofs.Ythnmmhjnfhmleaa
open Go.RowKit

/-- Does one row of bytes stand ahead of another one? -/
def lexLt : List UInt8 → List UInt8 → Bool
  | [], [] => false
  | [], _ :: _ => true
  | _ :: _, [] => false
  | x :: xs, y :: ys => if x = y then lexLt xs ys else decide (x.toNat < y.toNat)

theorem num_from (bs : List UInt8) : ∀ k, bs.foldl (fun n b => n * 256 + b.toNat) k = k * 256 ^ bs.length + num bs := by
  induction bs with
  | nil => intro k; simp [num]
  | cons b bs ih =>
    intro k
    unfold num
    rw [List.foldl_cons, List.foldl_cons, ih, ih (0 * 256 + b.toNat), List.length_cons, Nat.pow_succ]
    simp only [Nat.zero_mul, Nat.zero_add, Nat.add_mul]
    rw [Nat.mul_assoc, Nat.mul_comm 256]
    omega

theorem num_cons (b : UInt8) (bs : List UInt8) : num (b :: bs) = b.toNat * 256 ^ bs.length + num bs := by
  show List.foldl _ (0 * 256 + b.toNat) bs = _
  rw [num_from]
  simp

theorem digit_lt {x y K r s : Nat} (h : x < y) (hr : r < K) : x * K + r < y * K + s := by
  have h1 : (x + 1) * K ≤ y * K := Nat.mul_le_mul_right K h
  rw [Nat.add_mul] at h1
  omega

theorem lexLt_num : ∀ (n : Nat) (xs ys : List UInt8), xs.length = n → ys.length = n → lexLt xs ys = decide (num xs < num ys) := by
  intro n
  induction n with
  | zero => intro xs ys h1 h2; rw [List.eq_nil_of_length_eq_zero h1, List.eq_nil_of_length_eq_zero h2]; simp [lexLt]
  | succ n ih =>
    intro xs ys h1 h2
    match xs, ys, h1, h2 with
    | x :: xs, y :: ys, h1, h2 =>
      have e1 : xs.length = n := by simpa using h1
      have e2 : ys.length = n := by simpa using h2
      have l1 := num_lt _ xs e1
      have l2 := num_lt _ ys e2
      rw [num_cons, num_cons, e1, e2]
      unfold lexLt
      by_cases hxy : x = y
      · subst hxy
        rw [if_pos rfl, ih xs ys e1 e2]
        simp
      · rw [if_neg hxy]
        have hne : x.toNat ≠ y.toNat := fun h => hxy (UInt8.toNat_inj.1 h)
        by_cases hlt : x.toNat < y.toNat
        · have := digit_lt (s := num ys) hlt l1
          simp [hlt, this]
        · have h3 := digit_lt (s := num xs) (show y.toNat < x.toNat by omega) l2
          have h4 : ¬ x.toNat * 256 ^ n + num xs < y.toNat * 256 ^ n + num ys := by omega
          simp [hlt, h4]

theorem num_beTake (size n : Nat) (hn : n < 256 ^ size) : ∀ k, k ≤ size → num (beTake size n k) = n / 256 ^ (size - k) := by
  intro k
  induction k with
  | zero => intro _; rw [beTake_zero, Nat.sub_zero, Nat.div_eq_of_lt hn]; rfl
  | succ k ih =>
    intro hk
    rw [beTake_succ, num_snoc, ih (by omega)]
    have h1 : (beAt size n k).toNat = n / 256 ^ (size - 1 - k) % 256 := by simp [beAt]
    have h2 : size - k = (size - (k + 1)) + 1 := by omega
    have h3 : size - 1 - k = size - (k + 1) := by omega
    rw [h1, h2, h3, Nat.pow_succ, ← Nat.div_div_eq_div_mul]
    omega

theorem num_be (size n : Nat) (hn : n < 256 ^ size) : num (be size n) = n := by
  unfold be
  rw [num_beTake size n hn size (Nat.le_refl _)]
  simp

theorem lexLt_be (size a b : Nat) (ha : a < 256 ^ size) (hb : b < 256 ^ size) : lexLt (be size a) (be size b) = decide (a < b) := by
  rw [lexLt_num size _ _ (be_length _ _) (be_length _ _), num_be size a ha, num_be size b hb]

theorem be_inj (size a b : Nat) (ha : a < 256 ^ size) (hb : b < 256 ^ size) : be size a = be size b ↔ a = b :=
  ⟨fun h => by rw [← num_be size a ha, ← num_be size b hb, h], fun h => by rw [h]⟩

theorem lex_step {xs ys : List UInt8} {j : Nat} {x y : UInt8} (hx : xs[j]? = some x) (hy : ys[j]? = some y) : lexLt (xs.drop j) (ys.drop j) = if x = y then lexLt (xs.drop (j + 1)) (ys.drop (j + 1)) else decide (x.toNat < y.toNat) := by
  obtain ⟨hx1, hx2⟩ := List.getElem?_eq_some_iff.1 hx
  obtain ⟨hy1, hy2⟩ := List.getElem?_eq_some_iff.1 hy
  rw [List.drop_eq_getElem_cons hx1, List.drop_eq_getElem_cons hy1, hx2, hy2]
  rfl

theorem lex_end {xs ys : List UInt8} {j : Nat} (h : xs.length ≤ j ∨ ys.length ≤ j) (h1 : j ≤ xs.length) (h2 : j ≤ ys.length) : lexLt (xs.drop j) (ys.drop j) = decide (xs.length < ys.length) := by
  rcases h with h | h
  · obtain rfl : j = xs.length := by omega
    rw [List.drop_length]
    by_cases he : xs.length < ys.length
    · rw [List.drop_eq_getElem_cons he]; simp [lexLt, he]
    · rw [List.drop_of_length_le (by omega)]; simp [lexLt, he]
  · obtain rfl : j = ys.length := by omega
    rw [List.drop_length]
    by_cases he : ys.length < xs.length
    · rw [List.drop_eq_getElem_cons he]; simp [lexLt]; omega
    · rw [List.drop_of_length_le (by omega)]; simp [lexLt]; omega

theorem Rd.at_ {w : World} {A : Option Addr} {n j : Nat} {bs : List UInt8} (h : Rd w A n bs) (hj : j < n) : ∃ b o u, A = some ⟨b, o, none⟩ ∧ bs[j]? = some u ∧ w.cell? ⟨b, o + j, none⟩ = some (.int .u8 (u.toNat : Int)) := by
  obtain ⟨b, o, hA, _, hc⟩ := h.2 (by omega)
  have hl : j < bs.length := by rw [h.1]; exact hj
  exact ⟨b, o, bs[j], hA, List.getElem?_eq_getElem hl, hc j _ (List.getElem?_eq_getElem hl)⟩

theorem drew3 (w : World) (a b c : Nat) : ∃ r, ((w.drewN a).drewN b).drewN c = w.drewN r := ⟨a + b + c, by simp [World.drewN_drewN]⟩

set_option maxHeartbeats 400000 in
theorem less_any (A B : Option Addr) (n m c d : Nat) (xs ys : List UInt8) (w : World) (hx : Rd w A n xs) (hy : Rd w B m ys) (hn : n ≤ 140737488355328) (_hm : m ≤ 140737488355328) :
    Calls Try.prog 30 #[.slice A n c, .slice B m d] w fun e w' => e = .returned (.bool (lexLt xs ys)) ∧ ∃ q, w' = w.drewN q := by
  have HX : Hid (Rd w A n xs) := hx
  have HY : Hid (Rd w B m ys) := hy
  clear hx hy
  obtain ⟨L, hL⟩ : ∃ L, L = lexLt xs ys := ⟨_, rfl⟩
  rw [← hL]
  have HL := Lib.hid hL
  clear hL
  go_enter Try.func30, Try.ntmps30
  go_wp2
  go_loopw [5] (fun i wr => ∃ j : Nat, j ≤ n ∧ j ≤ m ∧ i = .int .i64 j ∧ Hid (L = lexLt (xs.drop j) (ys.drop j)) ∧ ∃ q, wr = w.drewN q) (fun i _ => n - (intOf i).toNat)
  case atStart => exact ⟨0, Nat.zero_le _, Nat.zero_le _, rfl, HL, 0, rfl⟩
  case round =>
    obtain ⟨j, hjn, hjm, rfl, HJ, q, rfl⟩ := hrel
    by_cases h1 : j < n
    · by_cases h2 : j < m
      · obtain ⟨b, o, x, rfl, hx, hcx⟩ := HX.out.at_ h1
        obtain ⟨b', o', y, rfl, hy, hcy⟩ := HY.out.at_ h2
        have hst := lex_step hx hy
        have HX' := Lib.hid hx
        have HST := Lib.hid hst
        clear hx hy hst
        by_cases hxy : x = y
        · subst hxy
          go_wp2
          go_quiet (fail)
          go_wp2
          go_roundw
          case rel => exact ⟨j + 1, by omega, by omega, by go_num, (HJ.out.trans HST.out).trans (if_pos trivial), _, rfl⟩
          case measure => simp [intOf]; omega
        · have hne : ¬ (x.toNat : Int) = (y.toNat : Int) := fun h => hxy (UInt8.toNat_inj.1 (by omega))
          have HLL := Lib.hid (show L = decide (x.toNat < y.toNat) by rw [HJ.out, HST.out, if_neg hxy])
          clear HST HJ hxy
          go_wp2
          go_quiet (fail)
          go_wp2
          go_quiet (fail)
          go_wp2
          go_ret
          exact ⟨by rw [HLL.out]; simp, drew3 _ _ _ _⟩
      · have HE := Lib.hid (show L = decide (n < m) by rw [HJ.out, lex_end (.inr (by rw [HY.out.1]; omega)) (by rw [HX.out.1]; omega) (by rw [HY.out.1]; omega), HX.out.1, HY.out.1])
        clear HJ
        go_wp2
        go_ret
        exact ⟨by rw [HE.out]; simp, _, rfl⟩
    · have HE := Lib.hid (show L = decide (n < m) by rw [HJ.out, lex_end (.inl (by rw [HX.out.1]; omega)) (by rw [HX.out.1]; omega) (by rw [HY.out.1]; omega), HX.out.1, HY.out.1])
      clear HJ
      go_wp2
      go_ret
      exact ⟨by rw [HE.out]; simp, _, rfl⟩

end Go.Proofs.Ythnmmhjnfhmleaa
