/-
  What is proved: the walk of OctetOrder. Conditions as stated.
-/
import Derived.Test.YthnmmhjnfhmleaaI
import Derived.OpenShut
namespace Go.Proofs.Ythnmmhjnfhmleaa
open Go.RowKit

theorem below_drewN {B : Nat} {w w' : World} (h : Below B w w') (q : Nat) : Below B w (w'.drewN q) := ⟨h.os, h.tape, h.output, h.size, h.block⟩

theorem word_new (a : Nat) (w : World) :
    Calls Try.prog 12 #[.slice none 0 0, .int .u64 (a : Int)] w fun e w' => ∃ A' c', e = .returned (.slice A' 8 c') ∧ Hid (Rd w' A' 8 (be 8 a)) ∧ Below w.heap.size w w' :=
  (word_any none 0 0 [] a w (Rd.nil w) (by omega)).mono fun _ _ ⟨_, c', he, ho, hb⟩ => ⟨_, c', he, Rd.of_own ho, hb⟩

theorem half_new (a : Nat) (w : World) :
    Calls Try.prog 14 #[.slice none 0 0, .int .u16 (a : Int)] w fun e w' => ∃ A' c', e = .returned (.slice A' 2 c') ∧ Hid (Rd w' A' 2 (be 2 a)) ∧ Below w.heap.size w w' :=
  (half_any none 0 0 [] a w (Rd.nil w) (by omega)).mono fun _ _ ⟨_, c', he, ho, hb⟩ => ⟨_, c', he, Rd.of_own ho, hb⟩

theorem less_be {size a b : Nat} {A B : Option Addr} {n c d : Nat} {w : World} (hx : Rd w A n (be size a)) (hy : Rd w B n (be size b)) (hs : size ≤ 8) (ha : a < 256 ^ size) (hb : b < 256 ^ size) :
    Calls Try.prog 30 #[.slice A n c, .slice B n d] w fun e w' => e = .returned (.bool (decide ((a : Int) < (b : Int)))) ∧ ∃ q, w' = w.drewN q := by
  have hn : n ≤ 8 := by have := hx.1; rw [be_length] at this; omega
  have := less_any A B n n c d _ _ w hx hy (by omega) (by omega)
  rw [lexLt_be size a b ha hb] at this
  refine this.mono fun e w' ⟨he, hw⟩ => ⟨by rw [he]; simp, hw⟩

theorem str_toList (bs : List UInt8) : (str bs).toList = bs := by rw [ByteArray.toList_eq]; rfl

theorem str_eqB {size a b : Nat} (ha : a < 256 ^ size) (hb : b < 256 ^ size) {s t : ByteArray} (hs : s = str (be size a)) (ht : t = str (be size b)) : (s.toList == t.toList) = ((a : Int) == (b : Int)) := by
  subst hs ht
  rw [str_toList, str_toList]
  by_cases h : a = b
  · subst h; simp
  · have h1 : ¬ be size a = be size b := fun h' => h ((be_inj size a b ha hb).1 h')
    have h2 : ¬ (a : Int) = (b : Int) := by omega
    rw [beq_eq_false_iff_ne.2 h1, beq_eq_false_iff_ne.2 h2]

theorem str_run {A : Option Addr} {n c : Nat} {bs : List UInt8} {w : World} (h : Rd w A n bs) : ∃ s, Hid (s = str bs) ∧ Hid (∀ q, (convert 22 9 (.slice A n c)).run Try.prog (w.drewN q) = .ok (.string s) (w.drewN q)) :=
  ⟨_, rfl, fun q => run_string (h.drewN q)⟩

set_option maxHeartbeats 1000000 in
theorem octetOrder_any (a b c d : Nat) (w : World) (ha : a < 18446744073709551616) (hb : b < 18446744073709551616) (hc : c < 65536) (hd : d < 65536) :
    Calls Try.prog 7 #[.int .u64 (a : Int), .int .u64 (b : Int), .int .u16 (c : Int), .int .u16 (d : Int)] w fun e w' => e = .returned (.bool true) ∧ Below w.heap.size w w' := by
  go_enter Try.func7, Try.ntmps7
  go_wp2_with fail
  refine (word_new a w).mono ?_
  rintro e w1 ⟨A1, c1, rfl, h1, hb1⟩
  go_wp2_with fail
  refine (word_new b w1).mono ?_
  rintro e w2 ⟨A2, c2, rfl, h2, hb2⟩
  go_wp2_with fail
  refine (half_new c w2).mono ?_
  rintro e w3 ⟨A3, c3, rfl, h3, hb3⟩
  go_wp2_with fail
  refine (half_new d w3).mono ?_
  rintro e w4 ⟨A4, c4, rfl, h4, hb4⟩
  have k3 : Hid (Rd w4 A3 2 (be 2 c)) := h3.out.below hb4
  have b24 := hb3.trans (hb4.mono hb3.size)
  have k2 : Hid (Rd w4 A2 8 (be 8 b)) := h2.out.below b24
  have b14 := hb2.trans (b24.mono hb2.size)
  have k1 : Hid (Rd w4 A1 8 (be 8 a)) := h1.out.below b14
  have b04 := hb1.trans (b14.mono hb1.size)
  obtain ⟨s1, hs1, hr1⟩ := str_run (c := c1) k1.out
  obtain ⟨s2, hs2, hr2⟩ := str_run (c := c2) k2.out
  obtain ⟨s3, hs3, hr3⟩ := str_run (c := c3) k3.out
  obtain ⟨s4, hs4, hr4⟩ := str_run (c := c4) h4.out
  clear hb2 hb3 hb4 b24 b14 h1 h2 h3 hb1
  go_wp2_with fail
  refine (less_be k1.out k2.out (by decide) ha hb).mono ?_
  rintro e w5 ⟨rfl, q1, rfl⟩
  go_wp2_with fail
  refine (less_be (k2.out.drewN q1) (k1.out.drewN q1) (by decide) hb ha).mono ?_
  rintro e w5 ⟨rfl, q2, rfl⟩
  have e1 := hr1.out
  have e2 := hr2.out
  have e3 := str_eqB (size := 8) ha hb hs1.out hs2.out
  go_wp2_with fail
  clear e3
  refine (less_be (k3.out.drewN (q1 + q2)) (h4.out.drewN (q1 + q2)) (by decide) hc hd).mono ?_
  rintro e w6 ⟨rfl, q3, rfl⟩
  have e4 := hr3.out
  have e5 := hr4.out
  have e6 := str_eqB (size := 2) hc hd hs3.out hs4.out
  go_wp2_with fail
  clear e6
  refine (works_any (w4.drewN (q1 + q2 + q3))).mono ?_
  rintro e w7 ⟨rfl, hb7⟩
  go_wp2_with fail
  go_ret
  exact ⟨rfl, (below_drewN b04 _).trans (hb7.mono b04.size)⟩

theorem octetOrder_walk (a : Int) (wa : (Lit.int .u64 a).wf = true) (b : Int) (wb : (Lit.int .u64 b).wf = true) (c : Int) (wc : (Lit.int .u16 c).wf = true) (d : Int) (wd : (Lit.int .u16 d).wf = true) (w : World) :
    Calls Try.prog 7 #[.int .u64 a, .int .u64 b, .int .u16 c, .int .u16 d] w fun e w' => e = .returned (.bool true) ∧ Below w.heap.size w w' := by
  have ba := bounds_u64 wa
  have bb := bounds_u64 wb
  have bc := bounds_u16 wc
  have bd := bounds_u16 wd
  obtain ⟨a, rfl⟩ : ∃ n : Nat, a = (n : Int) := ⟨a.toNat, by omega⟩
  obtain ⟨b, rfl⟩ : ∃ n : Nat, b = (n : Int) := ⟨b.toNat, by omega⟩
  obtain ⟨c, rfl⟩ : ∃ n : Nat, c = (n : Int) := ⟨c.toNat, by omega⟩
  obtain ⟨d, rfl⟩ : ∃ n : Nat, d = (n : Int) := ⟨d.toNat, by omega⟩
  exact octetOrder_any a b c d w (by omega) (by omega) (by omega) (by omega)

end Go.Proofs.Ythnmmhjnfhmleaa
