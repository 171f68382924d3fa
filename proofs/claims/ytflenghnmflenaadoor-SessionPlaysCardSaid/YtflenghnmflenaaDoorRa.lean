/-
  What is proved: what may be, by the document's own answers. Conditions as stated.
-/
import Derived.Test.YtflenghnmflenaaDoorMn
namespace Go.Proofs.YtflenghnmflenaaDoor
open Go.RowKit
set_option maxRecDepth 100000

theorem rkey_any (k : ByteArray) (w : World) : Calls Tryd.prog 48 #[.string k] w fun E w' => E = .returned (.bool (mayK k)) ∧ w = w' := by
  by_cases h1 : 1 ≤ k.size
  · have h1' : (k.size : Int) ≥ 1 := by omega
    have h1'' : (1 : Int) ≤ (k.size : Int) := by omega
    by_cases h2 : k.size ≤ 32
    · have h2' : (k.size : Int) ≤ 32 := by omega
      have HF : Hid (true = mayK k) := Lib.hid (by simp [mayK, h1, h2])
      clear h1 h2
      go_enter Tryd.func48, Tryd.ntmps48
      go_wp2_with fail
      go_ret
      exact ⟨ret_bool HF.out, rfl⟩
    · have h2' : ¬ ((k.size : Int) ≤ 32) := by omega
      have h2'' : (32 : Int) < (k.size : Int) := by omega
      have HF : Hid (false = mayK k) := Lib.hid (by simp [mayK, h1, h2])
      clear h1 h2
      go_enter Tryd.func48, Tryd.ntmps48
      go_wp2_with fail
      go_ret
      exact ⟨ret_bool HF.out, rfl⟩
  · have h1' : ¬ ((k.size : Int) ≥ 1) := by omega
    have h1'' : ¬ ((1 : Int) ≤ (k.size : Int)) := by omega
    have h1c : ((k.size : Int) < 1) := by omega
    have HF : Hid (false = mayK k) := Lib.hid (by simp [mayK, h1])
    clear h1
    go_enter Tryd.func48, Tryd.ntmps48
    go_wp2_with fail
    go_ret
    exact ⟨ret_bool HF.out, rfl⟩
theorem rval_any (k : ByteArray) (w : World) : Calls Tryd.prog 49 #[.string k] w fun E w' => E = .returned (.bool (mayV k)) ∧ w = w' := by
  by_cases h2 : k.size ≤ 128
  · have h2' : (k.size : Int) ≤ 128 := by omega
    have HF : Hid (true = mayV k) := Lib.hid (by simp [mayV, h2])
    clear h2
    go_enter Tryd.func49, Tryd.ntmps49
    go_wp2_with fail
    go_ret
    exact ⟨ret_bool HF.out, rfl⟩
  · have h2' : ¬ ((k.size : Int) ≤ 128) := by omega
    have h2'' : (128 : Int) < (k.size : Int) := by omega
    have HF : Hid (false = mayV k) := Lib.hid (by simp [mayV, h2])
    clear h2
    go_enter Tryd.func49, Tryd.ntmps49
    go_wp2_with fail
    go_ret
    exact ⟨ret_bool HF.out, rfl⟩
set_option maxHeartbeats 4000000 in
theorem rmay_1 (key value old to : ByteArray) (am : Nat) (w : World) (q b v y t n : Bool) (hq : mayK key = q) (ht : mayK to = t) (hv : mayV value = v) (hy : mayV old = y)
    (he : ∀ w, (Op.equalIn 10000 49 (.agg #[.int .u8 1, .string key, .string value, .string old, .string to, .int .u64 (am : Int)]) (.agg #[.int .u8 1, .string key, .string ⟨#[]⟩, .string ⟨#[]⟩, .string ⟨#[]⟩, .int .u64 0])).run Tryd.prog w = .ok b w) (hne : (to.toList == key.toList) = !n) :
    Calls Tryd.prog 35 #[.agg #[.int .u8 1, .string key, .string value, .string old, .string to, .int .u64 (am : Int)]] w fun E w' => E = .returned (.bool (q && b)) ∧ Below w.heap.size w w' := by
  have HB : ∀ o1 o2, Hid (Below w.heap.size w ((w.alloc o1).alloc o2)) := fun _ _ => Lib.hid (((Below.refl _ _).alloc (Nat.le_refl _) _).alloc (by simp) _)
  have g41 := Tryd.guard49
  have HU := Lib.hid (And.intro ht (And.intro hv (And.intro hy (And.intro hne he))))
  clear HU
  have HK := Lib.hid rkey_any
  have HV := Lib.hid rval_any
  cases q with
  | false =>
    go_enter Tryd.func35, Tryd.ntmps35
    go_wp2_with (first | (go_at_call 48; refine (HK.out _ _).mono ?_; rintro E w1 ⟨rfl, rfl⟩; first | rw [hq] | rw [ht]))
    go_ret
    exact ⟨rfl, (HB _ _).out⟩
  | true =>
    cases b with
    | false =>
      go_enter Tryd.func35, Tryd.ntmps35
      go_wp2_with (first | (go_at_call 48; refine (HK.out _ _).mono ?_; rintro E w1 ⟨rfl, rfl⟩; first | rw [hq] | rw [ht]))
      go_ret
      exact ⟨rfl, (HB _ _).out⟩
    | true =>
      go_enter Tryd.func35, Tryd.ntmps35
      go_wp2_with (first | (go_at_call 48; refine (HK.out _ _).mono ?_; rintro E w1 ⟨rfl, rfl⟩; first | rw [hq] | rw [ht]))
      go_ret
      exact ⟨rfl, (HB _ _).out⟩
set_option maxHeartbeats 4000000 in
theorem rmay_3 (key value old to : ByteArray) (am : Nat) (w : World) (q b v y t n : Bool) (hq : mayK key = q) (ht : mayK to = t) (hv : mayV value = v) (hy : mayV old = y)
    (he : ∀ w, (Op.equalIn 10000 49 (.agg #[.int .u8 3, .string key, .string value, .string old, .string to, .int .u64 (am : Int)]) (.agg #[.int .u8 3, .string key, .string ⟨#[]⟩, .string ⟨#[]⟩, .string ⟨#[]⟩, .int .u64 0])).run Tryd.prog w = .ok b w) (hne : (to.toList == key.toList) = !n) :
    Calls Tryd.prog 35 #[.agg #[.int .u8 3, .string key, .string value, .string old, .string to, .int .u64 (am : Int)]] w fun E w' => E = .returned (.bool (q && b)) ∧ Below w.heap.size w w' := by
  have HB : ∀ o1 o2, Hid (Below w.heap.size w ((w.alloc o1).alloc o2)) := fun _ _ => Lib.hid (((Below.refl _ _).alloc (Nat.le_refl _) _).alloc (by simp) _)
  have g41 := Tryd.guard49
  have HU := Lib.hid (And.intro ht (And.intro hv (And.intro hy (And.intro hne he))))
  clear HU
  have HK := Lib.hid rkey_any
  have HV := Lib.hid rval_any
  cases q with
  | false =>
    go_enter Tryd.func35, Tryd.ntmps35
    go_wp2_with (first | (go_at_call 48; refine (HK.out _ _).mono ?_; rintro E w1 ⟨rfl, rfl⟩; first | rw [hq] | rw [ht]))
    go_ret
    exact ⟨rfl, (HB _ _).out⟩
  | true =>
    cases b with
    | false =>
      go_enter Tryd.func35, Tryd.ntmps35
      go_wp2_with (first | (go_at_call 48; refine (HK.out _ _).mono ?_; rintro E w1 ⟨rfl, rfl⟩; first | rw [hq] | rw [ht]))
      go_ret
      exact ⟨rfl, (HB _ _).out⟩
    | true =>
      go_enter Tryd.func35, Tryd.ntmps35
      go_wp2_with (first | (go_at_call 48; refine (HK.out _ _).mono ?_; rintro E w1 ⟨rfl, rfl⟩; first | rw [hq] | rw [ht]))
      go_ret
      exact ⟨rfl, (HB _ _).out⟩
set_option maxHeartbeats 4000000 in
theorem rmay_2 (key value old to : ByteArray) (am : Nat) (w : World) (q b v y t n : Bool) (hq : mayK key = q) (ht : mayK to = t) (hv : mayV value = v) (hy : mayV old = y)
    (he : ∀ w, (Op.equalIn 10000 49 (.agg #[.int .u8 2, .string key, .string value, .string old, .string to, .int .u64 (am : Int)]) (.agg #[.int .u8 2, .string key, .string value, .string ⟨#[]⟩, .string ⟨#[]⟩, .int .u64 0])).run Tryd.prog w = .ok b w) (hne : (to.toList == key.toList) = !n) :
    Calls Tryd.prog 35 #[.agg #[.int .u8 2, .string key, .string value, .string old, .string to, .int .u64 (am : Int)]] w fun E w' => E = .returned (.bool (q && (b && v))) ∧ Below w.heap.size w w' := by
  have HB : ∀ o1 o2, Hid (Below w.heap.size w ((w.alloc o1).alloc o2)) := fun _ _ => Lib.hid (((Below.refl _ _).alloc (Nat.le_refl _) _).alloc (by simp) _)
  have g41 := Tryd.guard49
  have HU := Lib.hid (And.intro ht (And.intro hv (And.intro hy (And.intro hne he))))
  clear HU
  have HK := Lib.hid rkey_any
  have HV := Lib.hid rval_any
  cases q with
  | false =>
    go_enter Tryd.func35, Tryd.ntmps35
    go_wp2_with (first | (go_at_call 48; refine (HK.out _ _).mono ?_; rintro E w1 ⟨rfl, rfl⟩; first | rw [hq] | rw [ht]))
    go_ret
    exact ⟨rfl, (HB _ _).out⟩
  | true =>
    cases b with
    | false =>
      go_enter Tryd.func35, Tryd.ntmps35
      go_wp2_with (first | (go_at_call 48; refine (HK.out _ _).mono ?_; rintro E w1 ⟨rfl, rfl⟩; first | rw [hq] | rw [ht]))
      go_ret
      exact ⟨rfl, (HB _ _).out⟩
    | true =>
      cases v with
      | false =>
        go_enter Tryd.func35, Tryd.ntmps35
        go_wp2_with (first | (go_at_call 48; refine (HK.out _ _).mono ?_; rintro E w1 ⟨rfl, rfl⟩; first | rw [hq] | rw [ht]) | (go_at_call 49; refine (HV.out _ _).mono ?_; rintro E w1 ⟨rfl, rfl⟩; first | rw [hv] | rw [hy]))
        go_ret
        exact ⟨rfl, (HB _ _).out⟩
      | true =>
        go_enter Tryd.func35, Tryd.ntmps35
        go_wp2_with (first | (go_at_call 48; refine (HK.out _ _).mono ?_; rintro E w1 ⟨rfl, rfl⟩; first | rw [hq] | rw [ht]) | (go_at_call 49; refine (HV.out _ _).mono ?_; rintro E w1 ⟨rfl, rfl⟩; first | rw [hv] | rw [hy]))
        go_ret
        exact ⟨rfl, (HB _ _).out⟩
set_option maxHeartbeats 4000000 in
theorem rmay_4 (key value old to : ByteArray) (am : Nat) (w : World) (q b v y t n : Bool) (hq : mayK key = q) (ht : mayK to = t) (hv : mayV value = v) (hy : mayV old = y)
    (he : ∀ w, (Op.equalIn 10000 49 (.agg #[.int .u8 4, .string key, .string value, .string old, .string to, .int .u64 (am : Int)]) (.agg #[.int .u8 4, .string key, .string value, .string old, .string ⟨#[]⟩, .int .u64 0])).run Tryd.prog w = .ok b w) (hne : (to.toList == key.toList) = !n) :
    Calls Tryd.prog 35 #[.agg #[.int .u8 4, .string key, .string value, .string old, .string to, .int .u64 (am : Int)]] w fun E w' => E = .returned (.bool (q && (b && (v && y)))) ∧ Below w.heap.size w w' := by
  have HB : ∀ o1 o2, Hid (Below w.heap.size w ((w.alloc o1).alloc o2)) := fun _ _ => Lib.hid (((Below.refl _ _).alloc (Nat.le_refl _) _).alloc (by simp) _)
  have g41 := Tryd.guard49
  have HU := Lib.hid (And.intro ht (And.intro hv (And.intro hy (And.intro hne he))))
  clear HU
  have HK := Lib.hid rkey_any
  have HV := Lib.hid rval_any
  cases q with
  | false =>
    go_enter Tryd.func35, Tryd.ntmps35
    go_wp2_with (first | (go_at_call 48; refine (HK.out _ _).mono ?_; rintro E w1 ⟨rfl, rfl⟩; first | rw [hq] | rw [ht]))
    go_ret
    exact ⟨rfl, (HB _ _).out⟩
  | true =>
    cases b with
    | false =>
      go_enter Tryd.func35, Tryd.ntmps35
      go_wp2_with (first | (go_at_call 48; refine (HK.out _ _).mono ?_; rintro E w1 ⟨rfl, rfl⟩; first | rw [hq] | rw [ht]))
      go_ret
      exact ⟨rfl, (HB _ _).out⟩
    | true =>
      cases v with
      | false =>
        go_enter Tryd.func35, Tryd.ntmps35
        go_wp2_with (first | (go_at_call 48; refine (HK.out _ _).mono ?_; rintro E w1 ⟨rfl, rfl⟩; first | rw [hq] | rw [ht]) | (go_at_call 49; refine (HV.out _ _).mono ?_; rintro E w1 ⟨rfl, rfl⟩; first | rw [hv] | rw [hy]))
        go_ret
        exact ⟨rfl, (HB _ _).out⟩
      | true =>
        cases y with
        | false =>
          go_enter Tryd.func35, Tryd.ntmps35
          go_wp2_with (first | (go_at_call 48; refine (HK.out _ _).mono ?_; rintro E w1 ⟨rfl, rfl⟩; first | rw [hq] | rw [ht]) | (go_at_call 49; refine (HV.out _ _).mono ?_; rintro E w1 ⟨rfl, rfl⟩; first | rw [hv] | rw [hy]))
          go_ret
          exact ⟨rfl, (HB _ _).out⟩
        | true =>
          go_enter Tryd.func35, Tryd.ntmps35
          go_wp2_with (first | (go_at_call 48; refine (HK.out _ _).mono ?_; rintro E w1 ⟨rfl, rfl⟩; first | rw [hq] | rw [ht]) | (go_at_call 49; refine (HV.out _ _).mono ?_; rintro E w1 ⟨rfl, rfl⟩; first | rw [hv] | rw [hy]))
          go_ret
          exact ⟨rfl, (HB _ _).out⟩
end Go.Proofs.YtflenghnmflenaaDoor
