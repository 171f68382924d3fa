/-
  What is proved: what may be, by the document's own answers. Conditions as stated.
  What is proved: what may be, by the document's own answers. Conditions as stated.
  What is proved: the document's own ledger: a key's place, its value. Conditions as stated.
  What is proved: the document's own ledger: a key's value set. Conditions as stated.
  What is proved: the document's own ledger: a first key's value set; a key taken away. Conditions as stated.
-/
import Derived.Test.YtpageppjngbnpaaGreatDoorA6
import Derived.Laws.AppendOwnNone
namespace Go.Proofs.YtpageppjngbnpaaGreatDoor
open Go.RowKit
set_option maxRecDepth 100000

theorem rkey_any (k : ByteArray) (w : World) : Calls Tryz.prog 68 #[.string k] w fun E w' => E = .returned (.bool (mayK k)) ∧ w = w' := by
  by_cases h1 : 1 ≤ k.size
  · have h1' : (k.size : Int) ≥ 1 := by omega
    have h1'' : (1 : Int) ≤ (k.size : Int) := by omega
    by_cases h2 : k.size ≤ 32
    · have h2' : (k.size : Int) ≤ 32 := by omega
      have HF : Hid (true = mayK k) := Lib.hid (by simp [mayK, h1, h2])
      clear h1 h2
      go_enter Tryz.func68, Tryz.ntmps68
      go_wp2_with fail
      go_ret
      exact ⟨ret_bool HF.out, rfl⟩
    · have h2' : ¬ ((k.size : Int) ≤ 32) := by omega
      have h2'' : (32 : Int) < (k.size : Int) := by omega
      have HF : Hid (false = mayK k) := Lib.hid (by simp [mayK, h1, h2])
      clear h1 h2
      go_enter Tryz.func68, Tryz.ntmps68
      go_wp2_with fail
      go_ret
      exact ⟨ret_bool HF.out, rfl⟩
  · have h1' : ¬ ((k.size : Int) ≥ 1) := by omega
    have h1'' : ¬ ((1 : Int) ≤ (k.size : Int)) := by omega
    have h1c : ((k.size : Int) < 1) := by omega
    have HF : Hid (false = mayK k) := Lib.hid (by simp [mayK, h1])
    clear h1
    go_enter Tryz.func68, Tryz.ntmps68
    go_wp2_with fail
    go_ret
    exact ⟨ret_bool HF.out, rfl⟩
theorem rval_any (k : ByteArray) (w : World) : Calls Tryz.prog 69 #[.string k] w fun E w' => E = .returned (.bool (mayV k)) ∧ w = w' := by
  by_cases h2 : k.size ≤ 128
  · have h2' : (k.size : Int) ≤ 128 := by omega
    have HF : Hid (true = mayV k) := Lib.hid (by simp [mayV, h2])
    clear h2
    go_enter Tryz.func69, Tryz.ntmps69
    go_wp2_with fail
    go_ret
    exact ⟨ret_bool HF.out, rfl⟩
  · have h2' : ¬ ((k.size : Int) ≤ 128) := by omega
    have h2'' : (128 : Int) < (k.size : Int) := by omega
    have HF : Hid (false = mayV k) := Lib.hid (by simp [mayV, h2])
    clear h2
    go_enter Tryz.func69, Tryz.ntmps69
    go_wp2_with fail
    go_ret
    exact ⟨ret_bool HF.out, rfl⟩
set_option maxHeartbeats 4000000 in
theorem rmay_1 (key value old to : ByteArray) (am : Nat) (w : World) (q b v y t n : Bool) (hq : mayK key = q) (ht : mayK to = t) (hv : mayV value = v) (hy : mayV old = y)
    (he : ∀ w, (Op.equalIn 10000 38 (.agg #[.int .u8 1, .string key, .string value, .string old, .string to, .int .u64 (am : Int)]) (.agg #[.int .u8 1, .string key, .string ⟨#[]⟩, .string ⟨#[]⟩, .string ⟨#[]⟩, .int .u64 0])).run Tryz.prog w = .ok b w) (hne : (to.toList == key.toList) = !n) :
    Calls Tryz.prog 75 #[.agg #[.int .u8 1, .string key, .string value, .string old, .string to, .int .u64 (am : Int)]] w fun E w' => E = .returned (.bool (q && b)) ∧ Below w.heap.size w w' := by
  have HB : ∀ o1 o2, Hid (Below w.heap.size w ((w.alloc o1).alloc o2)) := fun _ _ => Lib.hid (((Below.refl _ _).alloc (Nat.le_refl _) _).alloc (by simp) _)
  have g41 := Tryz.guard38
  have HU := Lib.hid (And.intro ht (And.intro hv (And.intro hy (And.intro hne he))))
  clear HU
  have HK := Lib.hid rkey_any
  have HV := Lib.hid rval_any
  cases q with
  | false =>
    go_enter Tryz.func75, Tryz.ntmps75
    go_wp2_with (first | (go_at_call 68; refine (HK.out _ _).mono ?_; rintro E w1 ⟨rfl, rfl⟩; first | rw [hq] | rw [ht]))
    go_ret
    exact ⟨rfl, (HB _ _).out⟩
  | true =>
    cases b with
    | false =>
      go_enter Tryz.func75, Tryz.ntmps75
      go_wp2_with (first | (go_at_call 68; refine (HK.out _ _).mono ?_; rintro E w1 ⟨rfl, rfl⟩; first | rw [hq] | rw [ht]))
      go_ret
      exact ⟨rfl, (HB _ _).out⟩
    | true =>
      go_enter Tryz.func75, Tryz.ntmps75
      go_wp2_with (first | (go_at_call 68; refine (HK.out _ _).mono ?_; rintro E w1 ⟨rfl, rfl⟩; first | rw [hq] | rw [ht]))
      go_ret
      exact ⟨rfl, (HB _ _).out⟩
set_option maxHeartbeats 4000000 in
theorem rmay_3 (key value old to : ByteArray) (am : Nat) (w : World) (q b v y t n : Bool) (hq : mayK key = q) (ht : mayK to = t) (hv : mayV value = v) (hy : mayV old = y)
    (he : ∀ w, (Op.equalIn 10000 38 (.agg #[.int .u8 3, .string key, .string value, .string old, .string to, .int .u64 (am : Int)]) (.agg #[.int .u8 3, .string key, .string ⟨#[]⟩, .string ⟨#[]⟩, .string ⟨#[]⟩, .int .u64 0])).run Tryz.prog w = .ok b w) (hne : (to.toList == key.toList) = !n) :
    Calls Tryz.prog 75 #[.agg #[.int .u8 3, .string key, .string value, .string old, .string to, .int .u64 (am : Int)]] w fun E w' => E = .returned (.bool (q && b)) ∧ Below w.heap.size w w' := by
  have HB : ∀ o1 o2, Hid (Below w.heap.size w ((w.alloc o1).alloc o2)) := fun _ _ => Lib.hid (((Below.refl _ _).alloc (Nat.le_refl _) _).alloc (by simp) _)
  have g41 := Tryz.guard38
  have HU := Lib.hid (And.intro ht (And.intro hv (And.intro hy (And.intro hne he))))
  clear HU
  have HK := Lib.hid rkey_any
  have HV := Lib.hid rval_any
  cases q with
  | false =>
    go_enter Tryz.func75, Tryz.ntmps75
    go_wp2_with (first | (go_at_call 68; refine (HK.out _ _).mono ?_; rintro E w1 ⟨rfl, rfl⟩; first | rw [hq] | rw [ht]))
    go_ret
    exact ⟨rfl, (HB _ _).out⟩
  | true =>
    cases b with
    | false =>
      go_enter Tryz.func75, Tryz.ntmps75
      go_wp2_with (first | (go_at_call 68; refine (HK.out _ _).mono ?_; rintro E w1 ⟨rfl, rfl⟩; first | rw [hq] | rw [ht]))
      go_ret
      exact ⟨rfl, (HB _ _).out⟩
    | true =>
      go_enter Tryz.func75, Tryz.ntmps75
      go_wp2_with (first | (go_at_call 68; refine (HK.out _ _).mono ?_; rintro E w1 ⟨rfl, rfl⟩; first | rw [hq] | rw [ht]))
      go_ret
      exact ⟨rfl, (HB _ _).out⟩
set_option maxHeartbeats 4000000 in
theorem rmay_2 (key value old to : ByteArray) (am : Nat) (w : World) (q b v y t n : Bool) (hq : mayK key = q) (ht : mayK to = t) (hv : mayV value = v) (hy : mayV old = y)
    (he : ∀ w, (Op.equalIn 10000 38 (.agg #[.int .u8 2, .string key, .string value, .string old, .string to, .int .u64 (am : Int)]) (.agg #[.int .u8 2, .string key, .string value, .string ⟨#[]⟩, .string ⟨#[]⟩, .int .u64 0])).run Tryz.prog w = .ok b w) (hne : (to.toList == key.toList) = !n) :
    Calls Tryz.prog 75 #[.agg #[.int .u8 2, .string key, .string value, .string old, .string to, .int .u64 (am : Int)]] w fun E w' => E = .returned (.bool (q && (b && v))) ∧ Below w.heap.size w w' := by
  have HB : ∀ o1 o2, Hid (Below w.heap.size w ((w.alloc o1).alloc o2)) := fun _ _ => Lib.hid (((Below.refl _ _).alloc (Nat.le_refl _) _).alloc (by simp) _)
  have g41 := Tryz.guard38
  have HU := Lib.hid (And.intro ht (And.intro hv (And.intro hy (And.intro hne he))))
  clear HU
  have HK := Lib.hid rkey_any
  have HV := Lib.hid rval_any
  cases q with
  | false =>
    go_enter Tryz.func75, Tryz.ntmps75
    go_wp2_with (first | (go_at_call 68; refine (HK.out _ _).mono ?_; rintro E w1 ⟨rfl, rfl⟩; first | rw [hq] | rw [ht]))
    go_ret
    exact ⟨rfl, (HB _ _).out⟩
  | true =>
    cases b with
    | false =>
      go_enter Tryz.func75, Tryz.ntmps75
      go_wp2_with (first | (go_at_call 68; refine (HK.out _ _).mono ?_; rintro E w1 ⟨rfl, rfl⟩; first | rw [hq] | rw [ht]))
      go_ret
      exact ⟨rfl, (HB _ _).out⟩
    | true =>
      cases v with
      | false =>
        go_enter Tryz.func75, Tryz.ntmps75
        go_wp2_with (first | (go_at_call 68; refine (HK.out _ _).mono ?_; rintro E w1 ⟨rfl, rfl⟩; first | rw [hq] | rw [ht]) | (go_at_call 69; refine (HV.out _ _).mono ?_; rintro E w1 ⟨rfl, rfl⟩; first | rw [hv] | rw [hy]))
        go_ret
        exact ⟨rfl, (HB _ _).out⟩
      | true =>
        go_enter Tryz.func75, Tryz.ntmps75
        go_wp2_with (first | (go_at_call 68; refine (HK.out _ _).mono ?_; rintro E w1 ⟨rfl, rfl⟩; first | rw [hq] | rw [ht]) | (go_at_call 69; refine (HV.out _ _).mono ?_; rintro E w1 ⟨rfl, rfl⟩; first | rw [hv] | rw [hy]))
        go_ret
        exact ⟨rfl, (HB _ _).out⟩
set_option maxHeartbeats 4000000 in
theorem rmay_4 (key value old to : ByteArray) (am : Nat) (w : World) (q b v y t n : Bool) (hq : mayK key = q) (ht : mayK to = t) (hv : mayV value = v) (hy : mayV old = y)
    (he : ∀ w, (Op.equalIn 10000 38 (.agg #[.int .u8 4, .string key, .string value, .string old, .string to, .int .u64 (am : Int)]) (.agg #[.int .u8 4, .string key, .string value, .string old, .string ⟨#[]⟩, .int .u64 0])).run Tryz.prog w = .ok b w) (hne : (to.toList == key.toList) = !n) :
    Calls Tryz.prog 75 #[.agg #[.int .u8 4, .string key, .string value, .string old, .string to, .int .u64 (am : Int)]] w fun E w' => E = .returned (.bool (q && (b && (v && y)))) ∧ Below w.heap.size w w' := by
  have HB : ∀ o1 o2, Hid (Below w.heap.size w ((w.alloc o1).alloc o2)) := fun _ _ => Lib.hid (((Below.refl _ _).alloc (Nat.le_refl _) _).alloc (by simp) _)
  have g41 := Tryz.guard38
  have HU := Lib.hid (And.intro ht (And.intro hv (And.intro hy (And.intro hne he))))
  clear HU
  have HK := Lib.hid rkey_any
  have HV := Lib.hid rval_any
  cases q with
  | false =>
    go_enter Tryz.func75, Tryz.ntmps75
    go_wp2_with (first | (go_at_call 68; refine (HK.out _ _).mono ?_; rintro E w1 ⟨rfl, rfl⟩; first | rw [hq] | rw [ht]))
    go_ret
    exact ⟨rfl, (HB _ _).out⟩
  | true =>
    cases b with
    | false =>
      go_enter Tryz.func75, Tryz.ntmps75
      go_wp2_with (first | (go_at_call 68; refine (HK.out _ _).mono ?_; rintro E w1 ⟨rfl, rfl⟩; first | rw [hq] | rw [ht]))
      go_ret
      exact ⟨rfl, (HB _ _).out⟩
    | true =>
      cases v with
      | false =>
        go_enter Tryz.func75, Tryz.ntmps75
        go_wp2_with (first | (go_at_call 68; refine (HK.out _ _).mono ?_; rintro E w1 ⟨rfl, rfl⟩; first | rw [hq] | rw [ht]) | (go_at_call 69; refine (HV.out _ _).mono ?_; rintro E w1 ⟨rfl, rfl⟩; first | rw [hv] | rw [hy]))
        go_ret
        exact ⟨rfl, (HB _ _).out⟩
      | true =>
        cases y with
        | false =>
          go_enter Tryz.func75, Tryz.ntmps75
          go_wp2_with (first | (go_at_call 68; refine (HK.out _ _).mono ?_; rintro E w1 ⟨rfl, rfl⟩; first | rw [hq] | rw [ht]) | (go_at_call 69; refine (HV.out _ _).mono ?_; rintro E w1 ⟨rfl, rfl⟩; first | rw [hv] | rw [hy]))
          go_ret
          exact ⟨rfl, (HB _ _).out⟩
        | true =>
          go_enter Tryz.func75, Tryz.ntmps75
          go_wp2_with (first | (go_at_call 68; refine (HK.out _ _).mono ?_; rintro E w1 ⟨rfl, rfl⟩; first | rw [hq] | rw [ht]) | (go_at_call 69; refine (HV.out _ _).mono ?_; rintro E w1 ⟨rfl, rfl⟩; first | rw [hv] | rw [hy]))
          go_ret
          exact ⟨rfl, (HB _ _).out⟩
open Go.RowKit
set_option maxRecDepth 100000

set_option maxHeartbeats 4000000 in
theorem rmay_5 (key value old to : ByteArray) (am : Nat) (w : World) (q b v y t n : Bool) (hq : mayK key = q) (ht : mayK to = t) (hv : mayV value = v) (hy : mayV old = y)
    (he : ∀ w, (Op.equalIn 10000 38 (.agg #[.int .u8 5, .string key, .string value, .string old, .string to, .int .u64 (am : Int)]) (.agg #[.int .u8 5, .string key, .string ⟨#[]⟩, .string ⟨#[]⟩, .string to, .int .u64 (am : Int)])).run Tryz.prog w = .ok b w) (hne : (to.toList == key.toList) = !n) :
    Calls Tryz.prog 75 #[.agg #[.int .u8 5, .string key, .string value, .string old, .string to, .int .u64 (am : Int)]] w fun E w' => E = .returned (.bool (q && (b && (t && (n && (decide (1 ≤ am) && decide (am ≤ topN))))))) ∧ Below w.heap.size w w' := by
  have HB : ∀ o1 o2, Hid (Below w.heap.size w ((w.alloc o1).alloc o2)) := fun _ _ => Lib.hid (((Below.refl _ _).alloc (Nat.le_refl _) _).alloc (by simp) _)
  have g41 := Tryz.guard38
  have HU := Lib.hid (And.intro ht (And.intro hv (And.intro hy (And.intro hne he))))
  clear HU
  have HK := Lib.hid rkey_any
  have HV := Lib.hid rval_any
  cases q with
  | false =>
    go_enter Tryz.func75, Tryz.ntmps75
    go_wp2_with (first | (go_at_call 68; refine (HK.out _ _).mono ?_; rintro E w1 ⟨rfl, rfl⟩; first | rw [hq] | rw [ht]))
    go_ret
    exact ⟨rfl, (HB _ _).out⟩
  | true =>
    cases b with
    | false =>
      go_enter Tryz.func75, Tryz.ntmps75
      go_wp2_with (first | (go_at_call 68; refine (HK.out _ _).mono ?_; rintro E w1 ⟨rfl, rfl⟩; first | rw [hq] | rw [ht]))
      go_ret
      exact ⟨rfl, (HB _ _).out⟩
    | true =>
      cases t with
      | false =>
        go_enter Tryz.func75, Tryz.ntmps75
        go_wp2_with (first | (go_at_call 68; refine (HK.out _ _).mono ?_; rintro E w1 ⟨rfl, rfl⟩; first | rw [hq] | rw [ht]))
        go_ret
        exact ⟨rfl, (HB _ _).out⟩
      | true =>
        cases n with
        | false =>
          go_enter Tryz.func75, Tryz.ntmps75
          go_wp2_with (first | (go_at_call 68; refine (HK.out _ _).mono ?_; rintro E w1 ⟨rfl, rfl⟩; first | rw [hq] | rw [ht]))
          go_ret
          exact ⟨rfl, (HB _ _).out⟩
        | true =>
          by_cases h1 : 1 ≤ am
          · have h1a : (am : Int) ≥ 1 := by omega
            have h1b : (1 : Int) ≤ (am : Int) := by omega
            by_cases h2 : am ≤ topN
            · have h2a : (am : Int) ≤ 1125899906842624 := by unfold topN at h2; omega
              have HF : Hid (true = (decide (1 ≤ am) && decide (am ≤ topN))) := Lib.hid (by simp [h1, h2])
              rw [← HF.out]
              clear h1 h2 HF
              go_enter Tryz.func75, Tryz.ntmps75
              go_wp2_with (first | (go_at_call 68; refine (HK.out _ _).mono ?_; rintro E w1 ⟨rfl, rfl⟩; first | rw [hq] | rw [ht]))
              go_ret
              exact ⟨rfl, (HB _ _).out⟩
            · have h2a : ¬ ((am : Int) ≤ 1125899906842624) := by unfold topN at h2; omega
              have h2b : (1125899906842624 : Int) < (am : Int) := by unfold topN at h2; omega
              have h2c : decide ((am : Int) ≤ 1125899906842624) = false := decide_eq_false h2a
              have HF : Hid (false = (decide (1 ≤ am) && decide (am ≤ topN))) := Lib.hid (by simp [h2])
              rw [← HF.out]
              clear h1 h2 HF
              go_enter Tryz.func75, Tryz.ntmps75
              go_wp2_with (first | (go_at_call 68; refine (HK.out _ _).mono ?_; rintro E w1 ⟨rfl, rfl⟩; first | rw [hq] | rw [ht]))
              go_ret
              exact ⟨rfl, (HB _ _).out⟩
          · have h1a : ¬ ((am : Int) ≥ 1) := by omega
            have h1b : ¬ ((1 : Int) ≤ (am : Int)) := by omega
            have h1c : (am : Int) < 1 := by omega
            have HF : Hid (false = (decide (1 ≤ am) && decide (am ≤ topN))) := Lib.hid (by simp [h1])
            rw [← HF.out]
            clear h1 HF
            go_enter Tryz.func75, Tryz.ntmps75
            go_wp2_with (first | (go_at_call 68; refine (HK.out _ _).mono ?_; rintro E w1 ⟨rfl, rfl⟩; first | rw [hq] | rw [ht]))
            go_ret
            exact ⟨rfl, (HB _ _).out⟩
set_option maxHeartbeats 4000000 in
theorem rmay_no (K : Int) (key value old to : ByteArray) (am : Nat) (w : World) (h1 : ¬ K = 1) (h2 : ¬ K = 2) (h3 : ¬ K = 3) (h4 : ¬ K = 4) (h5 : ¬ K = 5) :
    Calls Tryz.prog 75 #[.agg #[.int .u8 K, .string key, .string value, .string old, .string to, .int .u64 (am : Int)]] w fun E w' => E = .returned (.bool false) ∧ Below w.heap.size w w' := by
  have HB : ∀ o1 o2, Hid (Below w.heap.size w ((w.alloc o1).alloc o2)) := fun _ _ => Lib.hid (((Below.refl _ _).alloc (Nat.le_refl _) _).alloc (by simp) _)
  have HK := Lib.hid rkey_any
  obtain ⟨q, hq⟩ : ∃ q, mayK key = q := ⟨_, rfl⟩
  have e1 : (K == 1) = false := by simpa using h1
  have e2 : (K == 2) = false := by simpa using h2
  have e3 : (K == 3) = false := by simpa using h3
  have e4 : (K == 4) = false := by simpa using h4
  have e5 : (K == 5) = false := by simpa using h5
  cases q with
  | false =>
    go_enter Tryz.func75, Tryz.ntmps75
    go_wp2_with (go_at_call 68; refine (HK.out _ _).mono ?_; rintro E w1 ⟨rfl, rfl⟩; rw [hq])
    go_ret
    exact ⟨rfl, (HB _ _).out⟩
  | true =>
    go_enter Tryz.func75, Tryz.ntmps75
    go_wp2_with (go_at_call 68; refine (HK.out _ _).mono ?_; rintro E w1 ⟨rfl, rfl⟩; rw [hq])
    go_ret
    exact ⟨rfl, (HB _ _).out⟩
theorem eq_flag (o x : MOp) : ∃ b : Bool, b = true ↔ o = x := by
  rcases Classical.em (o = x) with h | h
  · exact ⟨true, by simp [h]⟩
  · exact ⟨false, by simp [h]⟩
theorem may_flag {o x : MOp} {b z : Bool} (hx : ownOp o = (x, z)) (hb : b = true ↔ o = x) : mayOp o = (z && (mayK o.key && b)) := by
  have e : decide ((ownOp o).1.value = o.value ∧ (ownOp o).1.old = o.old ∧ (ownOp o).1.to = o.to ∧ (ownOp o).1.amount = o.amount) = b := by
    rw [Bool.eq_iff_iff, decide_eq_true_eq, ← ownOp_eq, hx, hb]
  rw [mayOp, e, hx]
theorem rmay_any (o : MOp) (w : World) : Calls Tryz.prog 75 #[.agg (opC o).toArray] w fun E w' => E = .returned (.bool (mayOp o)) ∧ Below w.heap.size w w' := by
  obtain ⟨kk, key, value, old, to, am⟩ := o
  have hi : ∀ n : UInt8, (kk.toNat : Int) = (n.toNat : Int) ↔ kk = n := fun n => ⟨fun h => UInt8.toNat_inj.1 (by omega), fun h => by rw [h]⟩
  have hne : (to.toList == key.toList) = !(decide (to ≠ key)) := by
    by_cases e : to = key
    · simp [e]
    · have : (to.toList == key.toList) = false := by
        cases h : to.toList == key.toList with
        | false => rfl
        | true => exact absurd (toList_inj (by simpa using h)) e
      simp [this, e]
  by_cases k1 : kk = 1
  · subst k1
    obtain ⟨b, hb⟩ := eq_flag ⟨1, key, value, old, to, am⟩ ⟨1, key, ByteArray.empty, ByteArray.empty, ByteArray.empty, 0⟩
    rw [may_flag (z := true) rfl hb]
    refine (rmay_1 key value old to am w _ b _ _ _ _ rfl rfl rfl rfl (fun w => eq_op_of (d := 9998) _ _ hb w) hne).mono fun _ _ h => ⟨?_, h.2⟩
    rw [h.1, Bool.true_and]
  by_cases k3 : kk = 3
  · subst k3
    obtain ⟨b, hb⟩ := eq_flag ⟨3, key, value, old, to, am⟩ ⟨3, key, ByteArray.empty, ByteArray.empty, ByteArray.empty, 0⟩
    rw [may_flag (z := true) rfl hb]
    refine (rmay_3 key value old to am w _ b _ _ _ _ rfl rfl rfl rfl (fun w => eq_op_of (d := 9998) _ _ hb w) hne).mono fun _ _ h => ⟨?_, h.2⟩
    rw [h.1, Bool.true_and]
  by_cases k2 : kk = 2
  · subst k2
    obtain ⟨b, hb⟩ := eq_flag ⟨2, key, value, old, to, am⟩ ⟨2, key, value, ByteArray.empty, ByteArray.empty, 0⟩
    rw [may_flag (z := mayV value) rfl hb]
    refine (rmay_2 key value old to am w _ b _ _ _ _ rfl rfl rfl rfl (fun w => eq_op_of (d := 9998) _ _ hb w) hne).mono fun _ _ h => ⟨?_, h.2⟩
    rw [h.1]
    exact ret_bool (by cases mayK key <;> cases b <;> cases mayV value <;> rfl)
  by_cases k4 : kk = 4
  · subst k4
    obtain ⟨b, hb⟩ := eq_flag ⟨4, key, value, old, to, am⟩ ⟨4, key, value, old, ByteArray.empty, 0⟩
    rw [may_flag (z := mayV old && mayV value) rfl hb]
    refine (rmay_4 key value old to am w _ b _ _ _ _ rfl rfl rfl rfl (fun w => eq_op_of (d := 9998) _ _ hb w) hne).mono fun _ _ h => ⟨?_, h.2⟩
    rw [h.1]
    exact ret_bool (by cases mayK key <;> cases b <;> cases mayV value <;> cases mayV old <;> rfl)
  by_cases k5 : kk = 5
  · subst k5
    obtain ⟨b, hb⟩ := eq_flag ⟨5, key, value, old, to, am⟩ ⟨5, key, ByteArray.empty, ByteArray.empty, to, am⟩
    rw [may_flag (z := mayK to && (decide (to ≠ key) && (decide (1 ≤ am) && decide (am ≤ topN)))) rfl hb]
    refine (rmay_5 key value old to am w _ b _ _ _ _ rfl rfl rfl rfl (fun w => eq_op_of (d := 9998) _ _ hb w) hne).mono fun _ _ h => ⟨?_, h.2⟩
    rw [h.1]
    generalize decide (to ≠ key) = d1
    generalize (decide (1 ≤ am) && decide (am ≤ topN)) = d2
    exact ret_bool (by cases mayK key <;> cases b <;> cases mayK to <;> cases d1 <;> cases d2 <;> rfl)
  · have hz : mayOp ⟨kk, key, value, old, to, am⟩ = false := by
      cases hm : mayOp ⟨kk, key, value, old, to, am⟩ with
      | false => rfl
      | true =>
        rcases may_kind hm with e | e | e | e | e
        · exact absurd e k1
        · exact absurd e k2
        · exact absurd e k3
        · exact absurd e k4
        · exact absurd e k5
    rw [hz]
    exact rmay_no (kk.toNat : Int) key value old to am w (fun h => k1 ((hi 1).1 h)) (fun h => k2 ((hi 2).1 h)) (fun h => k3 ((hi 3).1 h)) (fun h => k4 ((hi 4).1 h)) (fun h => k5 ((hi 5).1 h))
open Go.RowKit
set_option maxRecDepth 100000

/-- The document's own ledger: its block, its row's, its items. -/
structure RL (w : World) (g : Nat) (r : Option Nat) (c : Nat) (xs : List It) : Prop where
  top : w.heap[g]? = some (.cells #[.slice (slA r) xs.length c] 56 (0, 0))
  row : Rw w r c xs
theorem RL.lt {w : World} {g : Nat} {r : Option Nat} {c : Nat} {xs : List It} (h : RL w g r c xs) : g < w.heap.size := (Array.getElem?_eq_some_iff.1 h.top).1
theorem RL.on_lt {w : World} {g : Nat} {r : Option Nat} {c : Nat} {xs : List It} (h : RL w g r c xs) : ∀ k, On g r k → k < w.heap.size := by
  rintro k (rfl | rfl)
  · exact h.lt
  · exact h.row.lt
theorem RL.cell {w : World} {g : Nat} {r : Option Nat} {c : Nat} {xs : List It} (h : RL w g r c xs) : w.cell? ⟨g, 0, none⟩ = some (.slice (slA r) xs.length c) := by
  rw [cell_of_row w g 0 _ _ _ h.top]
  rfl
theorem RL.kept {w w' : World} {g : Nat} {r : Option Nat} {c : Nat} {xs : List It} (h : RL w g r c xs) (hk : ∀ k, On g r k → w'.heap[k]? = w.heap[k]?) : RL w' g r c xs :=
  ⟨(hk g (.inl rfl)).trans h.top, h.row.kept fun b e => hk b (.inr e)⟩
theorem RL.below {w w' : World} {g : Nat} {r : Option Nat} {c : Nat} {xs : List It} (h : RL w g r c xs) (hb : Below w.heap.size w w') : RL w' g r c xs :=
  h.kept fun k hk => hb.block k (h.on_lt k hk)
theorem find_at {xs : List It} {k : ByteArray} {j : Nat} (hj : j ≤ xs.length) (h : ∀ i p, i < j → xs[i]? = some p → klt p.1 k = true) (h2 : ∀ p, xs[j]? = some p → klt p.1 k = false) : j = posOf xs k := pos_unique hj h h2
theorem has_end {xs : List It} {k : ByteArray} (h : xs.length = posOf xs k) : hasK xs k = false := by
  unfold hasK
  rw [← h]
  simp
theorem has_here {xs : List It} {k : ByteArray} {j : Nat} {p : It} (h : j = posOf xs k) (hp : xs[j]? = some p) : hasK xs k = decide (p.1 = k) := by
  unfold hasK
  rw [← h, hp]
set_option maxHeartbeats 8000000 in
theorem rfind_any {w : World} {g : Nat} {r : Option Nat} {c : Nat} {xs : List It} (h : RL w g r c xs) (hn : xs.length ≤ 1000) (k : ByteArray) :
    Calls Tryz.prog 78 #[.pointer (some ⟨g, 0, none⟩), .string k] w fun E w' => E = .returned (.tuple #[.int .i64 (posOf xs k : Int), .bool (hasK xs k)]) ∧ Below w.heap.size w w' := by
  have HL := Lib.hid h
  obtain ⟨n, hnn⟩ : ∃ n, n = xs.length := ⟨_, rfl⟩
  have HN := Lib.hid hnn
  obtain ⟨A, hA⟩ : ∃ A, A = slA r := ⟨_, rfl⟩
  have HI : Hid (∀ W, Below w.heap.size w W → Its W A xs) := Lib.hid fun W hb => by rw [hA]; exact h.row.its.below hb
  have HC : Hid (∀ W, Below w.heap.size w W → W.cell? ⟨g, 0, none⟩ = some (.slice A n c)) := Lib.hid fun W hb => by rw [hA, hnn]; exact (h.below hb).cell
  obtain ⟨P, hP⟩ : ∃ P, P = posOf xs k := ⟨_, rfl⟩
  have HP := Lib.hid hP
  obtain ⟨z, hz⟩ : ∃ z, z = hasK xs k := ⟨_, rfl⟩
  have HZ := Lib.hid hz
  rw [← hP, ← hz]
  rw [← hnn] at hn
  have HB0 := Lib.hid (Below.refl w.heap.size w)
  clear h hnn hA hP hz
  go_enter Tryz.func78, Tryz.ntmps78
  go_wp2_with fail
  go_loopw [6] (fun v6 wr => ∃ j : Nat, j ≤ n ∧ v6 = .int .i64 (j : Int) ∧ Hid (Below w.heap.size w wr ∧ ∀ i p, i < j → xs[i]? = some p → klt p.1 k = true)) (fun v6 _ => n - (intOf v6).toNat)
  case atStart => exact ⟨0, by omega, rfl, Lib.hid ⟨HB0.out, fun i p hi => absurd hi (Nat.not_lt_zero _)⟩⟩
  case round =>
    obtain ⟨j, hj, rfl, HR⟩ := hrel
    have cg := HC.out wr HR.out.1
    have hj0 : (0 : Int) ≤ (j : Int) := by omega
    have htn : ((j : Int)).toNat = j := by omega
    by_cases hjj : j < n
    · obtain ⟨b, o, rfl, hbl, hc⟩ := HI.out wr HR.out.1 (by rw [← HN.out]; omega)
      obtain ⟨p, hp⟩ : ∃ p, xs[j]? = some p := ⟨_, List.getElem?_eq_getElem (by rw [← HN.out]; exact hjj)⟩
      have c0 : wr.cell? ⟨b, o + j * 2, none⟩ = some (.string p.1) := (hc j p hp).1
      have hjn : (j : Int) < (n : Int) := by omega
      have hdec : decide ((j : Int) < (n : Int)) = true := decide_eq_true hjn
      cases hk : Op.bytesLess p.1.toList k.toList with
      | true =>
        have HE : Hid (∀ i q, i < j + 1 → xs[i]? = some q → klt q.1 k = true) := Lib.hid fun i q hi hq => by
          rcases Nat.lt_or_eq_of_le (Nat.le_of_lt_succ hi) with h | rfl
          · exact HR.out.2 i q h hq
          · rw [hp] at hq; cases hq; exact hk
        clear hc hp
        go_wp2_with fail
        go_roundw
        case measure => simp [intOf] <;> omega
        case rel => exact ⟨j + 1, by omega, by go_num, Lib.hid ⟨HR.out.1, HE.out⟩⟩
      | false =>
        have hjP : j = P := (find_at (by rw [← HN.out]; exact hj) HR.out.2 (fun q hq => by rw [hp] at hq; cases hq; exact hk)).trans HP.out.symm
        have HJ := Lib.hid hjP
        have HB := Lib.hid HR.out.1
        have hzz : z = decide (p.1 = k) := HZ.out.trans (has_here (hjP.trans HP.out) hp)
        have HB2 : Hid (∀ q, Below w.heap.size w (wr.drewN q)) := Lib.hid fun q => below_drewN HB.out q
        by_cases he : p.1 = k
        · have he' : (p.1.toList == k.toList) = true := by rw [he]; simp
          have HF : Hid (z = true) := Lib.hid (by rw [hzz, decide_eq_true he])
          clear hc hp hzz hjP he
          go_wp2_with fail
          go_quiet (fail)
          go_wp2_with fail
          go_ret2
          rw [HF.out, ← HJ.out]
          exact ⟨rfl, HB2.out _⟩
        · have he' : (p.1.toList == k.toList) = false := by
            cases h : p.1.toList == k.toList with
            | false => rfl
            | true => exact absurd (toList_inj (by simpa using h)) he
          have HF : Hid (z = false) := Lib.hid (by rw [hzz, decide_eq_false he])
          clear hc hp hzz hjP he
          go_wp2_with fail
          go_quiet (fail)
          go_wp2_with fail
          go_ret2
          rw [HF.out, ← HJ.out]
          exact ⟨rfl, HB2.out _⟩
    · have hjn : ¬ ((j : Int) < (n : Int)) := by omega
      have hdec : decide ((j : Int) < (n : Int)) = false := decide_eq_false hjn
      have hjL : j = xs.length := by rw [← HN.out]; omega
      have hjP : j = P := (find_at (by omega) HR.out.2 (fun q hq => by rw [hjL] at hq; simp at hq)).trans HP.out.symm
      have HJ := Lib.hid hjP
      have HF : Hid (z = false) := Lib.hid (by rw [HZ.out]; exact has_end (by rw [← hjL, hjP, HP.out]))
      have HB2 : Hid (∀ q, Below w.heap.size w (wr.drewN q)) := Lib.hid fun q => below_drewN HR.out.1 q
      clear hjL hjP
      go_wp2_with fail
      go_quiet (fail)
      go_wp2_with fail
      go_ret2
      rw [HF.out, ← HJ.out]
      exact ⟨rfl, HB2.out _⟩
set_option maxHeartbeats 4000000 in
theorem rget_any {w : World} {g : Nat} {r : Option Nat} {c : Nat} {xs : List It} (h : RL w g r c xs) (hn : xs.length ≤ 1000) (k : ByteArray) :
    Calls Tryz.prog 76 #[.pointer (some ⟨g, 0, none⟩), .string k] w fun E w' => E = .returned (.tuple #[.string (valK xs k), .bool (hasK xs k)]) ∧ Below w.heap.size w w' := by
  have HF := Lib.hid (rfind_any h hn k)
  have HL := Lib.hid h
  obtain ⟨z, hz⟩ : ∃ z, z = hasK xs k := ⟨_, rfl⟩
  have HZ := Lib.hid hz
  rw [← hz] at HF ⊢
  clear h hz
  cases z with
  | false =>
    rw [val_none HZ.out.symm]
    go_enter Tryz.func76, Tryz.ntmps76
    go_wp2_with (go_at_call 78; refine HF.out.mono ?_; rintro E w1 ⟨rfl, b1⟩)
    go_ret2
    exact ⟨rfl, b1⟩
  | true =>
    go_enter Tryz.func76, Tryz.ntmps76
    go_wp2_with (go_at_call 78; refine HF.out.mono ?_)
    rintro E w1 ⟨rfl, b1⟩
    have hp := mem_of_has HZ.out.symm
    have hlt := pos_lt_of_has HZ.out.symm
    obtain ⟨b, o, hA, hbl, hc⟩ := (HL.out.row.its.below b1) (by omega)
    have cg : w1.cell? ⟨g, 0, none⟩ = some (.slice (slA r) xs.length c) := (HL.out.below b1).cell
    rw [hA] at cg
    have c1 : w1.cell? ⟨b, o + posOf xs k * 2 + 1, none⟩ = some (.string (valK xs k)) := (hc _ _ hp).2
    have HB := Lib.hid b1
    obtain ⟨P, hP⟩ : ∃ P, P = posOf xs k := ⟨_, rfl⟩
    rw [← hP] at c1 hlt ⊢
    obtain ⟨n, hnn⟩ : ∃ n, n = xs.length := ⟨_, rfl⟩
    rw [← hnn] at cg hlt hn
    have hj0 : (0 : Int) ≤ (P : Int) := by omega
    have htn : ((P : Int)).toNat = P := by omega
    have hjn : (P : Int) < (n : Int) := by omega
    have hdec : decide ((P : Int) < (n : Int)) = true := decide_eq_true hjn
    clear hp hc hA hbl b1 hP hnn HF
    go_wp2_with fail
    go_ret2
    exact ⟨rfl, HB.out⟩
open Go.RowKit
set_option maxRecDepth 100000

/-- Some items of a row, at their place. -/
theorem row_cells {W : World} {b c : Nat} {xs : List It} (h : Rw W (some b) c xs) (i m : Nat) : ∀ j u, (itC ((xs.drop i).take m))[j]? = some u → W.cell? ((⟨b, i * 2, none⟩ : Addr).add j) = some u := fun j u hu => by
  rw [Addr.add_lit]
  obtain ⟨R, hB, _⟩ := h.blk
  refine hB.cell ?_
  have hl : j < (itC ((xs.drop i).take m)).length := (List.getElem?_eq_some_iff.1 hu).1
  rw [← itC_take, ← itC_drop] at hu
  rw [List.getElem?_take] at hu
  split at hu
  · rw [List.getElem?_drop] at hu
    rw [List.getElem?_append_left (List.getElem?_eq_some_iff.1 hu).1]
    exact hu
  · cases hu
theorem wpList_app {w0 w : World} {ops : Array Oper} {rest : List Oper} {o : Oper} {a : Act} {Q : Exit → Act → World → Prop} (hgd : o.guard = none) (s x : Operand)
    (ho : o.op = .call { callee := .builtin .append, args := #[s, x], argTypes := #[53, 53] }) {v : Value} {n : Nat} {C : List Value} (hs : a.eval s = v) (hown : w.ownsRow w0.heap.size 83 2 v n C) (hb : Below w0.heap.size w0 w)
    (ad : Addr) (m c : Nat) (news : List Value) (hx : a.eval x = .slice (some ad) m c) (hl : news.length = m * 2) (hnews : ∀ j u, news[j]? = some u → w.cell? (ad.add j) = some u) (h1 : ∀ u ∈ news, u.oneCell' = true) (h63 : n + m ≤ 4000)
    (h : ∀ v' w', w'.ownsRow w0.heap.size 83 2 v' (n + m) (C ++ news) → Below w0.heap.size w0 w' → wpList Tryz.prog ops Q rest (a.put o.dst v') w') : wpList Tryz.prog ops Q (o :: rest) a w := by
  obtain ⟨i0, hi0, hz0, hzs, hzb⟩ := info_parts Tryz.info83
  refine wpList_append_own w hgd s x 53 ho w0.heap.size 83 i0 _ 2 32 Tryz.underlying53 hi0 hz0 hzs hzb (by simp [Value.cells]) (by omega) v n C hs hown ad m c news hx hl hnews h1 (by unfold maxLen; omega) (by omega) hb.size ?_
  intro v' w' ho' hg _
  exact h v' w' ho' (hb.grown hg hb.size fun k hk => (hown.lt k hk).1)
theorem rset_fin {w W : World} {g : Nat} {r : Option Nat} {c : Nat} {xs ys : List It} {v : Value} (h : RL w g r c xs) (ho : W.ownsRow w.heap.size 83 2 v ys.length (itC ys)) (hb : Below w.heap.size w W) :
    ∃ r' c', RL (W.setCell ⟨g, 0, none⟩ v) g r' c' ys ∧ Own w (On g r) (W.setCell ⟨g, 0, none⟩ v) (On g r') := by
  obtain ⟨r', c', rfl, hr, hg⟩ := rw_of_own ho
  have ht : W.heap[g]? = some (.cells #[.slice (slA r) xs.length c] 56 (0, 0)) := (hb.block g h.lt).trans h.top
  refine ⟨r', c', ⟨by simp [World.setCell, Array.getElem?_modify, ht], hr.kept fun b e => Below.heap_setCell W ⟨g, 0, none⟩ _ b ?_⟩, (Turns.of_below hb).setCell (.inl (.inl rfl)) 0 _, ?_⟩
  · have h1 := hg b e
    have h2 := h.lt
    show b ≠ g
    omega
  · rintro k (rfl | hk)
    · exact .inl (.inl rfl)
    · exact .inr (hg k hk)
theorem set_none {xs : List It} {k v : ByteArray} (h : hasK xs k = false) : setK xs k v = xs.take (posOf xs k) ++ (k, v) :: xs.drop (posOf xs k) := by rw [setK, h]; rfl
theorem set_some {xs : List It} {k v : ByteArray} (h : hasK xs k = true) : setK xs k v = xs.take (posOf xs k) ++ (k, v) :: xs.drop (posOf xs k + 1) := by rw [setK, if_pos h]
set_option maxHeartbeats 8000000 in
theorem rset_some {w : World} {g b c : Nat} {xs : List It} (h : RL w g (some b) c xs) (hn : xs.length ≤ 1000) (k v : ByteArray) :
    Calls Tryz.prog 77 #[.pointer (some ⟨g, 0, none⟩), .string k, .string v] w fun E w' => E = .returned (.tuple #[]) ∧ ∃ r' c', RL w' g r' c' (setK xs k v) ∧ Own w (On g (some b)) w' (On g r') := by
  have HF := Lib.hid (rfind_any h hn k)
  have HL := Lib.hid h
  have hc1 := h.row.c
  obtain ⟨n, hnn⟩ : ∃ n, n = xs.length := ⟨_, rfl⟩
  have HN := Lib.hid hnn
  rw [← hnn] at hc1 hn
  have hPn : posOf xs k ≤ n := by rw [hnn]; exact posOf_le xs k
  obtain ⟨P, hP⟩ : ∃ P, P = posOf xs k := ⟨_, rfl⟩
  have HP := Lib.hid hP
  rw [← hP] at HF hPn
  clear h hnn hP
  go_enter Tryz.func77, Tryz.ntmps77
  go_wp2_with (go_at_call 78; refine HF.out.mono ?_)
  rintro E w1 ⟨rfl, b1⟩
  have HB1 := Lib.hid b1
  have cg : w1.cell? ⟨g, 0, none⟩ = some (.slice (some ⟨b, 0, none⟩) n c) := by rw [HN.out]; exact (HL.out.below b1).cell
  have hP0 : (0 : Int) ≤ (P : Int) := by omega
  have hPc : (P : Int) ≤ (c : Int) := by omega
  have hPn2 : (P : Int) ≤ (n : Int) := by omega
  have htn : ((P : Int)).toNat = P := by omega
  have q4 : (n : Int) ≤ (c : Int) := by omega
  have HT : Hid (∀ j u, (itC (xs.take P))[j]? = some u → w1.cell? ((⟨b, 0, none⟩ : Addr).add j) = some u) := Lib.hid fun j u hu => by
    have := row_cells (HL.out.below b1).row 0 P j u (by simpa using hu)
    simpa using this
  have HTl : Hid ((itC (xs.take P)).length = P * 2) := Lib.hid (by rw [itC_length, List.length_take, ← HN.out, Nat.min_eq_left hPn])
  have HT1 := Lib.hid (itC_one (xs.take P))
  have HO0 := Lib.hid (World.ownsRow_nil w1 w.heap.size 83 2)
  have H1 := Lib.hid (pC_one (k, v))
  obtain ⟨CT, hCT⟩ : ∃ C, C = itC (xs.take P) := ⟨_, rfl⟩
  have HCT := Lib.hid hCT
  rw [← hCT] at HT HTl HT1
  clear b1 HF hCT
  obtain ⟨z, hz⟩ : ∃ z, z = hasK xs k := ⟨_, rfl⟩
  have HZ := Lib.hid hz
  have hz1 : z = true → P < n := fun h => by rw [HN.out, HP.out]; exact pos_lt_of_has (by rw [← hz, h])
  rw [← hz]
  clear hz
  cases z with
  | false =>
    clear hz1
    by_cases hcD : c = P
    · have hcD2 := hcD.symm
      subst hcD2
      have HDl : Hid ((itC (xs.drop P)).length = 0 * 2) := Lib.hid (by rw [itC_length, List.length_drop, ← HN.out]; omega)
      have HD1 := Lib.hid (itC_one (xs.drop P))
      have HD2 : Hid (∀ W, Below w.heap.size w W → ∀ j u, (itC (xs.drop P))[j]? = some u → W.cell? ((⟨b, 0, none⟩ : Addr).add j) = some u) := Lib.hid fun W hb j u hu => by
        have : xs.drop P = [] := List.drop_eq_nil_of_le (by rw [← HN.out]; omega)
        rw [this] at hu
        simp [itC] at hu
      have HEnd : Hid (∀ v4 W, W.ownsRow w.heap.size 83 2 v4 (P + 1 + 0) (CT ++ pC (k, v) ++ itC (xs.drop P)) → Below w.heap.size w W → ∃ r' c', v4 = .slice (slA r') (P + 1 + 0) c' ∧ ∃ r2 c2, RL (W.setCell ⟨g, 0, none⟩ (.slice (slA r') (P + 1 + 0) c')) g r2 c2 (setK xs k v) ∧ Own w (On g (some b)) (W.setCell ⟨g, 0, none⟩ (.slice (slA r') (P + 1 + 0) c')) (On g r2)) := Lib.hid fun v4 W ho hb => by
        have hs : setK xs k v = xs.take P ++ (k, v) :: xs.drop P := by rw [set_none HZ.out.symm, HP.out]
        rw [hs]
        have e1 : (xs.take P ++ (k, v) :: xs.drop P).length = P + 1 + 0 := by
          rw [List.length_append, List.length_take, List.length_cons, List.length_drop, ← HN.out, Nat.min_eq_left hPn]
          omega
        have e2 : itC (xs.take P ++ (k, v) :: xs.drop P) = CT ++ pC (k, v) ++ itC (xs.drop P) := by
          rw [itC_app, itC_cons, HCT.out, List.append_assoc]
          rfl
        rw [← e1, ← e2] at ho
        obtain ⟨r', c', he, _, _⟩ := rw_of_own ho
        rw [e1] at he
        refine ⟨r', c', he, ?_⟩
        rw [← he]
        exact rset_fin HL.out ho hb
      obtain ⟨CD, hCD⟩ : ∃ C, C = itC (xs.drop P) := ⟨_, rfl⟩
      rw [← hCD] at HDl HD1 HD2 HEnd
      clear hCD
      go_wp2_with (first
        | (at_builtin
           refine wpList_app rfl _ _ rfl rfl HO0.out HB1.out ⟨b, 0, none⟩ P P CT rfl HTl.out HT.out HT1.out (by omega) ?_
           intro v1 w2 hown hb2
           rw [Nat.zero_add, List.nil_append] at hown
           have HO2 : Hid ((w2.alloc (.cells #[.string k, .string v] 83)).ownsRow w.heap.size 83 2 v1 P CT) := Lib.hid (hown.alloc _)
           have HB3 : Hid (Below w.heap.size w (w2.alloc (.cells #[.string k, .string v] 83))) := Lib.hid (hb2.alloc hb2.size _)
           have HV : Hid (∀ j u, (pC (k, v))[j]? = some u → (w2.alloc (.cells #[.string k, .string v] 83)).cell? ((⟨w2.heap.size, 0, none⟩ : Addr).add j) = some u) := Lib.hid fun j u hj => by
             rw [Addr.add_lit, Nat.zero_add]
             exact block_cell (C := pC (k, v)) (t := 83) (heap_alloc_new w2 (.cells (pC (k, v)).toArray 83)) j u hj
           clear hown hb2 HT HB1 cg HO0)
        | (at_builtin
           refine wpList_app rfl _ _ rfl rfl HO2.out HB3.out ⟨w2.heap.size, 0, none⟩ 1 1 (pC (k, v)) rfl rfl HV.out H1.out (by omega) ?_
           intro v2 w3 hown hb4
           have HO3 := Lib.hid hown
           have HB4 := Lib.hid hb4
           have cg2 : w3.cell? ⟨g, 0, none⟩ = some (.slice (some ⟨b, 0, none⟩) n P) := by rw [HN.out]; exact (HL.out.below hb4).cell
           clear hown hb4 HO2 HB3 HV)
        | (at_builtin
           refine wpList_app rfl _ _ rfl rfl HO3.out HB4.out ⟨b, 0, none⟩ 0 0 CD rfl HDl.out (HD2.out w3 HB4.out) HD1.out (by omega) ?_
           intro v3 w4 hown hb5
           obtain ⟨r', c', rfl, hX⟩ := HEnd.out v3 w4 hown hb5
           have HX := Lib.hid hX
           have ht4 : w4.heap[g]? = some (.cells #[.slice (some ⟨b, 0, none⟩) n P] 56 (0, 0)) := by rw [HN.out]; exact (hb5.block g HL.out.lt).trans HL.out.top
           have cg4 : w4.cell? ⟨g, 0, none⟩ = some (.slice (some ⟨b, 0, none⟩) n P) := by rw [HN.out]; exact (HL.out.below hb5).cell
           have fz4 : w4.frozen? ⟨g, 0, none⟩ = false := free_block ht4 0
           clear hX hown hb5 HO3 HB4 cg2 ht4))
      go_end0
      exact ⟨rfl, HX.out⟩
    · have HDl : Hid ((itC (xs.drop P)).length = (n - P) * 2) := Lib.hid (by rw [itC_length, List.length_drop, ← HN.out])
      have HD1 := Lib.hid (itC_one (xs.drop P))
      have HD2 : Hid (∀ W, Below w.heap.size w W → ∀ j u, (itC (xs.drop P))[j]? = some u → W.cell? ((⟨b, P * 2, none⟩ : Addr).add j) = some u) := Lib.hid fun W hb j u hu => by
        refine row_cells (HL.out.below hb).row P (n - P) j u ?_
        rw [List.take_of_length_le (by rw [List.length_drop, ← HN.out]; exact Nat.le_refl _)]
        exact hu
      have HEnd : Hid (∀ v4 W, W.ownsRow w.heap.size 83 2 v4 (P + 1 + (n - P)) (CT ++ pC (k, v) ++ itC (xs.drop P)) → Below w.heap.size w W → ∃ r' c', v4 = .slice (slA r') (P + 1 + (n - P)) c' ∧ ∃ r2 c2, RL (W.setCell ⟨g, 0, none⟩ (.slice (slA r') (P + 1 + (n - P)) c')) g r2 c2 (setK xs k v) ∧ Own w (On g (some b)) (W.setCell ⟨g, 0, none⟩ (.slice (slA r') (P + 1 + (n - P)) c')) (On g r2)) := Lib.hid fun v4 W ho hb => by
        have hs : setK xs k v = xs.take P ++ (k, v) :: xs.drop P := by rw [set_none HZ.out.symm, HP.out]
        rw [hs]
        have e1 : (xs.take P ++ (k, v) :: xs.drop P).length = P + 1 + (n - P) := by
          rw [List.length_append, List.length_take, List.length_cons, List.length_drop, ← HN.out, Nat.min_eq_left hPn]
          omega
        have e2 : itC (xs.take P ++ (k, v) :: xs.drop P) = CT ++ pC (k, v) ++ itC (xs.drop P) := by
          rw [itC_app, itC_cons, HCT.out, List.append_assoc]
          rfl
        rw [← e1, ← e2] at ho
        obtain ⟨r', c', he, _, _⟩ := rw_of_own ho
        rw [e1] at he
        refine ⟨r', c', he, ?_⟩
        rw [← he]
        exact rset_fin HL.out ho hb
      obtain ⟨CD, hCD⟩ : ∃ C, C = itC (xs.drop P) := ⟨_, rfl⟩
      rw [← hCD] at HDl HD1 HD2 HEnd
      clear hCD
      go_wp2_with (first
        | (at_builtin
           refine wpList_app rfl _ _ rfl rfl HO0.out HB1.out ⟨b, 0, none⟩ P c CT rfl HTl.out HT.out HT1.out (by omega) ?_
           intro v1 w2 hown hb2
           rw [Nat.zero_add, List.nil_append] at hown
           have HO2 : Hid ((w2.alloc (.cells #[.string k, .string v] 83)).ownsRow w.heap.size 83 2 v1 P CT) := Lib.hid (hown.alloc _)
           have HB3 : Hid (Below w.heap.size w (w2.alloc (.cells #[.string k, .string v] 83))) := Lib.hid (hb2.alloc hb2.size _)
           have HV : Hid (∀ j u, (pC (k, v))[j]? = some u → (w2.alloc (.cells #[.string k, .string v] 83)).cell? ((⟨w2.heap.size, 0, none⟩ : Addr).add j) = some u) := Lib.hid fun j u hj => by
             rw [Addr.add_lit, Nat.zero_add]
             exact block_cell (C := pC (k, v)) (t := 83) (heap_alloc_new w2 (.cells (pC (k, v)).toArray 83)) j u hj
           clear hown hb2 HT HB1 cg HO0)
        | (at_builtin
           refine wpList_app rfl _ _ rfl rfl HO2.out HB3.out ⟨w2.heap.size, 0, none⟩ 1 1 (pC (k, v)) rfl rfl HV.out H1.out (by omega) ?_
           intro v2 w3 hown hb4
           have HO3 := Lib.hid hown
           have HB4 := Lib.hid hb4
           have cg2 : w3.cell? ⟨g, 0, none⟩ = some (.slice (some ⟨b, 0, none⟩) n c) := by rw [HN.out]; exact (HL.out.below hb4).cell
           clear hown hb4 HO2 HB3 HV)
        | (at_builtin
           refine wpList_app rfl _ _ rfl rfl HO3.out HB4.out ⟨b, P * 2, none⟩ (n - P) (c - P) CD rfl HDl.out (HD2.out w3 HB4.out) HD1.out (by omega) ?_
           intro v3 w4 hown hb5
           obtain ⟨r', c', rfl, hX⟩ := HEnd.out v3 w4 hown hb5
           have HX := Lib.hid hX
           have ht4 : w4.heap[g]? = some (.cells #[.slice (some ⟨b, 0, none⟩) n c] 56 (0, 0)) := by rw [HN.out]; exact (hb5.block g HL.out.lt).trans HL.out.top
           have cg4 : w4.cell? ⟨g, 0, none⟩ = some (.slice (some ⟨b, 0, none⟩) n c) := by rw [HN.out]; exact (HL.out.below hb5).cell
           have fz4 : w4.frozen? ⟨g, 0, none⟩ = false := free_block ht4 0
           clear hX hown hb5 HO3 HB4 cg2 ht4))
      go_end0
      exact ⟨rfl, HX.out⟩
  | true =>
    have hPn1 := hz1 rfl
    have hw1 : IntKind.i64.wrap ((P : Int) + 1) = ((P + 1 : Nat) : Int) := by rw [IntKind.wrap_i64]; omega
    have q0 : (0 : Int) ≤ ((P + 1 : Nat) : Int) := by omega
    have q1 : ((P + 1 : Nat) : Int) ≤ (n : Int) := by omega
    have q3 : ((P + 1 : Nat) : Int) ≤ (c : Int) := by omega
    have q2 : (((P + 1 : Nat) : Int)).toNat = P + 1 := by omega
    obtain ⟨D, hD⟩ : ∃ D, D = P + 1 := ⟨_, rfl⟩
    rw [← hD] at hw1 q0 q1 q2 q3
    have HDn : Hid (D = posOf xs k + 1) := Lib.hid (by rw [hD, HP.out])
    have hDn : D ≤ n := by omega
    clear hD hz1
    by_cases hcD : c = D
    · have hcD2 := hcD.symm
      subst hcD2
      have HDl : Hid ((itC (xs.drop D)).length = 0 * 2) := Lib.hid (by rw [itC_length, List.length_drop, ← HN.out]; omega)
      have HD1 := Lib.hid (itC_one (xs.drop D))
      have HD2 : Hid (∀ W, Below w.heap.size w W → ∀ j u, (itC (xs.drop D))[j]? = some u → W.cell? ((⟨b, 0, none⟩ : Addr).add j) = some u) := Lib.hid fun W hb j u hu => by
        have : xs.drop D = [] := List.drop_eq_nil_of_le (by rw [← HN.out]; omega)
        rw [this] at hu
        simp [itC] at hu
      have HEnd : Hid (∀ v4 W, W.ownsRow w.heap.size 83 2 v4 (P + 1 + 0) (CT ++ pC (k, v) ++ itC (xs.drop D)) → Below w.heap.size w W → ∃ r' c', v4 = .slice (slA r') (P + 1 + 0) c' ∧ ∃ r2 c2, RL (W.setCell ⟨g, 0, none⟩ (.slice (slA r') (P + 1 + 0) c')) g r2 c2 (setK xs k v) ∧ Own w (On g (some b)) (W.setCell ⟨g, 0, none⟩ (.slice (slA r') (P + 1 + 0) c')) (On g r2)) := Lib.hid fun v4 W ho hb => by
        have hs : setK xs k v = xs.take P ++ (k, v) :: xs.drop D := by rw [set_some HZ.out.symm, HP.out, HDn.out]
        rw [hs]
        have e1 : (xs.take P ++ (k, v) :: xs.drop D).length = P + 1 + 0 := by
          rw [List.length_append, List.length_take, List.length_cons, List.length_drop, ← HN.out, Nat.min_eq_left hPn]
          omega
        have e2 : itC (xs.take P ++ (k, v) :: xs.drop D) = CT ++ pC (k, v) ++ itC (xs.drop D) := by
          rw [itC_app, itC_cons, HCT.out, List.append_assoc]
          rfl
        rw [← e1, ← e2] at ho
        obtain ⟨r', c', he, _, _⟩ := rw_of_own ho
        rw [e1] at he
        refine ⟨r', c', he, ?_⟩
        rw [← he]
        exact rset_fin HL.out ho hb
      obtain ⟨CD, hCD⟩ : ∃ C, C = itC (xs.drop D) := ⟨_, rfl⟩
      rw [← hCD] at HDl HD1 HD2 HEnd
      clear hCD
      go_wp2_with (first
        | (at_builtin
           refine wpList_app rfl _ _ rfl rfl HO0.out HB1.out ⟨b, 0, none⟩ P D CT rfl HTl.out HT.out HT1.out (by omega) ?_
           intro v1 w2 hown hb2
           rw [Nat.zero_add, List.nil_append] at hown
           have HO2 : Hid ((w2.alloc (.cells #[.string k, .string v] 83)).ownsRow w.heap.size 83 2 v1 P CT) := Lib.hid (hown.alloc _)
           have HB3 : Hid (Below w.heap.size w (w2.alloc (.cells #[.string k, .string v] 83))) := Lib.hid (hb2.alloc hb2.size _)
           have HV : Hid (∀ j u, (pC (k, v))[j]? = some u → (w2.alloc (.cells #[.string k, .string v] 83)).cell? ((⟨w2.heap.size, 0, none⟩ : Addr).add j) = some u) := Lib.hid fun j u hj => by
             rw [Addr.add_lit, Nat.zero_add]
             exact block_cell (C := pC (k, v)) (t := 83) (heap_alloc_new w2 (.cells (pC (k, v)).toArray 83)) j u hj
           clear hown hb2 HT HB1 cg HO0)
        | (at_builtin
           refine wpList_app rfl _ _ rfl rfl HO2.out HB3.out ⟨w2.heap.size, 0, none⟩ 1 1 (pC (k, v)) rfl rfl HV.out H1.out (by omega) ?_
           intro v2 w3 hown hb4
           have HO3 := Lib.hid hown
           have HB4 := Lib.hid hb4
           have cg2 : w3.cell? ⟨g, 0, none⟩ = some (.slice (some ⟨b, 0, none⟩) n D) := by rw [HN.out]; exact (HL.out.below hb4).cell
           clear hown hb4 HO2 HB3 HV)
        | (at_builtin
           refine wpList_app rfl _ _ rfl rfl HO3.out HB4.out ⟨b, 0, none⟩ 0 0 CD rfl HDl.out (HD2.out w3 HB4.out) HD1.out (by omega) ?_
           intro v3 w4 hown hb5
           obtain ⟨r', c', rfl, hX⟩ := HEnd.out v3 w4 hown hb5
           have HX := Lib.hid hX
           have ht4 : w4.heap[g]? = some (.cells #[.slice (some ⟨b, 0, none⟩) n D] 56 (0, 0)) := by rw [HN.out]; exact (hb5.block g HL.out.lt).trans HL.out.top
           have cg4 : w4.cell? ⟨g, 0, none⟩ = some (.slice (some ⟨b, 0, none⟩) n D) := by rw [HN.out]; exact (HL.out.below hb5).cell
           have fz4 : w4.frozen? ⟨g, 0, none⟩ = false := free_block ht4 0
           clear hX hown hb5 HO3 HB4 cg2 ht4))
      go_end0
      exact ⟨rfl, HX.out⟩
    · have HDl : Hid ((itC (xs.drop D)).length = (n - D) * 2) := Lib.hid (by rw [itC_length, List.length_drop, ← HN.out])
      have HD1 := Lib.hid (itC_one (xs.drop D))
      have HD2 : Hid (∀ W, Below w.heap.size w W → ∀ j u, (itC (xs.drop D))[j]? = some u → W.cell? ((⟨b, D * 2, none⟩ : Addr).add j) = some u) := Lib.hid fun W hb j u hu => by
        refine row_cells (HL.out.below hb).row D (n - D) j u ?_
        rw [List.take_of_length_le (by rw [List.length_drop, ← HN.out]; exact Nat.le_refl _)]
        exact hu
      have HEnd : Hid (∀ v4 W, W.ownsRow w.heap.size 83 2 v4 (P + 1 + (n - D)) (CT ++ pC (k, v) ++ itC (xs.drop D)) → Below w.heap.size w W → ∃ r' c', v4 = .slice (slA r') (P + 1 + (n - D)) c' ∧ ∃ r2 c2, RL (W.setCell ⟨g, 0, none⟩ (.slice (slA r') (P + 1 + (n - D)) c')) g r2 c2 (setK xs k v) ∧ Own w (On g (some b)) (W.setCell ⟨g, 0, none⟩ (.slice (slA r') (P + 1 + (n - D)) c')) (On g r2)) := Lib.hid fun v4 W ho hb => by
        have hs : setK xs k v = xs.take P ++ (k, v) :: xs.drop D := by rw [set_some HZ.out.symm, HP.out, HDn.out]
        rw [hs]
        have e1 : (xs.take P ++ (k, v) :: xs.drop D).length = P + 1 + (n - D) := by
          rw [List.length_append, List.length_take, List.length_cons, List.length_drop, ← HN.out, Nat.min_eq_left hPn]
          omega
        have e2 : itC (xs.take P ++ (k, v) :: xs.drop D) = CT ++ pC (k, v) ++ itC (xs.drop D) := by
          rw [itC_app, itC_cons, HCT.out, List.append_assoc]
          rfl
        rw [← e1, ← e2] at ho
        obtain ⟨r', c', he, _, _⟩ := rw_of_own ho
        rw [e1] at he
        refine ⟨r', c', he, ?_⟩
        rw [← he]
        exact rset_fin HL.out ho hb
      obtain ⟨CD, hCD⟩ : ∃ C, C = itC (xs.drop D) := ⟨_, rfl⟩
      rw [← hCD] at HDl HD1 HD2 HEnd
      clear hCD
      go_wp2_with (first
        | (at_builtin
           refine wpList_app rfl _ _ rfl rfl HO0.out HB1.out ⟨b, 0, none⟩ P c CT rfl HTl.out HT.out HT1.out (by omega) ?_
           intro v1 w2 hown hb2
           rw [Nat.zero_add, List.nil_append] at hown
           have HO2 : Hid ((w2.alloc (.cells #[.string k, .string v] 83)).ownsRow w.heap.size 83 2 v1 P CT) := Lib.hid (hown.alloc _)
           have HB3 : Hid (Below w.heap.size w (w2.alloc (.cells #[.string k, .string v] 83))) := Lib.hid (hb2.alloc hb2.size _)
           have HV : Hid (∀ j u, (pC (k, v))[j]? = some u → (w2.alloc (.cells #[.string k, .string v] 83)).cell? ((⟨w2.heap.size, 0, none⟩ : Addr).add j) = some u) := Lib.hid fun j u hj => by
             rw [Addr.add_lit, Nat.zero_add]
             exact block_cell (C := pC (k, v)) (t := 83) (heap_alloc_new w2 (.cells (pC (k, v)).toArray 83)) j u hj
           clear hown hb2 HT HB1 cg HO0)
        | (at_builtin
           refine wpList_app rfl _ _ rfl rfl HO2.out HB3.out ⟨w2.heap.size, 0, none⟩ 1 1 (pC (k, v)) rfl rfl HV.out H1.out (by omega) ?_
           intro v2 w3 hown hb4
           have HO3 := Lib.hid hown
           have HB4 := Lib.hid hb4
           have cg2 : w3.cell? ⟨g, 0, none⟩ = some (.slice (some ⟨b, 0, none⟩) n c) := by rw [HN.out]; exact (HL.out.below hb4).cell
           clear hown hb4 HO2 HB3 HV)
        | (at_builtin
           refine wpList_app rfl _ _ rfl rfl HO3.out HB4.out ⟨b, D * 2, none⟩ (n - D) (c - D) CD rfl HDl.out (HD2.out w3 HB4.out) HD1.out (by omega) ?_
           intro v3 w4 hown hb5
           obtain ⟨r', c', rfl, hX⟩ := HEnd.out v3 w4 hown hb5
           have HX := Lib.hid hX
           have ht4 : w4.heap[g]? = some (.cells #[.slice (some ⟨b, 0, none⟩) n c] 56 (0, 0)) := by rw [HN.out]; exact (hb5.block g HL.out.lt).trans HL.out.top
           have cg4 : w4.cell? ⟨g, 0, none⟩ = some (.slice (some ⟨b, 0, none⟩) n c) := by rw [HN.out]; exact (HL.out.below hb5).cell
           have fz4 : w4.frozen? ⟨g, 0, none⟩ = false := free_block ht4 0
           clear hX hown hb5 HO3 HB4 cg2 ht4))
      go_end0
      exact ⟨rfl, HX.out⟩
open Go.RowKit
set_option maxRecDepth 100000

set_option maxHeartbeats 8000000 in
theorem rset_first {w : World} {g : Nat} (h : RL w g none 0 []) (k v : ByteArray) :
    Calls Tryz.prog 77 #[.pointer (some ⟨g, 0, none⟩), .string k, .string v] w fun E w' => E = .returned (.tuple #[]) ∧ ∃ r' c', RL w' g r' c' (setK [] k v) ∧ Own w (On g none) w' (On g r') := by
  have HF := Lib.hid (rfind_any h (by simp) k)
  have HL := Lib.hid h
  have hp0 : posOf ([] : List It) k = 0 := rfl
  have hz0 : hasK ([] : List It) k = false := rfl
  rw [hp0, hz0] at HF
  have H1 := Lib.hid (pC_one (k, v))
  have HEnd : Hid (∀ v4 W, W.ownsRow w.heap.size 83 2 v4 (0 + 1) ([] ++ pC (k, v)) → Below w.heap.size w W → ∃ r' c', v4 = .slice (slA r') 1 c' ∧ ∃ r2 c2, RL (W.setCell ⟨g, 0, none⟩ (.slice (slA r') 1 c')) g r2 c2 (setK [] k v) ∧ Own w (On g none) (W.setCell ⟨g, 0, none⟩ (.slice (slA r') 1 c')) (On g r2)) := Lib.hid fun v4 W ho hb => by
    have hs : setK [] k v = [(k, v)] := rfl
    rw [hs]
    obtain ⟨r', c', he, _, _⟩ := rw_of_own (xs := [(k, v)]) ho
    refine ⟨r', c', he, ?_⟩
    have he' : v4 = .slice (slA r') 1 c' := he
    rw [← he']
    exact rset_fin (ys := [(k, v)]) HL.out ho hb
  clear h hp0 hz0
  go_enter Tryz.func77, Tryz.ntmps77
  go_wp2_with (go_at_call 78; refine HF.out.mono ?_)
  rintro E w1 ⟨rfl, b1⟩
  have cg : w1.cell? ⟨g, 0, none⟩ = some (.slice none 0 0) := (HL.out.below b1).cell
  have HO2 : Hid ((w1.alloc (.cells #[.string k, .string v] 83)).ownsRow w.heap.size 83 2 (.slice none 0 0) 0 []) := Lib.hid (World.ownsRow_nil _ _ _ _)
  have HB3 : Hid (Below w.heap.size w (w1.alloc (.cells #[.string k, .string v] 83))) := Lib.hid (b1.alloc b1.size _)
  have HV : Hid (∀ j u, (pC (k, v))[j]? = some u → (w1.alloc (.cells #[.string k, .string v] 83)).cell? ((⟨w1.heap.size, 0, none⟩ : Addr).add j) = some u) := Lib.hid fun j u hj => by
    rw [Addr.add_lit, Nat.zero_add]
    exact block_cell (C := pC (k, v)) (t := 83) (heap_alloc_new w1 (.cells (pC (k, v)).toArray 83)) j u hj
  clear b1 HF
  go_wp2_with (first
    | (at_builtin
       refine wpList_app rfl _ _ rfl rfl HO2.out HB3.out ⟨w1.heap.size, 0, none⟩ 1 1 (pC (k, v)) rfl rfl HV.out H1.out (by omega) ?_
       intro v2 w3 hown hb4
       obtain ⟨r', c', rfl, hX⟩ := HEnd.out v2 w3 hown hb4
       have HX := Lib.hid hX
       have ht4 : w3.heap[g]? = some (.cells #[.slice none 0 0] 56 (0, 0)) := (hb4.block g HL.out.lt).trans HL.out.top
       have cg2 : w3.cell? ⟨g, 0, none⟩ = some (.slice none 0 0) := (HL.out.below hb4).cell
       have fz4 : w3.frozen? ⟨g, 0, none⟩ = false := free_block ht4 0
       have HO5 : Hid (w3.ownsRow w.heap.size 83 2 (.slice (slA r') 1 c') (0 + 1) ([] ++ pC (k, v))) := Lib.hid hown
       clear hX hown hb4 HO2 HB3 HV ht4)
    | (at_builtin
       obtain ⟨i0, hi0, hz0, hzs, hzb⟩ := info_parts Tryz.info83
       refine wpList_append_own_none rfl _ _ 53 rfl w.heap.size 83 i0 2 Tryz.underlying53 hi0 _ _ _ rfl HO5.out rfl ?_
       clear hi0 hz0 hzs hzb HO5))
  go_end0
  exact ⟨rfl, HX.out⟩
theorem rset_any {w : World} {g : Nat} {r : Option Nat} {c : Nat} {xs : List It} (h : RL w g r c xs) (hn : xs.length ≤ 1000) (k v : ByteArray) :
    Calls Tryz.prog 77 #[.pointer (some ⟨g, 0, none⟩), .string k, .string v] w fun E w' => E = .returned (.tuple #[]) ∧ ∃ r' c', RL w' g r' c' (setK xs k v) ∧ Own w (On g r) w' (On g r') := by
  cases r with
  | some b => exact rset_some h hn k v
  | none =>
    obtain ⟨rfl, rfl⟩ := h.row
    exact rset_first h k v
end Go.Proofs.YtpageppjngbnpaaGreatDoor
