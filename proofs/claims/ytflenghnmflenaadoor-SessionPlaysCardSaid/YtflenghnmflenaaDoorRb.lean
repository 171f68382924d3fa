/-
  What is proved: what may be, by the document's own answers. Conditions as stated.
-/
import Derived.Test.YtflenghnmflenaaDoorRa
namespace Go.Proofs.YtflenghnmflenaaDoor
open Go.RowKit
set_option maxRecDepth 100000

set_option maxHeartbeats 4000000 in
theorem rmay_5 (key value old to : ByteArray) (am : Nat) (w : World) (q b v y t n : Bool) (hq : mayK key = q) (ht : mayK to = t) (hv : mayV value = v) (hy : mayV old = y)
    (he : ∀ w, (Op.equalIn 10000 49 (.agg #[.int .u8 5, .string key, .string value, .string old, .string to, .int .u64 (am : Int)]) (.agg #[.int .u8 5, .string key, .string ⟨#[]⟩, .string ⟨#[]⟩, .string to, .int .u64 (am : Int)])).run Tryd.prog w = .ok b w) (hne : (to.toList == key.toList) = !n) :
    Calls Tryd.prog 35 #[.agg #[.int .u8 5, .string key, .string value, .string old, .string to, .int .u64 (am : Int)]] w fun E w' => E = .returned (.bool (q && (b && (t && (n && (decide (1 ≤ am) && decide (am ≤ topN))))))) ∧ Below w.heap.size w w' := by
  have HB : ∀ o1 o2, Hid (Below w.heap.size w ((w.alloc o1).alloc o2)) := fun _ _ => Lib.hid (((Below.refl _ _).alloc (Nat.le_refl _) _).alloc (by simp) _)
  have g41 := Tryd.guard49
  have HU := Lib.hid (And.intro ht (And.intro hv (And.intro hy (And.intro hne he))))
  clear HU
  have HK := Lib.hid rkey_any
  have HV := Lib.hid rval_any
  cases q with
  | false =>
    go_enter Tryd.func35, Tryd.ntmps35
    go_wp2_with (first | (go_at_call 48; refine (HK.out _ _).mono ?_; rintro E w1 ⟨rfl, rfl⟩; first | rw [hq] | rw [ht]))
    go_ret
    exact ⟨rfl, (HB _ _).out⟩
  | true =>
    cases b with
    | false =>
      go_enter Tryd.func35, Tryd.ntmps35
      go_wp2_with (first | (go_at_call 48; refine (HK.out _ _).mono ?_; rintro E w1 ⟨rfl, rfl⟩; first | rw [hq] | rw [ht]))
      go_ret
      exact ⟨rfl, (HB _ _).out⟩
    | true =>
      cases t with
      | false =>
        go_enter Tryd.func35, Tryd.ntmps35
        go_wp2_with (first | (go_at_call 48; refine (HK.out _ _).mono ?_; rintro E w1 ⟨rfl, rfl⟩; first | rw [hq] | rw [ht]))
        go_ret
        exact ⟨rfl, (HB _ _).out⟩
      | true =>
        cases n with
        | false =>
          go_enter Tryd.func35, Tryd.ntmps35
          go_wp2_with (first | (go_at_call 48; refine (HK.out _ _).mono ?_; rintro E w1 ⟨rfl, rfl⟩; first | rw [hq] | rw [ht]))
          go_ret
          exact ⟨rfl, (HB _ _).out⟩
        | true =>
          by_cases h1 : 1 ≤ am
          · have h1a : (am : Int) ≥ 1 := by omega
            have h1b : (1 : Int) ≤ (am : Int) := by omega
            by_cases h2 : am ≤ topN
            · have h2a : (am : Int) ≤ 1125899906842624 := by unfold topN at h2; omega
              have HF : Hid (true = (decide (1 ≤ am) && decide (am ≤ topN))) := Lib.hid (by simp [h1, h2])
              rw [← HF.out]
              clear h1 h2 HF
              go_enter Tryd.func35, Tryd.ntmps35
              go_wp2_with (first | (go_at_call 48; refine (HK.out _ _).mono ?_; rintro E w1 ⟨rfl, rfl⟩; first | rw [hq] | rw [ht]))
              go_ret
              exact ⟨rfl, (HB _ _).out⟩
            · have h2a : ¬ ((am : Int) ≤ 1125899906842624) := by unfold topN at h2; omega
              have h2b : (1125899906842624 : Int) < (am : Int) := by unfold topN at h2; omega
              have h2c : decide ((am : Int) ≤ 1125899906842624) = false := decide_eq_false h2a
              have HF : Hid (false = (decide (1 ≤ am) && decide (am ≤ topN))) := Lib.hid (by simp [h2])
              rw [← HF.out]
              clear h1 h2 HF
              go_enter Tryd.func35, Tryd.ntmps35
              go_wp2_with (first | (go_at_call 48; refine (HK.out _ _).mono ?_; rintro E w1 ⟨rfl, rfl⟩; first | rw [hq] | rw [ht]))
              go_ret
              exact ⟨rfl, (HB _ _).out⟩
          · have h1a : ¬ ((am : Int) ≥ 1) := by omega
            have h1b : ¬ ((1 : Int) ≤ (am : Int)) := by omega
            have h1c : (am : Int) < 1 := by omega
            have HF : Hid (false = (decide (1 ≤ am) && decide (am ≤ topN))) := Lib.hid (by simp [h1])
            rw [← HF.out]
            clear h1 HF
            go_enter Tryd.func35, Tryd.ntmps35
            go_wp2_with (first | (go_at_call 48; refine (HK.out _ _).mono ?_; rintro E w1 ⟨rfl, rfl⟩; first | rw [hq] | rw [ht]))
            go_ret
            exact ⟨rfl, (HB _ _).out⟩
set_option maxHeartbeats 4000000 in
theorem rmay_no (K : Int) (key value old to : ByteArray) (am : Nat) (w : World) (h1 : ¬ K = 1) (h2 : ¬ K = 2) (h3 : ¬ K = 3) (h4 : ¬ K = 4) (h5 : ¬ K = 5) :
    Calls Tryd.prog 35 #[.agg #[.int .u8 K, .string key, .string value, .string old, .string to, .int .u64 (am : Int)]] w fun E w' => E = .returned (.bool false) ∧ Below w.heap.size w w' := by
  have HB : ∀ o1 o2, Hid (Below w.heap.size w ((w.alloc o1).alloc o2)) := fun _ _ => Lib.hid (((Below.refl _ _).alloc (Nat.le_refl _) _).alloc (by simp) _)
  have HK := Lib.hid rkey_any
  obtain ⟨q, hq⟩ : ∃ q, mayK key = q := ⟨_, rfl⟩
  have e1 : (K == 1) = false := by simpa using h1
  have e2 : (K == 2) = false := by simpa using h2
  have e3 : (K == 3) = false := by simpa using h3
  have e4 : (K == 4) = false := by simpa using h4
  have e5 : (K == 5) = false := by simpa using h5
  cases q with
  | false =>
    go_enter Tryd.func35, Tryd.ntmps35
    go_wp2_with (go_at_call 48; refine (HK.out _ _).mono ?_; rintro E w1 ⟨rfl, rfl⟩; rw [hq])
    go_ret
    exact ⟨rfl, (HB _ _).out⟩
  | true =>
    go_enter Tryd.func35, Tryd.ntmps35
    go_wp2_with (go_at_call 48; refine (HK.out _ _).mono ?_; rintro E w1 ⟨rfl, rfl⟩; rw [hq])
    go_ret
    exact ⟨rfl, (HB _ _).out⟩
theorem eq_flag (o x : MOp) : ∃ b : Bool, b = true ↔ o = x := by
  rcases Classical.em (o = x) with h | h
  · exact ⟨true, by simp [h]⟩
  · exact ⟨false, by simp [h]⟩
theorem may_flag {o x : MOp} {b z : Bool} (hx : ownOp o = (x, z)) (hb : b = true ↔ o = x) : mayOp o = (z && (mayK o.key && b)) := by
  have e : decide ((ownOp o).1.value = o.value ∧ (ownOp o).1.old = o.old ∧ (ownOp o).1.to = o.to ∧ (ownOp o).1.amount = o.amount) = b := by
    rw [Bool.eq_iff_iff, decide_eq_true_eq, ← ownOp_eq, hx, hb]
  rw [mayOp, e, hx]
theorem rmay_any (o : MOp) (w : World) : Calls Tryd.prog 35 #[.agg (opC o).toArray] w fun E w' => E = .returned (.bool (mayOp o)) ∧ Below w.heap.size w w' := by
  obtain ⟨kk, key, value, old, to, am⟩ := o
  have hi : ∀ n : UInt8, (kk.toNat : Int) = (n.toNat : Int) ↔ kk = n := fun n => ⟨fun h => UInt8.toNat_inj.1 (by omega), fun h => by rw [h]⟩
  have hne : (to.toList == key.toList) = !(decide (to ≠ key)) := by
    by_cases e : to = key
    · simp [e]
    · have : (to.toList == key.toList) = false := by
        cases h : to.toList == key.toList with
        | false => rfl
        | true => exact absurd (toList_inj (by simpa using h)) e
      simp [this, e]
  by_cases k1 : kk = 1
  · subst k1
    obtain ⟨b, hb⟩ := eq_flag ⟨1, key, value, old, to, am⟩ ⟨1, key, ByteArray.empty, ByteArray.empty, ByteArray.empty, 0⟩
    rw [may_flag (z := true) rfl hb]
    refine (rmay_1 key value old to am w _ b _ _ _ _ rfl rfl rfl rfl (fun w => eq_op_of (d := 9998) _ _ hb w) hne).mono fun _ _ h => ⟨?_, h.2⟩
    rw [h.1, Bool.true_and]
  by_cases k3 : kk = 3
  · subst k3
    obtain ⟨b, hb⟩ := eq_flag ⟨3, key, value, old, to, am⟩ ⟨3, key, ByteArray.empty, ByteArray.empty, ByteArray.empty, 0⟩
    rw [may_flag (z := true) rfl hb]
    refine (rmay_3 key value old to am w _ b _ _ _ _ rfl rfl rfl rfl (fun w => eq_op_of (d := 9998) _ _ hb w) hne).mono fun _ _ h => ⟨?_, h.2⟩
    rw [h.1, Bool.true_and]
  by_cases k2 : kk = 2
  · subst k2
    obtain ⟨b, hb⟩ := eq_flag ⟨2, key, value, old, to, am⟩ ⟨2, key, value, ByteArray.empty, ByteArray.empty, 0⟩
    rw [may_flag (z := mayV value) rfl hb]
    refine (rmay_2 key value old to am w _ b _ _ _ _ rfl rfl rfl rfl (fun w => eq_op_of (d := 9998) _ _ hb w) hne).mono fun _ _ h => ⟨?_, h.2⟩
    rw [h.1]
    exact ret_bool (by cases mayK key <;> cases b <;> cases mayV value <;> rfl)
  by_cases k4 : kk = 4
  · subst k4
    obtain ⟨b, hb⟩ := eq_flag ⟨4, key, value, old, to, am⟩ ⟨4, key, value, old, ByteArray.empty, 0⟩
    rw [may_flag (z := mayV old && mayV value) rfl hb]
    refine (rmay_4 key value old to am w _ b _ _ _ _ rfl rfl rfl rfl (fun w => eq_op_of (d := 9998) _ _ hb w) hne).mono fun _ _ h => ⟨?_, h.2⟩
    rw [h.1]
    exact ret_bool (by cases mayK key <;> cases b <;> cases mayV value <;> cases mayV old <;> rfl)
  by_cases k5 : kk = 5
  · subst k5
    obtain ⟨b, hb⟩ := eq_flag ⟨5, key, value, old, to, am⟩ ⟨5, key, ByteArray.empty, ByteArray.empty, to, am⟩
    rw [may_flag (z := mayK to && (decide (to ≠ key) && (decide (1 ≤ am) && decide (am ≤ topN)))) rfl hb]
    refine (rmay_5 key value old to am w _ b _ _ _ _ rfl rfl rfl rfl (fun w => eq_op_of (d := 9998) _ _ hb w) hne).mono fun _ _ h => ⟨?_, h.2⟩
    rw [h.1]
    generalize decide (to ≠ key) = d1
    generalize (decide (1 ≤ am) && decide (am ≤ topN)) = d2
    exact ret_bool (by cases mayK key <;> cases b <;> cases mayK to <;> cases d1 <;> cases d2 <;> rfl)
  · have hz : mayOp ⟨kk, key, value, old, to, am⟩ = false := by
      cases hm : mayOp ⟨kk, key, value, old, to, am⟩ with
      | false => rfl
      | true =>
        rcases may_kind hm with e | e | e | e | e
        · exact absurd e k1
        · exact absurd e k2
        · exact absurd e k3
        · exact absurd e k4
        · exact absurd e k5
    rw [hz]
    exact rmay_no (kk.toNat : Int) key value old to am w (fun h => k1 ((hi 1).1 h)) (fun h => k2 ((hi 2).1 h)) (fun h => k3 ((hi 3).1 h)) (fun h => k4 ((hi 4).1 h)) (fun h => k5 ((hi 5).1 h))
end Go.Proofs.YtflenghnmflenaaDoor
