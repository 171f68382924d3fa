/-
  What is proved: the walk of TagOthers for whatever comes in. Conditions as stated.
-/
import Derived.Test.YtfmmldpemdodkaaDoorWc
import Derived.Test.YtfmmldpemdodkaaDoorL
namespace Go.Proofs.YtfmmldpemdodkaaDoor
open Go.RowKit

theorem repKey_no {i : Int} (h : i < 1 ∨ 11 < i) : repKey i = [] := if_pos h
theorem repKey_len {i : Int} (h1 : 1 ≤ i) (h2 : i ≤ 11) : (repKey i).length = 32 := by
  rw [repKey, keyI, if_neg (by omega), sumOf_length]
theorem cliKey_no {i : Int} (h : i < 1 ∨ 8 < i) : cliKey i = [] := if_pos h
theorem cliKey_len {i : Int} (h1 : 1 ≤ i) (h2 : i ≤ 8) : (cliKey i).length = 32 := by
  rw [cliKey, keyI, if_neg (by omega), sumOf_length]

/-- A call of Replica, or of Client, as far as a length is asked. -/
theorem replica_len (i : Int) (k : Nat) (h : (repKey i).length = k) (w : World) (hk : KIs w) (h0 : 0 < w.heap.size) :
    Calls Tryd.prog 11 #[.int .i64 i] w fun E w' => ∃ A c, E = .returned (.slice A k c) ∧ Below w.heap.size w w' := by
  subst h
  exact (replica_any i w hk h0).mono fun E w' ⟨A, c, he, _, hb⟩ => ⟨A, c, he, hb⟩
theorem client_len (i : Int) (k : Nat) (h : (cliKey i).length = k) (w : World) (hk : KIs w) (h0 : 0 < w.heap.size) :
    Calls Tryd.prog 13 #[.int .i64 i] w fun E w' => ∃ A c, E = .returned (.slice A k c) ∧ Below w.heap.size w w' := by
  subst h
  exact (client_any i w hk h0).mono fun E w' ⟨A, c, he, _, hb⟩ => ⟨A, c, he, hb⟩

set_option maxHeartbeats 400000 in
theorem others_in (i : Int) (n : Int) (A : Option Addr) (m c kc : Nat) (w : World) (hW : Works) (hk : KIs w) (h0 : 0 < w.heap.size) (hm : m ≤ 1024) (h1 : 1 ≤ i) (h2 : i ≤ 11) (hc : i ≤ 8 ∧ kc = 32 ∨ 8 < i ∧ kc = 0)
    (R : ∀ w : World, KIs w → 0 < w.heap.size → Calls Tryd.prog 11 #[.int .i64 i] w fun E w' => ∃ A c, E = .returned (.slice A 32 c) ∧ Below w.heap.size w w')
    (C : ∀ w : World, KIs w → 0 < w.heap.size → Calls Tryd.prog 13 #[.int .i64 i] w fun E w' => ∃ A c, E = .returned (.slice A kc c) ∧ Below w.heap.size w w') :
    Calls Tryd.prog 7 #[.int .i64 i, .int .u64 n, .slice A m c] w fun E w' => E = .returned (.bool true) ∧ Below w.heap.size w w' := by
  have HK := Lib.hid hk
  have HW := Lib.hid hW
  have RR := Lib.hid R
  have CC := Lib.hid C
  clear hk hW R C
  rcases hc with ⟨h3, rfl⟩ | ⟨h3, rfl⟩
  all_goals
    go_enter Tryd.func7, Tryd.ntmps7
    go_wp2_with (first
      | (go_at_call 11; (with_reducible refine (RR.out w HK.out h0).mono ?_); rintro E w1 ⟨A1, c1, rfl, hb1⟩; have HB1 := Lib.hid hb1; clear hb1)
      | (go_at_call 13; (with_reducible refine (CC.out w1 (HK.out.below HB1.out h0) (Nat.lt_of_lt_of_le h0 HB1.out.size)).mono ?_); rintro E w2 ⟨A2, c2, rfl, hb2⟩; have HB2 := Lib.hid (HB1.out.trans (hb2.mono HB1.out.size)); clear hb2)
      | (go_at_call 11; (with_reducible refine (RR.out w2 (HK.out.below HB2.out h0) (Nat.lt_of_lt_of_le h0 HB2.out.size)).mono ?_); rintro E w3 ⟨A3, c3, rfl, hb3⟩; have HB3 := Lib.hid (HB2.out.trans (hb3.mono HB2.out.size)); clear hb3)
      | (go_at_call 8; refine (HW.out w3 (HK.out.below HB3.out h0) (Nat.lt_of_lt_of_le h0 HB3.out.size)).mono ?_; rintro E w4 ⟨rfl, hb4⟩; have HB4 := Lib.hid (HB3.out.trans (hb4.mono HB3.out.size)); clear hb4))
    go_ret
    exact ⟨rfl, HB4.out⟩

set_option maxHeartbeats 400000 in
theorem others_out (d : List UInt8) (hd : d.length = 32) (i : Int) (n : Int) (A : Option Addr) (m c : Nat) (w : World) (hW : Works) (hk : KIs w) (h0 : 0 < w.heap.size) (hm : m ≤ 1024) (hi : i < 1 ∨ 1 ≤ i ∧ 11 < i)
    (R : ∀ w : World, KIs w → 0 < w.heap.size → Calls Tryd.prog 11 #[.int .i64 i] w fun E w' => ∃ A c, E = .returned (.slice A 0 c) ∧ Below w.heap.size w w')
    (C : ∀ w : World, KIs w → 0 < w.heap.size → Calls Tryd.prog 13 #[.int .i64 i] w fun E w' => ∃ A c, E = .returned (.slice A 0 c) ∧ Below w.heap.size w w')
    (N1 : ∀ w' : World, Below w.heap.size w w' → Calls Tryd.prog 15 #[.int .i64 i, .int .u64 n, .slice A m c] w' fun E w2 => E = .returned (.agg (u8s d).toArray) ∧ Below w'.heap.size w' w2)
    (N0 : ∀ w' : World, Below w.heap.size w w' → Calls Tryd.prog 15 #[.int .i64 0, .int .u64 n, .slice A m c] w' fun E w2 => E = .returned (.agg (u8s d).toArray) ∧ Below w'.heap.size w' w2) :
    Calls Tryd.prog 7 #[.int .i64 i, .int .u64 n, .slice A m c] w fun E w' => E = .returned (.bool true) ∧ Below w.heap.size w w' := by
  have HK := Lib.hid hk
  have HW := Lib.hid hW
  have RR := Lib.hid R
  have CC := Lib.hid C
  have NA := Lib.hid N1
  have NB := Lib.hid N0
  have heq := eq_bytes d hd
  have hgd := Tryd.guard25
  clear hk hW R C N1 N0 hd
  rcases hi with h1 | ⟨h1, h2⟩
  all_goals
    go_enter Tryd.func7, Tryd.ntmps7
    go_wp2_with (first
      | (go_at_call 11; (with_reducible refine (RR.out w HK.out h0).mono ?_); rintro E w1 ⟨A1, c1, rfl, hb1⟩; have HB1 := Lib.hid hb1; clear hb1)
      | (go_at_call 13; (with_reducible refine (CC.out w1 (HK.out.below HB1.out h0) (Nat.lt_of_lt_of_le h0 HB1.out.size)).mono ?_); rintro E w2 ⟨A2, c2, rfl, hb2⟩; have HB2 := Lib.hid (HB1.out.trans (hb2.mono HB1.out.size)); clear hb2)
      | (go_at_call 15; (with_reducible refine (NA.out w2 HB2.out).mono ?_); rintro E w3 ⟨rfl, hb3⟩; have HB3 := Lib.hid (HB2.out.trans (hb3.mono HB2.out.size)); clear hb3)
      | (go_at_call 15; (with_reducible refine (NB.out w3 HB3.out).mono ?_); rintro E w4 ⟨rfl, hb4⟩; have HB4 := Lib.hid (HB3.out.trans (hb4.mono HB3.out.size)); clear hb4)
      | (go_at_call 8; refine (HW.out w4 (HK.out.below HB4.out h0) (Nat.lt_of_lt_of_le h0 HB4.out.size)).mono ?_; rintro E w5 ⟨rfl, hb5⟩; have HB5 := Lib.hid (HB4.out.trans (hb5.mono HB4.out.size)); clear hb5))
    go_ret
    exact ⟨rfl, HB5.out⟩

theorem others_big (i n : Int) (A : Option Addr) (m c : Nat) (w : World) (hW : Works) (hk : KIs w) (h0 : 0 < w.heap.size) (hm : 1024 < m) :
    Calls Tryd.prog 7 #[.int .i64 i, .int .u64 n, .slice A m c] w fun E w' => E = .returned (.bool true) ∧ Below w.heap.size w w' := by
  have HK := Lib.hid hk
  have HW := Lib.hid hW
  clear hk hW
  go_enter Tryd.func7, Tryd.ntmps7
  go_wp2_with (first
    | (go_at_call 8; refine (HW.out w HK.out h0).mono ?_; rintro E w4 ⟨rfl, hb4⟩))
  go_ret
  exact ⟨rfl, hb4⟩

theorem u64_of {a : Int} (h : (Lit.int .u64 a).wf = true) : ∃ t : Nat, a = (t : Int) := by
  have hb := bounds_u64 h
  exact ⟨a.toNat, by omega⟩

theorem tagOthers_all (W : World) (hk : KIs W) (h0 : 0 < W.heap.size) (i : Int) (_hi : (Lit.int .i64 i).wf = true) (a : Int) (ha : (Lit.int .u64 a).wf = true) (A : Option Addr) (m c : Nat) (h : ∃ bs, Rd (fun _ => True) W A m bs ∧ Sl A m c) :
    Calls Tryd.prog 7 #[.int .i64 i, .int .u64 a, .slice A m c] W fun E w' => E = .returned (.bool true) ∧ Below W.heap.size W w' := by
  obtain ⟨n, rfl⟩ := u64_of ha
  obtain ⟨bs, hr, hs⟩ := h
  by_cases hm : m ≤ 1024
  · by_cases hin : 1 ≤ i ∧ i ≤ 11
    · by_cases h8 : i ≤ 8
      · exact others_in i n A m c 32 W works_any hk h0 hm hin.1 hin.2 (.inl ⟨h8, rfl⟩) (fun w hk h0 => replica_len i 32 (repKey_len hin.1 hin.2) w hk h0) fun w hk h0 => client_len i 32 (cliKey_len hin.1 h8) w hk h0
      · exact others_in i n A m c 0 W works_any hk h0 hm hin.1 hin.2 (.inr ⟨by omega, rfl⟩) (fun w hk h0 => replica_len i 32 (repKey_len hin.1 hin.2) w hk h0) fun w hk h0 => client_len i 0 (by rw [cliKey_no (.inr (by omega))]; rfl) w hk h0
    · have ho : i < 1 ∨ 11 < i := by omega
      have e : numTag i n bs = numTag 0 n bs := by rw [numTag, repKey_no ho, numTag, repKey_no (.inl (by omega))]
      refine others_out (numTag 0 n bs) (numTag_length _ _ _) i n A m c W works_any hk h0 hm (by omega) (fun w hk h0 => replica_len i 0 (by rw [repKey_no ho]; rfl) w hk h0) (fun w hk h0 => client_len i 0 (by rw [cliKey_no (by omega)]; rfl) w hk h0) (fun w hb => ?_) fun w hb => ?_
      · rw [← e]
        exact numbered_any i n bs A m c w (hr.below hb (fun _ h _ => h)) hs (by omega) (hk.below hb h0) (Nat.lt_of_lt_of_le h0 hb.size)
      · exact numbered_any 0 n bs A m c w (hr.below hb (fun _ h _ => h)) hs (by omega) (hk.below hb h0) (Nat.lt_of_lt_of_le h0 hb.size)
  · exact others_big i n A m c W works_any hk h0 (by omega)
end Go.Proofs.YtfmmldpemdodkaaDoor
