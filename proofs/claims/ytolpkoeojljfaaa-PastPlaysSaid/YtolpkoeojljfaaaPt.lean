/-
  What is proved: the document's own past: Commit, Enter, Voted, New. Conditions as stated.
-/
import Derived.Test.YtolpkoeojljfaaaPs
namespace Go.Proofs.Ytolpkoeojljfaaa
open Go.RowKit
set_option maxRecDepth 100000

theorem RfF.drewN {W : World} {b g m c : Nat} {p : MPast} (h : RfF W b g m c p) (q : Nat) : RfF (W.drewN q) b g m c p := ⟨h.c0, h.c1, h.d0, h.d1, h.f0, h.f1, h.fg, h.len, h.big⟩
set_option maxHeartbeats 4000000 in
theorem rcommit_any {v W : World} {os : List Thing} {b : Nat} {p : MPast} {N : Nat} (HP : RfIs v W os b p) (hi : InvP p N) (hN : N < 9223372036854775807) (x k : Nat) {most : Int} (hmost : most ≤ 9223372036854775807) :
    Calls Try.prog 24 #[.pointer (some ⟨b, 0, none⟩), .int .u64 (x : Int), .int .u64 (k : Int), .int .i64 most] W fun E W' => E = .returned (.bool (cmt p x k most).1) ∧ RfIs v W' os b (cmt p x k most).2 := by
  obtain ⟨A, c, H⟩ := HP
  obtain ⟨g, m, rfl, hf⟩ := RfAt.facts (show RfAt W b A c p from H.hd) hi
  have HH : Hid (RfIs v W os b p) := Lib.hid ⟨_, c, H⟩
  have HO := Lib.hid fun q => ropen_any (hf.drewN q) x
  have hb := hf.big
  have ht := hi.top.2.2
  obtain ⟨n, hn⟩ : ∃ n, n = (lst p).2 := ⟨_, rfl⟩
  have HNn := Lib.hid hn
  have a1 := hf.c1
  have a2 := hf.d1
  have a3 := hf.fg
  rw [← hn] at a2 ht
  have hm0 : (0 : Int) ≤ (m : Int) := by omega
  have hm1 : (m : Int) < 1073741824 := by omega
  have hm2 : (m : Int) < (m : Int) + 1 := by omega
  have hm3 : ((m : Int)).toNat = m := by omega
  have hi1 : IntKind.i64.wrap ((m : Int) + 1 - 1) = (m : Int) := by rw [IntKind.wrap_i64]; omega
  have hi2 : IntKind.i64.wrap ((n : Int) + 1) = (n : Int) + 1 := by rw [IntKind.wrap_i64]; omega
  obtain ⟨hw1, hw2⟩ := wrap_conv n (by omega)
  rw [cmt_at hi, ← hn]
  by_cases h1 : (lst p).1 = p.great ∧ x = (lst p).1
  · have e : (decide ((lst p).1 = p.great) && decide (x = (lst p).1)) = true := by simp [h1.1, h1.2]
    rw [e] at HO
    by_cases h2 : k = n + 1
    · have k2 : ((k : Int) != (n : Int) + 1) = false := by simp; omega
      have k2' : ((k : Int) == (n : Int) + 1) = true := by simp; omega
      by_cases h3 : 0 ≤ most
      · have k3 : decide (most < 0) = false := decide_eq_false (by omega)
        have hw3 : IntKind.u64.wrap most = most := by rw [IntKind.wrap_u64]; omega
        by_cases h4 : (k : Int) ≤ most
        · have k4 : decide (most < (k : Int)) = false := decide_eq_false (by omega)
          rw [if_pos ⟨h1, h2, by omega⟩]
          have HB : Hid (∀ q, RfIs v ((W.drewN q).setCell ⟨g, m * 2 + 1, none⟩ (.int .i64 ((n : Int) + 1))) os b p.bump) := Lib.hid fun q => ⟨_, c, by have := rf_bump (H.drewN q) hi hf.len h1.1; rw [← hn] at this; exact this⟩
          clear H hf hi hN ht hb h1 e hn h2 h3 h4 hmost
          generalize (n : Int) = n' at *
          generalize (k : Int) = k' at *
          go_enter Try.func24, Try.ntmps24
          go_wp2_with fail
          go_quiet ((go_at_call 28; exact Calls.quiet_of (HO.out _)))
          go_wp2_with fail
          refine wp_region_quiet_tail 16 (by kernel_rfl) (by kernel_rfl) ?_
          simp only [List.take_succ_cons, List.take_zero, List.drop_succ_cons, List.drop_zero]
          repeat (first
            | go_big_quiet_skip
            | (go_big_quiet_want; go_big_quiet_op; go_big_quiet_on))
          refine wpQuiet_nil ?_
          go_wp2
          go_ret
          exact ⟨rfl, HB.out _⟩
        · have k4 : decide (most < (k : Int)) = true := decide_eq_true (by omega)
          rw [if_neg (by omega)]
          clear H hf hi hN ht hb h1 e hn h2 h3 h4 hmost
          generalize (n : Int) = n' at *
          generalize (k : Int) = k' at *
          go_enter Try.func24, Try.ntmps24
          go_wp2_with fail
          go_quiet ((go_at_call 28; exact Calls.quiet_of (HO.out _)))
          go_wp2_with fail
          go_ret
          exact ⟨rfl, HH.out.drewN _⟩
      · have k3 : decide (most < 0) = true := decide_eq_true (by omega)
        rw [if_neg (by omega)]
        clear H hf hi hN ht hb h1 e hn h2 h3 hmost
        generalize (n : Int) = n' at *
        generalize (k : Int) = k' at *
        go_enter Try.func24, Try.ntmps24
        go_wp2_with fail
        go_quiet ((go_at_call 28; exact Calls.quiet_of (HO.out _)))
        go_wp2_with fail
        go_ret
        exact ⟨rfl, HH.out.drewN _⟩
    · have k2 : ((k : Int) != (n : Int) + 1) = true := by simp; omega
      have k2' : ((k : Int) == (n : Int) + 1) = false := by simp; omega
      rw [if_neg (fun hh => h2 hh.2.1)]
      clear H hf hi hN ht hb h1 e hn h2 hmost
      generalize (n : Int) = n' at *
      generalize (k : Int) = k' at *
      go_enter Try.func24, Try.ntmps24
      go_wp2_with fail
      go_quiet ((go_at_call 28; exact Calls.quiet_of (HO.out _)))
      go_wp2_with fail
      go_ret
      exact ⟨rfl, HH.out.drewN _⟩
  · have e : (decide ((lst p).1 = p.great) && decide (x = (lst p).1)) = false := by
      rw [Bool.eq_false_iff]; intro hh; simp at hh; exact h1 hh
    rw [e] at HO
    rw [if_neg (fun hh => h1 hh.1)]
    clear H hf hi hN ht hb h1 e hn hmost
    generalize (n : Int) = n' at *
    go_enter Try.func24, Try.ntmps24
    go_wp2_with fail
    go_quiet ((go_at_call 28; exact Calls.quiet_of (HO.out _)))
    go_wp2_with fail
    go_ret
    exact ⟨rfl, HH.out.drewN _⟩
set_option maxHeartbeats 4000000 in
theorem renter_any {v W : World} {os : List Thing} {b : Nat} {p : MPast} {N : Nat} (HP : RfIs v W os b p) (hi : InvP p N) (x : Nat) (long : Int) :
    Calls Try.prog 22 #[.pointer (some ⟨b, 0, none⟩), .int .u64 (x : Int), .int .i64 long] W fun E W' => E = .returned (.bool (ent p x long).1) ∧ RfIs v W' os b (ent p x long).2 := by
  obtain ⟨A, c, H⟩ := HP
  obtain ⟨g, m, rfl, hf⟩ := RfAt.facts (show RfAt W b A c p from H.hd) hi
  have HH : Hid (RfIs v W os b p) := Lib.hid ⟨_, c, H⟩
  have HL := Lib.hid (rlast_any hf)
  have c0 := hf.c0
  have c1 := hf.c1
  rw [ent_at hi]
  have hlen := hi.ok.len
  have hm := hf.len
  obtain ⟨l, hl⟩ : ∃ l, l = (lst p).1 := ⟨_, rfl⟩
  rw [← hl] at HL ⊢
  by_cases h1 : l < x
  · have k1 : decide (x ≤ l) = false := decide_eq_false (by omega)
    by_cases h2 : p.great ≤ x
    · have k2 : decide (x < p.great) = false := decide_eq_false (by omega)
      by_cases h3 : x < 1073741824
      · have k3 : decide (1073741824 ≤ (x : Int)) = false := decide_eq_false (by omega)
        by_cases h4 : 0 ≤ long
        · have k4 : decide (long < 0) = false := decide_eq_false (by omega)
          rw [if_pos ⟨⟨⟨h1, h2⟩, h3⟩, h4⟩]
          obtain ⟨n, rfl⟩ : ∃ n : Nat, long = (n : Int) := ⟨long.toNat, by omega⟩
          rw [Int.toNat_natCast]
          have HB : Hid (∀ q, ∃ A' c' W', (Builtin.append_ #[34, 34] 34 #[.slice (some ⟨g, 0, none⟩) (m + 1) c, .slice (some ⟨W.heap.size, 0, none⟩) 1 1]).run Try.prog ((W.drewN q).alloc (.cells #[.int .u64 (x : Int), .int .i64 (n : Int)] 42)) = .ok (.slice A' (m + 1 + 1) c') W' ∧ W'.frozen? ⟨b, 1, none⟩ = false ∧ (∃ y, W'.cell? ⟨b, 1, none⟩ = some y) ∧
              RfIs v ((W'.setCell ⟨b, 1, none⟩ (.slice A' (m + 1 + 1) c')).setCell ⟨b, 0, none⟩ (.int .u64 (x : Int))) os b (p.add x n) ∧ (W'.setCell ⟨b, 1, none⟩ (.slice A' (m + 1 + 1) c')).frozen? ⟨b, 0, none⟩ = false ∧ ∃ y, (W'.setCell ⟨b, 1, none⟩ (.slice A' (m + 1 + 1) c')).cell? ⟨b, 0, none⟩ = some y) := Lib.hid fun q => by
            have h9 := rf_row ((H.drewN q).below ((Below.refl _ _).alloc (Nat.le_refl _) (.cells #[.int .u64 (x : Int), .int .i64 (n : Int)] 42))) hlen 34 (W.drewN q).heap.size x n (heap_alloc_new (W.drewN q) _) x
            rw [← hm] at h9
            obtain ⟨A', c', W', r1, r2, r3, r4, r5, r6⟩ := h9
            exact ⟨A', c', W', r1, r2, r3, ⟨A', c', r4⟩, r5, r6⟩
          clear H hf hi h1 h2 h3 h4 hl hlen hm
          generalize (n : Int) = n' at *
          go_enter Try.func22, Try.ntmps22
          go_wp2_with (first
            | (go_at_call 27; refine HL.out.mono ?_; rintro E w1 ⟨rfl, nq, rfl⟩; obtain ⟨A', c', w5, r1, r2, ⟨y1, r3⟩, r4, r5, ⟨y2, r6⟩⟩ := HB.out nq; have R4 := Lib.hid r4; clear r4)
            | ((with_reducible refine wpList_append_one ?_ (.tmp 31) (.tmp 35) 34 ?_ _ _ ?_ ?_ _ w5 r1 ?_); (· rfl); (· rfl); (· rfl); (· rfl)))
          go_ret
          exact ⟨rfl, R4.out⟩
        · have k4 : decide (long < 0) = true := decide_eq_true (by omega)
          rw [if_neg (by omega)]
          clear H hf hi h1 h2 h3 h4 hl hlen hm
          go_enter Try.func22, Try.ntmps22
          go_wp2_with (go_at_call 27; refine HL.out.mono ?_; rintro E w1 ⟨rfl, nq, rfl⟩)
          go_ret
          exact ⟨rfl, HH.out.drewN _⟩
      · have k3 : decide (1073741824 ≤ (x : Int)) = true := decide_eq_true (by omega)
        rw [if_neg (by omega)]
        clear H hf hi h1 h2 h3 hl hlen hm
        go_enter Try.func22, Try.ntmps22
        go_wp2_with (go_at_call 27; refine HL.out.mono ?_; rintro E w1 ⟨rfl, nq, rfl⟩)
        go_ret
        exact ⟨rfl, HH.out.drewN _⟩
    · have k2 : decide (x < p.great) = true := decide_eq_true (by omega)
      rw [if_neg (by omega)]
      clear H hf hi h1 h2 hl hlen hm
      go_enter Try.func22, Try.ntmps22
      go_wp2_with (go_at_call 27; refine HL.out.mono ?_; rintro E w1 ⟨rfl, nq, rfl⟩)
      go_ret
      exact ⟨rfl, HH.out.drewN _⟩
  · have k1 : decide (x ≤ l) = true := decide_eq_true (by omega)
    rw [if_neg (by omega)]
    clear H hf hi h1 hl hlen hm
    go_enter Try.func22, Try.ntmps22
    go_wp2_with (go_at_call 27; refine HL.out.mono ?_; rintro E w1 ⟨rfl, nq, rfl⟩)
    go_ret
    exact ⟨rfl, HH.out.drewN _⟩
end Go.Proofs.Ytolpkoeojljfaaa
