/-
  What is proved: the chapter's example; a step of what came in. Conditions as stated.
-/
import Derived.Test.YtolpkoeojljfaaaPh
namespace Go.Proofs.Ytolpkoeojljfaaa
open Go.RowKit
set_option maxRecDepth 100000

theorem eqs {a b c d : Bool × MPast} {X : Bool} {p : MPast} (_ : a = b) (_ : c = d) (h : a = (X, p)) : a.1 = X ∧ a.2 = p := by rw [h]; exact ⟨rfl, rfl⟩
theorem commit_lit {v W : World} {os : List Thing} {b : Nat} {p q : MPast} {X : Bool} (x k : Nat) (most : Int) (HP : PaIs v W os b p) (hx : x < 18446744073709551616) (hm : most ≤ 9223372036854775807) (h : cmt p x k most = (X, q)) {x' k' : Int} (ex : (x : Int) = x') (ek : (k : Int) = k') :
    Calls Try.prog 16 #[.pointer (some ⟨b, 0, none⟩), .int .u64 x', .int .u64 k', .int .i64 most] W fun E W' => E = .returned (.bool X) ∧ PaIs v W' os b q := by
  subst ex ek
  have := Commit_any HP (k := k) hx hm
  rw [h] at this
  exact this
theorem enter_lit {v W : World} {os : List Thing} {b : Nat} {p q : MPast} {X : Bool} (x : Nat) (l : Int) (HP : PaIs v W os b p) (hx : x < 18446744073709551616) (hm : l ≤ 9223372036854775807) (h : ent p x l = (X, q)) {x' : Int} (ex : (x : Int) = x') :
    Calls Try.prog 18 #[.pointer (some ⟨b, 0, none⟩), .int .u64 x', .int .i64 l] W fun E W' => E = .returned (.bool X) ∧ PaIs v W' os b q := by
  subst ex
  have := Enter_any HP hx hm
  rw [h] at this
  exact this
theorem Change_any {v W : World} {os : List Thing} {b : Nat} {p : MPast} (HP : PaIs v W os b p) {x : Nat} (hx : x < 18446744073709551616) :
    Calls Try.prog 17 #[.pointer (some ⟨b, 0, none⟩), .int .u64 (x : Int)] W fun E W' => E = .returned (.bool (chg p x).1) ∧ PaIs v W' os b (chg p x).2 := by
  obtain ⟨rv, mb, H⟩ := HP
  exact (change_any H hx).mono fun E W' h => ⟨h.1, rv, mb, h.2⟩
theorem change_lit {v W : World} {os : List Thing} {b : Nat} {p q : MPast} {X : Bool} (x : Nat) (HP : PaIs v W os b p) (hx : x < 18446744073709551616) (h : chg p x = (X, q)) {x' : Int} (ex : (x : Int) = x') :
    Calls Try.prog 17 #[.pointer (some ⟨b, 0, none⟩), .int .u64 x'] W fun E W' => E = .returned (.bool X) ∧ PaIs v W' os b q := by
  subst ex
  have := Change_any HP hx
  rw [h] at this
  exact this
theorem voted_lit {v W : World} {os : List Thing} {b : Nat} {p : MPast} {n : Int} {X : Bool} (x : Nat) (HP : PaIs v W os b p) (hx : x < 18446744073709551616) (h : (((vot p.L x).getD 0 : Nat) : Int) = n ∧ (vot p.L x).isSome = X) {x' : Int} (ex : (x : Int) = x') :
    Calls Try.prog 13 #[.pointer (some ⟨b, 0, none⟩), .int .u64 x'] W fun E W' => E = .returned (.tuple #[.int .i64 n, .bool X]) ∧ W = W' := by
  subst ex
  obtain ⟨rv, mb, H⟩ := HP
  have := voted_any H.hd hx
  rw [h.1, h.2] at this
  exact this
theorem great_lit {v W : World} {os : List Thing} {b : Nat} {p : MPast} {n : Int} (HP : PaIs v W os b p) (h : (p.great : Int) = n) :
    Calls Try.prog 12 #[.pointer (some ⟨b, 0, none⟩)] W fun E W' => E = .returned (.int .u64 n) ∧ W = W' := by
  subst h
  obtain ⟨rv, mb, H⟩ := HP
  exact great_any H.hd
theorem entered_len {v W : World} {os : List Thing} {b : Nat} {p : MPast} {n : Nat} (HP : PaIs v W os b p) (h : p.L.length = n) :
    Calls Try.prog 15 #[.pointer (some ⟨b, 0, none⟩)] W fun E W' => ∃ A c, E = .returned (.slice A n c) ∧ Fr v W' os := by
  subst h
  exact (entered_any HP).mono fun E W' ⟨A, c, e, rv, mb, h⟩ => ⟨A, c, e, h.pop.pop⟩
set_option maxHeartbeats 2000000 in
theorem works_any {v W : World} {os : List Thing} (H : Fr v W os) : Calls Try.prog 7 #[] W fun E W' => E = .returned (.bool true) ∧ Fr v W' os := by
  have HN := Lib.hid (new_any H)
  clear H
  go_enter Try.func7, Try.ntmps7
  go_wp2_with fail
  refine HN.out.mono ?_
  rintro E w1 ⟨b, rfl, h⟩
  have H1 := Lib.hid h
  clear h HN
  go_wp2_with fail
  refine (commit_lit 0 1 1 H1.out (by decide) (by decide) (show _ = (true, ⟨[(0, 1)], 0⟩) by kernel_rfl) rfl rfl).mono ?_
  rintro E w2 ⟨rfl, h⟩
  have H2 := Lib.hid h
  clear h H1
  go_wp2_with fail
  refine (change_lit 2 H2.out (by decide) (show _ = (true, ⟨[(0, 1)], 2⟩) by kernel_rfl) rfl).mono ?_
  rintro E w3 ⟨rfl, h⟩
  have H3 := Lib.hid h
  clear h H2
  go_wp2_with fail
  refine (commit_lit 0 2 5 H3.out (by decide) (by decide) (show _ = (false, ⟨[(0, 1)], 2⟩) by kernel_rfl) rfl rfl).mono ?_
  rintro E w4 ⟨rfl, h⟩
  have H4 := Lib.hid h
  clear h H3
  go_wp2_with fail
  refine (enter_lit 1 0 H4.out (by decide) (by decide) (show _ = (false, ⟨[(0, 1)], 2⟩) by kernel_rfl) rfl).mono ?_
  rintro E w5 ⟨rfl, h⟩
  have H5 := Lib.hid h
  clear h H4
  go_wp2_with fail
  refine (enter_lit 2 1 H5.out (by decide) (by decide) (show _ = (true, ⟨[(0, 1), (2, 1)], 2⟩) by kernel_rfl) rfl).mono ?_
  rintro E w6 ⟨rfl, h⟩
  have H6 := Lib.hid h
  clear h H5
  go_wp2_with fail
  refine (commit_lit 2 2 2 H6.out (by decide) (by decide) (show _ = (true, ⟨[(0, 1), (2, 2)], 2⟩) by kernel_rfl) rfl rfl).mono ?_
  rintro E w7 ⟨rfl, h⟩
  have H7 := Lib.hid h
  clear h H6
  go_wp2_with fail
  refine (voted_lit 2 H7.out (by decide) (show _ = (2 : Int) ∧ _ = true by decide +kernel) rfl).mono ?_
  rintro E w8 ⟨rfl, rfl⟩
  go_wp2_with fail
  refine (voted_lit 1 H7.out (by decide) (show _ = (0 : Int) ∧ _ = false by decide +kernel) rfl).mono ?_
  rintro E w8 ⟨rfl, rfl⟩
  go_wp2_with fail
  refine (great_lit H7.out (show _ = (2 : Int) by kernel_rfl)).mono ?_
  rintro E w8 ⟨rfl, rfl⟩
  go_wp2_with fail
  refine (entered_len H7.out (show _ = 2 by kernel_rfl)).mono ?_
  rintro E w8 ⟨A, c, rfl, h⟩
  have H8 := Lib.hid h
  clear h H7
  go_wp2_with fail
  go_ret
  exact ⟨rfl, H8.out⟩
end Go.Proofs.Ytolpkoeojljfaaa
