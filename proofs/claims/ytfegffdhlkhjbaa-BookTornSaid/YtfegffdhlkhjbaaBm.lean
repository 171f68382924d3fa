/-
  What is proved: what Append does; whether two rows of records are the same. Conditions as stated.
-/
import Derived.Test.YtfegffdhlkhjbaaBl
namespace Go.Proofs.Ytfegffdhlkhjbaa
open Go.RowKit
set_option maxRecDepth 100000

theorem append_many {w : World} {g d M : Nat} {c y stop : Int} {failed : Bool} (_h : w.heap[g]? = some (bookOf d M c y stop failed)) (A : Option Addr) (n cc : Nat) (hn : 4096 < n) : Calls Try.prog 14 #[.pointer (some ⟨g, 0, none⟩), .slice A n cc] w fun E w' => E = .returned (.int .i64 6) ∧ w = w' := by
  go_enter Try.func14, Try.ntmps14
  go_wp2
  go_ret
  exact ⟨rfl, rfl⟩
theorem append_failed {w : World} {g d M : Nat} {c y stop : Int} (h : w.heap[g]? = some (bookOf d M c y stop true)) (A : Option Addr) (n cc : Nat) (hn : n ≤ 4096) : Calls Try.prog 14 #[.pointer (some ⟨g, 0, none⟩), .slice A n cc] w fun E w' => E = .returned (.int .i64 8) ∧ w = w' := by
  obtain ⟨-, -, -, -, -, k5⟩ := bookOf_cells h
  clear h
  go_enter Try.func14, Try.ntmps14
  go_wp2
  go_ret
  exact ⟨rfl, rfl⟩
theorem append_full {w : World} {g d M : Nat} {c y stop : Int} (h : w.heap[g]? = some (bookOf d M c y stop false)) (A : Option Addr) (n cc : Nat) (hn : n ≤ 4096) (hy : 0 ≤ y ∧ y ≤ 32768) (hs : 0 ≤ stop ∧ stop ≤ 32768) (hf : stop - y < pagesN n) : Calls Try.prog 14 #[.pointer (some ⟨g, 0, none⟩), .slice A n cc] w fun E w' => E = .returned (.int .i64 7) ∧ ∃ q, w' = w.drewN q := by
  obtain ⟨-, -, -, -, -, k5⟩ := bookOf_cells h
  have HL := Lib.hid (left_b h hy hs)
  have HP := Lib.hid (fun wx => pagesOf_any (w := wx) n (by omega))
  obtain ⟨pn, hpn⟩ : ∃ pn, pn = pagesN n := ⟨_, rfl⟩
  rw [← hpn] at HP hf
  clear h hpn
  go_enter Try.func14, Try.ntmps14
  go_wp2_with (first
    | (go_at_call 30; refine (HP.out _).mono ?_; rintro E w1 ⟨rfl, rfl⟩)
    | (go_at_call 31; refine HL.out.mono ?_; rintro E w1 ⟨rfl, q, rfl⟩))
  go_ret
  exact ⟨rfl, q, rfl⟩

set_option maxHeartbeats 4000000 in
theorem append_go {w wr : World} {d T g M c : Nat} {s s' : Dk} {L : List (Nat × Obj)} {y stop e : Int} (h : Dat w d T s ((g, bookOf d M (c : Int) y stop false) :: L) wr) (hne : ∀ x ∈ L, x.1 ≠ g) (hT : T < 10000000) (A : Option Addr) (n cc : Nat) (r : List UInt8) (hr : Oct.Rd wr A n r) (hs : Oct.Sl A n cc) (hn : n ≤ 4096)
    (h1 : 0 ≤ y) (h2 : y + pagesN n ≤ stop) (h3 : stop ≤ 32768) (hc : c + 1 < 1000000000) (he : appendD s y M (c + 1) r = (s', e)) :
    Calls Try.prog 14 #[.pointer (some ⟨g, 0, none⟩), .slice A n cc] wr fun E w' => E = .returned (.int .i64 e) ∧
      Hid ((e ≠ 0 ∧ Dat w d (T + pagesN n) s' ((g, bookOf d M (c : Int) y stop true) :: L) w') ∨ (e = 0 ∧ Dat w d (T + pagesN n) s' ((g, bookOf d M ((c + 1 : Nat) : Int) (y + pagesN n) stop false) :: L) w')) := by
  obtain ⟨-, -, -, -, -, k5⟩ := bookOf_cells (h.get (q := g) (.head _))
  have HD := Lib.hid h
  have HNE := Lib.hid hne
  have HP := Lib.hid (fun wx => pagesOf_any (w := wx) n (by omega))
  have hp38 := pagesN_le n hn
  have HPR : Hid (pagesN n = pagesN r.length) := Lib.hid (by rw [hr.1])
  obtain ⟨pn, hpn⟩ : ∃ pn, pn = pagesN n := ⟨_, rfl⟩
  rw [← hpn] at HP h2 hp38 HPR ⊢
  have HRD := Lib.hid hr
  have HS := Lib.hid hs
  have HE := Lib.hid he
  clear h hne hr hs he hpn
  have HL : Hid (Calls Try.prog 31 #[.pointer (some ⟨g, 0, none⟩)] wr fun E w' => E = .returned (.int .i64 (stop - y)) ∧ ∃ q, w' = wr.drewN q) := Lib.hid (left_b (HD.out.get (q := g) (.head _)) (by omega) (by omega))
  go_enter Try.func14, Try.ntmps14
  go_wp2_with (first
    | (go_at_call 30; refine (HP.out _).mono ?_; rintro E w1 ⟨rfl, rfl⟩)
    | (go_at_call 31; refine HL.out.mono ?_; rintro E w1 ⟨rfl, q, rfl⟩)
    | fail)
  have D1 := Lib.hid (HD.out.next (w' := wr.drewN q) ⟨rfl, rfl, rfl, Nat.le_refl _, fun _ _ => rfl⟩)
  have R1 := Lib.hid (HRD.out.below (w' := wr.drewN q) ⟨rfl, rfl, rfl, Nat.le_refl _, fun _ _ => rfl⟩)
  clear HD HRD HL k5
  generalize wr.drewN q = w1 at D1 R1 ⊢
  have HW := Lib.hid (write_b D1.out HNE.out hT A n cc r R1.out HS.out hn pn HPR.out h1 (by omega) hc)
  rw [HE.out] at HW
  refine HW.out.mono ?_
  rintro E w2 ⟨rfl, H2⟩
  clear HW D1 R1
  have g2 := H2.out.get (q := g) (.head _)
  by_cases he : e = 0
  · subst he
    have HT := Lib.hid (turn_b g2 (pn : Int) (by omega) (by omega) (by omega))
    clear g2
    go_wp2_with fail
    refine HT.out.mono ?_
    rintro E w3 ⟨rfl, h3, hg3⟩
    have D3 := Lib.hid (H2.out.upd HNE.out h3 hg3)
    clear h3 hg3 HT H2
    go_wp2_with fail
    go_ret
    exact ⟨rfl, D3⟩
  · have f5 := bookOf_free g2 5
    have k5 := (bookOf_cells g2).2.2.2.2.2
    have G2 := Lib.hid g2
    have HE0 := Lib.hid he
    clear g2
    go_wp2_with fail
    go_ret
    exact ⟨rfl, Lib.hid (.inl ⟨HE0.out, H2.out.upd HNE.out (bookOf_fail G2.out true) (Oct.grownBy_set _ _ _ _)⟩)⟩
end Go.Proofs.Ytfegffdhlkhjbaa
