/-
  What is proved: the chapter's example (works). Conditions as stated.
-/
import Derived.Test.YtfegffdhlkhjbaaBo
import Derived.Lib.SlBytesConst
namespace Go.Proofs.Ytfegffdhlkhjbaa
open Go.RowKit
set_option maxRecDepth 100000

section
variable {w wr : World} {d T : Nat} {s : Dk} {L : List (Nat × Obj)} {x : Int}
theorem new_read {z : Int} (hz : 0 ≤ z ∧ z < 32768) : Dk.new.read z = (zeros, 0) := by rw [read_on rfl hz]; rfl
/-- Format, on a new disk. -/
theorem book_format (h : Dat w d T Dk.new L wr) (hT : T < 10000000) (E : Int) (hx : 0 ≤ x ∧ x + 20 ≤ E) (hE : E ≤ 32768) :
    Calls Try.prog 10 #[.pointer (some ⟨d, 0, none⟩), .int .i64 x] wr fun E0 w' => E0 = .returned (.int .i64 0) ∧ ∃ s', Hid (Dat w d (T + 20) s' L w' ∧ Calm s' ∧ s'.loose = [] ∧ BookIs s' x E 0 0 [] 0 2 2 ∧ ∀ z, 0 ≤ z ∧ z < 32768 → ¬ (x ≤ z ∧ z < x + 20) → s'.read z = (zeros, 0)) := by
  refine bformat_any ((cell_format h new_calm hT (x := x) (by omega)).mono fun E0 w' ⟨h1, s', H⟩ => ⟨h1, s', Lib.hid ⟨H.out.1, H.out.2.1, H.out.2.2.1, ?_, fun z hz hn => ?_⟩⟩) fun E0 w' ⟨h1, _⟩ => ⟨0, h1⟩
  · exact book_new hx H.out.2.2.2.1 fun z h1 h2 => by rw [H.out.2.2.2.2 z (by omega), if_neg (by omega), if_neg (by omega)]; exact new_read (by omega)
  · rw [H.out.2.2.2.2 z hz, if_neg (by omega), if_neg (by omega)]
    exact new_read hz
end
theorem Opened.book {w W : World} {d T g life n c : Nat} {s : Dk} {L LF : List (Nat × Obj)} {y stop : Int} {q : List (Nat × List UInt8)} {A : Option Addr} (h : Opened w d T s L g life y stop (recsOf q) A n c LF W) : Dat w d T s ((g, bookOf d life (q.length : Int) y stop false) :: (LF ++ L)) W := by
  have := h.dat
  rwa [recsOf_length] at this
theorem Opened.ne {w W : World} {d T g life n c : Nat} {s : Dk} {L LF : List (Nat × Obj)} {y stop : Int} {rs : List (List UInt8)} {A : Option Addr} (h : Opened w d T s L g life y stop rs A n c LF W) : ∀ p ∈ LF ++ L, p.1 ≠ g := fun p hp => (List.mem_append.1 hp).elim (fun hp => (h.new p hp).1) (fun hp => h.old p hp)
def Works : Prop := ∀ w, Calls Try.prog 8 #[] w fun E w' => E = .returned (.bool true) ∧ Below w.heap.size w w'

set_option maxHeartbeats 8000000 in
theorem works_any : Works := by
  intro w
  go_enter Try.func8, Try.ntmps8
  go_wp2_with fail
  refine (dat_new (Below.refl _ w)).mono ?_
  rintro E w1 ⟨d, rfl, h1, -⟩
  have D1 := Lib.hid h1
  clear h1
  go_wp2_with fail
  refine (book_format D1.out (by omega) (x := 0) 40 (by omega) (by omega)).mono ?_
  rintro E w2 ⟨rfl, s2, H2⟩
  clear D1
  go_wp2_with fail
  refine (book_open H2.out.1 H2.out.2.1 (by omega) H2.out.2.2.2.1 40 (by omega) (by omega) (by omega) (by omega) (by omega) (by omega)).mono ?_
  rintro E w3 ⟨g, A3, n3, c3, rfl, s3, LF3, H3⟩
  obtain rfl : n3 = 0 := H3.out.1.row.1.symm
  clear H2
  have hcv := fun (w : World) (C : Array Value) (n c : Nat) => Lib.run_convert_bytes_const (P := Try.prog) w 29 5 C n c Try.underlying29 Try.underlying5
  go_wp2_with fail
  have hbel : Below w3.heap.size w3 (w3.alloc (.cells #[.int .u8 97, .int .u8 98] 5 (2, 3))) := (Below.refl _ _).alloc (Nat.le_refl _) _
  have D4 := Lib.hid (H3.out.1.book.next hbel)
  have R4 : Hid (Oct.Rd (w3.alloc (.cells #[.int .u8 97, .int .u8 98] 5 (2, 3))) (some ⟨w3.heap.size, 0, none⟩) 2 [97, 98]) := Lib.hid ⟨rfl, fun _ => ⟨w3.heap.size, 0, rfl, by simp, fun j u hu => by
    rw [cell_of_row _ w3.heap.size (0 + j) #[.int .u8 97, .int .u8 98] 5 (2, 3) (heap_alloc_new w3 _)]
    match j, hu with
    | 0, hu => simp at hu; subst hu; rfl
    | 1, hu => simp at hu; subst hu; rfl⟩⟩
  clear hbel
  generalize w3.alloc (.cells #[.int .u8 97, .int .u8 98] 5 (2, 3)) = w4 at D4 R4 ⊢
  refine (book_append (x := 0) (E := 40) (q := []) D4.out H3.out.1.ne H3.out.2.1 (by omega) H3.out.2.2.2.1 (by omega) (by omega) (by omega) (by simp) _ 2 2 [97, 98] R4.out ⟨(fun h => by cases h), Nat.le_refl _, by omega⟩ (by omega) (by decide)).mono ?_
  rintro E w5 ⟨rfl, s5, H5⟩
  clear D4 R4
  go_wp2_with fail
  refine (book_open H5.out.1 H5.out.2.1 (by decide) H5.out.2.2.2.1 40 (by omega) (by omega) (by omega) (by omega) (by omega) (by omega)).mono ?_
  rintro E w6 ⟨g6, A6, n6, c6, rfl, s6, LF6, H6⟩
  obtain rfl : n6 = 1 := H6.out.1.row.1.symm
  obtain ⟨b6, o6, Aj, cj, rfl, -, -, hc6, hr6, -⟩ := H6.out.1.row.at (j := 0) (r := [97, 98]) rfl
  have hrun := run_str cj (rd_rd hr6)
  rw [show Oct.str [97, 98] = ⟨#[97, 98]⟩ from rfl] at hrun
  have G6 : Hid (Calls Try.prog 17 #[.pointer (some ⟨g6, 0, none⟩)] w6 fun E w' => E = .returned (.int .i64 1) ∧ w6 = w') := Lib.hid (len_b (H6.out.1.book.get (q := g6) (.head _)))
  have G3 : Hid (Calls Try.prog 17 #[.pointer (some ⟨g, 0, none⟩)] w6 fun E w' => E = .returned (.int .i64 1) ∧ w6 = w') := Lib.hid (len_b (H6.out.1.book.get (q := g) (.tail _ (List.mem_append_right _ (.head _)))))
  have B6 := Lib.hid H6.out.1.book.below
  have hsl := H6.out.1.sl.2
  clear H5 H3 H6 hr6
  simp only [List.length_cons, List.length_nil, Nat.zero_add, Nat.add_zero] at hc6 hrun
  go_wp2_with fail
  refine G6.out.mono ?_
  rintro E w7 ⟨rfl, rfl⟩
  go_wp2_with fail
  refine G3.out.mono ?_
  rintro E w8 ⟨rfl, rfl⟩
  go_wp2_with fail
  go_ret
  exact ⟨rfl, B6.out⟩
end Go.Proofs.Ytfegffdhlkhjbaa
