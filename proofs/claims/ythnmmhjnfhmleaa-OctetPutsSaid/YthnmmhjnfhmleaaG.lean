/-
  What is proved: the chapter's examples hold. No condition.
-/
import Derived.Test.YthnmmhjnfhmleaaF
namespace Go.Proofs.Ythnmmhjnfhmleaa
open Go.RowKit

def Abs : List UInt8 := [0, 2, 97, 98]

theorem Rd.nil (w : World) : Rd w none 0 [] := ⟨rfl, fun h => absurd h (by omega)⟩

theorem text_ab (w : World) :
    Calls Try.prog 10 #[.slice none 0 0, .string { data := #[97, 98] }] w fun e w' => ∃ A' c', e = .returned (.tuple #[.slice A' 4 c', .int .i64 0]) ∧
      Hid (Rd w' A' 4 Abs ∧ Sl A' 4 c') ∧ Below w.heap.size w w' :=
  (text_ok none 0 0 [] { data := #[97, 98] } w (Rd.nil w) (by omega) (by decide)).mono fun _ _ ⟨A', c', he, ho, hs, hb⟩ => ⟨A', c', he, ⟨Rd.of_own ho, hs⟩, hb⟩

theorem word_258 (w : World) :
    Calls Try.prog 12 #[.slice none 0 0, .int .u64 258] w fun e w' => ∃ A' c', e = .returned (.slice A' 8 c') ∧
      (convert 22 9 (.slice A' 8 c')).run Try.prog w' = .ok (.string { data := #[0, 0, 0, 0, 0, 0, 1, 2] }) w' ∧ Below w.heap.size w w' :=
  (word_any none 0 0 [] 258 w (Rd.nil w) (by omega)).mono fun _ _ ⟨g, c', he, ho, hb⟩ => ⟨_, c', he, run_string (Rd.of_own ho), hb⟩

theorem half_258 (b : Nat) (w : World) (h : w.cell? ⟨b, 0, none⟩ = some (.int .u8 7)) (hb : b < w.heap.size) :
    Calls Try.prog 14 #[.slice (some ⟨b, 0, none⟩) 1 1, .int .u16 258] w fun e w' => ∃ A' c', e = .returned (.slice A' 3 c') ∧
      (convert 22 9 (.slice A' 3 c')).run Try.prog w' = .ok (.string { data := #[7, 1, 2] }) w' ∧ Below w.heap.size w w' :=
  (half_any (some ⟨b, 0, none⟩) 1 1 [7] 258 w ⟨rfl, fun _ => ⟨b, 0, rfl, hb, fun j u hu => by
    match j, hu with
    | 0, hu => simp at hu; subst hu; exact h⟩⟩ (by omega)).mono fun _ _ ⟨g, c', he, ho, hb⟩ => ⟨_, c', he, run_string (Rd.of_own ho), hb⟩

theorem tsz_abs : tsz Abs 1 = -1 := by decide +kernel
theorem out_abs : tkOut Abs false (-1) = [] := by decide +kernel
theorem rem_abs : tkRem Abs false (-1) = Abs := by decide +kernel
theorem fit_abs : fits Abs false (-1) = false := by decide +kernel

theorem text_1 {lo : Nat} (g : Nat) (w : World) (h : CutAt w lo g Abs false) :
    Calls Try.prog 23 #[.pointer (some ⟨g, 0, none⟩), .int .i64 1] w fun e w' => e = .returned (.string { data := #[] }) ∧ CutAt w' lo g Abs true ∧ w.grownBy w' (some g) := by
  have := text_cut g Abs false 1 w h
  rw [tsz_abs, out_abs, rem_abs, fit_abs] at this
  exact this

theorem left_abs {lo : Nat} (g : Nat) (w : World) (h : CutAt w lo g Abs true) :
    Calls Try.prog 27 #[.pointer (some ⟨g, 0, none⟩)] w fun e w' => e = .returned (.int .i64 4) ∧ ∃ q, w' = w.drewN q := left_any g Abs true w h

theorem new7 (w : World) : (w.alloc (.cells #[.int .u8 7] 5)).cell? ⟨w.heap.size, 0, none⟩ = some (.int .u8 7) := cell_of_row _ _ 0 _ 5 (0, 0) (heap_alloc_new w _)

set_option maxHeartbeats 400000 in
theorem works_any (w : World) : Calls Try.prog 9 #[] w fun e w' => e = .returned (.bool true) ∧ Below w.heap.size w w' := by
  go_enter Try.func9, Try.ntmps9
  go_wp2_with (first
    | (go_at_call 10; go_must (refine (text_ab _).mono ?_); rintro e w1 ⟨A1, c1, rfl, h1, hb1⟩)
    | (go_at_call 16; go_must (refine (new_any A1 4 c1 Abs w1 h1.out.1 h1.out.2 (by omega)).mono ?_); rintro e w2 ⟨g, rfl, hg, hc2, hb2⟩)
    | (go_at_call 23; go_must (refine (text_1 g w2 hc2).mono ?_); rintro e w3 ⟨rfl, hc3, hg3⟩; have hb13 := hb2.grown hg3 hb2.size (fun k hk => by cases hk; exact hg))
    | (go_at_call 12; go_must (refine (word_258 w3).mono ?_); rintro e w4 ⟨A4, c4, rfl, hs4, hb4⟩; have hb14 := hb13.trans (hb4.mono hb13.size); have hs1 : (convert 22 9 (.slice A1 4 c1)).run Try.prog w4 = .ok (.string { data := #[0, 2, 97, 98] }) w4 := run_string (h1.out.1.below hb14); have hc4 := hc3.below hb4)
    | (go_at_call 28; go_must (refine (ok_any g Abs true w4 hc4).mono ?_); rintro e w5 ⟨rfl, rfl⟩)
    | (go_at_call 27; go_must (refine (left_abs g w4 hc4).mono ?_); rintro e w6 ⟨rfl, q, rfl⟩)
    | (go_at_call 14; go_must (refine (half_258 w4.heap.size ((w4.drewN q).alloc (.cells #[.int .u8 7] 5)) (new7 (w4.drewN q)) (by simp)).mono ?_); rintro e w7 ⟨A7, c7, rfl, hs7, hb7⟩))
  go_ret
  refine ⟨rfl, ?_⟩
  have h4 : Below w.heap.size w w4 := hb1.trans (hb14.mono hb1.size)
  have h5 : Below w.heap.size w (w4.drewN q) := ⟨h4.os, h4.tape, h4.output, h4.size, h4.block⟩
  have h6 := h5.alloc h5.size (.cells #[.int .u8 7] 5)
  exact h6.trans (hb7.mono h6.size)
end Go.Proofs.Ythnmmhjnfhmleaa
