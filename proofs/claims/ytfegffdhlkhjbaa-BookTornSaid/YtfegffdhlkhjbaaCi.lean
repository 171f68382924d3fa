/-
  What is proved: what Format, greatest, renew do. Conditions as stated.
-/
import Derived.Test.YtfegffdhlkhjbaaCh
namespace Go.Proofs.Ytfegffdhlkhjbaa
open Go.RowKit
set_option maxRecDepth 100000

theorem Dat.sub {w wr : World} {d T : Nat} {s : Dk} {L L' : List (Nat × Obj)} (h : Dat w d T s L wr) (hs : ∀ p ∈ L', p ∈ L) : Dat w d T s L' wr := keeps_dat.toKeep.sub h hs
theorem src_nil (w : World) (L : List (Nat × Obj)) : Src w L none 0 [] := fun _ _ _ => ⟨rfl, fun h => absurd h (by omega)⟩
theorem sl_nil : Oct.Sl none 0 0 := ⟨fun _ => ⟨rfl, rfl⟩, Nat.le_refl _, by omega⟩

theorem idx0 (w : World) : (Instr.index 85 (.agg #[.int .u64 2, .int .u64 1]) (.int .i64 0)).run Try.prog w = .ok (.int .u64 2) w := by kernel_rfl
theorem idx1 (w : World) : (Instr.index 85 (.agg #[.int .u64 2, .int .u64 1]) (.int .i64 1)).run Try.prog w = .ok (.int .u64 1) w := by kernel_rfl

set_option maxHeartbeats 4000000 in
theorem format_any {w wr : World} {d T : Nat} {s s1 s2 s3 : Dk} {L : List (Nat × Obj)} (h : Dat w d T s L wr) (hT : T < 10000000) (at' : Int) (hat : 0 ≤ at' ∧ at' ≤ 32748)
    (h1 : wrs s at' (sect 2 []) 10 = (s1, 0)) (h2 : wrs s1 (at' + 10) (sect 1 []) 10 = (s2, 0)) (h3 : s2.sync = (s3, 0)) :
    Calls Try.prog 24 #[.pointer (some ⟨d, 0, none⟩), .int .i64 at'] wr fun E w' => E = .returned (.int .i64 0) ∧ Dat w d (T + 20) s3 L w' := by
  have HD' : Hid (Dat w d T s ((wr.heap.size, .cells #[.pointer (some ⟨d, 0, none⟩), .int .i64 at'] 79 (0, 0)) :: L) (wr.alloc (.cells #[.pointer (some ⟨d, 0, none⟩), .int .i64 at'] 79))) := Lib.hid (h.alloc _)
  have HRF := Lib.hid (fun wx => refuses_cell (w := wx) d at' hat)
  generalize hq : wr.heap.size = q at HD'
  have HW0 : Hid (∀ W, Dat w d T s ((q, .cells #[.pointer (some ⟨d, 0, none⟩), .int .i64 at'] 79 (0, 0)) :: L) W → Calls Try.prog 42 #[.agg #[.pointer (some ⟨d, 0, none⟩), .int .i64 at'], .int .i64 0, .int .u64 2, .slice none 0 0] W fun E w' =>
      E = .returned (.int .i64 0) ∧ Dat w d (T + 10) s1 ((q, .cells #[.pointer (some ⟨d, 0, none⟩), .int .i64 at'] 79 (0, 0)) :: L) w') := Lib.hid fun W hW => by
    have := slot_write hW (by omega) at' 0 hat (by omega) 2 none 0 0 [] (src_nil _ _) sl_nil (by omega)
    rw [show at' + 0 * 10 = at' by omega, h1] at this
    exact this
  have HW1 : Hid (∀ W, Dat w d (T + 10) s1 ((q, .cells #[.pointer (some ⟨d, 0, none⟩), .int .i64 at'] 79 (0, 0)) :: L) W → Calls Try.prog 42 #[.agg #[.pointer (some ⟨d, 0, none⟩), .int .i64 at'], .int .i64 1, .int .u64 1, .slice none 0 0] W fun E w' =>
      E = .returned (.int .i64 0) ∧ Dat w d (T + 20) s2 ((q, .cells #[.pointer (some ⟨d, 0, none⟩), .int .i64 at'] 79 (0, 0)) :: L) w') := Lib.hid fun W hW => by
    have := slot_write hW (by omega) at' 1 hat (by omega) 1 none 0 0 [] (src_nil _ _) sl_nil (by omega)
    rw [show at' + 1 * 10 = at' + 10 by omega, h2] at this
    exact this
  have HS : Hid (∀ W, Dat w d (T + 20) s2 L W → Calls Try.prog 43 #[.pointer (some ⟨d, 0, none⟩)] W fun E w' => E = .returned (.int .i64 0) ∧ Dat w d (T + 20) s3 L w') := Lib.hid fun W hW => by
    have := dat_sync hW (by omega)
    rw [h3] at this
    exact this
  clear h h1 h2 h3
  go_enter Try.func24, Try.ntmps24
  go_wp2_with fail
  refine (HRF.out _).mono ?_
  rintro E w1 ⟨rfl, hb⟩
  have D1 := Lib.hid (HD'.out.next hb)
  clear hb HD' HRF
  go_wp2_with fail
  go_loopw [19] (fun v19 wx => (v19 = .int .i64 0 ∧ Hid (Dat w d T s ((q, .cells #[.pointer (some ⟨d, 0, none⟩), .int .i64 at'] 79 (0, 0)) :: L) wx)) ∨ (v19 = .int .i64 1 ∧ Hid (Dat w d (T + 10) s1 ((q, .cells #[.pointer (some ⟨d, 0, none⟩), .int .i64 at'] 79 (0, 0)) :: L) wx)) ∨
      (v19 = .int .i64 2 ∧ Hid (Dat w d (T + 20) s2 ((q, .cells #[.pointer (some ⟨d, 0, none⟩), .int .i64 at'] 79 (0, 0)) :: L) wx))) (fun v19 _ => 2 - (intOf v19).toNat)
  case atStart => exact .inl ⟨rfl, D1⟩
  case round =>
    clear D1
    rcases hrel with ⟨rfl, DA⟩ | ⟨rfl, DA⟩ | ⟨rfl, DA⟩
    · have c0 := block_cell (C := [.pointer (some ⟨d, 0, none⟩), .int .i64 at']) (DA.out.get (q := q) (.head _)) 0 _ rfl
      have c1 := block_cell (C := [.pointer (some ⟨d, 0, none⟩), .int .i64 at']) (DA.out.get (q := q) (.head _)) 1 _ rfl
      have hix := idx0
      subst hq
      go_wp2_with fail
      refine (HW0.out _ DA.out).mono ?_
      rintro E w2 ⟨rfl, h2⟩
      have D2 := Lib.hid h2
      clear h2 c0 c1 DA
      go_wp2_with fail
      go_roundw
      case measure => simp [intOf]
      case rel => exact .inr (.inl ⟨rfl, D2⟩)
    · have c0 := block_cell (C := [.pointer (some ⟨d, 0, none⟩), .int .i64 at']) (DA.out.get (q := q) (.head _)) 0 _ rfl
      have c1 := block_cell (C := [.pointer (some ⟨d, 0, none⟩), .int .i64 at']) (DA.out.get (q := q) (.head _)) 1 _ rfl
      have hix := idx1
      subst hq
      go_wp2_with fail
      refine (HW1.out _ DA.out).mono ?_
      rintro E w2 ⟨rfl, h2⟩
      have D2 := Lib.hid h2
      clear h2 c0 c1 DA
      go_wp2_with fail
      go_roundw
      case measure => simp [intOf]
      case rel => exact .inr (.inr ⟨rfl, D2⟩)
    · go_wp2_with fail
      refine (HS.out _ DA.out.drop).mono ?_
      rintro E w2 ⟨rfl, h2⟩
      go_wp2_with fail
      go_ret
      exact ⟨rfl, h2⟩
end Go.Proofs.Ytfegffdhlkhjbaa
