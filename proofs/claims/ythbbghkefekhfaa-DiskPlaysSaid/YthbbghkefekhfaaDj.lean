/-
  What is proved: the walk of DiskNil, given that the chapter's examples hold. Conditions as stated.
-/
import Derived.Test.YthbbghkefekhfaaDh
namespace Go.Proofs.Ythbbghkefekhfaa
open Go.RowKit

/-- The chapter's examples hold. -/
def Works : Prop := ∀ w : World, Calls Try.prog 9 #[] w fun E w' => E = .returned (.bool true) ∧ Below w.heap.size w w'

set_option maxRecDepth 100000 in
theorem nil_read (x : Int) (w : World) : Calls Try.prog 12 #[.pointer none, .int .i64 x] w fun E w' => E = .returned (.tuple #[.agg (u8s zeros).toArray, .int .i64 2]) ∧ Below w.heap.size w w' := by
  have hz33 := zero33
  have HZ : Hid ((Try.prog.info? 33).map (·.size) = some (u8s zeros).length) := Lib.hid Try.size33
  have HT : Hid ((w.alloc (.cells (u8s zeros).toArray 33)).there w.heap.size 0 128) := Lib.hid (there_block (row_new w _ _) 0 128 (by rw [u8s_length]; exact Nat.le_refl 128))
  have hb := build33
  have hzl : zeros.length = 128 := rfl
  generalize zeros = Z at *
  have HL : Hid ((u8s Z).length = 128) := Lib.hid (by rw [u8s_length, hzl])
  clear hzl
  go_enter Try.func12, Try.ntmps12
  go_wp2_with (first
    | (go_at_call 26; refine (nil_refuses x _).mono ?_; rintro E w1 ⟨rfl, rfl⟩)
    | (refine wpList_store_cells rfl 33 (.tmp 4) (.tmp 14) rfl w.heap.size 0 (u8s Z) rfl rfl (by rw [HL.out]; exact HT.out) HZ.out (u8s_one _) ?_))
  exact bodyPost_ret (ret_pair (cs := u8s Z) rfl rfl rfl (World.rangeAt_setCells_same _ _ _ (u8s Z) (by rw [HL.out]; exact HT.out)) Try.underlying33 rfl HZ.out) rfl ⟨rfl, below_new _ _ _ _⟩
theorem nil_write (x : Int) (b : List UInt8) (w : World) : Calls Try.prog 14 #[.pointer none, .int .i64 x, .agg (u8s b).toArray] w fun E w' => E = .returned (.int .i64 2) ∧ Below w.heap.size w w' := by
  go_enter Try.func14, Try.ntmps14
  go_wp2_with (first
    | (go_at_call 26; refine (nil_refuses x _).mono ?_; rintro E w1 ⟨rfl, rfl⟩))
  go_ret
  exact ⟨rfl, (Below.refl _ _).alloc (Nat.le_refl _) _⟩

set_option maxHeartbeats 1000000 in
set_option maxRecDepth 100000 in
theorem diskNil_by (hW : Works) (x n : Int) (w : World) (hn : -128 ≤ n ∧ n ≤ 127) : Calls Try.prog 5 #[.int .i64 x, .int .i8 n] w fun E w' => E = .returned (.bool true) ∧ Below w.heap.size w w' := by
  have HW := Lib.hid hW
  obtain ⟨Z, hZ⟩ : ∃ b, b = zeros := ⟨_, rfl⟩
  have lZ : Z.length = 128 := by rw [hZ]; rfl
  have UZ : Hid ((u8s Z).length = 128) := Lib.hid (by rw [u8s_length, lZ])
  have hz : ∀ w, (zeroValue 33).run Try.prog w = .ok (.agg (u8s Z).toArray) w := by rw [hZ]; exact zero33
  have NR : Hid (∀ wr, Calls Try.prog 12 #[.pointer none, .int .i64 x] wr fun E w' => E = .returned (.tuple #[.agg (u8s Z).toArray, .int .i64 2]) ∧ Below wr.heap.size wr w') := Lib.hid (by rw [hZ]; exact nil_read x)
  have B1 : Hid (∀ wr, Calls Try.prog 15 #[.int .u8 1] wr fun E w' => E = .returned (.agg (u8s (secOf 1)).toArray) ∧ Below wr.heap.size wr w') := Lib.hid (bytes_any 1)
  clear hW hZ lZ
  generalize secOf 1 = b1 at B1
  go_enter Try.func5, Try.ntmps5
  go_wp2_with (first
    | (go_at_call 19; refine (nil_fuse n _).mono ?_; rintro E w1 ⟨rfl, rfl⟩)
    | (go_at_call 20; refine (nil_off _).mono ?_; rintro E w1 ⟨rfl, rfl⟩)
    | (go_at_call 12; refine (NR.out _).mono ?_; rintro E w2 ⟨rfl, hb2⟩; have HB2 := Lib.hid hb2; clear hb2)
    | (refine wpList_store_all rfl 33 (.tmp 6) (.tmp 18) rfl w2.heap.size (u8s Z) (u8s Z) 33 (row_new w2 (u8s Z) 33) rfl rfl rfl (by rw [UZ.out]; exact Try.size33) (u8s_one _) ?_; intro w3 G3; have HB3 : Hid (Below w.heap.size w w3) := Lib.hid (below_gb (HB2.out.alloc HB2.out.size _) G3.out.2 HB2.out.size (Nat.le_trans HB2.out.size (by simp))); clear G3)
    | (go_at_call 15; refine (B1.out _).mono ?_; rintro E w4 ⟨rfl, hb4⟩; have HB4 := Lib.hid (HB3.out.trans (hb4.mono HB3.out.size)); clear hb4)
    | (go_at_call 14; refine (nil_write x b1 _).mono ?_; rintro E w5 ⟨rfl, hb5⟩; have HB5 := Lib.hid (HB4.out.trans (hb5.mono HB4.out.size)); clear hb5)
    | (go_at_call 17; refine (nil_sync _).mono ?_; rintro E w6 ⟨rfl, rfl⟩)
    | (go_at_call 22; refine (nil_on none 0 0 _).mono ?_; rintro E w7 ⟨rfl, hb7⟩; have HB7 := Lib.hid (HB5.out.trans (hb7.mono HB5.out.size)); clear hb7)
    | (go_at_call 24; refine (nil_power _).mono ?_; rintro E w8 ⟨rfl, rfl⟩)
    | (go_at_call 25; refine (nil_loose _).mono ?_; rintro E w9 ⟨rfl, rfl⟩)
    | (go_at_call 9; refine (HW.out _).mono ?_; rintro E w10 ⟨rfl, hb10⟩; have HB10 := Lib.hid (HB7.out.trans (hb10.mono HB7.out.size)); clear hb10))
  go_ret
  exact ⟨rfl, HB10.out⟩
end Go.Proofs.Ythbbghkefekhfaa
