/-
  What is proved: the chapter's examples hold. Conditions as stated.
-/
import Derived.Test.YthbbghkefekhfaaDm
import Derived.Lib.QuietBelow
namespace Go.Proofs.Ythbbghkefekhfaa
open Go.RowKit Go.Sort

def st1 : Dk := (Dk.new.write 3 (secOf 1)).1
def st2 : Dk := st1.offed
def st3 : Dk := (st2.on []).1
def st4 : Dk := (st3.write 3 (secOf 1)).1
def st5 : Dk := st4.sync.1
def st6 : Dk := st5.offed
def st7 : Dk := (st6.on [0]).1
def st8 : Dk := (st7.write 3 (secOf 2)).1
def st9 : Dk := st8.offed
def st10 : Dk := (st9.on [2]).1
theorem f1 : (Dk.new.write 3 (secOf 1)).2 = 0 := rfl
theorem f3 : (st2.on []).2 = 0 := rfl
theorem r3 : st3.read 3 = (zeros, 0) := rfl
theorem f4 : (st3.write 3 (secOf 1)).2 = 0 := rfl
theorem f5 : st4.sync.2 = 0 := rfl
theorem f7 : (st6.on [0]).2 = 0 := rfl
theorem r7 : st7.read 3 = (secOf 1, 0) := rfl
theorem f8 : (st7.write 3 (secOf 2)).2 = 0 := rfl
theorem f10 : (st9.on [2]).2 = 0 := rfl
theorem r10 : st10.read 3 = (zeros, 9) := rfl

set_option maxHeartbeats 4000000 in
set_option maxRecDepth 100000 in
theorem works_any (w : World) : Calls Try.prog 9 #[] w fun E w' => E = .returned (.bool true) ∧ Below w.heap.size w w' := by
  obtain ⟨b1, hb1⟩ : ∃ b, b = secOf 1 := ⟨_, rfl⟩
  obtain ⟨b2, hb2⟩ : ∃ b, b = secOf 2 := ⟨_, rfl⟩
  obtain ⟨Z, hZ⟩ : ∃ b, b = zeros := ⟨_, rfl⟩
  have l1 : b1.length = 128 := by rw [hb1]; exact secOf_length _
  have l2 : b2.length = 128 := by rw [hb2]; exact secOf_length _
  have lZ : Z.length = 128 := by rw [hZ]; rfl
  have HB1 := Lib.hid hb1
  have HB2 := Lib.hid hb2
  have HZ := Lib.hid hZ
  have L1 := Lib.hid l1
  have L2 := Lib.hid l2
  have LZ := Lib.hid lZ
  have hz : ∀ w, (zeroValue 33).run Try.prog w = .ok (.agg (u8s Z).toArray) w := by rw [hZ]; exact zero33
  have B1 : Hid (∀ wr, Calls Try.prog 15 #[.int .u8 1] wr fun E w' => E = .returned (.agg (u8s b1).toArray) ∧ Below wr.heap.size wr w') := Lib.hid (fun wr => by rw [hb1]; exact bytes_any 1 wr)
  have B2 : Hid (∀ wr, Calls Try.prog 15 #[.int .u8 2] wr fun E w' => E = .returned (.agg (u8s b2).toArray) ∧ Below wr.heap.size wr w') := Lib.hid (fun wr => by rw [hb2]; exact bytes_any 2 wr)
  have hx3 : Hid (I64 3) := Lib.hid (i64_of (by omega))
  have UZ : Hid ((u8s Z).length = 128) := Lib.hid (by rw [u8s_length, lZ])
  have U1 : Hid ((u8s b1).length = 128) := Lib.hid (by rw [u8s_length, l1])
  have UZ : Hid ((u8s Z).length = 128) := Lib.hid (by rw [u8s_length, lZ])
  have U1 : Hid ((u8s b1).length = 128) := Lib.hid (by rw [u8s_length, l1])
  have UZ : Hid ((u8s Z).length = 128) := Lib.hid (by rw [u8s_length, lZ])
  have U1 : Hid ((u8s b1).length = 128) := Lib.hid (by rw [u8s_length, l1])
  have UZ : Hid ((u8s Z).length = 128) := Lib.hid (by rw [u8s_length, lZ])
  have U1 : Hid ((u8s b1).length = 128) := Lib.hid (by rw [u8s_length, l1])
  clear hb1 hb2 hZ l1 l2 lZ
  go_enter Try.func9, Try.ntmps9
  go_wp2_with fail
  refine (dat_new (Below.refl _ w)).mono ?_
  rintro E w1 ⟨d, rfl, h1, hdw⟩
  have D1 := Lib.hid h1
  clear h1 hdw
  go_wp2_with fail
  refine (stepP D1.out true rfl).mono ?_
  rintro E _ ⟨rfl, rfl⟩
  go_wp2_with fail
  refine (B1.out _).mono ?_
  rintro E w2 ⟨rfl, hb⟩
  have D2 := Lib.hid (D1.out.next hb)
  clear hb D1
  go_wp2_with fail
  refine (stepW D2.out b1 L1.out (by omega) 3 0 (by rw [HB1.out]; exact f1) (s' := st1) (by rw [HB1.out]; rfl)).mono ?_
  rintro E w3 ⟨rfl, hb⟩
  have D3 := Lib.hid hb
  clear hb D2
  go_wp2_with fail
  refine (stepO D3.out (s' := st2) rfl).mono ?_
  rintro E w4 ⟨rfl, hb⟩
  have D4 := Lib.hid hb
  clear hb D3
  go_wp2_with fail
  refine (stepN0 D4.out (by omega) 0 f3 (s' := st3) rfl).mono ?_
  rintro E w5 ⟨rfl, hb⟩
  have D5 := Lib.hid hb
  clear hb D4
  go_wp2_with fail
  refine (stepR D5.out 3 hx3.out Z 0 (by rw [HZ.out]; exact r3)).mono ?_
  rintro E w6 ⟨rfl, h1, _⟩
  have D6 := Lib.hid h1
  clear h1 D5
  go_wp2_with (first
    | (refine wpList_store_all rfl 33 (.tmp 4) (.tmp 32) rfl w6.heap.size (u8s Z) (u8s Z) 33 (row_new w6 (u8s Z) 33) (UZ.out.trans UZ.out.symm) rfl rfl (by rw [UZ.out]; exact Try.size33) (u8s_one _) ?_; intro w7 G7; have D7 := Lib.hid (D6.out.var G7.out); clear G7))
  refine (B1.out _).mono ?_
  rintro E w8 ⟨rfl, hb⟩
  have D8 := Lib.hid (D7.out.next hb)
  clear hb D7
  go_wp2_with fail
  refine (stepW D8.out b1 L1.out (by omega) 3 0 (by rw [HB1.out]; exact f4) (s' := st4) (by rw [HB1.out]; rfl)).mono ?_
  rintro E w9 ⟨rfl, hb⟩
  have D9 := Lib.hid hb
  clear hb D8
  go_wp2_with fail
  refine (stepY D9.out (by omega) 0 f5 (s' := st5) rfl).mono ?_
  rintro E w10 ⟨rfl, hb⟩
  have D10 := Lib.hid hb
  clear hb D9
  go_wp2_with fail
  refine (stepO D10.out (s' := st6) rfl).mono ?_
  rintro E w11 ⟨rfl, hb⟩
  have D11 := Lib.hid hb
  clear hb D10
  go_wp2_with fail
  refine (stepN1 D11.out (by omega) 0 0 rfl 0 f7 (s' := st7) rfl).mono ?_
  rintro E w12 ⟨rfl, hb⟩
  have D12 := Lib.hid hb
  clear hb D11
  go_wp2_with fail
  refine (stepR D12.out 3 hx3.out b1 0 (by rw [HB1.out]; exact r7)).mono ?_
  rintro E w13 ⟨rfl, h1, _⟩
  have D13 := Lib.hid h1
  clear h1 D12
  go_wp2_with (first
    | (refine wpList_store_all rfl 33 (.tmp 9) (.tmp 47) rfl w13.heap.size (u8s Z) (u8s b1) 33 (row_new w13 (u8s Z) 33) (UZ.out.trans U1.out.symm) rfl rfl (by rw [U1.out]; exact Try.size33) (u8s_one _) ?_; intro w14 G14; have D14 := Lib.hid (D13.out.var G14.out); clear G14))
  refine (B2.out _).mono ?_
  rintro E w15 ⟨rfl, hb⟩
  have D15 := Lib.hid (D14.out.next hb)
  clear hb D14
  go_wp2_with fail
  refine (stepW D15.out b2 L2.out (by omega) 3 0 (by rw [HB2.out]; exact f8) (s' := st8) (by rw [HB2.out]; rfl)).mono ?_
  rintro E w16 ⟨rfl, hb⟩
  have D16 := Lib.hid hb
  clear hb D15
  go_wp2_with fail
  refine (stepO D16.out (s' := st9) rfl).mono ?_
  rintro E w17 ⟨rfl, hb⟩
  have D17 := Lib.hid hb
  clear hb D16
  go_wp2_with fail
  refine (stepN1 D17.out (by omega) 2 2 rfl 0 f10 (s' := st10) rfl).mono ?_
  rintro E w18 ⟨rfl, hb⟩
  have D18 := Lib.hid hb
  clear hb D17
  go_wp2_with fail
  refine (stepR D18.out 3 hx3.out Z 9 (by rw [HZ.out]; exact r10)).mono ?_
  rintro E w19 ⟨rfl, h1, _⟩
  have D19 := Lib.hid h1
  clear h1 D18
  go_wp2_with (first
    | (refine wpList_store_all rfl 33 (.tmp 12) (.tmp 60) rfl w19.heap.size (u8s Z) (u8s Z) 33 (row_new w19 (u8s Z) 33) (UZ.out.trans UZ.out.symm) rfl rfl (by rw [UZ.out]; exact Try.size33) (u8s_one _) ?_; intro w20 G20; have D20 := Lib.hid (D19.out.var G20.out); clear G20))
  have hge := eq33_same Z LZ.out
  have hgf := eq33_same b1 L1.out
  have hgd := Try.guard33
  have cA : Hid (∀ d os, Calls Try.prog 15 #[.int .u8 0] (grow (redrawn w20 d) os) fun e w'' => e = .returned (.agg (u8s Z).toArray) ∧ ∃ p : Regrown, w'' = grow (redrawn w20 p.d) p.os) := Lib.hid fun d os => Calls.regrown_of (by have := bytes_any 0 (grow (redrawn w20 d) os); rw [secOf_zero, ← HZ.out] at this; exact this)
  have cB : Hid (∀ d os, Calls Try.prog 15 #[.int .u8 1] (grow (redrawn w20 d) os) fun e w'' => e = .returned (.agg (u8s b1).toArray) ∧ ∃ p : Regrown, w'' = grow (redrawn w20 p.d) p.os) := Lib.hid fun d os => Calls.regrown_of (B1.out _)
  have g4 := D20.out.get (q := w6.heap.size) (o := .cells (u8s Z).toArray 33) (by simp)
  have g9 := D20.out.get (q := w13.heap.size) (o := .cells (u8s b1).toArray 33) (by simp)
  have r0 : Hid (∀ w', (∃ p : Regrown, w' = grow (redrawn w20 p.d) p.os) → w'.rangeAt w6.heap.size 0 (u8s Z)) := Lib.hid fun w' ⟨p, hp⟩ => by rw [hp]; exact range_block (((below_regrown w20 p.d p.os).block _ (Array.getElem?_eq_some_iff.1 g4).1).trans g4) 0 _ (fun j v hv => by rw [Nat.zero_add]; exact hv)
  have r1 : Hid (∀ w', (∃ p : Regrown, w' = grow (redrawn w20 p.d) p.os) → w'.rangeAt w13.heap.size 0 (u8s b1)) := Lib.hid fun w' ⟨p, hp⟩ => by rw [hp]; exact range_block (((below_regrown w20 p.d p.os).block _ (Array.getElem?_eq_some_iff.1 g9).1).trans g9) 0 _ (fun j v hv => by rw [Nat.zero_add]; exact hv)
  clear g4 g9
  refine wp_region_quiet_below (by kernel_rfl) (by kernel_rfl) ?_
  go_big_quiet_step (exact cA.out _ _)
  go_big_quiet_step (exact cA.out _ _)
  go_big_quiet_step (exact cA.out _ _)
  go_big_quiet_step (exact cA.out _ _)
  go_big_quiet_step (exact cA.out _ _)
  go_big_quiet_step (exact cA.out _ _)
  go_big_quiet_step (exact cA.out _ _)
  refine wpQuiet_load_cellsG 33 (.tmp 4) rfl w6.heap.size 0 rfl (u8s Z) _ r0.out Try.underlying33 rfl (by rw [UZ.out]; exact Try.size33) (by kernel_rfl) ?_
  simp only [Act.put, List.setIfInBounds_toArray, List.set_cons_succ, List.set_cons_zero]
  go_big_quiet_step (exact cA.out _ _)
  go_big_quiet_step (exact cA.out _ _)
  go_big_quiet_step (exact cA.out _ _)
  go_big_quiet_step (exact cA.out _ _)
  go_big_quiet_step (exact cA.out _ _)
  go_big_quiet_step (exact cA.out _ _)
  go_big_quiet_step (exact cA.out _ _)
  go_big_quiet_step (exact cA.out _ _)
  go_big_quiet_step (exact cA.out _ _)
  go_big_quiet_step (exact cA.out _ _)
  go_big_quiet_step (exact cA.out _ _)
  go_big_quiet_step (exact cA.out _ _)
  go_big_quiet_step (exact cA.out _ _)
  go_big_quiet_step (exact cA.out _ _)
  go_big_quiet_step (exact cA.out _ _)
  go_big_quiet_step (exact cA.out _ _)
  go_big_quiet_step (exact cA.out _ _)
  go_big_quiet_step (exact cA.out _ _)
  go_big_quiet_step (exact cA.out _ _)
  go_big_quiet_step (exact cA.out _ _)
  refine wpQuiet_load_cellsG 33 (.tmp 9) rfl w13.heap.size 0 rfl (u8s b1) _ r1.out Try.underlying33 rfl (by rw [U1.out]; exact Try.size33) (by kernel_rfl) ?_
  simp only [Act.put, List.setIfInBounds_toArray, List.set_cons_succ, List.set_cons_zero]
  go_big_quiet_step (exact cB.out _ _)
  go_big_quiet_step (exact cB.out _ _)
  go_big_quiet_step (exact cB.out _ _)
  go_big_quiet_step (exact cB.out _ _)
  go_big_quiet_step (exact cB.out _ _)
  go_big_quiet_step (exact cB.out _ _)
  go_big_quiet_step (exact cB.out _ _)
  go_big_quiet_step (exact cB.out _ _)
  go_big_quiet_step (exact cB.out _ _)
  go_big_quiet_step (exact cB.out _ _)
  go_big_quiet_step (exact cB.out _ _)
  go_big_quiet_step (exact cB.out _ _)
  go_big_quiet_step (exact cB.out _ _)
  go_big_quiet_step (exact cB.out _ _)
  go_big_quiet_step (exact cB.out _ _)
  go_big_quiet_step (exact cB.out _ _)
  go_big_quiet_step (exact cB.out _ _)
  go_big_quiet_step (exact cB.out _ _)
  refine wpQuiet_nil ?_
  intro _ hw'
  obtain ⟨⟨dq, osq⟩, hw''⟩ := hw'
  subst hw''
  go_wp2
  go_ret
  exact ⟨rfl, D20.out.below.trans ((below_regrown w20 dq osq).mono D20.out.below.size)⟩
end Go.Proofs.Ythbbghkefekhfaa
