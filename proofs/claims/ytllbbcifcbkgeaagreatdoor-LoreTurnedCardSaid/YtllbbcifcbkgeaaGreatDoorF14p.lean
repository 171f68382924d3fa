/- Laws and walks. -/
import Derived.Test.YtllbbcifcbkgeaaGreatDoorF13p
set_option maxHeartbeats 16000000
set_option maxRecDepth 100000
namespace Go.Proofs.YtllbbcifcbkgeaaGreatDoor.Sh
open Go.RowKit
structure Hds (W : World) (S : List Value) (A : Nat -> Option Addr) (N C P : Nat -> Nat) : Prop where
 len : S.length = 11
 get : ∀ i, i < 11 -> S[i]? = some (.slice (A i) (N i) (C i))
 head : ∀ i, i < 11 -> 0 < N i -> ∃ g o, A i = some ⟨g, o, none⟩ /\ g < W.heap.size /\ W.cell? ⟨g, o + 121, none⟩ = some (.int .i64 (P i : Int))
theorem Hds.below {W W' : World} {S : List Value} {A : Nat -> Option Addr} {N C P : Nat -> Nat} (h : Hds W S A N C P) (hb : Below W.heap.size W W') : Hds W' S A N C P :=
 ⟨h.len, h.get, fun i hi hn => let ⟨g, o, e, hl, hc⟩ := h.head i hi hn; ⟨g, o, e, Nat.lt_of_lt_of_le hl hb.size, (hb.cell (p := ⟨g, _, none⟩) hl).trans hc⟩⟩
theorem earliest_any {w : World} {S : List Value} {A : Nat -> Option Addr} {N C P : Nat -> Nat} (h : Hds w S A N C P) :
  Calls Tryz.prog 50 #[.agg S.toArray] w fun E w' => E = .returned (.tuple #[.int .i64 ((er N P 11).1 : Int), .bool (er N P 11).2]) /\ Below w.heap.size w w' := by
 have HB : Hid (Below w.heap.size w (w.alloc (.cells S.toArray 91)) /\ w.heap.size < (w.alloc (.cells S.toArray 91)).heap.size) := iq ⟨bl.alloc (Nat.le_refl _) _, by simp⟩
 have HR := iq (range_box w S 91)
 have HHd := iq (h.below HB.out.1)
 have HI : Hid ((Tryz.prog.info? 91).map (·.size) = some S.length) := iq (by rw [h.len]; kernel_rfl)
 obtain ⟨w0, hw0⟩ : ∃ w0, w0 = (w.alloc (.cells S.toArray 91)) := ⟨_, rfl⟩
 have HE := iq hw0
 rw [<- hw0] at HB HR HHd
 clear h hw0
 go_enter Tryz.func50, Tryz.ntmps50
 go_wp2_with ((with_reducible refine wpList_load_midG ?_ 91 (.tmp 1) ?_ w.heap.size 0 ?_ S _ ?_ Tryz.underlying91 ?_ ?_ ?_); rotate_left; rfl; rfl; (· (first | exact HR.out | (rw [<- HE.out]; exact HR.out))); rfl; exact HI.out; rotate_left; rfl)
 rw [<- HE.out]
 have H0 : Hid (Below w0.heap.size w0 w0) := iq bl
 go_loopw [4, 5, 9] (fun v4 v5 v9 wr => ∃ (j q : Nat) (z : Bool), j <= 11 /\ v9 = .int .i64 (j : Int) /\ v4 = .int .i64 (q : Int) /\ v5 = .bool z /\ Hid (er N P j = (q, z)) /\ Hid (Below w0.heap.size w0 wr)) (fun _ _ v9 _ => 11 - (intOf v9).toNat)
 case atStart => exact ⟨0, 0, false, by omega, rfl, rfl, rfl, iq rfl, H0⟩
 case round =>
  clear H0
  obtain ⟨j, q, z, hj, rfl, rfl, rfl, HEr, D⟩ := hrel
  by_cases hjj : j < 11
  ·have hdec : decide ((j : Int) < (11 : Int)) = true := decide_eq_true (by omega)
   have hj0 : (0 : Int) <= (j : Int) := by omega
   have hjn : (j : Int) < (11 : Int) := by omega
   have htn : ((j : Int)).toNat = j := by omega
   have hw1 : IntKind.i64.wrap ((j : Int) + 1) = (j : Int) + 1 := by rw [IntKind.wrap_i64]; omega
   have hgj := HHd.out.get j hjj
   have hx1 := fun w => idx_svs hjj hgj w
   have HHj := iq (fun hn => HHd.out.head j hjj hn)
   have HEs : Hid (er N P (j + 1) = if 0 < N j /\ (z = false \/ P j < P q) then (j, true) else (q, z)) := iq (by rw [er, HEr.out])
   have HqP := iq (er_lt N P j (by omega))
   rw [HEr.out] at HqP
   obtain ⟨aj, ha⟩ : ∃ a, a = A j := ⟨_, rfl⟩
   obtain ⟨nj, hn⟩ : ∃ a, a = N j := ⟨_, rfl⟩
   obtain ⟨cj, hc⟩ : ∃ a, a = C j := ⟨_, rfl⟩
   rw [<- ha, <- hn, <- hc] at hx1
   rw [<- ha, <- hn] at HHj
   rw [<- hn] at HEs
   clear ha hn hc hgj
   by_cases hn0 : 0 < nj
   ·cases z with
    | false =>
     have HEn : Hid (er N P (j + 1) = (j, true)) := iq (by rw [HEs.out, if_pos ⟨hn0, .inl rfl⟩])
     have HN0 : Hid ((nj : Int) > 0) := iq (by omega)
     have HN0n := iq hn0
     clear hn0
     go_wp2_with fail
     refine wp_region_any (by kernel_rfl) ?_
     change wpAny _ _ _ _ _ _ _ (World.drewN _ 1)
     refine held_gen (G := fun W' => wpAny _ _ _ _ _ _ _ W') (fun W' => Below w0.heap.size w0 W') (below_drewN D.out 1) (fun x0 hw => ?_)
     have HX0 := iq hw
     clear hw D
     refine wpAny_of_held (S := fun W => Below x0.heap.size x0 W) _ _ _ _ ?_
     refine tk 0 ⟨some 13, .move (.tmp 7), _, _, _, none⟩ (.slice aj nj cj) rfl (by kernel_rfl) (fun _ _ _ => id) bl (fun W hSW => by go_simp) ?_
     try simp only [pu, l0, l1, l2]
     refine tk 1 ⟨some 14, .call { callee := .builtin .len, args := #[.tmp 13], argTypes := #[90] }, _, _, _, none⟩ (.int .i64 (nj : Int)) rfl (by kernel_rfl) (fun _ _ _ => id) bl (fun W hSW => by go_simp) ?_
     try simp only [pu, l0, l1, l2]
     refine tk 2 ⟨some 15, .binOp .gtr 3 (.tmp 14) (.const (.int .i64 0)) 3, _, _, _, none⟩ (.bool true) rfl (by kernel_rfl) (fun _ _ _ => id) bl (fun W hSW => by have hn := HN0.out; have hn2 := HN0n.out; go_simp) ?_
     try simp only [pu, l0, l1, l2]
     refine tk 3 ⟨some 16, .move (.tmp 15), _, _, _, none⟩ (.bool true) rfl (by kernel_rfl) (fun _ _ _ => id) bl (fun W hSW => by go_simp) ?_
     try simp only [pu, l0, l1, l2]
     refine tk 4 ⟨some 17, .move (.tmp 5), _, _, _, some (3, true)⟩ (.bool false) rfl (by kernel_rfl) (fun _ _ _ => id) bl (fun W hSW => by go_simp) ?_
     try simp only [pu, l0, l1, l2]
     refine tk 5 ⟨some 18, .unOp .not 4 (.tmp 17), _, _, _, some (3, true)⟩ (.bool true) rfl (by kernel_rfl) (fun _ _ _ => id) bl (fun W hSW => by go_simp) ?_
     try simp only [pu, l0, l1, l2]
     refine tk 6 ⟨some 19, .move (.tmp 18), _, _, _, some (3, true)⟩ (.bool true) rfl (by kernel_rfl) (fun _ _ _ => id) bl (fun W hSW => by go_simp) ?_
     try simp only [pu, l0, l1, l2]
     refine sk 7 ⟨some 20, .move (.tmp 7), _, _, _, some (6, false)⟩ rfl (by kernel_rfl) (fun _ _ _ => id) bl ?_
     try simp only [pu, l0, l1, l2]
     refine sk 8 ⟨some 21, .indexAddr 90 (.tmp 20) (.const (.int .i64 0)), _, _, _, some (6, false)⟩ rfl (by kernel_rfl) (fun _ _ _ => id) bl ?_
     try simp only [pu, l0, l1, l2]
     refine sk 9 ⟨some 22, .fieldAddr 98 (.tmp 21) 1, _, _, _, some (6, false)⟩ rfl (by kernel_rfl) (fun _ _ _ => id) bl ?_
     try simp only [pu, l0, l1, l2]
     refine sk 10 ⟨some 23, .load 3 (.tmp 22), _, _, _, some (6, false)⟩ rfl (by kernel_rfl) (fun _ _ _ => id) bl ?_
     try simp only [pu, l0, l1, l2]
     refine sk 11 ⟨some 24, .move (.tmp 4), _, _, _, some (6, false)⟩ rfl (by kernel_rfl) (fun _ _ _ => id) bl ?_
     try simp only [pu, l0, l1, l2]
     refine sk 12 ⟨some 25, .indexAddr 91 (.tmp 1) (.tmp 24), _, _, _, some (6, false)⟩ rfl (by kernel_rfl) (fun _ _ _ => id) bl ?_
     try simp only [pu, l0, l1, l2]
     refine sk 13 ⟨some 26, .load 90 (.tmp 25), _, _, _, some (6, false)⟩ rfl (by kernel_rfl) (fun _ _ _ => id) bl ?_
     try simp only [pu, l0, l1, l2]
     refine sk 14 ⟨some 27, .indexAddr 90 (.tmp 26) (.const (.int .i64 0)), _, _, _, some (6, false)⟩ rfl (by kernel_rfl) (fun _ _ _ => id) bl ?_
     try simp only [pu, l0, l1, l2]
     refine sk 15 ⟨some 28, .fieldAddr 98 (.tmp 27) 1, _, _, _, some (6, false)⟩ rfl (by kernel_rfl) (fun _ _ _ => id) bl ?_
     try simp only [pu, l0, l1, l2]
     refine sk 16 ⟨some 29, .load 3 (.tmp 28), _, _, _, some (6, false)⟩ rfl (by kernel_rfl) (fun _ _ _ => id) bl ?_
     try simp only [pu, l0, l1, l2]
     refine sk 17 ⟨some 30, .binOp .lss 3 (.tmp 23) (.tmp 29) 3, _, _, _, some (6, false)⟩ rfl (by kernel_rfl) (fun _ _ _ => id) bl ?_
     try simp only [pu, l0, l1, l2]
     refine tk 18 ⟨some 31, .pick (.tmp 19) (.const (.bool true)) (.tmp 30), _, _, _, some (3, true)⟩ (.bool true) rfl (by kernel_rfl) (fun _ _ _ => id) bl (fun W hSW => by go_simp) ?_
     try simp only [pu, l0, l1, l2]
     refine tk 19 ⟨some 32, .pick (.tmp 16) (.tmp 31) (.const (.bool false)), _, _, _, none⟩ (.bool true) rfl (by kernel_rfl) (fun _ _ _ => id) bl (fun W hSW => by go_simp) ?_
     try simp only [pu, l0, l1, l2]
     refine wpAnyH_done (by kernel_rfl) ?_ _
     go_wp2_with fail
     go_roundw
     case measure => simp [intOf] <;> omega
     case rel => exact ⟨j + 1, j, true, by omega, by go_num, rfl, rfl, HEn, HX0⟩
    | true =>
     obtain ⟨g, o, rfl, hg1, hg2⟩ := HHj.out hn0
     have Hq := iq HqP.out.1
     have HNq0 := HqP.out.2 rfl
     obtain ⟨g2, o2, eq2, hh1, hh2⟩ := HHd.out.head q HqP.out.1 HNq0
     have Hcq := iq (HR.out q _ (HHd.out.get q HqP.out.1))
     rw [eq2, Nat.zero_add] at Hcq
     have Hg := iq (And.intro hg1 hg2)
     have Hg2 := iq (And.intro hh1 hh2)
     obtain ⟨x, hx⟩ : ∃ x, x = P j := ⟨_, rfl⟩
     obtain ⟨y, hy⟩ : ∃ y, y = P q := ⟨_, rfl⟩
     obtain ⟨nq, hnq⟩ : ∃ a, a = N q := ⟨_, rfl⟩
     obtain ⟨cq, hcq⟩ : ∃ a, a = C q := ⟨_, rfl⟩
     rw [<- hx] at Hg
     rw [<- hy] at Hg2
     rw [<- hx, <- hy] at HEs
     rw [<- hnq, <- hcq] at Hcq
     rw [<- hnq] at HNq0
     have HNqn := iq HNq0
     have HNq : Hid ((0 : Int) < (nq : Int)) := iq (by omega)
     clear hx hy hnq hcq hg1 hg2 hh1 hh2 eq2 HNq0
     have hnn := hn0
     have HN0 : Hid ((nj : Int) > 0) := iq (by omega)
     have HN0n := iq hn0
     by_cases hlt : x < y
     ·have HEn : Hid (er N P (j + 1) = (j, true)) := iq (by rw [HEs.out, if_pos ⟨hn0, .inr hlt⟩])
      have HLt : Hid ((x : Int) < (y : Int)) := iq (by omega)
      have HLtn := iq hlt
      clear hn0 hnn hlt
      go_wp2_with fail
      refine wp_region_any (by kernel_rfl) ?_
      change wpAny _ _ _ _ _ _ _ (World.drewN _ 1)
      refine held_gen (G := fun W' => wpAny _ _ _ _ _ _ _ W') (fun W' => Below w0.heap.size w0 W') (below_drewN D.out 1) (fun x0 hw => ?_)
      have HX0 := iq hw
      clear hw D
      have Hg := iq (And.intro (Nat.lt_of_lt_of_le Hg.out.1 HX0.out.size) ((HX0.out.cell (p := ⟨g, o + 121, none⟩) Hg.out.1).trans Hg.out.2))
      have Hg2 := iq (And.intro (Nat.lt_of_lt_of_le Hg2.out.1 HX0.out.size) ((HX0.out.cell (p := ⟨g2, o2 + 121, none⟩) Hg2.out.1).trans Hg2.out.2))
      have Hcq := iq ((HX0.out.cell (p := ⟨w.heap.size, q, none⟩) HB.out.2).trans Hcq.out)
      have HBx := iq (Nat.lt_of_lt_of_le HB.out.2 HX0.out.size)
      refine wpAny_of_held (S := fun W => Below x0.heap.size x0 W) _ _ _ _ ?_
      refine tk 0 ⟨some 13, .move (.tmp 7), _, _, _, none⟩ (.slice (some ⟨g, o, none⟩) nj cj) rfl (by kernel_rfl) (fun _ _ _ => id) bl (fun W hSW => by go_simp) ?_
      try simp only [pu, l0, l1, l2]
      refine tk 1 ⟨some 14, .call { callee := .builtin .len, args := #[.tmp 13], argTypes := #[90] }, _, _, _, none⟩ (.int .i64 (nj : Int)) rfl (by kernel_rfl) (fun _ _ _ => id) bl (fun W hSW => by go_simp) ?_
      try simp only [pu, l0, l1, l2]
      refine tk 2 ⟨some 15, .binOp .gtr 3 (.tmp 14) (.const (.int .i64 0)) 3, _, _, _, none⟩ (.bool true) rfl (by kernel_rfl) (fun _ _ _ => id) bl (fun W hSW => by have hn := HN0.out; have hn2 := HN0n.out; go_simp) ?_
      try simp only [pu, l0, l1, l2]
      refine tk 3 ⟨some 16, .move (.tmp 15), _, _, _, none⟩ (.bool true) rfl (by kernel_rfl) (fun _ _ _ => id) bl (fun W hSW => by go_simp) ?_
      try simp only [pu, l0, l1, l2]
      refine tk 4 ⟨some 17, .move (.tmp 5), _, _, _, some (3, true)⟩ (.bool true) rfl (by kernel_rfl) (fun _ _ _ => id) bl (fun W hSW => by go_simp) ?_
      try simp only [pu, l0, l1, l2]
      refine tk 5 ⟨some 18, .unOp .not 4 (.tmp 17), _, _, _, some (3, true)⟩ (.bool false) rfl (by kernel_rfl) (fun _ _ _ => id) bl (fun W hSW => by go_simp) ?_
      try simp only [pu, l0, l1, l2]
      refine tk 6 ⟨some 19, .move (.tmp 18), _, _, _, some (3, true)⟩ (.bool false) rfl (by kernel_rfl) (fun _ _ _ => id) bl (fun W hSW => by go_simp) ?_
      try simp only [pu, l0, l1, l2]
      refine tk 7 ⟨some 20, .move (.tmp 7), _, _, _, some (6, false)⟩ (.slice (some ⟨g, o, none⟩) nj cj) rfl (by kernel_rfl) (fun _ _ _ => id) bl (fun W hSW => by go_simp) ?_
      try simp only [pu, l0, l1, l2]
      refine tk 8 ⟨some 21, .indexAddr 90 (.tmp 20) (.const (.int .i64 0)), _, _, _, some (6, false)⟩ (.pointer (some ⟨g, o, none⟩)) rfl (by kernel_rfl) (fun _ _ _ => id) bl (fun W hSW => by have hn := HN0.out; have hn2 := HN0n.out; go_simp) ?_
      try simp only [pu, l0, l1, l2]
      refine tk 9 ⟨some 22, .fieldAddr 98 (.tmp 21) 1, _, _, _, some (6, false)⟩ (.pointer (some ⟨g, o + 121, none⟩)) rfl (by kernel_rfl) (fun _ _ _ => id) bl (fun W hSW => by go_simp) ?_
      try simp only [pu, l0, l1, l2]
      refine tk 10 ⟨some 23, .load 3 (.tmp 22), _, _, _, some (6, false)⟩ (.int .i64 (x : Int)) rfl (by kernel_rfl) (fun _ _ _ => id) bl (fun W hSW => by have hv := (hSW.cell (p := ⟨g, o + 121, none⟩) Hg.out.1).trans Hg.out.2; go_simp) ?_
      try simp only [pu, l0, l1, l2]
      refine tk 11 ⟨some 24, .move (.tmp 4), _, _, _, some (6, false)⟩ (.int .i64 (q : Int)) rfl (by kernel_rfl) (fun _ _ _ => id) bl (fun W hSW => by go_simp) ?_
      try simp only [pu, l0, l1, l2]
      refine tk 12 ⟨some 25, .indexAddr 91 (.tmp 1) (.tmp 24), _, _, _, some (6, false)⟩ (.pointer (some ⟨w.heap.size, q, none⟩)) rfl (by kernel_rfl) (fun _ _ _ => id) bl (fun W hSW => by have hq := Hq.out; have hq1 : (0 : Int) <= (q : Int) := (by omega); have hq2 : (q : Int) < 11 := (by omega); have hq3 : (q : Int).toNat = q := (by omega); go_simp) ?_
      try simp only [pu, l0, l1, l2]
      refine tk 13 ⟨some 26, .load 90 (.tmp 25), _, _, _, some (6, false)⟩ (.slice (some ⟨g2, o2, none⟩) nq cq) rfl (by kernel_rfl) (fun _ _ _ => id) bl (fun W hSW => by have hv := (hSW.cell (p := ⟨w.heap.size, q, none⟩) HBx.out).trans Hcq.out; go_simp) ?_
      try simp only [pu, l0, l1, l2]
      refine tk 14 ⟨some 27, .indexAddr 90 (.tmp 26) (.const (.int .i64 0)), _, _, _, some (6, false)⟩ (.pointer (some ⟨g2, o2, none⟩)) rfl (by kernel_rfl) (fun _ _ _ => id) bl (fun W hSW => by have hn := HNq.out; have hn2 := HNqn.out; go_simp) ?_
      try simp only [pu, l0, l1, l2]
      refine tk 15 ⟨some 28, .fieldAddr 98 (.tmp 27) 1, _, _, _, some (6, false)⟩ (.pointer (some ⟨g2, o2 + 121, none⟩)) rfl (by kernel_rfl) (fun _ _ _ => id) bl (fun W hSW => by go_simp) ?_
      try simp only [pu, l0, l1, l2]
      refine tk 16 ⟨some 29, .load 3 (.tmp 28), _, _, _, some (6, false)⟩ (.int .i64 (y : Int)) rfl (by kernel_rfl) (fun _ _ _ => id) bl (fun W hSW => by have hv := (hSW.cell (p := ⟨g2, o2 + 121, none⟩) Hg2.out.1).trans Hg2.out.2; go_simp) ?_
      try simp only [pu, l0, l1, l2]
      refine tk 17 ⟨some 30, .binOp .lss 3 (.tmp 23) (.tmp 29) 3, _, _, _, some (6, false)⟩ (.bool true) rfl (by kernel_rfl) (fun _ _ _ => id) bl (fun W hSW => by have hlt := HLt.out; have hlt2 := HLtn.out; go_simp) ?_
      try simp only [pu, l0, l1, l2]
      refine tk 18 ⟨some 31, .pick (.tmp 19) (.const (.bool true)) (.tmp 30), _, _, _, some (3, true)⟩ (.bool true) rfl (by kernel_rfl) (fun _ _ _ => id) bl (fun W hSW => by go_simp) ?_
      try simp only [pu, l0, l1, l2]
      refine tk 19 ⟨some 32, .pick (.tmp 16) (.tmp 31) (.const (.bool false)), _, _, _, none⟩ (.bool true) rfl (by kernel_rfl) (fun _ _ _ => id) bl (fun W hSW => by go_simp) ?_
      try simp only [pu, l0, l1, l2]
      refine wpAnyH_done (by kernel_rfl) ?_ _
      go_wp2_with fail
      go_roundw
      case measure => simp [intOf] <;> omega
      case rel => exact ⟨j + 1, j, true, by omega, by go_num, rfl, rfl, HEn, HX0⟩
     ·have HEn : Hid (er N P (j + 1) = (q, true)) := iq (by rw [HEs.out, if_neg (fun u => u.2.elim (fun v => by cases v) hlt)])
      have HLt : Hid (¬ ((x : Int) < (y : Int))) := iq (by omega)
      have HLtn := iq hlt
      clear hn0 hnn hlt
      go_wp2_with fail
      refine wp_region_any (by kernel_rfl) ?_
      change wpAny _ _ _ _ _ _ _ (World.drewN _ 1)
      refine held_gen (G := fun W' => wpAny _ _ _ _ _ _ _ W') (fun W' => Below w0.heap.size w0 W') (below_drewN D.out 1) (fun x0 hw => ?_)
      have HX0 := iq hw
      clear hw D
      have Hg := iq (And.intro (Nat.lt_of_lt_of_le Hg.out.1 HX0.out.size) ((HX0.out.cell (p := ⟨g, o + 121, none⟩) Hg.out.1).trans Hg.out.2))
      have Hg2 := iq (And.intro (Nat.lt_of_lt_of_le Hg2.out.1 HX0.out.size) ((HX0.out.cell (p := ⟨g2, o2 + 121, none⟩) Hg2.out.1).trans Hg2.out.2))
      have Hcq := iq ((HX0.out.cell (p := ⟨w.heap.size, q, none⟩) HB.out.2).trans Hcq.out)
      have HBx := iq (Nat.lt_of_lt_of_le HB.out.2 HX0.out.size)
      refine wpAny_of_held (S := fun W => Below x0.heap.size x0 W) _ _ _ _ ?_
      refine tk 0 ⟨some 13, .move (.tmp 7), _, _, _, none⟩ (.slice (some ⟨g, o, none⟩) nj cj) rfl (by kernel_rfl) (fun _ _ _ => id) bl (fun W hSW => by go_simp) ?_
      try simp only [pu, l0, l1, l2]
      refine tk 1 ⟨some 14, .call { callee := .builtin .len, args := #[.tmp 13], argTypes := #[90] }, _, _, _, none⟩ (.int .i64 (nj : Int)) rfl (by kernel_rfl) (fun _ _ _ => id) bl (fun W hSW => by go_simp) ?_
      try simp only [pu, l0, l1, l2]
      refine tk 2 ⟨some 15, .binOp .gtr 3 (.tmp 14) (.const (.int .i64 0)) 3, _, _, _, none⟩ (.bool true) rfl (by kernel_rfl) (fun _ _ _ => id) bl (fun W hSW => by have hn := HN0.out; have hn2 := HN0n.out; go_simp) ?_
      try simp only [pu, l0, l1, l2]
      refine tk 3 ⟨some 16, .move (.tmp 15), _, _, _, none⟩ (.bool true) rfl (by kernel_rfl) (fun _ _ _ => id) bl (fun W hSW => by go_simp) ?_
      try simp only [pu, l0, l1, l2]
      refine tk 4 ⟨some 17, .move (.tmp 5), _, _, _, some (3, true)⟩ (.bool true) rfl (by kernel_rfl) (fun _ _ _ => id) bl (fun W hSW => by go_simp) ?_
      try simp only [pu, l0, l1, l2]
      refine tk 5 ⟨some 18, .unOp .not 4 (.tmp 17), _, _, _, some (3, true)⟩ (.bool false) rfl (by kernel_rfl) (fun _ _ _ => id) bl (fun W hSW => by go_simp) ?_
      try simp only [pu, l0, l1, l2]
      refine tk 6 ⟨some 19, .move (.tmp 18), _, _, _, some (3, true)⟩ (.bool false) rfl (by kernel_rfl) (fun _ _ _ => id) bl (fun W hSW => by go_simp) ?_
      try simp only [pu, l0, l1, l2]
      refine tk 7 ⟨some 20, .move (.tmp 7), _, _, _, some (6, false)⟩ (.slice (some ⟨g, o, none⟩) nj cj) rfl (by kernel_rfl) (fun _ _ _ => id) bl (fun W hSW => by go_simp) ?_
      try simp only [pu, l0, l1, l2]
      refine tk 8 ⟨some 21, .indexAddr 90 (.tmp 20) (.const (.int .i64 0)), _, _, _, some (6, false)⟩ (.pointer (some ⟨g, o, none⟩)) rfl (by kernel_rfl) (fun _ _ _ => id) bl (fun W hSW => by have hn := HN0.out; have hn2 := HN0n.out; go_simp) ?_
      try simp only [pu, l0, l1, l2]
      refine tk 9 ⟨some 22, .fieldAddr 98 (.tmp 21) 1, _, _, _, some (6, false)⟩ (.pointer (some ⟨g, o + 121, none⟩)) rfl (by kernel_rfl) (fun _ _ _ => id) bl (fun W hSW => by go_simp) ?_
      try simp only [pu, l0, l1, l2]
      refine tk 10 ⟨some 23, .load 3 (.tmp 22), _, _, _, some (6, false)⟩ (.int .i64 (x : Int)) rfl (by kernel_rfl) (fun _ _ _ => id) bl (fun W hSW => by have hv := (hSW.cell (p := ⟨g, o + 121, none⟩) Hg.out.1).trans Hg.out.2; go_simp) ?_
      try simp only [pu, l0, l1, l2]
      refine tk 11 ⟨some 24, .move (.tmp 4), _, _, _, some (6, false)⟩ (.int .i64 (q : Int)) rfl (by kernel_rfl) (fun _ _ _ => id) bl (fun W hSW => by go_simp) ?_
      try simp only [pu, l0, l1, l2]
      refine tk 12 ⟨some 25, .indexAddr 91 (.tmp 1) (.tmp 24), _, _, _, some (6, false)⟩ (.pointer (some ⟨w.heap.size, q, none⟩)) rfl (by kernel_rfl) (fun _ _ _ => id) bl (fun W hSW => by have hq := Hq.out; have hq1 : (0 : Int) <= (q : Int) := (by omega); have hq2 : (q : Int) < 11 := (by omega); have hq3 : (q : Int).toNat = q := (by omega); go_simp) ?_
      try simp only [pu, l0, l1, l2]
      refine tk 13 ⟨some 26, .load 90 (.tmp 25), _, _, _, some (6, false)⟩ (.slice (some ⟨g2, o2, none⟩) nq cq) rfl (by kernel_rfl) (fun _ _ _ => id) bl (fun W hSW => by have hv := (hSW.cell (p := ⟨w.heap.size, q, none⟩) HBx.out).trans Hcq.out; go_simp) ?_
      try simp only [pu, l0, l1, l2]
      refine tk 14 ⟨some 27, .indexAddr 90 (.tmp 26) (.const (.int .i64 0)), _, _, _, some (6, false)⟩ (.pointer (some ⟨g2, o2, none⟩)) rfl (by kernel_rfl) (fun _ _ _ => id) bl (fun W hSW => by have hn := HNq.out; have hn2 := HNqn.out; go_simp) ?_
      try simp only [pu, l0, l1, l2]
      refine tk 15 ⟨some 28, .fieldAddr 98 (.tmp 27) 1, _, _, _, some (6, false)⟩ (.pointer (some ⟨g2, o2 + 121, none⟩)) rfl (by kernel_rfl) (fun _ _ _ => id) bl (fun W hSW => by go_simp) ?_
      try simp only [pu, l0, l1, l2]
      refine tk 16 ⟨some 29, .load 3 (.tmp 28), _, _, _, some (6, false)⟩ (.int .i64 (y : Int)) rfl (by kernel_rfl) (fun _ _ _ => id) bl (fun W hSW => by have hv := (hSW.cell (p := ⟨g2, o2 + 121, none⟩) Hg2.out.1).trans Hg2.out.2; go_simp) ?_
      try simp only [pu, l0, l1, l2]
      refine tk 17 ⟨some 30, .binOp .lss 3 (.tmp 23) (.tmp 29) 3, _, _, _, some (6, false)⟩ (.bool false) rfl (by kernel_rfl) (fun _ _ _ => id) bl (fun W hSW => by have hlt := HLt.out; have hlt2 := HLtn.out; go_simp) ?_
      try simp only [pu, l0, l1, l2]
      refine tk 18 ⟨some 31, .pick (.tmp 19) (.const (.bool true)) (.tmp 30), _, _, _, some (3, true)⟩ (.bool false) rfl (by kernel_rfl) (fun _ _ _ => id) bl (fun W hSW => by go_simp) ?_
      try simp only [pu, l0, l1, l2]
      refine tk 19 ⟨some 32, .pick (.tmp 16) (.tmp 31) (.const (.bool false)), _, _, _, none⟩ (.bool false) rfl (by kernel_rfl) (fun _ _ _ => id) bl (fun W hSW => by go_simp) ?_
      try simp only [pu, l0, l1, l2]
      refine wpAnyH_done (by kernel_rfl) ?_ _
      go_wp2_with fail
      go_roundw
      case measure => simp [intOf] <;> omega
      case rel => exact ⟨j + 1, q, true, by omega, by go_num, rfl, rfl, HEn, HX0⟩
   ·have HN0 : Hid (¬ ((nj : Int) > 0)) := iq (by omega)
    have HN0n := iq hn0
    have HEn : Hid (er N P (j + 1) = (q, z)) := iq (by rw [HEs.out, if_neg (fun x => hn0 x.1)])
    clear hn0
    go_wp2_with fail
    refine wp_region_any (by kernel_rfl) ?_
    change wpAny _ _ _ _ _ _ _ (World.drewN _ 1)
    refine held_gen (G := fun W' => wpAny _ _ _ _ _ _ _ W') (fun W' => Below w0.heap.size w0 W') (below_drewN D.out 1) (fun x0 hw => ?_)
    have HX0 := iq hw
    clear hw D
    refine wpAny_of_held (S := fun W => Below x0.heap.size x0 W) _ _ _ _ ?_
    refine tk 0 ⟨some 13, .move (.tmp 7), _, _, _, none⟩ (.slice aj nj cj) rfl (by kernel_rfl) (fun _ _ _ => id) bl (fun W hSW => by go_simp) ?_
    try simp only [pu, l0, l1, l2]
    refine tk 1 ⟨some 14, .call { callee := .builtin .len, args := #[.tmp 13], argTypes := #[90] }, _, _, _, none⟩ (.int .i64 (nj : Int)) rfl (by kernel_rfl) (fun _ _ _ => id) bl (fun W hSW => by go_simp) ?_
    try simp only [pu, l0, l1, l2]
    refine tk 2 ⟨some 15, .binOp .gtr 3 (.tmp 14) (.const (.int .i64 0)) 3, _, _, _, none⟩ (.bool false) rfl (by kernel_rfl) (fun _ _ _ => id) bl (fun W hSW => by have hn := HN0.out; have hn2 := HN0n.out; go_simp) ?_
    try simp only [pu, l0, l1, l2]
    refine tk 3 ⟨some 16, .move (.tmp 15), _, _, _, none⟩ (.bool false) rfl (by kernel_rfl) (fun _ _ _ => id) bl (fun W hSW => by go_simp) ?_
    try simp only [pu, l0, l1, l2]
    refine sk 4 ⟨some 17, .move (.tmp 5), _, _, _, some (3, true)⟩ rfl (by kernel_rfl) (fun _ _ _ => id) bl ?_
    try simp only [pu, l0, l1, l2]
    refine sk 5 ⟨some 18, .unOp .not 4 (.tmp 17), _, _, _, some (3, true)⟩ rfl (by kernel_rfl) (fun _ _ _ => id) bl ?_
    try simp only [pu, l0, l1, l2]
    refine sk 6 ⟨some 19, .move (.tmp 18), _, _, _, some (3, true)⟩ rfl (by kernel_rfl) (fun _ _ _ => id) bl ?_
    try simp only [pu, l0, l1, l2]
    refine sk 7 ⟨some 20, .move (.tmp 7), _, _, _, some (6, false)⟩ rfl (by kernel_rfl) (fun _ _ _ => id) bl ?_
    try simp only [pu, l0, l1, l2]
    refine sk 8 ⟨some 21, .indexAddr 90 (.tmp 20) (.const (.int .i64 0)), _, _, _, some (6, false)⟩ rfl (by kernel_rfl) (fun _ _ _ => id) bl ?_
    try simp only [pu, l0, l1, l2]
    refine sk 9 ⟨some 22, .fieldAddr 98 (.tmp 21) 1, _, _, _, some (6, false)⟩ rfl (by kernel_rfl) (fun _ _ _ => id) bl ?_
    try simp only [pu, l0, l1, l2]
    refine sk 10 ⟨some 23, .load 3 (.tmp 22), _, _, _, some (6, false)⟩ rfl (by kernel_rfl) (fun _ _ _ => id) bl ?_
    try simp only [pu, l0, l1, l2]
    refine sk 11 ⟨some 24, .move (.tmp 4), _, _, _, some (6, false)⟩ rfl (by kernel_rfl) (fun _ _ _ => id) bl ?_
    try simp only [pu, l0, l1, l2]
    refine sk 12 ⟨some 25, .indexAddr 91 (.tmp 1) (.tmp 24), _, _, _, some (6, false)⟩ rfl (by kernel_rfl) (fun _ _ _ => id) bl ?_
    try simp only [pu, l0, l1, l2]
    refine sk 13 ⟨some 26, .load 90 (.tmp 25), _, _, _, some (6, false)⟩ rfl (by kernel_rfl) (fun _ _ _ => id) bl ?_
    try simp only [pu, l0, l1, l2]
    refine sk 14 ⟨some 27, .indexAddr 90 (.tmp 26) (.const (.int .i64 0)), _, _, _, some (6, false)⟩ rfl (by kernel_rfl) (fun _ _ _ => id) bl ?_
    try simp only [pu, l0, l1, l2]
    refine sk 15 ⟨some 28, .fieldAddr 98 (.tmp 27) 1, _, _, _, some (6, false)⟩ rfl (by kernel_rfl) (fun _ _ _ => id) bl ?_
    try simp only [pu, l0, l1, l2]
    refine sk 16 ⟨some 29, .load 3 (.tmp 28), _, _, _, some (6, false)⟩ rfl (by kernel_rfl) (fun _ _ _ => id) bl ?_
    try simp only [pu, l0, l1, l2]
    refine sk 17 ⟨some 30, .binOp .lss 3 (.tmp 23) (.tmp 29) 3, _, _, _, some (6, false)⟩ rfl (by kernel_rfl) (fun _ _ _ => id) bl ?_
    try simp only [pu, l0, l1, l2]
    refine sk 18 ⟨some 31, .pick (.tmp 19) (.const (.bool true)) (.tmp 30), _, _, _, some (3, true)⟩ rfl (by kernel_rfl) (fun _ _ _ => id) bl ?_
    try simp only [pu, l0, l1, l2]
    refine tk 19 ⟨some 32, .pick (.tmp 16) (.tmp 31) (.const (.bool false)), _, _, _, none⟩ (.bool false) rfl (by kernel_rfl) (fun _ _ _ => id) bl (fun W hSW => by go_simp) ?_
    try simp only [pu, l0, l1, l2]
    refine wpAnyH_done (by kernel_rfl) ?_ _
    go_wp2_with fail
    go_roundw
    case measure => simp [intOf] <;> omega
    case rel => exact ⟨j + 1, q, z, by omega, by go_num, rfl, rfl, HEn, HX0⟩
  ·obtain rfl : j = 11 := by omega
   go_wp2_with fail
   refine bodyPost_ret (results_tmp2 rfl _ _ _) rfl ?_
   exact ⟨by rw [HEr.out]; rfl, HB.out.1.trans (D.out.mono HB.out.1.size)⟩
end Go.Proofs.YtllbbcifcbkgeaaGreatDoor.Sh
