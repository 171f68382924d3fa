/- Laws and walks. -/
import Derived.Test.YtllbbcifcbkgeaaGreatDoorF4a
set_option maxHeartbeats 16000000
set_option maxRecDepth 100000
namespace Go.Proofs.YtllbbcifcbkgeaaGreatDoor.Sh
open Go.RowKit
def nms (n : Nat) (m : MMsg) : Bool := decide (m.origin <= (n : Int)) && (!(m.body.qs.any fun p => decide (p.1 > (n : Int))) && !((m.deps.drop n).any fun x => decide (0 < x)))
theorem nms_no (n : Nat) (m : MMsg) (h : ¬ m.origin <= (n : Int)) : nms n m = false := by simp [nms, h]
theorem nms_q {n : Nat} {m : MMsg} (h : (m.body.qs.any fun p => decide (p.1 > (n : Int))) = true) : nms n m = false := by simp [nms, h]
theorem nms_d {n : Nat} {m : MMsg} (h : m.origin <= (n : Int)) (h2 : (m.body.qs.any fun p => decide (p.1 > (n : Int))) = false) : nms n m = !((m.deps.drop n).any fun x => decide (0 < x)) := by simp [nms, h, h2]
theorem slice_deps (W : World) (g o n : Nat) (hn : n < 11) : (Instr.sliceAt 27 (.pointer (some ⟨g, o, none⟩)) (some (.int .i64 (n : Int))) none none).run Tryz.prog W = .ok (.slice (some ⟨g, o + n, none⟩) (11 - n) (11 - n)) W := by
 have hl : Tryz.prog.arrayLen 27 = 11 := by kernel_rfl
 rw [run_sliceAt_array_l W 27 ⟨g, o, none⟩ (by kernel_rfl) .i64 (n : Int) (by omega) (by rw [hl]; omega)]
 have hs : (sizeOf (Tryz.prog.elem 27)).run Tryz.prog W = .ok 1 W := by kernel_rfl
 rw [hs, hl]
 simp only [Result.andThen_ok, slicedAt, Int.toNat_natCast, Nat.mul_one, Addr.add]
 rw [if_neg (by omega)]
 by_cases h0 : n = 0
 ·rw [if_pos h0, h0]
  rfl
 ·rw [if_neg h0]
theorem rangeAt_below' {w : World} {g o : Nat} {cs : List Value} (h : w.rangeAt g o cs) (hg : g < w.heap.size) (W : World) (hb : Below w.heap.size w W) : W.rangeAt g o cs := fun j v hv => (hb.cell (p := ⟨g, o + j, none⟩) hg).trans (h j v hv)
theorem LoreAt.lt {W : World} {b n : Nat} {A : Nat -> Option Addr} {C : Nat -> Nat} {L : List MMsg} (h : LoreAt W b n A C L) : b < W.heap.size := (Array.getElem?_eq_some_iff.1 h.top).1
theorem names_any {w : World} {b n : Nat} {A : Nat -> Option Addr} {C : Nat -> Nat} {L : List MMsg} (h : LoreAt w b n A C L) (m : MMsg) (hm : m.Wf) (hq : Prs w m.body.qa m.body.qs) (hn : m.body.qs.length <= 140737488355328) :
  Calls Tryz.prog 42 #[.pointer (some ⟨b, 0, none⟩), .agg (msgC m).toArray] w fun E w' => E = .returned (.bool (nms n m)) /\ Below w.heap.size w w' := by
 have R := two_boxed w [.pointer (some ⟨b, 0, none⟩)] (msgC m) 36 52
 have HB0 : Below w.heap.size w ((w.alloc (.cells #[.pointer (some ⟨b, 0, none⟩)] 36)).alloc (.cells (msgC m).toArray 52)) := (bl.alloc (Nat.le_refl _) _).alloc (by simp) _
 obtain ⟨w0, hw0⟩ : ∃ w0, w0 = ((w.alloc (.cells #[.pointer (some ⟨b, 0, none⟩)] 36)).alloc (.cells (msgC m).toArray 52)) := ⟨_, rfl⟩
 have hsz : w.heap.size + 1 < w0.heap.size := by rw [hw0]; simp
 have HE := iq hw0
 rw [show ([.pointer (some ⟨b, 0, none⟩)] : List Value).toArray = #[.pointer (some ⟨b, 0, none⟩)] from rfl, <- hw0] at R
 rw [<- hw0] at HB0
 have Lm := msg_lies R.2 hm
 have HO : Hid (w0.cell? ⟨w.heap.size + 1, 0, none⟩ = some (.int .i64 m.origin) /\ w.heap.size + 1 < w0.heap.size) := iq ⟨Lm.origin, hsz⟩
 have HP : Hid (w0.cell? ⟨w.heap.size, 0, none⟩ = some (.pointer (some ⟨b, 0, none⟩)) /\ w.heap.size < w0.heap.size) := iq ⟨R.1 0 _ rfl, by omega⟩
 have HN : Hid (w0.cell? ⟨b, 0, none⟩ = some (.int .i64 (n : Int)) /\ b < w0.heap.size) := iq ⟨(HB0.cell (p := ⟨b, 0, none⟩) (h.lt)).trans h.cellN, Nat.lt_of_lt_of_le h.lt HB0.size⟩
 have hn11 := h.n11
 obtain ⟨M, hM⟩ : ∃ M, M = m.body.qs.length := ⟨_, rfl⟩
 have HQv : Hid (w0.cell? ⟨w.heap.size + 1, 56, none⟩ = some (.slice m.body.qa M m.body.qc) /\ w.heap.size + 1 < w0.heap.size) := iq ⟨by rw [hM]; exact Lm.body.q, hsz⟩
 have HC1 : Hid (∀ W, Below w0.heap.size w0 W -> Calls Tryz.prog 66 #[.slice m.body.qa M m.body.qc, .func (.func 64) #[] #[.pointer (some ⟨w.heap.size, 0, none⟩)]] W fun E w' => E = .returned (.bool (m.body.qs.any fun p => decide (p.1 > (n : Int)))) /\ Below W.heap.size W w') := iq fun W hb => by rw [hM]; exact cfP_any _ _ _ n b _ W ((hq.below HB0).below hb) hn ((hb.cell (p := ⟨w.heap.size, 0, none⟩) HP.out.2).trans HP.out.1) (Nat.lt_of_lt_of_le HP.out.2 hb.size) ((hb.cell (p := ⟨b, 0, none⟩) HN.out.2).trans HN.out.1) (Nat.lt_of_lt_of_le HN.out.2 hb.size)
 have HD := iq (rangeAt_below' Lm.deps hsz)
 have HDl := iq hm.1
 have HBw := iq HB0
 clear R hw0 HB0 Lm h hq hn hM hm hsz
 go_enter Tryz.func42, Tryz.ntmps42
 by_cases hle : m.origin <= (n : Int)
 ·have HLe := iq hle
  have HNm2 := iq (nms_d (n := n) (m := m) hle)
  have HNq := iq (nms_q (n := n) (m := m))
  clear hle
  obtain ⟨zq, hzq⟩ : ∃ z, z = (m.body.qs.any fun p => decide (p.1 > (n : Int))) := ⟨_, rfl⟩
  rw [<- hzq] at HC1 HNm2 HNq
  clear hzq
  cases zq with
  | true =>
   rw [HNq.out rfl]
   go_wp2_with fail
   rw [<- HE.out]
   refine wp_region_any (by kernel_rfl) ?_
   change wpAny _ _ _ _ _ _ _ (World.drewN _ 1)
   refine held_gen (G := fun W' => wpAny _ _ _ _ _ _ _ W') (fun W' => Below w0.heap.size w0 W') (below_drewN bl 1) (fun x0 hw => ?_)
   have HX := iq hw
   clear hw
   refine wpAny_of_held (S := fun W => Below x0.heap.size x0 W) _ _ _ _ ?_
   refine tk 0 ⟨some 8, .fieldAddr 52 (.tmp 3) 0, _, _, _, none⟩ (.pointer (some ⟨w.heap.size + 1, 0, none⟩)) rfl (by kernel_rfl) (fun _ _ _ => id) bl (fun W hSW => by go_simp) ?_
   try simp only [Act.put, l0, l1, l2]
   refine tk 1 ⟨some 9, .load 3 (.tmp 8), _, _, _, none⟩ (.int .i64 m.origin) rfl (by kernel_rfl) (fun _ _ _ => id) bl (fun W hSW => by have hb0 := HX.out.trans (hSW.mono HX.out.size); have hv := (hb0.cell (p := ⟨w.heap.size + 1, 0, none⟩) HO.out.2).trans HO.out.1; go_simp) ?_
   try simp only [pu, l0, l1, l2]
   refine tk 2 ⟨some 10, .load 36 (.tmp 2), _, _, _, none⟩ (.pointer (some ⟨b, 0, none⟩)) rfl (by kernel_rfl) (fun _ _ _ => id) bl (fun W hSW => by have hb0 := HX.out.trans (hSW.mono HX.out.size); have hv := (hb0.cell (p := ⟨w.heap.size, 0, none⟩) HP.out.2).trans HP.out.1; go_simp) ?_
   try simp only [pu, l0, l1, l2]
   refine tk 3 ⟨some 11, .nilCheck (.tmp 10), _, _, _, none⟩ (.pointer (some ⟨b, 0, none⟩)) rfl (by kernel_rfl) (fun _ _ _ => id) bl (fun W hSW => by go_simp) ?_
   try simp only [pu, l0, l1, l2]
   refine tk 4 ⟨some 12, .fieldAddr 93 (.tmp 11) 0, _, _, _, none⟩ (.pointer (some ⟨b, 0, none⟩)) rfl (by kernel_rfl) (fun _ _ _ => id) bl (fun W hSW => by go_simp) ?_
   try simp only [pu, l0, l1, l2]
   refine tk 5 ⟨some 13, .load 3 (.tmp 12), _, _, _, none⟩ (.int .i64 (n : Int)) rfl (by kernel_rfl) (fun _ _ _ => id) bl (fun W hSW => by have hb0 := HX.out.trans (hSW.mono HX.out.size); have hv := (hb0.cell (p := ⟨b, 0, none⟩) HN.out.2).trans HN.out.1; go_simp) ?_
   try simp only [pu, l0, l1, l2]
   refine tk 6 ⟨some 14, .binOp .leq 3 (.tmp 9) (.tmp 13) 3, _, _, _, none⟩ (.bool true) rfl (by kernel_rfl) (fun _ _ _ => id) bl (fun W hSW => by have hle := HLe.out; go_simp) ?_
   try simp only [pu, l0, l1, l2]
   refine tk 7 ⟨some 15, .move (.tmp 14), _, _, _, none⟩ (.bool true) rfl (by kernel_rfl) (fun _ _ _ => id) bl (fun W hSW => by go_simp) ?_
   try simp only [pu, l0, l1, l2]
   refine tk 8 ⟨some 16, .fieldAddr 52 (.tmp 3) 3, _, _, _, some (7, true)⟩ (.pointer (some ⟨w.heap.size + 1, 13, none⟩)) rfl (by kernel_rfl) (fun _ _ _ => id) bl (fun W hSW => by go_simp) ?_
   try simp only [pu, l0, l1, l2]
   refine tk 9 ⟨some 17, .fieldAddr 50 (.tmp 16) 4, _, _, _, some (7, true)⟩ (.pointer (some ⟨w.heap.size + 1, 56, none⟩)) rfl (by kernel_rfl) (fun _ _ _ => id) bl (fun W hSW => by go_simp) ?_
   try simp only [pu, l0, l1, l2]
   refine tk 10 ⟨some 18, .load 48 (.tmp 17), _, _, _, some (7, true)⟩ (.slice m.body.qa M m.body.qc) rfl (by kernel_rfl) (fun _ _ _ => id) bl (fun W hSW => by have hb0 := HX.out.trans (hSW.mono HX.out.size); have hv := (hb0.cell (p := ⟨w.heap.size + 1, 56, none⟩) HQv.out.2).trans HQv.out.1; go_simp) ?_
   try simp only [pu, l0, l1, l2]
   refine tk 11 ⟨some 19, .move (.tmp 5), _, _, _, some (7, true)⟩ (.func (.func 64) #[] #[.pointer (some ⟨w.heap.size, 0, none⟩)]) rfl (by kernel_rfl) (fun _ _ _ => id) bl (fun W hSW => by go_simp) ?_
   try simp only [pu, l0, l1, l2]
   refine rd1 12 ⟨some 20, .call { callee := .value (.func 66), args := #[.tmp 18, .tmp 19], argTypes := #[48, 110] }, _, _, _, some (7, true)⟩ (by kernel_rfl) rfl fun K' hK' => ?_
   go_simp
   go_at_call 66
   refine (HC1.out _ HX.out).mono ?_
   rintro E x1 ⟨rfl, b1⟩
   have NB := iq b1
   have HX := iq (HX.out.trans (b1.mono HX.out.size))
   clear b1
   refine hK'.out _ _ (NB.out) (fun _ => wpAnyH_next NB.out ?_)
   clear hK' K' NB
   try simp only [Act.put, l0, l1, l2]
   refine tk 13 ⟨some 21, .unOp .not 4 (.tmp 20), _, _, _, some (7, true)⟩ (.bool false) rfl (by kernel_rfl) (fun _ _ _ => id) bl (fun W hSW => by go_simp) ?_
   try simp only [pu, l0, l1, l2]
   refine tk 14 ⟨some 22, .pick (.tmp 15) (.tmp 21) (.const (.bool false)), _, _, _, none⟩ (.bool false) rfl (by kernel_rfl) (fun _ _ _ => id) bl (fun W hSW => by go_simp) ?_
   try simp only [pu, l0, l1, l2]
   refine tk 15 ⟨some 23, .move (.tmp 22), _, _, _, none⟩ (.bool false) rfl (by kernel_rfl) (fun _ _ _ => id) bl (fun W hSW => by go_simp) ?_
   try simp only [pu, l0, l1, l2]
   refine sk 16 ⟨some 24, .fieldAddr 52 (.tmp 3) 2, _, _, _, some (15, true)⟩ rfl (by kernel_rfl) (fun _ _ _ => id) bl ?_
   try simp only [pu, l0, l1, l2]
   refine sk 17 ⟨some 25, .load 36 (.tmp 2), _, _, _, some (15, true)⟩ rfl (by kernel_rfl) (fun _ _ _ => id) bl ?_
   try simp only [pu, l0, l1, l2]
   refine sk 18 ⟨some 26, .nilCheck (.tmp 25), _, _, _, some (15, true)⟩ rfl (by kernel_rfl) (fun _ _ _ => id) bl ?_
   try simp only [pu, l0, l1, l2]
   refine sk 19 ⟨some 27, .fieldAddr 93 (.tmp 26) 0, _, _, _, some (15, true)⟩ rfl (by kernel_rfl) (fun _ _ _ => id) bl ?_
   try simp only [pu, l0, l1, l2]
   refine sk 20 ⟨some 28, .load 3 (.tmp 27), _, _, _, some (15, true)⟩ rfl (by kernel_rfl) (fun _ _ _ => id) bl ?_
   try simp only [pu, l0, l1, l2]
   refine sk 21 ⟨some 29, .slice 27 (.tmp 24) (some (.tmp 28)) none none, _, _, _, some (15, true)⟩ rfl (by kernel_rfl) (fun _ _ _ => id) bl ?_
   try simp only [pu, l0, l1, l2]
   refine sk 22 ⟨some 30, .move (.tmp 6), _, _, _, some (15, true)⟩ rfl (by kernel_rfl) (fun _ _ _ => id) bl ?_
   try simp only [pu, l0, l1, l2]
   refine sk 23 ⟨some 31, .call { callee := .value (.func 67), args := #[.tmp 29, .tmp 30], argTypes := #[119, 116] }, _, _, _, some (15, true)⟩ rfl (by kernel_rfl) (fun _ _ _ => id) bl ?_
   try simp only [pu, l0, l1, l2]
   refine sk 24 ⟨some 32, .unOp .not 4 (.tmp 31), _, _, _, some (15, true)⟩ rfl (by kernel_rfl) (fun _ _ _ => id) bl ?_
   try simp only [pu, l0, l1, l2]
   refine tk 25 ⟨some 33, .pick (.tmp 23) (.tmp 32) (.const (.bool false)), _, _, _, none⟩ (.bool false) rfl (by kernel_rfl) (fun _ _ _ => id) bl (fun W hSW => by go_simp) ?_
   try simp only [pu, l0, l1, l2]
   refine tk 26 ⟨some 4, .assign (.tmp 33), _, _, _, none⟩ (.bool false) rfl (by kernel_rfl) (fun _ _ _ => id) bl (fun W hSW => by go_simp) ?_
   try simp only [pu, l0, l1, l2]
   refine wpAnyH_done (by kernel_rfl) ?_ _
   go_wp2_with fail
   go_ret
   exact ⟨rfl, HBw.out.trans (HX.out.mono HBw.out.size)⟩
  | false =>
   by_cases hnn : n = 11
   ·have HNn := iq hnn
    clear hnn
    rw [HNm2.out rfl]
    obtain ⟨zd, hzd⟩ : ∃ z, z = ((m.deps.drop n).any fun x => decide (0 < x)) := ⟨_, rfl⟩
    rw [<- hzd]
    have HC2 : Hid (∀ W, Below w0.heap.size w0 W -> Calls Tryz.prog 67 #[.slice (some ⟨w.heap.size + 1, 2, none⟩) 0 0, .func (.func 65) #[] #[]] W fun E w' => E = .returned (.bool zd) /\ Below W.heap.size W w') := iq fun W hb => by
     have := cfU_any ([] : List Nat) (w.heap.size + 1) 2 W (fun j v hv => by cases hv) (Nat.lt_of_lt_of_le HO.out.2 hb.size) (by simp)
     rw [hzd, HNn.out, List.drop_of_length_le (by rw [HDl.out]; exact Nat.le_refl _)]
     exact this
    clear hzd
    go_wp2_with fail
    rw [<- HE.out]
    refine wp_region_any (by kernel_rfl) ?_
    change wpAny _ _ _ _ _ _ _ (World.drewN _ 1)
    refine held_gen (G := fun W' => wpAny _ _ _ _ _ _ _ W') (fun W' => Below w0.heap.size w0 W') (below_drewN bl 1) (fun x0 hw => ?_)
    have HX := iq hw
    clear hw
    refine wpAny_of_held (S := fun W => Below x0.heap.size x0 W) _ _ _ _ ?_
    refine tk 0 ⟨some 8, .fieldAddr 52 (.tmp 3) 0, _, _, _, none⟩ (.pointer (some ⟨w.heap.size + 1, 0, none⟩)) rfl (by kernel_rfl) (fun _ _ _ => id) bl (fun W hSW => by go_simp) ?_
    try simp only [Act.put, l0, l1, l2]
    refine tk 1 ⟨some 9, .load 3 (.tmp 8), _, _, _, none⟩ (.int .i64 m.origin) rfl (by kernel_rfl) (fun _ _ _ => id) bl (fun W hSW => by have hb0 := HX.out.trans (hSW.mono HX.out.size); have hv := (hb0.cell (p := ⟨w.heap.size + 1, 0, none⟩) HO.out.2).trans HO.out.1; go_simp) ?_
    try simp only [pu, l0, l1, l2]
    refine tk 2 ⟨some 10, .load 36 (.tmp 2), _, _, _, none⟩ (.pointer (some ⟨b, 0, none⟩)) rfl (by kernel_rfl) (fun _ _ _ => id) bl (fun W hSW => by have hb0 := HX.out.trans (hSW.mono HX.out.size); have hv := (hb0.cell (p := ⟨w.heap.size, 0, none⟩) HP.out.2).trans HP.out.1; go_simp) ?_
    try simp only [pu, l0, l1, l2]
    refine tk 3 ⟨some 11, .nilCheck (.tmp 10), _, _, _, none⟩ (.pointer (some ⟨b, 0, none⟩)) rfl (by kernel_rfl) (fun _ _ _ => id) bl (fun W hSW => by go_simp) ?_
    try simp only [pu, l0, l1, l2]
    refine tk 4 ⟨some 12, .fieldAddr 93 (.tmp 11) 0, _, _, _, none⟩ (.pointer (some ⟨b, 0, none⟩)) rfl (by kernel_rfl) (fun _ _ _ => id) bl (fun W hSW => by go_simp) ?_
    try simp only [pu, l0, l1, l2]
    refine tk 5 ⟨some 13, .load 3 (.tmp 12), _, _, _, none⟩ (.int .i64 (n : Int)) rfl (by kernel_rfl) (fun _ _ _ => id) bl (fun W hSW => by have hb0 := HX.out.trans (hSW.mono HX.out.size); have hv := (hb0.cell (p := ⟨b, 0, none⟩) HN.out.2).trans HN.out.1; go_simp) ?_
    try simp only [pu, l0, l1, l2]
    refine tk 6 ⟨some 14, .binOp .leq 3 (.tmp 9) (.tmp 13) 3, _, _, _, none⟩ (.bool true) rfl (by kernel_rfl) (fun _ _ _ => id) bl (fun W hSW => by have hle := HLe.out; go_simp) ?_
    try simp only [pu, l0, l1, l2]
    refine tk 7 ⟨some 15, .move (.tmp 14), _, _, _, none⟩ (.bool true) rfl (by kernel_rfl) (fun _ _ _ => id) bl (fun W hSW => by go_simp) ?_
    try simp only [pu, l0, l1, l2]
    refine tk 8 ⟨some 16, .fieldAddr 52 (.tmp 3) 3, _, _, _, some (7, true)⟩ (.pointer (some ⟨w.heap.size + 1, 13, none⟩)) rfl (by kernel_rfl) (fun _ _ _ => id) bl (fun W hSW => by go_simp) ?_
    try simp only [pu, l0, l1, l2]
    refine tk 9 ⟨some 17, .fieldAddr 50 (.tmp 16) 4, _, _, _, some (7, true)⟩ (.pointer (some ⟨w.heap.size + 1, 56, none⟩)) rfl (by kernel_rfl) (fun _ _ _ => id) bl (fun W hSW => by go_simp) ?_
    try simp only [pu, l0, l1, l2]
    refine tk 10 ⟨some 18, .load 48 (.tmp 17), _, _, _, some (7, true)⟩ (.slice m.body.qa M m.body.qc) rfl (by kernel_rfl) (fun _ _ _ => id) bl (fun W hSW => by have hb0 := HX.out.trans (hSW.mono HX.out.size); have hv := (hb0.cell (p := ⟨w.heap.size + 1, 56, none⟩) HQv.out.2).trans HQv.out.1; go_simp) ?_
    try simp only [pu, l0, l1, l2]
    refine tk 11 ⟨some 19, .move (.tmp 5), _, _, _, some (7, true)⟩ (.func (.func 64) #[] #[.pointer (some ⟨w.heap.size, 0, none⟩)]) rfl (by kernel_rfl) (fun _ _ _ => id) bl (fun W hSW => by go_simp) ?_
    try simp only [pu, l0, l1, l2]
    refine rd1 12 ⟨some 20, .call { callee := .value (.func 66), args := #[.tmp 18, .tmp 19], argTypes := #[48, 110] }, _, _, _, some (7, true)⟩ (by kernel_rfl) rfl fun K' hK' => ?_
    go_simp
    go_at_call 66
    refine (HC1.out _ HX.out).mono ?_
    rintro E x1 ⟨rfl, b1⟩
    have NB := iq b1
    have HX := iq (HX.out.trans (b1.mono HX.out.size))
    clear b1
    refine hK'.out _ _ (NB.out) (fun _ => wpAnyH_next NB.out ?_)
    clear hK' K' NB
    try simp only [Act.put, l0, l1, l2]
    refine tk 13 ⟨some 21, .unOp .not 4 (.tmp 20), _, _, _, some (7, true)⟩ (.bool true) rfl (by kernel_rfl) (fun _ _ _ => id) bl (fun W hSW => by go_simp) ?_
    try simp only [pu, l0, l1, l2]
    refine tk 14 ⟨some 22, .pick (.tmp 15) (.tmp 21) (.const (.bool false)), _, _, _, none⟩ (.bool true) rfl (by kernel_rfl) (fun _ _ _ => id) bl (fun W hSW => by go_simp) ?_
    try simp only [pu, l0, l1, l2]
    refine tk 15 ⟨some 23, .move (.tmp 22), _, _, _, none⟩ (.bool true) rfl (by kernel_rfl) (fun _ _ _ => id) bl (fun W hSW => by go_simp) ?_
    try simp only [pu, l0, l1, l2]
    refine tk 16 ⟨some 24, .fieldAddr 52 (.tmp 3) 2, _, _, _, some (15, true)⟩ (.pointer (some ⟨w.heap.size + 1, 2, none⟩)) rfl (by kernel_rfl) (fun _ _ _ => id) bl (fun W hSW => by go_simp) ?_
    try simp only [pu, l0, l1, l2]
    refine tk 17 ⟨some 25, .load 36 (.tmp 2), _, _, _, some (15, true)⟩ (.pointer (some ⟨b, 0, none⟩)) rfl (by kernel_rfl) (fun _ _ _ => id) bl (fun W hSW => by have hb0 := HX.out.trans (hSW.mono HX.out.size); have hv := (hb0.cell (p := ⟨w.heap.size, 0, none⟩) HP.out.2).trans HP.out.1; go_simp) ?_
    try simp only [pu, l0, l1, l2]
    refine tk 18 ⟨some 26, .nilCheck (.tmp 25), _, _, _, some (15, true)⟩ (.pointer (some ⟨b, 0, none⟩)) rfl (by kernel_rfl) (fun _ _ _ => id) bl (fun W hSW => by go_simp) ?_
    try simp only [pu, l0, l1, l2]
    refine tk 19 ⟨some 27, .fieldAddr 93 (.tmp 26) 0, _, _, _, some (15, true)⟩ (.pointer (some ⟨b, 0, none⟩)) rfl (by kernel_rfl) (fun _ _ _ => id) bl (fun W hSW => by go_simp) ?_
    try simp only [pu, l0, l1, l2]
    refine tk 20 ⟨some 28, .load 3 (.tmp 27), _, _, _, some (15, true)⟩ (.int .i64 (n : Int)) rfl (by kernel_rfl) (fun _ _ _ => id) bl (fun W hSW => by have hb0 := HX.out.trans (hSW.mono HX.out.size); have hv := (hb0.cell (p := ⟨b, 0, none⟩) HN.out.2).trans HN.out.1; go_simp) ?_
    try simp only [pu, l0, l1, l2]
    refine tk 21 ⟨some 29, .slice 27 (.tmp 24) (some (.tmp 28)) none none, _, _, _, some (15, true)⟩ (.slice (some ⟨w.heap.size + 1, 2, none⟩) 0 0) rfl (by kernel_rfl) (fun _ _ _ => id) bl (fun W hSW => by have hn1 := HNn.out; go_simp) ?_
    try simp only [pu, l0, l1, l2]
    refine tk 22 ⟨some 30, .move (.tmp 6), _, _, _, some (15, true)⟩ (.func (.func 65) #[] #[]) rfl (by kernel_rfl) (fun _ _ _ => id) bl (fun W hSW => by go_simp) ?_
    try simp only [pu, l0, l1, l2]
    refine rd1 23 ⟨some 31, .call { callee := .value (.func 67), args := #[.tmp 29, .tmp 30], argTypes := #[119, 116] }, _, _, _, some (15, true)⟩ (by kernel_rfl) rfl fun K' hK' => ?_
    go_simp
    go_at_call 67
    refine (HC2.out _ HX.out).mono ?_
    rintro E x2 ⟨rfl, b2⟩
    have NB := iq b2
    have HX := iq (HX.out.trans (b2.mono HX.out.size))
    clear b2
    refine hK'.out _ _ (NB.out) (fun _ => wpAnyH_next NB.out ?_)
    clear hK' K' NB
    try simp only [Act.put, l0, l1, l2]
    refine tk 24 ⟨some 32, .unOp .not 4 (.tmp 31), _, _, _, some (15, true)⟩ (.bool (!zd)) rfl (by kernel_rfl) (fun _ _ _ => id) bl (fun W hSW => by go_simp) ?_
    try simp only [pu, l0, l1, l2]
    refine tk 25 ⟨some 33, .pick (.tmp 23) (.tmp 32) (.const (.bool false)), _, _, _, none⟩ (.bool (!zd)) rfl (by kernel_rfl) (fun _ _ _ => id) bl (fun W hSW => by go_simp) ?_
    try simp only [pu, l0, l1, l2]
    refine tk 26 ⟨some 4, .assign (.tmp 33), _, _, _, none⟩ (.bool (!zd)) rfl (by kernel_rfl) (fun _ _ _ => id) bl (fun W hSW => by go_simp) ?_
    try simp only [pu, l0, l1, l2]
    refine wpAnyH_done (by kernel_rfl) ?_ _
    go_wp2_with fail
    go_ret
    exact ⟨rfl, HBw.out.trans (HX.out.mono HBw.out.size)⟩
   ·have HNn : Hid (n < 11) := iq (by omega)
    have HNm : Hid (¬ ((11 : Int) = (n : Int))) := iq (by omega)
    have HNk : Hid (¬ (11 = n)) := iq (by omega)
    clear hnn
    rw [HNm2.out rfl]
    obtain ⟨zd, hzd⟩ : ∃ z, z = ((m.deps.drop n).any fun x => decide (0 < x)) := ⟨_, rfl⟩
    rw [<- hzd]
    have HC2 : Hid (∀ W, Below w0.heap.size w0 W -> Calls Tryz.prog 67 #[.slice (some ⟨w.heap.size + 1, 2 + n, none⟩) (11 - n) (11 - n), .func (.func 65) #[] #[]] W fun E w' => E = .returned (.bool zd) /\ Below W.heap.size W w') := iq fun W hb => by
     have hl : (m.deps.drop n).length = 11 - n := by rw [List.length_drop, HDl.out]
     have := cfU_any (m.deps.drop n) (w.heap.size + 1) (2 + n) W (fun j v hv => by
      have := HD.out W hb (n + j) v (by rw [u64s, List.getElem?_map, <- List.getElem?_drop]; rw [u64s, List.getElem?_map] at hv; exact hv)
      rwa [<- Nat.add_assoc] at this) (Nat.lt_of_lt_of_le HO.out.2 hb.size) (by omega)
     rw [hl] at this
     rw [hzd]
     exact this
    clear hzd
    go_wp2_with fail
    rw [<- HE.out]
    refine wp_region_any (by kernel_rfl) ?_
    change wpAny _ _ _ _ _ _ _ (World.drewN _ 1)
    refine held_gen (G := fun W' => wpAny _ _ _ _ _ _ _ W') (fun W' => Below w0.heap.size w0 W') (below_drewN bl 1) (fun x0 hw => ?_)
    have HX := iq hw
    clear hw
    refine wpAny_of_held (S := fun W => Below x0.heap.size x0 W) _ _ _ _ ?_
    refine tk 0 ⟨some 8, .fieldAddr 52 (.tmp 3) 0, _, _, _, none⟩ (.pointer (some ⟨w.heap.size + 1, 0, none⟩)) rfl (by kernel_rfl) (fun _ _ _ => id) bl (fun W hSW => by go_simp) ?_
    try simp only [Act.put, l0, l1, l2]
    refine tk 1 ⟨some 9, .load 3 (.tmp 8), _, _, _, none⟩ (.int .i64 m.origin) rfl (by kernel_rfl) (fun _ _ _ => id) bl (fun W hSW => by have hb0 := HX.out.trans (hSW.mono HX.out.size); have hv := (hb0.cell (p := ⟨w.heap.size + 1, 0, none⟩) HO.out.2).trans HO.out.1; go_simp) ?_
    try simp only [pu, l0, l1, l2]
    refine tk 2 ⟨some 10, .load 36 (.tmp 2), _, _, _, none⟩ (.pointer (some ⟨b, 0, none⟩)) rfl (by kernel_rfl) (fun _ _ _ => id) bl (fun W hSW => by have hb0 := HX.out.trans (hSW.mono HX.out.size); have hv := (hb0.cell (p := ⟨w.heap.size, 0, none⟩) HP.out.2).trans HP.out.1; go_simp) ?_
    try simp only [pu, l0, l1, l2]
    refine tk 3 ⟨some 11, .nilCheck (.tmp 10), _, _, _, none⟩ (.pointer (some ⟨b, 0, none⟩)) rfl (by kernel_rfl) (fun _ _ _ => id) bl (fun W hSW => by go_simp) ?_
    try simp only [pu, l0, l1, l2]
    refine tk 4 ⟨some 12, .fieldAddr 93 (.tmp 11) 0, _, _, _, none⟩ (.pointer (some ⟨b, 0, none⟩)) rfl (by kernel_rfl) (fun _ _ _ => id) bl (fun W hSW => by go_simp) ?_
    try simp only [pu, l0, l1, l2]
    refine tk 5 ⟨some 13, .load 3 (.tmp 12), _, _, _, none⟩ (.int .i64 (n : Int)) rfl (by kernel_rfl) (fun _ _ _ => id) bl (fun W hSW => by have hb0 := HX.out.trans (hSW.mono HX.out.size); have hv := (hb0.cell (p := ⟨b, 0, none⟩) HN.out.2).trans HN.out.1; go_simp) ?_
    try simp only [pu, l0, l1, l2]
    refine tk 6 ⟨some 14, .binOp .leq 3 (.tmp 9) (.tmp 13) 3, _, _, _, none⟩ (.bool true) rfl (by kernel_rfl) (fun _ _ _ => id) bl (fun W hSW => by have hle := HLe.out; go_simp) ?_
    try simp only [pu, l0, l1, l2]
    refine tk 7 ⟨some 15, .move (.tmp 14), _, _, _, none⟩ (.bool true) rfl (by kernel_rfl) (fun _ _ _ => id) bl (fun W hSW => by go_simp) ?_
    try simp only [pu, l0, l1, l2]
    refine tk 8 ⟨some 16, .fieldAddr 52 (.tmp 3) 3, _, _, _, some (7, true)⟩ (.pointer (some ⟨w.heap.size + 1, 13, none⟩)) rfl (by kernel_rfl) (fun _ _ _ => id) bl (fun W hSW => by go_simp) ?_
    try simp only [pu, l0, l1, l2]
    refine tk 9 ⟨some 17, .fieldAddr 50 (.tmp 16) 4, _, _, _, some (7, true)⟩ (.pointer (some ⟨w.heap.size + 1, 56, none⟩)) rfl (by kernel_rfl) (fun _ _ _ => id) bl (fun W hSW => by go_simp) ?_
    try simp only [pu, l0, l1, l2]
    refine tk 10 ⟨some 18, .load 48 (.tmp 17), _, _, _, some (7, true)⟩ (.slice m.body.qa M m.body.qc) rfl (by kernel_rfl) (fun _ _ _ => id) bl (fun W hSW => by have hb0 := HX.out.trans (hSW.mono HX.out.size); have hv := (hb0.cell (p := ⟨w.heap.size + 1, 56, none⟩) HQv.out.2).trans HQv.out.1; go_simp) ?_
    try simp only [pu, l0, l1, l2]
    refine tk 11 ⟨some 19, .move (.tmp 5), _, _, _, some (7, true)⟩ (.func (.func 64) #[] #[.pointer (some ⟨w.heap.size, 0, none⟩)]) rfl (by kernel_rfl) (fun _ _ _ => id) bl (fun W hSW => by go_simp) ?_
    try simp only [pu, l0, l1, l2]
    refine rd1 12 ⟨some 20, .call { callee := .value (.func 66), args := #[.tmp 18, .tmp 19], argTypes := #[48, 110] }, _, _, _, some (7, true)⟩ (by kernel_rfl) rfl fun K' hK' => ?_
    go_simp
    go_at_call 66
    refine (HC1.out _ HX.out).mono ?_
    rintro E x1 ⟨rfl, b1⟩
    have NB := iq b1
    have HX := iq (HX.out.trans (b1.mono HX.out.size))
    clear b1
    refine hK'.out _ _ (NB.out) (fun _ => wpAnyH_next NB.out ?_)
    clear hK' K' NB
    try simp only [Act.put, l0, l1, l2]
    refine tk 13 ⟨some 21, .unOp .not 4 (.tmp 20), _, _, _, some (7, true)⟩ (.bool true) rfl (by kernel_rfl) (fun _ _ _ => id) bl (fun W hSW => by go_simp) ?_
    try simp only [pu, l0, l1, l2]
    refine tk 14 ⟨some 22, .pick (.tmp 15) (.tmp 21) (.const (.bool false)), _, _, _, none⟩ (.bool true) rfl (by kernel_rfl) (fun _ _ _ => id) bl (fun W hSW => by go_simp) ?_
    try simp only [pu, l0, l1, l2]
    refine tk 15 ⟨some 23, .move (.tmp 22), _, _, _, none⟩ (.bool true) rfl (by kernel_rfl) (fun _ _ _ => id) bl (fun W hSW => by go_simp) ?_
    try simp only [pu, l0, l1, l2]
    refine tk 16 ⟨some 24, .fieldAddr 52 (.tmp 3) 2, _, _, _, some (15, true)⟩ (.pointer (some ⟨w.heap.size + 1, 2, none⟩)) rfl (by kernel_rfl) (fun _ _ _ => id) bl (fun W hSW => by go_simp) ?_
    try simp only [pu, l0, l1, l2]
    refine tk 17 ⟨some 25, .load 36 (.tmp 2), _, _, _, some (15, true)⟩ (.pointer (some ⟨b, 0, none⟩)) rfl (by kernel_rfl) (fun _ _ _ => id) bl (fun W hSW => by have hb0 := HX.out.trans (hSW.mono HX.out.size); have hv := (hb0.cell (p := ⟨w.heap.size, 0, none⟩) HP.out.2).trans HP.out.1; go_simp) ?_
    try simp only [pu, l0, l1, l2]
    refine tk 18 ⟨some 26, .nilCheck (.tmp 25), _, _, _, some (15, true)⟩ (.pointer (some ⟨b, 0, none⟩)) rfl (by kernel_rfl) (fun _ _ _ => id) bl (fun W hSW => by go_simp) ?_
    try simp only [pu, l0, l1, l2]
    refine tk 19 ⟨some 27, .fieldAddr 93 (.tmp 26) 0, _, _, _, some (15, true)⟩ (.pointer (some ⟨b, 0, none⟩)) rfl (by kernel_rfl) (fun _ _ _ => id) bl (fun W hSW => by go_simp) ?_
    try simp only [pu, l0, l1, l2]
    refine tk 20 ⟨some 28, .load 3 (.tmp 27), _, _, _, some (15, true)⟩ (.int .i64 (n : Int)) rfl (by kernel_rfl) (fun _ _ _ => id) bl (fun W hSW => by have hb0 := HX.out.trans (hSW.mono HX.out.size); have hv := (hb0.cell (p := ⟨b, 0, none⟩) HN.out.2).trans HN.out.1; go_simp) ?_
    try simp only [pu, l0, l1, l2]
    refine tk 21 ⟨some 29, .slice 27 (.tmp 24) (some (.tmp 28)) none none, _, _, _, some (15, true)⟩ (.slice (some ⟨w.heap.size + 1, 2 + n, none⟩) (11 - n) (11 - n)) rfl (by kernel_rfl) (fun _ _ _ => id) bl (fun W hSW => by have hsl := slice_deps W (w.heap.size + 1) 2 n HNn.out; go_simp) ?_
    try simp only [pu, l0, l1, l2]
    refine tk 22 ⟨some 30, .move (.tmp 6), _, _, _, some (15, true)⟩ (.func (.func 65) #[] #[]) rfl (by kernel_rfl) (fun _ _ _ => id) bl (fun W hSW => by go_simp) ?_
    try simp only [pu, l0, l1, l2]
    refine rd1 23 ⟨some 31, .call { callee := .value (.func 67), args := #[.tmp 29, .tmp 30], argTypes := #[119, 116] }, _, _, _, some (15, true)⟩ (by kernel_rfl) rfl fun K' hK' => ?_
    go_simp
    go_at_call 67
    refine (HC2.out _ HX.out).mono ?_
    rintro E x2 ⟨rfl, b2⟩
    have NB := iq b2
    have HX := iq (HX.out.trans (b2.mono HX.out.size))
    clear b2
    refine hK'.out _ _ (NB.out) (fun _ => wpAnyH_next NB.out ?_)
    clear hK' K' NB
    try simp only [Act.put, l0, l1, l2]
    refine tk 24 ⟨some 32, .unOp .not 4 (.tmp 31), _, _, _, some (15, true)⟩ (.bool (!zd)) rfl (by kernel_rfl) (fun _ _ _ => id) bl (fun W hSW => by go_simp) ?_
    try simp only [pu, l0, l1, l2]
    refine tk 25 ⟨some 33, .pick (.tmp 23) (.tmp 32) (.const (.bool false)), _, _, _, none⟩ (.bool (!zd)) rfl (by kernel_rfl) (fun _ _ _ => id) bl (fun W hSW => by go_simp) ?_
    try simp only [pu, l0, l1, l2]
    refine tk 26 ⟨some 4, .assign (.tmp 33), _, _, _, none⟩ (.bool (!zd)) rfl (by kernel_rfl) (fun _ _ _ => id) bl (fun W hSW => by go_simp) ?_
    try simp only [pu, l0, l1, l2]
    refine wpAnyH_done (by kernel_rfl) ?_ _
    go_wp2_with fail
    go_ret
    exact ⟨rfl, HBw.out.trans (HX.out.mono HBw.out.size)⟩
 ·have HLe := iq hle
  rw [nms_no n m hle]
  clear hle
  go_wp2_with fail
  rw [<- HE.out]
  refine wp_region_any (by kernel_rfl) ?_
  change wpAny _ _ _ _ _ _ _ (World.drewN _ 1)
  refine held_gen (G := fun W' => wpAny _ _ _ _ _ _ _ W') (fun W' => Below w0.heap.size w0 W') (below_drewN bl 1) (fun x0 hw => ?_)
  have HX := iq hw
  clear hw
  refine wpAny_of_held (S := fun W => Below x0.heap.size x0 W) _ _ _ _ ?_
  refine tk 0 ⟨some 8, .fieldAddr 52 (.tmp 3) 0, _, _, _, none⟩ (.pointer (some ⟨w.heap.size + 1, 0, none⟩)) rfl (by kernel_rfl) (fun _ _ _ => id) bl (fun W hSW => by go_simp) ?_
  try simp only [Act.put, l0, l1, l2]
  refine tk 1 ⟨some 9, .load 3 (.tmp 8), _, _, _, none⟩ (.int .i64 m.origin) rfl (by kernel_rfl) (fun _ _ _ => id) bl (fun W hSW => by have hb0 := HX.out.trans (hSW.mono HX.out.size); have hv := (hb0.cell (p := ⟨w.heap.size + 1, 0, none⟩) HO.out.2).trans HO.out.1; go_simp) ?_
  try simp only [pu, l0, l1, l2]
  refine tk 2 ⟨some 10, .load 36 (.tmp 2), _, _, _, none⟩ (.pointer (some ⟨b, 0, none⟩)) rfl (by kernel_rfl) (fun _ _ _ => id) bl (fun W hSW => by have hb0 := HX.out.trans (hSW.mono HX.out.size); have hv := (hb0.cell (p := ⟨w.heap.size, 0, none⟩) HP.out.2).trans HP.out.1; go_simp) ?_
  try simp only [pu, l0, l1, l2]
  refine tk 3 ⟨some 11, .nilCheck (.tmp 10), _, _, _, none⟩ (.pointer (some ⟨b, 0, none⟩)) rfl (by kernel_rfl) (fun _ _ _ => id) bl (fun W hSW => by go_simp) ?_
  try simp only [pu, l0, l1, l2]
  refine tk 4 ⟨some 12, .fieldAddr 93 (.tmp 11) 0, _, _, _, none⟩ (.pointer (some ⟨b, 0, none⟩)) rfl (by kernel_rfl) (fun _ _ _ => id) bl (fun W hSW => by go_simp) ?_
  try simp only [pu, l0, l1, l2]
  refine tk 5 ⟨some 13, .load 3 (.tmp 12), _, _, _, none⟩ (.int .i64 (n : Int)) rfl (by kernel_rfl) (fun _ _ _ => id) bl (fun W hSW => by have hb0 := HX.out.trans (hSW.mono HX.out.size); have hv := (hb0.cell (p := ⟨b, 0, none⟩) HN.out.2).trans HN.out.1; go_simp) ?_
  try simp only [pu, l0, l1, l2]
  refine tk 6 ⟨some 14, .binOp .leq 3 (.tmp 9) (.tmp 13) 3, _, _, _, none⟩ (.bool false) rfl (by kernel_rfl) (fun _ _ _ => id) bl (fun W hSW => by have hle := HLe.out; go_simp) ?_
  try simp only [pu, l0, l1, l2]
  refine tk 7 ⟨some 15, .move (.tmp 14), _, _, _, none⟩ (.bool false) rfl (by kernel_rfl) (fun _ _ _ => id) bl (fun W hSW => by go_simp) ?_
  try simp only [pu, l0, l1, l2]
  refine sk 8 ⟨some 16, .fieldAddr 52 (.tmp 3) 3, _, _, _, some (7, true)⟩ rfl (by kernel_rfl) (fun _ _ _ => id) bl ?_
  try simp only [pu, l0, l1, l2]
  refine sk 9 ⟨some 17, .fieldAddr 50 (.tmp 16) 4, _, _, _, some (7, true)⟩ rfl (by kernel_rfl) (fun _ _ _ => id) bl ?_
  try simp only [pu, l0, l1, l2]
  refine sk 10 ⟨some 18, .load 48 (.tmp 17), _, _, _, some (7, true)⟩ rfl (by kernel_rfl) (fun _ _ _ => id) bl ?_
  try simp only [pu, l0, l1, l2]
  refine sk 11 ⟨some 19, .move (.tmp 5), _, _, _, some (7, true)⟩ rfl (by kernel_rfl) (fun _ _ _ => id) bl ?_
  try simp only [pu, l0, l1, l2]
  refine sk 12 ⟨some 20, .call { callee := .value (.func 66), args := #[.tmp 18, .tmp 19], argTypes := #[48, 110] }, _, _, _, some (7, true)⟩ rfl (by kernel_rfl) (fun _ _ _ => id) bl ?_
  try simp only [pu, l0, l1, l2]
  refine sk 13 ⟨some 21, .unOp .not 4 (.tmp 20), _, _, _, some (7, true)⟩ rfl (by kernel_rfl) (fun _ _ _ => id) bl ?_
  try simp only [pu, l0, l1, l2]
  refine tk 14 ⟨some 22, .pick (.tmp 15) (.tmp 21) (.const (.bool false)), _, _, _, none⟩ (.bool false) rfl (by kernel_rfl) (fun _ _ _ => id) bl (fun W hSW => by go_simp) ?_
  try simp only [pu, l0, l1, l2]
  refine tk 15 ⟨some 23, .move (.tmp 22), _, _, _, none⟩ (.bool false) rfl (by kernel_rfl) (fun _ _ _ => id) bl (fun W hSW => by go_simp) ?_
  try simp only [pu, l0, l1, l2]
  refine sk 16 ⟨some 24, .fieldAddr 52 (.tmp 3) 2, _, _, _, some (15, true)⟩ rfl (by kernel_rfl) (fun _ _ _ => id) bl ?_
  try simp only [pu, l0, l1, l2]
  refine sk 17 ⟨some 25, .load 36 (.tmp 2), _, _, _, some (15, true)⟩ rfl (by kernel_rfl) (fun _ _ _ => id) bl ?_
  try simp only [pu, l0, l1, l2]
  refine sk 18 ⟨some 26, .nilCheck (.tmp 25), _, _, _, some (15, true)⟩ rfl (by kernel_rfl) (fun _ _ _ => id) bl ?_
  try simp only [pu, l0, l1, l2]
  refine sk 19 ⟨some 27, .fieldAddr 93 (.tmp 26) 0, _, _, _, some (15, true)⟩ rfl (by kernel_rfl) (fun _ _ _ => id) bl ?_
  try simp only [pu, l0, l1, l2]
  refine sk 20 ⟨some 28, .load 3 (.tmp 27), _, _, _, some (15, true)⟩ rfl (by kernel_rfl) (fun _ _ _ => id) bl ?_
  try simp only [pu, l0, l1, l2]
  refine sk 21 ⟨some 29, .slice 27 (.tmp 24) (some (.tmp 28)) none none, _, _, _, some (15, true)⟩ rfl (by kernel_rfl) (fun _ _ _ => id) bl ?_
  try simp only [pu, l0, l1, l2]
  refine sk 22 ⟨some 30, .move (.tmp 6), _, _, _, some (15, true)⟩ rfl (by kernel_rfl) (fun _ _ _ => id) bl ?_
  try simp only [pu, l0, l1, l2]
  refine sk 23 ⟨some 31, .call { callee := .value (.func 67), args := #[.tmp 29, .tmp 30], argTypes := #[119, 116] }, _, _, _, some (15, true)⟩ rfl (by kernel_rfl) (fun _ _ _ => id) bl ?_
  try simp only [pu, l0, l1, l2]
  refine sk 24 ⟨some 32, .unOp .not 4 (.tmp 31), _, _, _, some (15, true)⟩ rfl (by kernel_rfl) (fun _ _ _ => id) bl ?_
  try simp only [pu, l0, l1, l2]
  refine tk 25 ⟨some 33, .pick (.tmp 23) (.tmp 32) (.const (.bool false)), _, _, _, none⟩ (.bool false) rfl (by kernel_rfl) (fun _ _ _ => id) bl (fun W hSW => by go_simp) ?_
  try simp only [pu, l0, l1, l2]
  refine tk 26 ⟨some 4, .assign (.tmp 33), _, _, _, none⟩ (.bool false) rfl (by kernel_rfl) (fun _ _ _ => id) bl (fun W hSW => by go_simp) ?_
  try simp only [pu, l0, l1, l2]
  refine wpAnyH_done (by kernel_rfl) ?_ _
  go_wp2_with fail
  go_ret
  exact ⟨rfl, HBw.out.trans (HX.out.mono HBw.out.size)⟩
end Go.Proofs.YtllbbcifcbkgeaaGreatDoor.Sh
