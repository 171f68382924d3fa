/- Laws and walks. -/
import Derived.Test.YtknpcmadghkaaaaGreatDoorLgw
import Derived.Test.YtknpcmadghkaaaaGreatDoorFbw
set_option maxHeartbeats 16000000
set_option maxRecDepth 100000
namespace Go.Proofs.YtknpcmadghkaaaaGreatDoor.Sh
open Go.RowKit
theorem take_any {α : Type} {p : α -> Bool} {l : List α} {j : Nat} {x : α} (hx : l[j]? = some x) : ((l.take (j + 1)).any p) = ((l.take j).any p || p x) := by
 simp [List.take_add_one, hx]
theorem pair_range {W : World} {g o : Nat} {a c : Value} (h1 : W.cell? ⟨g, o, none⟩ = some a) (h2 : W.cell? ⟨g, o + 1, none⟩ = some c) : W.rangeAt g o [a, c] := fun j v hv => by
 match j, hv with
 | 0, hv => injection hv with hv; rw [<- hv]; exact h1
 | 1, hv => injection hv with hv; rw [<- hv]; exact h2
theorem ifP_any (A : Option Addr) (c : Nat) (qs : List (Int × Nat)) (w : World) (hq : Prs w A qs) (hl : qs.length <= 140737488355328) (K : Nat) (caps : Array Value) (p : Int × Nat -> Bool) (hE : ∀ args W, (callFunc K args).run Tryz.prog W = .ok (.enter K args) W)
  (hp : ∀ q ∈ qs, ∀ W, Below w.heap.size w W -> Calls Tryz.prog K (#[.agg #[.int .i64 q.1, .int .u64 (q.2 : Int)]] ++ caps) W fun E w' => E = .returned (.bool (p q)) /\ Below W.heap.size W w') :
  Calls Tryz.prog 95 #[.slice A qs.length c, .func (.func K) #[] caps] w fun E w' => (∃ r : Int, E = .returned (.int .i64 r) /\ (0 <= r ↔ qs.any p = true)) /\ Below w.heap.size w w' := by
 have HQ := iq hq
 have HP := iq hp
 obtain ⟨m, hm⟩ : ∃ m, m = qs.length := ⟨_, rfl⟩
 have HM := iq hm
 rw [<- hm] at hl ⊢
 clear hq hp hm
 go_enter Tryz.func95, Tryz.ntmps95
 go_wp2_with fail
 go_loopw [8] (fun v8 wr => ∃ j : Nat, j <= m /\ v8 = .int .i64 (j : Int) /\ Hid ((qs.take j).any p = false) /\ Hid (Below w.heap.size w wr)) (fun v8 _ => m - (intOf v8).toNat)
 case atStart => exact ⟨0, by omega, rfl, iq rfl, iq bl⟩
 case round =>
  obtain ⟨j, hj, rfl, HF, D⟩ := hrel
  by_cases hjj : j < m
  ·have hdec : decide ((j : Int) < (m : Int)) = true := decide_eq_true (by omega)
   have hj0 : (0 : Int) <= (j : Int) := by omega
   have hjn : (j : Int) < (m : Int) := by omega
   have htn : ((j : Int)).toNat = j := by omega
   have hw1 : IntKind.i64.wrap ((j : Int) + 1) = (j : Int) + 1 := by rw [IntKind.wrap_i64]; omega
   obtain ⟨q, hq⟩ : ∃ q, qs[j]? = some q := ⟨_, List.getElem?_eq_getElem (by rw [<- HM.out]; omega)⟩
   obtain ⟨ab, o, rfl, hlt, hcs⟩ := HQ.out (by rw [<- HM.out]; omega)
   have hp1 := (hcs j q hq)
   have HR : Hid (wr.rangeAt ab (o + j * 2) [.int .i64 q.1, .int .u64 (q.2 : Int)]) := iq (pair_range ((D.out.cell (p := ⟨ab, o + j * 2, none⟩) hlt).trans hp1.1) ((D.out.cell (p := ⟨ab, o + j * 2 + 1, none⟩) hlt).trans hp1.2))
   have HI : Hid ((Tryz.prog.info? 78).map (·.size) = some ([.int .i64 q.1, .int .u64 (q.2 : Int)] : List Value).length) := iq (by kernel_rfl)
   have HT := iq (take_any (p := p) hq)
   have HC := iq (HP.out q (List.mem_of_getElem? hq) wr D.out)
   have HAny : Hid (p q = true -> qs.any p = true) := iq fun h => List.any_eq_true.2 ⟨q, List.mem_of_getElem? hq, h⟩
   clear hq hp1 hcs hlt
   cases hp0 : p q with
   | true =>
    have HP0 := iq hp0
    rw [hp0] at HC
    clear hp0
    go_wp2_with (first | ((with_reducible refine wpList_load_midG ?_ 78 (.tmp 14) ?_ ab (o + j * 2) ?_ [.int .i64 q.1, .int .u64 (q.2 : Int)] _ ?_ Tryz.underlying78 ?_ ?_ ?_); rotate_left; rfl; rfl; exact HR.out; rfl; exact HI.out; rotate_left; rfl) | (refine HC.out.mono ?_; rintro E w2 ⟨rfl, hb2⟩; have D2 := iq (D.out.trans (hb2.mono D.out.size)); clear hb2))
    go_ret
    exact ⟨⟨j, rfl, by rw [HAny.out HP0.out]; simp⟩, D2.out⟩
   | false =>
    have HF2 : Hid ((qs.take (j + 1)).any p = false) := iq (by rw [HT.out, HF.out, Bool.false_or]; exact hp0)
    rw [hp0] at HC
    clear hp0
    go_wp2_with (first | ((with_reducible refine wpList_load_midG ?_ 78 (.tmp 14) ?_ ab (o + j * 2) ?_ [.int .i64 q.1, .int .u64 (q.2 : Int)] _ ?_ Tryz.underlying78 ?_ ?_ ?_); rotate_left; rfl; rfl; exact HR.out; rfl; exact HI.out; rotate_left; rfl) | (refine HC.out.mono ?_; rintro E w2 ⟨rfl, hb2⟩; have D2 := iq (D.out.trans (hb2.mono D.out.size)); clear hb2))
    go_roundw
    case measure => simp [intOf] <;> omega
    case rel => exact ⟨j + 1, by omega, by go_num, HF2, D2⟩
  ·obtain rfl : j = m := by omega
   have HN0 : Hid (qs.any p = false) := iq (by have := HF.out; rwa [HM.out, List.take_length] at this)
   go_wp2_with fail
   go_ret
   exact ⟨⟨-1, rfl, by rw [HN0.out]; simp⟩, D.out⟩
theorem cfP_any (A : Option Addr) (c : Nat) (qs : List (Int × Nat)) (w : World) (hq : Prs w A qs) (hl : qs.length <= 140737488355328) (K : Nat) (caps : Array Value) (p : Int × Nat -> Bool) (hE : ∀ args W, (callFunc K args).run Tryz.prog W = .ok (.enter K args) W)
  (hp : ∀ q ∈ qs, ∀ W, Below w.heap.size w W -> Calls Tryz.prog K (#[.agg #[.int .i64 q.1, .int .u64 (q.2 : Int)]] ++ caps) W fun E w' => E = .returned (.bool (p q)) /\ Below W.heap.size W w') :
  Calls Tryz.prog 63 #[.slice A qs.length c, .func (.func K) #[] caps] w fun E w' => E = .returned (.bool (qs.any p)) /\ Below w.heap.size w w' := by
 have HC := iq (ifP_any A c qs w hq hl K caps p hE hp)
 obtain ⟨z, hz⟩ : ∃ z, z = qs.any p := ⟨_, rfl⟩
 rw [<- hz] at HC ⊢
 obtain ⟨m, hm⟩ : ∃ m, m = qs.length := ⟨_, rfl⟩
 rw [<- hm] at HC ⊢
 clear hq hz hm hl hp
 go_enter Tryz.func63, Tryz.ntmps63
 go_wp2_with (go_at_call 95; refine HC.out.mono ?_)
 rintro E w2 ⟨⟨r, rfl, hr⟩, hb⟩
 have HB := iq hb
 clear hb HC
 cases z with
 | true =>
  have h0 : r >= 0 := hr.2 rfl
  clear hr
  go_wp2_with fail
  go_ret
  exact ⟨rfl, HB.out⟩
 | false =>
  have h0 : ¬ r >= 0 := fun h => by have := hr.1 h; cases this
  have h1 : decide (0 <= r) = false := decide_eq_false h0
  clear hr
  go_wp2_with fail
  go_ret
  exact ⟨rfl, HB.out⟩
theorem names1_any (x : Int) (y : Nat) (n b g gr cap : Nat) (w : World) (hg : w.cell? ⟨g, 0, none⟩ = some (.pointer (some ⟨b, 0, none⟩))) (hg2 : g < w.heap.size) (hn : w.cell? ⟨b, 0, none⟩ = some (.slice (some ⟨gr, 0, none⟩) n cap)) (hn2 : b < w.heap.size) :
  Calls Tryz.prog 62 #[.agg #[.int .i64 x, .int .u64 (y : Int)], .pointer (some ⟨g, 0, none⟩)] w fun E w' => E = .returned (.bool (decide (x > (n : Int)))) /\ Below w.heap.size w w' := by
 have HB : Hid ((w.alloc (.cells #[.int .i64 x, .int .u64 (y : Int)] 78)).heap[w.heap.size]? = some (.cells #[.int .i64 x, .int .u64 (y : Int)] 78 (0, 0)) /\ Below w.heap.size w (w.alloc (.cells #[.int .i64 x, .int .u64 (y : Int)] 78)) /\ w.heap.size < (w.alloc (.cells #[.int .i64 x, .int .u64 (y : Int)] 78)).heap.size) := iq ⟨heap_alloc_new w _, bl.alloc (Nat.le_refl _) _, by simp⟩
 obtain ⟨w0, hw0⟩ : ∃ w0, w0 = w.alloc (.cells #[.int .i64 x, .int .u64 (y : Int)] 78) := ⟨_, rfl⟩
 have HE := iq hw0
 have HG : Hid (w0.cell? ⟨g, 0, none⟩ = some (.pointer (some ⟨b, 0, none⟩)) /\ g < w0.heap.size) := iq (by rw [hw0]; exact ⟨(HB.out.2.1.cell (p := ⟨g, 0, none⟩) hg2).trans hg, Nat.lt_of_lt_of_le hg2 HB.out.2.1.size⟩)
 have HN : Hid (w0.cell? ⟨b, 0, none⟩ = some (.slice (some ⟨gr, 0, none⟩) n cap) /\ b < w0.heap.size) := iq (by rw [hw0]; exact ⟨(HB.out.2.1.cell (p := ⟨b, 0, none⟩) hn2).trans hn, Nat.lt_of_lt_of_le hn2 HB.out.2.1.size⟩)
 rw [<- hw0] at HB
 clear hw0 hg hg2 hn hn2
 go_enter Tryz.func62, Tryz.ntmps62
 go_wp2_with fail
 rw [<- HE.out]
 refine wp_region_any (by kernel_rfl) ?_
 change wpAny _ _ _ _ _ _ _ (World.drewN _ 1)
 refine wpAny_of_held (S := fun W => Below w0.heap.size w0 W) _ _ _ _ ?_
 have H0 := iq (below_drewN (Below.refl w0.heap.size w0) 1)
 refine tk 0 ⟨some 4, .fieldAddr 78 (.tmp 2) 0, _, _, _, none⟩ (.pointer (some ⟨w.heap.size, 0, none⟩)) rfl (by kernel_rfl) (fun _ _ _ => id) (H0.out) (fun W hSW => by go_simp) ?_
 try simp only [Act.put, l0, l1, l2]
 refine tk 1 ⟨some 5, .load 3 (.tmp 4), _, _, _, none⟩ (.int .i64 x) rfl (by kernel_rfl) (fun _ _ _ => id) (H0.out) (fun W hSW => by have hv := (hSW.cell (p := ⟨w.heap.size, 0, none⟩) HB.out.2.2).trans (block_cell (C := [.int .i64 x, .int .u64 (y : Int)]) HB.out.1 0 _ rfl); go_simp) ?_
 try simp only [pu, l0, l1, l2]
 refine tk 2 ⟨some 6, .load 46 (.tmp 1), _, _, _, none⟩ (.pointer (some ⟨b, 0, none⟩)) rfl (by kernel_rfl) (fun _ _ _ => id) (H0.out) (fun W hSW => by have hv := (hSW.cell (p := ⟨g, 0, none⟩) HG.out.2).trans HG.out.1; go_simp) ?_
 try simp only [pu, l0, l1, l2]
 refine tk 3 ⟨some 7, .nilCheck (.tmp 6), _, _, _, none⟩ (.pointer (some ⟨b, 0, none⟩)) rfl (by kernel_rfl) (fun _ _ _ => id) (H0.out) (fun W hSW => by go_simp) ?_
 try simp only [pu, l0, l1, l2]
 refine tk 4 ⟨some 8, .fieldAddr 91 (.tmp 7) 0, _, _, _, none⟩ (.pointer (some ⟨b, 0, none⟩)) rfl (by kernel_rfl) (fun _ _ _ => id) (H0.out) (fun W hSW => by go_simp) ?_
 try simp only [pu, l0, l1, l2]
 refine tk 5 ⟨some 9, .load 89 (.tmp 8), _, _, _, none⟩ (.slice (some ⟨gr, 0, none⟩) n cap) rfl (by kernel_rfl) (fun _ _ _ => id) (H0.out) (fun W hSW => by have hv := (hSW.cell (p := ⟨b, 0, none⟩) HN.out.2).trans HN.out.1; go_simp) ?_
 try simp only [pu, l0, l1, l2]
 refine tk 6 ⟨some 10, .call { callee := .builtin .len, args := #[.tmp 9], argTypes := #[89] }, _, _, _, none⟩ (.int .i64 (n : Int)) rfl (by kernel_rfl) (fun _ _ _ => id) (H0.out) (fun W hSW => by go_simp) ?_
 try simp only [pu, l0, l1, l2]
 refine tk 7 ⟨some 11, .binOp .gtr 3 (.tmp 5) (.tmp 10) 3, _, _, _, none⟩ (.bool (decide (x > (n : Int)))) rfl (by kernel_rfl) (fun _ _ _ => id) (H0.out) (fun W hSW => by go_simp) ?_
 try simp only [pu, l0, l1, l2]
 refine tk 8 ⟨some 3, .assign (.tmp 11), _, _, _, none⟩ (.bool (decide (x > (n : Int)))) rfl (by kernel_rfl) (fun _ _ _ => id) (H0.out) (fun W hSW => by go_simp) ?_
 try simp only [pu, l0, l1, l2]
 refine wpAnyH_done (by kernel_rfl) ?_ _
 go_wp2_with fail
 go_ret
 exact ⟨rfl, HB.out.2.1.trans (H0.out.mono HB.out.2.1.size)⟩
def nms (n : Nat) (m : MMsg) : Bool := decide (m.origin <= (n : Int)) && !(m.body.qs.any fun p => decide (p.1 > (n : Int)))
theorem info_msg {m : MMsg} (h : m.Wf) : (Tryz.prog.info? 39).map (·.size) = some (msgC m).length := by rw [msgC_length h]; kernel_rfl
theorem names_any {w : World} {L n g cap : Nat} (hc : w.cell? ⟨L, 0, none⟩ = some (.slice (some ⟨g, 0, none⟩) n cap)) (hL : L < w.heap.size) (m : MMsg) (hm : m.Wf) (hq : Prs w m.body.qa m.body.qs) (hn : m.body.qs.length <= 140737488355328) :
  Calls Tryz.prog 37 #[.pointer (some ⟨L, 0, none⟩), .agg (msgC m).toArray] w fun E w' => E = .returned (.bool (nms n m)) /\ Below w.heap.size w w' := by
 obtain ⟨w1, hw1⟩ : ∃ x, x = (w.alloc (.cells #[.pointer (some ⟨L, 0, none⟩)] 46)).alloc (.cells (msgC m).toArray 39) := ⟨_, rfl⟩
 have hB1 : Below w.heap.size w (w.alloc (.cells #[.pointer (some ⟨L, 0, none⟩)] 46)) := bl.alloc (Nat.le_refl _) _
 have hB2 : Below (w.heap.size + 1) (w.alloc (.cells #[.pointer (some ⟨L, 0, none⟩)] 46)) ((w.alloc (.cells #[.pointer (some ⟨L, 0, none⟩)] 46)).alloc (.cells (msgC m).toArray 39)) := bl.alloc (by simp) _
 have hB : Below w.heap.size w w1 := by rw [hw1]; exact hB1.trans (hB2.mono (Nat.le_succ _))
 have hs1 : w1.heap.size = w.heap.size + 2 := by rw [hw1]; simp
 have h1 : w1.heap[w.heap.size]? = some (.cells #[.pointer (some ⟨L, 0, none⟩)] 46 (0, 0)) := by rw [hw1]; exact (hB2.block _ (Nat.lt_succ_self _)).trans (heap_alloc_new w _)
 have h2 : w1.heap[w.heap.size + 1]? = some (.cells (msgC m).toArray 39 (0, 0)) := by
  rw [hw1]; have := heap_alloc_new (w.alloc (.cells #[.pointer (some ⟨L, 0, none⟩)] 46)) (.cells (msgC m).toArray 39); simpa using this
 have HM := iq (fun (W : World) (hb : Below w1.heap.size w1 W) => msg_lies (range_of ((hb.block _ (by omega)).trans h2)) hm)
 have H1 := iq (fun (W : World) (hb : Below w1.heap.size w1 W) => block_cell (C := [.pointer (some ⟨L, 0, none⟩)]) ((hb.block _ (by omega)).trans h1) 0 _ rfl)
 have HL := iq (fun (W : World) (hb : Below w1.heap.size w1 W) => ((hb.cell (p := ⟨L, 0, none⟩) (show L < w1.heap.size by omega)).trans ((hB.cell (p := ⟨L, 0, none⟩) hL).trans hc)))
 have HC := iq (fun (W : World) (hb : Below w1.heap.size w1 W) => cfP_any m.body.qa m.body.qc m.body.qs W (hq.below (hB.trans (hb.mono hB.size))) hn 62 #[.pointer (some ⟨w.heap.size, 0, none⟩)] (fun p => decide (p.1 > (n : Int))) (fun _ _ => by kernel_rfl)
  (fun q _ W' hb' => names1_any q.1 q.2 n L w.heap.size g cap W' (H1.out W' (hb.trans (hb'.mono hb.size))) (by have := hb.size; have := hb'.size; omega) (HL.out W' (hb.trans (hb'.mono hb.size))) (by have := hb.size; have := hb'.size; omega)))
 have HBw := iq hB
 have hgo : nms n m = (decide (m.origin <= (n : Int)) && !(m.body.qs.any fun p => decide (p.1 > (n : Int)))) := rfl
 rw [hgo]
 obtain ⟨z, hz⟩ : ∃ z, z = (m.body.qs.any fun p => decide (p.1 > (n : Int))) := ⟨_, rfl⟩
 rw [<- hz] at HC ⊢
 have HW1 := iq hw1
 clear hB hB1 hB2 h1 h2 hc hL hq hz hw1 hgo
 go_enter Tryz.func37, Tryz.ntmps37
 go_wp2_with fail
 rw [<- HW1.out]
 refine wp_region_any (by kernel_rfl) ?_
 change wpAny _ _ _ _ _ _ _ (World.drewN _ 1)
 have D0 := iq (below_drewN (Below.refl w1.heap.size w1) 1)
 generalize w1.drewN 1 = w2 at D0 ⊢
 refine wpAny_of_held (S := fun W => Below w1.heap.size w1 W) _ _ _ _ ?_
 by_cases ho : m.origin <= (n : Int)
 ·have hd : decide (m.origin <= (n : Int)) = true := decide_eq_true ho
  refine tk 0 ⟨some 7, .fieldAddr 39 (.tmp 3) 0, _, _, _, none⟩ (.pointer (some ⟨w.heap.size + 1, 0, none⟩)) rfl (by kernel_rfl) (fun _ _ _ => id) (D0.out) (fun W hSW => by go_simp) ?_
  try simp only [Act.put, l0, l1, l2]
  refine tk 1 ⟨some 8, .load 3 (.tmp 7), _, _, _, none⟩ (.int .i64 m.origin) rfl (by kernel_rfl) (fun _ _ _ => id) (D0.out) (fun W hSW => by have hv := (HM.out W hSW).origin; go_simp) ?_
  try simp only [pu, l0, l1, l2]
  refine tk 2 ⟨some 9, .load 46 (.tmp 2), _, _, _, none⟩ (.pointer (some ⟨L, 0, none⟩)) rfl (by kernel_rfl) (fun _ _ _ => id) (D0.out) (fun W hSW => by have hv := H1.out W hSW; go_simp) ?_
  try simp only [pu, l0, l1, l2]
  refine tk 3 ⟨some 10, .nilCheck (.tmp 9), _, _, _, none⟩ (.pointer (some ⟨L, 0, none⟩)) rfl (by kernel_rfl) (fun _ _ _ => id) (D0.out) (fun W hSW => by go_simp) ?_
  try simp only [pu, l0, l1, l2]
  refine tk 4 ⟨some 11, .fieldAddr 91 (.tmp 10) 0, _, _, _, none⟩ (.pointer (some ⟨L, 0, none⟩)) rfl (by kernel_rfl) (fun _ _ _ => id) (D0.out) (fun W hSW => by go_simp) ?_
  try simp only [pu, l0, l1, l2]
  refine tk 5 ⟨some 12, .load 89 (.tmp 11), _, _, _, none⟩ (.slice (some ⟨g, 0, none⟩) n cap) rfl (by kernel_rfl) (fun _ _ _ => id) (D0.out) (fun W hSW => by have hv := HL.out W hSW; go_simp) ?_
  try simp only [pu, l0, l1, l2]
  refine tk 6 ⟨some 13, .call { callee := .builtin .len, args := #[.tmp 12], argTypes := #[89] }, _, _, _, none⟩ (.int .i64 (n : Int)) rfl (by kernel_rfl) (fun _ _ _ => id) (D0.out) (fun W hSW => by go_simp) ?_
  try simp only [pu, l0, l1, l2]
  refine tk 7 ⟨some 14, .binOp .leq 3 (.tmp 8) (.tmp 13) 3, _, _, _, none⟩ (.bool true) rfl (by kernel_rfl) (fun _ _ _ => id) (D0.out) (fun W hSW => by have hv := hd; go_simp) ?_
  try simp only [pu, l0, l1, l2]
  refine tk 8 ⟨some 15, .move (.tmp 14), _, _, _, none⟩ (.bool true) rfl (by kernel_rfl) (fun _ _ _ => id) (D0.out) (fun W hSW => by go_simp) ?_
  try simp only [pu, l0, l1, l2]
  refine tk 9 ⟨some 16, .fieldAddr 39 (.tmp 3) 3, _, _, _, some (8, true)⟩ (.pointer (some ⟨w.heap.size + 1, 13, none⟩)) rfl (by kernel_rfl) (fun _ _ _ => id) (D0.out) (fun W hSW => by go_simp) ?_
  try simp only [pu, l0, l1, l2]
  refine tk 10 ⟨some 17, .fieldAddr 35 (.tmp 16) 4, _, _, _, some (8, true)⟩ (.pointer (some ⟨w.heap.size + 1, 56, none⟩)) rfl (by kernel_rfl) (fun _ _ _ => id) (D0.out) (fun W hSW => by go_simp) ?_
  try simp only [pu, l0, l1, l2]
  refine tk 11 ⟨some 18, .load 33 (.tmp 17), _, _, _, some (8, true)⟩ (.slice m.body.qa m.body.qs.length m.body.qc) rfl (by kernel_rfl) (fun _ _ _ => id) (D0.out) (fun W hSW => by have hv := (HM.out W hSW).body.q; unfold MBody.qv at hv; go_simp) ?_
  try simp only [pu, l0, l1, l2]
  refine tk 12 ⟨some 19, .move (.tmp 5), _, _, _, some (8, true)⟩ (.func (.func 62) #[] #[.pointer (some ⟨w.heap.size, 0, none⟩)]) rfl (by kernel_rfl) (fun _ _ _ => id) (D0.out) (fun W hSW => by go_simp) ?_
  try simp only [pu, l0, l1, l2]
  refine rd1 13 ⟨some 20, .call { callee := .value (.func 63), args := #[.tmp 18, .tmp 19], argTypes := #[33, 142] }, _, _, _, some (8, true)⟩ (by kernel_rfl) rfl fun K' hK' => ?_
  go_simp
  go_at_call 63
  refine (HC.out _ D0.out).mono ?_
  rintro E w3 ⟨rfl, hb3⟩
  have D3 := iq (D0.out.trans (hb3.mono D0.out.size))
  refine hK'.out _ _ D3.out (fun _ => ?_)
  clear hK' K' hb3
  try simp only [Act.put, l0, l1, l2]
  refine tk 14 ⟨some 21, .unOp .not 4 (.tmp 20), _, _, _, some (8, true)⟩ (.bool (!z)) rfl (by kernel_rfl) (fun _ _ _ => id) (D3.out) (fun W hSW => by go_simp) ?_
  try simp only [pu, l0, l1, l2]
  refine tk 15 ⟨some 22, .pick (.tmp 15) (.tmp 21) (.const (.bool false)), _, _, _, none⟩ (.bool (!z)) rfl (by kernel_rfl) (fun _ _ _ => id) (D3.out) (fun W hSW => by go_simp) ?_
  try simp only [pu, l0, l1, l2]
  refine tk 16 ⟨some 4, .assign (.tmp 22), _, _, _, none⟩ (.bool (!z)) rfl (by kernel_rfl) (fun _ _ _ => id) (D3.out) (fun W hSW => by go_simp) ?_
  try simp only [pu, l0, l1, l2]
  refine wpAnyH_done (by kernel_rfl) ?_ _
  go_wp2_with fail
  go_ret
  exact ⟨ret_bool (by first | rfl | (rw [hd]; rfl)), HBw.out.trans (D3.out.mono HBw.out.size)⟩
 ·have hd : decide (m.origin <= (n : Int)) = false := decide_eq_false ho
  refine tk 0 ⟨some 7, .fieldAddr 39 (.tmp 3) 0, _, _, _, none⟩ (.pointer (some ⟨w.heap.size + 1, 0, none⟩)) rfl (by kernel_rfl) (fun _ _ _ => id) (D0.out) (fun W hSW => by go_simp) ?_
  try simp only [Act.put, l0, l1, l2]
  refine tk 1 ⟨some 8, .load 3 (.tmp 7), _, _, _, none⟩ (.int .i64 m.origin) rfl (by kernel_rfl) (fun _ _ _ => id) (D0.out) (fun W hSW => by have hv := (HM.out W hSW).origin; go_simp) ?_
  try simp only [pu, l0, l1, l2]
  refine tk 2 ⟨some 9, .load 46 (.tmp 2), _, _, _, none⟩ (.pointer (some ⟨L, 0, none⟩)) rfl (by kernel_rfl) (fun _ _ _ => id) (D0.out) (fun W hSW => by have hv := H1.out W hSW; go_simp) ?_
  try simp only [pu, l0, l1, l2]
  refine tk 3 ⟨some 10, .nilCheck (.tmp 9), _, _, _, none⟩ (.pointer (some ⟨L, 0, none⟩)) rfl (by kernel_rfl) (fun _ _ _ => id) (D0.out) (fun W hSW => by go_simp) ?_
  try simp only [pu, l0, l1, l2]
  refine tk 4 ⟨some 11, .fieldAddr 91 (.tmp 10) 0, _, _, _, none⟩ (.pointer (some ⟨L, 0, none⟩)) rfl (by kernel_rfl) (fun _ _ _ => id) (D0.out) (fun W hSW => by go_simp) ?_
  try simp only [pu, l0, l1, l2]
  refine tk 5 ⟨some 12, .load 89 (.tmp 11), _, _, _, none⟩ (.slice (some ⟨g, 0, none⟩) n cap) rfl (by kernel_rfl) (fun _ _ _ => id) (D0.out) (fun W hSW => by have hv := HL.out W hSW; go_simp) ?_
  try simp only [pu, l0, l1, l2]
  refine tk 6 ⟨some 13, .call { callee := .builtin .len, args := #[.tmp 12], argTypes := #[89] }, _, _, _, none⟩ (.int .i64 (n : Int)) rfl (by kernel_rfl) (fun _ _ _ => id) (D0.out) (fun W hSW => by go_simp) ?_
  try simp only [pu, l0, l1, l2]
  refine tk 7 ⟨some 14, .binOp .leq 3 (.tmp 8) (.tmp 13) 3, _, _, _, none⟩ (.bool false) rfl (by kernel_rfl) (fun _ _ _ => id) (D0.out) (fun W hSW => by have hv := hd; go_simp) ?_
  try simp only [pu, l0, l1, l2]
  refine tk 8 ⟨some 15, .move (.tmp 14), _, _, _, none⟩ (.bool false) rfl (by kernel_rfl) (fun _ _ _ => id) (D0.out) (fun W hSW => by go_simp) ?_
  try simp only [pu, l0, l1, l2]
  refine sk 9 ⟨some 16, .fieldAddr 39 (.tmp 3) 3, _, _, _, some (8, true)⟩ rfl (by kernel_rfl) (fun _ _ _ => id) (D0.out) ?_
  try simp only [pu, l0, l1, l2]
  refine sk 10 ⟨some 17, .fieldAddr 35 (.tmp 16) 4, _, _, _, some (8, true)⟩ rfl (by kernel_rfl) (fun _ _ _ => id) (D0.out) ?_
  try simp only [pu, l0, l1, l2]
  refine sk 11 ⟨some 18, .load 33 (.tmp 17), _, _, _, some (8, true)⟩ rfl (by kernel_rfl) (fun _ _ _ => id) (D0.out) ?_
  try simp only [pu, l0, l1, l2]
  refine sk 12 ⟨some 19, .move (.tmp 5), _, _, _, some (8, true)⟩ rfl (by kernel_rfl) (fun _ _ _ => id) (D0.out) ?_
  try simp only [pu, l0, l1, l2]
  refine sk 13 ⟨some 20, .call { callee := .value (.func 63), args := #[.tmp 18, .tmp 19], argTypes := #[33, 142] }, _, _, _, some (8, true)⟩ rfl (by kernel_rfl) (fun _ _ _ => id) (D0.out) ?_
  try simp only [pu, l0, l1, l2]
  refine sk 14 ⟨some 21, .unOp .not 4 (.tmp 20), _, _, _, some (8, true)⟩ rfl (by kernel_rfl) (fun _ _ _ => id) (D0.out) ?_
  try simp only [pu, l0, l1, l2]
  refine tk 15 ⟨some 22, .pick (.tmp 15) (.tmp 21) (.const (.bool false)), _, _, _, none⟩ (.bool false) rfl (by kernel_rfl) (fun _ _ _ => id) (D0.out) (fun W hSW => by go_simp) ?_
  try simp only [pu, l0, l1, l2]
  refine tk 16 ⟨some 4, .assign (.tmp 22), _, _, _, none⟩ (.bool false) rfl (by kernel_rfl) (fun _ _ _ => id) (D0.out) (fun W hSW => by go_simp) ?_
  try simp only [pu, l0, l1, l2]
  refine wpAnyH_done (by kernel_rfl) ?_ _
  go_wp2_with fail
  go_ret
  exact ⟨ret_bool (by first | rfl | (rw [hd]; rfl)), HBw.out.trans (D0.out.mono HBw.out.size)⟩
end Go.Proofs.YtknpcmadghkaaaaGreatDoor.Sh
