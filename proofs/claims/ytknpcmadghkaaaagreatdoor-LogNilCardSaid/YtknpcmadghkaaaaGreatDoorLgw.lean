/- Laws and walks. -/
import Derived.Test.YtknpcmadghkaaaaGreatDoorLbw
set_option maxHeartbeats 16000000
set_option maxRecDepth 100000
namespace Go.Proofs.YtknpcmadghkaaaaGreatDoor.Sh
open Go.RowKit
def NewAt (v : World) (os : List Thing) (L vb : Nat) (va : VA) (k : Nat) (W : World) : Prop :=
 ∃ (sa : List SA) (rv : Value), sa.length = k /\ Fr v W (blkT L [rv, .map (some vb)].toArray 91 :: rwT 96 4 rv k (stC sa (List.replicate k .new)) :: mpT vb 1 (vF [va] [.zero]) :: (pT sa (List.replicate k .new) ++ (cT sa (List.replicate k .new) ++ (vwT va none .zero :: os))))
theorem vF_one (va : VA) : upd (fun _ => none) 0 (some (.pointer (some ⟨va.b, 0, none⟩))) = vF [va] [.zero] := by
 funext x
 by_cases e : x = 0
 ·subst e; rfl
 ·rw [upd_other _ _ e, vF]
  by_cases h : 0 <= x
  ·rw [if_pos h]
   have : ¬ (0 = x.toNat) := by omega
   simp [vix, MV.zero, this]
  ·rw [if_neg h]
theorem new_end {v W : World} {os : List Thing} {L vb n : Nat} {va : VA} (H : NewAt v os L vb va n W) (h3 : 3 <= n) (h11 : n <= 11) : ∃ A : LA, A.L = L /\ LogFr v W A (.new n) os := by
 obtain ⟨sa, rv, hl, h⟩ := H
 have hn : (MLogs.new n).n = n := by simp [MLogs.n, MLogs.new]
 obtain ⟨A, e1, e2, e3, h1⟩ := hd_of (M := .new n) (va := [va]) (sa := sa) (by omega) (by rw [hn]; exact h)
 refine ⟨A, e1, ?_, ?_, ?_, new_ok h3 h11⟩
 ·subst e2; rw [e3]; exact h1
 ·rw [e2, hl]; simp [MLogs.new]
 ·rw [e3]; rfl
theorem new_snoc {v W : World} {os : List Thing} {L vb k : Nat} {va : VA} {sa : List SA} {rv rv' : Value} (hl : sa.length = k) {pb cb : Nat} {r1 : Value} {mb : Option Nat}
  (H : Fr v W (blkT L [rv, .map (some vb)].toArray 91 :: rwT 96 4 rv' (k + 1) (stC sa (List.replicate k .new) ++ srC ⟨pb, r1, mb, cb⟩ .new) :: paT pb r1 mb .new :: chT cb [] :: mpT vb 1 (vF [va] [.zero]) :: (pT sa (List.replicate k .new) ++ (cT sa (List.replicate k .new) ++ (vwT va none .zero :: os))))) :
  NewAt v os L vb va (k + 1) (W.setCell ⟨L, 0, none⟩ rv') := by
 refine ⟨sa ++ [⟨pb, r1, mb, cb⟩], rv', by simp [hl], ?_⟩
 have e : List.replicate (k + 1) MStr.new = List.replicate k MStr.new ++ [MStr.new] := List.replicate_succ' ..
 have hl2 : sa.length = (List.replicate k MStr.new).length := by simp [hl]
 rw [e, stC_snoc _ _ _ _ hl2, pT_snoc _ _ _ _ hl2, cT_snoc _ _ _ _ hl2]
 refine (H.set 0 rv').perm ?_
 exact (List.perm_append_comm (l₁ := [_, _]) (l₂ := [_, _])).append_right _ |>.trans (perm_new _ _ _ _ _ _ _ _)
theorem new_bad (W : World) {n : Int} (h : n < 3 \/ 11 < n \/ n % 2 = 0) : Calls Tryz.prog 13 #[.int .i64 n] W fun E w' => E = .returned (.tuple #[.pointer none, .int .i64 1]) /\ W = w' := by
 by_cases h1 : n < 3
 ·have k1 : decide (n < 3) = true := decide_eq_true h1
  clear h
  go_enter Tryz.func13, Tryz.ntmps13
  go_wp2
  exact bodyPost_ret (results_tmp2 rfl _ _ _) rfl ⟨rfl, rfl⟩
 ·have k1 : decide (n < 3) = false := decide_eq_false h1
  by_cases h2 : 11 < n
  ·have k2 : decide (11 < n) = true := decide_eq_true h2
   clear h
   go_enter Tryz.func13, Tryz.ntmps13
   go_wp2
   exact bodyPost_ret (results_tmp2 rfl _ _ _) rfl ⟨rfl, rfl⟩
  ·have k2 : decide (11 < n) = false := decide_eq_false h2
   have h3 : n % 2 = 0 := by omega
   have k3 : Int.tmod n 2 = 0 := by rw [Int.tmod_eq_emod_of_nonneg (by omega)]; exact h3
   have k4 : (Int.tmod n 2 == 0) = true := by rw [k3]; rfl
   have k5 : (n % 2 == 0) = true := by rw [h3]; rfl
   clear h
   go_enter Tryz.func13, Tryz.ntmps13
   go_wp2
   exact bodyPost_ret (results_tmp2 rfl _ _ _) rfl ⟨rfl, rfl⟩
theorem srC_one {a : SA} {s : MStr} {u : Value} (h : u ∈ srC a s) : u.oneCell' = true := by
 simp only [srC, List.mem_cons, List.not_mem_nil, or_false] at h
 rcases h with rfl | rfl | rfl | rfl <;> rfl
theorem perm_five {α : Type} (r x p c l : α) (R : List α) : (r :: x :: p :: c :: l :: R).Perm (x :: l :: r :: p :: c :: R) := by
 refine (List.Perm.swap x r _).trans (List.Perm.cons x ?_)
 exact (List.perm_append_comm (l₁ := [r, p, c]) (l₂ := [l])).append_right R
theorem exec_build2b {P : Program} {o : Oper} {f : Operand -> Value} {w : World} (t : TypeId) {i j : Nat} (p q : Operand) (ho : o.op = .build t #[(i, p), (j, q)]) (x y v : Value) (hp : f p = x) (hq : f q = y) (hr : (Instr.build t #[(i, x), (j, y)]).run P w = .ok v w) : (execOp f o).run P w = .ok (.value v) w := by
 unfold execOp
 simp only [ho, List.map_toArray, List.map_cons, List.map_nil, hp, hq, Sem.run_bind, hr, Result.andThen_ok]
 rfl
theorem new_logs {v W : World} {os : List Thing} (H : Fr v W os) {n : Nat} (h3 : 3 <= n) (h11 : n <= 11) (ho : n % 2 = 1) :
  Calls Tryz.prog 13 #[.int .i64 (n : Int)] W fun E w' => ∃ A : LA, E = .returned (.tuple #[.pointer (some ⟨A.L, 0, none⟩), .int .i64 0]) /\ LogFr v w' A (.new n) os := by
 have k1 : decide ((n : Int) < 3) = false := decide_eq_false (by omega)
 have k2 : decide ((11 : Int) < (n : Int)) = false := decide_eq_false (by omega)
 have k3 : Int.tmod (n : Int) 2 = 1 := by rw [Int.tmod_eq_emod_of_nonneg (by omega)]; omega
 have k5 : ((n : Int) % 2 == 0) = false := by simp; omega
 have k6 : ¬ ((n : Int) % 2 = 0) := by omega
 have k7 : (2 ∣ (n : Int)) = False := by simp; omega
 have k8 : (2 ∣ n) = False := by simp; omega
 have H1 := iq (mp_made H)
 have e2 := make88
 have HE : Hid (3 <= n /\ n <= 11) := iq ⟨h3, h11⟩
 clear H h3 h11 ho
 go_enter Tryz.func13, Tryz.ntmps13
 go_wp2_with (first
  | (go_at_call 33; refine (begin_nil H1.out 0 0).mono ?_; rintro E w2 ⟨va, rfl, h⟩; obtain ⟨W3, r3, h3⟩ := mp_put Tryz.underlying88 (Fr.swap h) (Nat.zero_le _) (u64_of (x := 0) (by decide)) (.pointer (some ⟨va.b, 0, none⟩)); have H3 := iq h3; clear h h3)
  | ((with_reducible refine wpList_ins ?_ (.tmp 16) (.const (.int .u64 0)) (.tmp 17) 88 ?_ _ _ _ ?_ ?_ ?_ W3 r3 ?_); rfl; rfl; rfl; rfl; rfl))
 have h4 := H3.out
 rw [vF_one] at h4
 have h5 : NewAt v os W3.heap.size W.heap.size va 0 (W3.alloc (.cells [.slice none 0 0, .map (some W.heap.size)].toArray 91)) := ⟨[], .slice none 0 0, rfl, (rw_nil (h4.box [.slice none 0 0, .map (some W.heap.size)].toArray 91) 96 4).swap⟩
 have HN := iq h5
 clear h5 h4 H3 H1 r3 k1 k2 k3 k5 k6 k7 k8 e2
 obtain ⟨L, hL⟩ : ∃ L, L = W3.heap.size := ⟨_, rfl⟩
 obtain ⟨vb, hvb⟩ : ∃ x, x = W.heap.size := ⟨_, rfl⟩
 rw [<- hL, <- hvb] at HN
 rw [<- hL, <- hvb]
 clear hL hvb
 generalize W3.alloc _ = W4 at HN ⊢
 go_loopw [22] (fun v22 wr => ∃ k : Nat, k <= n /\ v22 = .int .i64 (k : Int) /\ Hid (NewAt v os L vb va k wr)) (fun v22 _ => n - (intOf v22).toNat)
 case atStart => exact ⟨0, by omega, rfl, HN⟩
 case round =>
  clear HN
  obtain ⟨k, hk, rfl, HK⟩ := hrel
  by_cases hkk : k < n
  ·have kd : decide ((k : Int) < (n : Int)) = true := decide_eq_true (by omega)
   have hw1 : IntKind.i64.wrap ((k : Int) + 1) = (k : Int) + 1 := by rw [IntKind.wrap_i64]; have := HE.out; omega
   obtain ⟨sa, rv, hl, h⟩ := HK.out
   obtain ⟨rA, rc, hrv, _⟩ := row_shape h.hd2
   have G0 := iq h
   have HL := iq hl
   have HK11 : Hid (k <= 1000000) := iq (by have := HE.out; omega)
   clear h hl HK
   go_wp2_with fail
   refine wp_region_any (by kernel_rfl) ?_
   change wpAny _ _ _ _ _ _ _ (World.drewN _ 1)
   refine held_gen (G := fun W' => wpAny _ _ _ _ _ _ _ W') (fun W' => Fr v W' (blkT L [rv, .map (some vb)].toArray 91 :: rwT 96 4 rv k (stC sa (List.replicate k .new)) :: mpT vb 1 (vF [va] [.zero]) :: (pT sa (List.replicate k .new) ++ (cT sa (List.replicate k .new) ++ (vwT va none .zero :: os))))) (G0.out.drewN 1) (fun y0 hw => ?_)
   have G1 := iq hw
   clear hw G0
   refine wpAny_of_held (S := fun W => ∃ x, W.heap[L]? = some (.cells [x, .map (some vb)].toArray 91 (0, 0))) _ _ _ _ ?_
   refine tk 0 ⟨some 24, .move (.tmp 4), _, _, _, none⟩ (.pointer (some ⟨L, 0, none⟩)) rfl (by kernel_rfl) (fun _ _ _ => id) (⟨_, G1.out.hd⟩) (fun W hSW => by go_simp) ?_
   try simp only [Act.put, l0, l1, l2]
   refine tk 1 ⟨some 25, .move (.tmp 4), _, _, _, none⟩ (.pointer (some ⟨L, 0, none⟩)) rfl (by kernel_rfl) (fun _ _ _ => id) (⟨_, G1.out.hd⟩) (fun W hSW => by go_simp) ?_
   try simp only [pu, l0, l1, l2]
   refine tk 2 ⟨some 26, .nilCheck (.tmp 25), _, _, _, none⟩ (.pointer (some ⟨L, 0, none⟩)) rfl (by kernel_rfl) (fun _ _ _ => id) (⟨_, G1.out.hd⟩) (fun W hSW => by go_simp) ?_
   try simp only [pu, l0, l1, l2]
   refine tk 3 ⟨some 27, .fieldAddr 91 (.tmp 26) 0, _, _, _, none⟩ (.pointer (some ⟨L, 0, none⟩)) rfl (by kernel_rfl) (fun _ _ _ => id) (⟨_, G1.out.hd⟩) (fun W hSW => by go_simp) ?_
   try simp only [pu, l0, l1, l2]
   refine rdy [4, 5, 6] (by kernel_rfl) ?_
   refine (AllReadyH.cons (o := ⟨some 28, .load 89 (.tmp 27), _, _, _, none⟩) rfl (fun K' hK' => ?_) (AllReadyH.cons (o := ⟨some 29, .call { callee := .value (.func 34), args := #[], argTypes := #[] }, _, _, _, none⟩) rfl (fun K' hK' => ?_) (AllReadyH.cons (o := ⟨some 30, .makeMap 94 none, _, _, _, none⟩) rfl (fun K' hK' => ?_) AllReadyH.nil)))
   focus
    have hc4 := block_cell (G1.out.hd) 0 rv rfl
    rw [hrv] at hc4
    go_simp
    skip
    refine hK'.out _ _ ⟨_, G1.out.hd⟩ (fun _ => ?_)
    clear hK' K' hc4
    try simp only [Act.put, l0, l1, l2]
    refine rdy [5, 6] (by kernel_rfl) ?_
    refine (AllReadyH.cons (o := ⟨some 29, .call { callee := .value (.func 34), args := #[], argTypes := #[] }, _, _, _, none⟩) rfl (fun K' hK' => ?_) (AllReadyH.cons (o := ⟨some 30, .makeMap 94 none, _, _, _, none⟩) rfl (fun K' hK' => ?_) AllReadyH.nil))
    focus
     go_simp
     go_at_call 34
     refine (pnew_any G1.out).mono ?_
     rintro E y1 ⟨pb, rfl, r1, mb, h⟩
     have G2 := iq h
     clear h
     refine hK'.out _ _ ⟨_, G2.out.hd2⟩ (fun _ => ?_)
     clear hK' K'
     try simp only [Act.put, l0, l1, l2]
     refine rd1 6 ⟨some 30, .makeMap 94 none, _, _, _, none⟩ (by kernel_rfl) rfl fun K' hK' => ?_
     have e3 := make94
     go_simp
     clear e3
     have G3 := iq (ch_made G2.out)
     refine hK'.out _ _ ⟨_, G3.out.hd3⟩ (fun _ => ?_)
     clear hK' K'
     try simp only [Act.put, l0, l1, l2]
     obtain ⟨cb, hcb⟩ : ∃ c, c = y1.heap.size := ⟨_, rfl⟩
     rw [<- hcb] at G3 ⊢
     clear hcb
     generalize y1.alloc (.map #[] 0) = y2 at G3 ⊢
     refine tk 7 ⟨some 31, .build 96 #[(1, .tmp 29), (2, .tmp 30)], _, _, _, none⟩ (.agg (srC ⟨pb, r1, mb, cb⟩ .new).toArray) rfl (by kernel_rfl) (fun _ _ _ => id) (⟨_, G3.out.hd3⟩) (fun W hSW => exec_build2b 96 (.tmp 29) (.tmp 30) rfl _ _ _ rfl rfl (build96 _ _ W)) ?_
     try simp only [Act.put, l0, l1, l2]
     refine rd1 8 ⟨some 32, .buildSlice 89 1 #[(0, .tmp 31)], _, _, _, none⟩ (by kernel_rfl) rfl fun K' hK' => ?_
     refine step_buildSl rfl 89 96 (.tmp 31) rfl (srC ⟨pb, r1, mb, cb⟩ .new) rfl (buildSl96 _ rfl _) ?_
     have G4 := iq (G3.out.swap.box (srC ⟨pb, r1, mb, cb⟩ .new).toArray 96)
     skip
     refine hK'.out _ _ ⟨_, G4.out.pop.hd3⟩ (fun _ => ?_)
     clear hK' K'
     try simp only [Act.put, l0, l1, l2]
     obtain ⟨xb, hxb⟩ : ∃ c, c = y2.heap.size := ⟨_, rfl⟩
     rw [<- hxb] at G4 ⊢
     clear hxb
     generalize y2.alloc (.cells (srC ⟨pb, r1, mb, cb⟩ .new).toArray 96) = y5 at G4 ⊢
     have G5 := iq G4.out
     clear G4
    rotate_left
    focus
     have e3 := make94
     go_simp
     clear e3
     have G3 := iq (ch_made G1.out)
     refine hK'.out _ _ ⟨_, G3.out.hd2⟩ (fun _ => ?_)
     clear hK' K'
     try simp only [Act.put, l0, l1, l2]
     obtain ⟨cb, hcb⟩ : ∃ c, c = y0.heap.size := ⟨_, rfl⟩
     rw [<- hcb] at G3 ⊢
     clear hcb
     generalize y0.alloc (.map #[] 0) = y2 at G3 ⊢
     refine rd1 5 ⟨some 29, .call { callee := .value (.func 34), args := #[], argTypes := #[] }, _, _, _, none⟩ (by kernel_rfl) rfl fun K' hK' => ?_
     go_simp
     go_at_call 34
     refine (pnew_any G3.out).mono ?_
     rintro E y1 ⟨pb, rfl, r1, mb, h⟩
     have G2 := iq h
     clear h
     refine hK'.out _ _ ⟨_, G2.out.hd3⟩ (fun _ => ?_)
     clear hK' K'
     try simp only [Act.put, l0, l1, l2]
     refine tk 7 ⟨some 31, .build 96 #[(1, .tmp 29), (2, .tmp 30)], _, _, _, none⟩ (.agg (srC ⟨pb, r1, mb, cb⟩ .new).toArray) rfl (by kernel_rfl) (fun _ _ _ => id) (⟨_, G2.out.hd3⟩) (fun W hSW => exec_build2b 96 (.tmp 29) (.tmp 30) rfl _ _ _ rfl rfl (build96 _ _ W)) ?_
     try simp only [pu, l0, l1, l2]
     refine rd1 8 ⟨some 32, .buildSlice 89 1 #[(0, .tmp 31)], _, _, _, none⟩ (by kernel_rfl) rfl fun K' hK' => ?_
     refine step_buildSl rfl 89 96 (.tmp 31) rfl (srC ⟨pb, r1, mb, cb⟩ .new) rfl (buildSl96 _ rfl _) ?_
     have G4 := iq (G2.out.box (srC ⟨pb, r1, mb, cb⟩ .new).toArray 96)
     skip
     refine hK'.out _ _ ⟨_, G4.out.pop.hd3⟩ (fun _ => ?_)
     clear hK' K'
     try simp only [Act.put, l0, l1, l2]
     obtain ⟨xb, hxb⟩ : ∃ c, c = y1.heap.size := ⟨_, rfl⟩
     rw [<- hxb] at G4 ⊢
     clear hxb
     generalize y1.alloc (.cells (srC ⟨pb, r1, mb, cb⟩ .new).toArray 96) = y5 at G4 ⊢
     have G5 := iq G4.out
     clear G4
    rotate_left
   rotate_left 2
   focus
    go_simp
    go_at_call 34
    refine (pnew_any G1.out).mono ?_
    rintro E y1 ⟨pb, rfl, r1, mb, h⟩
    have G2 := iq h
    clear h
    refine hK'.out _ _ ⟨_, G2.out.hd2⟩ (fun _ => ?_)
    clear hK' K'
    try simp only [Act.put, l0, l1, l2]
    refine rdy [4, 6] (by kernel_rfl) ?_
    refine (AllReadyH.cons (o := ⟨some 28, .load 89 (.tmp 27), _, _, _, none⟩) rfl (fun K' hK' => ?_) (AllReadyH.cons (o := ⟨some 30, .makeMap 94 none, _, _, _, none⟩) rfl (fun K' hK' => ?_) AllReadyH.nil))
    focus
     have hc4 := block_cell (G2.out.hd2) 0 rv rfl
     rw [hrv] at hc4
     go_simp
     skip
     refine hK'.out _ _ ⟨_, G2.out.hd2⟩ (fun _ => ?_)
     clear hK' K' hc4
     try simp only [Act.put, l0, l1, l2]
     refine rd1 6 ⟨some 30, .makeMap 94 none, _, _, _, none⟩ (by kernel_rfl) rfl fun K' hK' => ?_
     have e3 := make94
     go_simp
     clear e3
     have G3 := iq (ch_made G2.out)
     refine hK'.out _ _ ⟨_, G3.out.hd3⟩ (fun _ => ?_)
     clear hK' K'
     try simp only [Act.put, l0, l1, l2]
     obtain ⟨cb, hcb⟩ : ∃ c, c = y1.heap.size := ⟨_, rfl⟩
     rw [<- hcb] at G3 ⊢
     clear hcb
     generalize y1.alloc (.map #[] 0) = y2 at G3 ⊢
     refine tk 7 ⟨some 31, .build 96 #[(1, .tmp 29), (2, .tmp 30)], _, _, _, none⟩ (.agg (srC ⟨pb, r1, mb, cb⟩ .new).toArray) rfl (by kernel_rfl) (fun _ _ _ => id) (⟨_, G3.out.hd3⟩) (fun W hSW => exec_build2b 96 (.tmp 29) (.tmp 30) rfl _ _ _ rfl rfl (build96 _ _ W)) ?_
     try simp only [Act.put, l0, l1, l2]
     refine rd1 8 ⟨some 32, .buildSlice 89 1 #[(0, .tmp 31)], _, _, _, none⟩ (by kernel_rfl) rfl fun K' hK' => ?_
     refine step_buildSl rfl 89 96 (.tmp 31) rfl (srC ⟨pb, r1, mb, cb⟩ .new) rfl (buildSl96 _ rfl _) ?_
     have G4 := iq (G3.out.swap.box (srC ⟨pb, r1, mb, cb⟩ .new).toArray 96)
     skip
     refine hK'.out _ _ ⟨_, G4.out.pop.hd3⟩ (fun _ => ?_)
     clear hK' K'
     try simp only [Act.put, l0, l1, l2]
     obtain ⟨xb, hxb⟩ : ∃ c, c = y2.heap.size := ⟨_, rfl⟩
     rw [<- hxb] at G4 ⊢
     clear hxb
     generalize y2.alloc (.cells (srC ⟨pb, r1, mb, cb⟩ .new).toArray 96) = y5 at G4 ⊢
     have G5 := iq G4.out
     clear G4
    rotate_left
    focus
     have e3 := make94
     go_simp
     clear e3
     have G3 := iq (ch_made G2.out)
     refine hK'.out _ _ ⟨_, G3.out.hd3⟩ (fun _ => ?_)
     clear hK' K'
     try simp only [Act.put, l0, l1, l2]
     obtain ⟨cb, hcb⟩ : ∃ c, c = y1.heap.size := ⟨_, rfl⟩
     rw [<- hcb] at G3 ⊢
     clear hcb
     generalize y1.alloc (.map #[] 0) = y2 at G3 ⊢
     refine tk 7 ⟨some 31, .build 96 #[(1, .tmp 29), (2, .tmp 30)], _, _, _, none⟩ (.agg (srC ⟨pb, r1, mb, cb⟩ .new).toArray) rfl (by kernel_rfl) (fun _ _ _ => id) (⟨_, G3.out.hd3⟩) (fun W hSW => exec_build2b 96 (.tmp 29) (.tmp 30) rfl _ _ _ rfl rfl (build96 _ _ W)) ?_
     try simp only [Act.put, l0, l1, l2]
     refine rdy [4, 8] (by kernel_rfl) ?_
     refine (AllReadyH.cons (o := ⟨some 28, .load 89 (.tmp 27), _, _, _, none⟩) rfl (fun K' hK' => ?_) (AllReadyH.cons (o := ⟨some 32, .buildSlice 89 1 #[(0, .tmp 31)], _, _, _, none⟩) rfl (fun K' hK' => ?_) AllReadyH.nil))
     focus
      have hc4 := block_cell (G3.out.hd3) 0 rv rfl
      rw [hrv] at hc4
      go_simp
      skip
      refine hK'.out _ _ ⟨_, G3.out.hd3⟩ (fun _ => ?_)
      clear hK' K' hc4
      try simp only [Act.put, l0, l1, l2]
      refine rd1 8 ⟨some 32, .buildSlice 89 1 #[(0, .tmp 31)], _, _, _, none⟩ (by kernel_rfl) rfl fun K' hK' => ?_
      refine step_buildSl rfl 89 96 (.tmp 31) rfl (srC ⟨pb, r1, mb, cb⟩ .new) rfl (buildSl96 _ rfl _) ?_
      have G4 := iq (G3.out.swap.box (srC ⟨pb, r1, mb, cb⟩ .new).toArray 96)
      skip
      refine hK'.out _ _ ⟨_, G4.out.pop.hd3⟩ (fun _ => ?_)
      clear hK' K'
      try simp only [Act.put, l0, l1, l2]
      obtain ⟨xb, hxb⟩ : ∃ c, c = y2.heap.size := ⟨_, rfl⟩
      rw [<- hxb] at G4 ⊢
      clear hxb
      generalize y2.alloc (.cells (srC ⟨pb, r1, mb, cb⟩ .new).toArray 96) = y5 at G4 ⊢
      have G5 := iq G4.out
      clear G4
     rotate_left
     focus
      refine step_buildSl rfl 89 96 (.tmp 31) rfl (srC ⟨pb, r1, mb, cb⟩ .new) rfl (buildSl96 _ rfl _) ?_
      have G4 := iq (G3.out.swap.box (srC ⟨pb, r1, mb, cb⟩ .new).toArray 96)
      skip
      refine hK'.out _ _ ⟨_, G4.out.pop.hd3⟩ (fun _ => ?_)
      clear hK' K'
      try simp only [Act.put, l0, l1, l2]
      obtain ⟨xb, hxb⟩ : ∃ c, c = y2.heap.size := ⟨_, rfl⟩
      rw [<- hxb] at G4 ⊢
      clear hxb
      generalize y2.alloc (.cells (srC ⟨pb, r1, mb, cb⟩ .new).toArray 96) = y5 at G4 ⊢
      refine rd1 4 ⟨some 28, .load 89 (.tmp 27), _, _, _, none⟩ (by kernel_rfl) rfl fun K' hK' => ?_
      have hc4 := block_cell (G4.out.pop.hd3) 0 rv rfl
      rw [hrv] at hc4
      go_simp
      skip
      refine hK'.out _ _ ⟨_, G4.out.pop.hd3⟩ (fun _ => ?_)
      clear hK' K' hc4
      try simp only [Act.put, l0, l1, l2]
      have G5 := iq G4.out
      clear G4
     rotate_left
    rotate_left 2
   rotate_left 3
   focus
    have e3 := make94
    go_simp
    clear e3
    have G3 := iq (ch_made G1.out)
    refine hK'.out _ _ ⟨_, G3.out.hd2⟩ (fun _ => ?_)
    clear hK' K'
    try simp only [Act.put, l0, l1, l2]
    obtain ⟨cb, hcb⟩ : ∃ c, c = y0.heap.size := ⟨_, rfl⟩
    rw [<- hcb] at G3 ⊢
    clear hcb
    generalize y0.alloc (.map #[] 0) = y2 at G3 ⊢
    refine rdy [4, 5] (by kernel_rfl) ?_
    refine (AllReadyH.cons (o := ⟨some 28, .load 89 (.tmp 27), _, _, _, none⟩) rfl (fun K' hK' => ?_) (AllReadyH.cons (o := ⟨some 29, .call { callee := .value (.func 34), args := #[], argTypes := #[] }, _, _, _, none⟩) rfl (fun K' hK' => ?_) AllReadyH.nil))
    focus
     have hc4 := block_cell (G3.out.hd2) 0 rv rfl
     rw [hrv] at hc4
     go_simp
     skip
     refine hK'.out _ _ ⟨_, G3.out.hd2⟩ (fun _ => ?_)
     clear hK' K' hc4
     try simp only [Act.put, l0, l1, l2]
     refine rd1 5 ⟨some 29, .call { callee := .value (.func 34), args := #[], argTypes := #[] }, _, _, _, none⟩ (by kernel_rfl) rfl fun K' hK' => ?_
     go_simp
     go_at_call 34
     refine (pnew_any G3.out).mono ?_
     rintro E y1 ⟨pb, rfl, r1, mb, h⟩
     have G2 := iq h
     clear h
     refine hK'.out _ _ ⟨_, G2.out.hd3⟩ (fun _ => ?_)
     clear hK' K'
     try simp only [Act.put, l0, l1, l2]
     refine tk 7 ⟨some 31, .build 96 #[(1, .tmp 29), (2, .tmp 30)], _, _, _, none⟩ (.agg (srC ⟨pb, r1, mb, cb⟩ .new).toArray) rfl (by kernel_rfl) (fun _ _ _ => id) (⟨_, G2.out.hd3⟩) (fun W hSW => exec_build2b 96 (.tmp 29) (.tmp 30) rfl _ _ _ rfl rfl (build96 _ _ W)) ?_
     try simp only [pu, l0, l1, l2]
     refine rd1 8 ⟨some 32, .buildSlice 89 1 #[(0, .tmp 31)], _, _, _, none⟩ (by kernel_rfl) rfl fun K' hK' => ?_
     refine step_buildSl rfl 89 96 (.tmp 31) rfl (srC ⟨pb, r1, mb, cb⟩ .new) rfl (buildSl96 _ rfl _) ?_
     have G4 := iq (G2.out.box (srC ⟨pb, r1, mb, cb⟩ .new).toArray 96)
     skip
     refine hK'.out _ _ ⟨_, G4.out.pop.hd3⟩ (fun _ => ?_)
     clear hK' K'
     try simp only [Act.put, l0, l1, l2]
     obtain ⟨xb, hxb⟩ : ∃ c, c = y1.heap.size := ⟨_, rfl⟩
     rw [<- hxb] at G4 ⊢
     clear hxb
     generalize y1.alloc (.cells (srC ⟨pb, r1, mb, cb⟩ .new).toArray 96) = y5 at G4 ⊢
     have G5 := iq G4.out
     clear G4
    rotate_left
    focus
     go_simp
     go_at_call 34
     refine (pnew_any G3.out).mono ?_
     rintro E y1 ⟨pb, rfl, r1, mb, h⟩
     have G2 := iq h
     clear h
     refine hK'.out _ _ ⟨_, G2.out.hd3⟩ (fun _ => ?_)
     clear hK' K'
     try simp only [Act.put, l0, l1, l2]
     refine tk 7 ⟨some 31, .build 96 #[(1, .tmp 29), (2, .tmp 30)], _, _, _, none⟩ (.agg (srC ⟨pb, r1, mb, cb⟩ .new).toArray) rfl (by kernel_rfl) (fun _ _ _ => id) (⟨_, G2.out.hd3⟩) (fun W hSW => exec_build2b 96 (.tmp 29) (.tmp 30) rfl _ _ _ rfl rfl (build96 _ _ W)) ?_
     try simp only [pu, l0, l1, l2]
     refine rdy [4, 8] (by kernel_rfl) ?_
     refine (AllReadyH.cons (o := ⟨some 28, .load 89 (.tmp 27), _, _, _, none⟩) rfl (fun K' hK' => ?_) (AllReadyH.cons (o := ⟨some 32, .buildSlice 89 1 #[(0, .tmp 31)], _, _, _, none⟩) rfl (fun K' hK' => ?_) AllReadyH.nil))
     focus
      have hc4 := block_cell (G2.out.hd3) 0 rv rfl
      rw [hrv] at hc4
      go_simp
      skip
      refine hK'.out _ _ ⟨_, G2.out.hd3⟩ (fun _ => ?_)
      clear hK' K' hc4
      try simp only [Act.put, l0, l1, l2]
      refine rd1 8 ⟨some 32, .buildSlice 89 1 #[(0, .tmp 31)], _, _, _, none⟩ (by kernel_rfl) rfl fun K' hK' => ?_
      refine step_buildSl rfl 89 96 (.tmp 31) rfl (srC ⟨pb, r1, mb, cb⟩ .new) rfl (buildSl96 _ rfl _) ?_
      have G4 := iq (G2.out.box (srC ⟨pb, r1, mb, cb⟩ .new).toArray 96)
      skip
      refine hK'.out _ _ ⟨_, G4.out.pop.hd3⟩ (fun _ => ?_)
      clear hK' K'
      try simp only [Act.put, l0, l1, l2]
      obtain ⟨xb, hxb⟩ : ∃ c, c = y1.heap.size := ⟨_, rfl⟩
      rw [<- hxb] at G4 ⊢
      clear hxb
      generalize y1.alloc (.cells (srC ⟨pb, r1, mb, cb⟩ .new).toArray 96) = y5 at G4 ⊢
      have G5 := iq G4.out
      clear G4
     rotate_left
     focus
      refine step_buildSl rfl 89 96 (.tmp 31) rfl (srC ⟨pb, r1, mb, cb⟩ .new) rfl (buildSl96 _ rfl _) ?_
      have G4 := iq (G2.out.box (srC ⟨pb, r1, mb, cb⟩ .new).toArray 96)
      skip
      refine hK'.out _ _ ⟨_, G4.out.pop.hd3⟩ (fun _ => ?_)
      clear hK' K'
      try simp only [Act.put, l0, l1, l2]
      obtain ⟨xb, hxb⟩ : ∃ c, c = y1.heap.size := ⟨_, rfl⟩
      rw [<- hxb] at G4 ⊢
      clear hxb
      generalize y1.alloc (.cells (srC ⟨pb, r1, mb, cb⟩ .new).toArray 96) = y5 at G4 ⊢
      refine rd1 4 ⟨some 28, .load 89 (.tmp 27), _, _, _, none⟩ (by kernel_rfl) rfl fun K' hK' => ?_
      have hc4 := block_cell (G4.out.pop.hd3) 0 rv rfl
      rw [hrv] at hc4
      go_simp
      skip
      refine hK'.out _ _ ⟨_, G4.out.pop.hd3⟩ (fun _ => ?_)
      clear hK' K' hc4
      try simp only [Act.put, l0, l1, l2]
      have G5 := iq G4.out
      clear G4
     rotate_left
    rotate_left 2
   rotate_left 3
   all_goals
    refine rd1 9 ⟨some 33, .call { callee := .builtin .append, args := #[.tmp 28, .tmp 32], argTypes := #[89, 89] }, _, _, _, none⟩ (by kernel_rfl) rfl fun K' hK' => ?_
    obtain ⟨A2, c2, y4, hr4, h6, _⟩ := rw_append rfl Tryz.underlying89 Tryz.inf96 rfl (by decide) (by decide) (G5.out.perm (List.perm_append_comm (l₁ := [_, _, _, _]) (l₂ := [_])|>.append_right _)) HK11.out 89 _ (srC ⟨pb, r1, mb, cb⟩ .new) rfl (fun u hu => srC_one hu) (range_of G5.out.hd)
    have G6 := iq h6
    clear h6
    rw [hrv] at hr4
    refine step_append_one rfl (.tmp 28) (.tmp 32) 89 rfl _ _ rfl rfl _ _ hr4 ?_
    refine hK'.out _ _ ⟨_, G6.out.pop.pop.hd3⟩ (fun _ => ?_)
    clear hK' K' hr4
    try simp only [Act.put, l0, l1, l2]
    refine tk 10 ⟨some 34, .nilCheck (.tmp 24), _, _, _, none⟩ (.pointer (some ⟨L, 0, none⟩)) rfl (by kernel_rfl) (fun _ _ _ => id) (⟨_, G6.out.pop.pop.hd3⟩) (fun W hSW => by go_simp) ?_
    try simp only [pu, l0, l1, l2]
    refine tk 11 ⟨some 35, .fieldAddr 91 (.tmp 34) 0, _, _, _, none⟩ (.pointer (some ⟨L, 0, none⟩)) rfl (by kernel_rfl) (fun _ _ _ => id) (⟨_, G6.out.pop.pop.hd3⟩) (fun W hSW => by go_simp) ?_
    try simp only [pu, l0, l1, l2]
    refine rd1 12 ⟨none, .store 89 (.tmp 35) (.tmp 33), _, _, _, none⟩ (by kernel_rfl) rfl fun K' hK' => ?_
    have hc12 : y4.cell? ⟨L, 0, none⟩ = some rv := block_cell G6.out.pop.pop.hd3 0 rv rfl
    rw [hrv] at hc12
    have hf12 : y4.frozen? ⟨L, 0, none⟩ = false := free_block G6.out.pop.pop.hd3 0
    go_simp
    refine hK'.out _ _ ⟨_, heap_set G6.out.pop.pop.hd3 _⟩ (fun _ => ?_)
    clear hK' K' hc12 hf12
    refine wpAnyH_done (by kernel_rfl) ?_ _
    have G7 : Hid (NewAt v os L vb va (k + 1) (y4.setCell ⟨L, 0, none⟩ (.slice A2 (k + 1) c2))) := iq (new_snoc HL.out ((G6.out.perm (perm_five _ _ _ _ _ _)).pop))
    clear G6
    go_wp2_with fail
    go_roundw
    case measure => simp [intOf] <;> omega
    case rel => exact ⟨k + 1, by omega, by go_num, G7⟩
  ·obtain rfl : k = n := by omega
   have kd : decide ((k : Int) < (k : Int)) = false := decide_eq_false (by omega)
   obtain ⟨A, hA, hF⟩ := new_end HK.out HE.out.1 HE.out.2
   have HF := iq hF
   subst hA
   clear hF HK
   go_wp2_with fail
   exact bodyPost_ret (results_tmp2 rfl _ _ _) rfl ⟨A, rfl, HF.out⟩
end Go.Proofs.YtknpcmadghkaaaaGreatDoor.Sh
