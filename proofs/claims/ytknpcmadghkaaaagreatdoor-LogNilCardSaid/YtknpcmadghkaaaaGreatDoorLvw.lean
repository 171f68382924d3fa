/- Laws and walks. -/
import Derived.Test.YtknpcmadghkaaaaGreatDoorLuw
set_option maxHeartbeats 16000000
set_option maxRecDepth 100000
namespace Go.Proofs.YtknpcmadghkaaaaGreatDoor.Sh
open Go.RowKit
def MLogs.cmt (M : MLogs) (o : Nat) (m : MMsg) : Bool × MLogs :=
 match vix M.vs m.body.view with
 | none => (false, M)
 | some i => match M.vs[i]?, M.strs[o]? with
  | some V, some s => if m.body.view % M.n ≠ o /\ (Sh.cmt s.past m.body.view m.body.k (V.kn (m.deps.getD (m.body.view % M.n) 0) : Nat)).1 = true then (true, M.upd o { s with past := (Sh.cmt s.past m.body.view m.body.k (V.kn (m.deps.getD (m.body.view % M.n) 0) : Nat)).2 }) else (false, M)
  | _, _ => (false, M)
theorem cmt_none {M : MLogs} {o : Nat} {m : MMsg} (h : vix M.vs m.body.view = none) : M.cmt o m = (false, M) := by rw [MLogs.cmt, h]
theorem cmt_some {M : MLogs} {o i : Nat} {m : MMsg} {V : MV} {s : MStr} (h : vix M.vs m.body.view = some i) (h1 : M.vs[i]? = some V) (h2 : M.strs[o]? = some s) :
  M.cmt o m = if m.body.view % M.n ≠ o /\ (Sh.cmt s.past m.body.view m.body.k (V.kn (m.deps.getD (m.body.view % M.n) 0) : Nat)).1 = true then (true, M.upd o { s with past := (Sh.cmt s.past m.body.view m.body.k (V.kn (m.deps.getD (m.body.view % M.n) 0) : Nat)).2 }) else (false, M) := by
 unfold MLogs.cmt
 simp only [h, h1, h2]
theorem pcmt_false {p : MPast} {x k : Nat} {z : Int} (h : (Sh.cmt p x k z).1 = false) : (Sh.cmt p x k z).2 = p := by
 unfold Sh.cmt at h ⊢
 by_cases e : opn p x = true /\ k = (vot p.L x).getD 0 + 1 /\ (((vot p.L x).getD 0 : Nat) : Int) < z
 ·rw [if_pos e] at h; cases h
 ·rw [if_neg e]
def RdC (g o pb mb : Nat) (m : MMsg) (W : World) : Prop := W.heap[mb]? = some (.cells (msgC m).toArray 39 (0, 0)) /\ W.cell? ⟨g, o * 4 + 1, none⟩ = some (.pointer (some ⟨pb, 0, none⟩))
theorem rdc {v W : World} {A : LA} {M : MLogs} {os : List Thing} {mb o : Nat} {m : MMsg} {a : SA} {s : MStr} (H : LogFr v W A M (blkT mb (msgC m).toArray 39 :: os)) (ha : A.sa[o]? = some a) (hs : M.strs[o]? = some s) : RdC A.g o a.pb mb m W :=
 ⟨H.top, (H.hd.str ha hs).2.1⟩
theorem u64s_at {l : List Nat} {j : Nat} (h : j < l.length) : (u64s l)[j]? = some (.int .u64 ((l.getD j 0 : Nat) : Int)) := by simp [u64s, h]
theorem commit_any {v w : World} {A : LA} {M : MLogs} {os : List Thing} (H : LogFr v w A M os) (m : MMsg) (hm : m.Wf) {o : Nat} {s : MStr} (hs : M.strs[o]? = some s) (ho : m.origin = (o : Int) + 1) (hT : tot M.vs < 1000000) (hv : m.body.view < 1073741824) :
  Calls Tryz.prog 65 #[.pointer (some ⟨A.L, 0, none⟩), .agg (msgC m).toArray] w fun E w' => E = .returned (.bool (M.cmt o m).1) /\ ∃ A' : LA, A'.L = A.L /\ LogFr v w' A' (M.cmt o m).2 os := by
 obtain ⟨a, ha⟩ := H.sa_at hs
 have H0 := iq (H.push (H.fr.box (msgC m).toArray 39))
 have HM := iq (fun (W : World) (mb : Nat) (h : W.heap[mb]? = some (.cells (msgC m).toArray 39 (0, 0))) => msg_lies (range_of h) hm)
 have hon : o < M.n := (List.getElem?_eq_some_iff.1 hs).1
 have h11 := H.ok.n11
 have h3 := H.ok.n3
 have HSel : Hid ((vix M.vs m.body.view = none) \/ ∃ i, vix M.vs m.body.view = some i) := iq (by cases vix M.vs m.body.view <;> simp)
 have hpn : m.body.view % M.n < M.n := Nat.mod_lt _ (by omega)
 obtain ⟨p, hp⟩ : ∃ p, p = m.body.view % M.n := ⟨_, rfl⟩
 have HP := iq hp
 rw [<- hp] at hpn
 have HDp : Hid (∀ (W : World) (mb : Nat), W.heap[mb]? = some (.cells (msgC m).toArray 39 (0, 0)) -> W.cell? ⟨mb, 2 + p, none⟩ = some (.int .u64 ((m.deps.getD p 0 : Nat) : Int))) := iq fun W mb h => (HM.out W mb h).deps p _ (u64s_at (by rw [hm.1]; omega))
 have HS := iq hs
 have HA := iq ha
 have HO := iq ho
 have HT := iq hT
 have HV := iq hv
 have H311 : Hid (3 <= M.n /\ M.n <= 11 /\ o < M.n /\ p < M.n) := iq ⟨h3, h11, hon, hpn⟩
 have c1 : (w.alloc (.cells (msgC m).toArray 39)).cell? ⟨w.heap.size, 14, none⟩ = some (.int .u64 (m.body.view : Int)) := (HM.out _ _ H0.out.top).body.view
 clear H hs ha ho hT hv hm hon h11 h3 hp hpn
 rcases HSel.out with hx | ⟨i, hx⟩
 ·have HX := iq (cmt_none (o := o) hx)
  have hvn := vF_no (va := A.va) hx
  clear hx
  go_enter Tryz.func65, Tryz.ntmps65
  go_wp2_with (first | (go_at_call 43; refine (view_any H0.out.hd (v := m.body.view) (by have := HV.out; omega)).mono ?_; rintro E w3 ⟨rfl, rfl⟩) | (go_at_call 96; refine (primary_any H0.out.hd H311.out.1 H311.out.2.1 m.body.view (by have := HV.out; omega)).mono ?_; rintro E w3 ⟨rfl, rfl⟩))
  try rw [hvn]
  refine wp_region_any (by kernel_rfl) ?_
  change wpAny _ _ _ _ _ _ _ (World.drewN _ 1)
  have G3 := iq (H0.out.drewN 1)
  generalize (w.alloc (.cells (msgC m).toArray 39)).drewN 1 = y3 at G3 ⊢
  obtain ⟨mb, hmb⟩ : ∃ x, x = w.heap.size := ⟨_, rfl⟩
  rw [<- hmb] at G3 ⊢
  clear hmb H0 c1
  refine wpAny_of_held (S := fun _ => True) _ _ _ _ ?_
  refine tk 0 ⟨some 17, .move (.tmp 6), _, _, _, none⟩ (.pointer none) rfl (by kernel_rfl) (fun _ _ _ => id) (trivial) (fun W hSW => by go_simp) ?_
  try simp only [Act.put, l0, l1, l2]
  refine tk 1 ⟨some 18, .binOp .neq 86 (.tmp 17) (.const (.pointer none)) 86, _, _, _, none⟩ (.bool false) rfl (by kernel_rfl) (fun _ _ _ => id) (trivial) (fun W hSW => by go_simp) ?_
  try simp only [pu, l0, l1, l2]
  refine tk 2 ⟨some 19, .move (.tmp 18), _, _, _, none⟩ (.bool false) rfl (by kernel_rfl) (fun _ _ _ => id) (trivial) (fun W hSW => by go_simp) ?_
  try simp only [pu, l0, l1, l2]
  refine sk 3 ⟨some 20, .fieldAddr 39 (.tmp 3) 0, _, _, _, some (2, true)⟩ rfl (by kernel_rfl) (fun _ _ _ => id) (trivial) ?_
  try simp only [pu, l0, l1, l2]
  refine sk 4 ⟨some 21, .load 3 (.tmp 20), _, _, _, some (2, true)⟩ rfl (by kernel_rfl) (fun _ _ _ => id) (trivial) ?_
  try simp only [pu, l0, l1, l2]
  refine sk 5 ⟨some 22, .move (.tmp 7), _, _, _, some (2, true)⟩ rfl (by kernel_rfl) (fun _ _ _ => id) (trivial) ?_
  try simp only [pu, l0, l1, l2]
  refine sk 6 ⟨some 23, .binOp .neq 3 (.tmp 21) (.tmp 22) 3, _, _, _, some (2, true)⟩ rfl (by kernel_rfl) (fun _ _ _ => id) (trivial) ?_
  try simp only [pu, l0, l1, l2]
  refine tk 7 ⟨some 24, .pick (.tmp 19) (.tmp 23) (.const (.bool false)), _, _, _, none⟩ (.bool false) rfl (by kernel_rfl) (fun _ _ _ => id) (trivial) (fun W hSW => by go_simp) ?_
  try simp only [pu, l0, l1, l2]
  refine tk 8 ⟨some 25, .move (.tmp 24), _, _, _, none⟩ (.bool false) rfl (by kernel_rfl) (fun _ _ _ => id) (trivial) (fun W hSW => by go_simp) ?_
  try simp only [pu, l0, l1, l2]
  refine sk 9 ⟨some 26, .move (.tmp 0), _, _, _, some (8, true)⟩ rfl (by kernel_rfl) (fun _ _ _ => id) (trivial) ?_
  try simp only [pu, l0, l1, l2]
  refine sk 10 ⟨some 27, .fieldAddr 39 (.tmp 3) 0, _, _, _, some (8, true)⟩ rfl (by kernel_rfl) (fun _ _ _ => id) (trivial) ?_
  try simp only [pu, l0, l1, l2]
  refine sk 11 ⟨some 28, .load 3 (.tmp 27), _, _, _, some (8, true)⟩ rfl (by kernel_rfl) (fun _ _ _ => id) (trivial) ?_
  try simp only [pu, l0, l1, l2]
  refine sk 12 ⟨some 29, .call { callee := .value (.func 39), args := #[.tmp 26, .tmp 28], argTypes := #[46, 3] }, _, _, _, some (8, true)⟩ rfl (by kernel_rfl) (fun _ _ _ => id) (trivial) ?_
  try simp only [pu, l0, l1, l2]
  refine sk 13 ⟨some 30, .nilCheck (.tmp 29), _, _, _, some (8, true)⟩ rfl (by kernel_rfl) (fun _ _ _ => id) (trivial) ?_
  try simp only [pu, l0, l1, l2]
  refine sk 14 ⟨some 31, .fieldAddr 96 (.tmp 30) 1, _, _, _, some (8, true)⟩ rfl (by kernel_rfl) (fun _ _ _ => id) (trivial) ?_
  try simp only [pu, l0, l1, l2]
  refine sk 15 ⟨some 32, .load 92 (.tmp 31), _, _, _, some (8, true)⟩ rfl (by kernel_rfl) (fun _ _ _ => id) (trivial) ?_
  try simp only [pu, l0, l1, l2]
  refine sk 16 ⟨some 33, .move (.tmp 5), _, _, _, some (8, true)⟩ rfl (by kernel_rfl) (fun _ _ _ => id) (trivial) ?_
  try simp only [pu, l0, l1, l2]
  refine sk 17 ⟨some 34, .fieldAddr 39 (.tmp 3) 3, _, _, _, some (8, true)⟩ rfl (by kernel_rfl) (fun _ _ _ => id) (trivial) ?_
  try simp only [pu, l0, l1, l2]
  refine sk 18 ⟨some 35, .fieldAddr 35 (.tmp 34) 2, _, _, _, some (8, true)⟩ rfl (by kernel_rfl) (fun _ _ _ => id) (trivial) ?_
  try simp only [pu, l0, l1, l2]
  refine sk 19 ⟨some 36, .load 25 (.tmp 35), _, _, _, some (8, true)⟩ rfl (by kernel_rfl) (fun _ _ _ => id) (trivial) ?_
  try simp only [pu, l0, l1, l2]
  refine sk 20 ⟨some 37, .move (.tmp 6), _, _, _, some (8, true)⟩ rfl (by kernel_rfl) (fun _ _ _ => id) (trivial) ?_
  try simp only [pu, l0, l1, l2]
  refine sk 21 ⟨some 38, .move (.tmp 7), _, _, _, some (8, true)⟩ rfl (by kernel_rfl) (fun _ _ _ => id) (trivial) ?_
  try simp only [pu, l0, l1, l2]
  refine sk 22 ⟨some 39, .binOp .sub 3 (.tmp 38) (.const (.int .i64 1)) 3, _, _, _, some (8, true)⟩ rfl (by kernel_rfl) (fun _ _ _ => id) (trivial) ?_
  try simp only [pu, l0, l1, l2]
  refine sk 23 ⟨some 40, .fieldAddr 39 (.tmp 3) 2, _, _, _, some (8, true)⟩ rfl (by kernel_rfl) (fun _ _ _ => id) (trivial) ?_
  try simp only [pu, l0, l1, l2]
  refine sk 24 ⟨some 41, .indexAddr 37 (.tmp 40) (.tmp 39), _, _, _, some (8, true)⟩ rfl (by kernel_rfl) (fun _ _ _ => id) (trivial) ?_
  try simp only [pu, l0, l1, l2]
  refine sk 25 ⟨some 42, .load 25 (.tmp 41), _, _, _, some (8, true)⟩ rfl (by kernel_rfl) (fun _ _ _ => id) (trivial) ?_
  try simp only [pu, l0, l1, l2]
  refine sk 26 ⟨some 43, .call { callee := .value (.func 102), args := #[.tmp 37, .tmp 42], argTypes := #[86, 25] }, _, _, _, some (8, true)⟩ rfl (by kernel_rfl) (fun _ _ _ => id) (trivial) ?_
  try simp only [pu, l0, l1, l2]
  refine sk 27 ⟨some 44, .call { callee := .value (.func 101), args := #[.tmp 32, .tmp 33, .tmp 36, .tmp 43], argTypes := #[92, 25, 25, 3] }, _, _, _, some (8, true)⟩ rfl (by kernel_rfl) (fun _ _ _ => id) (trivial) ?_
  try simp only [pu, l0, l1, l2]
  refine tk 28 ⟨some 45, .pick (.tmp 25) (.tmp 44) (.const (.bool false)), _, _, _, none⟩ (.bool false) rfl (by kernel_rfl) (fun _ _ _ => id) (trivial) (fun W hSW => by go_simp) ?_
  try simp only [pu, l0, l1, l2]
  refine tk 29 ⟨some 4, .assign (.tmp 45), _, _, _, none⟩ (.bool false) rfl (by kernel_rfl) (fun _ _ _ => id) (trivial) (fun W hSW => by go_simp) ?_
  try simp only [pu, l0, l1, l2]
  refine wpAnyH_done (by kernel_rfl) ?_ _
  clear hvn
  go_wp2_with fail
  go_ret
  exact ⟨ret_bool (by rw [HX.out]), A, rfl, by rw [HX.out]; exact G3.out.pop⟩
 ·obtain ⟨c, V, hc, hV, hVv, hptr⟩ := H0.out.vF_at hx
  have HX0 := cmt_some hx hV HS.out
  rw [<- HP.out] at HX0
  have HX := iq HX0
  have HVV := iq hV
  have HC := iq hc
  clear hx hV hc hVv HX0
  go_enter Tryz.func65, Tryz.ntmps65
  go_wp2_with (first | (go_at_call 43; refine (view_any H0.out.hd (v := m.body.view) (by have := HV.out; omega)).mono ?_; rintro E w3 ⟨rfl, rfl⟩) | (go_at_call 96; refine (primary_any H0.out.hd H311.out.1 H311.out.2.1 m.body.view (by have := HV.out; omega)).mono ?_; rintro E w3 ⟨rfl, rfl⟩))
  try rw [hptr]
  clear hptr
  refine wp_region_any (by kernel_rfl) ?_
  change wpAny _ _ _ _ _ _ _ (World.drewN _ 1)
  have G3 := iq (H0.out.drewN 1)
  generalize (w.alloc (.cells (msgC m).toArray 39)).drewN 1 = y3 at G3 ⊢
  obtain ⟨mb, hmb⟩ : ∃ x, x = w.heap.size := ⟨_, rfl⟩
  rw [<- hmb] at G3 ⊢
  clear hmb H0 c1
  have hpe : ((m.body.view % M.n : Nat) : Int) = (p : Int) := by rw [HP.out]
  have hpe2 : (m.body.view : Int) % (M.n : Int) = (p : Int) := by rw [HP.out]; simp
  try rw [hpe]
  try rw [hpe2]
  clear hpe hpe2
  refine wpAny_of_held (S := RdC A.g o a.pb mb m) _ _ _ _ ?_
  by_cases hpo : p = o
  ·skip
   have hpr : m.origin = (p : Int) + 1 := by rw [HO.out]; omega
   have HNo : Hid (¬ (p ≠ o /\ (Sh.cmt s.past m.body.view m.body.k (V.kn (m.deps.getD p 0) : Nat)).1 = true)) := iq fun h => h.1 hpo
   clear hpo
   refine tk 0 ⟨some 17, .move (.tmp 6), _, _, _, none⟩ (.pointer (some ⟨c.b, 0, none⟩)) rfl (by kernel_rfl) (fun _ _ _ => id) ((rdc G3.out HA.out HS.out)) (fun W hSW => by go_simp) ?_
   try simp only [Act.put, l0, l1, l2]
   refine tk 1 ⟨some 18, .binOp .neq 86 (.tmp 17) (.const (.pointer none)) 86, _, _, _, none⟩ (.bool true) rfl (by kernel_rfl) (fun _ _ _ => id) ((rdc G3.out HA.out HS.out)) (fun W hSW => by go_simp) ?_
   try simp only [pu, l0, l1, l2]
   refine tk 2 ⟨some 19, .move (.tmp 18), _, _, _, none⟩ (.bool true) rfl (by kernel_rfl) (fun _ _ _ => id) ((rdc G3.out HA.out HS.out)) (fun W hSW => by go_simp) ?_
   try simp only [pu, l0, l1, l2]
   refine tk 3 ⟨some 20, .fieldAddr 39 (.tmp 3) 0, _, _, _, some (2, true)⟩ (.pointer (some ⟨mb, 0, none⟩)) rfl (by kernel_rfl) (fun _ _ _ => id) ((rdc G3.out HA.out HS.out)) (fun W hSW => by go_simp) ?_
   try simp only [pu, l0, l1, l2]
   refine tk 4 ⟨some 21, .load 3 (.tmp 20), _, _, _, some (2, true)⟩ (.int .i64 m.origin) rfl (by kernel_rfl) (fun _ _ _ => id) ((rdc G3.out HA.out HS.out)) (fun W hSW => by have hv := (HM.out W mb hSW.1).origin; go_simp) ?_
   try simp only [pu, l0, l1, l2]
   refine tk 5 ⟨some 22, .move (.tmp 7), _, _, _, some (2, true)⟩ (.int .i64 ((p : Int) + 1)) rfl (by kernel_rfl) (fun _ _ _ => id) ((rdc G3.out HA.out HS.out)) (fun W hSW => by go_simp) ?_
   try simp only [pu, l0, l1, l2]
   refine tk 6 ⟨some 23, .binOp .neq 3 (.tmp 21) (.tmp 22) 3, _, _, _, some (2, true)⟩ (.bool false) rfl (by kernel_rfl) (fun _ _ _ => id) ((rdc G3.out HA.out HS.out)) (fun W hSW => by have ho6 := HO.out; have hv := hpr; go_simp) ?_
   try simp only [pu, l0, l1, l2]
   refine tk 7 ⟨some 24, .pick (.tmp 19) (.tmp 23) (.const (.bool false)), _, _, _, none⟩ (.bool false) rfl (by kernel_rfl) (fun _ _ _ => id) ((rdc G3.out HA.out HS.out)) (fun W hSW => by go_simp) ?_
   try simp only [pu, l0, l1, l2]
   refine tk 8 ⟨some 25, .move (.tmp 24), _, _, _, none⟩ (.bool false) rfl (by kernel_rfl) (fun _ _ _ => id) ((rdc G3.out HA.out HS.out)) (fun W hSW => by go_simp) ?_
   try simp only [pu, l0, l1, l2]
   refine sk 9 ⟨some 26, .move (.tmp 0), _, _, _, some (8, true)⟩ rfl (by kernel_rfl) (fun _ _ _ => id) ((rdc G3.out HA.out HS.out)) ?_
   try simp only [pu, l0, l1, l2]
   refine sk 10 ⟨some 27, .fieldAddr 39 (.tmp 3) 0, _, _, _, some (8, true)⟩ rfl (by kernel_rfl) (fun _ _ _ => id) ((rdc G3.out HA.out HS.out)) ?_
   try simp only [pu, l0, l1, l2]
   refine sk 11 ⟨some 28, .load 3 (.tmp 27), _, _, _, some (8, true)⟩ rfl (by kernel_rfl) (fun _ _ _ => id) ((rdc G3.out HA.out HS.out)) ?_
   try simp only [pu, l0, l1, l2]
   refine sk 12 ⟨some 29, .call { callee := .value (.func 39), args := #[.tmp 26, .tmp 28], argTypes := #[46, 3] }, _, _, _, some (8, true)⟩ rfl (by kernel_rfl) (fun _ _ _ => id) ((rdc G3.out HA.out HS.out)) ?_
   try simp only [pu, l0, l1, l2]
   refine sk 13 ⟨some 30, .nilCheck (.tmp 29), _, _, _, some (8, true)⟩ rfl (by kernel_rfl) (fun _ _ _ => id) ((rdc G3.out HA.out HS.out)) ?_
   try simp only [pu, l0, l1, l2]
   refine sk 14 ⟨some 31, .fieldAddr 96 (.tmp 30) 1, _, _, _, some (8, true)⟩ rfl (by kernel_rfl) (fun _ _ _ => id) ((rdc G3.out HA.out HS.out)) ?_
   try simp only [pu, l0, l1, l2]
   refine sk 15 ⟨some 32, .load 92 (.tmp 31), _, _, _, some (8, true)⟩ rfl (by kernel_rfl) (fun _ _ _ => id) ((rdc G3.out HA.out HS.out)) ?_
   try simp only [pu, l0, l1, l2]
   refine sk 16 ⟨some 33, .move (.tmp 5), _, _, _, some (8, true)⟩ rfl (by kernel_rfl) (fun _ _ _ => id) ((rdc G3.out HA.out HS.out)) ?_
   try simp only [pu, l0, l1, l2]
   refine sk 17 ⟨some 34, .fieldAddr 39 (.tmp 3) 3, _, _, _, some (8, true)⟩ rfl (by kernel_rfl) (fun _ _ _ => id) ((rdc G3.out HA.out HS.out)) ?_
   try simp only [pu, l0, l1, l2]
   refine sk 18 ⟨some 35, .fieldAddr 35 (.tmp 34) 2, _, _, _, some (8, true)⟩ rfl (by kernel_rfl) (fun _ _ _ => id) ((rdc G3.out HA.out HS.out)) ?_
   try simp only [pu, l0, l1, l2]
   refine sk 19 ⟨some 36, .load 25 (.tmp 35), _, _, _, some (8, true)⟩ rfl (by kernel_rfl) (fun _ _ _ => id) ((rdc G3.out HA.out HS.out)) ?_
   try simp only [pu, l0, l1, l2]
   refine sk 20 ⟨some 37, .move (.tmp 6), _, _, _, some (8, true)⟩ rfl (by kernel_rfl) (fun _ _ _ => id) ((rdc G3.out HA.out HS.out)) ?_
   try simp only [pu, l0, l1, l2]
   refine sk 21 ⟨some 38, .move (.tmp 7), _, _, _, some (8, true)⟩ rfl (by kernel_rfl) (fun _ _ _ => id) ((rdc G3.out HA.out HS.out)) ?_
   try simp only [pu, l0, l1, l2]
   refine sk 22 ⟨some 39, .binOp .sub 3 (.tmp 38) (.const (.int .i64 1)) 3, _, _, _, some (8, true)⟩ rfl (by kernel_rfl) (fun _ _ _ => id) ((rdc G3.out HA.out HS.out)) ?_
   try simp only [pu, l0, l1, l2]
   refine sk 23 ⟨some 40, .fieldAddr 39 (.tmp 3) 2, _, _, _, some (8, true)⟩ rfl (by kernel_rfl) (fun _ _ _ => id) ((rdc G3.out HA.out HS.out)) ?_
   try simp only [pu, l0, l1, l2]
   refine sk 24 ⟨some 41, .indexAddr 37 (.tmp 40) (.tmp 39), _, _, _, some (8, true)⟩ rfl (by kernel_rfl) (fun _ _ _ => id) ((rdc G3.out HA.out HS.out)) ?_
   try simp only [pu, l0, l1, l2]
   refine sk 25 ⟨some 42, .load 25 (.tmp 41), _, _, _, some (8, true)⟩ rfl (by kernel_rfl) (fun _ _ _ => id) ((rdc G3.out HA.out HS.out)) ?_
   try simp only [pu, l0, l1, l2]
   refine sk 26 ⟨some 43, .call { callee := .value (.func 102), args := #[.tmp 37, .tmp 42], argTypes := #[86, 25] }, _, _, _, some (8, true)⟩ rfl (by kernel_rfl) (fun _ _ _ => id) ((rdc G3.out HA.out HS.out)) ?_
   try simp only [pu, l0, l1, l2]
   refine sk 27 ⟨some 44, .call { callee := .value (.func 101), args := #[.tmp 32, .tmp 33, .tmp 36, .tmp 43], argTypes := #[92, 25, 25, 3] }, _, _, _, some (8, true)⟩ rfl (by kernel_rfl) (fun _ _ _ => id) ((rdc G3.out HA.out HS.out)) ?_
   try simp only [pu, l0, l1, l2]
   refine tk 28 ⟨some 45, .pick (.tmp 25) (.tmp 44) (.const (.bool false)), _, _, _, none⟩ (.bool false) rfl (by kernel_rfl) (fun _ _ _ => id) ((rdc G3.out HA.out HS.out)) (fun W hSW => by go_simp) ?_
   try simp only [pu, l0, l1, l2]
   refine tk 29 ⟨some 4, .assign (.tmp 45), _, _, _, none⟩ (.bool false) rfl (by kernel_rfl) (fun _ _ _ => id) ((rdc G3.out HA.out HS.out)) (fun W hSW => by go_simp) ?_
   try simp only [pu, l0, l1, l2]
   refine wpAnyH_done (by kernel_rfl) ?_ _
   clear hpr
   go_wp2_with fail
   go_ret
   exact ⟨ret_bool (by rw [HX.out, if_neg HNo.out]), A, rfl, by rw [HX.out, if_neg HNo.out]; exact G3.out.pop⟩
  ·skip
   have hop : ¬ ((o : Int) = (p : Int)) := by omega
   have hw2 : IntKind.i64.wrap (p : Int) = (p : Int) := by rw [IntKind.wrap_i64]; have := H311.out; omega
   have hpr : ¬ (m.origin = (p : Int) + 1) := by rw [HO.out]; omega
   have hw1 : IntKind.i64.wrap ((p : Int) + 1 - 1) = (p : Int) := by rw [IntKind.wrap_i64]; have := H311.out; omega
   have hq0 : (0 : Int) <= (p : Int) := by omega
   have hq1 : (p : Int) < 11 := by have := H311.out; omega
   have hq2 : (p : Int).toNat = p := by omega
   have hq3 : p < 11 := by have := H311.out; omega
   have HRi := iq (G3.out.ok.vw i V HVV.out).rise
   have HLen : Hid (V.log.length <= 1000000000) := iq (Nat.le_trans (G3.out.ok.len' (i := i) HVV.out) (by have := HT.out; omega))
   have HKn : Hid (V.kn (m.deps.getD p 0) <= 1000000000) := iq (Nat.le_trans (kn_le V _) HLen.out)
   obtain ⟨z, hz⟩ : ∃ z, z = (Sh.cmt s.past m.body.view m.body.k (V.kn (m.deps.getD p 0) : Nat)).1 := ⟨_, rfl⟩
   refine tk 0 ⟨some 17, .move (.tmp 6), _, _, _, none⟩ (.pointer (some ⟨c.b, 0, none⟩)) rfl (by kernel_rfl) (fun _ _ _ => id) ((rdc G3.out HA.out HS.out)) (fun W hSW => by go_simp) ?_
   try simp only [Act.put, l0, l1, l2]
   refine tk 1 ⟨some 18, .binOp .neq 86 (.tmp 17) (.const (.pointer none)) 86, _, _, _, none⟩ (.bool true) rfl (by kernel_rfl) (fun _ _ _ => id) ((rdc G3.out HA.out HS.out)) (fun W hSW => by go_simp) ?_
   try simp only [pu, l0, l1, l2]
   refine tk 2 ⟨some 19, .move (.tmp 18), _, _, _, none⟩ (.bool true) rfl (by kernel_rfl) (fun _ _ _ => id) ((rdc G3.out HA.out HS.out)) (fun W hSW => by go_simp) ?_
   try simp only [pu, l0, l1, l2]
   refine tk 3 ⟨some 20, .fieldAddr 39 (.tmp 3) 0, _, _, _, some (2, true)⟩ (.pointer (some ⟨mb, 0, none⟩)) rfl (by kernel_rfl) (fun _ _ _ => id) ((rdc G3.out HA.out HS.out)) (fun W hSW => by go_simp) ?_
   try simp only [pu, l0, l1, l2]
   refine tk 4 ⟨some 21, .load 3 (.tmp 20), _, _, _, some (2, true)⟩ (.int .i64 m.origin) rfl (by kernel_rfl) (fun _ _ _ => id) ((rdc G3.out HA.out HS.out)) (fun W hSW => by have hv := (HM.out W mb hSW.1).origin; go_simp) ?_
   try simp only [pu, l0, l1, l2]
   refine tk 5 ⟨some 22, .move (.tmp 7), _, _, _, some (2, true)⟩ (.int .i64 ((p : Int) + 1)) rfl (by kernel_rfl) (fun _ _ _ => id) ((rdc G3.out HA.out HS.out)) (fun W hSW => by go_simp) ?_
   try simp only [pu, l0, l1, l2]
   refine tk 6 ⟨some 23, .binOp .neq 3 (.tmp 21) (.tmp 22) 3, _, _, _, some (2, true)⟩ (.bool true) rfl (by kernel_rfl) (fun _ _ _ => id) ((rdc G3.out HA.out HS.out)) (fun W hSW => by have ho6 := HO.out; have hv := hpr; have ho7 := hop; go_simp) ?_
   try simp only [pu, l0, l1, l2]
   refine tk 7 ⟨some 24, .pick (.tmp 19) (.tmp 23) (.const (.bool false)), _, _, _, none⟩ (.bool true) rfl (by kernel_rfl) (fun _ _ _ => id) ((rdc G3.out HA.out HS.out)) (fun W hSW => by go_simp) ?_
   try simp only [pu, l0, l1, l2]
   refine tk 8 ⟨some 25, .move (.tmp 24), _, _, _, none⟩ (.bool true) rfl (by kernel_rfl) (fun _ _ _ => id) ((rdc G3.out HA.out HS.out)) (fun W hSW => by go_simp) ?_
   try simp only [pu, l0, l1, l2]
   refine tk 9 ⟨some 26, .move (.tmp 0), _, _, _, some (8, true)⟩ (.pointer (some ⟨A.L, 0, none⟩)) rfl (by kernel_rfl) (fun _ _ _ => id) ((rdc G3.out HA.out HS.out)) (fun W hSW => by go_simp) ?_
   try simp only [pu, l0, l1, l2]
   refine tk 10 ⟨some 27, .fieldAddr 39 (.tmp 3) 0, _, _, _, some (8, true)⟩ (.pointer (some ⟨mb, 0, none⟩)) rfl (by kernel_rfl) (fun _ _ _ => id) ((rdc G3.out HA.out HS.out)) (fun W hSW => by go_simp) ?_
   try simp only [pu, l0, l1, l2]
   refine tk 11 ⟨some 28, .load 3 (.tmp 27), _, _, _, some (8, true)⟩ (.int .i64 m.origin) rfl (by kernel_rfl) (fun _ _ _ => id) ((rdc G3.out HA.out HS.out)) (fun W hSW => by have hv := (HM.out W mb hSW.1).origin; go_simp) ?_
   try simp only [pu, l0, l1, l2]
   refine tk 16 ⟨some 33, .move (.tmp 5), _, _, _, some (8, true)⟩ (.int .u64 (m.body.view : Int)) rfl (by kernel_rfl) (fun _ _ _ => id) ((rdc G3.out HA.out HS.out)) (fun W hSW => by go_simp) ?_
   try simp only [pu, l0, l1, l2]
   refine tk 17 ⟨some 34, .fieldAddr 39 (.tmp 3) 3, _, _, _, some (8, true)⟩ (.pointer (some ⟨mb, 13, none⟩)) rfl (by kernel_rfl) (fun _ _ _ => id) ((rdc G3.out HA.out HS.out)) (fun W hSW => by go_simp) ?_
   try simp only [pu, l0, l1, l2]
   refine tk 18 ⟨some 35, .fieldAddr 35 (.tmp 34) 2, _, _, _, some (8, true)⟩ (.pointer (some ⟨mb, 15, none⟩)) rfl (by kernel_rfl) (fun _ _ _ => id) ((rdc G3.out HA.out HS.out)) (fun W hSW => by go_simp) ?_
   try simp only [pu, l0, l1, l2]
   refine tk 19 ⟨some 36, .load 25 (.tmp 35), _, _, _, some (8, true)⟩ (.int .u64 (m.body.k : Int)) rfl (by kernel_rfl) (fun _ _ _ => id) ((rdc G3.out HA.out HS.out)) (fun W hSW => by have hv := (HM.out W mb hSW.1).body.k; go_simp) ?_
   try simp only [pu, l0, l1, l2]
   refine tk 20 ⟨some 37, .move (.tmp 6), _, _, _, some (8, true)⟩ (.pointer (some ⟨c.b, 0, none⟩)) rfl (by kernel_rfl) (fun _ _ _ => id) ((rdc G3.out HA.out HS.out)) (fun W hSW => by go_simp) ?_
   try simp only [pu, l0, l1, l2]
   refine tk 21 ⟨some 38, .move (.tmp 7), _, _, _, some (8, true)⟩ (.int .i64 ((p : Int) + 1)) rfl (by kernel_rfl) (fun _ _ _ => id) ((rdc G3.out HA.out HS.out)) (fun W hSW => by go_simp) ?_
   try simp only [pu, l0, l1, l2]
   refine tk 22 ⟨some 39, .binOp .sub 3 (.tmp 38) (.const (.int .i64 1)) 3, _, _, _, some (8, true)⟩ (.int .i64 (p : Int)) rfl (by kernel_rfl) (fun _ _ _ => id) ((rdc G3.out HA.out HS.out)) (fun W hSW => by have hv := hw1; have hv2 := hw2; go_simp) ?_
   try simp only [pu, l0, l1, l2]
   refine tk 23 ⟨some 40, .fieldAddr 39 (.tmp 3) 2, _, _, _, some (8, true)⟩ (.pointer (some ⟨mb, 2, none⟩)) rfl (by kernel_rfl) (fun _ _ _ => id) ((rdc G3.out HA.out HS.out)) (fun W hSW => by go_simp) ?_
   try simp only [pu, l0, l1, l2]
   refine tk 24 ⟨some 41, .indexAddr 37 (.tmp 40) (.tmp 39), _, _, _, some (8, true)⟩ (.pointer (some ⟨mb, 2 + p, none⟩)) rfl (by kernel_rfl) (fun _ _ _ => id) ((rdc G3.out HA.out HS.out)) (fun W hSW => by have hp0 := hq0; have hp1 := hq1; have hp2 := hq2; have hp3 := hq3; go_simp) ?_
   try simp only [pu, l0, l1, l2]
   refine tk 25 ⟨some 42, .load 25 (.tmp 41), _, _, _, some (8, true)⟩ (.int .u64 ((m.deps.getD p 0 : Nat) : Int)) rfl (by kernel_rfl) (fun _ _ _ => id) ((rdc G3.out HA.out HS.out)) (fun W hSW => by have hv := HDp.out W mb hSW.1; go_simp) ?_
   try simp only [pu, l0, l1, l2]
   refine rd1 12 ⟨some 29, .call { callee := .value (.func 39), args := #[.tmp 26, .tmp 28], argTypes := #[46, 3] }, _, _, _, some (8, true)⟩ (by kernel_rfl) rfl fun K' hK' => ?_
   go_simp
   go_at_call 39
   refine (stream_any G3.out.hd H311.out.2.1 H311.out.2.2.1 HO.out).mono ?_
   rintro E w4 ⟨rfl, rfl⟩
   refine hK'.out _ _ (rdc G3.out HA.out HS.out) (fun _ => ?_)
   clear hK' K'
   try simp only [Act.put, l0, l1, l2]
   refine tk 13 ⟨some 30, .nilCheck (.tmp 29), _, _, _, some (8, true)⟩ (.pointer (some ⟨A.g, o * 4, none⟩)) rfl (by kernel_rfl) (fun _ _ _ => id) ((rdc G3.out HA.out HS.out)) (fun W hSW => by go_simp) ?_
   try simp only [pu, l0, l1, l2]
   refine tk 14 ⟨some 31, .fieldAddr 96 (.tmp 30) 1, _, _, _, some (8, true)⟩ (.pointer (some ⟨A.g, o * 4 + 1, none⟩)) rfl (by kernel_rfl) (fun _ _ _ => id) ((rdc G3.out HA.out HS.out)) (fun W hSW => by go_simp) ?_
   try simp only [pu, l0, l1, l2]
   refine tk 15 ⟨some 32, .load 92 (.tmp 31), _, _, _, some (8, true)⟩ (.pointer (some ⟨a.pb, 0, none⟩)) rfl (by kernel_rfl) (fun _ _ _ => id) ((rdc G3.out HA.out HS.out)) (fun W hSW => by have hv := hSW.2; go_simp) ?_
   try simp only [pu, l0, l1, l2]
   refine rd1 26 ⟨some 43, .call { callee := .value (.func 102), args := #[.tmp 37, .tmp 42], argTypes := #[86, 25] }, _, _, _, some (8, true)⟩ (by kernel_rfl) rfl fun K' hK' => ?_
   go_simp
   go_at_call 102
   refine (known_any (G3.out.vw HC.out HVV.out) (fun W hb => (G3.out.below hb).vw HC.out HVV.out) HRi.out HLen.out (m.deps.getD p 0)).mono ?_
   rintro E w4 ⟨rfl, hb4⟩
   have G4 := iq (G3.out.below hb4)
   clear hb4 G3
   refine hK'.out _ _ (rdc G4.out HA.out HS.out) (fun _ => ?_)
   clear hK' K'
   try simp only [Act.put, l0, l1, l2]
   have G3 := iq G4.out
   clear G4
   refine rd1 27 ⟨some 44, .call { callee := .value (.func 101), args := #[.tmp 32, .tmp 33, .tmp 36, .tmp 43], argTypes := #[92, 25, 25, 3] }, _, _, _, some (8, true)⟩ (by kernel_rfl) rfl fun K' hK' => ?_
   go_simp
   go_at_call 101
   refine (Commit_any ⟨_, _, G3.out.past HA.out HS.out⟩ (x := m.body.view) (k := m.body.k) (by have := HV.out; omega) (most := (V.kn (m.deps.getD p 0) : Nat)) (by have := HKn.out; omega)).mono ?_
   rintro E w5 ⟨rfl, hpa⟩
   rw [<- hz]
   have hhd : HdAt w5 A M := (let ⟨_, _, hf⟩ := hpa; hf.hd2)
   obtain ⟨A1, e1, e2, e3, hL⟩ := G3.out.past_put HA.out HS.out hpa
   have HSn : Hid (RdC A.g o a.pb mb m w5) := iq ⟨hL.top, (hhd.str HA.out HS.out).2.1⟩
   have G5 := iq hL
   have HE1 : Hid (A1.L = A.L) := iq e1
   clear hpa hL hhd e1 e2 e3
   refine hK'.out _ _ HSn.out (fun _ => ?_)
   clear hK' K'
   try simp only [Act.put, l0, l1, l2]
   refine tk 28 ⟨some 45, .pick (.tmp 25) (.tmp 44) (.const (.bool false)), _, _, _, none⟩ (.bool z) rfl (by kernel_rfl) (fun _ _ _ => id) (HSn.out) (fun W hSW => by go_simp) ?_
   try simp only [pu, l0, l1, l2]
   refine tk 29 ⟨some 4, .assign (.tmp 45), _, _, _, none⟩ (.bool z) rfl (by kernel_rfl) (fun _ _ _ => id) (HSn.out) (fun W hSW => by go_simp) ?_
   try simp only [pu, l0, l1, l2]
   refine wpAnyH_done (by kernel_rfl) ?_ _
   clear hpr hw1 hw2 hop hq0 hq1 hq2 hq3
   have HZ := iq hz
   clear hz
   go_wp2_with fail
   go_ret
   cases z with
   | true =>
    refine ⟨ret_bool (by rw [HX.out, if_pos ⟨hpo, HZ.out.symm⟩]), A1, HE1.out, ?_⟩
    rw [HX.out, if_pos ⟨hpo, HZ.out.symm⟩]
    exact G5.out.pop
   | false =>
    have hn : ¬ (p ≠ o /\ (Sh.cmt s.past m.body.view m.body.k (V.kn (m.deps.getD p 0) : Nat)).1 = true) := fun h => by
     have := h.2
     rw [<- HZ.out] at this
     cases this
    refine ⟨ret_bool (by rw [HX.out, if_neg hn]), A1, HE1.out, ?_⟩
    rw [HX.out, if_neg hn]
    have h := G5.out
    rw [pcmt_false HZ.out.symm, show ({ s with past := s.past } : MStr) = s from rfl, upd_id HS.out] at h
    exact h.pop
end Go.Proofs.YtknpcmadghkaaaaGreatDoor.Sh
