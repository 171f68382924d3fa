/- Laws and walks. -/
import Derived.Test.YtknpcmadghkaaaaGreatDoorLmw
set_option maxHeartbeats 16000000
set_option maxRecDepth 100000
namespace Go.Proofs.YtknpcmadghkaaaaGreatDoor.Sh
open Go.RowKit
theorem known_any {w : World} {a : VA} {sb : Option Nat} {V : MV} (h : ViewAt w a sb V) (hok : ∀ W, Below w.heap.size w W -> ViewAt W a sb V) (hr : (V.P.map (·.1)).Pairwise (· < ·)) (hl : V.log.length <= 1000000000) (x : Nat) :
  Calls Tryz.prog 102 #[.pointer (some ⟨a.b, 0, none⟩), .int .u64 (x : Int)] w fun E w' => E = .returned (.int .i64 (V.kn x : Int)) /\ Below w.heap.size w w' := by
 obtain ⟨w1, hw1⟩ : ∃ y, y = (w.alloc (.cells #[.pointer (some ⟨a.b, 0, none⟩)] 86)).alloc (.cells #[.int .u64 (x : Int)] 25) := ⟨_, rfl⟩
 have hB1 : Below w.heap.size w (w.alloc (.cells #[.pointer (some ⟨a.b, 0, none⟩)] 86)) := bl.alloc (Nat.le_refl _) _
 have hB2 : Below (w.heap.size + 1) (w.alloc (.cells #[.pointer (some ⟨a.b, 0, none⟩)] 86)) w1 := by rw [hw1]; exact bl.alloc (by simp) _
 have hB := hB1.trans (hB2.mono (Nat.le_succ _))
 have hs1 : w1.heap.size = w.heap.size + 2 := by rw [hw1]; simp
 have h1 : w1.heap[w.heap.size]? = some (.cells #[.pointer (some ⟨a.b, 0, none⟩)] 86 (0, 0)) := (hB2.block _ (Nat.lt_succ_self _)).trans (heap_alloc_new w _)
 have h2 : w1.heap[w.heap.size + 1]? = some (.cells #[.int .u64 (x : Int)] 25 (0, 0)) := by rw [hw1]; have := heap_alloc_new (w.alloc (.cells #[.pointer (some ⟨a.b, 0, none⟩)] 86)) (.cells #[.int .u64 (x : Int)] 25); simpa using this
 have HV := iq (fun (W : World) (hb : Below w1.heap.size w1 W) => hok W (hB.trans (hb.mono hB.size)))
 have H1 := iq (fun (W : World) (hb : Below w1.heap.size w1 W) => block_cell (C := [.pointer (some ⟨a.b, 0, none⟩)]) ((hb.block _ (by omega)).trans h1) 0 _ rfl)
 have H2 := iq (fun (W : World) (hb : Below w1.heap.size w1 W) => block_cell (C := [.int .u64 (x : Int)]) ((hb.block _ (by omega)).trans h2) 0 _ rfl)
 have hPl : V.P.length <= 1000000000 := by rw [log_length] at hl; omega
 have HS := iq (fun (W : World) (hb : Below w1.heap.size w1 W) => search_any V.P.length hPl W 129 #[.pointer (some ⟨w.heap.size, 0, none⟩), .pointer (some ⟨w.heap.size + 1, 0, none⟩)] (fun i => decide (x < (V.P.map (·.1)).getD i 0)) (fun _ _ => by kernel_rfl)
  (fun i j hij hj hi => by
   rcases Nat.lt_or_eq_of_le hij with hlt | rfl
   ·have hij2 := List.pairwise_iff_getElem.1 hr i j (by simp; omega) (by simp; omega) hlt
    have e1 : V.P[i]? = some V.P[i] := List.getElem?_eq_getElem (by omega)
    have e2 : V.P[j]? = some V.P[j] := List.getElem?_eq_getElem hj
    simp [e1] at hi
    simp at hij2
    simp [e2]
    omega
   ·exact hi)
  (fun i hi W' hb' => by
   obtain ⟨p, hp⟩ : ∃ p, V.P[i]? = some p := ⟨_, List.getElem?_eq_getElem hi⟩
   have hb2 := hb.trans (hb'.mono hb.size)
   refine (known1_any (HV.out W' hb2) hp (H1.out W' hb2) (H2.out W' hb2) hPl).mono ?_
   rintro E w' ⟨rfl, n, rfl⟩
   exact ⟨ret_bool (by simp [hp]), below_drewN bl n⟩))
 have HKn : Hid (∀ r : Nat, r <= V.P.length -> (∀ i, i < r -> decide (x < (V.P.map (·.1)).getD i 0) = false) -> (∀ i, r <= i -> i < V.P.length -> decide (x < (V.P.map (·.1)).getD i 0) = true) -> V.kn x = V.S.length + r) := iq fun r h0 h1 h2 => by
  have := filter_cut V.P x r h0 (fun i p hi hp => by have := h1 i hi; rw [decide_eq_false_iff_not] at this; simp [hp] at this; exact this) (fun i p hi hp => by have := h2 i hi (List.getElem?_eq_some_iff.1 hp).1; rw [decide_eq_true_iff] at this; simp [hp] at this; omega)
  rw [MV.kn, this]
 have HLen : Hid (V.S.length + V.P.length <= 1000000000) := iq (by rw [<- log_length]; exact hl)
 obtain ⟨rA, rc, hrn, _⟩ := row_shape h.nums
 have HBw := iq hB
 have HW1 := iq hw1
 obtain ⟨q, hq⟩ : ∃ q, q = V.kn x := ⟨_, rfl⟩
 rw [<- hq] at HKn ⊢
 have HR := iq hrn
 obtain ⟨pl, hpl⟩ : ∃ n, n = V.P.length := ⟨_, rfl⟩
 obtain ⟨sl, hsl⟩ : ∃ n, n = V.S.length := ⟨_, rfl⟩
 have HC3 := iq (fun (W : World) (hb : Below w1.heap.size w1 W) => (HV.out W hb).cells.2.2.2.1.trans (by rw [hrn]))
 have HC2 := iq (fun (W : World) (hb : Below w1.heap.size w1 W) => (HV.out W hb).cells.2.2.1)
 rw [<- hpl] at HKn HLen HS HC3
 rw [<- hsl] at HKn HLen HC2
 clear hB1 hB2 hB hs1 h1 h2 hw1 hPl hok hr hl h hq hrn hpl hsl HV HR
 go_enter Tryz.func102, Tryz.ntmps102
 go_wp2_with fail
 rw [<- HW1.out]
 refine wp_region_any (by kernel_rfl) ?_
 change wpAny _ _ _ _ _ _ _ (World.drewN _ 1)
 have D0 := iq (below_drewN (Below.refl w1.heap.size w1) 1)
 generalize w1.drewN 1 = w2 at D0 ⊢
 refine wpAny_of_held (S := fun W => Below w1.heap.size w1 W) _ _ _ _ ?_
 refine tk 0 ⟨some 5, .load 86 (.tmp 2), _, _, _, none⟩ (.pointer (some ⟨a.b, 0, none⟩)) rfl (by kernel_rfl) (fun _ _ _ => id) (D0.out) (fun W hSW => by have hv := H1.out W hSW; go_simp) ?_
 try simp only [Act.put, l0, l1, l2]
 refine tk 1 ⟨some 6, .nilCheck (.tmp 5), _, _, _, none⟩ (.pointer (some ⟨a.b, 0, none⟩)) rfl (by kernel_rfl) (fun _ _ _ => id) (D0.out) (fun W hSW => by go_simp) ?_
 try simp only [pu, l0, l1, l2]
 refine tk 2 ⟨some 7, .fieldAddr 133 (.tmp 6) 2, _, _, _, none⟩ (.pointer (some ⟨a.b, 2, none⟩)) rfl (by kernel_rfl) (fun _ _ _ => id) (D0.out) (fun W hSW => by go_simp) ?_
 try simp only [pu, l0, l1, l2]
 refine tk 3 ⟨some 8, .load 3 (.tmp 7), _, _, _, none⟩ (.int .i64 (sl : Int)) rfl (by kernel_rfl) (fun _ _ _ => id) (D0.out) (fun W hSW => by have hv := HC2.out W hSW; go_simp) ?_
 try simp only [pu, l0, l1, l2]
 refine tk 4 ⟨some 9, .load 86 (.tmp 2), _, _, _, none⟩ (.pointer (some ⟨a.b, 0, none⟩)) rfl (by kernel_rfl) (fun _ _ _ => id) (D0.out) (fun W hSW => by have hv := H1.out W hSW; go_simp) ?_
 try simp only [pu, l0, l1, l2]
 refine tk 5 ⟨some 10, .nilCheck (.tmp 9), _, _, _, none⟩ (.pointer (some ⟨a.b, 0, none⟩)) rfl (by kernel_rfl) (fun _ _ _ => id) (D0.out) (fun W hSW => by go_simp) ?_
 try simp only [pu, l0, l1, l2]
 refine tk 6 ⟨some 11, .fieldAddr 133 (.tmp 10) 3, _, _, _, none⟩ (.pointer (some ⟨a.b, 3, none⟩)) rfl (by kernel_rfl) (fun _ _ _ => id) (D0.out) (fun W hSW => by go_simp) ?_
 try simp only [pu, l0, l1, l2]
 refine tk 7 ⟨some 12, .load 62 (.tmp 11), _, _, _, none⟩ (.slice rA pl rc) rfl (by kernel_rfl) (fun _ _ _ => id) (D0.out) (fun W hSW => by have hv := HC3.out W hSW; go_simp) ?_
 try simp only [pu, l0, l1, l2]
 refine tk 8 ⟨some 13, .call { callee := .builtin .len, args := #[.tmp 12], argTypes := #[62] }, _, _, _, none⟩ (.int .i64 (pl : Int)) rfl (by kernel_rfl) (fun _ _ _ => id) (D0.out) (fun W hSW => by go_simp) ?_
 try simp only [pu, l0, l1, l2]
 refine tk 9 ⟨some 14, .makeFunc (Fn.func 129) #[] #[.tmp 2, .tmp 3], _, _, _, none⟩ (.func (.func 129) #[] #[.pointer (some ⟨w.heap.size, 0, none⟩), .pointer (some ⟨w.heap.size + 1, 0, none⟩)]) rfl (by kernel_rfl) (fun _ _ _ => id) (D0.out) (fun W hSW => by go_simp) ?_
 try simp only [pu, l0, l1, l2]
 refine rd1 10 ⟨some 15, .call { callee := .value (.func 128), args := #[.tmp 13, .tmp 14], argTypes := #[3, 140] }, _, _, _, none⟩ (by kernel_rfl) rfl fun K' hK' => ?_
 go_simp
 go_at_call 128
 refine (HS.out _ D0.out).mono ?_
 rintro E w3 ⟨⟨r, rfl, hr0, hr1, hr2⟩, hb3⟩
 have D3 := iq (D0.out.trans (hb3.mono D0.out.size))
 have hq2 : IntKind.i64.wrap ((sl : Int) + (r : Int)) = (q : Int) := by rw [HKn.out r hr0 hr1 hr2, IntKind.wrap_i64]; have := HLen.out; omega
 clear hr0 hr1 hr2 hb3
 refine hK'.out _ _ D3.out (fun _ => ?_)
 clear hK' K'
 try simp only [Act.put, l0, l1, l2]
 refine tk 11 ⟨some 16, .binOp .add 3 (.tmp 8) (.tmp 15) 3, _, _, _, none⟩ (.int .i64 (q : Int)) rfl (by kernel_rfl) (fun _ _ _ => id) (D3.out) (fun W hSW => by have hv := hq2; go_simp) ?_
 try simp only [pu, l0, l1, l2]
 refine tk 12 ⟨some 4, .assign (.tmp 16), _, _, _, none⟩ (.int .i64 (q : Int)) rfl (by kernel_rfl) (fun _ _ _ => id) (D3.out) (fun W hSW => by go_simp) ?_
 try simp only [pu, l0, l1, l2]
 refine wpAnyH_done (by kernel_rfl) ?_ _
 go_wp2_with fail
 go_ret
 exact ⟨rfl, HBw.out.trans (D3.out.mono HBw.out.size)⟩
open Go.RowKit
def vmC (a : VA) (sb : Option Nat) (num sl : Nat) : List Value := [.int .u64 (num : Int), ptO sb, .int .i64 (sl : Int), a.rn, a.rq, .map (some a.mm)]
structure VmAt (W : World) (a : VA) (sb : Option Nat) (num sl : Nat) (nl : List Nat) (ql : List MReq) (n : Nat) (f : Int × Nat -> Option Value) : Prop where
 top : W.heap[a.b]? = some (.cells (vmC a sb num sl).toArray 133 (0, 0))
 nums : W.ownsRow 0 25 1 a.rn nl.length (nv .u64 nl)
 reqs : W.ownsRow 0 32 40 a.rq ql.length (flatR ql)
 mp : World.mapA W a.mm n f
def vmT (a : VA) (sb : Option Nat) (num sl : Nat) (nl : List Nat) (ql : List MReq) (n : Nat) (f : Int × Nat -> Option Value) : Thing := ⟨fun W => VmAt W a sb num sl nl ql n f, OnV a⟩
theorem vmT_ok (a : VA) (sb : Option Nat) (num sl : Nat) (nl : List Nat) (ql : List MReq) (n : Nat) (f : Int × Nat -> Option Value) : (vmT a sb num sl nl ql n f).Ok := by
 refine ⟨fun W W' (h : VmAt W a sb num sl nl ql n f) hk => ⟨(hk _ (.inl rfl)).trans h.top, ownsRow_kept h.nums fun k e => hk k (.inr (.inr (.inl e))), ownsRow_kept h.reqs fun k e => hk k (.inr (.inr (.inr e))), mapA_kept h.mp (hk _ (.inr (.inl rfl)))⟩, fun W (h : VmAt W a sb num sl nl ql n f) k hk => ?_⟩
 rcases hk with rfl | rfl | hk | hk
 ·exact (Array.getElem?_eq_some_iff.1 h.top).1
 ·exact mapA_lt h.mp
 ·exact ownsRow_lt h.nums k hk
 ·exact ownsRow_lt h.reqs k hk
section
variable {W : World} {a : VA} {sb : Option Nat} {num sl : Nat} {nl : List Nat} {ql : List MReq} {n : Nat} {f : Int × Nat -> Option Value}
theorem VmAt.apart (h : VmAt W a sb num sl nl ql n f) : a.mm ≠ a.b /\ a.rn.ownBlock ≠ some a.b /\ a.rq.ownBlock ≠ some a.b /\ a.rn.ownBlock ≠ some a.mm /\ a.rq.ownBlock ≠ some a.mm /\ ∀ k, a.rn.ownBlock = some k -> a.rq.ownBlock ≠ some k := by
 obtain ⟨es, c, h3⟩ := mapA_block h.mp
 refine ⟨fun x => ?_, fun x => ?_, fun x => ?_, fun x => ?_, fun x => ?_, fun k x y => ?_⟩
 ·have := h.top; rw [<- x, h3] at this; injection this with this; cases this
 ·obtain ⟨C, h4⟩ := ownsRow_block h.nums _ x
  have := h.top; rw [h4] at this; simp at this
 ·obtain ⟨C, h4⟩ := ownsRow_block h.reqs _ x
  have := h.top; rw [h4] at this; simp at this
 ·obtain ⟨C, h4⟩ := ownsRow_block h.nums _ x
  rw [h3] at h4; injection h4 with h4; cases h4
 ·obtain ⟨C, h4⟩ := ownsRow_block h.reqs _ x
  rw [h3] at h4; injection h4 with h4; cases h4
 ·obtain ⟨C, h4⟩ := ownsRow_block h.nums _ x
  obtain ⟨D, h5⟩ := ownsRow_block h.reqs _ y
  rw [h4] at h5; simp at h5
theorem VmAt.cells (h : VmAt W a sb num sl nl ql n f) : W.cell? ⟨a.b, 2, none⟩ = some (.int .i64 (sl : Int)) /\ W.cell? ⟨a.b, 3, none⟩ = some a.rn /\ W.cell? ⟨a.b, 4, none⟩ = some a.rq /\ W.cell? ⟨a.b, 5, none⟩ = some (.map (some a.mm)) :=
 ⟨block_cell h.top 2 _ rfl, block_cell h.top 3 _ rfl, block_cell h.top 4 _ rfl, block_cell h.top 5 _ rfl⟩
variable {v : World} {os : List Thing}
theorem vm_of {V : MV} (H : Fr v W (vwT a sb V :: os)) : Fr v W (vmT a sb V.num V.S.length (V.P.map (·.1)) (V.P.map (·.2)) V.P.length V.plc :: os) := by
 have h : ViewAt W a sb V := H.hd
 exact H.as (o' := vmT a sb V.num V.S.length (V.P.map (·.1)) (V.P.map (·.2)) V.P.length V.plc) ⟨h.top, by rw [List.length_map]; exact h.nums, by rw [List.length_map, <- flatP]; exact h.reqs, h.mp⟩ (vmT_ok _ _ _ _ _ _ _ _) fun k hk => hk
theorem vw_of {V : MV} (H : Fr v W (vmT a sb V.num V.S.length (V.P.map (·.1)) (V.P.map (·.2)) V.P.length V.plc :: os)) : Fr v W (vwT a sb V :: os) := by
 have h := H.hd
 exact H.as (o' := vwT a sb V) ⟨h.top, by have := h.nums; rwa [List.length_map] at this, by have := h.reqs; rwa [List.length_map, <- flatP] at this, h.mp⟩ (vwT_ok _ _ _) fun k hk => hk
theorem vm_put (H : Fr v W (vmT a sb num sl nl ql n f :: os)) (hn : n <= 2000000000) {k : Int × Nat} (hk : PkOk k) (val : Value) :
  ∃ W', (Instr.mapUpdate 131 (.map (some a.mm)) (kv k) val).run Tryz.prog W = .ok () W' /\ Fr v W' (vmT a sb num sl nl ql (n + 1) (updA f k (some val)) :: os) /\ W.grownBy W' (some a.mm) := by
 have h : VmAt W a sb num sl nl ql n f := H.hd
 obtain ⟨a1, a2, a3, a4, a5, a6⟩ := h.apart
 obtain ⟨W', r1, r2, r3⟩ := mapA_update h.mp hn hk val
 have hb : a.b < W.heap.size := (Array.getElem?_eq_some_iff.1 h.top).1
 exact ⟨W', r1, H.turn (o' := vmT a sb num sl nl ql (n + 1) (updA f k (some val))) (Own.same ((Turns.refl _ W).grown r3 fun j e => by cases e; exact .inl (.inr (.inl rfl))))
  ⟨(r3.block a.b hb fun e => a1 (Option.some.inj e).symm).trans h.top, ownsRow_kept h.nums fun j e => r3.block j (ownsRow_lt h.nums j e) fun x => a4 (by rw [e, x]), ownsRow_kept h.reqs fun j e => r3.block j (ownsRow_lt h.reqs j e) fun x => a5 (by rw [e, x]), r2⟩ (vmT_ok _ _ _ _ _ _ _ _), r3⟩
theorem vm_num (H : Fr v W (vmT a sb num sl nl ql n f :: os)) (ty : TypeId) (gb x : Nat) (hg : W.cell? ⟨gb, 0, none⟩ = some (.int .u64 (x : Int))) (hl : nl.length <= 2000000000) :
  ∃ rv' W', (Builtin.append_ #[62, 62] ty #[a.rn, .slice (some ⟨gb, 0, none⟩) 1 1]).run Tryz.prog W = .ok rv' W' /\ W'.frozen? ⟨a.b, 3, none⟩ = false /\ (∃ c, W'.cell? ⟨a.b, 3, none⟩ = some c) /\ Fr v (W'.setCell ⟨a.b, 3, none⟩ rv') (vmT { a with rn := rv' } sb num sl (nl ++ [x]) ql n f :: os) /\ W.grownBy W' a.rn.ownBlock := by
 have h : VmAt W a sb num sl nl ql n f := H.hd
 obtain ⟨a1, a2, a3, a4, a5, a6⟩ := h.apart
 have hb : a.b < W.heap.size := (Array.getElem?_eq_some_iff.1 h.top).1
 have hk : a.mm < W.heap.size := mapA_lt h.mp
 obtain ⟨i0, h1, h2, h3, h4⟩ := info_parts Tryz.inf23
 obtain ⟨v', w', hr, hrow, hgr, _, hat⟩ := run_append_own_at (P := Tryz.prog) W 0 62 ty 25 i0 (.int .u64 0) 1 8 Tryz.underlying62 h1 h2 h3 h4 rfl (by decide) a.rn nl.length (nv .u64 nl) h.nums ⟨gb, 0, none⟩ 1 1 [.int .u64 (x : Int)] rfl
  (fun j u hj => by
   have : j = 0 := by have := (List.getElem?_eq_some_iff.1 hj).1; simp at this; omega
   subst this
   simp at hj
   subst hj
   rw [add_at]
   exact hg) (by intro u hu; rw [List.mem_singleton.1 hu]; rfl) (by unfold maxLen; omega) (by omega) (Nat.zero_le _)
 have hbt : w'.heap[a.b]? = some (.cells (vmC a sb num sl).toArray 133 (0, 0)) := (hgr.block a.b hb fun e => a2 e.symm).trans h.top
 have hn' : ∀ j, v'.ownBlock = some j -> j ≠ a.b := fun j hj x => by
  rcases hat with e | e
  ·rw [e, x] at hj; exact a2 hj
  ·rw [e] at hj; injection hj with hj; omega
 refine ⟨v', w', hr, free_block hbt 3, ⟨_, block_cell hbt 3 _ rfl⟩, H.turn (o' := vmT { a with rn := v' } sb num sl (nl ++ [x]) ql n f) ⟨((Turns.refl _ W).grown hgr fun j e => .inl (.inr (.inr (.inl e)))).setCell (.inl (.inl rfl)) 3 _, fun j hj => ?_⟩ ⟨heap_set hbt _, ?_, ?_, ?_⟩ (vmT_ok _ _ _ _ _ _ _ _), hgr⟩
 ·rcases hj with rfl | hj | hj | hj
  ·exact .inl (.inl rfl)
  ·exact .inl (.inr (.inl hj))
  ·rcases hat with e | e
   ·exact .inl (.inr (.inr (.inl (e.symm.trans hj))))
   ·have hj' : v'.ownBlock = some j := hj
    rw [e] at hj'; injection hj' with hj'; exact .inr (Nat.le_of_eq hj')
  ·exact .inl (.inr (.inr (.inr hj)))
 ·refine ownsRow_kept (W := w') ?_ fun j e => Below.heap_setCell w' ⟨a.b, 3, none⟩ _ j (hn' j e)
  rw [nv_app, List.length_append]
  exact hrow
 ·exact ownsRow_kept h.reqs fun j e => (Below.heap_setCell w' ⟨a.b, 3, none⟩ _ j fun x => a3 (by rw [e, show j = a.b from x])).trans (hgr.block j (ownsRow_lt h.reqs j e) fun x => a6 j x.symm e)
 ·exact mapA_kept h.mp ((Below.heap_setCell w' ⟨a.b, 3, none⟩ _ a.mm a1).trans (hgr.block a.mm hk (Ne.symm a4)))
theorem vm_req (H : Fr v W (vmT a sb num sl nl ql n f :: os)) (ty : TypeId) (gb : Nat) (r : MReq) (hrt : r.tag.length = 32) (hg : W.rangeAt gb 0 (reqC r)) (hl : ql.length <= 1000000) :
  ∃ A' c' W', (Builtin.append_ #[54, 54] ty #[a.rq, .slice (some ⟨gb, 0, none⟩) 1 1]).run Tryz.prog W = .ok (.slice A' (ql.length + 1) c') W' /\ W'.frozen? ⟨a.b, 4, none⟩ = false /\ (∃ c, W'.cell? ⟨a.b, 4, none⟩ = some c) /\ W'.heap[a.b]? = W.heap[a.b]? /\ Fr v (W'.setCell ⟨a.b, 4, none⟩ (.slice A' (ql.length + 1) c')) (vmT { a with rq := .slice A' (ql.length + 1) c' } sb num sl nl (ql ++ [r]) n f :: os) := by
 have h : VmAt W a sb num sl nl ql n f := H.hd
 obtain ⟨a1, a2, a3, a4, a5, a6⟩ := h.apart
 have hb : a.b < W.heap.size := (Array.getElem?_eq_some_iff.1 h.top).1
 have hk : a.mm < W.heap.size := mapA_lt h.mp
 obtain ⟨i0, h1, h2, h3, h4⟩ := info_parts Tryz.infReq
 obtain ⟨A', c', w', hr, hrow, hgr, hat⟩ := run_append_one Tryz.underlying54 h1 h2 h3 h4 (by show (reqC zeroReq).toArray.size = 40; simp [reqC_length (show zeroReq.tag.length = 32 from rfl)]) (by decide) (by decide) ty W a.rq ql.length (flatR ql) h.reqs hl gb (reqC r) (reqC_length hrt) (one_reqC r) hg
 have hbt0 : w'.heap[a.b]? = W.heap[a.b]? := hgr.block a.b hb fun e => a3 e.symm
 have hbt : w'.heap[a.b]? = some (.cells (vmC a sb num sl).toArray 133 (0, 0)) := hbt0.trans h.top
 have hn' : ∀ j, (Value.slice A' (ql.length + 1) c').ownBlock = some j -> j ≠ a.b := fun j hj x => by
  rcases hat with e | e
  ·rw [e, x] at hj; exact a3 hj
  ·rw [e] at hj; injection hj with hj; omega
 refine ⟨A', c', w', hr, free_block hbt 4, ⟨_, block_cell hbt 4 _ rfl⟩, hbt0, H.turn (o' := vmT { a with rq := .slice A' (ql.length + 1) c' } sb num sl nl (ql ++ [r]) n f) ⟨((Turns.refl _ W).grown hgr fun j e => .inl (.inr (.inr (.inr e)))).setCell (.inl (.inl rfl)) 4 _, fun j hj => ?_⟩ ⟨heap_set hbt _, ?_, ?_, ?_⟩ (vmT_ok _ _ _ _ _ _ _ _)⟩
 ·rcases hj with rfl | hj | hj | hj
  ·exact .inl (.inl rfl)
  ·exact .inl (.inr (.inl hj))
  ·exact .inl (.inr (.inr (.inl hj)))
  ·rcases hat with e | e
   ·exact .inl (.inr (.inr (.inr (e.symm.trans hj))))
   ·have hj' : (Value.slice A' (ql.length + 1) c').ownBlock = some j := hj
    rw [e] at hj'; injection hj' with hj'; exact .inr (Nat.le_of_eq hj')
 ·exact ownsRow_kept h.nums fun j e => (Below.heap_setCell w' ⟨a.b, 4, none⟩ _ j fun x => a2 (by rw [e, show j = a.b from x])).trans (hgr.block j (ownsRow_lt h.nums j e) fun x => a6 j e x.symm)
 ·refine ownsRow_kept (W := w') ?_ fun j e => Below.heap_setCell w' ⟨a.b, 4, none⟩ _ j (hn' j e)
  rw [flatR_app, List.length_append]
  simpa [flatR] using hrow
 ·exact mapA_kept h.mp ((Below.heap_setCell w' ⟨a.b, 4, none⟩ _ a.mm a1).trans (hgr.block a.mm hk (Ne.symm a5)))
end
open Go.RowKit
theorem step_mapUpd {P : Program} {ops : Array Oper} {o : Oper} {a : Act} {w : World} {K : Act -> World -> Prop} {Q : Exit -> Act -> World -> Prop} {E : Prop} (hgd : o.guard = none) (m x y : Operand) (t : TypeId)
  (ho : o.op = Op.mapUpdate t m x y) (v u z : Value) (hs : a.eval m = v) (hx : a.eval x = u) (hy : a.eval y = z) (w' : World) (hr : (Instr.mapUpdate t v u z).run P w = .ok () w') (h : K (a.put o.dst undef) w') : if Region.wanted o (yielded ops a.tmps) = true then Oper.wp P o a w K Q else E := by
 have hw : Region.wanted o (yielded ops a.tmps) = true := by simp [Region.wanted, hgd]
 rw [if_pos hw]
 unfold Oper.wp
 simp [execOp, ho, hs, hx, hy, hr, Result.andThen]
 exact h
def MV.add (V : MV) (num : Nat) (r : MReq) : MV := { V with P := V.P ++ [(num, r)] }
theorem add_plc (V : MV) (num : Nat) (r : MReq) : updA V.plc (rk r) (some (.int .i64 (V.log.length : Int))) = (V.add num r).plc := by
 funext k
 show _ = (plcL ((V.P ++ [(num, r)]).map (·.2)) V.S.length k).map _
 rw [List.map_append, show [(num, r)].map (·.2) = [r] from rfl, plcL_snoc, updA]
 by_cases e : k = rk r
 ·rw [if_pos e, if_pos e.symm]
  simp [log_length]
 ·rw [if_neg e, if_neg (Ne.symm e)]
  rfl
theorem Tryz.in32 {r : MReq} (h : r.tag.length = 32) : (Tryz.prog.info? 32).map (·.size) = some (reqC r).length := by rw [reqC_length h]; kernel_rfl
theorem buildSl32 (C : List Value) (h : C.length = 40) (w : World) : (Instr.buildSlice 54 1 #[(0, .agg C.toArray)]).run Tryz.prog w = .ok (.slice (some ⟨w.heap.size, 0, none⟩) 1 1) (w.alloc (.cells C.toArray 32)) := by
 obtain ⟨i0, hi, hz0, hz1, _⟩ := info_parts Tryz.infReq
 exact buildSl Tryz.underlying54 hi hz0 hz1 (by decide) (by decide) _ h w
theorem add_any {v w : World} {os : List Thing} {a : VA} {sb : Option Nat} {V : MV} (H : Fr v w (vwT a sb V :: os)) (num : Nat) (r : MReq) (hr : r.tag.length = 32) (hk : PkOk (rk r)) (hl : V.log.length <= 1000000) :
  Calls Tryz.prog 100 #[.pointer (some ⟨a.b, 0, none⟩), .int .u64 (num : Int), .agg (reqC r).toArray] w fun E w' => E = .returned (.tuple #[]) /\ ∃ a' : VA, a'.b = a.b /\ Fr v w' (vwT a' sb (V.add num r) :: os) := by
 have H0 := iq (H.box (reqC r).toArray 32)
 have HI := iq (Tryz.in32 hr)
 have HR := iq hr
 have HK := iq hk
 have HL := iq hl
 have HPl : Hid (V.P.length <= 1000000) := iq (by rw [log_length] at hl; omega)
 have HB : Hid (a.b ≠ w.heap.size /\ a.mm ≠ w.heap.size) := iq ⟨fun e => by have := (vwT_ok a sb V).lt w H.hd a.b (.inl rfl); omega, fun e => by have := (vwT_ok a sb V).lt w H.hd a.mm (.inr (.inl rfl)); omega⟩
 clear H hr hk hl
 go_enter Tryz.func100, Tryz.ntmps100
 go_wp2_with fail
 refine wp_region_any (by kernel_rfl) ?_
 change wpAny _ _ _ _ _ _ _ (World.drewN _ 1)
 refine held_gen (G := fun W' => wpAny _ _ _ _ _ _ _ W') (fun W' => Fr v W' (blkT w.heap.size (reqC r).toArray 32 :: vwT a sb V :: os)) (H0.out.drewN 1) (fun y0 hw => ?_)
 have G0 := iq hw
 clear hw H0
 obtain ⟨B, hB⟩ : ∃ x, x = w.heap.size := ⟨_, rfl⟩
 rw [<- hB] at G0 HB ⊢
 clear hB
 refine wpAny_of_held (S := fun W => W.heap[a.b]? = some (.cells (vwC a sb V).toArray 133 (0, 0)) /\ W.heap[B]? = some (.cells (reqC r).toArray 32 (0, 0))) _ _ _ _ ?_
 refine tk 0 ⟨some 6, .move (.tmp 0), _, _, _, none⟩ (.pointer (some ⟨a.b, 0, none⟩)) rfl (by kernel_rfl) (fun _ _ _ => id) (⟨G0.out.hd2.top, G0.out.hd⟩) (fun W hSW => by go_simp) ?_
 try simp only [Act.put, l0, l1, l2]
 refine tk 1 ⟨some 7, .nilCheck (.tmp 6), _, _, _, none⟩ (.pointer (some ⟨a.b, 0, none⟩)) rfl (by kernel_rfl) (fun _ _ _ => id) (⟨G0.out.hd2.top, G0.out.hd⟩) (fun W hSW => by go_simp) ?_
 try simp only [pu, l0, l1, l2]
 refine tk 2 ⟨some 8, .fieldAddr 133 (.tmp 7) 5, _, _, _, none⟩ (.pointer (some ⟨a.b, 5, none⟩)) rfl (by kernel_rfl) (fun _ _ _ => id) (⟨G0.out.hd2.top, G0.out.hd⟩) (fun W hSW => by go_simp) ?_
 try simp only [pu, l0, l1, l2]
 refine tk 3 ⟨some 9, .load 131 (.tmp 8), _, _, _, none⟩ (.map (some a.mm)) rfl (by kernel_rfl) (fun _ _ _ => id) (⟨G0.out.hd2.top, G0.out.hd⟩) (fun W hSW => by have hv := block_cell hSW.1 5 _ rfl; go_simp) ?_
 try simp only [pu, l0, l1, l2]
 refine tk 4 ⟨some 10, .load 32 (.tmp 5), _, _, _, none⟩ (.agg (reqC r).toArray) rfl (by kernel_rfl) (fun _ _ _ => id) (⟨G0.out.hd2.top, G0.out.hd⟩) (fun W hSW => exec_load_mid 32 (.tmp 5) rfl B 0 rfl (reqC r) _ (range_of hSW.2) Tryz.underlying32 rfl (HI.out)) ?_
 try simp only [pu, l0, l1, l2]
 refine tk 6 ⟨some 12, .move (.tmp 0), _, _, _, none⟩ (.pointer (some ⟨a.b, 0, none⟩)) rfl (by kernel_rfl) (fun _ _ _ => id) (⟨G0.out.hd2.top, G0.out.hd⟩) (fun W hSW => by go_simp) ?_
 try simp only [pu, l0, l1, l2]
 refine rd1 5 ⟨some 11, .call { callee := .value (.func 98), args := #[.tmp 10], argTypes := #[32] }, _, _, _, none⟩ (by kernel_rfl) rfl fun K' hK' => ?_
 go_simp
 go_at_call 98
 refine (by_any r _).mono ?_
 rintro E y1 ⟨rfl, hb1⟩
 have G1 := iq (G0.out.below hb1)
 clear hb1 G0
 refine hK'.out _ _ (⟨G1.out.hd2.top, G1.out.hd⟩) (fun _ => ?_)
 clear hK' K'
 try simp only [Act.put, l0, l1, l2]
 refine rd1 7 ⟨some 13, .call { callee := .value (.func 78), args := #[.tmp 12], argTypes := #[86] }, _, _, _, none⟩ (by kernel_rfl) rfl fun K' hK' => ?_
 go_simp
 go_at_call 78
 refine (length_any G1.out.hd2 (by have := HL.out; omega)).mono ?_
 rintro E y2 ⟨rfl, nq, rfl⟩
 have G2 := iq (G1.out.drewN nq)
 generalize y1.drewN nq = y3 at G2 ⊢
 clear G1
 refine hK'.out _ _ (⟨G2.out.hd2.top, G2.out.hd⟩) (fun _ => ?_)
 clear hK' K'
 try simp only [Act.put, l0, l1, l2]
 refine rd1 8 ⟨none, .mapUpdate 131 (.tmp 9) (.tmp 11) (.tmp 13), _, _, _, none⟩ (by kernel_rfl) rfl fun K' hK' => ?_
 obtain ⟨y4, hr4, h4, hg4⟩ := vm_put (vm_of G2.out.swap) (by have := HPl.out; omega) HK.out (.int .i64 (V.log.length : Int))
 refine step_mapUpd rfl (.tmp 9) (.tmp 11) (.tmp 13) 131 rfl _ _ _ rfl rfl rfl y4 hr4 ?_
 have G3 := iq h4
 clear hr4 h4 hg4 G2
 refine hK'.out _ _ ⟨G3.out.hd.top, G3.out.hd2⟩ (fun _ => ?_)
 clear hK' K'
 refine wpAnyH_done (by kernel_rfl) ?_ _
 have HC := iq (G3.out.below (W' := y4.alloc (.cells #[.int .u64 (num : Int)] 25)) (bl.alloc (Nat.le_refl _) (.cells #[.int .u64 (num : Int)] 25)))
 obtain ⟨rv, W1, r1, f0, ⟨z0, d0⟩, h1, _⟩ := vm_num HC.out 62 y4.heap.size num (block_cell (C := [.int .u64 (num : Int)]) (heap_alloc_new y4 _) 0 _ rfl) (by rw [List.length_map]; have := HPl.out; omega)
 obtain ⟨A', c', hrv, _⟩ := row_shape (VmAt.nums h1.hd)
 have hrv' : rv = .slice A' _ c' := hrv
 obtain ⟨nn, hnn⟩ : ∃ n, n = (V.P.map (·.1) ++ [num]).length := ⟨_, rfl⟩
 rw [<- hnn] at hrv'
 have G4 := iq h1
 have c3 := (VmAt.cells G3.out.hd).2.1
 obtain ⟨rA, rc, hrn, _⟩ := row_shape (VmAt.nums G3.out.hd)
 rw [List.length_map] at hrn
 clear h1 HC hnn hrv
 obtain ⟨pl, hpl⟩ : ∃ n, n = V.P.length := ⟨_, rfl⟩
 rw [<- hpl] at hrn
 clear hpl
 subst hrv'
 rw [hrn] at r1 c3
 go_wp2_with ((with_reducible refine wpList_append_one ?_ (.tmp 18) (.tmp 20) 62 ?_ _ _ ?_ ?_ _ W1 r1 ?_); rfl; rfl; rfl; rfl)
 refine wp_region_any (by kernel_rfl) ?_
 change wpAny _ _ _ _ _ _ _ (World.drewN _ 1)
 obtain ⟨a1, ha1⟩ : ∃ x : VA, x = { a with rn := .slice A' nn c' } := ⟨_, rfl⟩
 have HA1 : Hid (a1.b = a.b /\ a1.rq = a.rq) := iq (by rw [ha1]; exact ⟨rfl, rfl⟩)
 rw [<- ha1] at G4
 clear ha1 r1 c3 d0 f0 hrn
 refine held_gen (G := fun W' => wpAny _ _ _ _ _ _ _ W') (fun W' => Fr v W' (vmT a1 sb V.num V.S.length (V.P.map (·.1) ++ [num]) (V.P.map (·.2)) (V.P.length + 1) (updA V.plc (rk r) (some (.int .i64 (V.log.length : Int)))) :: blkT B (reqC r).toArray 32 :: os)) (G4.out.drewN 1) (fun x0 hw => ?_)
 have E0 := iq hw
 clear hw G4 G3
 obtain ⟨qA, qc, hrq, _⟩ := row_shape (VmAt.reqs E0.out.hd)
 rw [List.length_map, HA1.out.2] at hrq
 refine wpAny_of_held (S := fun W => W.heap[B]? = some (.cells (reqC r).toArray 32 (0, 0))) _ _ _ _ ?_
 refine tk 0 ⟨some 24, .move (.tmp 0), _, _, _, none⟩ (.pointer (some ⟨a.b, 0, none⟩)) rfl (by kernel_rfl) (fun _ _ _ => id) (E0.out.hd2) (fun W hSW => by go_simp) ?_
 try simp only [Act.put, l0, l1, l2]
 refine tk 1 ⟨some 25, .move (.tmp 0), _, _, _, none⟩ (.pointer (some ⟨a.b, 0, none⟩)) rfl (by kernel_rfl) (fun _ _ _ => id) (E0.out.hd2) (fun W hSW => by go_simp) ?_
 try simp only [pu, l0, l1, l2]
 refine tk 2 ⟨some 26, .nilCheck (.tmp 25), _, _, _, none⟩ (.pointer (some ⟨a.b, 0, none⟩)) rfl (by kernel_rfl) (fun _ _ _ => id) (E0.out.hd2) (fun W hSW => by go_simp) ?_
 try simp only [pu, l0, l1, l2]
 refine tk 3 ⟨some 27, .fieldAddr 133 (.tmp 26) 4, _, _, _, none⟩ (.pointer (some ⟨a.b, 4, none⟩)) rfl (by kernel_rfl) (fun _ _ _ => id) (E0.out.hd2) (fun W hSW => by go_simp) ?_
 try simp only [pu, l0, l1, l2]
 refine tk 5 ⟨some 29, .load 32 (.tmp 5), _, _, _, none⟩ (.agg (reqC r).toArray) rfl (by kernel_rfl) (fun _ _ _ => id) (E0.out.hd2) (fun W hSW => exec_load_mid 32 (.tmp 5) rfl B 0 rfl (reqC r) _ (range_of hSW) Tryz.underlying32 rfl (HI.out)) ?_
 try simp only [pu, l0, l1, l2]
 refine rdy [4, 6] (by kernel_rfl) ?_
 refine (AllReadyH.cons (o := ⟨some 28, .load 54 (.tmp 27), _, _, _, none⟩) rfl (fun K' hK' => ?_) (AllReadyH.cons (o := ⟨some 30, .buildSlice 54 1 #[(0, .tmp 29)], _, _, _, none⟩) rfl (fun K' hK' => ?_) AllReadyH.nil))
 focus
  have hc4 : World.cell? x0 ⟨a.b, 4, none⟩ = some a.rq := by have := (VmAt.cells E0.out.hd).2.2.1; rwa [HA1.out.1, HA1.out.2] at this
  rw [hrq] at hc4
  go_simp
  refine hK'.out _ _ E0.out.hd2 (fun _ => ?_)
  clear hK' K' hc4
  try simp only [Act.put, l0, l1, l2]
  refine rd1 6 ⟨some 30, .buildSlice 54 1 #[(0, .tmp 29)], _, _, _, none⟩ (by kernel_rfl) rfl fun K' hK' => ?_
  refine step_buildSl rfl 54 32 (.tmp 29) rfl (reqC r) rfl (buildSl32 _ (reqC_length HR.out) _) ?_
  have E1 := iq (E0.out.box (reqC r).toArray 32)
  refine hK'.out _ _ E1.out.hd3 (fun _ => ?_)
  clear hK' K'
  try simp only [Act.put, l0, l1, l2]
  obtain ⟨xb, hxb⟩ : ∃ c, c = x0.heap.size := ⟨_, rfl⟩
  rw [<- hxb] at E1 ⊢
  clear hxb
  generalize x0.alloc (.cells (reqC r).toArray 32) = x1 at E1 ⊢
  have E2 := iq E1.out.swap
  clear E1 E0
 rotate_left
 focus
  refine step_buildSl rfl 54 32 (.tmp 29) rfl (reqC r) rfl (buildSl32 _ (reqC_length HR.out) _) ?_
  have E1 := iq (E0.out.box (reqC r).toArray 32)
  refine hK'.out _ _ E1.out.hd3 (fun _ => ?_)
  clear hK' K'
  try simp only [Act.put, l0, l1, l2]
  obtain ⟨xb, hxb⟩ : ∃ c, c = x0.heap.size := ⟨_, rfl⟩
  rw [<- hxb] at E1 ⊢
  clear hxb
  generalize x0.alloc (.cells (reqC r).toArray 32) = x1 at E1 ⊢
  refine rd1 4 ⟨some 28, .load 54 (.tmp 27), _, _, _, none⟩ (by kernel_rfl) rfl fun K' hK' => ?_
  have hc4 : World.cell? x1 ⟨a.b, 4, none⟩ = some a.rq := by have := (VmAt.cells E1.out.pop.hd).2.2.1; rwa [HA1.out.1, HA1.out.2] at this
  rw [hrq] at hc4
  go_simp
  refine hK'.out _ _ E1.out.pop.hd2 (fun _ => ?_)
  clear hK' K' hc4
  try simp only [Act.put, l0, l1, l2]
  have E2 := iq E1.out.swap
  clear E1 E0
 rotate_left
 all_goals
  refine rd1 7 ⟨some 31, .call { callee := .builtin .append, args := #[.tmp 28, .tmp 30], argTypes := #[54, 54] }, _, _, _, none⟩ (by kernel_rfl) rfl fun K' hK' => ?_
  obtain ⟨A2, c2, x2, hr7, f7, ⟨z7, d7⟩, _, h7⟩ := vm_req E2.out 54 xb r HR.out (range_of E2.out.hd2) (by rw [List.length_map]; exact HPl.out)
  rw [HA1.out.1] at f7 d7
  rw [HA1.out.2, hrq] at hr7
  have hB7 : x2.heap[B]? = some (.cells (reqC r).toArray 32 (0, 0)) := by
   have h8 := h7.pop.hd2
   have hne : ¬ B = a.b := fun e => HB.out.1 e.symm
   have h9 := Below.heap_setCell x2 ⟨a1.b, 4, none⟩ (.slice A2 ((V.P.map (·.2)).length + 1) c2) B (by rw [HA1.out.1]; exact hne)
   exact h9.symm.trans h8
  obtain ⟨n2, hn2⟩ : ∃ n, n = (V.P.map (·.2)).length + 1 := ⟨_, rfl⟩
  rw [<- hn2] at hr7 h7
  clear hn2
  obtain ⟨a2, ha2⟩ : ∃ x : VA, x = { a1 with rq := .slice A2 n2 c2 } := ⟨_, rfl⟩
  have HA2 : Hid (a2.b = a.b) := iq (by rw [ha2]; exact HA1.out.1)
  rw [<- ha2] at h7
  rw [HA1.out.1] at h7
  have E3 := iq h7
  clear ha2 h7
  refine step_append_one rfl (.tmp 28) (.tmp 30) 54 rfl _ _ rfl rfl _ _ hr7 ?_
  refine hK'.out _ _ hB7 (fun _ => ?_)
  clear hK' K' hr7
  try simp only [Act.put, l0, l1, l2]
  refine tk 8 ⟨some 32, .nilCheck (.tmp 24), _, _, _, none⟩ (.pointer (some ⟨a.b, 0, none⟩)) rfl (by kernel_rfl) (fun _ _ _ => id) (hB7) (fun W hSW => by go_simp) ?_
  try simp only [pu, l0, l1, l2]
  refine tk 9 ⟨some 33, .fieldAddr 133 (.tmp 32) 4, _, _, _, none⟩ (.pointer (some ⟨a.b, 4, none⟩)) rfl (by kernel_rfl) (fun _ _ _ => id) (hB7) (fun W hSW => by go_simp) ?_
  try simp only [pu, l0, l1, l2]
  refine rd1 10 ⟨none, .store 54 (.tmp 33) (.tmp 31), _, _, _, none⟩ (by kernel_rfl) rfl fun K' hK' => ?_
  go_simp
  refine hK'.out _ _ ((Below.heap_setCell x2 ⟨a.b, 4, none⟩ _ B (fun e => HB.out.1 e.symm)).trans hB7) (fun _ => ?_)
  clear hK' K' hB7
  refine wpAnyH_done (by kernel_rfl) ?_ _
  try simp only [Exit.inBlock, Exit.then]
  have HF : Fr v (x2.setCell ⟨a.b, 4, none⟩ (.slice A2 n2 c2)) (vwT a2 sb (V.add num r) :: os) := by
   have h := E3.out
   rw [add_plc V num r] at h
   have e1 : V.P.map (·.1) ++ [num] = (V.add num r).P.map (·.1) := by simp [MV.add]
   have e2 : V.P.map (·.2) ++ [r] = (V.add num r).P.map (·.2) := by simp [MV.add]
   have e3 : V.P.length + 1 = (V.add num r).P.length := by simp [MV.add]
   rw [e1, e2, e3] at h
   exact (vw_of (V := V.add num r) h).swap.pop.swap.pop
  exact bodyPost_end (results_none rfl _ _ _) rfl ⟨rfl, a2, HA2.out, HF⟩
end Go.Proofs.YtknpcmadghkaaaaGreatDoor.Sh
