/- Laws and walks. -/
import Derived.Test.YtllbbcifcbkgeaaGreatDoorH7a
set_option maxHeartbeats 16000000
set_option maxRecDepth 100000
namespace Go.Proofs.YtllbbcifcbkgeaaGreatDoor.Sh
open Go.RowKit
theorem u64_lit {n : Nat} (h : n < 18446744073709551616) : (Lit.int .u64 (n : Int)).wf = true := by simp [Lit.wf, IntKind.min, IntKind.max, IntKind.signed, IntKind.bits]; omega
theorem mxN_lt (r : Int) (N : Nat) (h0 : 0 < N) (l : List MMsg) (h : ∀ m ∈ l, m.number < N) : mxN r l < N := by
 have key : ∀ (l : List MMsg) (a : Nat), a < N -> (∀ m ∈ l, m.number < N) -> l.foldl (fun a m => max a m.number) a < N := by
  intro l
  induction l with
  | nil => intro a ha _; exact ha
  | cons m l ih => intro a ha hl; exact ih _ (Nat.max_lt.2 ⟨ha, hl m (List.mem_cons_self ..)⟩) fun x hx => hl x (List.mem_cons_of_mem _ hx)
 exact key _ _ h0 fun m hm => h m (List.mem_filter.1 hm).1
theorem room_some {v W : World} {os : List Thing} {b k : Nat} {ws : List MMsg} (H : Fr v W (waT b (some k) ws :: os)) (p : Int × Nat) (hp : PkOk p) (hl : ws.length <= 1000000) :
  Calls Tryz.prog 55 #[.pointer (some ⟨b, 0, none⟩), kv p] W fun E W' =>
   if cnN p.1 ws < 11 then E = .returned (.bool true) /\ Fr v W' (waT b (some k) ws :: os)
   else if mxN p.1 ws < p.2 then E = .returned (.bool false) /\ Fr v W' (waT b (some k) ws :: os)
   else E = .returned (.bool true) /\ Fr v W' (waT b (some k) (wdel ws (p.1, mxN p.1 ws)) :: os) := by
 have hc0 : (W.alloc (.cells (prC p).toArray 55)).cell? ⟨W.heap.size, 0, none⟩ = some (.int .i64 p.1) := block_cell (H.box (prC p).toArray 55).hd 0 _ rfl
 have H1 := iq (H.box (prC p).toArray 55)
 have HL := iq hl
 have hz := zero_pair
 have hpm : PkOk (p.1, mxN p.1 ws) := ⟨hp.1, u64_lit (mxN_lt p.1 18446744073709551616 (by decide) ws fun m hm => by have := word_lt ((WaitAt.wf H.hd m hm).2.1).2; simpa [MMsg.pk] using this)⟩
 obtain ⟨c, hc⟩ : ∃ c, c = cnN p.1 ws := ⟨_, rfl⟩
 obtain ⟨mx, hmx⟩ : ∃ mx, mx = mxN p.1 ws := ⟨_, rfl⟩
 rw [<- hmx] at hpm
 have HPM := iq hpm
 have HC := iq hc
 have HMX := iq hmx
 rw [kv, <- hc, <- hmx]
 clear H hl hp hpm hc hmx
 by_cases hA : c < 11
 ·simp only [if_pos hA]
  have hA' : (c : Int) < 11 := by omega
  clear hA
  go_enter Tryz.func55, Tryz.ntmps55
  go_wp2_with (first | (go_at_call 76; refine (share_some H1.out.hd2 p.1 HL.out H1.out.ksW H1.out.posW).mono ?_; rintro E w2 ⟨rfl, b2⟩; rw [<- HC.out, <- HMX.out]; have H2 := iq (H1.out.below b2); have H3 := iq (H2.out.box (prC (0, 0)).toArray 55); clear b2 H1) | (refine wpList_store_part rfl 55 (.tmp 6) (.tmp 13) rfl w2.heap.size 0 (prC (0, 0)) (prC (p.1, mx)) (prC (p.1, mx)) 55 H3.out.hd (Nat.le_refl 2) rfl rfl rfl (info_pair _) (one_prC _) ?_; intro w4 G4; have H4 : Hid (Fr v w4 (blkT w2.heap.size (prC (p.1, mx)).toArray 55 :: blkT W.heap.size (prC p).toArray 55 :: waT b (some k) ws :: os)) := iq (H3.out.turn (own_grown G4.out.2 rfl) G4.out.1 (blkT_ok _ _ _)); clear G4 H3 H2; have hcA : w4.cell? ⟨W.heap.size, 1, none⟩ = some (.int .u64 (p.2 : Int)) := block_cell H4.out.hd2 1 _ rfl; have hcB : w4.cell? ⟨w2.heap.size, 1, none⟩ = some (.int .u64 (mx : Int)) := block_cell H4.out.hd 1 _ rfl))
  exact bodyPost_ret (results_tmp rfl _ _ _) rfl ⟨rfl, H4.out.pop.pop⟩
 simp only [if_neg hA]
 have hA' : ¬ ((c : Int) < 11) := by omega
 clear hA
 by_cases hB : mx < p.2
 ·simp only [if_pos hB]
  have hB' : (mx : Int) < (p.2 : Int) := by omega
  clear hB
  go_enter Tryz.func55, Tryz.ntmps55
  go_wp2_with (first | (go_at_call 76; refine (share_some H1.out.hd2 p.1 HL.out H1.out.ksW H1.out.posW).mono ?_; rintro E w2 ⟨rfl, b2⟩; rw [<- HC.out, <- HMX.out]; have H2 := iq (H1.out.below b2); have H3 := iq (H2.out.box (prC (0, 0)).toArray 55); clear b2 H1) | (refine wpList_store_part rfl 55 (.tmp 6) (.tmp 13) rfl w2.heap.size 0 (prC (0, 0)) (prC (p.1, mx)) (prC (p.1, mx)) 55 H3.out.hd (Nat.le_refl 2) rfl rfl rfl (info_pair _) (one_prC _) ?_; intro w4 G4; have H4 : Hid (Fr v w4 (blkT w2.heap.size (prC (p.1, mx)).toArray 55 :: blkT W.heap.size (prC p).toArray 55 :: waT b (some k) ws :: os)) := iq (H3.out.turn (own_grown G4.out.2 rfl) G4.out.1 (blkT_ok _ _ _)); clear G4 H3 H2; have hcA : w4.cell? ⟨W.heap.size, 1, none⟩ = some (.int .u64 (p.2 : Int)) := block_cell H4.out.hd2 1 _ rfl; have hcB : w4.cell? ⟨w2.heap.size, 1, none⟩ = some (.int .u64 (mx : Int)) := block_cell H4.out.hd 1 _ rfl))
  exact bodyPost_ret (results_tmp rfl _ _ _) rfl ⟨rfl, H4.out.pop.pop⟩
 simp only [if_neg hB]
 have hB' : ¬ ((mx : Int) < (p.2 : Int)) := by omega
 clear hB
 go_enter Tryz.func55, Tryz.ntmps55
 go_wp2_with (first | (go_at_call 76; refine (share_some H1.out.hd2 p.1 HL.out H1.out.ksW H1.out.posW).mono ?_; rintro E w2 ⟨rfl, b2⟩; rw [<- HC.out, <- HMX.out]; have H2 := iq (H1.out.below b2); have H3 := iq (H2.out.box (prC (0, 0)).toArray 55); clear b2 H1) | (refine wpList_store_part rfl 55 (.tmp 6) (.tmp 13) rfl w2.heap.size 0 (prC (0, 0)) (prC (p.1, mx)) (prC (p.1, mx)) 55 H3.out.hd (Nat.le_refl 2) rfl rfl rfl (info_pair _) (one_prC _) ?_; intro w4 G4; have H4 : Hid (Fr v w4 (blkT w2.heap.size (prC (p.1, mx)).toArray 55 :: blkT W.heap.size (prC p).toArray 55 :: waT b (some k) ws :: os)) := iq (H3.out.turn (own_grown G4.out.2 rfl) G4.out.1 (blkT_ok _ _ _)); clear G4 H3 H2; have hcA : w4.cell? ⟨W.heap.size, 1, none⟩ = some (.int .u64 (p.2 : Int)) := block_cell H4.out.hd2 1 _ rfl; have hcB : w4.cell? ⟨w2.heap.size, 1, none⟩ = some (.int .u64 (mx : Int)) := block_cell H4.out.hd 1 _ rfl))
 refine wp_region_any (by kernel_rfl) ?_
 change wpAny _ _ _ _ _ _ _ (World.drewN _ 1)
 refine held_gen (G := fun W' => wpAny _ _ _ _ _ _ _ W') (fun W' => Fr v W' (blkT w2.heap.size (prC (p.1, mx)).toArray 55 :: blkT W.heap.size (prC p).toArray 55 :: waT b (some k) ws :: os)) (H4.out.drewN 1) (fun y0 hw => ?_)
 have H5 := iq hw
 clear hw H4
 have HEV : Hid (∀ W', Fr v W' (blkT w2.heap.size (prC (p.1, mx)).toArray 55 :: blkT W.heap.size (prC p).toArray 55 :: waT b (some k) ws :: os) -> W'.cell? ⟨b, 0, none⟩ = some (.map (some k)) /\ W'.rangeAt w2.heap.size 0 (prC (p.1, mx))) := iq fun W' hf => ⟨block_cell (C := [.map (some k)]) (WaitAt.top hf.pop.pop.hd) 0 _ rfl, range_of hf.hd⟩
 refine wpAny_of_held (S := fun W => W.cell? ⟨b, 0, none⟩ = some (.map (some k)) /\ W.rangeAt w2.heap.size 0 (prC (p.1, mx))) _ _ _ _ ?_
 refine tk 0 ⟨some 21, .move (.tmp 0), _, _, _, none⟩ (.pointer (some ⟨b, 0, none⟩)) rfl (by kernel_rfl) (fun _ _ _ => id) (HEV.out _ H5.out) (fun W hSW => by go_simp) ?_
 try simp only [Act.put, l0, l1, l2]
 refine tk 1 ⟨some 22, .nilCheck (.tmp 21), _, _, _, none⟩ (.pointer (some ⟨b, 0, none⟩)) rfl (by kernel_rfl) (fun _ _ _ => id) (HEV.out _ H5.out) (fun W hSW => by go_simp) ?_
 try simp only [pu, l0, l1, l2]
 refine tk 2 ⟨some 23, .fieldAddr 108 (.tmp 22) 0, _, _, _, none⟩ (.pointer (some ⟨b, 0, none⟩)) rfl (by kernel_rfl) (fun _ _ _ => id) (HEV.out _ H5.out) (fun W hSW => by go_simp) ?_
 try simp only [pu, l0, l1, l2]
 refine tk 3 ⟨some 24, .load 106 (.tmp 23), _, _, _, none⟩ (.map (some k)) rfl (by kernel_rfl) (fun _ _ _ => id) (HEV.out _ H5.out) (fun W hSW => by have hv := hSW.1; go_simp) ?_
 try simp only [pu, l0, l1, l2]
 refine tk 4 ⟨some 25, .load 55 (.tmp 6), _, _, _, none⟩ (.agg (prC (p.1, mx)).toArray) rfl (by kernel_rfl) (fun _ _ _ => id) (HEV.out _ H5.out) (fun W hSW => exec_load_mid 55 (.tmp 6) rfl w2.heap.size 0 rfl (prC (p.1, mx)) _ hSW.2 Tryz.underlying55 rfl (info_pair _)) ?_
 try simp only [pu, l0, l1, l2]
 refine rd1 5 ⟨none, .call { callee := .builtin .delete, args := #[.tmp 24, .tmp 25], argTypes := #[106, 55] }, _, _, _, none⟩ (by kernel_rfl) rfl fun K' hK' => ?_
 obtain ⟨W', r1, h9, _⟩ := wait_del H5.out.third (p := (p.1, mx)) HPM.out 55
 have H9 := iq h9
 refine step_delete rfl (.tmp 24) (.tmp 25) 106 55 rfl _ _ rfl rfl W' r1 ?_
 refine hK'.out _ _ ⟨block_cell (C := [.map (some k)]) (WaitAt.top H9.out.hd) 0 _ rfl, range_of H9.out.hd2⟩ (fun _ => ?_)
 clear hK' K' r1 h9
 refine wpAnyH_done (by kernel_rfl) ?_ _
 go_wp2_with fail
 exact bodyPost_ret (results_tmp rfl _ _ _) rfl ⟨rfl, H9.out.drop23⟩
open Go.RowKit
def itN (g : Nat) : Thing := ⟨fun W => W.heap[g]? = some (.mapIter none 0 #[] 0), fun j => j = g⟩
theorem itN_ok (g : Nat) : (itN g).Ok := ⟨fun _ _ h hk => (hk g rfl).trans h, fun _ h j hj => by cases hj; exact (Array.getElem?_eq_some_iff.1 h).1⟩
theorem it_begin {v w : World} {os : List Thing} (H : Fr v w os) : Fr v (w.alloc (.mapIter none 0 #[] 0)) (itN w.heap.size :: os) :=
 H.add (bl.alloc (Nat.le_refl _) _) (heap_alloc_new w _) (itN_ok _) fun k hk => by cases hk; exact Nat.le_refl _
section
variable {P : Program} {w : World} {ops : Array Oper} {rest : List Oper} {o : Oper} {a : Act} {Q : Exit -> Act -> World -> Prop}
theorem wpList_range_nilm (hg : o.guard = none) (m : Operand) (t k e : TypeId) (hop : o.op = Op.range t m) (ht : P.underlying t = some (.map k e)) (hm : a.eval m = .map none)
  (h : wpList P ops Q rest (a.put o.dst (.pointer (some ⟨w.heap.size, 0, none⟩))) (w.alloc (.mapIter none 0 #[] 0))) : wpList P ops Q (o :: rest) a w := by
 refine wpList_plain hg fun K' hK' => ?_
 have hrun := run_range_nilMap (P := P) w t k e ht
 unfold Oper.wp
 simp [execOp, hop, hm, hrun, Result.andThen]
 exact hK' _ _ h
theorem run_next_nilm {g : Nat} (h : w.heap[g]? = some (.mapIter none 0 #[] 0)) (ty : TypeId) : (Instr.next (.pointer (some ⟨g, 0, none⟩)) false ty).run P w = .ok (.tuple #[.bool false]) w := by
 simp only [Instr.next, getObj, Sem.run_bind, Sem.run, h, Result.andThen]
 rfl
theorem wpList_next_nilm (hg : o.guard = none) (it : Operand) (hop : o.op = Op.next it false) {g : Nat} (hb : w.heap[g]? = some (.mapIter none 0 #[] 0)) (hi : a.eval it = .pointer (some ⟨g, 0, none⟩))
  (h : wpList P ops Q rest (a.put o.dst (.tuple #[.bool false])) w) : wpList P ops Q (o :: rest) a w := by
 refine wpList_plain hg fun K' hK' => ?_
 have hrun := run_next_nilm (P := P) hb o.type
 unfold Oper.wp
 simp [execOp, hop, hi, hrun, Result.andThen]
 exact hK' _ _ h
end
theorem share_none {U : World} {b : Nat} (h : U.heap[b]? = some (.cells #[.map none] 108 (0, 0))) (r : Int) (hk : KIs U) (h0 : 0 < U.heap.size) :
  Calls Tryz.prog 76 #[.pointer (some ⟨b, 0, none⟩), .int .i64 r] U fun E U' => E = .returned (.tuple #[.int .i64 0, .agg (prC (r, 0)).toArray]) /\ Below U.heap.size U U' := by
 have hb : b < U.heap.size := (Array.getElem?_eq_some_iff.1 h).1
 have HB := iq (fun (V : World) (hv : Below U.heap.size U V) => (show V.cell? ⟨b, 0, none⟩ = some (.map none) from (hv.cell (p := ⟨b, 0, none⟩) hb).trans (block_cell (C := [.map none]) h 0 _ rfl)))
 have H1 := iq (((Fr.start hk h0).box (prC (0, 0)).toArray 55).box' (k := U.heap.size + 1) (by simp) (prC (0, 0)).toArray 55)
 clear h hb hk h0
 go_enter Tryz.func76, Tryz.ntmps76
 have hz := zero_pair
 go_wp2_with (first | (refine wpList_store_part rfl 55 (.tmp 7) (.tmp 10) rfl (U.heap.size + 1) 0 (prC (0, 0)) (prC (r, 0)) (prC (r, 0)) 55 H1.out.hd (Nat.le_refl 2) rfl rfl rfl (info_pair _) (one_prC _) ?_; intro w2 G2; have H2 : Hid (Fr U w2 [blkT (U.heap.size + 1) (prC (r, 0)).toArray 55, blkT U.heap.size (prC (0, 0)).toArray 55]) := iq (H1.out.turn (own_grown G2.out.2 rfl) G2.out.1 (blkT_ok _ _ _)); clear G2 H1; have hc := HB.out _ H2.out.bel) | (at_range; refine wpList_range_nilm rfl (.tmp 14) 106 55 52 rfl Tryz.underlying106 rfl ?_; have H3 := iq (it_begin H2.out)))
 simp only [Act.put, l0, l1, l2]
 clear hc hz H2
 obtain ⟨w3, hw3⟩ : ∃ X, X = w2.alloc (.mapIter none 0 #[] 0) := ⟨_, rfl⟩
 rw [<- hw3] at H3 ⊢
 clear hw3
 go_loopw [6] (fun v6 wr => v6 = .int .i64 0 /\ Hid (Fr U wr [itN w2.heap.size, blkT (U.heap.size + 1) (prC (r, 0)).toArray 55, blkT U.heap.size (prC (0, 0)).toArray 55])) (fun _ _ => 0)
 case atStart => exact ⟨rfl, H3⟩
 case round =>
  clear H3
  obtain ⟨rfl, H4⟩ := hrel
  go_upto_region 7 with (first | (at_next; refine wpList_next_nilm rfl (.tmp 15) rfl H4.out.hd rfl ?_))
  refine wp_region_any (by kernel_rfl) ?_
  change wpAny _ _ _ _ _ _ _ (World.drewN _ 1)
  refine held_gen (G := fun W' => wpAny _ _ _ _ _ _ _ W') (fun W' => Fr U W' [itN w2.heap.size, blkT (U.heap.size + 1) (prC (r, 0)).toArray 55, blkT U.heap.size (prC (0, 0)).toArray 55]) (H4.out.drewN 1) (fun y0 hw => ?_)
  have H5 := iq hw
  clear hw H4
  refine wpAny_of_held (S := fun V => V.rangeAt (U.heap.size + 1) 0 (prC (r, 0))) _ _ _ _ ?_
  refine tk 0 ⟨some 32, .move (.tmp 6), _, _, _, none⟩ (.int .i64 0) rfl (by kernel_rfl) (fun _ _ _ => id) (range_of H5.out.hd2) (fun W hSW => by go_simp) ?_
  try simp only [Act.put, l0, l1, l2]
  refine tk 1 ⟨some 33, .load 55 (.tmp 7), _, _, _, none⟩ (.agg (prC (r, 0)).toArray) rfl (by kernel_rfl) (fun _ _ _ => id) (range_of H5.out.hd2) (fun W hSW => exec_load_mid 55 (.tmp 7) rfl (U.heap.size + 1) 0 rfl (prC (r, 0)) _ hSW Tryz.underlying55 rfl (info_pair _)) ?_
  try simp only [pu, l0, l1, l2]
  refine tk 2 ⟨some 4, .assign (.tmp 32), _, _, _, none⟩ (.int .i64 0) rfl (by kernel_rfl) (fun _ _ _ => id) (range_of H5.out.hd2) (fun W hSW => by go_simp) ?_
  try simp only [pu, l0, l1, l2]
  refine rd1 3 ⟨none, .store 55 (.tmp 5) (.tmp 33), _, _, _, none⟩ (by kernel_rfl) rfl fun K' hK' => ?_
  refine step_store_cells rfl 55 (.tmp 5) (.tmp 33) rfl U.heap.size 0 (prC (r, 0)) rfl rfl (there_block H5.out.hd3 0 _ (Nat.le_refl 2)) (info_pair _) (one_prC _) ?_
  have h9 := H5.out.third.setAll (C := prC (0, 0)) 0 (prC (r, 0))
  have H9 := iq h9
  refine hK'.out _ _ (range_of H9.out.hd3) (fun _ => ?_)
  clear hK' K' h9
  refine wpAnyH_done (by kernel_rfl) ?_ _
  go_wp2_with fail
  exact bodyPost_ret (ret_tc (cs := prC (r, 0)) rfl rfl rfl (range_of H9.out.hd) Tryz.underlying55 rfl (info_pair _)) rfl ⟨rfl, H9.out.bel⟩
theorem room_none {v W : World} {os : List Thing} {b : Nat} (H : Fr v W (waT b none [] :: os)) (p : Int × Nat) :
  Calls Tryz.prog 55 #[.pointer (some ⟨b, 0, none⟩), kv p] W fun E W' => E = .returned (.bool true) /\ Fr v W' (waT b none [] :: os) := by
 have hc0 : (W.alloc (.cells (prC p).toArray 55)).cell? ⟨W.heap.size, 0, none⟩ = some (.int .i64 p.1) := block_cell (H.box (prC p).toArray 55).hd 0 _ rfl
 have H1 := iq (H.box (prC p).toArray 55)
 have hz := zero_pair
 rw [kv]
 clear H
 go_enter Tryz.func55, Tryz.ntmps55
 go_wp2_with (first | (go_at_call 76; refine (share_none (WaitAt.top H1.out.hd2) p.1 H1.out.ksW H1.out.posW).mono ?_; rintro E w2 ⟨rfl, b2⟩; have H2 := iq (H1.out.below b2); have H3 := iq (H2.out.box (prC (0, 0)).toArray 55); clear b2 H1) | (refine wpList_store_part rfl 55 (.tmp 6) (.tmp 13) rfl w2.heap.size 0 (prC (0, 0)) (prC (p.1, 0)) (prC (p.1, 0)) 55 H3.out.hd (Nat.le_refl 2) rfl rfl rfl (info_pair _) (one_prC _) ?_; intro w4 G4; have H4 : Hid (Fr v w4 (blkT w2.heap.size (prC (p.1, 0)).toArray 55 :: blkT W.heap.size (prC p).toArray 55 :: waT b none [] :: os)) := iq (H3.out.turn (own_grown G4.out.2 rfl) G4.out.1 (blkT_ok _ _ _)); clear G4 H3 H2))
 exact bodyPost_ret (results_tmp rfl _ _ _) rfl ⟨rfl, H4.out.pop.pop⟩
open Go.RowKit
theorem WaitAt.nil {W : World} {b : Nat} {ws : List MMsg} (h : WaitAt W b none ws) : ws = [] := by
 rcases h.mp with h1 | ⟨k, h1, _⟩
 ·exact h1.2
 ·cases h1
theorem look_any {W : World} {b : Nat} {mb : Option Nat} {ws : List MMsg} (h : WaitAt W b mb ws) {p : Int × Nat} (hp : PkOk p) :
  (Instr.lookup 106 (.map mb) (kv p) true).run Tryz.prog W = .ok (.tuple #[.agg (msgC ((fW ws p).getD zeroMsg)).toArray, .bool (fW ws p).isSome]) W /\ (Instr.lookup 106 (.map mb) (kv p) false).run Tryz.prog W = .ok (.agg (msgC ((fW ws p).getD zeroMsg)).toArray) W := by
 rcases h.mp with ⟨rfl, rfl⟩ | ⟨k, rfl, _, h3⟩
 ·exact mapN_look W hp
 ·exact mapP_look h3 hp
theorem room_any {v W : World} {os : List Thing} {b : Nat} {mb : Option Nat} {ws : List MMsg} (H : Fr v W (waT b mb ws :: os)) (p : Int × Nat) (hp : PkOk p) (hl : ws.length <= 1000000) :
  Calls Tryz.prog 55 #[.pointer (some ⟨b, 0, none⟩), kv p] W fun E W' =>
   if cnN p.1 ws < 11 then E = .returned (.bool true) /\ Fr v W' (waT b mb ws :: os)
   else if mxN p.1 ws < p.2 then E = .returned (.bool false) /\ Fr v W' (waT b mb ws :: os)
   else E = .returned (.bool true) /\ Fr v W' (waT b mb (wdel ws (p.1, mxN p.1 ws)) :: os) := by
 cases mb with
 | none =>
  have e := WaitAt.nil H.hd
  subst e
  have h0 : cnN p.1 [] < 11 := by simp [cnN]
  simp only [if_pos h0]
  exact room_none H p
 | some k => exact room_some H p hp hl
theorem hold_any {v W : World} {os : List Thing} {b : Nat} {mb : Option Nat} {ws : List MMsg} {m : MMsg} (H : Fr v W (qT m :: waT b mb ws :: os)) (hm : m.Wf) (hp : PkOk m.pk) (hq : m.body.qs.length <= 1000000) (hn : fW ws m.pk = none) (hs : ws.length <= 1000000) :
  Calls Tryz.prog 57 #[.pointer (some ⟨b, 0, none⟩), kv m.pk, .agg (msgC m).toArray] W fun E W' => E = .returned (.tuple #[]) /\ ∃ k, Fr v W' (waT b (some k) (ws ++ [m]) :: os) := by
 cases mb with
 | none =>
  have e := WaitAt.nil H.swap.hd
  subst e
  exact hold_none H hm hp hq
 | some k => exact (hold_some H hm hp hq hn hs).mono fun E W' h => ⟨h.1, k, h.2⟩
def putW (e : Int) (ws : List MMsg) (m : MMsg) : Int × List MMsg :=
 if !(decide (e = 0) || decide (e = 12)) then (e, ws)
 else if (fW ws m.pk).isSome then (13, ws)
 else if cnN m.origin ws < 11 then (0, ws ++ [m])
 else if mxN m.origin ws < m.number then (7, ws)
 else (0, wdel ws (m.origin, mxN m.origin ws) ++ [m])
open Go.RowKit
theorem put_bad {v W : World} {os : List Thing} {b bl n : Nat} {mb : Option Nat} {ws : List MMsg} {A : Nat -> Option Addr} {C : Nat -> Nat} {L : List MMsg} (H : Fr v W (waT b mb ws :: loT bl n A C L :: os)) (m : MMsg) (hm : m.Wf) (hq : Prs W m.body.qa m.body.qs) (hn : m.body.qs.length <= 140737488355328)
  (hw : (decide (chk n L m = 0) || decide (chk n L m = 12)) = false) :
  Calls Tryz.prog 35 #[.pointer (some ⟨b, 0, none⟩), .pointer (some ⟨bl, 0, none⟩), .agg (msgC m).toArray] W fun E W' => E = .returned (.int .i64 (chk n L m)) /\ Fr v W' (waT b mb ws :: loT bl n A C L :: os) := by
 have H1 := iq (H.box (msgC m).toArray 52)
 have HWm := iq hm
 have HN := iq hn
 have HIm := iq (info_msg hm)
 have hq2 := hq.below ((Below.refl _ W).alloc (Nat.le_refl _) (.cells (msgC m).toArray 52))
 have HQ := iq hq2
 clear H hm hn hq hq2
 go_enter Tryz.func35, Tryz.ntmps35
 go_wp2_with (first | (go_at_call 17; go_loud ((refine (check_any H1.out.third.hd m HWm.out HQ.out HN.out H1.out.ksW H1.out.posW).mono ?_; rintro E w2 ⟨rfl, b2⟩; have H2 := iq (H1.out.below b2); clear b2 H1))) | (go_at_call 54; go_loud (refine (mayWait_any _ _).mono ?_; rintro E w3 ⟨rfl, rfl⟩; rw [hw])) | (((with_reducible refine wpList_load_midG ?_ 52 (.tmp 5) ?_ W.heap.size 0 ?_ (msgC m) _ ?_ Tryz.underlying52 ?_ ?_ ?_); rotate_left; rfl; rfl; exact (range_of H1.out.hd); rfl; exact HIm.out; rotate_left; rfl)))
 exact bodyPost_ret (results_tmp rfl _ _ _) rfl ⟨rfl, H2.out.pop⟩
end Go.Proofs.YtllbbcifcbkgeaaGreatDoor.Sh
