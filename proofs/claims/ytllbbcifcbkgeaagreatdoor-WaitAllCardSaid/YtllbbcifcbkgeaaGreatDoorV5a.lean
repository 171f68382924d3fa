/- Laws and walks. -/
import Derived.Test.YtllbbcifcbkgeaaGreatDoorV4a
set_option maxHeartbeats 16000000
set_option maxRecDepth 100000
namespace Go.Proofs.YtllbbcifcbkgeaaGreatDoor.Sh
open Go.RowKit
theorem depsB_take {l : List Nat} {j : Nat} {x : Nat} (h : l[j]? = some x) : depsB (l.take (j + 1)) = depsB (l.take j) ++ be 8 x := by
 unfold depsB
 rw [List.take_add_one, h, List.flatMap_append]
 simp
theorem Tryz.is25 : (Tryz.prog.info? 25).map (·.size) = some 1 := by kernel_rfl
theorem exec_lookup {o : Oper} {f : Operand -> Value} {W : World} {x y : Operand} {r : Nat} {k i : Nat} {v : Value} (ho : o.op = Op.lookup 137 x y false) (hx : f x = .map (some r)) (hy : f y = .int .u8 (k : Int)) (hm : W.heap[r]? = some (.map wrE 6))
  (hn : Instr.findNow (.int .u8) (.int .u8 (k : Int)) wrE.toList 0 = some (some (i, v))) : (execOp f o).run Tryz.prog W = .ok (.value v) W := by
 unfold execOp
 simp only [ho, hx, hy, Sem.run_bind, run_look_at Tryz.underlying137 Tryz.underlying5 hm (k : Int) v i hn false, Result.andThen_ok, Sem.run_pure, Bool.false_eq_true, if_false]
theorem tagged_k (K : Nat) (hE : ∀ args W, (callFunc K args).run Tryz.prog W = .ok (.enter K args) W) (m : MMsg) (i : Nat) (out : List UInt8) (hm : m.Wf) (ho : isRepl m.origin = true) (hk : Instr.findNow (.int .u8) (.int .u8 (m.body.kind.toNat : Int)) wrE.toList 0 = some (some (i, .func (.func K) #[] #[])))
  (hp : ∀ (W : World), Prs W m.body.qa m.body.qs -> ∀ (B n c : Nat) (A : Option Addr) (bs : List UInt8), Ow B W A n c bs -> n <= 1000000 -> Calls Tryz.prog K #[.slice A n c, .agg (bodyC m.body).toArray] W fun E w' => ∃ A' n' c', E = .returned (.slice A' n' c') /\ Ow W.heap.size w' A' n' c' (bs ++ out) /\ Hid (Below W.heap.size W w')) :
  ∀ w : World, Prs w m.body.qa m.body.qs -> Calls Tryz.prog 69 #[.agg (msgC m).toArray] w fun E w' => ∃ A' n' c', E = .returned (.slice A' n' c') /\ Ow w.heap.size w' A' n' c' (byteOf m.origin :: (depsB m.deps ++ (m.body.kind :: out))) /\ Hid (Below w.heap.size w w') := by
 intro w hq
 have HP := iq hp
 have HM := iq hm
 have L := msg_lies (range_box w (msgC m) 52) hm
 have HR : Hid ((w.alloc (.cells (msgC m).toArray 52)).rangeAt w.heap.size 2 (u64s m.deps)) := iq L.deps
 have c0 : (w.alloc (.cells (msgC m).toArray 52)).cell? ⟨w.heap.size, 0, none⟩ = some (.int .i64 m.origin) := L.origin
 have hu : IntKind.u8.wrap m.origin = ((byteOf m.origin).toNat : Int) := u8_wrap (by simp only [isRepl, decide_eq_true_eq] at ho; omega)
 have HI : Hid ((Tryz.prog.info? 27).map (·.size) = some (u64s m.deps).length) := iq (by rw [u64s_length, hm.1]; exact Tryz.is27)
 have HJ : Hid ((Tryz.prog.info? 50).map (·.size) = some (bodyC m.body).length) := iq (by rw [bodyC_length hm.2.1]; exact Tryz.is50)
 have HD : Hid ((u64s m.deps).length = 11 /\ ∀ (j x : Nat), m.deps[j]? = some x -> (u64s m.deps).toArray[j]? = some (.int .u64 (x : Int))) := iq ⟨by rw [u64s_length, hm.1], fun j x h => by simp [u64s, h]⟩
 have H0 : Hid (RqAt w.heap.size w (msgC m) (w.alloc (.cells (msgC m).toArray 52))) := iq ⟨bl.alloc (Nat.le_refl _) _, by simp, range_box w (msgC m) 52⟩
 have HL11 := iq hm.1
 have HK := iq hk
 clear L hm hp hk
 go_enter Tryz.func69, Tryz.ntmps69
 go_wp2_with (((with_reducible refine wpList_load_midG ?_ 27 (.tmp 10) ?_ w.heap.size 2 ?_ (u64s m.deps) _ ?_ Tryz.underlying27 ?_ ?_ ?_); rotate_left; rfl; rfl; exact rangeAt_below HR.out (bl.alloc (Nat.le_refl _) _) (by simp); rfl; exact HI.out; rotate_left; rfl))
 have D1 : Hid (RqAt w.heap.size w (msgC m) ((w.alloc (.cells (msgC m).toArray 52)).alloc (.cells #[.int .u8 ((byteOf m.origin).toNat : Int)] 5)) /\ Ow (w.heap.size + 1) ((w.alloc (.cells (msgC m).toArray 52)).alloc (.cells #[.int .u8 ((byteOf m.origin).toNat : Int)] 5)) (some ⟨w.heap.size + 1, 0, none⟩) 1 1 ([byteOf m.origin] ++ depsB (m.deps.take 0))) := iq ⟨H0.out.next (Nat.le_refl _) (bl.alloc (Nat.le_refl _) _), ⟨by
  simpa [depsB, u8s] using World.ownsRow_lit (w.alloc (.cells (msgC m).toArray 52)) #[.int .u8 ((byteOf m.origin).toNat : Int)] 1 (base := w.heap.size + 1) (e := 5) (size := 1) (by simp) (by unfold maxLen; omega) rfl, sl_1⟩⟩
 clear H0 HR c0 hu
 generalize (w.alloc (.cells (msgC m).toArray 52)).alloc (.cells #[.int .u8 ((byteOf m.origin).toNat : Int)] 5) = w1 at D1 ⊢
 go_loopw [3, 12] (fun v3 v12 wr => ∃ j : Nat, j <= 11 /\ v12 = .int .i64 (j : Int) /\ ∃ A0 n0 c0, v3 = .slice A0 n0 c0 /\ n0 <= 1 + 8 * j /\ Hid (RqAt w.heap.size w (msgC m) wr /\ Ow (w.heap.size + 1) wr A0 n0 c0 ([byteOf m.origin] ++ depsB (m.deps.take j)))) (fun _ v12 _ => 11 - (intOf v12).toNat)
 case atStart => exact ⟨0, by omega, rfl, _, _, _, rfl, by omega, D1⟩
 case round =>
  clear D1
  obtain ⟨j, hj, rfl, A0, n0, c0, rfl, hn0, D⟩ := hrel
  by_cases hjj : j < 11
  ·obtain ⟨x, hx⟩ : ∃ x, m.deps[j]? = some x := ⟨_, List.getElem?_eq_getElem (by rw [HL11.out]; exact hjj)⟩
   have HT := iq (depsB_take hx)
   have HV : Hid ((u64s m.deps)[j]? = some (.int .u64 (x : Int))) := iq (by simp [u64s, hx])
   clear hx
   go_wp2_with (first | (refine wpList_index_cells rfl 27 (.tmp 11) (.tmp 12) rfl rfl rfl Tryz.underlying27 Tryz.underlying25 Tryz.is25 hjj HV.out ?_) | (go_at_call 90; refine (word_ow x D.out.2 (by omega)).mono ?_; rintro E w7 ⟨A7, n7, c7, rfl, H7, hb7⟩; have O7 := iq H7; clear H7))
   go_roundw
   case measure => simp [intOf] <;> omega
   case rel => exact ⟨j + 1, by omega, by go_num, _, _, _, rfl, by
       have h1 := O7.out.len
       have h2 := D.out.2.len
       rw [List.length_append, h2, be_length] at h1
       omega, iq ⟨D.out.1.next (Nat.le_refl _) hb7.out, by rw [HT.out, <- List.append_assoc]; exact O7.out.low (by have := D.out.1.lt; omega)⟩⟩
  ·obtain rfl : j = 11 := by omega
   have HT : Hid (depsB (m.deps.take 11) = depsB m.deps) := iq (by rw [List.take_of_length_le (by rw [HL11.out]; exact Nat.le_refl _)])
   go_wp2_with fail
   have D3 : Hid (RqAt w.heap.size w (msgC m) (wr.drewN 1) /\ Ow (w.heap.size + 1) (wr.drewN 1) A0 n0 c0 ([byteOf m.origin] ++ depsB m.deps)) := iq ⟨D.out.1.drewN 1, by have := D.out.2.below (below_drewN bl 1); rwa [HT.out] at this⟩
   refine wp_region_any (by kernel_rfl) ?_
   change wpAny _ _ _ _ _ _ _ (wr.drewN 1)
   generalize wr.drewN 1 = w3 at D3 ⊢
   clear D HT
   refine wpAny_of_held (S := fun W => W.rangeAt w.heap.size 0 (msgC m)) _ _ _ _ ?_
   refine tk 1 ⟨some 20, .fieldAddr 52 (.tmp 1) 3, _, _, _, none⟩ (.pointer (some ⟨w.heap.size, 13, none⟩)) rfl (by kernel_rfl) (fun _ _ _ => id) (D3.out.1.src) (fun W hSW => by go_simp) ?_
   try simp only [Act.put, l0, l1, l2]
   refine tk 2 ⟨some 21, .fieldAddr 50 (.tmp 20) 0, _, _, _, none⟩ (.pointer (some ⟨w.heap.size, 13, none⟩)) rfl (by kernel_rfl) (fun _ _ _ => id) (D3.out.1.src) (fun W hSW => by go_simp) ?_
   try simp only [pu, l0, l1, l2]
   refine tk 3 ⟨some 22, .load 5 (.tmp 21), _, _, _, none⟩ (.int .u8 (m.body.kind.toNat : Int)) rfl (by kernel_rfl) (fun _ _ _ => id) (D3.out.1.src) (fun W hSW => by have hv := (msg_lies hSW HM.out).body.kind; go_simp) ?_
   try simp only [pu, l0, l1, l2]
   refine tk 5 ⟨some 24, .move (.tmp 3), _, _, _, none⟩ (.slice A0 n0 c0) rfl (by kernel_rfl) (fun _ _ _ => id) (D3.out.1.src) (fun W hSW => by go_simp) ?_
   try simp only [pu, l0, l1, l2]
   refine tk 6 ⟨some 25, .fieldAddr 52 (.tmp 1) 3, _, _, _, none⟩ (.pointer (some ⟨w.heap.size, 13, none⟩)) rfl (by kernel_rfl) (fun _ _ _ => id) (D3.out.1.src) (fun W hSW => by go_simp) ?_
   try simp only [pu, l0, l1, l2]
   refine tk 7 ⟨some 26, .fieldAddr 50 (.tmp 25) 0, _, _, _, none⟩ (.pointer (some ⟨w.heap.size, 13, none⟩)) rfl (by kernel_rfl) (fun _ _ _ => id) (D3.out.1.src) (fun W hSW => by go_simp) ?_
   try simp only [pu, l0, l1, l2]
   refine tk 8 ⟨some 27, .load 5 (.tmp 26), _, _, _, none⟩ (.int .u8 (m.body.kind.toNat : Int)) rfl (by kernel_rfl) (fun _ _ _ => id) (D3.out.1.src) (fun W hSW => by have hv := (msg_lies hSW HM.out).body.kind; go_simp) ?_
   try simp only [pu, l0, l1, l2]
   refine tk 11 ⟨some 30, .fieldAddr 52 (.tmp 1) 3, _, _, _, none⟩ (.pointer (some ⟨w.heap.size, 13, none⟩)) rfl (by kernel_rfl) (fun _ _ _ => id) (D3.out.1.src) (fun W hSW => by go_simp) ?_
   try simp only [pu, l0, l1, l2]
   refine tk 12 ⟨some 31, .load 50 (.tmp 30), _, _, _, none⟩ (.agg (bodyC m.body).toArray) rfl (by kernel_rfl) (fun _ _ _ => id) (D3.out.1.src) (fun W hSW => exec_load_mid 50 (.tmp 30) rfl w.heap.size 13 rfl (bodyC m.body) _ ((msg_lies hSW HM.out).body.all) Tryz.underlying50 rfl (HJ.out)) ?_
   try simp only [pu, l0, l1, l2]
   refine rdy [0, 9] (by kernel_rfl) ?_
   refine AllReadyH.cons (o := ⟨some 19, .call { callee := .value (.func 91), args := #[], argTypes := #[] }, _, _, _, none⟩) rfl (fun K' hK' => ?_) (AllReadyH.cons (o := ⟨some 28, .buildSlice 23 1 #[(0, .tmp 27)], _, _, _, none⟩) rfl (fun K' hK' => ?_) AllReadyH.nil)
   ·go_simp
    go_at_call 91
    refine (writers_ms w3).mono ?_
    rintro E w4 ⟨rfl, hmw4, hbw4⟩
    have D4 : Hid (RqAt w.heap.size w (msgC m) w4 /\ w4.heap[w3.heap.size]? = some (.map wrE 6) /\ Ow (w.heap.size + 1) w4 A0 n0 c0 ([byteOf m.origin] ++ depsB m.deps) /\ ∀ k, (Value.slice A0 n0 c0).ownBlock = some k -> k < w3.heap.size) := iq ⟨D3.out.1.next (Nat.le_refl _) hbw4, hmw4, D3.out.2.below hbw4, fun k hk => (D3.out.2.1.lt k hk).2⟩
    clear hmw4 hbw4
    refine hK'.out _ _ D4.out.1.src (fun _ => ?_)
    clear hK' K'
    try simp only [Act.put, l0, l1, l2]
    refine wpAnyH_mono (S' := fun W => W.rangeAt w.heap.size 0 (msgC m) /\ W.heap[w3.heap.size]? = some (.map wrE 6)) (fun _ h => h.1) _ _ _ _ ?_
    refine tk 4 ⟨some 23, .lookup 137 (.tmp 19) (.tmp 22) false, _, _, _, none⟩ (.func (.func K) #[] #[]) rfl (by kernel_rfl) (fun _ _ _ => id) (⟨D4.out.1.src, D4.out.2.1⟩) (fun W hSW => exec_lookup rfl rfl rfl hSW.2 HK.out) ?_
    try simp only [Act.put, l0, l1, l2]
    refine rd1 9 ⟨some 28, .buildSlice 23 1 #[(0, .tmp 27)], _, _, _, none⟩ (by kernel_rfl) rfl fun K' hK' => ?_
    go_simp
    have hg4 : w3.heap.size < w4.heap.size := (Array.getElem?_eq_some_iff.1 D4.out.2.1).1
    have D5 : Hid (RqAt w.heap.size w (msgC m) (w4.alloc (.cells #[.int .u8 (m.body.kind.toNat : Int)] 5)) /\ (w4.alloc (.cells #[.int .u8 (m.body.kind.toNat : Int)] 5)).heap[w3.heap.size]? = some (.map wrE 6) /\ Ow (w.heap.size + 1) (w4.alloc (.cells #[.int .u8 (m.body.kind.toNat : Int)] 5)) A0 n0 c0 ([byteOf m.origin] ++ depsB m.deps)) := iq ⟨D4.out.1.next (Nat.le_refl _) (bl.alloc (Nat.le_refl _) _), (((Below.refl w4.heap.size w4).alloc (Nat.le_refl _) (.cells #[.int .u8 (m.body.kind.toNat : Int)] 5)).block _ hg4).trans D4.out.2.1, D4.out.2.2.1.below (bl.alloc (Nat.le_refl _) _)⟩
    refine hK'.out _ _ ⟨D5.out.1.src, D5.out.2.1⟩ (fun _ => ?_)
    clear hK' K'
    try simp only [Act.put, l0, l1, l2]
    refine rd1 10 ⟨some 29, .call { callee := .builtin .append, args := #[.tmp 24, .tmp 28], argTypes := #[23, 23] }, _, _, _, none⟩ (by kernel_rfl) rfl fun K' hK' => ?_
    refine step_append_gb rfl (.tmp 24) (.tmp 28) rfl (w.heap.size + 1) n0 1 1 (.slice A0 n0 c0) (some ⟨w4.heap.size, 0, none⟩) ([byteOf m.origin] ++ depsB m.deps) [m.body.kind] rfl rfl (D5.out.2.2.1) (Pr := fun _ => True) (rd_byte rfl) sl_1 (by have := (D5.out.1).lt; omega) (by omega) ?_
    intro A6 c6 w6 H6 G6
    have D6 : Hid (RqAt w.heap.size w (msgC m) w6 /\ w6.heap[w3.heap.size]? = some (.map wrE 6)) := iq ⟨(D5.out.1).fresh (Nat.le_refl _) (D5.out.2.2.1) G6.out, (G6.out.block _ (by simp; omega) (fun e => by have := (D4.out.2.2.2) _ e.symm; omega)).trans (D5.out.2.1)⟩
    refine hK'.out _ _ ⟨D6.out.1.src, D6.out.2⟩ (fun _ => ?_)
    clear hK' K'
    try simp only [Act.put, l0, l1, l2]
    refine rd1 13 ⟨some 32, .call { callee := .value (.tmp 23), args := #[.tmp 29, .tmp 31], argTypes := #[23, 50] }, _, _, _, none⟩ (by kernel_rfl) rfl fun K' hK' => ?_
    go_simp
    refine (HP.out w6 (hq.below D6.out.1.bel) (w.heap.size + 1) (n0 + 1) c6 A6 _ ⟨H6.out.1, H6.out.2⟩ (by omega)).mono ?_
    rintro E w7 ⟨A7, n7, c7, rfl, H7, hb7⟩
    have O7 := iq H7
    clear H7
    have hgl : w3.heap.size < w6.heap.size := (Array.getElem?_eq_some_iff.1 D6.out.2).1
    have D7 : Hid (RqAt w.heap.size w (msgC m) w7 /\ w7.heap[w3.heap.size]? = some (.map wrE 6)) := iq ⟨D6.out.1.next (Nat.le_refl _) hb7.out, (hb7.out.block _ hgl).trans D6.out.2⟩
    refine hK'.out _ _ ⟨D7.out.1.src, D7.out.2⟩ (fun _ => ?_)
    clear hK' K'
    try simp only [Act.put, l0, l1, l2]
    refine tk 14 ⟨some 2, .assign (.tmp 32), _, _, _, none⟩ (.slice A7 n7 c7) rfl (by kernel_rfl) (fun _ _ _ => id) (⟨D7.out.1.src, D7.out.2⟩) (fun W hSW => by go_simp) ?_
    try simp only [pu, l0, l1, l2]
    refine wpAnyH_done (by kernel_rfl) ?_ _
    go_wp2_with fail
    go_ret
    exact ⟨_, _, _, rfl, by have := O7.out.low D6.out.1.bel.size; simpa [List.append_assoc] using this, iq D7.out.1.bel⟩
   ·go_simp
    have D4 : Hid (RqAt w.heap.size w (msgC m) (w3.alloc (.cells #[.int .u8 (m.body.kind.toNat : Int)] 5)) /\ Ow (w.heap.size + 1) (w3.alloc (.cells #[.int .u8 (m.body.kind.toNat : Int)] 5)) A0 n0 c0 ([byteOf m.origin] ++ depsB m.deps) /\ ∀ k, (Value.slice A0 n0 c0).ownBlock = some k -> k < w3.heap.size) := iq ⟨D3.out.1.next (Nat.le_refl _) (bl.alloc (Nat.le_refl _) _), D3.out.2.below (bl.alloc (Nat.le_refl _) _), fun k hk => (D3.out.2.1.lt k hk).2⟩
    refine hK'.out _ _ D4.out.1.src (fun _ => ?_)
    clear hK' K'
    try simp only [Act.put, l0, l1, l2]
    refine rd1 0 ⟨some 19, .call { callee := .value (.func 91), args := #[], argTypes := #[] }, _, _, _, none⟩ (by kernel_rfl) rfl fun K' hK' => ?_
    go_simp
    go_at_call 91
    refine (writers_ms (w3.alloc (.cells #[.int .u8 (m.body.kind.toNat : Int)] 5))).mono ?_
    rintro E w5 ⟨rfl, hmw5, hbw5⟩
    have D5 : Hid (RqAt w.heap.size w (msgC m) w5 /\ w5.heap[(w3.alloc (.cells #[.int .u8 (m.body.kind.toNat : Int)] 5)).heap.size]? = some (.map wrE 6) /\ Ow (w.heap.size + 1) w5 A0 n0 c0 ([byteOf m.origin] ++ depsB m.deps)) := iq ⟨D4.out.1.next (Nat.le_refl _) hbw5, hmw5, D4.out.2.1.below hbw5⟩
    have HN5 : Hid (∀ k, (Value.slice A0 n0 c0).ownBlock = some k -> k < (w3.alloc (.cells #[.int .u8 (m.body.kind.toNat : Int)] 5)).heap.size) := iq fun k hk => Nat.lt_of_lt_of_le (D4.out.2.2 k hk) (by simp)
    have HX5 : Hid (Rd (fun _ => True) w5 (some ⟨w3.heap.size, 0, none⟩) 1 [m.body.kind]) := iq ((rd_byte (w := w3) rfl).below hbw5 (fun b hb _ => hb))
    clear hmw5 hbw5
    refine hK'.out _ _ D5.out.1.src (fun _ => ?_)
    clear hK' K'
    try simp only [Act.put, l0, l1, l2]
    refine wpAnyH_mono (S' := fun W => W.rangeAt w.heap.size 0 (msgC m) /\ W.heap[((w3.alloc (.cells #[.int .u8 (m.body.kind.toNat : Int)] 5)).heap.size)]? = some (.map wrE 6)) (fun _ h => h.1) _ _ _ _ ?_
    refine tk 4 ⟨some 23, .lookup 137 (.tmp 19) (.tmp 22) false, _, _, _, none⟩ (.func (.func K) #[] #[]) rfl (by kernel_rfl) (fun _ _ _ => id) (⟨D5.out.1.src, D5.out.2.1⟩) (fun W hSW => exec_lookup rfl rfl rfl hSW.2 HK.out) ?_
    try simp only [Act.put, l0, l1, l2]
    refine rd1 10 ⟨some 29, .call { callee := .builtin .append, args := #[.tmp 24, .tmp 28], argTypes := #[23, 23] }, _, _, _, none⟩ (by kernel_rfl) rfl fun K' hK' => ?_
    refine step_append_gb rfl (.tmp 24) (.tmp 28) rfl (w.heap.size + 1) n0 1 1 (.slice A0 n0 c0) (some ⟨w3.heap.size, 0, none⟩) ([byteOf m.origin] ++ depsB m.deps) [m.body.kind] rfl rfl (D5.out.2.2.1) (Pr := fun _ => True) (HX5.out) sl_1 (by have := (D5.out.1).lt; omega) (by omega) ?_
    intro A6 c6 w6 H6 G6
    have D6 : Hid (RqAt w.heap.size w (msgC m) w6 /\ w6.heap[((w3.alloc (.cells #[.int .u8 (m.body.kind.toNat : Int)] 5)).heap.size)]? = some (.map wrE 6)) := iq ⟨(D5.out.1).fresh (Nat.le_refl _) (D5.out.2.2.1) G6.out, (G6.out.block _ ((Array.getElem?_eq_some_iff.1 D5.out.2.1).1) (fun e => by have := (HN5.out) _ e.symm; omega)).trans (D5.out.2.1)⟩
    refine hK'.out _ _ ⟨D6.out.1.src, D6.out.2⟩ (fun _ => ?_)
    clear hK' K'
    try simp only [Act.put, l0, l1, l2]
    refine rd1 13 ⟨some 32, .call { callee := .value (.tmp 23), args := #[.tmp 29, .tmp 31], argTypes := #[23, 50] }, _, _, _, none⟩ (by kernel_rfl) rfl fun K' hK' => ?_
    go_simp
    refine (HP.out w6 (hq.below D6.out.1.bel) (w.heap.size + 1) (n0 + 1) c6 A6 _ ⟨H6.out.1, H6.out.2⟩ (by omega)).mono ?_
    rintro E w7 ⟨A7, n7, c7, rfl, H7, hb7⟩
    have O7 := iq H7
    clear H7
    have hgl : ((w3.alloc (.cells #[.int .u8 (m.body.kind.toNat : Int)] 5)).heap.size) < w6.heap.size := (Array.getElem?_eq_some_iff.1 D6.out.2).1
    have D7 : Hid (RqAt w.heap.size w (msgC m) w7 /\ w7.heap[((w3.alloc (.cells #[.int .u8 (m.body.kind.toNat : Int)] 5)).heap.size)]? = some (.map wrE 6)) := iq ⟨D6.out.1.next (Nat.le_refl _) hb7.out, (hb7.out.block _ hgl).trans D6.out.2⟩
    refine hK'.out _ _ ⟨D7.out.1.src, D7.out.2⟩ (fun _ => ?_)
    clear hK' K'
    try simp only [Act.put, l0, l1, l2]
    refine tk 14 ⟨some 2, .assign (.tmp 32), _, _, _, none⟩ (.slice A7 n7 c7) rfl (by kernel_rfl) (fun _ _ _ => id) (⟨D7.out.1.src, D7.out.2⟩) (fun W hSW => by go_simp) ?_
    try simp only [pu, l0, l1, l2]
    refine wpAnyH_done (by kernel_rfl) ?_ _
    go_wp2_with fail
    go_ret
    exact ⟨_, _, _, rfl, by have := O7.out.low D6.out.1.bel.size; simpa [List.append_assoc] using this, iq D7.out.1.bel⟩
theorem prsGo_all : ∀ (qs : List (Int × Nat)) (last : Int), prsGo last qs = true -> (∀ p ∈ qs, 1 <= p.1 /\ p.1 <= 11 /\ 1 <= p.2 /\ p.2 <= 65536) /\ (0 <= last -> last <= 11 -> (qs.length : Int) <= 11 - last)
 | [], last, _ => ⟨(fun p hp => by cases hp), fun _ h => by simp; omega⟩
 | p :: r, last, h => by
  simp only [prsGo, Bool.and_eq_true, decide_eq_true_eq, isRepl, isNum] at h
  obtain ⟨h1, h2, h3, h4⟩ := h
  have ih := prsGo_all r p.1 h4
  refine ⟨fun q hq => ?_, fun h0 h5 => ?_⟩
  ·rcases List.mem_cons.1 hq with rfl | hq
   ·exact ⟨h2.1, h2.2, h3.1, h3.2⟩
   ·exact ih.1 q hq
  ·have := ih.2 (by omega) (by omega)
   simp only [List.length_cons]
   omega
theorem prs_all {qs : List (Int × Nat)} (h : prsMay qs = true) : (∀ p ∈ qs, 1 <= p.1 /\ p.1 <= 11 /\ 1 <= p.2 /\ p.2 <= 65536) /\ qs.length <= 11 := by
 simp only [prsMay, Bool.and_eq_true] at h
 have := prsGo_all qs 0 h.1
 exact ⟨this.1, by have := this.2 (by omega) (by omega); omega⟩
theorem kinds_of {x : MBody} (h : kindMay x = true) : x.kind = 1 /\ reqMay x.req = true \/ x.kind = 2 \/ x.kind = 3 \/ x.kind = 5 \/ x.kind = 4 /\ prsMay x.qs = true \/ x.kind = 6 := by
 unfold kindMay at h
 split at h
 ·next e => exact .inl ⟨e, h⟩
 split at h
 ·next e => exact .inr (.inl e)
 split at h
 ·next e => rcases e with e | e <;> simp [e]
 split at h
 ·next e =>
  rw [Bool.and_eq_true] at h
  exact .inr (.inr (.inr (.inr (.inl ⟨e, h.2⟩))))
 split at h
 ·next e => simp [e]
 ·cases h
theorem tagged_ms (m : MMsg) (w : World) (hm : m.Wf) (hq : Prs w m.body.qa m.body.qs) (hmay : m.may) :
  Calls Tryz.prog 69 #[.agg (msgC m).toArray] w fun E w' => ∃ A' n' c', E = .returned (.slice A' n' c') /\ Ow w.heap.size w' A' n' c' (msgB m) /\ Hid (Below w.heap.size w w') := by
 obtain ⟨ho, _, hk, _⟩ := hmay
 have hb : m.body.Wf := hm.2.1
 rcases kinds_of hk with ⟨e, hr⟩ | e | e | e | ⟨e, hp⟩ | e
 ·have hz : bodyB m.body = be 8 m.body.view ++ (reqB m.body.req ++ m.body.req.tag) := by simp [bodyB, e]
  rw [msgB, hz]
  exact tagged_k 104 (fun _ _ => by kernel_rfl) m 0 _ hm ho (by rw [e]; kernel_rfl) (fun W _ B n c A bs h hn => putPrepare_ms m.body hb hr B n c W A bs h hn) w hq
 ·have hz : bodyB m.body = be 8 m.body.view ++ be 8 m.body.k := by simp [bodyB, e]
  rw [msgB, hz]
  exact tagged_k 105 (fun _ _ => by kernel_rfl) m 1 _ hm ho (by rw [e]; kernel_rfl) (fun W _ B n c A bs h hn => putCommit_ms m.body hb B n c W A bs h hn) w hq
 ·have hz : bodyB m.body = be 8 m.body.view := by simp [bodyB, e]
  rw [msgB, hz]
  exact tagged_k 106 (fun _ _ => by kernel_rfl) m 2 _ hm ho (by rw [e]; kernel_rfl) (fun W _ B n c A bs h hn => putView_ms m.body hb B n c W A bs h hn) w hq
 ·have hz : bodyB m.body = be 8 m.body.view := by simp [bodyB, e]
  rw [msgB, hz]
  exact tagged_k 106 (fun _ _ => by kernel_rfl) m 4 _ hm ho (by rw [e]; kernel_rfl) (fun W _ B n c A bs h hn => putView_ms m.body hb B n c W A bs h hn) w hq
 ·have hz : bodyB m.body = be 8 m.body.view ++ (byteOf (m.body.qs.length : Int) :: pairsB m.body.qs) := by simp [bodyB, e]
  rw [msgB, hz]
  have ha := prs_all hp
  exact tagged_k 107 (fun _ _ => by kernel_rfl) m 3 _ hm ho (by rw [e]; kernel_rfl) (fun W hqW B n c A bs h hn => putNewView_ms m.body hb ha.2 (fun p hp => ⟨(ha.1 p hp).1, (ha.1 p hp).2.1⟩) B n c W A bs h hn hqW) w hq
 ·have hz : bodyB m.body = be 8 m.body.k ++ m.body.dig := by simp [bodyB, e]
  rw [msgB, hz]
  exact tagged_k 108 (fun _ _ => by kernel_rfl) m 5 _ hm ho (by rw [e]; kernel_rfl) (fun W _ B n c A bs h hn => putCheck_ms m.body hb B n c W A bs h hn) w hq
open Go.RowKit
theorem depsB_len (l : List Nat) : (depsB l).length = 8 * l.length := by
 induction l with
 | nil => rfl
 | cons a t ih => rw [depsB, List.flatMap_cons, List.length_append, be_length]; rw [depsB] at ih; rw [ih, List.length_cons]; omega
theorem pairsB_len (l : List (Int × Nat)) : (pairsB l).length = 9 * l.length := by
 induction l with
 | nil => rfl
 | cons a t ih => rw [pairsB, List.flatMap_cons, List.length_append, pairB_len]; rw [pairsB] at ih; rw [ih, List.length_cons]; omega
theorem bodyB_len {x : MBody} (hx : x.Wf) (h : kindMay x = true) : (bodyB x).length <= 500 := by
 rcases kinds_of h with ⟨e, hr⟩ | e | e | e | ⟨e, hp⟩ | e
 ·have := reqB_len hr
  simp [bodyB, e, be_length, hx.1]
  omega
 ·simp [bodyB, e, be_length]
 ·simp [bodyB, e, be_length]
 ·simp [bodyB, e, be_length]
 ·have := (prs_all hp).2
  simp [bodyB, e, be_length, pairsB_len]
  omega
 ·simp [bodyB, e, be_length, hx.2]
theorem msgB_len {m : MMsg} (hm : m.Wf) (h : m.may) : (msgB m).length <= 700 := by
 have := bodyB_len hm.2.1 h.2.2.1
 simp only [msgB, List.length_cons, List.length_append, depsB_len, hm.1]
 omega
end Go.Proofs.YtllbbcifcbkgeaaGreatDoor.Sh
