/-
  What is proved: a message of memory of its own; a new lore. Conditions as stated.
-/
import Derived.Test.YtgdcnakcjomllaaDoorF7p
namespace Go.Proofs.YtgdcnakcjomllaaDoor.Sh
open Go.RowKit
set_option maxRecDepth 100000

/-- The same message, its pairs elsewhere. -/
def MMsg.at (m : MMsg) (A : Option Addr) (c : Nat) : MMsg := { m with body := { m.body with qa := A, qc := c } }
theorem MMsg.at_wf {m : MMsg} (h : m.Wf) (A : Option Addr) (c : Nat) : (m.at A c).Wf := h
def qT (m : MMsg) : Thing := ⟨fun W => Prs W m.body.qa m.body.qs, m.onQ⟩
theorem qT_ok (m : MMsg) : (qT m).Ok := ⟨fun _ _ h hk => prs_kept h hk, fun _ h _ hk => prs_lt h hk⟩
theorem msgC_set (m : MMsg) (h : m.Wf) (A : Option Addr) (c : Nat) : (msgC m).set 56 (.slice A m.body.qs.length c) = msgC (m.at A c) := by
  have e : msgC m = (.int .i64 m.origin :: .int .u64 (m.number : Int) :: (u64s m.deps ++ (.int .u8 (m.body.kind.toNat : Int) :: .int .u64 (m.body.view : Int) :: .int .u64 (m.body.k : Int) :: reqC m.body.req))) ++ m.body.qv :: (u8s m.body.dig ++ u8s m.tag) := by simp [msgC, bodyC]
  rw [e, set_mid _ _ _ _ (by simp [u64s_length, h.1, reqC_length h.2.1.1])]
  simp [msgC, bodyC, MMsg.at, MBody.qv]
theorem msgC_q (m : MMsg) (h : m.Wf) : (msgC m)[56]? = some m.body.qv := by
  have e : msgC m = (.int .i64 m.origin :: .int .u64 (m.number : Int) :: (u64s m.deps ++ (.int .u8 (m.body.kind.toNat : Int) :: .int .u64 (m.body.view : Int) :: .int .u64 (m.body.k : Int) :: reqC m.body.req))) ++ m.body.qv :: (u8s m.body.dig ++ u8s m.tag) := by simp [msgC, bodyC]
  rw [e, List.getElem?_append_right (by simp [u64s_length, h.1, reqC_length h.2.1.1])]
  simp [u64s_length, h.1, reqC_length h.2.1.1]
theorem zeroMsg_wf : zeroMsg.Wf := ⟨rfl, zero_wf, rfl⟩
theorem info_msg {m : MMsg} (h : m.Wf) : (Tryd.prog.info? 34).map (·.size) = some (msgC m).length := by rw [msgC_length h]; exact Tryd.is34
set_option maxHeartbeats 4000000 in
theorem own_any (m : MMsg) (w : World) (hm : m.Wf) (hq : Prs w m.body.qa m.body.qs) (hn : m.body.qs.length ≤ 1000000) (hk : KIs w) (h0 : 0 < w.heap.size) :
    Calls Tryd.prog 15 #[.agg (msgC m).toArray] w fun E w' => ∃ A c, E = .returned (.agg (msgC (m.at A c)).toArray) ∧ Prs w' A m.body.qs ∧ (∀ g, (m.at A c).onQ g → w.heap.size ≤ g) ∧ Below w.heap.size w w' := by
  have hz := zero_msg
  have hzn : ¬ (msgC zeroMsg = []) := fun h => by have := msgC_length zeroMsg_wf; rw [h] at this; cases this
  have hzl := msgC_length zeroMsg_wf
  have H0 : Fr w ((w.alloc (.cells (msgC m).toArray 34)).alloc (.cells (msgC zeroMsg).toArray 34)) [blkT (w.heap.size + 1) (msgC zeroMsg).toArray 34, blkT w.heap.size (msgC m).toArray 34] := ((Fr.start hk h0).box (msgC m).toArray 34).box' (k := w.heap.size + 1) (by simp) (msgC zeroMsg).toArray 34
  obtain ⟨q, hq0⟩ : ∃ q, q = m.body.qs.length := ⟨_, rfl⟩
  have HC := Lib.hid (clone_pairs m.body.qa m.body.qc m.body.qs _ (hq.below (H0.bel.mono (Nat.le_refl _))) hn)
  have c0 : ((w.alloc (.cells (msgC m).toArray 34)).alloc (.cells (msgC zeroMsg).toArray 34)).cell? ⟨w.heap.size, 56, none⟩ = some (.slice m.body.qa q m.body.qc) := block_cell H0.hd2 56 _ (by rw [msgC_q m hm, hq0]; rfl)
  rw [← hq0] at HC
  have HQ := Lib.hid hq0
  have HM := Lib.hid hm
  have HI := Lib.hid (fun A c => info_msg (MMsg.at_wf hm A c))
  have HO := Lib.hid (fun A c => one_msgC (m.at A c))
  have HL := Lib.hid (fun A c => msgC_length (MMsg.at_wf hm A c))
  have HSt := Lib.hid (fun A c => msgC_set m hm A c)
  rw [← hq0] at HSt
  have H0 := Lib.hid H0
  obtain ⟨Z, hZ⟩ : ∃ Z, Z = msgC zeroMsg := ⟨_, rfl⟩
  rw [← hZ] at hz hzn hzl HC H0 c0
  have HZl := Lib.hid hzl
  clear hq0 hm hk h0 hq hn hZ
  go_enter Tryd.func15, Tryd.ntmps15
  go_wp2_with (go_at_call 25; refine HC.out.mono ?_)
  rintro E w2 ⟨A', c', rfl, hp, hb⟩
  have HP := Lib.hid hp.1
  have HPb : Hid (∀ g, (m.at A' c').onQ g → w.heap.size + 2 ≤ g) := Lib.hid fun g hg => by obtain ⟨h1, o, e⟩ := hg; have := hp.2 g o h1 e; simpa using this
  have H2 : Hid (Fr w w2 [qT (m.at A' c'), blkT (w.heap.size + 1) Z.toArray 34, blkT w.heap.size (msgC m).toArray 34]) := Lib.hid (H0.out.add hb HP.out (qT_ok _) fun k hk => by have := HPb.out k hk; simpa using this)
  clear hp hb H0 HC c0
  have c1 : w2.cell? ⟨w.heap.size, 56, none⟩ = some (.slice m.body.qa q m.body.qc) := block_cell H2.out.hd3 56 _ (by rw [msgC_q m HM.out, HQ.out]; rfl)
  have f1 : w2.frozen? ⟨w.heap.size, 56, none⟩ = false := free_block H2.out.hd3 56
  have H3 : Hid (Fr w (w2.setCell ⟨w.heap.size, 56, none⟩ (.slice A' q c')) [blkT w.heap.size (msgC (m.at A' c')).toArray 34, qT (m.at A' c'), blkT (w.heap.size + 1) Z.toArray 34]) := Lib.hid (by have := (H2.out.third).set 56 (.slice A' q c'); rw [HSt.out] at this; exact this)
  clear H2
  have HLE : Hid (0 + (msgC (m.at A' c')).length ≤ Z.length ∧ setAll Z 0 (msgC (m.at A' c')) = msgC (m.at A' c')) := Lib.hid ⟨by rw [HL.out, HZl.out]; omega, setAll_all (by rw [HL.out, HZl.out])⟩
  have HD := Lib.hid (HI.out A' c')
  have HDo := Lib.hid (HO.out A' c')
  obtain ⟨D, hD⟩ : ∃ D, D = msgC (m.at A' c') := ⟨_, rfl⟩
  rw [← hD] at H3 HLE HD HDo
  have HDD := Lib.hid hD
  clear hD HI HO HL HSt
  go_wp2_with (first | ((with_reducible refine wpList_load_midG ?_ 34 (.tmp 1) ?_ w.heap.size 0 ?_ D _ ?_ Tryd.underlying34 ?_ ?_ ?_); rotate_left; (· rfl); (· rfl); (· exact range_of H3.out.hd); (· rfl); (· exact HD.out); rotate_left; (· rfl)) | (refine wpList_store_part rfl 34 (.tmp 2) (.tmp 9) rfl (w.heap.size + 1) 0 Z D D 34 H3.out.hd3 HLE.out.1 HLE.out.2 rfl rfl HD.out HDo.out ?_; intro w9 G9))
  have H9 : Hid (Fr w w9 [blkT (w.heap.size + 1) D.toArray 34, blkT w.heap.size D.toArray 34, qT (m.at A' c')]) := Lib.hid ((H3.out.third).turn (own_grown G9.out.2 rfl) G9.out.1 (blkT_ok _ _ _))
  refine bodyPost_ret (ret_range (cs := D) rfl rfl (range_of G9.out.1) Tryd.underlying34 rfl HD.out) rfl ⟨A', c', by rw [HDD.out], H9.out.hd3, fun g hg => Nat.le_trans (Nat.le_add_right _ 2) (HPb.out g hg), H9.out.bel⟩

/-! ### a new lore -/
def isN (n : Int) : Bool := decide (3 ≤ n ∧ n ≤ 11 ∧ ¬ n % 2 = 0)
theorem lore_new {W : World} (n : Nat) (hn : n ≤ 11) : LoreAt (W.alloc (.cells (loC n (fun _ => none) (fun _ => 0) []).toArray 53)) W.heap.size n (fun _ => none) (fun _ => 0) [] :=
  ⟨heap_alloc_new W _, fun _ _ => World.ownsRow_nil _ _ _ _, fun _ h => (by cases h), fun _ _ _ _ _ h => (by cases h), fun _ _ _ h => (by cases h), fun _ h => (by cases h), hn, Nat.zero_le _⟩
theorem lnew_any (n : Int) (hn : isN n = true) (w : World) :
    Calls Tryd.prog 12 #[.int .i64 n] w fun E w' => ∃ b, E = .returned (.tuple #[.pointer (some ⟨b, 0, none⟩), .int .i64 0]) ∧ LoreAt w' b n.toNat (fun _ => none) (fun _ => 0) [] ∧ w.heap.size ≤ b ∧ Below w.heap.size w w' := by
  have h := of_decide_eq_true hn
  obtain ⟨k, rfl⟩ : ∃ k : Nat, n = (k : Int) := ⟨n.toNat, by omega⟩
  have HL := Lib.hid (lore_new (W := w) k (by omega))
  have h1 : ¬ ((k : Int) < 3) := by omega
  have h2 : ¬ ((k : Int) > 11) := by omega
  have h3 : ¬ ((k : Int) % 2 = 0) := by omega
  have h4 : ¬ (Int.tmod (k : Int) 2 = 0) := by rw [Int.tmod_eq_emod_of_nonneg (by omega)]; exact h3
  have hb : ∀ W, (Instr.build 53 #[(0, .int .i64 (k : Int))]).run Tryd.prog W = .ok (.agg (loC k (fun _ => none) (fun _ => 0) []).toArray) W := fun W => by kernel_rfl
  have hcn : ¬ ((loC k (fun _ => none) (fun _ => 0) []) = []) := by simp [loC]
  obtain ⟨C, hC⟩ : ∃ C, C = loC k (fun _ => none) (fun _ => 0) [] := ⟨_, rfl⟩
  rw [← hC] at hb hcn
  clear h hn hC
  go_enter Tryd.func12, Tryd.ntmps12
  go_wp2_with fail
  refine bodyPost_ret (results_tmp2 rfl _ _ _) rfl ?_
  exact ⟨w.heap.size, rfl, HL.out, Nat.le_refl _, (Below.refl _ _).alloc (Nat.le_refl _) _⟩
theorem new_two (w : World) : Calls Tryd.prog 12 #[.int .i64 2] w fun E w' => E = .returned (.tuple #[.pointer none, .int .i64 1]) ∧ w = w' := by
  go_enter Tryd.func12, Tryd.ntmps12
  go_wp2
  refine bodyPost_ret (results_tmp2 rfl _ _ _) rfl ?_
  exact ⟨rfl, rfl⟩
end Go.Proofs.YtgdcnakcjomllaaDoor.Sh
