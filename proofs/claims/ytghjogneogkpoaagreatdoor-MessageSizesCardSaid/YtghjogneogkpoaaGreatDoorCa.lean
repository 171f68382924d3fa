/-
  What is proved: what a cut is read as: a view, a Commit. Conditions as stated.
-/
import Derived.Test.YtghjogneogkpoaaGreatDoorMt
import Derived.Test.YtghjogneogkpoaaGreatDoorKt
namespace Go.Proofs.YtghjogneogkpoaaGreatDoor.Sh
open Go.RowKit
set_option maxRecDepth 100000


open Oct in
/-- What is left to cut, and whether it is spoilt. -/
abbrev Cst := List UInt8 × Bool
def cWord (s : Cst) : Nat × Cst := (Oct.num (Oct.tkOut s.1 s.2 8), (Oct.tkRem s.1 s.2 8, !Oct.fits s.1 s.2 8))
def cByte (s : Cst) : Nat × Cst := (Oct.num (Oct.tkOut s.1 s.2 1), (Oct.tkRem s.1 s.2 1, !Oct.fits s.1 s.2 1))
def cRaw (k : Nat) (s : Cst) : List UInt8 × Cst := (Oct.tkOut s.1 s.2 (k : Int), (Oct.tkRem s.1 s.2 (k : Int), !Oct.fits s.1 s.2 (k : Int)))
/-- Block g is a cut in this state. -/
def CtS (w : World) (lo g : Nat) (s : Cst) : Prop := Oct.CutAt w lo g s.1 s.2
theorem CtS.lt {w : World} {lo g : Nat} {s : Cst} (h : CtS w lo g s) : g < w.heap.size := Oct.CutAt.lt h
theorem CtS.below {w w' : World} {lo g : Nat} {s : Cst} (h : CtS w lo g s) (hb : Below w.heap.size w w') : CtS w' lo g s := Oct.CutAt.below h hb
theorem word_s {w : World} {lo g : Nat} {s : Cst} (h : CtS w lo g s) : Calls Tryz.prog 44 #[.pointer (some ⟨g, 0, none⟩)] w fun E w' => E = .returned (.int .u64 ((cWord s).1 : Int)) ∧ CtS w' lo g (cWord s).2 ∧ Hid (w.grownBy w' (some g)) := Oct.word_cut g s.1 s.2 w h
theorem byte_s {w : World} {lo g : Nat} {s : Cst} (h : CtS w lo g s) : Calls Tryz.prog 75 #[.pointer (some ⟨g, 0, none⟩)] w fun E w' => E = .returned (.int .u8 ((cByte s).1 : Int)) ∧ CtS w' lo g (cByte s).2 ∧ Hid (w.grownBy w' (some g)) := Oct.byte_cut g s.1 s.2 w h
/-- What is turned beside the block g is new. -/
theorem gb_new {w w1 w2 : World} {g r : Nat} (h1 : w.grownBy w1 (some g)) (h2 : w1.grownBy w2 (some r)) (hr : w.heap.size ≤ r) : w.grownBy w2 (some g) :=
  ⟨h2.os.trans h1.os, h2.tape.trans h1.tape, h2.output.trans h1.output, Nat.le_trans h1.size h2.size, fun k hk hne => (h2.block k (Nat.lt_of_lt_of_le hk h1.size) (fun e => by injection e with e; omega)).trans (h1.block k hk hne)⟩
theorem CtS.far {w w' : World} {lo g r : Nat} {s : Cst} (h : CtS w lo g s) (hg : w.grownBy w' (some r)) (hr : g < r) : CtS w' lo g s := by
  obtain ⟨A, n, c, at_, all, h1, h2, h3, h4, h5, h6, h7⟩ := h
  refine ⟨A, n, c, at_, all, (hg.block g (Array.getElem?_eq_some_iff.1 h1).1 (fun e => by injection e with e; omega)).trans h1, ⟨h2.1, fun hn => ?_⟩, h3, h4, h5, h6, h7⟩
  obtain ⟨b, o, e, hb, hc⟩ := h2.2 hn
  have hb2 : b < g := (h7 _ e).2
  exact ⟨b, o, e, Nat.lt_of_lt_of_le hb hg.size, fun j u hu => hg.cell (hc j u hu) (fun e => absurd (show b = r by simpa using e) (by omega))⟩
/-- What cuts bodies. -/
def Cuts (f : Nat) (rd : Cst → MBody × Cst) : Prop :=
  ∀ (w : World) (lo g : Nat) (s : Cst), CtS w lo g s → Calls Tryz.prog f #[.pointer (some ⟨g, 0, none⟩)] w fun E w' => E = .returned (.agg (bodyC (rd s).1).toArray) ∧ CtS w' lo g (rd s).2 ∧ Hid (w.grownBy w' (some g))
def rdView (s : Cst) : MBody × Cst := ({ zeroBody with view := (cWord s).1 }, (cWord s).2)
def rdCommit (s : Cst) : MBody × Cst := ({ zeroBody with view := (cWord s).1, k := (cWord (cWord s).2).1 }, (cWord (cWord s).2).2)
theorem len_ok {o : MBody} (h : o.Wf) : 0 + (bodyC o).length ≤ (bodyC zeroBody).length ∧ setAll (bodyC zeroBody) 0 (bodyC o) = bodyC o ∧ (Tryz.prog.info? 32).map (·.size) = some (bodyC o).length :=
  ⟨by rw [bodyC_length zero_wf, bodyC_length h]; omega, setAll_all (by rw [bodyC_length zero_wf, bodyC_length h]), by rw [bodyC_length h]; exact Tryz.is32⟩
set_option maxHeartbeats 2000000 in
theorem cutView_ms : Cuts 104 rdView := by
  intro w lo g s h
  have HZ : Hid ((w.alloc (.cells (bodyC zeroBody).toArray 32)).heap[w.heap.size]? = some (.cells (bodyC zeroBody).toArray 32 (0, 0))) := Lib.hid (heap_alloc_new w _)
  have HG := Lib.hid h.lt
  have HC := Lib.hid (h.below ((Below.refl _ _).alloc (Nat.le_refl _) (.cells (bodyC zeroBody).toArray 32)))
  have hz : ∀ w, (zeroValue 32).run Tryz.prog w = .ok (.agg (bodyC zeroBody).toArray) w := zero_body
  have HO := Lib.hid (len_ok (o := { zeroBody with view := (cWord s).1 }) ⟨rfl, rfl⟩)
  have HR : Hid (rdView s = ({ zeroBody with view := (cWord s).1 }, (cWord s).2)) := Lib.hid rfl
  have HW : Hid (Calls Tryz.prog 44 #[.pointer (some ⟨g, 0, none⟩)] (w.alloc (.cells (bodyC zeroBody).toArray 32)) fun E w' => E = .returned (.int .u64 ((cWord s).1 : Int)) ∧ CtS w' lo g (cWord s).2 ∧ Hid ((w.alloc (.cells (bodyC zeroBody).toArray 32)).grownBy w' (some g))) := Lib.hid (word_s HC.out)
  rw [HR.out]
  dsimp only
  generalize (cWord s).1 = n at HO HW ⊢
  generalize (cWord s).2 = s2 at HW ⊢
  clear h HR HC
  go_enter Tryz.func104, Tryz.ntmps104
  go_wp2_with (first | (go_at_call 44; refine HW.out.mono ?_; rintro E w1 ⟨rfl, hc1, hg1⟩; have C1 := Lib.hid hc1; clear hc1; have HZ1 : Hid (w1.heap[w.heap.size]? = some (.cells (bodyC zeroBody).toArray 32 (0, 0))) := Lib.hid ((hg1.out.block _ (by simp) (fun e => by injection e with e; have := HG.out; omega)).trans HZ.out)) | (refine wpList_store_part rfl 32 (.tmp 2) (.tmp 5) rfl w.heap.size 0 (bodyC zeroBody) (bodyC { zeroBody with view := n }) (bodyC { zeroBody with view := n }) 32 HZ1.out HO.out.1 HO.out.2.1 rfl rfl HO.out.2.2 (one_bodyC _) ?_; intro w2 G2))
  exact bodyPost_ret (ret_range (cs := bodyC { zeroBody with view := n }) rfl rfl (range_of G2.out.1) Tryz.underlying32 rfl HO.out.2.2) rfl ⟨rfl, C1.out.far G2.out.2 HG.out, Lib.hid (gb_new (gb_trans (World.grownBy_alloc w _ _) hg1.out) G2.out.2 (Nat.le_refl _))⟩
set_option maxHeartbeats 2000000 in
theorem cutCommit_ms : Cuts 103 rdCommit := by
  intro w lo g s h
  have HZ : Hid ((w.alloc (.cells (bodyC zeroBody).toArray 32)).heap[w.heap.size]? = some (.cells (bodyC zeroBody).toArray 32 (0, 0))) := Lib.hid (heap_alloc_new w _)
  have HG := Lib.hid h.lt
  have HC := Lib.hid (h.below ((Below.refl _ _).alloc (Nat.le_refl _) (.cells (bodyC zeroBody).toArray 32)))
  have hz : ∀ w, (zeroValue 32).run Tryz.prog w = .ok (.agg (bodyC zeroBody).toArray) w := zero_body
  have HV : Hid (Calls Tryz.prog 104 #[.pointer (some ⟨g, 0, none⟩)] (w.alloc (.cells (bodyC zeroBody).toArray 32)) fun E w' => E = .returned (.agg (bodyC { zeroBody with view := (cWord s).1 }).toArray) ∧ CtS w' lo g (cWord s).2 ∧ Hid ((w.alloc (.cells (bodyC zeroBody).toArray 32)).grownBy w' (some g))) := Lib.hid (cutView_ms _ lo g s HC.out)
  have HR : Hid (rdCommit s = ({ zeroBody with view := (cWord s).1, k := (cWord (cWord s).2).1 }, (cWord (cWord s).2).2)) := Lib.hid rfl
  rw [HR.out]
  dsimp only
  generalize (cWord s).1 = n at HV ⊢
  generalize (cWord s).2 = s2 at HV ⊢
  have HW : Hid (∀ w, CtS w lo g s2 → Calls Tryz.prog 44 #[.pointer (some ⟨g, 0, none⟩)] w fun E w' => E = .returned (.int .u64 ((cWord s2).1 : Int)) ∧ CtS w' lo g (cWord s2).2 ∧ Hid (w.grownBy w' (some g))) := Lib.hid fun w h => word_s h
  generalize (cWord s2).1 = k at HW ⊢
  generalize (cWord s2).2 = s3 at HW ⊢
  have HO := Lib.hid (len_ok (o := { zeroBody with view := n }) ⟨rfl, rfl⟩)
  have HP := Lib.hid (len_ok (o := { zeroBody with view := n, k := k }) ⟨rfl, rfl⟩)
  clear h HR HC
  go_enter Tryz.func103, Tryz.ntmps103
  go_wp2_with (first | (go_at_call 104; refine HV.out.mono ?_; rintro E w1 ⟨rfl, hc1, hg1⟩; have C1 := Lib.hid (CtS.below hc1 ((Below.refl _ _).alloc (Nat.le_refl _) (.cells (bodyC zeroBody).toArray 32))); clear hc1; have HZ1 : Hid (w1.heap[w.heap.size]? = some (.cells (bodyC zeroBody).toArray 32 (0, 0)) ∧ w.heap.size < w1.heap.size) := Lib.hid ⟨(hg1.out.block _ (by simp) (fun e => by injection e with e; have := HG.out; omega)).trans HZ.out, Nat.lt_of_lt_of_le (by simp) hg1.out.size⟩; have HN1 : Hid ((w1.alloc (.cells (bodyC zeroBody).toArray 32)).heap[w1.heap.size]? = some (.cells (bodyC zeroBody).toArray 32 (0, 0))) := Lib.hid (heap_alloc_new w1 _)) | (refine wpList_store_part rfl 32 (.tmp 3) (.tmp 5) rfl w1.heap.size 0 (bodyC zeroBody) (bodyC { zeroBody with view := n }) (bodyC { zeroBody with view := n }) 32 HN1.out HO.out.1 HO.out.2.1 rfl rfl HO.out.2.2 (one_bodyC _) ?_; intro w2 G2; have C2 : Hid (CtS w2 lo g s2) := Lib.hid (C1.out.far G2.out.2 (by have := HG.out; have := HZ1.out.2; omega)); have A2 : Hid (w.grownBy w2 (some g)) := Lib.hid (gb_new (gb_new (gb_trans (World.grownBy_alloc w _ _) hg1.out) (World.grownBy_alloc w1 _ (some w.heap.size)) (Nat.le_refl _)) G2.out.2 (by have := HZ1.out.2; omega)); have HZ2 : Hid (w2.heap[w.heap.size]? = some (.cells (bodyC zeroBody).toArray 32 (0, 0))) := Lib.hid ((G2.out.2.block _ (by have := HZ1.out.2; simp; omega) (fun e => by injection e with e; have := HZ1.out.2; omega)).trans ((((Below.refl w1.heap.size w1).alloc (Nat.le_refl _) (.cells (bodyC zeroBody).toArray 32)).block _ HZ1.out.2).trans HZ1.out.1))) | (go_at_call 44; refine (HW.out _ C2.out).mono ?_; rintro E w3 ⟨rfl, hc3, hg3⟩; have C3 := Lib.hid hc3; clear hc3; have L2 : Hid (w1.heap.size < w2.heap.size ∧ g < w1.heap.size ∧ w.heap.size < w1.heap.size) := Lib.hid ⟨(Array.getElem?_eq_some_iff.1 G2.out.1).1, by have := HG.out; have := HZ1.out.2; omega, HZ1.out.2⟩; have HN3 : Hid (w3.heap[w1.heap.size]? = some (.cells (bodyC { zeroBody with view := n }).toArray 32 (0, 0))) := Lib.hid ((hg3.out.block _ L2.out.1 (fun e => by injection e with e; have := L2.out; omega)).trans G2.out.1); have HZ3 : Hid (w3.heap[w.heap.size]? = some (.cells (bodyC zeroBody).toArray 32 (0, 0))) := Lib.hid ((hg3.out.block _ (by have := L2.out; omega) (fun e => by injection e with e; have := HG.out; omega)).trans HZ2.out); have z2 : w3.cell? ⟨w1.heap.size, 2, none⟩ = some (.int .u64 0) := range_of HN3.out 2 _ rfl; have hf := fun k => free_block HN3.out k; have HM4 : Hid ((w3.setCell ⟨w1.heap.size, 2, none⟩ (.int .u64 (k : Int))).heap[w1.heap.size]? = some (.cells (bodyC { zeroBody with view := n, k := k }).toArray 32 (0, 0))) := Lib.hid (heap_set HN3.out _); have HZ4 : Hid ((w3.setCell ⟨w1.heap.size, 2, none⟩ (.int .u64 (k : Int))).heap[w.heap.size]? = some (.cells (bodyC zeroBody).toArray 32 (0, 0))) := Lib.hid (((gb_set w3 w1.heap.size 2 (.int .u64 (k : Int))).block _ (by have := L2.out; have := hg3.out.size; omega) (fun e => by injection e with e; have := L2.out; omega)).trans HZ3.out); have A4 : Hid (w.grownBy (w3.setCell ⟨w1.heap.size, 2, none⟩ (.int .u64 (k : Int))) (some g)) := Lib.hid (gb_new (gb_trans A2.out hg3.out) (gb_set w3 w1.heap.size 2 (.int .u64 (k : Int))) (by have := L2.out; omega)); have C4 : Hid (CtS (w3.setCell ⟨w1.heap.size, 2, none⟩ (.int .u64 (k : Int))) lo g s3) := Lib.hid (C3.out.far (gb_set w3 w1.heap.size 2 (.int .u64 (k : Int))) (by have := L2.out; omega))) | ((with_reducible refine wpList_load_midG ?_ 32 (.tmp 3) ?_ w1.heap.size 0 ?_ (bodyC { zeroBody with view := n, k := k }) _ ?_ Tryz.underlying32 ?_ ?_ ?_); (· rfl); (· rfl); (· rfl); (· exact range_of HM4.out); (· rfl); (· exact HP.out.2.2)) | (refine wpList_store_part rfl 32 (.tmp 2) (.tmp 9) rfl w.heap.size 0 (bodyC zeroBody) (bodyC { zeroBody with view := n, k := k }) (bodyC { zeroBody with view := n, k := k }) 32 HZ4.out HP.out.1 HP.out.2.1 rfl rfl HP.out.2.2 (one_bodyC _) ?_; intro w6 G6))
  exact bodyPost_ret (ret_range (cs := bodyC { zeroBody with view := n, k := k }) rfl rfl (range_of G6.out.1) Tryz.underlying32 rfl HP.out.2.2) rfl ⟨rfl, C4.out.far G6.out.2 HG.out, Lib.hid (gb_new A4.out G6.out.2 (Nat.le_refl _))⟩
end Go.Proofs.YtghjogneogkpoaaGreatDoor.Sh
