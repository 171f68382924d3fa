/-
  What is proved: what a cut is read as: a view, a Commit. Conditions as stated.
  What is proved: what a cut is read as: a tag; the map of readers. Conditions as stated.
  What is proved: what a cut is read as: a message without its number and its tag (cutTagged). Conditions as stated.
  What is proved: what a cut is read as: a Commit's message, and one of no kind. Conditions as stated.
-/
import Derived.Test.YtghjogneogkpoaaGreatDoorV5c
import Derived.Test.YtghjogneogkpoaaGreatDoorV3c
namespace Go.Proofs.YtghjogneogkpoaaGreatDoor.Sh
open Go.RowKit
set_option maxRecDepth 100000


open Oct in
/-- What is left to cut, and whether it is spoilt. -/
abbrev Cst := List UInt8 × Bool
def cWord (s : Cst) : Nat × Cst := (Oct.num (Oct.tkOut s.1 s.2 8), (Oct.tkRem s.1 s.2 8, !Oct.fits s.1 s.2 8))
def cByte (s : Cst) : Nat × Cst := (Oct.num (Oct.tkOut s.1 s.2 1), (Oct.tkRem s.1 s.2 1, !Oct.fits s.1 s.2 1))
def cRaw (k : Nat) (s : Cst) : List UInt8 × Cst := (Oct.tkOut s.1 s.2 (k : Int), (Oct.tkRem s.1 s.2 (k : Int), !Oct.fits s.1 s.2 (k : Int)))
/-- Block g is a cut in this state. -/
def CtS (w : World) (lo g : Nat) (s : Cst) : Prop := Oct.CutAt w lo g s.1 s.2
theorem CtS.lt {w : World} {lo g : Nat} {s : Cst} (h : CtS w lo g s) : g < w.heap.size := Oct.CutAt.lt h
theorem CtS.below {w w' : World} {lo g : Nat} {s : Cst} (h : CtS w lo g s) (hb : Below w.heap.size w w') : CtS w' lo g s := Oct.CutAt.below h hb
theorem word_s {w : World} {lo g : Nat} {s : Cst} (h : CtS w lo g s) : Calls Tryz.prog 44 #[.pointer (some ⟨g, 0, none⟩)] w fun E w' => E = .returned (.int .u64 ((cWord s).1 : Int)) ∧ CtS w' lo g (cWord s).2 ∧ Hid (w.grownBy w' (some g)) := Oct.word_cut g s.1 s.2 w h
theorem byte_s {w : World} {lo g : Nat} {s : Cst} (h : CtS w lo g s) : Calls Tryz.prog 75 #[.pointer (some ⟨g, 0, none⟩)] w fun E w' => E = .returned (.int .u8 ((cByte s).1 : Int)) ∧ CtS w' lo g (cByte s).2 ∧ Hid (w.grownBy w' (some g)) := Oct.byte_cut g s.1 s.2 w h
/-- What is turned beside the block g is new. -/
theorem gb_new {w w1 w2 : World} {g r : Nat} (h1 : w.grownBy w1 (some g)) (h2 : w1.grownBy w2 (some r)) (hr : w.heap.size ≤ r) : w.grownBy w2 (some g) :=
  ⟨h2.os.trans h1.os, h2.tape.trans h1.tape, h2.output.trans h1.output, Nat.le_trans h1.size h2.size, fun k hk hne => (h2.block k (Nat.lt_of_lt_of_le hk h1.size) (fun e => by injection e with e; omega)).trans (h1.block k hk hne)⟩
theorem CtS.far {w w' : World} {lo g r : Nat} {s : Cst} (h : CtS w lo g s) (hg : w.grownBy w' (some r)) (hr : g < r) : CtS w' lo g s := by
  obtain ⟨A, n, c, at_, all, h1, h2, h3, h4, h5, h6, h7⟩ := h
  refine ⟨A, n, c, at_, all, (hg.block g (Array.getElem?_eq_some_iff.1 h1).1 (fun e => by injection e with e; omega)).trans h1, ⟨h2.1, fun hn => ?_⟩, h3, h4, h5, h6, h7⟩
  obtain ⟨b, o, e, hb, hc⟩ := h2.2 hn
  have hb2 : b < g := (h7 _ e).2
  exact ⟨b, o, e, Nat.lt_of_lt_of_le hb hg.size, fun j u hu => hg.cell (hc j u hu) (fun e => absurd (show b = r by simpa using e) (by omega))⟩
/-- What cuts bodies. -/
def Cuts (f : Nat) (rd : Cst → MBody × Cst) : Prop :=
  ∀ (w : World) (lo g : Nat) (s : Cst), CtS w lo g s → Calls Tryz.prog f #[.pointer (some ⟨g, 0, none⟩)] w fun E w' => E = .returned (.agg (bodyC (rd s).1).toArray) ∧ CtS w' lo g (rd s).2 ∧ Hid (w.grownBy w' (some g))
def rdView (s : Cst) : MBody × Cst := ({ zeroBody with view := (cWord s).1 }, (cWord s).2)
def rdCommit (s : Cst) : MBody × Cst := ({ zeroBody with view := (cWord s).1, k := (cWord (cWord s).2).1 }, (cWord (cWord s).2).2)
theorem len_ok {o : MBody} (h : o.Wf) : 0 + (bodyC o).length ≤ (bodyC zeroBody).length ∧ setAll (bodyC zeroBody) 0 (bodyC o) = bodyC o ∧ (Tryz.prog.info? 32).map (·.size) = some (bodyC o).length :=
  ⟨by rw [bodyC_length zero_wf, bodyC_length h]; omega, setAll_all (by rw [bodyC_length zero_wf, bodyC_length h]), by rw [bodyC_length h]; exact Tryz.is32⟩
set_option maxHeartbeats 2000000 in
theorem cutView_ms : Cuts 104 rdView := by
  intro w lo g s h
  have HZ : Hid ((w.alloc (.cells (bodyC zeroBody).toArray 32)).heap[w.heap.size]? = some (.cells (bodyC zeroBody).toArray 32 (0, 0))) := Lib.hid (heap_alloc_new w _)
  have HG := Lib.hid h.lt
  have HC := Lib.hid (h.below ((Below.refl _ _).alloc (Nat.le_refl _) (.cells (bodyC zeroBody).toArray 32)))
  have hz : ∀ w, (zeroValue 32).run Tryz.prog w = .ok (.agg (bodyC zeroBody).toArray) w := zero_body
  have HO := Lib.hid (len_ok (o := { zeroBody with view := (cWord s).1 }) ⟨rfl, rfl⟩)
  have HR : Hid (rdView s = ({ zeroBody with view := (cWord s).1 }, (cWord s).2)) := Lib.hid rfl
  have HW : Hid (Calls Tryz.prog 44 #[.pointer (some ⟨g, 0, none⟩)] (w.alloc (.cells (bodyC zeroBody).toArray 32)) fun E w' => E = .returned (.int .u64 ((cWord s).1 : Int)) ∧ CtS w' lo g (cWord s).2 ∧ Hid ((w.alloc (.cells (bodyC zeroBody).toArray 32)).grownBy w' (some g))) := Lib.hid (word_s HC.out)
  rw [HR.out]
  dsimp only
  generalize (cWord s).1 = n at HO HW ⊢
  generalize (cWord s).2 = s2 at HW ⊢
  clear h HR HC
  go_enter Tryz.func104, Tryz.ntmps104
  go_wp2_with (first | (go_at_call 44; refine HW.out.mono ?_; rintro E w1 ⟨rfl, hc1, hg1⟩; have C1 := Lib.hid hc1; clear hc1; have HZ1 : Hid (w1.heap[w.heap.size]? = some (.cells (bodyC zeroBody).toArray 32 (0, 0))) := Lib.hid ((hg1.out.block _ (by simp) (fun e => by injection e with e; have := HG.out; omega)).trans HZ.out)) | (refine wpList_store_part rfl 32 (.tmp 2) (.tmp 5) rfl w.heap.size 0 (bodyC zeroBody) (bodyC { zeroBody with view := n }) (bodyC { zeroBody with view := n }) 32 HZ1.out HO.out.1 HO.out.2.1 rfl rfl HO.out.2.2 (one_bodyC _) ?_; intro w2 G2))
  exact bodyPost_ret (ret_range (cs := bodyC { zeroBody with view := n }) rfl rfl (range_of G2.out.1) Tryz.underlying32 rfl HO.out.2.2) rfl ⟨rfl, C1.out.far G2.out.2 HG.out, Lib.hid (gb_new (gb_trans (World.grownBy_alloc w _ _) hg1.out) G2.out.2 (Nat.le_refl _))⟩
set_option maxHeartbeats 2000000 in
theorem cutCommit_ms : Cuts 103 rdCommit := by
  intro w lo g s h
  have HZ : Hid ((w.alloc (.cells (bodyC zeroBody).toArray 32)).heap[w.heap.size]? = some (.cells (bodyC zeroBody).toArray 32 (0, 0))) := Lib.hid (heap_alloc_new w _)
  have HG := Lib.hid h.lt
  have HC := Lib.hid (h.below ((Below.refl _ _).alloc (Nat.le_refl _) (.cells (bodyC zeroBody).toArray 32)))
  have hz : ∀ w, (zeroValue 32).run Tryz.prog w = .ok (.agg (bodyC zeroBody).toArray) w := zero_body
  have HV : Hid (Calls Tryz.prog 104 #[.pointer (some ⟨g, 0, none⟩)] (w.alloc (.cells (bodyC zeroBody).toArray 32)) fun E w' => E = .returned (.agg (bodyC { zeroBody with view := (cWord s).1 }).toArray) ∧ CtS w' lo g (cWord s).2 ∧ Hid ((w.alloc (.cells (bodyC zeroBody).toArray 32)).grownBy w' (some g))) := Lib.hid (cutView_ms _ lo g s HC.out)
  have HR : Hid (rdCommit s = ({ zeroBody with view := (cWord s).1, k := (cWord (cWord s).2).1 }, (cWord (cWord s).2).2)) := Lib.hid rfl
  rw [HR.out]
  dsimp only
  generalize (cWord s).1 = n at HV ⊢
  generalize (cWord s).2 = s2 at HV ⊢
  have HW : Hid (∀ w, CtS w lo g s2 → Calls Tryz.prog 44 #[.pointer (some ⟨g, 0, none⟩)] w fun E w' => E = .returned (.int .u64 ((cWord s2).1 : Int)) ∧ CtS w' lo g (cWord s2).2 ∧ Hid (w.grownBy w' (some g))) := Lib.hid fun w h => word_s h
  generalize (cWord s2).1 = k at HW ⊢
  generalize (cWord s2).2 = s3 at HW ⊢
  have HO := Lib.hid (len_ok (o := { zeroBody with view := n }) ⟨rfl, rfl⟩)
  have HP := Lib.hid (len_ok (o := { zeroBody with view := n, k := k }) ⟨rfl, rfl⟩)
  clear h HR HC
  go_enter Tryz.func103, Tryz.ntmps103
  go_wp2_with (first | (go_at_call 104; refine HV.out.mono ?_; rintro E w1 ⟨rfl, hc1, hg1⟩; have C1 := Lib.hid (CtS.below hc1 ((Below.refl _ _).alloc (Nat.le_refl _) (.cells (bodyC zeroBody).toArray 32))); clear hc1; have HZ1 : Hid (w1.heap[w.heap.size]? = some (.cells (bodyC zeroBody).toArray 32 (0, 0)) ∧ w.heap.size < w1.heap.size) := Lib.hid ⟨(hg1.out.block _ (by simp) (fun e => by injection e with e; have := HG.out; omega)).trans HZ.out, Nat.lt_of_lt_of_le (by simp) hg1.out.size⟩; have HN1 : Hid ((w1.alloc (.cells (bodyC zeroBody).toArray 32)).heap[w1.heap.size]? = some (.cells (bodyC zeroBody).toArray 32 (0, 0))) := Lib.hid (heap_alloc_new w1 _)) | (refine wpList_store_part rfl 32 (.tmp 3) (.tmp 5) rfl w1.heap.size 0 (bodyC zeroBody) (bodyC { zeroBody with view := n }) (bodyC { zeroBody with view := n }) 32 HN1.out HO.out.1 HO.out.2.1 rfl rfl HO.out.2.2 (one_bodyC _) ?_; intro w2 G2; have C2 : Hid (CtS w2 lo g s2) := Lib.hid (C1.out.far G2.out.2 (by have := HG.out; have := HZ1.out.2; omega)); have A2 : Hid (w.grownBy w2 (some g)) := Lib.hid (gb_new (gb_new (gb_trans (World.grownBy_alloc w _ _) hg1.out) (World.grownBy_alloc w1 _ (some w.heap.size)) (Nat.le_refl _)) G2.out.2 (by have := HZ1.out.2; omega)); have HZ2 : Hid (w2.heap[w.heap.size]? = some (.cells (bodyC zeroBody).toArray 32 (0, 0))) := Lib.hid ((G2.out.2.block _ (by have := HZ1.out.2; simp; omega) (fun e => by injection e with e; have := HZ1.out.2; omega)).trans ((((Below.refl w1.heap.size w1).alloc (Nat.le_refl _) (.cells (bodyC zeroBody).toArray 32)).block _ HZ1.out.2).trans HZ1.out.1))) | (go_at_call 44; refine (HW.out _ C2.out).mono ?_; rintro E w3 ⟨rfl, hc3, hg3⟩; have C3 := Lib.hid hc3; clear hc3; have L2 : Hid (w1.heap.size < w2.heap.size ∧ g < w1.heap.size ∧ w.heap.size < w1.heap.size) := Lib.hid ⟨(Array.getElem?_eq_some_iff.1 G2.out.1).1, by have := HG.out; have := HZ1.out.2; omega, HZ1.out.2⟩; have HN3 : Hid (w3.heap[w1.heap.size]? = some (.cells (bodyC { zeroBody with view := n }).toArray 32 (0, 0))) := Lib.hid ((hg3.out.block _ L2.out.1 (fun e => by injection e with e; have := L2.out; omega)).trans G2.out.1); have HZ3 : Hid (w3.heap[w.heap.size]? = some (.cells (bodyC zeroBody).toArray 32 (0, 0))) := Lib.hid ((hg3.out.block _ (by have := L2.out; omega) (fun e => by injection e with e; have := HG.out; omega)).trans HZ2.out); have z2 : w3.cell? ⟨w1.heap.size, 2, none⟩ = some (.int .u64 0) := range_of HN3.out 2 _ rfl; have hf := fun k => free_block HN3.out k; have HM4 : Hid ((w3.setCell ⟨w1.heap.size, 2, none⟩ (.int .u64 (k : Int))).heap[w1.heap.size]? = some (.cells (bodyC { zeroBody with view := n, k := k }).toArray 32 (0, 0))) := Lib.hid (heap_set HN3.out _); have HZ4 : Hid ((w3.setCell ⟨w1.heap.size, 2, none⟩ (.int .u64 (k : Int))).heap[w.heap.size]? = some (.cells (bodyC zeroBody).toArray 32 (0, 0))) := Lib.hid (((gb_set w3 w1.heap.size 2 (.int .u64 (k : Int))).block _ (by have := L2.out; have := hg3.out.size; omega) (fun e => by injection e with e; have := L2.out; omega)).trans HZ3.out); have A4 : Hid (w.grownBy (w3.setCell ⟨w1.heap.size, 2, none⟩ (.int .u64 (k : Int))) (some g)) := Lib.hid (gb_new (gb_trans A2.out hg3.out) (gb_set w3 w1.heap.size 2 (.int .u64 (k : Int))) (by have := L2.out; omega)); have C4 : Hid (CtS (w3.setCell ⟨w1.heap.size, 2, none⟩ (.int .u64 (k : Int))) lo g s3) := Lib.hid (C3.out.far (gb_set w3 w1.heap.size 2 (.int .u64 (k : Int))) (by have := L2.out; omega))) | ((with_reducible refine wpList_load_midG ?_ 32 (.tmp 3) ?_ w1.heap.size 0 ?_ (bodyC { zeroBody with view := n, k := k }) _ ?_ Tryz.underlying32 ?_ ?_ ?_); (· rfl); (· rfl); (· rfl); (· exact range_of HM4.out); (· rfl); (· exact HP.out.2.2)) | (refine wpList_store_part rfl 32 (.tmp 2) (.tmp 9) rfl w.heap.size 0 (bodyC zeroBody) (bodyC { zeroBody with view := n, k := k }) (bodyC { zeroBody with view := n, k := k }) 32 HZ4.out HP.out.1 HP.out.2.1 rfl rfl HP.out.2.2 (one_bodyC _) ?_; intro w6 G6))
  exact bodyPost_ret (ret_range (cs := bodyC { zeroBody with view := n, k := k }) rfl rfl (range_of G6.out.1) Tryz.underlying32 rfl HP.out.2.2) rfl ⟨rfl, C4.out.far G6.out.2 HG.out, Lib.hid (gb_new A4.out G6.out.2 (Nat.le_refl _))⟩
end Go.Proofs.YtghjogneogkpoaaGreatDoor.Sh

namespace Go.Proofs.YtghjogneogkpoaaGreatDoor.Sh
open Go.RowKit
set_option maxRecDepth 100000


theorem raw_s {w : World} {lo g : Nat} {s : Cst} (k : Nat) (h : CtS w lo g s) : Calls Tryz.prog 77 #[.pointer (some ⟨g, 0, none⟩), .int .i64 (k : Int)] w fun E w' => ∃ A n c, E = .returned (.slice A n c) ∧ Ow w.heap.size w' A n c (cRaw k s).1 ∧ CtS w' lo g (cRaw k s).2 ∧ Hid (w.grownBy w' (some g)) :=
  (Oct.raw_cut g s.1 s.2 (k : Int) w h).mono fun _ _ ⟨A, m, c, he, ho, hc, hg⟩ => ⟨A, m, c, he, ⟨ho.out.2.1, ho.out.2.2⟩, hc, hg⟩
theorem gb_low {w w1 w2 : World} {g B : Nat} (h1 : w.grownBy w1 (some g)) (h2 : Below B w1 w2) (hB : w.heap.size ≤ B) : w.grownBy w2 (some g) :=
  ⟨h2.os.trans h1.os, h2.tape.trans h1.tape, h2.output.trans h1.output, Nat.le_trans h1.size h2.size, fun k hk hne => (h2.block k (by omega)).trans (h1.block k hk hne)⟩
theorem CtS.low {w w' : World} {lo g B : Nat} {s : Cst} (h : CtS w lo g s) (hb : Below B w w') (hB : g < B) : CtS w' lo g s := by
  obtain ⟨A, n, c, at_, all, h1, h2, h3, h4, h5, h6, h7⟩ := h
  refine ⟨A, n, c, at_, all, (hb.block g hB).trans h1, ⟨h2.1, fun hn => ?_⟩, h3, h4, h5, h6, h7⟩
  obtain ⟨b, o, e, hl, hc⟩ := h2.2 hn
  have hb2 : b < g := (h7 _ e).2
  exact ⟨b, o, e, Nat.lt_of_lt_of_le hl hb.size, fun j u hu => (hb.cell (p := ⟨b, _, none⟩) (Nat.lt_trans hb2 hB)).trans (hc j u hu)⟩
theorem cRaw_len (k : Nat) (s : Cst) : (cRaw k s).1.length ≤ k := Oct.tkOut_length _ _ _
/-- The next tag: what there is, and noughts. -/
def cTag (s : Cst) : List UInt8 × Cst := ((cRaw 32 s).1 ++ List.replicate (32 - (cRaw 32 s).1.length) 0, (cRaw 32 s).2)
theorem cTag_len (s : Cst) : (cTag s).1.length = 32 := by
  have := cRaw_len 32 s
  simp [cTag]
  omega
theorem zero_tag27 (w : World) : (zeroValue 27).run Tryz.prog w = .ok (.agg (u8s noTag).toArray) w := by kernel_rfl
theorem splice_tag (x : List UInt8) : splice (u8s noTag) 0 (u8s x) = u8s (x ++ List.replicate (32 - x.length) 0) := by
  have e : u8s noTag = List.replicate 32 (Value.int .u8 0) := by rw [u8s, noTag, List.map_replicate]; rfl
  rw [e]
  simp only [splice, List.take_zero, List.nil_append, Nat.zero_add, List.drop_replicate, u8s, List.map_append, List.map_replicate, List.length_map]
  rfl
set_option maxHeartbeats 4000000 in
theorem cutTag_ms {w : World} {lo g : Nat} {s : Cst} (h : CtS w lo g s) : Calls Tryz.prog 46 #[.pointer (some ⟨g, 0, none⟩)] w fun E w' => E = .returned (.agg (u8s (cTag s).1).toArray) ∧ CtS w' lo g (cTag s).2 ∧ Hid (w.grownBy w' (some g)) := by
  have HG := Lib.hid h.lt
  have hz : ∀ w, (zeroValue 27).run Tryz.prog w = .ok (.agg (u8s noTag).toArray) w := zero_tag27
  have HJ : Hid ((Tryz.prog.info? 27).map (·.size) = some (u8s (cTag s).1).length) := Lib.hid (by rw [u8s_length, cTag_len]; exact Tryz.size27)
  have HL : Hid (0 + (u8s (cTag s).1).length ≤ (u8s noTag).length ∧ setAll (u8s noTag) 0 (u8s (cTag s).1) = u8s (cTag s).1) := Lib.hid ⟨by rw [u8s_length, u8s_length, cTag_len]; decide, setAll_all (by rw [u8s_length, u8s_length, cTag_len]; rfl)⟩
  go_enter Tryz.func46, Tryz.ntmps46
  go_wp2_with fail
  refine wp_region_any (by kernel_rfl) ?_
  change wpAny _ _ _ _ _ _ _ (((w.alloc (.cells (u8s noTag).toArray 27)).alloc (.cells (u8s noTag).toArray 27)).drewN 1)
  have H3 : Hid (CtS (((w.alloc (.cells (u8s noTag).toArray 27)).alloc (.cells (u8s noTag).toArray 27)).drewN 1) lo g s ∧ w.grownBy (((w.alloc (.cells (u8s noTag).toArray 27)).alloc (.cells (u8s noTag).toArray 27)).drewN 1) (some g) ∧ (((w.alloc (.cells (u8s noTag).toArray 27)).alloc (.cells (u8s noTag).toArray 27)).drewN 1).heap[w.heap.size]? = some (.cells (u8s noTag).toArray 27 (0, 0)) ∧ (((w.alloc (.cells (u8s noTag).toArray 27)).alloc (.cells (u8s noTag).toArray 27)).drewN 1).heap[w.heap.size + 1]? = some (.cells (u8s noTag).toArray 27 (0, 0)) ∧ (((w.alloc (.cells (u8s noTag).toArray 27)).alloc (.cells (u8s noTag).toArray 27)).drewN 1).heap.size = w.heap.size + 2) := Lib.hid ⟨h.below (below_drewN (((Below.refl _ _).alloc (Nat.le_refl _) _).alloc (by simp) _) 1), gb_below (below_drewN (((Below.refl _ _).alloc (Nat.le_refl _) _).alloc (by simp) _) 1) _, (((Below.refl _ _).alloc (Nat.le_refl _) (.cells (u8s noTag).toArray 27) : Below (w.alloc (.cells (u8s noTag).toArray 27)).heap.size _ _).block w.heap.size (by simp)).trans (heap_alloc_new w _), by simpa using heap_alloc_new (w.alloc (.cells (u8s noTag).toArray 27)) (.cells (u8s noTag).toArray 27), by simp⟩
  generalize ((w.alloc (.cells (u8s noTag).toArray 27)).alloc (.cells (u8s noTag).toArray 27)).drewN 1 = w3 at H3 ⊢
  clear h
  refine wpAny_of_held (S := fun _ => True) _ _ _ _ ?_
  refine tk 0 ⟨some 4, .slice 27 (.tmp 3) none none none, _, _, _, none⟩ (.slice (some ⟨w.heap.size + 1, 0, none⟩) 32 32) rfl (by kernel_rfl) (fun _ _ _ h => h) (trivial) (fun W hSW => by go_simp) ?_
  try simp only [Act.put, l0, l1, l2]
  refine tk 1 ⟨some 5, .move (.tmp 0), _, _, _, none⟩ (.pointer (some ⟨g, 0, none⟩)) rfl (by kernel_rfl) (fun _ _ _ h => h) (trivial) (fun W hSW => by go_simp) ?_
  try simp only [Act.put, l0, l1, l2]
  refine rdy [2] (by kernel_rfl) ?_
  refine AllReadyH.cons (o := ⟨some 6, .call { callee := .value (.func 77), args := #[.tmp 5, .const (.int .i64 32)], argTypes := #[61, 3] }, _, _, _, none⟩) rfl (fun K' hK' => ?_) AllReadyH.nil
  go_simp
  go_at_call 77
  refine (raw_s 32 H3.out.1).mono ?_
  rintro E w4 ⟨A4, n4, c4, rfl, Hx4, Hc4, hg4⟩
  have H4 : Hid (CtS w4 lo g (cRaw 32 s).2 ∧ w.grownBy w4 (some g) ∧ w4.heap[w.heap.size]? = some (.cells (u8s noTag).toArray 27 (0, 0)) ∧ w4.heap[w.heap.size + 1]? = some (.cells (u8s noTag).toArray 27 (0, 0))) := Lib.hid ⟨Hc4, gb_trans H3.out.2.1 hg4.out, (hg4.out.block _ (by have := H3.out.2.2.2.2; omega) (fun e => by injection e with e; have := HG.out; omega)).trans H3.out.2.2.1, (hg4.out.block _ (by have := H3.out.2.2.2.2; omega) (fun e => by injection e with e; have := HG.out; omega)).trans H3.out.2.2.2.1⟩
  have O4 := Lib.hid Hx4
  clear Hx4 Hc4 H3
  refine hK'.out _ _ trivial (fun _ => ?_)
  clear hK' K'
  try simp only [Act.put, l0, l1, l2]
  refine rdy [3] (by kernel_rfl) ?_
  refine AllReadyH.cons (o := ⟨some 7, .call { callee := .builtin .copy, args := #[.tmp 4, .tmp 6], argTypes := #[38, 38] }, _, _, _, none⟩) rfl (fun K' hK' => ?_) AllReadyH.nil
  refine step_copy_splice rfl (.tmp 4) (.tmp 6) 38 38 rfl 5 Tryz.underlying38 Tryz.size5 (some ⟨w.heap.size + 1, 0, none⟩) A4 32 32 n4 c4 rfl rfl (w.heap.size + 1) 0 (u8s noTag) 27 H4.out.2.2.2 (u8s (cRaw 32 s).1) (by have h1 := O4.out.len; have h2 := cRaw_len 32 s; rw [u8s_length, h1]; exact (Nat.min_eq_left (by omega)).symm) (fun hp => ⟨rfl, O4.out.rd.src hp⟩) (by have h2 := cRaw_len 32 s; rw [u8s_length, u8s_length]; simp [noTag]; omega) (u8s_one _) (w.heap.size + 1) w4 (Below.refl _ _) (Nat.le_refl _) ?_
  intro w5 G5 b5
  rw [splice_tag] at G5
  have H5 : Hid (CtS w5 lo g (cRaw 32 s).2 ∧ w.grownBy w5 (some g) ∧ w5.heap[w.heap.size]? = some (.cells (u8s noTag).toArray 27 (0, 0)) ∧ w5.heap[w.heap.size + 1]? = some (.cells (u8s (cTag s).1).toArray 27 (0, 0))) := Lib.hid ⟨H4.out.1.low b5 (by have := HG.out; omega), gb_low H4.out.2.1 b5 (by omega), (b5.block _ (by omega)).trans H4.out.2.2.1, G5.out⟩
  clear G5 b5 H4 O4
  refine hK'.out _ _ trivial (fun _ => ?_)
  clear hK' K'
  refine wpAnyH_done (by kernel_rfl) ?_ _
  go_wp2_with (first | ((with_reducible refine wpList_load_midG ?_ 27 (.tmp 3) ?_ (w.heap.size + 1) 0 ?_ (u8s (cTag s).1) _ ?_ Tryz.underlying27 ?_ ?_ ?_); (· rfl); (· rfl); (· rfl); (· exact range_of H5.out.2.2.2); (· rfl); (· exact HJ.out)) | (refine wpList_store_part rfl 27 (.tmp 2) (.tmp 8) rfl w.heap.size 0 (u8s noTag) (u8s (cTag s).1) (u8s (cTag s).1) 27 H5.out.2.2.1 HL.out.1 HL.out.2 rfl rfl HJ.out (u8s_one _) ?_; intro w9 G9))
  exact bodyPost_ret (ret_range (cs := u8s (cTag s).1) rfl rfl (range_of G9.out.1) Tryz.underlying27 rfl HJ.out) rfl ⟨rfl, H5.out.1.far G9.out.2 HG.out, Lib.hid (gb_new H5.out.2.1 G9.out.2 (Nat.le_refl _))⟩
def rdE : Array MapEntry := #[{ key := .int .u8 1, val := .func (.func 102) #[] #[], born := 0 }, { key := .int .u8 2, val := .func (.func 103) #[] #[], born := 1 }, { key := .int .u8 3, val := .func (.func 104) #[] #[], born := 2 }, { key := .int .u8 4, val := .func (.func 105) #[] #[], born := 3 }, { key := .int .u8 5, val := .func (.func 104) #[] #[], born := 4 }, { key := .int .u8 6, val := .func (.func 106) #[] #[], born := 5 }]
theorem readers_ms (w : World) : Calls Tryz.prog 76 #[] w fun E w' => E = .returned (.map (some w.heap.size)) ∧ w'.heap[w.heap.size]? = some (.map rdE 6) ∧ Below w.heap.size w w' := by
  have hmk := run_makeMap (P := Tryz.prog) 99
  have HM0 : Hid ((w.alloc (.map #[] 0)).heap[w.heap.size]? = some (.map #[] 0)) := Lib.hid (heap_alloc_new w _)
  go_enter Tryz.func76, Tryz.ntmps76
  go_wp2_with (first | (refine wpList_insert rfl (.tmp 1) (.const (.int .u8 1)) (.func 102) 99 5 _ .u8 rfl Tryz.underlying99 Tryz.underlying5 w.heap.size (#[]) 0 1 _ rfl HM0.out rfl rfl (by kernel_rfl) ?_; intro w1 G1) | (refine wpList_insert rfl (.tmp 1) (.const (.int .u8 2)) (.func 103) 99 5 _ .u8 rfl Tryz.underlying99 Tryz.underlying5 w.heap.size (#[{ key := .int .u8 1, val := .func (.func 102) #[] #[], born := 0 }]) 1 2 _ rfl G1.out.1 rfl rfl (by kernel_rfl) ?_; intro w2 G2) | (refine wpList_insert rfl (.tmp 1) (.const (.int .u8 3)) (.func 104) 99 5 _ .u8 rfl Tryz.underlying99 Tryz.underlying5 w.heap.size (#[{ key := .int .u8 1, val := .func (.func 102) #[] #[], born := 0 }, { key := .int .u8 2, val := .func (.func 103) #[] #[], born := 1 }]) 2 3 _ rfl G2.out.1 rfl rfl (by kernel_rfl) ?_; intro w3 G3) | (refine wpList_insert rfl (.tmp 1) (.const (.int .u8 4)) (.func 105) 99 5 _ .u8 rfl Tryz.underlying99 Tryz.underlying5 w.heap.size (#[{ key := .int .u8 1, val := .func (.func 102) #[] #[], born := 0 }, { key := .int .u8 2, val := .func (.func 103) #[] #[], born := 1 }, { key := .int .u8 3, val := .func (.func 104) #[] #[], born := 2 }]) 3 4 _ rfl G3.out.1 rfl rfl (by kernel_rfl) ?_; intro w4 G4) | (refine wpList_insert rfl (.tmp 1) (.const (.int .u8 5)) (.func 104) 99 5 _ .u8 rfl Tryz.underlying99 Tryz.underlying5 w.heap.size (#[{ key := .int .u8 1, val := .func (.func 102) #[] #[], born := 0 }, { key := .int .u8 2, val := .func (.func 103) #[] #[], born := 1 }, { key := .int .u8 3, val := .func (.func 104) #[] #[], born := 2 }, { key := .int .u8 4, val := .func (.func 105) #[] #[], born := 3 }]) 4 5 _ rfl G4.out.1 rfl rfl (by kernel_rfl) ?_; intro w5 G5) | (refine wpList_insert rfl (.tmp 1) (.const (.int .u8 6)) (.func 106) 99 5 _ .u8 rfl Tryz.underlying99 Tryz.underlying5 w.heap.size (#[{ key := .int .u8 1, val := .func (.func 102) #[] #[], born := 0 }, { key := .int .u8 2, val := .func (.func 103) #[] #[], born := 1 }, { key := .int .u8 3, val := .func (.func 104) #[] #[], born := 2 }, { key := .int .u8 4, val := .func (.func 105) #[] #[], born := 3 }, { key := .int .u8 5, val := .func (.func 104) #[] #[], born := 4 }]) 5 6 _ rfl G5.out.1 rfl rfl (by kernel_rfl) ?_; intro w6 G6))
  go_ret
  exact ⟨rfl, G6.out.1, below_at (below_at (below_at (below_at (below_at (below_at ((Below.refl _ _).alloc (Nat.le_refl _) _) G1.out.2) G2.out.2) G3.out.2) G4.out.2) G5.out.2) G6.out.2⟩
end Go.Proofs.YtghjogneogkpoaaGreatDoor.Sh

namespace Go.Proofs.YtghjogneogkpoaaGreatDoor.Sh
open Go.RowKit
set_option maxRecDepth 100000


def cDeps : Nat → Cst → List Nat × Cst
  | 0, s => ([], s)
  | j + 1, s => ((cDeps j s).1 ++ [(cWord (cDeps j s).2).1], (cWord (cDeps j s).2).2)
theorem cDeps_len : ∀ (j : Nat) (s : Cst), (cDeps j s).1.length = j
  | 0, _ => rfl
  | j + 1, s => by simp [cDeps, cDeps_len j s]
/-- A message while its places are read. -/
def depM (o : Int) (l : List Nat) : MMsg := { zeroMsg with origin := o, deps := l ++ List.replicate (11 - l.length) 0 }
theorem depM_wf {o : Int} {l : List Nat} (h : l.length ≤ 11) : (depM o l).Wf := ⟨by simp [depM]; omega, zero_wf, rfl⟩
theorem set_dep {o : Int} {l : List Nat} (h : l.length < 11) (x : Nat) : (msgC (depM o l)).set (2 + l.length) (.int .u64 (x : Int)) = msgC (depM o (l ++ [x])) := by
  have e : 11 - l.length = (11 - (l.length + 1)) + 1 := by omega
  simp only [msgC, depM, u64s, List.map_append, List.map_replicate, List.length_append, List.length_cons, List.length_nil, Nat.zero_add]
  rw [e, List.replicate_succ, show 2 + l.length = l.length + 1 + 1 by omega, List.set_cons_succ, List.set_cons_succ, List.append_assoc, List.set_append_right _ _ (by simp)]
  simp
theorem set_body (m : MMsg) (b : MBody) (hm : m.Wf) (hb : b.Wf) : setAll (msgC m) 13 (bodyC b) = msgC { m with body := b } := by
  have e : msgC m = (.int .i64 m.origin :: .int .u64 (m.number : Int) :: u64s m.deps) ++ (bodyC m.body ++ u8s m.tag) := by simp [msgC]
  have := setAll_mid (bodyC b) (.int .i64 m.origin :: .int .u64 (m.number : Int) :: u64s m.deps) (bodyC m.body) (u8s m.tag) (by rw [bodyC_length hm.2.1, bodyC_length hb])
  rw [← e] at this
  rw [show (.int .i64 m.origin :: .int .u64 (m.number : Int) :: u64s m.deps : List Value).length = 13 by simp [u64s_length, hm.1]] at this
  rw [this]
  simp [msgC]
theorem set_kind (m : MMsg) (k : UInt8) (hm : m.Wf) : (msgC m).set 13 (.int .u8 (k.toNat : Int)) = msgC { m with body := { m.body with kind := k } } := by
  have e : msgC m = (.int .i64 m.origin :: .int .u64 (m.number : Int) :: u64s m.deps) ++ (bodyC m.body ++ u8s m.tag) := by simp [msgC]
  rw [e, List.set_append_right _ _ (by simp [u64s_length, hm.1])]
  simp [msgC, u64s_length, hm.1, bodyC, MBody.qv]
/-- While a message is read of the cut g: it lies in the block gm, the result in the block w.heap.size. -/
structure CtM (w : World) (lo g gm : Nat) (s : Cst) (m : MMsg) (wr : World) : Prop where
  cut : CtS wr lo g s
  gb : w.grownBy wr (some g)
  res : wr.heap[w.heap.size]? = some (.cells (msgC zeroMsg).toArray 34 (0, 0))
  msg : wr.heap[gm]? = some (.cells (msgC m).toArray 34 (0, 0))
  lt : w.heap.size < gm ∧ g < w.heap.size
theorem CtM.ltm {w : World} {lo g gm : Nat} {s : Cst} {m : MMsg} {wr : World} (H : CtM w lo g gm s m wr) : gm < wr.heap.size := (Array.getElem?_eq_some_iff.1 H.msg).1
theorem CtM.turn {w : World} {lo g gm : Nat} {s s' : Cst} {m : MMsg} {wr w' : World} (H : CtM w lo g gm s m wr) (hg : wr.grownBy w' (some g)) (hc : CtS w' lo g s') : CtM w lo g gm s' m w' :=
  ⟨hc, gb_trans H.gb hg, (hg.block _ (by have := H.ltm; have := H.lt; omega) (fun e => by injection e with e; have := H.lt; omega)).trans H.res, (hg.block _ H.ltm (fun e => by injection e with e; have := H.lt; omega)).trans H.msg, H.lt⟩
theorem CtM.below {w : World} {lo g gm : Nat} {s : Cst} {m : MMsg} {wr w' : World} (H : CtM w lo g gm s m wr) (hb : Below wr.heap.size wr w') : CtM w lo g gm s m w' :=
  ⟨H.cut.below hb, gb_trans H.gb (gb_below hb _), (hb.block _ (by have := H.ltm; have := H.lt; omega)).trans H.res, (hb.block _ H.ltm).trans H.msg, H.lt⟩
theorem CtM.put {w : World} {lo g gm : Nat} {s : Cst} {m m' : MMsg} {wr w' : World} (H : CtM w lo g gm s m wr) (h : w'.heap[gm]? = some (.cells (msgC m').toArray 34 (0, 0)) ∧ wr.grownBy w' (some gm)) : CtM w lo g gm s m' w' :=
  ⟨H.cut.far h.2 (by have := H.lt; omega), gb_new H.gb h.2 (by have := H.lt; omega), (h.2.block _ (by have := H.ltm; have := H.lt; omega) (fun e => by injection e with e; have := H.lt; omega)).trans H.res, h.1, H.lt⟩
theorem CtM.set {w : World} {lo g gm : Nat} {s : Cst} {m m' : MMsg} {wr : World} (H : CtM w lo g gm s m wr) (k : Nat) (v : Value) (hC : (msgC m).set k v = msgC m') : CtM w lo g gm s m' (wr.setCell ⟨gm, k, none⟩ v) :=
  H.put ⟨by have := heap_set H.msg v (k := k); rwa [hC] at this, gb_set _ _ _ _⟩
theorem CtM.cell {w : World} {lo g gm : Nat} {s : Cst} {m : MMsg} {wr : World} (H : CtM w lo g gm s m wr) (k : Nat) (v : Value) (hC : (msgC m)[k]? = some v) : wr.cell? ⟨gm, k, none⟩ = some v := by
  have := range_of H.msg k v hC
  rwa [Nat.zero_add] at this
theorem build_msg (k : Int) (w : World) : (Instr.build 34 #[(0, .int .i64 k)]).run Tryz.prog w = .ok (.agg (.int .i64 k :: (msgC zeroMsg).drop 1).toArray) w := by kernel_rfl
theorem cByte_lt (s : Cst) : (cByte s).1 < 256 := Oct.num_out_lt s.1 s.2 1
theorem wpList_look_at {P : Program} {w : World} {ops : Array Oper} {rest : List Oper} {o : Oper} {a : Act} {Q : Exit → Act → World → Prop} (hg : o.guard = none) (m x : Operand) (t kt et : TypeId) (kd : IntKind) (hop : o.op = Op.lookup t m x true)
    (ht : P.underlying t = some (.map kt et)) (hk : P.underlying kt = some (.int kd)) (r : Nat) (es : Array MapEntry) (clock : Nat) (k : Int) (v : Value) (i : Nat) (hm : a.eval m = .map (some r)) (hb : w.heap[r]? = some (.map es clock)) (hx : a.eval x = .int kd k)
    (hn : Instr.findNow (.int kd) (.int kd k) es.toList 0 = some (some (i, v))) (h : wpList P ops Q rest (a.put o.dst (.tuple #[v, .bool true])) w) : wpList P ops Q (o :: rest) a w := by
  refine wpList_plain hg fun K hK => ?_
  unfold Oper.wp
  simp only [execOp, hop, hm, hx, Sem.run_bind, run_look_at ht hk hb k v i hn true, Result.andThen_ok, Sem.run_pure, if_true]
  exact hK _ _ h
theorem run_look_no {P : Program} {t kt et : TypeId} {kd : IntKind} {w : World} {r : Nat} {es : Array MapEntry} {clock : Nat} (ht : P.underlying t = some (.map kt et)) (hk : P.underlying kt = some (.int kd)) {z : Value} (hz : (zeroValue et).run P w = .ok z w)
    (hb : w.heap[r]? = some (.map es clock)) (x : Int) (hn : Instr.findNow (.int kd) (.int kd x) es.toList 0 = some none) :
    (Instr.lookup t (.map (some r)) (.int kd x) true).run P w = .ok (.tuple #[z, .bool false]) w := by
  have hc : ∀ b, (Instr.checkKey b 10000 kt (.int kd x)).run P w = .ok () w := fun b => run_key_int hk 9999 b x w
  have hf : (Instr.findKey kt (.int kd x) es.toList).run P w = .ok none w := by
    simp [Instr.findKey, run_underlying hk, hn]
  simp only [Instr.lookup, Sem.run_bind, run_underlying ht, Result.andThen_ok, run_getObj_mp hb, hc, hf, Sem.run_pure, hz, if_true]
theorem wpList_look_no {P : Program} {w : World} {ops : Array Oper} {rest : List Oper} {o : Oper} {a : Act} {Q : Exit → Act → World → Prop} (hg : o.guard = none) (m x : Operand) (t kt et : TypeId) (kd : IntKind) (hop : o.op = Op.lookup t m x true)
    (ht : P.underlying t = some (.map kt et)) (hk : P.underlying kt = some (.int kd)) (z : Value) (hz : ∀ w, (zeroValue et).run P w = .ok z w) (r : Nat) (es : Array MapEntry) (clock : Nat) (k : Int) (hm : a.eval m = .map (some r)) (hb : w.heap[r]? = some (.map es clock)) (hx : a.eval x = .int kd k)
    (hn : Instr.findNow (.int kd) (.int kd k) es.toList 0 = some none) (h : wpList P ops Q rest (a.put o.dst (.tuple #[z, .bool false])) w) : wpList P ops Q (o :: rest) a w := by
  refine wpList_plain hg fun K hK => ?_
  unfold Oper.wp
  simp only [execOp, hop, hm, hx, Sem.run_bind, run_look_no ht hk (hz w) hb k hn, Result.andThen_ok, Sem.run_pure]
  exact hK _ _ h
end Go.Proofs.YtghjogneogkpoaaGreatDoor.Sh

namespace Go.Proofs.YtghjogneogkpoaaGreatDoor.Sh
open Go.RowKit
set_option maxRecDepth 100000

set_option maxHeartbeats 8000000 in
theorem cutTagged_103 {w : World} {lo g : Nat} {s : Cst} (o k : Nat) (i : Nat) (l : List Nat) (s1 s2 s3 : Cst) (h : CtS w lo g s) (e1 : cByte s = (o, s1)) (e2 : cDeps 11 s1 = (l, s2)) (e3 : cByte s2 = (k, s3)) (hk : Instr.findNow (.int .u8) (.int .u8 (k : Int)) rdE.toList 0 = some (some (i, .func (.func 103) #[] #[]))) (rd : Cst → MBody × Cst) (hr : Cuts 103 rd) (hw : (rd s3).1.Wf) :
    Calls Tryz.prog 45 #[.pointer (some ⟨g, 0, none⟩)] w fun E w' => E = .returned (.agg (msgC ({ depM (o : Int) l with body := { (rd s3).1 with kind := UInt8.ofNat k } })).toArray) ∧ CtS w' lo g ((rd s3).2) ∧ Hid (w.grownBy w' (some g)) := by
  have HG := Lib.hid h.lt
  have hk256 : k < 256 := by have := cByte_lt s2; rw [e3] at this; exact this
  have ho256 : o < 256 := by have := cByte_lt s; rw [e1] at this; exact this
  have hcv : IntKind.i64.wrap (o : Int) = (o : Int) := by rw [IntKind.wrap_i64]; omega
  have hcv2 : RowKit.wrap64 (o : Int) = (o : Int) := by unfold RowKit.wrap64; omega
  have hl11 : l.length = 11 := by have := cDeps_len 11 s1; rw [e2] at this; exact this
  have HKT : Hid (((UInt8.ofNat k).toNat : Int) = (k : Int)) := Lib.hid (by simp; omega)
  have HKF := Lib.hid hk
  have HE := Lib.hid e2
  have HLL := Lib.hid hl11
  have HDL := Lib.hid (fun j => cDeps_len j s1)
  have hzm : ∀ w, (zeroValue 34).run Tryz.prog w = .ok (.agg (msgC zeroMsg).toArray) w := zero_msg
  have HZ0 : Hid ((w.alloc (.cells (msgC zeroMsg).toArray 34)).heap[w.heap.size]? = some (.cells (msgC zeroMsg).toArray 34 (0, 0))) := Lib.hid (heap_alloc_new w _)
  have HC0 := Lib.hid (h.below ((Below.refl _ _).alloc (Nat.le_refl _) (.cells (msgC zeroMsg).toArray 34)))
  have HB1 : Hid (Calls Tryz.prog 75 #[.pointer (some ⟨g, 0, none⟩)] (w.alloc (.cells (msgC zeroMsg).toArray 34)) fun E w' => E = .returned (.int .u8 (o : Int)) ∧ CtS w' lo g s1 ∧ Hid ((w.alloc (.cells (msgC zeroMsg).toArray 34)).grownBy w' (some g))) := Lib.hid (by have := byte_s HC0.out; rw [e1] at this; exact this)
  have HB2 : Hid (∀ W, CtS W lo g s2 → Calls Tryz.prog 75 #[.pointer (some ⟨g, 0, none⟩)] W fun E w' => E = .returned (.int .u8 (k : Int)) ∧ CtS w' lo g s3 ∧ Hid (W.grownBy w' (some g))) := Lib.hid (fun W hW => by have := byte_s hW; rw [e3] at this; exact this)
  have HL0 : Hid (0 + (msgC (depM (o : Int) [])).length ≤ (msgC zeroMsg).length ∧ setAll (msgC zeroMsg) 0 (msgC (depM (o : Int) [])) = msgC (depM (o : Int) []) ∧ (Tryz.prog.info? 34).map (·.size) = some (msgC (depM (o : Int) [])).length) := Lib.hid (by
    have h1 : (msgC zeroMsg).length = 121 := msgC_length ⟨rfl, zero_wf, rfl⟩
    have h2 : (msgC (depM (o : Int) [])).length = 121 := msgC_length (depM_wf (by simp))
    exact ⟨by omega, setAll_all (by rw [h1, h2]), by rw [h2]; exact Tryz.is34⟩)
  have HRD := Lib.hid hr
  have HLM : Hid (0 + (msgC ({ depM (o : Int) l with body := { (rd s3).1 with kind := UInt8.ofNat k } })).length ≤ (msgC zeroMsg).length ∧ setAll (msgC zeroMsg) 0 (msgC ({ depM (o : Int) l with body := { (rd s3).1 with kind := UInt8.ofNat k } })) = msgC ({ depM (o : Int) l with body := { (rd s3).1 with kind := UInt8.ofNat k } }) ∧ (Tryz.prog.info? 34).map (·.size) = some (msgC ({ depM (o : Int) l with body := { (rd s3).1 with kind := UInt8.ofNat k } })).length) := Lib.hid (by
    have h1 : (msgC zeroMsg).length = 121 := msgC_length ⟨rfl, zero_wf, rfl⟩
    have h2 : (msgC ({ depM (o : Int) l with body := { (rd s3).1 with kind := UInt8.ofNat k } })).length = 121 := msgC_length ⟨(depM_wf (o := (o : Int)) (by omega)).1, hw, rfl⟩
    exact ⟨by omega, setAll_all (by rw [h1, h2]), by rw [h2]; exact Tryz.is34⟩)
  have HSB : Hid (13 + (bodyC (rd s3).1).length ≤ (msgC (depM (o : Int) l)).length ∧ setAll (msgC (depM (o : Int) l)) 13 (bodyC (rd s3).1) = msgC { depM (o : Int) l with body := (rd s3).1 } ∧ (Tryz.prog.info? 32).map (·.size) = some (bodyC (rd s3).1).length) := Lib.hid ⟨by rw [bodyC_length hw, msgC_length (depM_wf (by omega))]; omega, set_body _ _ (depM_wf (by omega)) hw, by rw [bodyC_length hw]; exact Tryz.is32⟩
  have HSK : Hid ((msgC { depM (o : Int) l with body := (rd s3).1 }).set 13 (.int .u8 (k : Int)) = msgC ({ depM (o : Int) l with body := { (rd s3).1 with kind := UInt8.ofNat k } }) ∧ (msgC { depM (o : Int) l with body := (rd s3).1 })[13]? = some (.int .u8 ((rd s3).1.kind.toNat : Int))) := Lib.hid ⟨by rw [← HKT.out]; exact set_kind { depM (o : Int) l with body := (rd s3).1 } _ ⟨(depM_wf (o := (o : Int)) (by omega)).1, hw, rfl⟩, by simp [msgC, depM, u64s_length, hl11, bodyC]⟩
  clear h e1 e2 e3 hk HC0 hr hw
  go_enter Tryz.func45, Tryz.ntmps45
  go_wp2_with (first | (go_at_call 75; refine HB1.out.mono ?_; rintro E w1 ⟨rfl, hc1, hg1⟩; have C1 := Lib.hid hc1; clear hc1; have S1 : Hid (w.heap.size < w1.heap.size) := Lib.hid (Nat.lt_of_lt_of_le (by simp) hg1.out.size); have D1 : Hid (CtM w lo g w1.heap.size s1 zeroMsg (w1.alloc (.cells (msgC zeroMsg).toArray 34))) := Lib.hid ⟨C1.out.below ((Below.refl _ _).alloc (Nat.le_refl _) _), gb_new (gb_trans (World.grownBy_alloc w _ _) hg1.out) (World.grownBy_alloc w1 _ (some w.heap.size)) (Nat.le_refl _), (((Below.refl _ _).alloc (Nat.le_refl _) (.cells (msgC zeroMsg).toArray 34) : Below w1.heap.size _ _).block _ S1.out).trans ((hg1.out.block _ (by simp) (fun e => by injection e with e; have := HG.out; omega)).trans HZ0.out), heap_alloc_new w1 _, S1.out, HG.out⟩) | (refine wpList_store_part rfl 34 (.tmp 3) (.tmp 11) rfl w1.heap.size 0 (msgC zeroMsg) (msgC (depM (o : Int) [])) (msgC (depM (o : Int) [])) 34 D1.out.msg HL0.out.1 HL0.out.2.1 rfl rfl HL0.out.2.2 (one_msgC _) ?_; intro w2 G2; have D2 := Lib.hid (D1.out.put G2.out)))
  clear D1 G2 hg1 C1 S1
  have D3 : Hid (CtM w lo g w1.heap.size (cDeps 0 s1).2 (depM (o : Int) (cDeps 0 s1).1) w2) := D2
  clear D2
  generalize w1.heap.size = gm at D3 ⊢
  go_loopw [12] (fun v12 wr => ∃ j : Nat, j ≤ 11 ∧ v12 = .int .i64 (j : Int) ∧ Hid (CtM w lo g gm (cDeps j s1).2 (depM (o : Int) (cDeps j s1).1) wr)) (fun v12 _ => 11 - (intOf v12).toNat)
  case atStart => exact ⟨0, by omega, rfl, D3⟩
  case round =>
    clear D3
    obtain ⟨j, hj, rfl, D⟩ := hrel
    by_cases hjj : j < 11
    · have hib : ¬ (11 ≤ (j : Int)) := by omega
      have HW := Lib.hid (word_s D.out.cut)
      have HN : Hid ((msgC (depM (o : Int) (cDeps j s1).1)).set (2 + j) (.int .u64 ((cWord (cDeps j s1).2).1 : Int)) = msgC (depM (o : Int) (cDeps (j + 1) s1).1) ∧ (msgC (depM (o : Int) (cDeps j s1).1))[2 + j]? = some (.int .u64 0)) := Lib.hid ⟨by
        have := set_dep (o := (o : Int)) (l := (cDeps j s1).1) (by rw [HDL.out]; exact hjj) (cWord (cDeps j s1).2).1
        rw [HDL.out] at this
        exact this, by
        have hlen := HDL.out j
        have e : 11 - (cDeps j s1).1.length = (11 - (j + 1)) + 1 := by omega
        simp only [msgC, depM, u64s, List.map_append, List.map_replicate]
        rw [e, List.replicate_succ, show 2 + j = j + 1 + 1 by omega, List.getElem?_cons_succ, List.getElem?_cons_succ, List.append_assoc, List.getElem?_append_right (by simp [hlen])]
        simp [hlen]⟩
      generalize (cWord (cDeps j s1).2).1 = x at HW HN
      go_wp2_with (go_at_call 44; refine HW.out.mono ?_; rintro E w5 ⟨rfl, hc5, hg5⟩; have D5 := Lib.hid (D.out.turn hg5.out hc5); clear hc5 hg5; have cx : w5.cell? ⟨gm, 2 + j, none⟩ = some (.int .u64 0) := D5.out.cell _ _ HN.out.2; have hf := fun k => free_block D5.out.msg k)
      go_roundw
      case measure => simp [intOf] <;> omega
      case rel => exact ⟨j + 1, by omega, by go_num, Lib.hid (D5.out.set _ _ HN.out.1)⟩
    · obtain rfl : j = 11 := by omega
      have D4 : Hid (CtM w lo g gm s2 (depM (o : Int) l) wr) := Lib.hid (by have := D.out; rwa [HE.out] at this)
      have HB3 := Lib.hid (HB2.out _ D4.out.cut)
      go_wp2_with (first | (go_at_call 75; refine HB3.out.mono ?_; rintro E w5 ⟨rfl, hc5, hg5⟩; have D5 := Lib.hid (D4.out.turn hg5.out hc5); clear hc5 hg5) | (go_at_call 76; refine (readers_ms w5).mono ?_; rintro E w6 ⟨rfl, hm6, hb6⟩; have D6 := Lib.hid (D5.out.below hb6); have M6 := Lib.hid hm6; clear hm6 hb6) | (refine wpList_look_at rfl (.tmp 24) (.tmp 25) 99 5 _ .u8 rfl Tryz.underlying99 Tryz.underlying5 w5.heap.size rdE 6 (k : Int) _ i rfl M6.out rfl HKF.out ?_) | (go_at_call 103; refine (HRD.out w6 lo g s3 D6.out.cut).mono ?_; rintro E w7 ⟨rfl, hc7, hg7⟩; have D7 := Lib.hid (D6.out.turn hg7.out hc7); clear hc7 hg7) | (refine wpList_store_part rfl 32 (.tmp 33) (.tmp 32) rfl gm 13 (msgC (depM (o : Int) l)) (msgC { depM (o : Int) l with body := (rd s3).1 }) (bodyC (rd s3).1) 34 D7.out.msg HSB.out.1 HSB.out.2.1 rfl rfl HSB.out.2.2 (one_bodyC _) ?_; intro w8 G8; have D8' := Lib.hid (D7.out.put G8.out); have ck : w8.cell? ⟨gm, 13, none⟩ = some (.int .u8 ((rd s3).1.kind.toNat : Int)) := D8'.out.cell _ _ HSK.out.2; have hf := fun k => free_block D8'.out.msg k; have D8 := Lib.hid (D8'.out.set 13 (.int .u8 (k : Int)) HSK.out.1)) | ((with_reducible refine wpList_load_midG ?_ 34 (.tmp 3) ?_ gm 0 ?_ (msgC ({ depM (o : Int) l with body := { (rd s3).1 with kind := UInt8.ofNat k } })) _ ?_ Tryz.underlying34 ?_ ?_ ?_); (· rfl); (· rfl); (· rfl); (· exact range_of D8.out.msg); (· rfl); (· exact HLM.out.2.2)) | (refine wpList_store_part rfl 34 (.tmp 2) (.tmp 37) rfl w.heap.size 0 (msgC zeroMsg) (msgC ({ depM (o : Int) l with body := { (rd s3).1 with kind := UInt8.ofNat k } })) (msgC ({ depM (o : Int) l with body := { (rd s3).1 with kind := UInt8.ofNat k } })) 34 D8.out.res HLM.out.1 HLM.out.2.1 rfl rfl HLM.out.2.2 (one_msgC _) ?_; intro w9 G9))
      exact bodyPost_ret (ret_range (cs := msgC ({ depM (o : Int) l with body := { (rd s3).1 with kind := UInt8.ofNat k } })) rfl rfl (range_of G9.out.1) Tryz.underlying34 rfl HLM.out.2.2) rfl ⟨rfl, D8.out.cut.far G9.out.2 HG.out, Lib.hid (gb_new D8.out.gb G9.out.2 (Nat.le_refl _))⟩
end Go.Proofs.YtghjogneogkpoaaGreatDoor.Sh
