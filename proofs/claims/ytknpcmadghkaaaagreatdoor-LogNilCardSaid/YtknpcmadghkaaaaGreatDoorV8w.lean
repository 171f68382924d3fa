/- Laws and walks. -/
import Derived.Test.YtknpcmadghkaaaaGreatDoorV5w
set_option maxHeartbeats 16000000
set_option maxRecDepth 100000
namespace Go.Proofs.YtknpcmadghkaaaaGreatDoor.Sh
open Go.RowKit
def ownR (x : MBody) : MBody :=
 if x.kind = 1 then { zeroBody with kind := x.kind, view := x.view, req := x.req }
 else if x.kind = 2 then { zeroBody with kind := x.kind, view := x.view, k := x.k }
 else if x.kind = 3 then { zeroBody with kind := x.kind, view := x.view }
 else if x.kind = 5 then { zeroBody with kind := x.kind, view := x.view }
 else if x.kind = 4 then { zeroBody with kind := x.kind, view := x.view, qa := x.qa, qc := x.qc, qs := x.qs }
 else if x.kind = 6 then { zeroBody with kind := x.kind, k := x.k, dig := x.dig }
 else { zeroBody with kind := x.kind }
theorem ownR_wf {x : MBody} (h : x.Wf) : (ownR x).Wf := by
 unfold ownR
 split
 ·exact ⟨h.1, rfl⟩
 split
 ·exact ⟨rfl, rfl⟩
 split
 ·exact ⟨rfl, rfl⟩
 split
 ·exact ⟨rfl, rfl⟩
 split
 ·exact ⟨rfl, rfl⟩
 split
 ·exact ⟨rfl, h.2⟩
 ·exact ⟨rfl, rfl⟩
structure OwR (w : World) (x o : MBody) (wr : World) : Prop where
 bel : Below w.heap.size w wr
 lt : w.heap.size + 2 < wr.heap.size
 src : wr.rangeAt w.heap.size 0 (bodyC x)
 res : wr.heap[w.heap.size + 1]? = some (.cells (bodyC zeroBody).toArray 35 (0, 0))
 own : wr.heap[w.heap.size + 2]? = some (.cells (bodyC o).toArray 35 (0, 0))
theorem OwR.grown {w : World} {x o o' : MBody} {wr w' : World} (H : OwR w x o wr) (h : w'.heap[w.heap.size + 2]? = some (.cells (bodyC o').toArray 35 (0, 0)) /\ wr.grownBy w' (some (w.heap.size + 2))) : OwR w x o' w' :=
 ⟨H.bel.grown h.2 H.bel.size (fun k hk => by injection hk with hk; omega), Nat.lt_of_lt_of_le H.lt h.2.size, fun j v hv => h.2.cell (H.src j v hv) (by simp), (h.2.block _ (by have := H.lt; omega) (by simp)).trans H.res, h.1⟩
theorem OwR.set {w : World} {x o : MBody} {wr : World} (H : OwR w x o wr) (k : Nat) (v : Value) {o' : MBody} (hC : (bodyC o).set k v = bodyC o') : OwR w x o' (wr.setCell ⟨w.heap.size + 2, k, none⟩ v) := by
 refine H.grown ⟨?_, gb_set _ _ _ _⟩
 have := heap_set H.own v (k := k)
 rwa [hC] at this
theorem OwR.cell {w : World} {x o : MBody} {wr : World} (H : OwR w x o wr) (k : Nat) (v : Value) (hC : (bodyC o)[k]? = some v) : wr.cell? ⟨w.heap.size + 2, k, none⟩ = some v := by
 have := range_of H.own k v hC
 rwa [Nat.zero_add] at this
theorem set_view (o : MBody) (n : Nat) : (bodyC o).set 1 (.int .u64 (n : Int)) = bodyC { o with view := n } := rfl
theorem set_k (o : MBody) (n : Nat) : (bodyC o).set 2 (.int .u64 (n : Int)) = bodyC { o with k := n } := rfl
theorem ownr_3 (x : MBody) (w : World) (hx : x.Wf) (HKI : Hid (x.kind = 3)) :
  Calls Tryz.prog 109 #[.agg (bodyC x).toArray] w fun E w' => E = .returned (.agg (bodyC ({ zeroBody with kind := 3, view := x.view })).toArray) /\ Hid (Below w.heap.size w w') := by
 have HLF : Hid (0 + (bodyC ({ zeroBody with kind := 3, view := x.view })).length <= (bodyC zeroBody).length /\ setAll (bodyC zeroBody) 0 (bodyC ({ zeroBody with kind := 3, view := x.view })) = bodyC ({ zeroBody with kind := 3, view := x.view })) := iq ⟨by rw [bodyC_length zero_wf, bodyC_length (b := { zeroBody with kind := 3, view := x.view }) ⟨rfl, rfl⟩]; omega, setAll_all (by rw [bodyC_length zero_wf, bodyC_length (b := { zeroBody with kind := 3, view := x.view }) ⟨rfl, rfl⟩])⟩
 have HK : Hid (∀ o : MBody, o.Wf -> (Tryz.prog.info? 35).map (·.size) = some (bodyC o).length) := iq fun o h => by rw [bodyC_length h]; exact Tryz.is35
 have HX := iq hx
 have hz : ∀ w, (zeroValue 35).run Tryz.prog w = .ok (.agg (bodyC zeroBody).toArray) w := zero_body
 have R := body_lies (World.rangeAt_alloc (range_box w (bodyC x) 35) (.cells (bodyC zeroBody).toArray 35)) hx
 have x0 : ((w.alloc (.cells (bodyC x).toArray 35)).alloc (.cells (bodyC zeroBody).toArray 35)).cell? ⟨w.heap.size, 0, none⟩ = some (.int .u8 3) := R.kind.trans (by rw [HKI.out]; rfl)
 have HZ : Hid (OwR w x zeroBody (((w.alloc (.cells (bodyC x).toArray 35)).alloc (.cells (bodyC zeroBody).toArray 35)).alloc (.cells (bodyC zeroBody).toArray 35))) := iq ⟨((bl.alloc (Nat.le_refl _) _).alloc (by simp) _).alloc (by simp; omega) _, by simp, World.rangeAt_alloc (World.rangeAt_alloc (range_box w (bodyC x) 35) _) _, by
  have h1 := heap_alloc_new (w.alloc (.cells (bodyC x).toArray 35)) (.cells (bodyC zeroBody).toArray 35)
  have h2 := (bl.alloc (Nat.le_refl _) (.cells (bodyC zeroBody).toArray 35) : Below ((w.alloc (.cells (bodyC x).toArray 35)).alloc (.cells (bodyC zeroBody).toArray 35)).heap.size _ _).block (w.heap.size + 1) (by simp)
  exact h2.trans (by simpa using h1), by simpa using heap_alloc_new ((w.alloc (.cells (bodyC x).toArray 35)).alloc (.cells (bodyC zeroBody).toArray 35)) (.cells (bodyC zeroBody).toArray 35)⟩
 have HLE : Hid (0 + (bodyC { zeroBody with kind := 3 }).length <= (bodyC zeroBody).length /\ setAll (bodyC zeroBody) 0 (bodyC { zeroBody with kind := 3 }) = bodyC { zeroBody with kind := 3 }) := iq ⟨by rw [bodyC_length zero_wf, bodyC_length ⟨rfl, rfl⟩]; omega, setAll_all (by rw [bodyC_length zero_wf, bodyC_length ⟨rfl, rfl⟩])⟩
 clear R hx
 go_enter Tryz.func109, Tryz.ntmps109
 go_wp2_with (first | (refine wpList_store_part rfl 35 (.tmp 3) (.tmp 6) rfl (w.heap.size + 2) 0 (bodyC zeroBody) (bodyC { zeroBody with kind := 3 }) (bodyC { zeroBody with kind := 3 }) 35 HZ.out.own (HLE.out.1) (HLE.out.2) rfl rfl (HK.out _ ⟨rfl, rfl⟩) (one_bodyC _) ?_; intro w1 G1; have H1 := iq (HZ.out.grown G1.out); clear G1 HZ x0; have y0 : w1.cell? ⟨w.heap.size, 0, none⟩ = some (.int .u8 3) := (body_lies H1.out.src HX.out).kind.trans (by rw [HKI.out]; rfl); have y1 : w1.cell? ⟨w.heap.size, 1, none⟩ = some (.int .u64 (x.view : Int)) := (body_lies H1.out.src HX.out).view; have y2 : w1.cell? ⟨w.heap.size, 2, none⟩ = some (.int .u64 (x.k : Int)) := (body_lies H1.out.src HX.out).k; have y43 : w1.cell? ⟨w.heap.size, 43, none⟩ = some (.slice x.qa x.qs.length x.qc) := (body_lies H1.out.src HX.out).q; have z1 : w1.cell? ⟨w.heap.size + 2, 1, none⟩ = some (.int .u64 0) := H1.out.cell 1 _ rfl; have z2 : w1.cell? ⟨w.heap.size + 2, 2, none⟩ = some (.int .u64 0) := H1.out.cell 2 _ rfl; have z43 : w1.cell? ⟨w.heap.size + 2, 43, none⟩ = some (.slice none 0 0) := H1.out.cell 43 _ rfl; have hf := fun k => free_block H1.out.own k; have H2 := iq (H1.out.set 1 (.int .u64 (x.view : Int)) (set_view _ _)); have p2y0 : (w1.setCell ⟨w.heap.size + 2, 1, none⟩ (.int .u64 (x.view : Int))).cell? ⟨w.heap.size, 0, none⟩ = some (.int .u8 3) := (body_lies H2.out.src HX.out).kind.trans (by rw [HKI.out]; rfl); have p2y1 : (w1.setCell ⟨w.heap.size + 2, 1, none⟩ (.int .u64 (x.view : Int))).cell? ⟨w.heap.size, 1, none⟩ = some (.int .u64 (x.view : Int)) := (body_lies H2.out.src HX.out).view; have p2y2 : (w1.setCell ⟨w.heap.size + 2, 1, none⟩ (.int .u64 (x.view : Int))).cell? ⟨w.heap.size, 2, none⟩ = some (.int .u64 (x.k : Int)) := (body_lies H2.out.src HX.out).k; have p2y43 : (w1.setCell ⟨w.heap.size + 2, 1, none⟩ (.int .u64 (x.view : Int))).cell? ⟨w.heap.size, 43, none⟩ = some (.slice x.qa x.qs.length x.qc) := (body_lies H2.out.src HX.out).q; have p2z1 : (w1.setCell ⟨w.heap.size + 2, 1, none⟩ (.int .u64 (x.view : Int))).cell? ⟨w.heap.size + 2, 1, none⟩ = some (.int .u64 (x.view : Int)) := H2.out.cell 1 _ rfl; have p2z2 : (w1.setCell ⟨w.heap.size + 2, 1, none⟩ (.int .u64 (x.view : Int))).cell? ⟨w.heap.size + 2, 2, none⟩ = some (.int .u64 0) := H2.out.cell 2 _ rfl; have p2z43 : (w1.setCell ⟨w.heap.size + 2, 1, none⟩ (.int .u64 (x.view : Int))).cell? ⟨w.heap.size + 2, 43, none⟩ = some (.slice none 0 0) := H2.out.cell 43 _ rfl; have p2hf := fun k => free_block H2.out.own k) | ((with_reducible refine wpList_load_midG ?_ 35 (.tmp 3) ?_ (w.heap.size + 2) 0 ?_ (bodyC ({ zeroBody with kind := 3, view := x.view })) _ ?_ Tryz.underlying35 ?_ ?_ ?_); rfl; rfl; rfl; exact range_of H2.out.own; rfl; exact HK.out _ ⟨rfl, rfl⟩) | (refine wpList_store_part rfl 35 (.tmp 2) (.tmp 47) rfl (w.heap.size + 1) 0 (bodyC zeroBody) (bodyC ({ zeroBody with kind := 3, view := x.view })) (bodyC ({ zeroBody with kind := 3, view := x.view })) 35 H2.out.res HLF.out.1 HLF.out.2 rfl rfl (HK.out _ ⟨rfl, rfl⟩) (one_bodyC _) ?_; intro w9 G9))
 exact bodyPost_ret (ret_range (cs := bodyC ({ zeroBody with kind := 3, view := x.view })) rfl rfl (range_of G9.out.1) Tryz.underlying35 rfl (HK.out _ ⟨rfl, rfl⟩)) rfl ⟨rfl, iq (H2.out.bel.grown G9.out.2 H2.out.bel.size (fun k hk => by injection hk with hk; omega))⟩
theorem ownr_5 (x : MBody) (w : World) (hx : x.Wf) (HKI : Hid (x.kind = 5)) :
  Calls Tryz.prog 109 #[.agg (bodyC x).toArray] w fun E w' => E = .returned (.agg (bodyC ({ zeroBody with kind := 5, view := x.view })).toArray) /\ Hid (Below w.heap.size w w') := by
 have HLF : Hid (0 + (bodyC ({ zeroBody with kind := 5, view := x.view })).length <= (bodyC zeroBody).length /\ setAll (bodyC zeroBody) 0 (bodyC ({ zeroBody with kind := 5, view := x.view })) = bodyC ({ zeroBody with kind := 5, view := x.view })) := iq ⟨by rw [bodyC_length zero_wf, bodyC_length (b := { zeroBody with kind := 5, view := x.view }) ⟨rfl, rfl⟩]; omega, setAll_all (by rw [bodyC_length zero_wf, bodyC_length (b := { zeroBody with kind := 5, view := x.view }) ⟨rfl, rfl⟩])⟩
 have HK : Hid (∀ o : MBody, o.Wf -> (Tryz.prog.info? 35).map (·.size) = some (bodyC o).length) := iq fun o h => by rw [bodyC_length h]; exact Tryz.is35
 have HX := iq hx
 have hz : ∀ w, (zeroValue 35).run Tryz.prog w = .ok (.agg (bodyC zeroBody).toArray) w := zero_body
 have R := body_lies (World.rangeAt_alloc (range_box w (bodyC x) 35) (.cells (bodyC zeroBody).toArray 35)) hx
 have x0 : ((w.alloc (.cells (bodyC x).toArray 35)).alloc (.cells (bodyC zeroBody).toArray 35)).cell? ⟨w.heap.size, 0, none⟩ = some (.int .u8 5) := R.kind.trans (by rw [HKI.out]; rfl)
 have HZ : Hid (OwR w x zeroBody (((w.alloc (.cells (bodyC x).toArray 35)).alloc (.cells (bodyC zeroBody).toArray 35)).alloc (.cells (bodyC zeroBody).toArray 35))) := iq ⟨((bl.alloc (Nat.le_refl _) _).alloc (by simp) _).alloc (by simp; omega) _, by simp, World.rangeAt_alloc (World.rangeAt_alloc (range_box w (bodyC x) 35) _) _, by
  have h1 := heap_alloc_new (w.alloc (.cells (bodyC x).toArray 35)) (.cells (bodyC zeroBody).toArray 35)
  have h2 := (bl.alloc (Nat.le_refl _) (.cells (bodyC zeroBody).toArray 35) : Below ((w.alloc (.cells (bodyC x).toArray 35)).alloc (.cells (bodyC zeroBody).toArray 35)).heap.size _ _).block (w.heap.size + 1) (by simp)
  exact h2.trans (by simpa using h1), by simpa using heap_alloc_new ((w.alloc (.cells (bodyC x).toArray 35)).alloc (.cells (bodyC zeroBody).toArray 35)) (.cells (bodyC zeroBody).toArray 35)⟩
 have HLE : Hid (0 + (bodyC { zeroBody with kind := 5 }).length <= (bodyC zeroBody).length /\ setAll (bodyC zeroBody) 0 (bodyC { zeroBody with kind := 5 }) = bodyC { zeroBody with kind := 5 }) := iq ⟨by rw [bodyC_length zero_wf, bodyC_length ⟨rfl, rfl⟩]; omega, setAll_all (by rw [bodyC_length zero_wf, bodyC_length ⟨rfl, rfl⟩])⟩
 clear R hx
 go_enter Tryz.func109, Tryz.ntmps109
 go_wp2_with (first | (refine wpList_store_part rfl 35 (.tmp 3) (.tmp 6) rfl (w.heap.size + 2) 0 (bodyC zeroBody) (bodyC { zeroBody with kind := 5 }) (bodyC { zeroBody with kind := 5 }) 35 HZ.out.own (HLE.out.1) (HLE.out.2) rfl rfl (HK.out _ ⟨rfl, rfl⟩) (one_bodyC _) ?_; intro w1 G1; have H1 := iq (HZ.out.grown G1.out); clear G1 HZ x0; have y0 : w1.cell? ⟨w.heap.size, 0, none⟩ = some (.int .u8 5) := (body_lies H1.out.src HX.out).kind.trans (by rw [HKI.out]; rfl); have y1 : w1.cell? ⟨w.heap.size, 1, none⟩ = some (.int .u64 (x.view : Int)) := (body_lies H1.out.src HX.out).view; have y2 : w1.cell? ⟨w.heap.size, 2, none⟩ = some (.int .u64 (x.k : Int)) := (body_lies H1.out.src HX.out).k; have y43 : w1.cell? ⟨w.heap.size, 43, none⟩ = some (.slice x.qa x.qs.length x.qc) := (body_lies H1.out.src HX.out).q; have z1 : w1.cell? ⟨w.heap.size + 2, 1, none⟩ = some (.int .u64 0) := H1.out.cell 1 _ rfl; have z2 : w1.cell? ⟨w.heap.size + 2, 2, none⟩ = some (.int .u64 0) := H1.out.cell 2 _ rfl; have z43 : w1.cell? ⟨w.heap.size + 2, 43, none⟩ = some (.slice none 0 0) := H1.out.cell 43 _ rfl; have hf := fun k => free_block H1.out.own k; have H2 := iq (H1.out.set 1 (.int .u64 (x.view : Int)) (set_view _ _)); have p2y0 : (w1.setCell ⟨w.heap.size + 2, 1, none⟩ (.int .u64 (x.view : Int))).cell? ⟨w.heap.size, 0, none⟩ = some (.int .u8 5) := (body_lies H2.out.src HX.out).kind.trans (by rw [HKI.out]; rfl); have p2y1 : (w1.setCell ⟨w.heap.size + 2, 1, none⟩ (.int .u64 (x.view : Int))).cell? ⟨w.heap.size, 1, none⟩ = some (.int .u64 (x.view : Int)) := (body_lies H2.out.src HX.out).view; have p2y2 : (w1.setCell ⟨w.heap.size + 2, 1, none⟩ (.int .u64 (x.view : Int))).cell? ⟨w.heap.size, 2, none⟩ = some (.int .u64 (x.k : Int)) := (body_lies H2.out.src HX.out).k; have p2y43 : (w1.setCell ⟨w.heap.size + 2, 1, none⟩ (.int .u64 (x.view : Int))).cell? ⟨w.heap.size, 43, none⟩ = some (.slice x.qa x.qs.length x.qc) := (body_lies H2.out.src HX.out).q; have p2z1 : (w1.setCell ⟨w.heap.size + 2, 1, none⟩ (.int .u64 (x.view : Int))).cell? ⟨w.heap.size + 2, 1, none⟩ = some (.int .u64 (x.view : Int)) := H2.out.cell 1 _ rfl; have p2z2 : (w1.setCell ⟨w.heap.size + 2, 1, none⟩ (.int .u64 (x.view : Int))).cell? ⟨w.heap.size + 2, 2, none⟩ = some (.int .u64 0) := H2.out.cell 2 _ rfl; have p2z43 : (w1.setCell ⟨w.heap.size + 2, 1, none⟩ (.int .u64 (x.view : Int))).cell? ⟨w.heap.size + 2, 43, none⟩ = some (.slice none 0 0) := H2.out.cell 43 _ rfl; have p2hf := fun k => free_block H2.out.own k) | ((with_reducible refine wpList_load_midG ?_ 35 (.tmp 3) ?_ (w.heap.size + 2) 0 ?_ (bodyC ({ zeroBody with kind := 5, view := x.view })) _ ?_ Tryz.underlying35 ?_ ?_ ?_); rfl; rfl; rfl; exact range_of H2.out.own; rfl; exact HK.out _ ⟨rfl, rfl⟩) | (refine wpList_store_part rfl 35 (.tmp 2) (.tmp 47) rfl (w.heap.size + 1) 0 (bodyC zeroBody) (bodyC ({ zeroBody with kind := 5, view := x.view })) (bodyC ({ zeroBody with kind := 5, view := x.view })) 35 H2.out.res HLF.out.1 HLF.out.2 rfl rfl (HK.out _ ⟨rfl, rfl⟩) (one_bodyC _) ?_; intro w9 G9))
 exact bodyPost_ret (ret_range (cs := bodyC ({ zeroBody with kind := 5, view := x.view })) rfl rfl (range_of G9.out.1) Tryz.underlying35 rfl (HK.out _ ⟨rfl, rfl⟩)) rfl ⟨rfl, iq (H2.out.bel.grown G9.out.2 H2.out.bel.size (fun k hk => by injection hk with hk; omega))⟩
theorem ownr_2 (x : MBody) (w : World) (hx : x.Wf) (HKI : Hid (x.kind = 2)) :
  Calls Tryz.prog 109 #[.agg (bodyC x).toArray] w fun E w' => E = .returned (.agg (bodyC ({ zeroBody with kind := 2, view := x.view, k := x.k })).toArray) /\ Hid (Below w.heap.size w w') := by
 have HLF : Hid (0 + (bodyC ({ zeroBody with kind := 2, view := x.view, k := x.k })).length <= (bodyC zeroBody).length /\ setAll (bodyC zeroBody) 0 (bodyC ({ zeroBody with kind := 2, view := x.view, k := x.k })) = bodyC ({ zeroBody with kind := 2, view := x.view, k := x.k })) := iq ⟨by rw [bodyC_length zero_wf, bodyC_length (b := { zeroBody with kind := 2, view := x.view, k := x.k }) ⟨rfl, rfl⟩]; omega, setAll_all (by rw [bodyC_length zero_wf, bodyC_length (b := { zeroBody with kind := 2, view := x.view, k := x.k }) ⟨rfl, rfl⟩])⟩
 have HK : Hid (∀ o : MBody, o.Wf -> (Tryz.prog.info? 35).map (·.size) = some (bodyC o).length) := iq fun o h => by rw [bodyC_length h]; exact Tryz.is35
 have HX := iq hx
 have hz : ∀ w, (zeroValue 35).run Tryz.prog w = .ok (.agg (bodyC zeroBody).toArray) w := zero_body
 have R := body_lies (World.rangeAt_alloc (range_box w (bodyC x) 35) (.cells (bodyC zeroBody).toArray 35)) hx
 have x0 : ((w.alloc (.cells (bodyC x).toArray 35)).alloc (.cells (bodyC zeroBody).toArray 35)).cell? ⟨w.heap.size, 0, none⟩ = some (.int .u8 2) := R.kind.trans (by rw [HKI.out]; rfl)
 have HZ : Hid (OwR w x zeroBody (((w.alloc (.cells (bodyC x).toArray 35)).alloc (.cells (bodyC zeroBody).toArray 35)).alloc (.cells (bodyC zeroBody).toArray 35))) := iq ⟨((bl.alloc (Nat.le_refl _) _).alloc (by simp) _).alloc (by simp; omega) _, by simp, World.rangeAt_alloc (World.rangeAt_alloc (range_box w (bodyC x) 35) _) _, by
  have h1 := heap_alloc_new (w.alloc (.cells (bodyC x).toArray 35)) (.cells (bodyC zeroBody).toArray 35)
  have h2 := (bl.alloc (Nat.le_refl _) (.cells (bodyC zeroBody).toArray 35) : Below ((w.alloc (.cells (bodyC x).toArray 35)).alloc (.cells (bodyC zeroBody).toArray 35)).heap.size _ _).block (w.heap.size + 1) (by simp)
  exact h2.trans (by simpa using h1), by simpa using heap_alloc_new ((w.alloc (.cells (bodyC x).toArray 35)).alloc (.cells (bodyC zeroBody).toArray 35)) (.cells (bodyC zeroBody).toArray 35)⟩
 have HLE : Hid (0 + (bodyC { zeroBody with kind := 2 }).length <= (bodyC zeroBody).length /\ setAll (bodyC zeroBody) 0 (bodyC { zeroBody with kind := 2 }) = bodyC { zeroBody with kind := 2 }) := iq ⟨by rw [bodyC_length zero_wf, bodyC_length ⟨rfl, rfl⟩]; omega, setAll_all (by rw [bodyC_length zero_wf, bodyC_length ⟨rfl, rfl⟩])⟩
 clear R hx
 go_enter Tryz.func109, Tryz.ntmps109
 go_wp2_with (first | (refine wpList_store_part rfl 35 (.tmp 3) (.tmp 6) rfl (w.heap.size + 2) 0 (bodyC zeroBody) (bodyC { zeroBody with kind := 2 }) (bodyC { zeroBody with kind := 2 }) 35 HZ.out.own (HLE.out.1) (HLE.out.2) rfl rfl (HK.out _ ⟨rfl, rfl⟩) (one_bodyC _) ?_; intro w1 G1; have H1 := iq (HZ.out.grown G1.out); clear G1 HZ x0; have y0 : w1.cell? ⟨w.heap.size, 0, none⟩ = some (.int .u8 2) := (body_lies H1.out.src HX.out).kind.trans (by rw [HKI.out]; rfl); have y1 : w1.cell? ⟨w.heap.size, 1, none⟩ = some (.int .u64 (x.view : Int)) := (body_lies H1.out.src HX.out).view; have y2 : w1.cell? ⟨w.heap.size, 2, none⟩ = some (.int .u64 (x.k : Int)) := (body_lies H1.out.src HX.out).k; have y43 : w1.cell? ⟨w.heap.size, 43, none⟩ = some (.slice x.qa x.qs.length x.qc) := (body_lies H1.out.src HX.out).q; have z1 : w1.cell? ⟨w.heap.size + 2, 1, none⟩ = some (.int .u64 0) := H1.out.cell 1 _ rfl; have z2 : w1.cell? ⟨w.heap.size + 2, 2, none⟩ = some (.int .u64 0) := H1.out.cell 2 _ rfl; have z43 : w1.cell? ⟨w.heap.size + 2, 43, none⟩ = some (.slice none 0 0) := H1.out.cell 43 _ rfl; have hf := fun k => free_block H1.out.own k; have H2 := iq (H1.out.set 1 (.int .u64 (x.view : Int)) (set_view _ _)); have p2y0 : (w1.setCell ⟨w.heap.size + 2, 1, none⟩ (.int .u64 (x.view : Int))).cell? ⟨w.heap.size, 0, none⟩ = some (.int .u8 2) := (body_lies H2.out.src HX.out).kind.trans (by rw [HKI.out]; rfl); have p2y1 : (w1.setCell ⟨w.heap.size + 2, 1, none⟩ (.int .u64 (x.view : Int))).cell? ⟨w.heap.size, 1, none⟩ = some (.int .u64 (x.view : Int)) := (body_lies H2.out.src HX.out).view; have p2y2 : (w1.setCell ⟨w.heap.size + 2, 1, none⟩ (.int .u64 (x.view : Int))).cell? ⟨w.heap.size, 2, none⟩ = some (.int .u64 (x.k : Int)) := (body_lies H2.out.src HX.out).k; have p2y43 : (w1.setCell ⟨w.heap.size + 2, 1, none⟩ (.int .u64 (x.view : Int))).cell? ⟨w.heap.size, 43, none⟩ = some (.slice x.qa x.qs.length x.qc) := (body_lies H2.out.src HX.out).q; have p2z1 : (w1.setCell ⟨w.heap.size + 2, 1, none⟩ (.int .u64 (x.view : Int))).cell? ⟨w.heap.size + 2, 1, none⟩ = some (.int .u64 (x.view : Int)) := H2.out.cell 1 _ rfl; have p2z2 : (w1.setCell ⟨w.heap.size + 2, 1, none⟩ (.int .u64 (x.view : Int))).cell? ⟨w.heap.size + 2, 2, none⟩ = some (.int .u64 0) := H2.out.cell 2 _ rfl; have p2z43 : (w1.setCell ⟨w.heap.size + 2, 1, none⟩ (.int .u64 (x.view : Int))).cell? ⟨w.heap.size + 2, 43, none⟩ = some (.slice none 0 0) := H2.out.cell 43 _ rfl; have p2hf := fun k => free_block H2.out.own k; have H3 := iq (H2.out.set 2 (.int .u64 (x.k : Int)) (set_k _ _)); have p3y0 : ((w1.setCell ⟨w.heap.size + 2, 1, none⟩ (.int .u64 (x.view : Int))).setCell ⟨w.heap.size + 2, 2, none⟩ (.int .u64 (x.k : Int))).cell? ⟨w.heap.size, 0, none⟩ = some (.int .u8 2) := (body_lies H3.out.src HX.out).kind.trans (by rw [HKI.out]; rfl); have p3y1 : ((w1.setCell ⟨w.heap.size + 2, 1, none⟩ (.int .u64 (x.view : Int))).setCell ⟨w.heap.size + 2, 2, none⟩ (.int .u64 (x.k : Int))).cell? ⟨w.heap.size, 1, none⟩ = some (.int .u64 (x.view : Int)) := (body_lies H3.out.src HX.out).view; have p3y2 : ((w1.setCell ⟨w.heap.size + 2, 1, none⟩ (.int .u64 (x.view : Int))).setCell ⟨w.heap.size + 2, 2, none⟩ (.int .u64 (x.k : Int))).cell? ⟨w.heap.size, 2, none⟩ = some (.int .u64 (x.k : Int)) := (body_lies H3.out.src HX.out).k; have p3y43 : ((w1.setCell ⟨w.heap.size + 2, 1, none⟩ (.int .u64 (x.view : Int))).setCell ⟨w.heap.size + 2, 2, none⟩ (.int .u64 (x.k : Int))).cell? ⟨w.heap.size, 43, none⟩ = some (.slice x.qa x.qs.length x.qc) := (body_lies H3.out.src HX.out).q; have p3z1 : ((w1.setCell ⟨w.heap.size + 2, 1, none⟩ (.int .u64 (x.view : Int))).setCell ⟨w.heap.size + 2, 2, none⟩ (.int .u64 (x.k : Int))).cell? ⟨w.heap.size + 2, 1, none⟩ = some (.int .u64 (x.view : Int)) := H3.out.cell 1 _ rfl; have p3z2 : ((w1.setCell ⟨w.heap.size + 2, 1, none⟩ (.int .u64 (x.view : Int))).setCell ⟨w.heap.size + 2, 2, none⟩ (.int .u64 (x.k : Int))).cell? ⟨w.heap.size + 2, 2, none⟩ = some (.int .u64 (x.k : Int)) := H3.out.cell 2 _ rfl; have p3z43 : ((w1.setCell ⟨w.heap.size + 2, 1, none⟩ (.int .u64 (x.view : Int))).setCell ⟨w.heap.size + 2, 2, none⟩ (.int .u64 (x.k : Int))).cell? ⟨w.heap.size + 2, 43, none⟩ = some (.slice none 0 0) := H3.out.cell 43 _ rfl; have p3hf := fun k => free_block H3.out.own k) | ((with_reducible refine wpList_load_midG ?_ 35 (.tmp 3) ?_ (w.heap.size + 2) 0 ?_ (bodyC ({ zeroBody with kind := 2, view := x.view, k := x.k })) _ ?_ Tryz.underlying35 ?_ ?_ ?_); rfl; rfl; rfl; exact range_of H3.out.own; rfl; exact HK.out _ ⟨rfl, rfl⟩) | (refine wpList_store_part rfl 35 (.tmp 2) (.tmp 47) rfl (w.heap.size + 1) 0 (bodyC zeroBody) (bodyC ({ zeroBody with kind := 2, view := x.view, k := x.k })) (bodyC ({ zeroBody with kind := 2, view := x.view, k := x.k })) 35 H3.out.res HLF.out.1 HLF.out.2 rfl rfl (HK.out _ ⟨rfl, rfl⟩) (one_bodyC _) ?_; intro w9 G9))
 exact bodyPost_ret (ret_range (cs := bodyC ({ zeroBody with kind := 2, view := x.view, k := x.k })) rfl rfl (range_of G9.out.1) Tryz.underlying35 rfl (HK.out _ ⟨rfl, rfl⟩)) rfl ⟨rfl, iq (H3.out.bel.grown G9.out.2 H3.out.bel.size (fun k hk => by injection hk with hk; omega))⟩
theorem ownr_1 (x : MBody) (w : World) (hx : x.Wf) (HKI : Hid (x.kind = 1)) :
  Calls Tryz.prog 109 #[.agg (bodyC x).toArray] w fun E w' => E = .returned (.agg (bodyC ({ zeroBody with kind := 1, view := x.view, req := x.req })).toArray) /\ Hid (Below w.heap.size w w') := by
 have HLF : Hid (0 + (bodyC ({ zeroBody with kind := 1, view := x.view, req := x.req })).length <= (bodyC zeroBody).length /\ setAll (bodyC zeroBody) 0 (bodyC ({ zeroBody with kind := 1, view := x.view, req := x.req })) = bodyC ({ zeroBody with kind := 1, view := x.view, req := x.req })) := iq ⟨by rw [bodyC_length zero_wf, bodyC_length (b := { zeroBody with kind := 1, view := x.view, req := x.req }) ⟨hx.1, rfl⟩]; omega, setAll_all (by rw [bodyC_length zero_wf, bodyC_length (b := { zeroBody with kind := 1, view := x.view, req := x.req }) ⟨hx.1, rfl⟩])⟩
 have HIR : Hid ((Tryz.prog.info? 32).map (·.size) = some (reqC x.req).length) := iq (by rw [reqC_length hx.1]; exact Tryz.is32)
 have HSR : Hid (3 + (reqC x.req).length <= (bodyC ({ zeroBody with kind := 1, view := x.view })).length /\ setAll (bodyC ({ zeroBody with kind := 1, view := x.view })) 3 (reqC x.req) = bodyC ({ zeroBody with kind := 1, view := x.view, req := x.req })) := iq ⟨by rw [reqC_length hx.1, bodyC_length ⟨rfl, rfl⟩]; decide, set_req ({ zeroBody with kind := 1, view := x.view }) x.req rfl hx.1⟩
 have HK : Hid (∀ o : MBody, o.Wf -> (Tryz.prog.info? 35).map (·.size) = some (bodyC o).length) := iq fun o h => by rw [bodyC_length h]; exact Tryz.is35
 have HX := iq hx
 have hz : ∀ w, (zeroValue 35).run Tryz.prog w = .ok (.agg (bodyC zeroBody).toArray) w := zero_body
 have R := body_lies (World.rangeAt_alloc (range_box w (bodyC x) 35) (.cells (bodyC zeroBody).toArray 35)) hx
 have x0 : ((w.alloc (.cells (bodyC x).toArray 35)).alloc (.cells (bodyC zeroBody).toArray 35)).cell? ⟨w.heap.size, 0, none⟩ = some (.int .u8 1) := R.kind.trans (by rw [HKI.out]; rfl)
 have HZ : Hid (OwR w x zeroBody (((w.alloc (.cells (bodyC x).toArray 35)).alloc (.cells (bodyC zeroBody).toArray 35)).alloc (.cells (bodyC zeroBody).toArray 35))) := iq ⟨((bl.alloc (Nat.le_refl _) _).alloc (by simp) _).alloc (by simp; omega) _, by simp, World.rangeAt_alloc (World.rangeAt_alloc (range_box w (bodyC x) 35) _) _, by
  have h1 := heap_alloc_new (w.alloc (.cells (bodyC x).toArray 35)) (.cells (bodyC zeroBody).toArray 35)
  have h2 := (bl.alloc (Nat.le_refl _) (.cells (bodyC zeroBody).toArray 35) : Below ((w.alloc (.cells (bodyC x).toArray 35)).alloc (.cells (bodyC zeroBody).toArray 35)).heap.size _ _).block (w.heap.size + 1) (by simp)
  exact h2.trans (by simpa using h1), by simpa using heap_alloc_new ((w.alloc (.cells (bodyC x).toArray 35)).alloc (.cells (bodyC zeroBody).toArray 35)) (.cells (bodyC zeroBody).toArray 35)⟩
 have HLE : Hid (0 + (bodyC { zeroBody with kind := 1 }).length <= (bodyC zeroBody).length /\ setAll (bodyC zeroBody) 0 (bodyC { zeroBody with kind := 1 }) = bodyC { zeroBody with kind := 1 }) := iq ⟨by rw [bodyC_length zero_wf, bodyC_length ⟨rfl, rfl⟩]; omega, setAll_all (by rw [bodyC_length zero_wf, bodyC_length ⟨rfl, rfl⟩])⟩
 clear R hx
 go_enter Tryz.func109, Tryz.ntmps109
 go_wp2_with (first | (refine wpList_store_part rfl 35 (.tmp 3) (.tmp 6) rfl (w.heap.size + 2) 0 (bodyC zeroBody) (bodyC { zeroBody with kind := 1 }) (bodyC { zeroBody with kind := 1 }) 35 HZ.out.own (HLE.out.1) (HLE.out.2) rfl rfl (HK.out _ ⟨rfl, rfl⟩) (one_bodyC _) ?_; intro w1 G1; have H1 := iq (HZ.out.grown G1.out); clear G1 HZ x0; have y0 : w1.cell? ⟨w.heap.size, 0, none⟩ = some (.int .u8 1) := (body_lies H1.out.src HX.out).kind.trans (by rw [HKI.out]; rfl); have y1 : w1.cell? ⟨w.heap.size, 1, none⟩ = some (.int .u64 (x.view : Int)) := (body_lies H1.out.src HX.out).view; have y2 : w1.cell? ⟨w.heap.size, 2, none⟩ = some (.int .u64 (x.k : Int)) := (body_lies H1.out.src HX.out).k; have y43 : w1.cell? ⟨w.heap.size, 43, none⟩ = some (.slice x.qa x.qs.length x.qc) := (body_lies H1.out.src HX.out).q; have z1 : w1.cell? ⟨w.heap.size + 2, 1, none⟩ = some (.int .u64 0) := H1.out.cell 1 _ rfl; have z2 : w1.cell? ⟨w.heap.size + 2, 2, none⟩ = some (.int .u64 0) := H1.out.cell 2 _ rfl; have z43 : w1.cell? ⟨w.heap.size + 2, 43, none⟩ = some (.slice none 0 0) := H1.out.cell 43 _ rfl; have hf := fun k => free_block H1.out.own k; have H2 := iq (H1.out.set 1 (.int .u64 (x.view : Int)) (set_view _ _)); have p2y0 : (w1.setCell ⟨w.heap.size + 2, 1, none⟩ (.int .u64 (x.view : Int))).cell? ⟨w.heap.size, 0, none⟩ = some (.int .u8 1) := (body_lies H2.out.src HX.out).kind.trans (by rw [HKI.out]; rfl); have p2y1 : (w1.setCell ⟨w.heap.size + 2, 1, none⟩ (.int .u64 (x.view : Int))).cell? ⟨w.heap.size, 1, none⟩ = some (.int .u64 (x.view : Int)) := (body_lies H2.out.src HX.out).view; have p2y2 : (w1.setCell ⟨w.heap.size + 2, 1, none⟩ (.int .u64 (x.view : Int))).cell? ⟨w.heap.size, 2, none⟩ = some (.int .u64 (x.k : Int)) := (body_lies H2.out.src HX.out).k; have p2y43 : (w1.setCell ⟨w.heap.size + 2, 1, none⟩ (.int .u64 (x.view : Int))).cell? ⟨w.heap.size, 43, none⟩ = some (.slice x.qa x.qs.length x.qc) := (body_lies H2.out.src HX.out).q; have p2z1 : (w1.setCell ⟨w.heap.size + 2, 1, none⟩ (.int .u64 (x.view : Int))).cell? ⟨w.heap.size + 2, 1, none⟩ = some (.int .u64 (x.view : Int)) := H2.out.cell 1 _ rfl; have p2z2 : (w1.setCell ⟨w.heap.size + 2, 1, none⟩ (.int .u64 (x.view : Int))).cell? ⟨w.heap.size + 2, 2, none⟩ = some (.int .u64 0) := H2.out.cell 2 _ rfl; have p2z43 : (w1.setCell ⟨w.heap.size + 2, 1, none⟩ (.int .u64 (x.view : Int))).cell? ⟨w.heap.size + 2, 43, none⟩ = some (.slice none 0 0) := H2.out.cell 43 _ rfl; have p2hf := fun k => free_block H2.out.own k) | ((with_reducible refine wpList_load_midG ?_ 32 (.tmp 14) ?_ w.heap.size 3 ?_ (reqC x.req) _ ?_ Tryz.underlying32 ?_ ?_ ?_); rfl; rfl; rfl; exact ((body_lies H2.out.src HX.out).req.all); rfl; exact HIR.out) | (refine wpList_store_part rfl 32 (.tmp 16) (.tmp 15) rfl (w.heap.size + 2) 3 _ (bodyC ({ zeroBody with kind := 1, view := x.view, req := x.req })) (reqC x.req) 35 H2.out.own HSR.out.1 HSR.out.2 rfl rfl HIR.out (one_reqC _) ?_; intro w3 G3; have H3 := iq (H2.out.grown G3.out)) | ((with_reducible refine wpList_load_midG ?_ 35 (.tmp 3) ?_ (w.heap.size + 2) 0 ?_ (bodyC ({ zeroBody with kind := 1, view := x.view, req := x.req })) _ ?_ Tryz.underlying35 ?_ ?_ ?_); rfl; rfl; rfl; exact range_of H3.out.own; rfl; exact HK.out _ ⟨HX.out.1, rfl⟩) | (refine wpList_store_part rfl 35 (.tmp 2) (.tmp 47) rfl (w.heap.size + 1) 0 (bodyC zeroBody) (bodyC ({ zeroBody with kind := 1, view := x.view, req := x.req })) (bodyC ({ zeroBody with kind := 1, view := x.view, req := x.req })) 35 H3.out.res HLF.out.1 HLF.out.2 rfl rfl (HK.out _ ⟨HX.out.1, rfl⟩) (one_bodyC _) ?_; intro w9 G9))
 exact bodyPost_ret (ret_range (cs := bodyC ({ zeroBody with kind := 1, view := x.view, req := x.req })) rfl rfl (range_of G9.out.1) Tryz.underlying35 rfl (HK.out _ ⟨HX.out.1, rfl⟩)) rfl ⟨rfl, iq (H3.out.bel.grown G9.out.2 H3.out.bel.size (fun k hk => by injection hk with hk; omega))⟩
theorem ownr_4 (x : MBody) (w : World) (hx : x.Wf) (HKI : Hid (x.kind = 4)) :
  Calls Tryz.prog 109 #[.agg (bodyC x).toArray] w fun E w' => E = .returned (.agg (bodyC ({ zeroBody with kind := 4, view := x.view, qa := x.qa, qc := x.qc, qs := x.qs })).toArray) /\ Hid (Below w.heap.size w w') := by
 have HLF : Hid (0 + (bodyC ({ zeroBody with kind := 4, view := x.view, qa := x.qa, qc := x.qc, qs := x.qs })).length <= (bodyC zeroBody).length /\ setAll (bodyC zeroBody) 0 (bodyC ({ zeroBody with kind := 4, view := x.view, qa := x.qa, qc := x.qc, qs := x.qs })) = bodyC ({ zeroBody with kind := 4, view := x.view, qa := x.qa, qc := x.qc, qs := x.qs })) := iq ⟨by rw [bodyC_length zero_wf, bodyC_length (b := { zeroBody with kind := 4, view := x.view, qa := x.qa, qc := x.qc, qs := x.qs }) ⟨rfl, rfl⟩]; omega, setAll_all (by rw [bodyC_length zero_wf, bodyC_length (b := { zeroBody with kind := 4, view := x.view, qa := x.qa, qc := x.qc, qs := x.qs }) ⟨rfl, rfl⟩])⟩
 have HK : Hid (∀ o : MBody, o.Wf -> (Tryz.prog.info? 35).map (·.size) = some (bodyC o).length) := iq fun o h => by rw [bodyC_length h]; exact Tryz.is35
 have HX := iq hx
 have hz : ∀ w, (zeroValue 35).run Tryz.prog w = .ok (.agg (bodyC zeroBody).toArray) w := zero_body
 have R := body_lies (World.rangeAt_alloc (range_box w (bodyC x) 35) (.cells (bodyC zeroBody).toArray 35)) hx
 have x0 : ((w.alloc (.cells (bodyC x).toArray 35)).alloc (.cells (bodyC zeroBody).toArray 35)).cell? ⟨w.heap.size, 0, none⟩ = some (.int .u8 4) := R.kind.trans (by rw [HKI.out]; rfl)
 have HZ : Hid (OwR w x zeroBody (((w.alloc (.cells (bodyC x).toArray 35)).alloc (.cells (bodyC zeroBody).toArray 35)).alloc (.cells (bodyC zeroBody).toArray 35))) := iq ⟨((bl.alloc (Nat.le_refl _) _).alloc (by simp) _).alloc (by simp; omega) _, by simp, World.rangeAt_alloc (World.rangeAt_alloc (range_box w (bodyC x) 35) _) _, by
  have h1 := heap_alloc_new (w.alloc (.cells (bodyC x).toArray 35)) (.cells (bodyC zeroBody).toArray 35)
  have h2 := (bl.alloc (Nat.le_refl _) (.cells (bodyC zeroBody).toArray 35) : Below ((w.alloc (.cells (bodyC x).toArray 35)).alloc (.cells (bodyC zeroBody).toArray 35)).heap.size _ _).block (w.heap.size + 1) (by simp)
  exact h2.trans (by simpa using h1), by simpa using heap_alloc_new ((w.alloc (.cells (bodyC x).toArray 35)).alloc (.cells (bodyC zeroBody).toArray 35)) (.cells (bodyC zeroBody).toArray 35)⟩
 have HLE : Hid (0 + (bodyC { zeroBody with kind := 4 }).length <= (bodyC zeroBody).length /\ setAll (bodyC zeroBody) 0 (bodyC { zeroBody with kind := 4 }) = bodyC { zeroBody with kind := 4 }) := iq ⟨by rw [bodyC_length zero_wf, bodyC_length ⟨rfl, rfl⟩]; omega, setAll_all (by rw [bodyC_length zero_wf, bodyC_length ⟨rfl, rfl⟩])⟩
 clear R hx
 go_enter Tryz.func109, Tryz.ntmps109
 go_wp2_with (first | (refine wpList_store_part rfl 35 (.tmp 3) (.tmp 6) rfl (w.heap.size + 2) 0 (bodyC zeroBody) (bodyC { zeroBody with kind := 4 }) (bodyC { zeroBody with kind := 4 }) 35 HZ.out.own (HLE.out.1) (HLE.out.2) rfl rfl (HK.out _ ⟨rfl, rfl⟩) (one_bodyC _) ?_; intro w1 G1; have H1 := iq (HZ.out.grown G1.out); clear G1 HZ x0; have y0 : w1.cell? ⟨w.heap.size, 0, none⟩ = some (.int .u8 4) := (body_lies H1.out.src HX.out).kind.trans (by rw [HKI.out]; rfl); have y1 : w1.cell? ⟨w.heap.size, 1, none⟩ = some (.int .u64 (x.view : Int)) := (body_lies H1.out.src HX.out).view; have y2 : w1.cell? ⟨w.heap.size, 2, none⟩ = some (.int .u64 (x.k : Int)) := (body_lies H1.out.src HX.out).k; have y43 : w1.cell? ⟨w.heap.size, 43, none⟩ = some (.slice x.qa x.qs.length x.qc) := (body_lies H1.out.src HX.out).q; have z1 : w1.cell? ⟨w.heap.size + 2, 1, none⟩ = some (.int .u64 0) := H1.out.cell 1 _ rfl; have z2 : w1.cell? ⟨w.heap.size + 2, 2, none⟩ = some (.int .u64 0) := H1.out.cell 2 _ rfl; have z43 : w1.cell? ⟨w.heap.size + 2, 43, none⟩ = some (.slice none 0 0) := H1.out.cell 43 _ rfl; have hf := fun k => free_block H1.out.own k; have H2 := iq (H1.out.set 1 (.int .u64 (x.view : Int)) (set_view _ _)); have p2y0 : (w1.setCell ⟨w.heap.size + 2, 1, none⟩ (.int .u64 (x.view : Int))).cell? ⟨w.heap.size, 0, none⟩ = some (.int .u8 4) := (body_lies H2.out.src HX.out).kind.trans (by rw [HKI.out]; rfl); have p2y1 : (w1.setCell ⟨w.heap.size + 2, 1, none⟩ (.int .u64 (x.view : Int))).cell? ⟨w.heap.size, 1, none⟩ = some (.int .u64 (x.view : Int)) := (body_lies H2.out.src HX.out).view; have p2y2 : (w1.setCell ⟨w.heap.size + 2, 1, none⟩ (.int .u64 (x.view : Int))).cell? ⟨w.heap.size, 2, none⟩ = some (.int .u64 (x.k : Int)) := (body_lies H2.out.src HX.out).k; have p2y43 : (w1.setCell ⟨w.heap.size + 2, 1, none⟩ (.int .u64 (x.view : Int))).cell? ⟨w.heap.size, 43, none⟩ = some (.slice x.qa x.qs.length x.qc) := (body_lies H2.out.src HX.out).q; have p2z1 : (w1.setCell ⟨w.heap.size + 2, 1, none⟩ (.int .u64 (x.view : Int))).cell? ⟨w.heap.size + 2, 1, none⟩ = some (.int .u64 (x.view : Int)) := H2.out.cell 1 _ rfl; have p2z2 : (w1.setCell ⟨w.heap.size + 2, 1, none⟩ (.int .u64 (x.view : Int))).cell? ⟨w.heap.size + 2, 2, none⟩ = some (.int .u64 0) := H2.out.cell 2 _ rfl; have p2z43 : (w1.setCell ⟨w.heap.size + 2, 1, none⟩ (.int .u64 (x.view : Int))).cell? ⟨w.heap.size + 2, 43, none⟩ = some (.slice none 0 0) := H2.out.cell 43 _ rfl; have p2hf := fun k => free_block H2.out.own k; have H3 := iq (H2.out.set 43 (.slice x.qa x.qs.length x.qc) (set_q _ _ _ _ rfl))) | ((with_reducible refine wpList_load_midG ?_ 35 (.tmp 3) ?_ (w.heap.size + 2) 0 ?_ (bodyC ({ zeroBody with kind := 4, view := x.view, qa := x.qa, qc := x.qc, qs := x.qs })) _ ?_ Tryz.underlying35 ?_ ?_ ?_); rfl; rfl; rfl; exact range_of H3.out.own; rfl; exact HK.out _ ⟨rfl, rfl⟩) | (refine wpList_store_part rfl 35 (.tmp 2) (.tmp 47) rfl (w.heap.size + 1) 0 (bodyC zeroBody) (bodyC ({ zeroBody with kind := 4, view := x.view, qa := x.qa, qc := x.qc, qs := x.qs })) (bodyC ({ zeroBody with kind := 4, view := x.view, qa := x.qa, qc := x.qc, qs := x.qs })) 35 H3.out.res HLF.out.1 HLF.out.2 rfl rfl (HK.out _ ⟨rfl, rfl⟩) (one_bodyC _) ?_; intro w9 G9))
 exact bodyPost_ret (ret_range (cs := bodyC ({ zeroBody with kind := 4, view := x.view, qa := x.qa, qc := x.qc, qs := x.qs })) rfl rfl (range_of G9.out.1) Tryz.underlying35 rfl (HK.out _ ⟨rfl, rfl⟩)) rfl ⟨rfl, iq (H3.out.bel.grown G9.out.2 H3.out.bel.size (fun k hk => by injection hk with hk; omega))⟩
theorem ownr_6 (x : MBody) (w : World) (hx : x.Wf) (HKI : Hid (x.kind = 6)) :
  Calls Tryz.prog 109 #[.agg (bodyC x).toArray] w fun E w' => E = .returned (.agg (bodyC ({ zeroBody with kind := 6, k := x.k, dig := x.dig })).toArray) /\ Hid (Below w.heap.size w w') := by
 have HLF : Hid (0 + (bodyC ({ zeroBody with kind := 6, k := x.k, dig := x.dig })).length <= (bodyC zeroBody).length /\ setAll (bodyC zeroBody) 0 (bodyC ({ zeroBody with kind := 6, k := x.k, dig := x.dig })) = bodyC ({ zeroBody with kind := 6, k := x.k, dig := x.dig })) := iq ⟨by rw [bodyC_length zero_wf, bodyC_length (b := { zeroBody with kind := 6, k := x.k, dig := x.dig }) ⟨rfl, hx.2⟩]; omega, setAll_all (by rw [bodyC_length zero_wf, bodyC_length (b := { zeroBody with kind := 6, k := x.k, dig := x.dig }) ⟨rfl, hx.2⟩])⟩
 have HIR : Hid ((Tryz.prog.info? 30).map (·.size) = some (u8s x.dig).length) := iq (by rw [u8s_length, hx.2]; exact Tryz.size30)
 have HSR : Hid (44 + (u8s x.dig).length <= (bodyC ({ zeroBody with kind := 6, k := x.k })).length /\ setAll (bodyC ({ zeroBody with kind := 6, k := x.k })) 44 (u8s x.dig) = bodyC ({ zeroBody with kind := 6, k := x.k, dig := x.dig })) := iq ⟨by rw [u8s_length, hx.2, bodyC_length ⟨rfl, rfl⟩]; decide, set_dig ({ zeroBody with kind := 6, k := x.k }) x.dig rfl rfl hx.2⟩
 have HK : Hid (∀ o : MBody, o.Wf -> (Tryz.prog.info? 35).map (·.size) = some (bodyC o).length) := iq fun o h => by rw [bodyC_length h]; exact Tryz.is35
 have HX := iq hx
 have hz : ∀ w, (zeroValue 35).run Tryz.prog w = .ok (.agg (bodyC zeroBody).toArray) w := zero_body
 have R := body_lies (World.rangeAt_alloc (range_box w (bodyC x) 35) (.cells (bodyC zeroBody).toArray 35)) hx
 have x0 : ((w.alloc (.cells (bodyC x).toArray 35)).alloc (.cells (bodyC zeroBody).toArray 35)).cell? ⟨w.heap.size, 0, none⟩ = some (.int .u8 6) := R.kind.trans (by rw [HKI.out]; rfl)
 have HZ : Hid (OwR w x zeroBody (((w.alloc (.cells (bodyC x).toArray 35)).alloc (.cells (bodyC zeroBody).toArray 35)).alloc (.cells (bodyC zeroBody).toArray 35))) := iq ⟨((bl.alloc (Nat.le_refl _) _).alloc (by simp) _).alloc (by simp; omega) _, by simp, World.rangeAt_alloc (World.rangeAt_alloc (range_box w (bodyC x) 35) _) _, by
  have h1 := heap_alloc_new (w.alloc (.cells (bodyC x).toArray 35)) (.cells (bodyC zeroBody).toArray 35)
  have h2 := (bl.alloc (Nat.le_refl _) (.cells (bodyC zeroBody).toArray 35) : Below ((w.alloc (.cells (bodyC x).toArray 35)).alloc (.cells (bodyC zeroBody).toArray 35)).heap.size _ _).block (w.heap.size + 1) (by simp)
  exact h2.trans (by simpa using h1), by simpa using heap_alloc_new ((w.alloc (.cells (bodyC x).toArray 35)).alloc (.cells (bodyC zeroBody).toArray 35)) (.cells (bodyC zeroBody).toArray 35)⟩
 have HLE : Hid (0 + (bodyC { zeroBody with kind := 6 }).length <= (bodyC zeroBody).length /\ setAll (bodyC zeroBody) 0 (bodyC { zeroBody with kind := 6 }) = bodyC { zeroBody with kind := 6 }) := iq ⟨by rw [bodyC_length zero_wf, bodyC_length ⟨rfl, rfl⟩]; omega, setAll_all (by rw [bodyC_length zero_wf, bodyC_length ⟨rfl, rfl⟩])⟩
 clear R hx
 go_enter Tryz.func109, Tryz.ntmps109
 go_wp2_with (first | (refine wpList_store_part rfl 35 (.tmp 3) (.tmp 6) rfl (w.heap.size + 2) 0 (bodyC zeroBody) (bodyC { zeroBody with kind := 6 }) (bodyC { zeroBody with kind := 6 }) 35 HZ.out.own (HLE.out.1) (HLE.out.2) rfl rfl (HK.out _ ⟨rfl, rfl⟩) (one_bodyC _) ?_; intro w1 G1; have H1 := iq (HZ.out.grown G1.out); clear G1 HZ x0; have y0 : w1.cell? ⟨w.heap.size, 0, none⟩ = some (.int .u8 6) := (body_lies H1.out.src HX.out).kind.trans (by rw [HKI.out]; rfl); have y1 : w1.cell? ⟨w.heap.size, 1, none⟩ = some (.int .u64 (x.view : Int)) := (body_lies H1.out.src HX.out).view; have y2 : w1.cell? ⟨w.heap.size, 2, none⟩ = some (.int .u64 (x.k : Int)) := (body_lies H1.out.src HX.out).k; have y43 : w1.cell? ⟨w.heap.size, 43, none⟩ = some (.slice x.qa x.qs.length x.qc) := (body_lies H1.out.src HX.out).q; have z1 : w1.cell? ⟨w.heap.size + 2, 1, none⟩ = some (.int .u64 0) := H1.out.cell 1 _ rfl; have z2 : w1.cell? ⟨w.heap.size + 2, 2, none⟩ = some (.int .u64 0) := H1.out.cell 2 _ rfl; have z43 : w1.cell? ⟨w.heap.size + 2, 43, none⟩ = some (.slice none 0 0) := H1.out.cell 43 _ rfl; have hf := fun k => free_block H1.out.own k; have H2 := iq (H1.out.set 2 (.int .u64 (x.k : Int)) (set_k _ _)); have p2y0 : (w1.setCell ⟨w.heap.size + 2, 2, none⟩ (.int .u64 (x.k : Int))).cell? ⟨w.heap.size, 0, none⟩ = some (.int .u8 6) := (body_lies H2.out.src HX.out).kind.trans (by rw [HKI.out]; rfl); have p2y1 : (w1.setCell ⟨w.heap.size + 2, 2, none⟩ (.int .u64 (x.k : Int))).cell? ⟨w.heap.size, 1, none⟩ = some (.int .u64 (x.view : Int)) := (body_lies H2.out.src HX.out).view; have p2y2 : (w1.setCell ⟨w.heap.size + 2, 2, none⟩ (.int .u64 (x.k : Int))).cell? ⟨w.heap.size, 2, none⟩ = some (.int .u64 (x.k : Int)) := (body_lies H2.out.src HX.out).k; have p2y43 : (w1.setCell ⟨w.heap.size + 2, 2, none⟩ (.int .u64 (x.k : Int))).cell? ⟨w.heap.size, 43, none⟩ = some (.slice x.qa x.qs.length x.qc) := (body_lies H2.out.src HX.out).q; have p2z1 : (w1.setCell ⟨w.heap.size + 2, 2, none⟩ (.int .u64 (x.k : Int))).cell? ⟨w.heap.size + 2, 1, none⟩ = some (.int .u64 0) := H2.out.cell 1 _ rfl; have p2z2 : (w1.setCell ⟨w.heap.size + 2, 2, none⟩ (.int .u64 (x.k : Int))).cell? ⟨w.heap.size + 2, 2, none⟩ = some (.int .u64 (x.k : Int)) := H2.out.cell 2 _ rfl; have p2z43 : (w1.setCell ⟨w.heap.size + 2, 2, none⟩ (.int .u64 (x.k : Int))).cell? ⟨w.heap.size + 2, 43, none⟩ = some (.slice none 0 0) := H2.out.cell 43 _ rfl; have p2hf := fun k => free_block H2.out.own k) | ((with_reducible refine wpList_load_midG ?_ 30 (.tmp 44) ?_ w.heap.size 44 ?_ (u8s x.dig) _ ?_ Tryz.underlying30 ?_ ?_ ?_); rfl; rfl; rfl; exact ((body_lies H2.out.src HX.out).dig); rfl; exact HIR.out) | (refine wpList_store_part rfl 30 (.tmp 46) (.tmp 45) rfl (w.heap.size + 2) 44 _ (bodyC ({ zeroBody with kind := 6, k := x.k, dig := x.dig })) (u8s x.dig) 35 H2.out.own HSR.out.1 HSR.out.2 rfl rfl HIR.out (u8s_one _) ?_; intro w3 G3; have H3 := iq (H2.out.grown G3.out)) | ((with_reducible refine wpList_load_midG ?_ 35 (.tmp 3) ?_ (w.heap.size + 2) 0 ?_ (bodyC ({ zeroBody with kind := 6, k := x.k, dig := x.dig })) _ ?_ Tryz.underlying35 ?_ ?_ ?_); rfl; rfl; rfl; exact range_of H3.out.own; rfl; exact HK.out _ ⟨rfl, HX.out.2⟩) | (refine wpList_store_part rfl 35 (.tmp 2) (.tmp 47) rfl (w.heap.size + 1) 0 (bodyC zeroBody) (bodyC ({ zeroBody with kind := 6, k := x.k, dig := x.dig })) (bodyC ({ zeroBody with kind := 6, k := x.k, dig := x.dig })) 35 H3.out.res HLF.out.1 HLF.out.2 rfl rfl (HK.out _ ⟨rfl, HX.out.2⟩) (one_bodyC _) ?_; intro w9 G9))
 exact bodyPost_ret (ret_range (cs := bodyC ({ zeroBody with kind := 6, k := x.k, dig := x.dig })) rfl rfl (range_of G9.out.1) Tryz.underlying35 rfl (HK.out _ ⟨rfl, HX.out.2⟩)) rfl ⟨rfl, iq (H3.out.bel.grown G9.out.2 H3.out.bel.size (fun k hk => by injection hk with hk; omega))⟩
theorem ownr_x (x : MBody) (w : World) (hx : x.Wf) (h1 : ¬ ((x.kind.toNat : Int) = 1)) (h2 : ¬ ((x.kind.toNat : Int) = 2)) (h3 : ¬ ((x.kind.toNat : Int) = 3)) (h4 : ¬ ((x.kind.toNat : Int) = 4)) (h5 : ¬ ((x.kind.toNat : Int) = 5)) (h6 : ¬ ((x.kind.toNat : Int) = 6)) :
  Calls Tryz.prog 109 #[.agg (bodyC x).toArray] w fun E w' => E = .returned (.agg (bodyC ({ zeroBody with kind := x.kind })).toArray) /\ Hid (Below w.heap.size w w') := by
 have HLF : Hid (0 + (bodyC ({ zeroBody with kind := x.kind })).length <= (bodyC zeroBody).length /\ setAll (bodyC zeroBody) 0 (bodyC ({ zeroBody with kind := x.kind })) = bodyC ({ zeroBody with kind := x.kind })) := iq ⟨by rw [bodyC_length zero_wf, bodyC_length (b := { zeroBody with kind := x.kind }) ⟨rfl, rfl⟩]; omega, setAll_all (by rw [bodyC_length zero_wf, bodyC_length (b := { zeroBody with kind := x.kind }) ⟨rfl, rfl⟩])⟩
 have HK : Hid (∀ o : MBody, o.Wf -> (Tryz.prog.info? 35).map (·.size) = some (bodyC o).length) := iq fun o h => by rw [bodyC_length h]; exact Tryz.is35
 have HX := iq hx
 have hz : ∀ w, (zeroValue 35).run Tryz.prog w = .ok (.agg (bodyC zeroBody).toArray) w := zero_body
 have R := body_lies (World.rangeAt_alloc (range_box w (bodyC x) 35) (.cells (bodyC zeroBody).toArray 35)) hx
 have x0 : ((w.alloc (.cells (bodyC x).toArray 35)).alloc (.cells (bodyC zeroBody).toArray 35)).cell? ⟨w.heap.size, 0, none⟩ = some (.int .u8 (x.kind.toNat : Int)) := R.kind.trans rfl
 have HZ : Hid (OwR w x zeroBody (((w.alloc (.cells (bodyC x).toArray 35)).alloc (.cells (bodyC zeroBody).toArray 35)).alloc (.cells (bodyC zeroBody).toArray 35))) := iq ⟨((bl.alloc (Nat.le_refl _) _).alloc (by simp) _).alloc (by simp; omega) _, by simp, World.rangeAt_alloc (World.rangeAt_alloc (range_box w (bodyC x) 35) _) _, by
  have h1 := heap_alloc_new (w.alloc (.cells (bodyC x).toArray 35)) (.cells (bodyC zeroBody).toArray 35)
  have h2 := (bl.alloc (Nat.le_refl _) (.cells (bodyC zeroBody).toArray 35) : Below ((w.alloc (.cells (bodyC x).toArray 35)).alloc (.cells (bodyC zeroBody).toArray 35)).heap.size _ _).block (w.heap.size + 1) (by simp)
  exact h2.trans (by simpa using h1), by simpa using heap_alloc_new ((w.alloc (.cells (bodyC x).toArray 35)).alloc (.cells (bodyC zeroBody).toArray 35)) (.cells (bodyC zeroBody).toArray 35)⟩
 have HLE : Hid (0 + (bodyC { zeroBody with kind := x.kind }).length <= (bodyC zeroBody).length /\ setAll (bodyC zeroBody) 0 (bodyC { zeroBody with kind := x.kind }) = bodyC { zeroBody with kind := x.kind }) := iq ⟨by rw [bodyC_length zero_wf, bodyC_length ⟨rfl, rfl⟩]; omega, setAll_all (by rw [bodyC_length zero_wf, bodyC_length ⟨rfl, rfl⟩])⟩
 clear R hx
 go_enter Tryz.func109, Tryz.ntmps109
 go_wp2_with (first | (refine wpList_store_part rfl 35 (.tmp 3) (.tmp 6) rfl (w.heap.size + 2) 0 (bodyC zeroBody) (bodyC { zeroBody with kind := x.kind }) (bodyC { zeroBody with kind := x.kind }) 35 HZ.out.own (HLE.out.1) (HLE.out.2) rfl rfl (HK.out _ ⟨rfl, rfl⟩) (one_bodyC _) ?_; intro w1 G1; have H1 := iq (HZ.out.grown G1.out); clear G1 HZ x0; have y0 : w1.cell? ⟨w.heap.size, 0, none⟩ = some (.int .u8 (x.kind.toNat : Int)) := (body_lies H1.out.src HX.out).kind.trans rfl; have y1 : w1.cell? ⟨w.heap.size, 1, none⟩ = some (.int .u64 (x.view : Int)) := (body_lies H1.out.src HX.out).view; have y2 : w1.cell? ⟨w.heap.size, 2, none⟩ = some (.int .u64 (x.k : Int)) := (body_lies H1.out.src HX.out).k; have y43 : w1.cell? ⟨w.heap.size, 43, none⟩ = some (.slice x.qa x.qs.length x.qc) := (body_lies H1.out.src HX.out).q; have z1 : w1.cell? ⟨w.heap.size + 2, 1, none⟩ = some (.int .u64 0) := H1.out.cell 1 _ rfl; have z2 : w1.cell? ⟨w.heap.size + 2, 2, none⟩ = some (.int .u64 0) := H1.out.cell 2 _ rfl; have z43 : w1.cell? ⟨w.heap.size + 2, 43, none⟩ = some (.slice none 0 0) := H1.out.cell 43 _ rfl; have hf := fun k => free_block H1.out.own k) | ((with_reducible refine wpList_load_midG ?_ 35 (.tmp 3) ?_ (w.heap.size + 2) 0 ?_ (bodyC ({ zeroBody with kind := x.kind })) _ ?_ Tryz.underlying35 ?_ ?_ ?_); rfl; rfl; rfl; exact range_of H1.out.own; rfl; exact HK.out _ ⟨rfl, rfl⟩) | (refine wpList_store_part rfl 35 (.tmp 2) (.tmp 47) rfl (w.heap.size + 1) 0 (bodyC zeroBody) (bodyC ({ zeroBody with kind := x.kind })) (bodyC ({ zeroBody with kind := x.kind })) 35 H1.out.res HLF.out.1 HLF.out.2 rfl rfl (HK.out _ ⟨rfl, rfl⟩) (one_bodyC _) ?_; intro w9 G9))
 exact bodyPost_ret (ret_range (cs := bodyC ({ zeroBody with kind := x.kind })) rfl rfl (range_of G9.out.1) Tryz.underlying35 rfl (HK.out _ ⟨rfl, rfl⟩)) rfl ⟨rfl, iq (H1.out.bel.grown G9.out.2 H1.out.bel.size (fun k hk => by injection hk with hk; omega))⟩
theorem own_rf (x : MBody) (w : World) (hx : x.Wf) :
  Calls Tryz.prog 109 #[.agg (bodyC x).toArray] w fun E w' => E = .returned (.agg (bodyC (ownR x)).toArray) /\ Hid (Below w.heap.size w w') := by
 by_cases h1 : x.kind = 1
 ·have e1 : ownR x = { zeroBody with kind := 1, view := x.view, req := x.req } := by simp [ownR, h1]
  rw [e1]
  exact ownr_1 x w hx (iq h1)
 by_cases h2 : x.kind = 2
 ·have e1 : ownR x = { zeroBody with kind := 2, view := x.view, k := x.k } := by simp [ownR, h2]
  rw [e1]
  exact ownr_2 x w hx (iq h2)
 by_cases h3 : x.kind = 3
 ·have e1 : ownR x = { zeroBody with kind := 3, view := x.view } := by simp [ownR, h3]
  rw [e1]
  exact ownr_3 x w hx (iq h3)
 by_cases h4 : x.kind = 4
 ·have e1 : ownR x = { zeroBody with kind := 4, view := x.view, qa := x.qa, qc := x.qc, qs := x.qs } := by simp [ownR, h4]
  rw [e1]
  exact ownr_4 x w hx (iq h4)
 by_cases h5 : x.kind = 5
 ·have e1 : ownR x = { zeroBody with kind := 5, view := x.view } := by simp [ownR, h5]
  rw [e1]
  exact ownr_5 x w hx (iq h5)
 by_cases h6 : x.kind = 6
 ·have e1 : ownR x = { zeroBody with kind := 6, k := x.k, dig := x.dig } := by simp [ownR, h6]
  rw [e1]
  exact ownr_6 x w hx (iq h6)
 ·have e1 : ownR x = { zeroBody with kind := x.kind } := by simp [ownR, h1, h2, h3, h4, h5, h6]
  rw [e1]
  have hne : ∀ (n : UInt8) (z : Int), z = (n.toNat : Int) -> ¬ x.kind = n -> ¬ ((x.kind.toNat : Int) = z) := fun n z hz h e => h (UInt8.toNat_inj.1 (by omega))
  exact ownr_x x w hx (hne 1 _ rfl h1) (hne 2 _ rfl h2) (hne 3 _ rfl h3) (hne 4 _ rfl h4) (hne 5 _ rfl h5) (hne 6 _ rfl h6)
open Go.RowKit
theorem asked_rf (r : MReq) (w : World) : Calls Tryz.prog 86 #[.agg (reqC r).toArray] w fun E w' => E = .returned (.bool (reqMay r)) /\ Below w.heap.size w w' := by
 have L := req_lies (range_box w (reqC r) 32)
 have HB : Hid (Below w.heap.size w (w.alloc (.cells (reqC r).toArray 32))) := iq (bl.alloc (Nat.le_refl _) _)
 have c0 : (w.alloc (.cells (reqC r).toArray 32)).cell? ⟨w.heap.size, 0, none⟩ = some (.int .i64 r.client) := L.client
 have c1 : (w.alloc (.cells (reqC r).toArray 32)).cell? ⟨w.heap.size, 1, none⟩ = some (.int .u64 (r.time : Int)) := L.time
 have c3 : (w.alloc (.cells (reqC r).toArray 32)).cell? ⟨w.heap.size, 3, none⟩ = some (.string r.op.key) := L.op.key
 have c4 : (w.alloc (.cells (reqC r).toArray 32)).cell? ⟨w.heap.size, 4, none⟩ = some (.string r.op.value) := L.op.value
 have c5 : (w.alloc (.cells (reqC r).toArray 32)).cell? ⟨w.heap.size, 5, none⟩ = some (.string r.op.old) := L.op.old
 have c6 : (w.alloc (.cells (reqC r).toArray 32)).cell? ⟨w.heap.size, 6, none⟩ = some (.string r.op.to) := L.op.to
 clear L
 have e : reqMay r = (decide (1 <= r.client) && (decide (r.client <= 8) && (decide (1 <= (r.time : Int)) && (decide ((r.time : Int) <= 4611686018427387904) && (decide ((r.op.key.size : Int) <= 32) && (decide ((r.op.to.size : Int) <= 32) && (decide ((r.op.value.size : Int) <= 128) && decide ((r.op.old.size : Int) <= 128)))))))) := by
  rw [Bool.eq_iff_iff]
  simp only [reqMay, opMay, isCnt, Bool.and_eq_true, decide_eq_true_eq]
  omega
 rw [e]
 clear e
 by_cases h0 : 1 <= r.client
 ·rw [decide_eq_true h0, Bool.true_and]
  by_cases h1 : r.client <= 8
  ·rw [decide_eq_true h1, Bool.true_and]
   by_cases h2 : 1 <= (r.time : Int)
   ·rw [decide_eq_true h2, Bool.true_and]
    have n2 : 1 <= r.time := by omega
    by_cases h3 : (r.time : Int) <= 4611686018427387904
    ·rw [decide_eq_true h3, Bool.true_and]
     have n3 : r.time <= 4611686018427387904 := by omega
     by_cases h4 : (r.op.key.size : Int) <= 32
     ·rw [decide_eq_true h4, Bool.true_and]
      have n4 : r.op.key.size <= 32 := by omega
      by_cases h5 : (r.op.to.size : Int) <= 32
      ·rw [decide_eq_true h5, Bool.true_and]
       have n5 : r.op.to.size <= 32 := by omega
       by_cases h6 : (r.op.value.size : Int) <= 128
       ·rw [decide_eq_true h6, Bool.true_and]
        have n6 : r.op.value.size <= 128 := by omega
        by_cases h7 : (r.op.old.size : Int) <= 128
        ·rw [decide_eq_true h7]
         have n7 : r.op.old.size <= 128 := by omega
         go_enter Tryz.func86, Tryz.ntmps86
         go_wp2_with fail
         go_ret
         exact ⟨rfl, HB.out⟩
        ·rw [decide_eq_false h7]
         have n7 : ¬ (r.op.old.size <= 128) := by omega
         go_enter Tryz.func86, Tryz.ntmps86
         go_wp2_with fail
         go_ret
         exact ⟨rfl, HB.out⟩
       ·rw [decide_eq_false h6, Bool.false_and]
        have n6 : ¬ (r.op.value.size <= 128) := by omega
        go_enter Tryz.func86, Tryz.ntmps86
        go_wp2_with fail
        go_ret
        exact ⟨rfl, HB.out⟩
      ·rw [decide_eq_false h5, Bool.false_and]
       have n5 : ¬ (r.op.to.size <= 32) := by omega
       go_enter Tryz.func86, Tryz.ntmps86
       go_wp2_with fail
       go_ret
       exact ⟨rfl, HB.out⟩
     ·rw [decide_eq_false h4, Bool.false_and]
      have n4 : ¬ (r.op.key.size <= 32) := by omega
      go_enter Tryz.func86, Tryz.ntmps86
      go_wp2_with fail
      go_ret
      exact ⟨rfl, HB.out⟩
    ·rw [decide_eq_false h3, Bool.false_and]
     have n3 : ¬ (r.time <= 4611686018427387904) := by omega
     go_enter Tryz.func86, Tryz.ntmps86
     go_wp2_with fail
     go_ret
     exact ⟨rfl, HB.out⟩
   ·rw [decide_eq_false h2, Bool.false_and]
    have n2 : ¬ (1 <= r.time) := by omega
    go_enter Tryz.func86, Tryz.ntmps86
    go_wp2_with fail
    go_ret
    exact ⟨rfl, HB.out⟩
  ·rw [decide_eq_false h1, Bool.false_and]
   go_enter Tryz.func86, Tryz.ntmps86
   go_wp2_with fail
   go_ret
   exact ⟨rfl, HB.out⟩
 ·rw [decide_eq_false h0, Bool.false_and]
  go_enter Tryz.func86, Tryz.ntmps86
  go_wp2_with fail
  go_ret
  exact ⟨rfl, HB.out⟩
open Go.RowKit
theorem bodyr_n (x : MBody) (w : World) (hx : x.Wf)  (HO : Hid (∀ W, Below w.heap.size w W -> Calls Tryz.prog 109 #[.agg (bodyC x).toArray] W fun E w' => E = .returned (.agg (bodyC (ownR x)).toArray) /\ Hid (Below W.heap.size W w')))
  (HS : Hid (∀ W, Below w.heap.size w W -> Calls Tryz.prog 108 #[.agg (bodyC (ownR x)).toArray, .agg (bodyC x).toArray] W fun E w' => E = .returned (.bool false) /\ Hid (Below W.heap.size W w'))) :
  Calls Tryz.prog 70 #[.agg (bodyC x).toArray] w fun E w' => E = .returned (.bool (false)) /\ Hid (Below w.heap.size w w') := by
 have HB := iq (body_lies (range_box w (bodyC x) 35) hx)
 have HX := iq hx
 have HI : Hid ((Tryz.prog.info? 35).map (·.size) = some (bodyC x).length) := iq (by rw [bodyC_length hx]; exact Tryz.is35)
 have HL : Hid (RqAt w.heap.size w (bodyC x) (w.alloc (.cells (bodyC x).toArray 35))) := iq ⟨bl.alloc (Nat.le_refl _) _, by simp, range_box w (bodyC x) 35⟩
 clear hx
 go_enter Tryz.func70, Tryz.ntmps70
 go_wp2_with fail
 refine wp_region_any (by kernel_rfl) ?_
 have H3 := iq (HL.out.drewN 1)
 change wpAny _ _ _ _ _ _ _ ((w.alloc (.cells (bodyC x).toArray 35)).drewN 1)
 generalize (w.alloc (.cells (bodyC x).toArray 35)).drewN 1 = w3 at H3 ⊢
 clear HL HB
 refine wpAny_of_held (S := fun W => W.rangeAt w.heap.size 0 (bodyC x)) _ _ _ _ ?_
 refine tk 0 ⟨some 5, .load 35 (.tmp 1), _, _, _, none⟩ (.agg (bodyC x).toArray) rfl (by kernel_rfl) (fun _ _ _ => id) (H3.out.src) (fun W hSW => exec_load_mid 35 (.tmp 1) rfl w.heap.size 0 rfl (bodyC x) _ (hSW) Tryz.underlying35 rfl (HI.out)) ?_
 try simp only [Act.put, l0, l1, l2]
 refine tk 2 ⟨some 7, .load 35 (.tmp 1), _, _, _, none⟩ (.agg (bodyC x).toArray) rfl (by kernel_rfl) (fun _ _ _ => id) (H3.out.src) (fun W hSW => exec_load_mid 35 (.tmp 1) rfl w.heap.size 0 rfl (bodyC x) _ (hSW) Tryz.underlying35 rfl (HI.out)) ?_
 try simp only [pu, l0, l1, l2]
 refine rd1 1 ⟨some 6, .call { callee := .value (.func 109), args := #[.tmp 5], argTypes := #[35] }, _, _, _, none⟩ (by kernel_rfl) rfl fun K' hK' => ?_
 go_simp
 go_at_call 109
 refine (HO.out _ H3.out.bel).mono ?_
 rintro E w4 ⟨rfl, hb4⟩
 have H4 := iq (H3.out.next (Nat.le_refl _) hb4.out)
 refine hK'.out _ _ H4.out.src (fun _ => ?_)
 clear hK' K'
 try simp only [Act.put, l0, l1, l2]
 refine rd1 3 ⟨some 8, .call { callee := .value (.func 108), args := #[.tmp 6, .tmp 7], argTypes := #[35, 35] }, _, _, _, none⟩ (by kernel_rfl) rfl fun K' hK' => ?_
 go_simp
 go_at_call 108
 refine (HS.out _ H4.out.bel).mono ?_
 rintro E w5 ⟨rfl, hb5⟩
 have H5 := iq (H4.out.next (Nat.le_refl _) hb5.out)
 refine hK'.out _ _ H5.out.src (fun _ => ?_)
 clear hK' K'
 try simp only [Act.put, l0, l1, l2]
 refine tk 4 ⟨some 9, .unOp .not 4 (.tmp 8), _, _, _, none⟩ (.bool true) rfl (by kernel_rfl) (fun _ _ _ => id) (H5.out.src) (fun W hSW => by go_simp) ?_
 try simp only [pu, l0, l1, l2]
 refine tk 5 ⟨some 10, .move (.tmp 9), _, _, _, none⟩ (.bool true) rfl (by kernel_rfl) (fun _ _ _ => id) (H5.out.src) (fun W hSW => by go_simp) ?_
 try simp only [pu, l0, l1, l2]
 refine sk 6 ⟨some 11, .fieldAddr 35 (.tmp 1) 1, _, _, _, some (5, false)⟩ rfl (by kernel_rfl) (fun _ _ _ => id) (H5.out.src) ?_
 try simp only [pu, l0, l1, l2]
 refine sk 7 ⟨some 12, .load 25 (.tmp 11), _, _, _, some (5, false)⟩ rfl (by kernel_rfl) (fun _ _ _ => id) (H5.out.src) ?_
 try simp only [pu, l0, l1, l2]
 refine sk 8 ⟨some 13, .binOp .geq 25 (.tmp 12) (.const (.int .u64 1073741824)) 25, _, _, _, some (5, false)⟩ rfl (by kernel_rfl) (fun _ _ _ => id) (H5.out.src) ?_
 try simp only [pu, l0, l1, l2]
 refine tk 9 ⟨some 14, .pick (.tmp 10) (.const (.bool true)) (.tmp 13), _, _, _, none⟩ (.bool true) rfl (by kernel_rfl) (fun _ _ _ => id) (H5.out.src) (fun W hSW => by go_simp) ?_
 try simp only [pu, l0, l1, l2]
 refine wpAnyH_done (by kernel_rfl) ?_ _
 go_wp2_with fail
 go_ret
 exact ⟨rfl, iq H5.out.bel⟩
theorem bodyr_v (x : MBody) (w : World) (hx : x.Wf) (HV : (x.view : Int) >= 1073741824) (HV2 : 1073741824 <= x.view) (HO : Hid (∀ W, Below w.heap.size w W -> Calls Tryz.prog 109 #[.agg (bodyC x).toArray] W fun E w' => E = .returned (.agg (bodyC (ownR x)).toArray) /\ Hid (Below W.heap.size W w')))
  (HS : Hid (∀ W, Below w.heap.size w W -> Calls Tryz.prog 108 #[.agg (bodyC (ownR x)).toArray, .agg (bodyC x).toArray] W fun E w' => E = .returned (.bool true) /\ Hid (Below W.heap.size W w'))) :
  Calls Tryz.prog 70 #[.agg (bodyC x).toArray] w fun E w' => E = .returned (.bool (false)) /\ Hid (Below w.heap.size w w') := by
 have HB := iq (body_lies (range_box w (bodyC x) 35) hx)
 have HX := iq hx
 have HI : Hid ((Tryz.prog.info? 35).map (·.size) = some (bodyC x).length) := iq (by rw [bodyC_length hx]; exact Tryz.is35)
 have HL : Hid (RqAt w.heap.size w (bodyC x) (w.alloc (.cells (bodyC x).toArray 35))) := iq ⟨bl.alloc (Nat.le_refl _) _, by simp, range_box w (bodyC x) 35⟩
 clear hx
 go_enter Tryz.func70, Tryz.ntmps70
 go_wp2_with fail
 refine wp_region_any (by kernel_rfl) ?_
 have H3 := iq (HL.out.drewN 1)
 change wpAny _ _ _ _ _ _ _ ((w.alloc (.cells (bodyC x).toArray 35)).drewN 1)
 generalize (w.alloc (.cells (bodyC x).toArray 35)).drewN 1 = w3 at H3 ⊢
 clear HL HB
 refine wpAny_of_held (S := fun W => W.rangeAt w.heap.size 0 (bodyC x)) _ _ _ _ ?_
 refine tk 0 ⟨some 5, .load 35 (.tmp 1), _, _, _, none⟩ (.agg (bodyC x).toArray) rfl (by kernel_rfl) (fun _ _ _ => id) (H3.out.src) (fun W hSW => exec_load_mid 35 (.tmp 1) rfl w.heap.size 0 rfl (bodyC x) _ (hSW) Tryz.underlying35 rfl (HI.out)) ?_
 try simp only [Act.put, l0, l1, l2]
 refine tk 2 ⟨some 7, .load 35 (.tmp 1), _, _, _, none⟩ (.agg (bodyC x).toArray) rfl (by kernel_rfl) (fun _ _ _ => id) (H3.out.src) (fun W hSW => exec_load_mid 35 (.tmp 1) rfl w.heap.size 0 rfl (bodyC x) _ (hSW) Tryz.underlying35 rfl (HI.out)) ?_
 try simp only [pu, l0, l1, l2]
 refine rd1 1 ⟨some 6, .call { callee := .value (.func 109), args := #[.tmp 5], argTypes := #[35] }, _, _, _, none⟩ (by kernel_rfl) rfl fun K' hK' => ?_
 go_simp
 go_at_call 109
 refine (HO.out _ H3.out.bel).mono ?_
 rintro E w4 ⟨rfl, hb4⟩
 have H4 := iq (H3.out.next (Nat.le_refl _) hb4.out)
 refine hK'.out _ _ H4.out.src (fun _ => ?_)
 clear hK' K'
 try simp only [Act.put, l0, l1, l2]
 refine rd1 3 ⟨some 8, .call { callee := .value (.func 108), args := #[.tmp 6, .tmp 7], argTypes := #[35, 35] }, _, _, _, none⟩ (by kernel_rfl) rfl fun K' hK' => ?_
 go_simp
 go_at_call 108
 refine (HS.out _ H4.out.bel).mono ?_
 rintro E w5 ⟨rfl, hb5⟩
 have H5 := iq (H4.out.next (Nat.le_refl _) hb5.out)
 refine hK'.out _ _ H5.out.src (fun _ => ?_)
 clear hK' K'
 try simp only [Act.put, l0, l1, l2]
 refine tk 4 ⟨some 9, .unOp .not 4 (.tmp 8), _, _, _, none⟩ (.bool false) rfl (by kernel_rfl) (fun _ _ _ => id) (H5.out.src) (fun W hSW => by go_simp) ?_
 try simp only [pu, l0, l1, l2]
 refine tk 5 ⟨some 10, .move (.tmp 9), _, _, _, none⟩ (.bool false) rfl (by kernel_rfl) (fun _ _ _ => id) (H5.out.src) (fun W hSW => by go_simp) ?_
 try simp only [pu, l0, l1, l2]
 refine tk 6 ⟨some 11, .fieldAddr 35 (.tmp 1) 1, _, _, _, some (5, false)⟩ (.pointer (some ⟨w.heap.size, 1, none⟩)) rfl (by kernel_rfl) (fun _ _ _ => id) (H5.out.src) (fun W hSW => by go_simp) ?_
 try simp only [pu, l0, l1, l2]
 refine tk 7 ⟨some 12, .load 25 (.tmp 11), _, _, _, some (5, false)⟩ (.int .u64 (x.view : Int)) rfl (by kernel_rfl) (fun _ _ _ => id) (H5.out.src) (fun W hSW => by have hv := (body_lies hSW HX.out).view; go_simp) ?_
 try simp only [pu, l0, l1, l2]
 refine tk 8 ⟨some 13, .binOp .geq 25 (.tmp 12) (.const (.int .u64 1073741824)) 25, _, _, _, some (5, false)⟩ (.bool true) rfl (by kernel_rfl) (fun _ _ _ => id) (H5.out.src) (fun W hSW => by have hv := HV; have hv2 := HV2; go_simp) ?_
 try simp only [pu, l0, l1, l2]
 refine tk 9 ⟨some 14, .pick (.tmp 10) (.const (.bool true)) (.tmp 13), _, _, _, none⟩ (.bool true) rfl (by kernel_rfl) (fun _ _ _ => id) (H5.out.src) (fun W hSW => by go_simp) ?_
 try simp only [pu, l0, l1, l2]
 refine wpAnyH_done (by kernel_rfl) ?_ _
 go_wp2_with fail
 go_ret
 exact ⟨rfl, iq H5.out.bel⟩
theorem bodyr_2 (x : MBody) (w : World) (hx : x.Wf) (HKI : Hid (x.kind = 2)) (h1 : (1 : Int) <= (x.k : Int)) (HV : ¬ ((x.view : Int) >= 1073741824)) (HV2 : ¬ (1073741824 <= x.view)) (HO : Hid (∀ W, Below w.heap.size w W -> Calls Tryz.prog 109 #[.agg (bodyC x).toArray] W fun E w' => E = .returned (.agg (bodyC (ownR x)).toArray) /\ Hid (Below W.heap.size W w')))
  (HS : Hid (∀ W, Below w.heap.size w W -> Calls Tryz.prog 108 #[.agg (bodyC (ownR x)).toArray, .agg (bodyC x).toArray] W fun E w' => E = .returned (.bool true) /\ Hid (Below W.heap.size W w'))) :
  Calls Tryz.prog 70 #[.agg (bodyC x).toArray] w fun E w' => E = .returned (.bool (decide ((x.k : Int) <= 4611686018427387904))) /\ Hid (Below w.heap.size w w') := by
 have HB := iq (body_lies (range_box w (bodyC x) 35) hx)
 have HX := iq hx
 have HI : Hid ((Tryz.prog.info? 35).map (·.size) = some (bodyC x).length) := iq (by rw [bodyC_length hx]; exact Tryz.is35)
 have HL : Hid (RqAt w.heap.size w (bodyC x) (w.alloc (.cells (bodyC x).toArray 35))) := iq ⟨bl.alloc (Nat.le_refl _) _, by simp, range_box w (bodyC x) 35⟩
 clear hx
 go_enter Tryz.func70, Tryz.ntmps70
 go_wp2_with fail
 refine wp_region_any (by kernel_rfl) ?_
 have H3 := iq (HL.out.drewN 1)
 change wpAny _ _ _ _ _ _ _ ((w.alloc (.cells (bodyC x).toArray 35)).drewN 1)
 generalize (w.alloc (.cells (bodyC x).toArray 35)).drewN 1 = w3 at H3 ⊢
 clear HL HB
 refine wpAny_of_held (S := fun W => W.rangeAt w.heap.size 0 (bodyC x)) _ _ _ _ ?_
 refine tk 0 ⟨some 5, .load 35 (.tmp 1), _, _, _, none⟩ (.agg (bodyC x).toArray) rfl (by kernel_rfl) (fun _ _ _ => id) (H3.out.src) (fun W hSW => exec_load_mid 35 (.tmp 1) rfl w.heap.size 0 rfl (bodyC x) _ (hSW) Tryz.underlying35 rfl (HI.out)) ?_
 try simp only [Act.put, l0, l1, l2]
 refine tk 2 ⟨some 7, .load 35 (.tmp 1), _, _, _, none⟩ (.agg (bodyC x).toArray) rfl (by kernel_rfl) (fun _ _ _ => id) (H3.out.src) (fun W hSW => exec_load_mid 35 (.tmp 1) rfl w.heap.size 0 rfl (bodyC x) _ (hSW) Tryz.underlying35 rfl (HI.out)) ?_
 try simp only [pu, l0, l1, l2]
 refine rd1 1 ⟨some 6, .call { callee := .value (.func 109), args := #[.tmp 5], argTypes := #[35] }, _, _, _, none⟩ (by kernel_rfl) rfl fun K' hK' => ?_
 go_simp
 go_at_call 109
 refine (HO.out _ H3.out.bel).mono ?_
 rintro E w4 ⟨rfl, hb4⟩
 have H4 := iq (H3.out.next (Nat.le_refl _) hb4.out)
 refine hK'.out _ _ H4.out.src (fun _ => ?_)
 clear hK' K'
 try simp only [Act.put, l0, l1, l2]
 refine rd1 3 ⟨some 8, .call { callee := .value (.func 108), args := #[.tmp 6, .tmp 7], argTypes := #[35, 35] }, _, _, _, none⟩ (by kernel_rfl) rfl fun K' hK' => ?_
 go_simp
 go_at_call 108
 refine (HS.out _ H4.out.bel).mono ?_
 rintro E w5 ⟨rfl, hb5⟩
 have H5 := iq (H4.out.next (Nat.le_refl _) hb5.out)
 refine hK'.out _ _ H5.out.src (fun _ => ?_)
 clear hK' K'
 try simp only [Act.put, l0, l1, l2]
 refine tk 4 ⟨some 9, .unOp .not 4 (.tmp 8), _, _, _, none⟩ (.bool false) rfl (by kernel_rfl) (fun _ _ _ => id) (H5.out.src) (fun W hSW => by go_simp) ?_
 try simp only [pu, l0, l1, l2]
 refine tk 5 ⟨some 10, .move (.tmp 9), _, _, _, none⟩ (.bool false) rfl (by kernel_rfl) (fun _ _ _ => id) (H5.out.src) (fun W hSW => by go_simp) ?_
 try simp only [pu, l0, l1, l2]
 refine tk 6 ⟨some 11, .fieldAddr 35 (.tmp 1) 1, _, _, _, some (5, false)⟩ (.pointer (some ⟨w.heap.size, 1, none⟩)) rfl (by kernel_rfl) (fun _ _ _ => id) (H5.out.src) (fun W hSW => by go_simp) ?_
 try simp only [pu, l0, l1, l2]
 refine tk 7 ⟨some 12, .load 25 (.tmp 11), _, _, _, some (5, false)⟩ (.int .u64 (x.view : Int)) rfl (by kernel_rfl) (fun _ _ _ => id) (H5.out.src) (fun W hSW => by have hv := (body_lies hSW HX.out).view; go_simp) ?_
 try simp only [pu, l0, l1, l2]
 refine tk 8 ⟨some 13, .binOp .geq 25 (.tmp 12) (.const (.int .u64 1073741824)) 25, _, _, _, some (5, false)⟩ (.bool false) rfl (by kernel_rfl) (fun _ _ _ => id) (H5.out.src) (fun W hSW => by have hv := HV; have hv2 := HV2; go_simp) ?_
 try simp only [pu, l0, l1, l2]
 refine tk 9 ⟨some 14, .pick (.tmp 10) (.const (.bool true)) (.tmp 13), _, _, _, none⟩ (.bool false) rfl (by kernel_rfl) (fun _ _ _ => id) (H5.out.src) (fun W hSW => by go_simp) ?_
 try simp only [pu, l0, l1, l2]
 refine wpAnyH_done (by kernel_rfl) ?_ _
 clear HV HV2
 have k0 : w5.cell? ⟨w.heap.size, 0, none⟩ = some (.int .u8 2) := (body_lies H5.out.src HX.out).kind.trans (by rw [HKI.out]; rfl)
 have k1 : w5.cell? ⟨w.heap.size, 1, none⟩ = some (.int .u64 (x.view : Int)) := (body_lies H5.out.src HX.out).view
 have k2 : w5.cell? ⟨w.heap.size, 2, none⟩ = some (.int .u64 (x.k : Int)) := (body_lies H5.out.src HX.out).k
 have n1 : 1 <= x.k := by omega
 go_wp2_with fail
 go_ret
 exact ⟨ret_bool (by first | rfl | (rw [Bool.eq_iff_iff]; simp only [decide_eq_true_eq] <;> omega)), iq H5.out.bel⟩
theorem bodyr_2n (x : MBody) (w : World) (hx : x.Wf) (HKI : Hid (x.kind = 2)) (h1 : ¬ ((1 : Int) <= (x.k : Int))) (HV : ¬ ((x.view : Int) >= 1073741824)) (HV2 : ¬ (1073741824 <= x.view)) (HO : Hid (∀ W, Below w.heap.size w W -> Calls Tryz.prog 109 #[.agg (bodyC x).toArray] W fun E w' => E = .returned (.agg (bodyC (ownR x)).toArray) /\ Hid (Below W.heap.size W w')))
  (HS : Hid (∀ W, Below w.heap.size w W -> Calls Tryz.prog 108 #[.agg (bodyC (ownR x)).toArray, .agg (bodyC x).toArray] W fun E w' => E = .returned (.bool true) /\ Hid (Below W.heap.size W w'))) :
  Calls Tryz.prog 70 #[.agg (bodyC x).toArray] w fun E w' => E = .returned (.bool (false)) /\ Hid (Below w.heap.size w w') := by
 have HB := iq (body_lies (range_box w (bodyC x) 35) hx)
 have HX := iq hx
 have HI : Hid ((Tryz.prog.info? 35).map (·.size) = some (bodyC x).length) := iq (by rw [bodyC_length hx]; exact Tryz.is35)
 have HL : Hid (RqAt w.heap.size w (bodyC x) (w.alloc (.cells (bodyC x).toArray 35))) := iq ⟨bl.alloc (Nat.le_refl _) _, by simp, range_box w (bodyC x) 35⟩
 clear hx
 go_enter Tryz.func70, Tryz.ntmps70
 go_wp2_with fail
 refine wp_region_any (by kernel_rfl) ?_
 have H3 := iq (HL.out.drewN 1)
 change wpAny _ _ _ _ _ _ _ ((w.alloc (.cells (bodyC x).toArray 35)).drewN 1)
 generalize (w.alloc (.cells (bodyC x).toArray 35)).drewN 1 = w3 at H3 ⊢
 clear HL HB
 refine wpAny_of_held (S := fun W => W.rangeAt w.heap.size 0 (bodyC x)) _ _ _ _ ?_
 refine tk 0 ⟨some 5, .load 35 (.tmp 1), _, _, _, none⟩ (.agg (bodyC x).toArray) rfl (by kernel_rfl) (fun _ _ _ => id) (H3.out.src) (fun W hSW => exec_load_mid 35 (.tmp 1) rfl w.heap.size 0 rfl (bodyC x) _ (hSW) Tryz.underlying35 rfl (HI.out)) ?_
 try simp only [Act.put, l0, l1, l2]
 refine tk 2 ⟨some 7, .load 35 (.tmp 1), _, _, _, none⟩ (.agg (bodyC x).toArray) rfl (by kernel_rfl) (fun _ _ _ => id) (H3.out.src) (fun W hSW => exec_load_mid 35 (.tmp 1) rfl w.heap.size 0 rfl (bodyC x) _ (hSW) Tryz.underlying35 rfl (HI.out)) ?_
 try simp only [pu, l0, l1, l2]
 refine rd1 1 ⟨some 6, .call { callee := .value (.func 109), args := #[.tmp 5], argTypes := #[35] }, _, _, _, none⟩ (by kernel_rfl) rfl fun K' hK' => ?_
 go_simp
 go_at_call 109
 refine (HO.out _ H3.out.bel).mono ?_
 rintro E w4 ⟨rfl, hb4⟩
 have H4 := iq (H3.out.next (Nat.le_refl _) hb4.out)
 refine hK'.out _ _ H4.out.src (fun _ => ?_)
 clear hK' K'
 try simp only [Act.put, l0, l1, l2]
 refine rd1 3 ⟨some 8, .call { callee := .value (.func 108), args := #[.tmp 6, .tmp 7], argTypes := #[35, 35] }, _, _, _, none⟩ (by kernel_rfl) rfl fun K' hK' => ?_
 go_simp
 go_at_call 108
 refine (HS.out _ H4.out.bel).mono ?_
 rintro E w5 ⟨rfl, hb5⟩
 have H5 := iq (H4.out.next (Nat.le_refl _) hb5.out)
 refine hK'.out _ _ H5.out.src (fun _ => ?_)
 clear hK' K'
 try simp only [Act.put, l0, l1, l2]
 refine tk 4 ⟨some 9, .unOp .not 4 (.tmp 8), _, _, _, none⟩ (.bool false) rfl (by kernel_rfl) (fun _ _ _ => id) (H5.out.src) (fun W hSW => by go_simp) ?_
 try simp only [pu, l0, l1, l2]
 refine tk 5 ⟨some 10, .move (.tmp 9), _, _, _, none⟩ (.bool false) rfl (by kernel_rfl) (fun _ _ _ => id) (H5.out.src) (fun W hSW => by go_simp) ?_
 try simp only [pu, l0, l1, l2]
 refine tk 6 ⟨some 11, .fieldAddr 35 (.tmp 1) 1, _, _, _, some (5, false)⟩ (.pointer (some ⟨w.heap.size, 1, none⟩)) rfl (by kernel_rfl) (fun _ _ _ => id) (H5.out.src) (fun W hSW => by go_simp) ?_
 try simp only [pu, l0, l1, l2]
 refine tk 7 ⟨some 12, .load 25 (.tmp 11), _, _, _, some (5, false)⟩ (.int .u64 (x.view : Int)) rfl (by kernel_rfl) (fun _ _ _ => id) (H5.out.src) (fun W hSW => by have hv := (body_lies hSW HX.out).view; go_simp) ?_
 try simp only [pu, l0, l1, l2]
 refine tk 8 ⟨some 13, .binOp .geq 25 (.tmp 12) (.const (.int .u64 1073741824)) 25, _, _, _, some (5, false)⟩ (.bool false) rfl (by kernel_rfl) (fun _ _ _ => id) (H5.out.src) (fun W hSW => by have hv := HV; have hv2 := HV2; go_simp) ?_
 try simp only [pu, l0, l1, l2]
 refine tk 9 ⟨some 14, .pick (.tmp 10) (.const (.bool true)) (.tmp 13), _, _, _, none⟩ (.bool false) rfl (by kernel_rfl) (fun _ _ _ => id) (H5.out.src) (fun W hSW => by go_simp) ?_
 try simp only [pu, l0, l1, l2]
 refine wpAnyH_done (by kernel_rfl) ?_ _
 clear HV HV2
 have k0 : w5.cell? ⟨w.heap.size, 0, none⟩ = some (.int .u8 2) := (body_lies H5.out.src HX.out).kind.trans (by rw [HKI.out]; rfl)
 have k1 : w5.cell? ⟨w.heap.size, 1, none⟩ = some (.int .u64 (x.view : Int)) := (body_lies H5.out.src HX.out).view
 have k2 : w5.cell? ⟨w.heap.size, 2, none⟩ = some (.int .u64 (x.k : Int)) := (body_lies H5.out.src HX.out).k
 have n1 : ¬ (1 <= x.k) := by omega
 go_wp2_with fail
 go_ret
 exact ⟨rfl, iq H5.out.bel⟩
theorem bodyr_6 (x : MBody) (w : World) (hx : x.Wf) (HKI : Hid (x.kind = 6)) (h1 : (1 : Int) <= (x.k : Int)) (HV : ¬ ((x.view : Int) >= 1073741824)) (HV2 : ¬ (1073741824 <= x.view)) (HO : Hid (∀ W, Below w.heap.size w W -> Calls Tryz.prog 109 #[.agg (bodyC x).toArray] W fun E w' => E = .returned (.agg (bodyC (ownR x)).toArray) /\ Hid (Below W.heap.size W w')))
  (HS : Hid (∀ W, Below w.heap.size w W -> Calls Tryz.prog 108 #[.agg (bodyC (ownR x)).toArray, .agg (bodyC x).toArray] W fun E w' => E = .returned (.bool true) /\ Hid (Below W.heap.size W w'))) :
  Calls Tryz.prog 70 #[.agg (bodyC x).toArray] w fun E w' => E = .returned (.bool (decide ((x.k : Int) <= 4611686018427387904))) /\ Hid (Below w.heap.size w w') := by
 have HB := iq (body_lies (range_box w (bodyC x) 35) hx)
 have HX := iq hx
 have HI : Hid ((Tryz.prog.info? 35).map (·.size) = some (bodyC x).length) := iq (by rw [bodyC_length hx]; exact Tryz.is35)
 have HL : Hid (RqAt w.heap.size w (bodyC x) (w.alloc (.cells (bodyC x).toArray 35))) := iq ⟨bl.alloc (Nat.le_refl _) _, by simp, range_box w (bodyC x) 35⟩
 clear hx
 go_enter Tryz.func70, Tryz.ntmps70
 go_wp2_with fail
 refine wp_region_any (by kernel_rfl) ?_
 have H3 := iq (HL.out.drewN 1)
 change wpAny _ _ _ _ _ _ _ ((w.alloc (.cells (bodyC x).toArray 35)).drewN 1)
 generalize (w.alloc (.cells (bodyC x).toArray 35)).drewN 1 = w3 at H3 ⊢
 clear HL HB
 refine wpAny_of_held (S := fun W => W.rangeAt w.heap.size 0 (bodyC x)) _ _ _ _ ?_
 refine tk 0 ⟨some 5, .load 35 (.tmp 1), _, _, _, none⟩ (.agg (bodyC x).toArray) rfl (by kernel_rfl) (fun _ _ _ => id) (H3.out.src) (fun W hSW => exec_load_mid 35 (.tmp 1) rfl w.heap.size 0 rfl (bodyC x) _ (hSW) Tryz.underlying35 rfl (HI.out)) ?_
 try simp only [Act.put, l0, l1, l2]
 refine tk 2 ⟨some 7, .load 35 (.tmp 1), _, _, _, none⟩ (.agg (bodyC x).toArray) rfl (by kernel_rfl) (fun _ _ _ => id) (H3.out.src) (fun W hSW => exec_load_mid 35 (.tmp 1) rfl w.heap.size 0 rfl (bodyC x) _ (hSW) Tryz.underlying35 rfl (HI.out)) ?_
 try simp only [pu, l0, l1, l2]
 refine rd1 1 ⟨some 6, .call { callee := .value (.func 109), args := #[.tmp 5], argTypes := #[35] }, _, _, _, none⟩ (by kernel_rfl) rfl fun K' hK' => ?_
 go_simp
 go_at_call 109
 refine (HO.out _ H3.out.bel).mono ?_
 rintro E w4 ⟨rfl, hb4⟩
 have H4 := iq (H3.out.next (Nat.le_refl _) hb4.out)
 refine hK'.out _ _ H4.out.src (fun _ => ?_)
 clear hK' K'
 try simp only [Act.put, l0, l1, l2]
 refine rd1 3 ⟨some 8, .call { callee := .value (.func 108), args := #[.tmp 6, .tmp 7], argTypes := #[35, 35] }, _, _, _, none⟩ (by kernel_rfl) rfl fun K' hK' => ?_
 go_simp
 go_at_call 108
 refine (HS.out _ H4.out.bel).mono ?_
 rintro E w5 ⟨rfl, hb5⟩
 have H5 := iq (H4.out.next (Nat.le_refl _) hb5.out)
 refine hK'.out _ _ H5.out.src (fun _ => ?_)
 clear hK' K'
 try simp only [Act.put, l0, l1, l2]
 refine tk 4 ⟨some 9, .unOp .not 4 (.tmp 8), _, _, _, none⟩ (.bool false) rfl (by kernel_rfl) (fun _ _ _ => id) (H5.out.src) (fun W hSW => by go_simp) ?_
 try simp only [pu, l0, l1, l2]
 refine tk 5 ⟨some 10, .move (.tmp 9), _, _, _, none⟩ (.bool false) rfl (by kernel_rfl) (fun _ _ _ => id) (H5.out.src) (fun W hSW => by go_simp) ?_
 try simp only [pu, l0, l1, l2]
 refine tk 6 ⟨some 11, .fieldAddr 35 (.tmp 1) 1, _, _, _, some (5, false)⟩ (.pointer (some ⟨w.heap.size, 1, none⟩)) rfl (by kernel_rfl) (fun _ _ _ => id) (H5.out.src) (fun W hSW => by go_simp) ?_
 try simp only [pu, l0, l1, l2]
 refine tk 7 ⟨some 12, .load 25 (.tmp 11), _, _, _, some (5, false)⟩ (.int .u64 (x.view : Int)) rfl (by kernel_rfl) (fun _ _ _ => id) (H5.out.src) (fun W hSW => by have hv := (body_lies hSW HX.out).view; go_simp) ?_
 try simp only [pu, l0, l1, l2]
 refine tk 8 ⟨some 13, .binOp .geq 25 (.tmp 12) (.const (.int .u64 1073741824)) 25, _, _, _, some (5, false)⟩ (.bool false) rfl (by kernel_rfl) (fun _ _ _ => id) (H5.out.src) (fun W hSW => by have hv := HV; have hv2 := HV2; go_simp) ?_
 try simp only [pu, l0, l1, l2]
 refine tk 9 ⟨some 14, .pick (.tmp 10) (.const (.bool true)) (.tmp 13), _, _, _, none⟩ (.bool false) rfl (by kernel_rfl) (fun _ _ _ => id) (H5.out.src) (fun W hSW => by go_simp) ?_
 try simp only [pu, l0, l1, l2]
 refine wpAnyH_done (by kernel_rfl) ?_ _
 clear HV HV2
 have k0 : w5.cell? ⟨w.heap.size, 0, none⟩ = some (.int .u8 6) := (body_lies H5.out.src HX.out).kind.trans (by rw [HKI.out]; rfl)
 have k1 : w5.cell? ⟨w.heap.size, 1, none⟩ = some (.int .u64 (x.view : Int)) := (body_lies H5.out.src HX.out).view
 have k2 : w5.cell? ⟨w.heap.size, 2, none⟩ = some (.int .u64 (x.k : Int)) := (body_lies H5.out.src HX.out).k
 have n1 : 1 <= x.k := by omega
 go_wp2_with fail
 go_ret
 exact ⟨ret_bool (by first | rfl | (rw [Bool.eq_iff_iff]; simp only [decide_eq_true_eq] <;> omega)), iq H5.out.bel⟩
theorem bodyr_6n (x : MBody) (w : World) (hx : x.Wf) (HKI : Hid (x.kind = 6)) (h1 : ¬ ((1 : Int) <= (x.k : Int))) (HV : ¬ ((x.view : Int) >= 1073741824)) (HV2 : ¬ (1073741824 <= x.view)) (HO : Hid (∀ W, Below w.heap.size w W -> Calls Tryz.prog 109 #[.agg (bodyC x).toArray] W fun E w' => E = .returned (.agg (bodyC (ownR x)).toArray) /\ Hid (Below W.heap.size W w')))
  (HS : Hid (∀ W, Below w.heap.size w W -> Calls Tryz.prog 108 #[.agg (bodyC (ownR x)).toArray, .agg (bodyC x).toArray] W fun E w' => E = .returned (.bool true) /\ Hid (Below W.heap.size W w'))) :
  Calls Tryz.prog 70 #[.agg (bodyC x).toArray] w fun E w' => E = .returned (.bool (false)) /\ Hid (Below w.heap.size w w') := by
 have HB := iq (body_lies (range_box w (bodyC x) 35) hx)
 have HX := iq hx
 have HI : Hid ((Tryz.prog.info? 35).map (·.size) = some (bodyC x).length) := iq (by rw [bodyC_length hx]; exact Tryz.is35)
 have HL : Hid (RqAt w.heap.size w (bodyC x) (w.alloc (.cells (bodyC x).toArray 35))) := iq ⟨bl.alloc (Nat.le_refl _) _, by simp, range_box w (bodyC x) 35⟩
 clear hx
 go_enter Tryz.func70, Tryz.ntmps70
 go_wp2_with fail
 refine wp_region_any (by kernel_rfl) ?_
 have H3 := iq (HL.out.drewN 1)
 change wpAny _ _ _ _ _ _ _ ((w.alloc (.cells (bodyC x).toArray 35)).drewN 1)
 generalize (w.alloc (.cells (bodyC x).toArray 35)).drewN 1 = w3 at H3 ⊢
 clear HL HB
 refine wpAny_of_held (S := fun W => W.rangeAt w.heap.size 0 (bodyC x)) _ _ _ _ ?_
 refine tk 0 ⟨some 5, .load 35 (.tmp 1), _, _, _, none⟩ (.agg (bodyC x).toArray) rfl (by kernel_rfl) (fun _ _ _ => id) (H3.out.src) (fun W hSW => exec_load_mid 35 (.tmp 1) rfl w.heap.size 0 rfl (bodyC x) _ (hSW) Tryz.underlying35 rfl (HI.out)) ?_
 try simp only [Act.put, l0, l1, l2]
 refine tk 2 ⟨some 7, .load 35 (.tmp 1), _, _, _, none⟩ (.agg (bodyC x).toArray) rfl (by kernel_rfl) (fun _ _ _ => id) (H3.out.src) (fun W hSW => exec_load_mid 35 (.tmp 1) rfl w.heap.size 0 rfl (bodyC x) _ (hSW) Tryz.underlying35 rfl (HI.out)) ?_
 try simp only [pu, l0, l1, l2]
 refine rd1 1 ⟨some 6, .call { callee := .value (.func 109), args := #[.tmp 5], argTypes := #[35] }, _, _, _, none⟩ (by kernel_rfl) rfl fun K' hK' => ?_
 go_simp
 go_at_call 109
 refine (HO.out _ H3.out.bel).mono ?_
 rintro E w4 ⟨rfl, hb4⟩
 have H4 := iq (H3.out.next (Nat.le_refl _) hb4.out)
 refine hK'.out _ _ H4.out.src (fun _ => ?_)
 clear hK' K'
 try simp only [Act.put, l0, l1, l2]
 refine rd1 3 ⟨some 8, .call { callee := .value (.func 108), args := #[.tmp 6, .tmp 7], argTypes := #[35, 35] }, _, _, _, none⟩ (by kernel_rfl) rfl fun K' hK' => ?_
 go_simp
 go_at_call 108
 refine (HS.out _ H4.out.bel).mono ?_
 rintro E w5 ⟨rfl, hb5⟩
 have H5 := iq (H4.out.next (Nat.le_refl _) hb5.out)
 refine hK'.out _ _ H5.out.src (fun _ => ?_)
 clear hK' K'
 try simp only [Act.put, l0, l1, l2]
 refine tk 4 ⟨some 9, .unOp .not 4 (.tmp 8), _, _, _, none⟩ (.bool false) rfl (by kernel_rfl) (fun _ _ _ => id) (H5.out.src) (fun W hSW => by go_simp) ?_
 try simp only [pu, l0, l1, l2]
 refine tk 5 ⟨some 10, .move (.tmp 9), _, _, _, none⟩ (.bool false) rfl (by kernel_rfl) (fun _ _ _ => id) (H5.out.src) (fun W hSW => by go_simp) ?_
 try simp only [pu, l0, l1, l2]
 refine tk 6 ⟨some 11, .fieldAddr 35 (.tmp 1) 1, _, _, _, some (5, false)⟩ (.pointer (some ⟨w.heap.size, 1, none⟩)) rfl (by kernel_rfl) (fun _ _ _ => id) (H5.out.src) (fun W hSW => by go_simp) ?_
 try simp only [pu, l0, l1, l2]
 refine tk 7 ⟨some 12, .load 25 (.tmp 11), _, _, _, some (5, false)⟩ (.int .u64 (x.view : Int)) rfl (by kernel_rfl) (fun _ _ _ => id) (H5.out.src) (fun W hSW => by have hv := (body_lies hSW HX.out).view; go_simp) ?_
 try simp only [pu, l0, l1, l2]
 refine tk 8 ⟨some 13, .binOp .geq 25 (.tmp 12) (.const (.int .u64 1073741824)) 25, _, _, _, some (5, false)⟩ (.bool false) rfl (by kernel_rfl) (fun _ _ _ => id) (H5.out.src) (fun W hSW => by have hv := HV; have hv2 := HV2; go_simp) ?_
 try simp only [pu, l0, l1, l2]
 refine tk 9 ⟨some 14, .pick (.tmp 10) (.const (.bool true)) (.tmp 13), _, _, _, none⟩ (.bool false) rfl (by kernel_rfl) (fun _ _ _ => id) (H5.out.src) (fun W hSW => by go_simp) ?_
 try simp only [pu, l0, l1, l2]
 refine wpAnyH_done (by kernel_rfl) ?_ _
 clear HV HV2
 have k0 : w5.cell? ⟨w.heap.size, 0, none⟩ = some (.int .u8 6) := (body_lies H5.out.src HX.out).kind.trans (by rw [HKI.out]; rfl)
 have k1 : w5.cell? ⟨w.heap.size, 1, none⟩ = some (.int .u64 (x.view : Int)) := (body_lies H5.out.src HX.out).view
 have k2 : w5.cell? ⟨w.heap.size, 2, none⟩ = some (.int .u64 (x.k : Int)) := (body_lies H5.out.src HX.out).k
 have n1 : ¬ (1 <= x.k) := by omega
 go_wp2_with fail
 go_ret
 exact ⟨rfl, iq H5.out.bel⟩
theorem bodyr_3 (x : MBody) (w : World) (hx : x.Wf) (HKI : Hid (x.kind = 3)) (HV : ¬ ((x.view : Int) >= 1073741824)) (HV2 : ¬ (1073741824 <= x.view)) (HO : Hid (∀ W, Below w.heap.size w W -> Calls Tryz.prog 109 #[.agg (bodyC x).toArray] W fun E w' => E = .returned (.agg (bodyC (ownR x)).toArray) /\ Hid (Below W.heap.size W w')))
  (HS : Hid (∀ W, Below w.heap.size w W -> Calls Tryz.prog 108 #[.agg (bodyC (ownR x)).toArray, .agg (bodyC x).toArray] W fun E w' => E = .returned (.bool true) /\ Hid (Below W.heap.size W w'))) :
  Calls Tryz.prog 70 #[.agg (bodyC x).toArray] w fun E w' => E = .returned (.bool (decide (1 <= x.view))) /\ Hid (Below w.heap.size w w') := by
 have HB := iq (body_lies (range_box w (bodyC x) 35) hx)
 have HX := iq hx
 have HI : Hid ((Tryz.prog.info? 35).map (·.size) = some (bodyC x).length) := iq (by rw [bodyC_length hx]; exact Tryz.is35)
 have HL : Hid (RqAt w.heap.size w (bodyC x) (w.alloc (.cells (bodyC x).toArray 35))) := iq ⟨bl.alloc (Nat.le_refl _) _, by simp, range_box w (bodyC x) 35⟩
 clear hx
 go_enter Tryz.func70, Tryz.ntmps70
 go_wp2_with fail
 refine wp_region_any (by kernel_rfl) ?_
 have H3 := iq (HL.out.drewN 1)
 change wpAny _ _ _ _ _ _ _ ((w.alloc (.cells (bodyC x).toArray 35)).drewN 1)
 generalize (w.alloc (.cells (bodyC x).toArray 35)).drewN 1 = w3 at H3 ⊢
 clear HL HB
 refine wpAny_of_held (S := fun W => W.rangeAt w.heap.size 0 (bodyC x)) _ _ _ _ ?_
 refine tk 0 ⟨some 5, .load 35 (.tmp 1), _, _, _, none⟩ (.agg (bodyC x).toArray) rfl (by kernel_rfl) (fun _ _ _ => id) (H3.out.src) (fun W hSW => exec_load_mid 35 (.tmp 1) rfl w.heap.size 0 rfl (bodyC x) _ (hSW) Tryz.underlying35 rfl (HI.out)) ?_
 try simp only [Act.put, l0, l1, l2]
 refine tk 2 ⟨some 7, .load 35 (.tmp 1), _, _, _, none⟩ (.agg (bodyC x).toArray) rfl (by kernel_rfl) (fun _ _ _ => id) (H3.out.src) (fun W hSW => exec_load_mid 35 (.tmp 1) rfl w.heap.size 0 rfl (bodyC x) _ (hSW) Tryz.underlying35 rfl (HI.out)) ?_
 try simp only [pu, l0, l1, l2]
 refine rd1 1 ⟨some 6, .call { callee := .value (.func 109), args := #[.tmp 5], argTypes := #[35] }, _, _, _, none⟩ (by kernel_rfl) rfl fun K' hK' => ?_
 go_simp
 go_at_call 109
 refine (HO.out _ H3.out.bel).mono ?_
 rintro E w4 ⟨rfl, hb4⟩
 have H4 := iq (H3.out.next (Nat.le_refl _) hb4.out)
 refine hK'.out _ _ H4.out.src (fun _ => ?_)
 clear hK' K'
 try simp only [Act.put, l0, l1, l2]
 refine rd1 3 ⟨some 8, .call { callee := .value (.func 108), args := #[.tmp 6, .tmp 7], argTypes := #[35, 35] }, _, _, _, none⟩ (by kernel_rfl) rfl fun K' hK' => ?_
 go_simp
 go_at_call 108
 refine (HS.out _ H4.out.bel).mono ?_
 rintro E w5 ⟨rfl, hb5⟩
 have H5 := iq (H4.out.next (Nat.le_refl _) hb5.out)
 refine hK'.out _ _ H5.out.src (fun _ => ?_)
 clear hK' K'
 try simp only [Act.put, l0, l1, l2]
 refine tk 4 ⟨some 9, .unOp .not 4 (.tmp 8), _, _, _, none⟩ (.bool false) rfl (by kernel_rfl) (fun _ _ _ => id) (H5.out.src) (fun W hSW => by go_simp) ?_
 try simp only [pu, l0, l1, l2]
 refine tk 5 ⟨some 10, .move (.tmp 9), _, _, _, none⟩ (.bool false) rfl (by kernel_rfl) (fun _ _ _ => id) (H5.out.src) (fun W hSW => by go_simp) ?_
 try simp only [pu, l0, l1, l2]
 refine tk 6 ⟨some 11, .fieldAddr 35 (.tmp 1) 1, _, _, _, some (5, false)⟩ (.pointer (some ⟨w.heap.size, 1, none⟩)) rfl (by kernel_rfl) (fun _ _ _ => id) (H5.out.src) (fun W hSW => by go_simp) ?_
 try simp only [pu, l0, l1, l2]
 refine tk 7 ⟨some 12, .load 25 (.tmp 11), _, _, _, some (5, false)⟩ (.int .u64 (x.view : Int)) rfl (by kernel_rfl) (fun _ _ _ => id) (H5.out.src) (fun W hSW => by have hv := (body_lies hSW HX.out).view; go_simp) ?_
 try simp only [pu, l0, l1, l2]
 refine tk 8 ⟨some 13, .binOp .geq 25 (.tmp 12) (.const (.int .u64 1073741824)) 25, _, _, _, some (5, false)⟩ (.bool false) rfl (by kernel_rfl) (fun _ _ _ => id) (H5.out.src) (fun W hSW => by have hv := HV; have hv2 := HV2; go_simp) ?_
 try simp only [pu, l0, l1, l2]
 refine tk 9 ⟨some 14, .pick (.tmp 10) (.const (.bool true)) (.tmp 13), _, _, _, none⟩ (.bool false) rfl (by kernel_rfl) (fun _ _ _ => id) (H5.out.src) (fun W hSW => by go_simp) ?_
 try simp only [pu, l0, l1, l2]
 refine wpAnyH_done (by kernel_rfl) ?_ _
 clear HV HV2
 have k0 : w5.cell? ⟨w.heap.size, 0, none⟩ = some (.int .u8 3) := (body_lies H5.out.src HX.out).kind.trans (by rw [HKI.out]; rfl)
 have k1 : w5.cell? ⟨w.heap.size, 1, none⟩ = some (.int .u64 (x.view : Int)) := (body_lies H5.out.src HX.out).view
 have k2 : w5.cell? ⟨w.heap.size, 2, none⟩ = some (.int .u64 (x.k : Int)) := (body_lies H5.out.src HX.out).k
 go_wp2_with fail
 go_ret
 exact ⟨ret_bool (by first | rfl | (rw [Bool.eq_iff_iff]; simp only [decide_eq_true_eq] <;> omega)), iq H5.out.bel⟩
theorem bodyr_5 (x : MBody) (w : World) (hx : x.Wf) (HKI : Hid (x.kind = 5)) (HV : ¬ ((x.view : Int) >= 1073741824)) (HV2 : ¬ (1073741824 <= x.view)) (HO : Hid (∀ W, Below w.heap.size w W -> Calls Tryz.prog 109 #[.agg (bodyC x).toArray] W fun E w' => E = .returned (.agg (bodyC (ownR x)).toArray) /\ Hid (Below W.heap.size W w')))
  (HS : Hid (∀ W, Below w.heap.size w W -> Calls Tryz.prog 108 #[.agg (bodyC (ownR x)).toArray, .agg (bodyC x).toArray] W fun E w' => E = .returned (.bool true) /\ Hid (Below W.heap.size W w'))) :
  Calls Tryz.prog 70 #[.agg (bodyC x).toArray] w fun E w' => E = .returned (.bool (decide (1 <= x.view))) /\ Hid (Below w.heap.size w w') := by
 have HB := iq (body_lies (range_box w (bodyC x) 35) hx)
 have HX := iq hx
 have HI : Hid ((Tryz.prog.info? 35).map (·.size) = some (bodyC x).length) := iq (by rw [bodyC_length hx]; exact Tryz.is35)
 have HL : Hid (RqAt w.heap.size w (bodyC x) (w.alloc (.cells (bodyC x).toArray 35))) := iq ⟨bl.alloc (Nat.le_refl _) _, by simp, range_box w (bodyC x) 35⟩
 clear hx
 go_enter Tryz.func70, Tryz.ntmps70
 go_wp2_with fail
 refine wp_region_any (by kernel_rfl) ?_
 have H3 := iq (HL.out.drewN 1)
 change wpAny _ _ _ _ _ _ _ ((w.alloc (.cells (bodyC x).toArray 35)).drewN 1)
 generalize (w.alloc (.cells (bodyC x).toArray 35)).drewN 1 = w3 at H3 ⊢
 clear HL HB
 refine wpAny_of_held (S := fun W => W.rangeAt w.heap.size 0 (bodyC x)) _ _ _ _ ?_
 refine tk 0 ⟨some 5, .load 35 (.tmp 1), _, _, _, none⟩ (.agg (bodyC x).toArray) rfl (by kernel_rfl) (fun _ _ _ => id) (H3.out.src) (fun W hSW => exec_load_mid 35 (.tmp 1) rfl w.heap.size 0 rfl (bodyC x) _ (hSW) Tryz.underlying35 rfl (HI.out)) ?_
 try simp only [Act.put, l0, l1, l2]
 refine tk 2 ⟨some 7, .load 35 (.tmp 1), _, _, _, none⟩ (.agg (bodyC x).toArray) rfl (by kernel_rfl) (fun _ _ _ => id) (H3.out.src) (fun W hSW => exec_load_mid 35 (.tmp 1) rfl w.heap.size 0 rfl (bodyC x) _ (hSW) Tryz.underlying35 rfl (HI.out)) ?_
 try simp only [pu, l0, l1, l2]
 refine rd1 1 ⟨some 6, .call { callee := .value (.func 109), args := #[.tmp 5], argTypes := #[35] }, _, _, _, none⟩ (by kernel_rfl) rfl fun K' hK' => ?_
 go_simp
 go_at_call 109
 refine (HO.out _ H3.out.bel).mono ?_
 rintro E w4 ⟨rfl, hb4⟩
 have H4 := iq (H3.out.next (Nat.le_refl _) hb4.out)
 refine hK'.out _ _ H4.out.src (fun _ => ?_)
 clear hK' K'
 try simp only [Act.put, l0, l1, l2]
 refine rd1 3 ⟨some 8, .call { callee := .value (.func 108), args := #[.tmp 6, .tmp 7], argTypes := #[35, 35] }, _, _, _, none⟩ (by kernel_rfl) rfl fun K' hK' => ?_
 go_simp
 go_at_call 108
 refine (HS.out _ H4.out.bel).mono ?_
 rintro E w5 ⟨rfl, hb5⟩
 have H5 := iq (H4.out.next (Nat.le_refl _) hb5.out)
 refine hK'.out _ _ H5.out.src (fun _ => ?_)
 clear hK' K'
 try simp only [Act.put, l0, l1, l2]
 refine tk 4 ⟨some 9, .unOp .not 4 (.tmp 8), _, _, _, none⟩ (.bool false) rfl (by kernel_rfl) (fun _ _ _ => id) (H5.out.src) (fun W hSW => by go_simp) ?_
 try simp only [pu, l0, l1, l2]
 refine tk 5 ⟨some 10, .move (.tmp 9), _, _, _, none⟩ (.bool false) rfl (by kernel_rfl) (fun _ _ _ => id) (H5.out.src) (fun W hSW => by go_simp) ?_
 try simp only [pu, l0, l1, l2]
 refine tk 6 ⟨some 11, .fieldAddr 35 (.tmp 1) 1, _, _, _, some (5, false)⟩ (.pointer (some ⟨w.heap.size, 1, none⟩)) rfl (by kernel_rfl) (fun _ _ _ => id) (H5.out.src) (fun W hSW => by go_simp) ?_
 try simp only [pu, l0, l1, l2]
 refine tk 7 ⟨some 12, .load 25 (.tmp 11), _, _, _, some (5, false)⟩ (.int .u64 (x.view : Int)) rfl (by kernel_rfl) (fun _ _ _ => id) (H5.out.src) (fun W hSW => by have hv := (body_lies hSW HX.out).view; go_simp) ?_
 try simp only [pu, l0, l1, l2]
 refine tk 8 ⟨some 13, .binOp .geq 25 (.tmp 12) (.const (.int .u64 1073741824)) 25, _, _, _, some (5, false)⟩ (.bool false) rfl (by kernel_rfl) (fun _ _ _ => id) (H5.out.src) (fun W hSW => by have hv := HV; have hv2 := HV2; go_simp) ?_
 try simp only [pu, l0, l1, l2]
 refine tk 9 ⟨some 14, .pick (.tmp 10) (.const (.bool true)) (.tmp 13), _, _, _, none⟩ (.bool false) rfl (by kernel_rfl) (fun _ _ _ => id) (H5.out.src) (fun W hSW => by go_simp) ?_
 try simp only [pu, l0, l1, l2]
 refine wpAnyH_done (by kernel_rfl) ?_ _
 clear HV HV2
 have k0 : w5.cell? ⟨w.heap.size, 0, none⟩ = some (.int .u8 5) := (body_lies H5.out.src HX.out).kind.trans (by rw [HKI.out]; rfl)
 have k1 : w5.cell? ⟨w.heap.size, 1, none⟩ = some (.int .u64 (x.view : Int)) := (body_lies H5.out.src HX.out).view
 have k2 : w5.cell? ⟨w.heap.size, 2, none⟩ = some (.int .u64 (x.k : Int)) := (body_lies H5.out.src HX.out).k
 go_wp2_with fail
 go_ret
 exact ⟨ret_bool (by first | rfl | (rw [Bool.eq_iff_iff]; simp only [decide_eq_true_eq] <;> omega)), iq H5.out.bel⟩
theorem bodyr_1 (x : MBody) (w : World) (hx : x.Wf) (HKI : Hid (x.kind = 1)) (HA : Hid (∀ W, Calls Tryz.prog 86 #[.agg (reqC x.req).toArray] W fun E w' => E = .returned (.bool (reqMay x.req)) /\ Below W.heap.size W w')) (HV : ¬ ((x.view : Int) >= 1073741824)) (HV2 : ¬ (1073741824 <= x.view)) (HO : Hid (∀ W, Below w.heap.size w W -> Calls Tryz.prog 109 #[.agg (bodyC x).toArray] W fun E w' => E = .returned (.agg (bodyC (ownR x)).toArray) /\ Hid (Below W.heap.size W w')))
  (HS : Hid (∀ W, Below w.heap.size w W -> Calls Tryz.prog 108 #[.agg (bodyC (ownR x)).toArray, .agg (bodyC x).toArray] W fun E w' => E = .returned (.bool true) /\ Hid (Below W.heap.size W w'))) :
  Calls Tryz.prog 70 #[.agg (bodyC x).toArray] w fun E w' => E = .returned (.bool (reqMay x.req)) /\ Hid (Below w.heap.size w w') := by
 have HJ : Hid ((Tryz.prog.info? 32).map (·.size) = some (reqC x.req).length) := iq (by rw [reqC_length hx.1]; exact Tryz.is32)
 have HB := iq (body_lies (range_box w (bodyC x) 35) hx)
 have HX := iq hx
 have HI : Hid ((Tryz.prog.info? 35).map (·.size) = some (bodyC x).length) := iq (by rw [bodyC_length hx]; exact Tryz.is35)
 have HL : Hid (RqAt w.heap.size w (bodyC x) (w.alloc (.cells (bodyC x).toArray 35))) := iq ⟨bl.alloc (Nat.le_refl _) _, by simp, range_box w (bodyC x) 35⟩
 clear hx
 go_enter Tryz.func70, Tryz.ntmps70
 go_wp2_with fail
 refine wp_region_any (by kernel_rfl) ?_
 have H3 := iq (HL.out.drewN 1)
 change wpAny _ _ _ _ _ _ _ ((w.alloc (.cells (bodyC x).toArray 35)).drewN 1)
 generalize (w.alloc (.cells (bodyC x).toArray 35)).drewN 1 = w3 at H3 ⊢
 clear HL HB
 refine wpAny_of_held (S := fun W => W.rangeAt w.heap.size 0 (bodyC x)) _ _ _ _ ?_
 refine tk 0 ⟨some 5, .load 35 (.tmp 1), _, _, _, none⟩ (.agg (bodyC x).toArray) rfl (by kernel_rfl) (fun _ _ _ => id) (H3.out.src) (fun W hSW => exec_load_mid 35 (.tmp 1) rfl w.heap.size 0 rfl (bodyC x) _ (hSW) Tryz.underlying35 rfl (HI.out)) ?_
 try simp only [Act.put, l0, l1, l2]
 refine tk 2 ⟨some 7, .load 35 (.tmp 1), _, _, _, none⟩ (.agg (bodyC x).toArray) rfl (by kernel_rfl) (fun _ _ _ => id) (H3.out.src) (fun W hSW => exec_load_mid 35 (.tmp 1) rfl w.heap.size 0 rfl (bodyC x) _ (hSW) Tryz.underlying35 rfl (HI.out)) ?_
 try simp only [pu, l0, l1, l2]
 refine rd1 1 ⟨some 6, .call { callee := .value (.func 109), args := #[.tmp 5], argTypes := #[35] }, _, _, _, none⟩ (by kernel_rfl) rfl fun K' hK' => ?_
 go_simp
 go_at_call 109
 refine (HO.out _ H3.out.bel).mono ?_
 rintro E w4 ⟨rfl, hb4⟩
 have H4 := iq (H3.out.next (Nat.le_refl _) hb4.out)
 refine hK'.out _ _ H4.out.src (fun _ => ?_)
 clear hK' K'
 try simp only [Act.put, l0, l1, l2]
 refine rd1 3 ⟨some 8, .call { callee := .value (.func 108), args := #[.tmp 6, .tmp 7], argTypes := #[35, 35] }, _, _, _, none⟩ (by kernel_rfl) rfl fun K' hK' => ?_
 go_simp
 go_at_call 108
 refine (HS.out _ H4.out.bel).mono ?_
 rintro E w5 ⟨rfl, hb5⟩
 have H5 := iq (H4.out.next (Nat.le_refl _) hb5.out)
 refine hK'.out _ _ H5.out.src (fun _ => ?_)
 clear hK' K'
 try simp only [Act.put, l0, l1, l2]
 refine tk 4 ⟨some 9, .unOp .not 4 (.tmp 8), _, _, _, none⟩ (.bool false) rfl (by kernel_rfl) (fun _ _ _ => id) (H5.out.src) (fun W hSW => by go_simp) ?_
 try simp only [pu, l0, l1, l2]
 refine tk 5 ⟨some 10, .move (.tmp 9), _, _, _, none⟩ (.bool false) rfl (by kernel_rfl) (fun _ _ _ => id) (H5.out.src) (fun W hSW => by go_simp) ?_
 try simp only [pu, l0, l1, l2]
 refine tk 6 ⟨some 11, .fieldAddr 35 (.tmp 1) 1, _, _, _, some (5, false)⟩ (.pointer (some ⟨w.heap.size, 1, none⟩)) rfl (by kernel_rfl) (fun _ _ _ => id) (H5.out.src) (fun W hSW => by go_simp) ?_
 try simp only [pu, l0, l1, l2]
 refine tk 7 ⟨some 12, .load 25 (.tmp 11), _, _, _, some (5, false)⟩ (.int .u64 (x.view : Int)) rfl (by kernel_rfl) (fun _ _ _ => id) (H5.out.src) (fun W hSW => by have hv := (body_lies hSW HX.out).view; go_simp) ?_
 try simp only [pu, l0, l1, l2]
 refine tk 8 ⟨some 13, .binOp .geq 25 (.tmp 12) (.const (.int .u64 1073741824)) 25, _, _, _, some (5, false)⟩ (.bool false) rfl (by kernel_rfl) (fun _ _ _ => id) (H5.out.src) (fun W hSW => by have hv := HV; have hv2 := HV2; go_simp) ?_
 try simp only [pu, l0, l1, l2]
 refine tk 9 ⟨some 14, .pick (.tmp 10) (.const (.bool true)) (.tmp 13), _, _, _, none⟩ (.bool false) rfl (by kernel_rfl) (fun _ _ _ => id) (H5.out.src) (fun W hSW => by go_simp) ?_
 try simp only [pu, l0, l1, l2]
 refine wpAnyH_done (by kernel_rfl) ?_ _
 clear HV HV2
 have k0 : w5.cell? ⟨w.heap.size, 0, none⟩ = some (.int .u8 1) := (body_lies H5.out.src HX.out).kind.trans (by rw [HKI.out]; rfl)
 have k1 : w5.cell? ⟨w.heap.size, 1, none⟩ = some (.int .u64 (x.view : Int)) := (body_lies H5.out.src HX.out).view
 have k2 : w5.cell? ⟨w.heap.size, 2, none⟩ = some (.int .u64 (x.k : Int)) := (body_lies H5.out.src HX.out).k
 go_wp2_with (first | ((with_reducible refine wpList_load_midG ?_ 32 (.tmp 19) ?_ w.heap.size 3 ?_ (reqC x.req) _ ?_ Tryz.underlying32 ?_ ?_ ?_); rfl; rfl; rfl; exact (body_lies H5.out.src HX.out).req.all; rfl; exact HJ.out) | (go_at_call 86; refine (HA.out _).mono ?_; rintro E w6 ⟨rfl, hb6⟩))
 go_ret
 exact ⟨rfl, iq (H5.out.next (Nat.le_refl _) hb6).bel⟩
theorem bodyr_x (x : MBody) (w : World) (hx : x.Wf) (h1 : ¬ ((x.kind.toNat : Int) = 1)) (h2 : ¬ ((x.kind.toNat : Int) = 2)) (h3 : ¬ ((x.kind.toNat : Int) = 3)) (h4 : ¬ ((x.kind.toNat : Int) = 4)) (h5 : ¬ ((x.kind.toNat : Int) = 5)) (h6 : ¬ ((x.kind.toNat : Int) = 6)) (HV : ¬ ((x.view : Int) >= 1073741824)) (HV2 : ¬ (1073741824 <= x.view)) (HO : Hid (∀ W, Below w.heap.size w W -> Calls Tryz.prog 109 #[.agg (bodyC x).toArray] W fun E w' => E = .returned (.agg (bodyC (ownR x)).toArray) /\ Hid (Below W.heap.size W w')))
  (HS : Hid (∀ W, Below w.heap.size w W -> Calls Tryz.prog 108 #[.agg (bodyC (ownR x)).toArray, .agg (bodyC x).toArray] W fun E w' => E = .returned (.bool true) /\ Hid (Below W.heap.size W w'))) :
  Calls Tryz.prog 70 #[.agg (bodyC x).toArray] w fun E w' => E = .returned (.bool (false)) /\ Hid (Below w.heap.size w w') := by
 have HB := iq (body_lies (range_box w (bodyC x) 35) hx)
 have HX := iq hx
 have HI : Hid ((Tryz.prog.info? 35).map (·.size) = some (bodyC x).length) := iq (by rw [bodyC_length hx]; exact Tryz.is35)
 have HL : Hid (RqAt w.heap.size w (bodyC x) (w.alloc (.cells (bodyC x).toArray 35))) := iq ⟨bl.alloc (Nat.le_refl _) _, by simp, range_box w (bodyC x) 35⟩
 clear hx
 go_enter Tryz.func70, Tryz.ntmps70
 go_wp2_with fail
 refine wp_region_any (by kernel_rfl) ?_
 have H3 := iq (HL.out.drewN 1)
 change wpAny _ _ _ _ _ _ _ ((w.alloc (.cells (bodyC x).toArray 35)).drewN 1)
 generalize (w.alloc (.cells (bodyC x).toArray 35)).drewN 1 = w3 at H3 ⊢
 clear HL HB
 refine wpAny_of_held (S := fun W => W.rangeAt w.heap.size 0 (bodyC x)) _ _ _ _ ?_
 refine tk 0 ⟨some 5, .load 35 (.tmp 1), _, _, _, none⟩ (.agg (bodyC x).toArray) rfl (by kernel_rfl) (fun _ _ _ => id) (H3.out.src) (fun W hSW => exec_load_mid 35 (.tmp 1) rfl w.heap.size 0 rfl (bodyC x) _ (hSW) Tryz.underlying35 rfl (HI.out)) ?_
 try simp only [Act.put, l0, l1, l2]
 refine tk 2 ⟨some 7, .load 35 (.tmp 1), _, _, _, none⟩ (.agg (bodyC x).toArray) rfl (by kernel_rfl) (fun _ _ _ => id) (H3.out.src) (fun W hSW => exec_load_mid 35 (.tmp 1) rfl w.heap.size 0 rfl (bodyC x) _ (hSW) Tryz.underlying35 rfl (HI.out)) ?_
 try simp only [pu, l0, l1, l2]
 refine rd1 1 ⟨some 6, .call { callee := .value (.func 109), args := #[.tmp 5], argTypes := #[35] }, _, _, _, none⟩ (by kernel_rfl) rfl fun K' hK' => ?_
 go_simp
 go_at_call 109
 refine (HO.out _ H3.out.bel).mono ?_
 rintro E w4 ⟨rfl, hb4⟩
 have H4 := iq (H3.out.next (Nat.le_refl _) hb4.out)
 refine hK'.out _ _ H4.out.src (fun _ => ?_)
 clear hK' K'
 try simp only [Act.put, l0, l1, l2]
 refine rd1 3 ⟨some 8, .call { callee := .value (.func 108), args := #[.tmp 6, .tmp 7], argTypes := #[35, 35] }, _, _, _, none⟩ (by kernel_rfl) rfl fun K' hK' => ?_
 go_simp
 go_at_call 108
 refine (HS.out _ H4.out.bel).mono ?_
 rintro E w5 ⟨rfl, hb5⟩
 have H5 := iq (H4.out.next (Nat.le_refl _) hb5.out)
 refine hK'.out _ _ H5.out.src (fun _ => ?_)
 clear hK' K'
 try simp only [Act.put, l0, l1, l2]
 refine tk 4 ⟨some 9, .unOp .not 4 (.tmp 8), _, _, _, none⟩ (.bool false) rfl (by kernel_rfl) (fun _ _ _ => id) (H5.out.src) (fun W hSW => by go_simp) ?_
 try simp only [pu, l0, l1, l2]
 refine tk 5 ⟨some 10, .move (.tmp 9), _, _, _, none⟩ (.bool false) rfl (by kernel_rfl) (fun _ _ _ => id) (H5.out.src) (fun W hSW => by go_simp) ?_
 try simp only [pu, l0, l1, l2]
 refine tk 6 ⟨some 11, .fieldAddr 35 (.tmp 1) 1, _, _, _, some (5, false)⟩ (.pointer (some ⟨w.heap.size, 1, none⟩)) rfl (by kernel_rfl) (fun _ _ _ => id) (H5.out.src) (fun W hSW => by go_simp) ?_
 try simp only [pu, l0, l1, l2]
 refine tk 7 ⟨some 12, .load 25 (.tmp 11), _, _, _, some (5, false)⟩ (.int .u64 (x.view : Int)) rfl (by kernel_rfl) (fun _ _ _ => id) (H5.out.src) (fun W hSW => by have hv := (body_lies hSW HX.out).view; go_simp) ?_
 try simp only [pu, l0, l1, l2]
 refine tk 8 ⟨some 13, .binOp .geq 25 (.tmp 12) (.const (.int .u64 1073741824)) 25, _, _, _, some (5, false)⟩ (.bool false) rfl (by kernel_rfl) (fun _ _ _ => id) (H5.out.src) (fun W hSW => by have hv := HV; have hv2 := HV2; go_simp) ?_
 try simp only [pu, l0, l1, l2]
 refine tk 9 ⟨some 14, .pick (.tmp 10) (.const (.bool true)) (.tmp 13), _, _, _, none⟩ (.bool false) rfl (by kernel_rfl) (fun _ _ _ => id) (H5.out.src) (fun W hSW => by go_simp) ?_
 try simp only [pu, l0, l1, l2]
 refine wpAnyH_done (by kernel_rfl) ?_ _
 clear HV HV2
 have k0 : w5.cell? ⟨w.heap.size, 0, none⟩ = some (.int .u8 (x.kind.toNat : Int)) := (body_lies H5.out.src HX.out).kind
 have k1 : w5.cell? ⟨w.heap.size, 1, none⟩ = some (.int .u64 (x.view : Int)) := (body_lies H5.out.src HX.out).view
 have k2 : w5.cell? ⟨w.heap.size, 2, none⟩ = some (.int .u64 (x.k : Int)) := (body_lies H5.out.src HX.out).k
 go_wp2_with fail
 go_ret
 exact ⟨rfl, iq H5.out.bel⟩
end Go.Proofs.YtknpcmadghkaaaaGreatDoor.Sh
