/- Laws and walks. -/
import Derived.Test.YtknpcmadghkaaaaGreatDoorS1w
set_option maxHeartbeats 16000000
set_option maxRecDepth 100000

namespace Go.Proofs.YtknpcmadghkaaaaGreatDoor.Sh
open Go.RowKit
theorem rangeAt_below {B : Nat} {w w' : World} {b o : Nat} {cs : List Value} (h : w.rangeAt b o cs) (hb : Below B w w') (hB : b < B) : w'.rangeAt b o cs := fun j v hv =>
 (hb.cell (p := ⟨b, o + j, none⟩) hB).trans (h j v hv)
theorem there_below {B : Nat} {w w' : World} {b o n : Nat} (h : w.there b o n) (hb : Below B w w') (hB : b < B) : w'.there b o n := fun j hj =>
 ⟨by rw [hb.cell (p := ⟨b, o + j, none⟩) hB]; exact (h j hj).1, by rw [hb.frozen (p := ⟨b, o + j, none⟩) hB]; exact (h j hj).2⟩
theorem KIs.below {B : Nat} {w w' : World} (h : KIs w) (hb : Below B w w') (hB : 0 < B) : KIs w' := fun i hi => (hb.cell (p := ⟨0, i, none⟩) hB).trans (h i hi)
theorem mixedOf_length (h : List UInt32) (b : List UInt8) : (mixedOf h b).length = 8 := rfl
theorem mixed_list (h : List UInt32) (b : List UInt8) (gw : Nat) (w : World) (hl : h.length = 8) (hk : KIs w) (h0 : 0 < w.heap.size) (hg : gw < w.heap.size) (hw : w.rangeAt gw 0 (u32s (sched b 48))) :
  Calls Tryz.prog 185 #[.agg (u32s h).toArray, .pointer (some ⟨gw, 0, none⟩)] w fun E w' => E = .returned (.agg (u32s (mixedOf h b)).toArray) /\ Below w.heap.size w w' := by
 match h, hl with
 | [a, b0, c, d, e, f, g, h'], _ => exact mixed_any a b0 c d e f g h' (sched b 48) gw w hk h0 hg fun i hi => rangeAt_u32 hw i (by rw [sched_length]; omega)
def sumsTo (h m : List UInt32) (k : Nat) : List UInt32 := (List.zipWith (· + ·) h m).take k ++ h.drop k
theorem sumsTo_length (h m : List UInt32) (k : Nat) (hh : h.length = 8) (hm : m.length = 8) (hk : k <= 8) : (sumsTo h m k).length = 8 := by simp [sumsTo, hh, hm]; omega
theorem sumsTo_at (h m : List UInt32) (k : Nat) (hh : h.length = 8) (hm : m.length = 8) (hk : k < 8) : (sumsTo h m k).getD k 0 = h.getD k 0 := by
 unfold sumsTo
 rw [List.getD_eq_getElem?_getD, List.getElem?_append_right (by simp [hh, hm]; omega)]
 simp [hh, hm, List.getD_eq_getElem?_getD, show min k 8 = k by omega]
theorem sumsTo_set (h m : List UInt32) (k : Nat) (hh : h.length = 8) (hm : m.length = 8) (hk : k < 8) : (sumsTo h m k).set k (h.getD k 0 + m.getD k 0) = sumsTo h m (k + 1) := by
 unfold sumsTo
 have hz : (List.zipWith (· + ·) h m).length = 8 := by simp [hh, hm]
 rw [List.set_append_right _ _ (by simp [hz]; omega), List.take_add_one]
 have hd : h.drop k = h.getD k 0 :: h.drop (k + 1) := by
  rw [List.drop_eq_getElem_cons (by omega : k < h.length)]
  simp [List.getD_eq_getElem?_getD, hh, hk]
 have ht : (List.zipWith (· + ·) h m)[k]? = some (h.getD k 0 + m.getD k 0) := by
  rw [List.getElem?_zipWith, List.getElem?_eq_getElem (l := h) (i := k) (by omega), List.getElem?_eq_getElem (l := m) (i := k) (by omega)]
  simp [List.getD_eq_getElem?_getD, hh, hm, hk]
 rw [hd, ht, List.length_take, hz, show k - min k 8 = 0 by omega]
 simp
theorem range_new2 (w : World) (o : Obj) (cs : List Value) (t : TypeId) : ((w.alloc o).alloc (.cells cs.toArray t)).rangeAt (w.heap.size + 1) 0 cs := by
 have h := range_new (w.alloc o) cs t
 rwa [show (w.alloc o).heap.size = w.heap.size + 1 by simp] at h
theorem there_of_range {w : World} {cs : List Value} {t : TypeId} : (w.alloc (.cells cs.toArray t)).there w.heap.size 0 cs.length := by
 have := there_new w cs.toArray t
 simpa using this
theorem blk_facts {w w1 : World} {A B : List Value} {Z : Array Value} {s t u : TypeId}
  (hb : Below (((w.alloc (.cells A.toArray s)).alloc (.cells B.toArray t)).alloc (.cells Z u)).heap.size (((w.alloc (.cells A.toArray s)).alloc (.cells B.toArray t)).alloc (.cells Z u)) w1) :
  Below w.heap.size w w1 /\ w1.rangeAt w.heap.size 0 A /\ w1.there w.heap.size 0 A.length /\ w1.there (w.heap.size + 1 + 1) 0 Z.size /\ w.heap.size + 1 + 1 < w1.heap.size := by
 have hs : (((w.alloc (.cells A.toArray s)).alloc (.cells B.toArray t)).alloc (.cells Z u)).heap.size = w.heap.size + 1 + 1 + 1 := by simp
 have h0 : Below w.heap.size w (((w.alloc (.cells A.toArray s)).alloc (.cells B.toArray t)).alloc (.cells Z u)) := ((bl.alloc (Nat.le_refl _) _).alloc (by simp) _).alloc (by simp; omega) _
 refine ⟨h0.trans (hb.mono h0.size), ?_, ?_, ?_, ?_⟩
 ·exact rangeAt_below (World.rangeAt_alloc (World.rangeAt_alloc (range_new w A s) _) _) hb (by rw [hs]; omega)
 ·exact there_below (World.there_alloc (World.there_alloc there_of_range _) _) hb (by rw [hs]; omega)
 ·exact there_below (there_last w _ _ _ _) hb (by rw [hs]; omega)
 ·have := hb.size
  omega
theorem wpList_store_fresh {P : Program} {ops : Array Oper} {rest : List Oper} {op : Oper} {a : Act} {w : World} {Z : Array Value} {t : TypeId} {Q : Exit -> Act -> World -> Prop} (hgd : op.guard = none) (ty : TypeId) (x y : Operand) (ho : op.op = .store ty x y)
  (cs : List Value) (hx : a.eval x = .pointer (some ⟨w.heap.size, 0, none⟩)) (hy : a.eval y = .agg cs.toArray) (hZ : Z.size = cs.length) (hi : (P.info? ty).map (·.size) = some cs.length) (h1 : ∀ v ∈ cs, v.oneCell' = true)
  (h : ∀ w2, Hid (Below w.heap.size w w2 /\ w2.rangeAt w.heap.size 0 cs /\ w2.there w.heap.size 0 cs.length /\ w.heap.size < w2.heap.size) -> wpList P ops Q rest (a.put op.dst undef) w2) : wpList P ops Q (op :: rest) a (w.alloc (.cells Z t)) := by
 have ht : (w.alloc (.cells Z t)).there w.heap.size 0 cs.length := by rw [<- hZ]; exact there_new w Z t
 have hb0 : Below w.heap.size w (w.alloc (.cells Z t)) := bl.alloc (Nat.le_refl _) _
 have hb1 : Below (w.heap.size + 1) (w.alloc (.cells Z t)) ((w.alloc (.cells Z t)).setCells w.heap.size 0 cs) -> True := fun _ => trivial
 refine wpList_store_cells hgd ty x y ho w.heap.size 0 cs hx hy ht hi h1 (h _ (iq ⟨below_setCells (Nat.le_refl _) _ _ _ hb0, World.rangeAt_setCells_same _ _ _ _ ht, World.there_setCells ht _ _ _, ?_⟩))
 have := (below_setCells (B := 0) (a := w.alloc (.cells Z t)) (b := w.heap.size) (Nat.zero_le _) cs 0 _ bl).size
 simp at this
 omega
theorem Tryz.info201 : (Tryz.prog.info? 201).map (·.size) = some 1 := by kernel_rfl
theorem run_index_cells {P : Program} {w : World} {ty e : TypeId} {n k : Nat} {kd : IntKind} {cs : List Value} {v : Value} (hu : P.underlying ty = some (.array n e)) (he : P.underlying e = some (.int kd))
  (hs : (P.info? e).map (·.size) = some 1) (hk : k < n) (hv : cs[k]? = some v) : (Instr.index ty (.agg cs.toArray) (.int .i64 (k : Int))).run P w = .ok v w := by
 have h0 : (0 : Int) <= (k : Int) /\ (k : Int) < (n : Int) := by omega
 cases hq : P.info? e with
 | none => simp [hq] at hs
 | some i =>
  have h1 : i.size = 1 := by simpa [hq] using hs
  have hagg : (isAgg e).run P w = .ok false w := by
   unfold isAgg
   rw [Sem.run_bind, run_underlying he w]
   rfl
  simp [Instr.index, run_underlying hu, asIntOf, h0, sizeOf, typeInfo, hq, h1, part, hagg, hv]
  omega
theorem wpList_index_cells {P : Program} {ops : Array Oper} {rest : List Oper} {op : Oper} {a : Act} {w : World} {Q : Exit -> Act -> World -> Prop} (hgd : op.guard = none) (ty : TypeId) (x y : Operand) (ho : op.op = .index ty x y)
  {e : TypeId} {n k : Nat} {kd : IntKind} {cs : List Value} {v : Value} (hx : a.eval x = .agg cs.toArray) (hy : a.eval y = .int .i64 (k : Int)) (hu : P.underlying ty = some (.array n e)) (he : P.underlying e = some (.int kd))
  (hs : (P.info? e).map (·.size) = some 1) (hk : k < n) (hv : cs[k]? = some v)
  (h : wpList P ops Q rest (a.put op.dst v) w) : wpList P ops Q (op :: rest) a w :=
 wpList_plain hgd fun K hK => by
  unfold Oper.wp execOp
  simp only [ho, hx, hy, Sem.run_bind, Sem.run_pure, Result.andThen_ok, run_index_cells hu he hs hk hv]
  exact hK _ _ h
def BkAt (h m : List UInt32) (k : Nat) (w wr : World) : Prop :=
 Below w.heap.size w wr /\ wr.rangeAt w.heap.size 0 (u32s (sumsTo h m k)) /\ wr.there w.heap.size 0 8 /\ wr.there (w.heap.size + 1 + 1) 0 8
theorem BkAt.set {h m : List UInt32} {k : Nat} {w wr : World} (H : BkAt h m k w wr) (i : Nat) (hi : i < (sumsTo h m k).length) (x : UInt32) {j : Nat} (e : sumsTo h m j = (sumsTo h m k).set i x) :
  BkAt h m j w (wr.setCell ⟨w.heap.size, i, none⟩ (.int .u32 (x.toNat : Int))) := by
 refine ⟨H.1.setCell (Nat.le_refl _) _, ?_, there_set H.2.2.1 _ _, there_set H.2.2.2 _ _⟩
 have := rangeAt_set H.2.1 i (by rw [u32s_length]; exact hi) (u32 x)
 rw [e]
 rwa [show (u32s (sumsTo h m k)).set i (u32 x) = u32s ((sumsTo h m k).set i x) by simp [u32s]] at this
theorem BkAt.drewN {h m : List UInt32} {k : Nat} {w wr : World} (H : BkAt h m k w wr) (q : Nat) : BkAt h m k w (wr.drewN q) := ⟨below_drewN H.1 q, H.2.1, H.2.2.1, H.2.2.2⟩
theorem block_by (h ml sw : List UInt32) (b : List UInt8) (w : World) (hl : h.length = 8) (hb64 : b.length = 64) (hm8 : ml.length = 8) (hsw : sw.length = 64) (hk : KIs w) (h0 : 0 < w.heap.size)
  (hs : ∀ w : World, Calls Tryz.prog 184 #[.agg (u8s b).toArray] w fun E w' => E = .returned (.agg (u32s sw).toArray) /\ Below w.heap.size w w')
  (hm : ∀ (gw : Nat) (w : World), KIs w -> 0 < w.heap.size -> gw < w.heap.size -> w.rangeAt gw 0 (u32s sw) ->
   Calls Tryz.prog 185 #[.agg (u32s h).toArray, .pointer (some ⟨gw, 0, none⟩)] w fun E w' => E = .returned (.agg (u32s ml).toArray) /\ Below w.heap.size w w') :
  Calls Tryz.prog 181 #[.agg (u32s h).toArray, .agg (u8s b).toArray] w fun E w' => E = .returned (.agg (u32s (List.zipWith (· + ·) h ml)).toArray) /\ Below w.heap.size w w' := by
 have HK := iq hk
 have HS := iq hs
 have HM := iq hm
 have HL := iq hl
 have HM8 := iq hm8
 have H8 : Hid ((Tryz.prog.info? 202).map (·.size) = some (u32s h).length) := iq (by rw [u32s_length, hl]; exact Tryz.size202)
 have HLB : Hid ((Tryz.prog.info? 204).map (·.size) = some (u8s b).length) := iq (by simp only [u8s, List.length_map, hb64]; exact Tryz.size204)
 have HLW : Hid ((u32s sw).length = 64) := iq (by rw [u32s_length, hsw])
 have HI : Hid ((Tryz.prog.info? 216).map (·.size) = some (u32s sw).length) := iq (by rw [HLW.out]; exact Tryz.size216)
 clear hl hb64 hk hs hm hm8 hsw
 go_enter Tryz.func181, Tryz.ntmps181
 go_wp2_with (first
  | (refine wpList_load_mid rfl 204 (.tmp 3) rfl (w.heap.size + 1) 0 rfl (u8s b) _ (World.rangeAt_alloc (range_new2 w _ _ _) _) Tryz.underlying204 rfl HLB.out ?_)
  | (go_at_call 184; refine (HS.out _).mono ?_; rintro E w1 ⟨rfl, hb1⟩; have F := iq (blk_facts hb1); clear hb1)
  | (refine wpList_store_fresh rfl 216 (.tmp 5) (.tmp 9) rfl (u32s sw) rfl rfl HLW.out.symm HI.out (u32s_one _) ?_; intro w2 G)
  | (refine wpList_load_mid rfl 202 (.tmp 2) rfl w.heap.size 0 rfl (u32s h) _ (rangeAt_below F.out.2.1 G.out.1 (by have := F.out.2.2.2.2; omega)) Tryz.underlying202 rfl H8.out ?_)
  | (go_at_call 185; refine (HM.out w1.heap.size w2 (HK.out.below (F.out.1.trans (G.out.1.mono F.out.1.size)) h0) (by have := G.out.2.2.2; omega) G.out.2.2.2 G.out.2.1).mono ?_; rintro E w3 ⟨rfl, hb3⟩))
 have HA : Hid (BkAt h ml 0 w w3) := by
  have hA : w.heap.size < w1.heap.size := by have := F.out.2.2.2.2; omega
  have hA' : w.heap.size + 1 + 1 < w1.heap.size := F.out.2.2.2.2
  have hB : w1.heap.size < w2.heap.size := G.out.2.2.2
  have e8 : (u32s h).length = 8 := by rw [u32s_length, HL.out]
  refine iq ⟨(F.out.1.trans (G.out.1.mono F.out.1.size)).trans (hb3.mono (by omega)), ?_, ?_, ?_⟩
  ·rw [show sumsTo h ml 0 = h by simp [sumsTo]]
   exact rangeAt_below (rangeAt_below F.out.2.1 G.out.1 hA) hb3 (by omega)
  ·rw [<- e8]
   exact there_below (there_below F.out.2.2.1 G.out.1 hA) hb3 (by omega)
  ·exact there_below (there_below F.out.2.2.2.1 G.out.1 hA') hb3 (by omega)
 clear F G hb3
 go_loopw [12] (fun vi wr => ∃ k : Nat, k <= 8 /\ vi = .int .i64 k /\ Hid (BkAt h ml k w wr)) (fun vi _ => 8 - (intOf vi).toNat)
 case atStart => exact ⟨0, by omega, rfl, HA⟩
 case round =>
  clear HA
  obtain ⟨k, hk, rfl, HA⟩ := hrel
  by_cases hk8 : k < 8
  ·have hc := rangeAt_u32 HA.out.2.1 k (by rw [sumsTo_length _ _ _ HL.out HM8.out hk]; exact hk8)
   have hf := there_cell HA.out.2.2.1 k hk8
   rw [sumsTo_at _ _ _ HL.out HM8.out hk8] at hc
   have HMK : Hid ((u32s ml)[k]? = some (.int .u32 ((ml.getD k 0).toNat : Int))) := iq (by
    simp [u32s, u32, List.getD_eq_getElem?_getD, List.getElem?_eq_getElem (l := ml) (i := k) (by rw [HM8.out]; exact hk8)])
   have HZ : Hid (sumsTo h ml (k + 1) = (sumsTo h ml k).set k (h.getD k 0 + ml.getD k 0)) := iq (sumsTo_set _ _ _ HL.out HM8.out hk8).symm
   have HLN : Hid (k < (sumsTo h ml k).length) := iq (by rw [sumsTo_length _ _ _ HL.out HM8.out hk]; exact hk8)
   generalize ml.getD k 0 = x at HMK HZ
   generalize h.getD k 0 = y at hc HZ
   go_wp2_with (first
    | (refine wpList_index_cells rfl 202 (.tmp 11) (.tmp 12) rfl rfl rfl Tryz.underlying202 Tryz.underlying201 Tryz.info201 hk8 HMK.out ?_))
   go_roundw
   case measure => simp [intOf]; omega
   case rel =>
    refine ⟨k + 1, by omega, by go_num, iq ?_⟩
    rw [b_add]
    exact HA.out.set k HLN.out (y + x) HZ.out
  ·obtain rfl : k = 8 := by omega
   have HZ : Hid (sumsTo h ml 8 = List.zipWith (· + ·) h ml) := iq (by simp [sumsTo, HL.out, HM8.out, List.take_of_length_le, List.drop_of_length_le])
   obtain ⟨z, hz⟩ : ∃ z, z = List.zipWith (· + ·) h ml := ⟨_, rfl⟩
   rw [<- hz] at HZ
   have HZ2 := iq hz
   clear hz
   have HR : Hid (wr.rangeAt w.heap.size 0 (u32s z)) := iq (by rw [<- HZ.out]; exact HA.out.2.1)
   have hz8 : (u32s z).length = 8 := by rw [u32s_length, <- HZ.out, sumsTo_length _ _ _ HL.out HM8.out (Nat.le_refl _)]
   have HT : Hid (wr.there (w.heap.size + 1 + 1) 0 (u32s z).length) := iq (by rw [hz8]; exact HA.out.2.2.2)
   have HI8 : Hid ((Tryz.prog.info? 202).map (·.size) = some (u32s z).length) := iq (by rw [hz8]; exact Tryz.size202)
   clear hz8
   go_wp2_with (first
    | (refine wpList_load_mid rfl 202 (.tmp 2) rfl w.heap.size 0 rfl (u32s z) _ HR.out Tryz.underlying202 rfl HI8.out ?_)
    | (refine wpList_store_cells rfl 202 (.tmp 4) (.tmp 23) rfl (w.heap.size + 1 + 1) 0 (u32s z) rfl rfl HT.out HI8.out (u32s_one _) ?_))
   exact bodyPost_ret (ret_range (cs := u32s z) rfl rfl (World.rangeAt_setCells_same _ _ _ (u32s z) HT.out) Tryz.underlying202 rfl HI8.out) rfl ⟨by rw [HZ2.out], below_setCells (by omega) _ _ _ HA.out.1⟩
theorem block_any (h : List UInt32) (b : List UInt8) (w : World) (hl : h.length = 8) (hb64 : b.length = 64) (hk : KIs w) (h0 : 0 < w.heap.size) :
  Calls Tryz.prog 181 #[.agg (u32s h).toArray, .agg (u8s b).toArray] w fun E w' => E = .returned (.agg (u32s (blockOf h b)).toArray) /\ Below w.heap.size w w' :=
 block_by h (mixedOf h b) (sched b 48) b w hl hb64 rfl (sched_length b 48) hk h0 (fun w => spread_any b w hb64) fun gw w hk h0 hg hw => mixed_list h b gw w hl hk h0 hg hw
open Go.RowKit
theorem u8s_length (l : List UInt8) : (u8s l).length = l.length := by simp [u8s]
theorem u8s_one (l : List UInt8) : ∀ v ∈ u8s l, v.oneCell' = true := by
 intro v hv
 simp only [u8s, List.mem_map] at hv
 obtain ⟨x, _, rfl⟩ := hv
 rfl
theorem u8s_set (l : List UInt8) (k : Nat) (x : UInt8) : (u8s l).set k (.int .u8 (x.toNat : Int)) = u8s (l.set k x) := by simp [u8s]
theorem u32s_at (l : List UInt32) (k : Nat) (hk : k < l.length) : (u32s l)[k]? = some (.int .u32 ((l.getD k 0).toNat : Int)) := by
 simp [u32s, u32, List.getD_eq_getElem?_getD, List.getElem?_eq_getElem hk]
theorem u8s_at (l : List UInt8) (k : Nat) (hk : k < l.length) : (u8s l)[k]? = some (.int .u8 ((l.getD k 0).toNat : Int)) := by
 simp [u8s, List.getD_eq_getElem?_getD, List.getElem?_eq_getElem hk]
theorem digestOf_length (l : List UInt32) : (digestOf l).length = 4 * l.length := by
 induction l with
 | nil => rfl
 | cons x r ih => rw [digestOf, List.flatMap_cons, List.length_append]; show 4 + (digestOf r).length = _; rw [ih, List.length_cons]; omega
theorem digestOf_take (l : List UInt32) (k : Nat) (hk : k < l.length) : digestOf (l.take (k + 1)) = digestOf (l.take k) ++ four (l.getD k 0) := by
 rw [List.take_add_one, digestOf, List.flatMap_append, List.getElem?_eq_getElem hk]
 simp [List.getD_eq_getElem?_getD, hk, digestOf]
theorem set4 (d : List UInt8) (k : Nat) (hd : d.length = 4 * k) (hk : k < 8) (a b c e : UInt8) :
  ((((d ++ List.replicate (32 - 4 * k) 0).set (4 * k) a).set (4 * k + 1) b).set (4 * k + 2) c).set (4 * k + 3) e = (d ++ [a, b, c, e]) ++ List.replicate (32 - 4 * (k + 1)) 0 := by
 rw [show 32 - 4 * k = (32 - 4 * (k + 1)) + 1 + 1 + 1 + 1 by omega]
 simp only [List.replicate_succ]
 rw [<- hd]
 simp
def ArAt (w wr : World) (g r n : Nat) (l : List UInt8) : Prop :=
 Below w.heap.size w wr /\ w.heap.size <= g /\ w.heap.size <= r /\ wr.rangeAt g 0 (u8s l) /\ wr.there g 0 n /\ wr.there r 0 n /\ l.length = n
theorem ArAt.set {w wr : World} {g r n : Nat} {l : List UInt8} (H : ArAt w wr g r n l) (i : Nat) (hi : i < n) (x : UInt8) :
  ArAt w (wr.setCell ⟨g, i, none⟩ (.int .u8 (x.toNat : Int))) g r n (l.set i x) := by
 obtain ⟨h1, h2, h3, h4, h5, h6, h7⟩ := H
 refine ⟨h1.setCell h2 _, h2, h3, ?_, there_set h5 _ _, there_set h6 _ _, by rw [List.length_set]; exact h7⟩
 have := rangeAt_set h4 i (by rw [u8s_length, h7]; exact hi) (.int .u8 (x.toNat : Int))
 rwa [u8s_set] at this
theorem ArAt.drewN {w wr : World} {g r n : Nat} {l : List UInt8} (H : ArAt w wr g r n l) (q : Nat) : ArAt w (wr.drewN q) g r n l := ⟨below_drewN H.1 q, H.2⟩
theorem ArAt.cell {w wr : World} {g r n : Nat} {l : List UInt8} (H : ArAt w wr g r n l) (i : Nat) (hi : i < n) : ∃ old : Int, wr.cell? ⟨g, i, none⟩ = some (.int .u8 old) :=
 ⟨_, rangeAt_u8 H.2.2.2.1 i (by rw [H.2.2.2.2.2.2]; exact hi)⟩
theorem ArAt.free {w wr : World} {g r n : Nat} {l : List UInt8} (H : ArAt w wr g r n l) (i : Nat) (hi : i < n) : wr.frozen? ⟨g, i, none⟩ = false := there_cell H.2.2.2.2.1 i hi
theorem by24 (x : UInt32) : (x.toNat : Int) / (16777216 : Int) % (256 : Int) = (((x >>> 24).toUInt8).toNat : Int) := by
 rw [UInt32.toNat_toUInt8, UInt32.toNat_shiftRight, show ((24 : UInt32).toNat % 32) = 24 from rfl, Nat.shiftRight_eq_div_pow]; omega
theorem by16 (x : UInt32) : (x.toNat : Int) / (65536 : Int) % (256 : Int) = (((x >>> 16).toUInt8).toNat : Int) := by
 rw [UInt32.toNat_toUInt8, UInt32.toNat_shiftRight, show ((16 : UInt32).toNat % 32) = 16 from rfl, Nat.shiftRight_eq_div_pow]; omega
theorem by8 (x : UInt32) : (x.toNat : Int) / (256 : Int) % (256 : Int) = (((x >>> 8).toUInt8).toNat : Int) := by
 rw [UInt32.toNat_toUInt8, UInt32.toNat_shiftRight, show ((8 : UInt32).toNat % 32) = 8 from rfl, Nat.shiftRight_eq_div_pow]; omega
theorem by0 (x : UInt32) : (x.toNat : Int) % (256 : Int) = ((x.toUInt8).toNat : Int) := by
 rw [UInt32.toNat_toUInt8]; omega
theorem digest_any (l : List UInt32) (w : World) (hl : l.length = 8) :
  Calls Tryz.prog 183 #[.agg (u32s l).toArray] w fun E w' => E = .returned (.agg (u8s (digestOf l)).toArray) /\ Below w.heap.size w w' := by
 have HL := iq hl
 have HI : Hid ((Tryz.prog.info? 202).map (·.size) = some (u32s l).length) := iq (by rw [u32s_length, hl]; exact Tryz.size202)
 clear hl
 go_enter Tryz.func183, Tryz.ntmps183
 go_wp2_with (first
  | (refine wpList_load_mid rfl 202 (.tmp 1) rfl w.heap.size 0 rfl (u32s l) _ (World.rangeAt_alloc (World.rangeAt_alloc (range_new w _ _) _) _) Tryz.underlying202 rfl HI.out ?_))
 go_loopw [7] (fun vi wr => ∃ k : Nat, k <= 8 /\ vi = .int .i64 k /\ Hid (ArAt w wr (w.heap.size + 1 + 1) (w.heap.size + 1) 32 (digestOf (l.take k) ++ List.replicate (32 - 4 * k) 0))) (fun vi _ => 8 - (intOf vi).toNat)
 case atStart =>
  refine ⟨0, by omega, rfl, iq ⟨((bl.alloc (Nat.le_refl _) _).alloc (by simp) _).alloc (by simp; omega) _, by omega, by omega, ?_, there_last w _ _ _ _, World.there_alloc (there_new2 w _ _ _) _, rfl⟩⟩
  exact range_last w _ _ (u8s (List.replicate 32 0)) _
 case round =>
  obtain ⟨k, hk, rfl, HA⟩ := hrel
  by_cases hk8 : k < 8
  ·obtain ⟨o0, c0⟩ := HA.out.cell (4 * k) (by omega)
   obtain ⟨o1, c1⟩ := HA.out.cell (4 * k + 1) (by omega)
   obtain ⟨o2, c2⟩ := HA.out.cell (4 * k + 2) (by omega)
   obtain ⟨o3, c3⟩ := HA.out.cell (4 * k + 3) (by omega)
   have f0 := HA.out.free (4 * k) (by omega)
   have f1 := HA.out.free (4 * k + 1) (by omega)
   have f2 := HA.out.free (4 * k + 2) (by omega)
   have f3 := HA.out.free (4 * k + 3) (by omega)
   have HMK : Hid ((u32s l)[k]? = some (.int .u32 ((l.getD k 0).toNat : Int))) := iq (u32s_at l k (by rw [HL.out]; exact hk8))
   have HT : Hid (digestOf (l.take (k + 1)) = digestOf (l.take k) ++ four (l.getD k 0)) := iq (digestOf_take l k (by rw [HL.out]; exact hk8))
   have HD : Hid ((digestOf (l.take k)).length = 4 * k) := iq (by rw [digestOf_length, List.length_take, HL.out]; omega)
   generalize l.getD k 0 = x at HMK HT
   go_wp2_with (first
    | (refine wpList_index_cells rfl 202 (.tmp 6) (.tmp 7) rfl rfl rfl Tryz.underlying202 Tryz.underlying201 Tryz.info201 hk8 HMK.out ?_))
   go_roundw
   case measure => simp [intOf]; omega
   case rel =>
    refine ⟨k + 1, by omega, by go_num, iq ?_⟩
    rw [by24, by16, by8, by0]
    have := (((HA.out.set (4 * k) (by omega) (x >>> 24).toUInt8).set (4 * k + 1) (by omega) (x >>> 16).toUInt8).set (4 * k + 2) (by omega) (x >>> 8).toUInt8).set (4 * k + 3) (by omega) x.toUInt8
    rw [set4 _ k HD.out hk8] at this
    rw [HT.out]
    exact this
  ·obtain rfl : k = 8 := by omega
   have HE : Hid (digestOf (l.take 8) ++ List.replicate (32 - 4 * 8) 0 = digestOf l) := iq (by rw [List.take_of_length_le (by rw [HL.out]; exact Nat.le_refl _)]; simp)
   rw [HE.out] at HA
   obtain ⟨z, hz⟩ : ∃ z, z = digestOf l := ⟨_, rfl⟩
   rw [<- hz] at HA
   have HZ := iq hz
   clear hz HE
   have HR : Hid (wr.rangeAt (w.heap.size + 1 + 1) 0 (u8s z)) := iq HA.out.2.2.2.1
   have hz8 : (u8s z).length = 32 := by rw [u8s_length, HA.out.2.2.2.2.2.2]
   have HT : Hid (wr.there (w.heap.size + 1) 0 (u8s z).length) := iq (by rw [hz8]; exact HA.out.2.2.2.2.2.1)
   have HI8 : Hid ((Tryz.prog.info? 30).map (·.size) = some (u8s z).length) := iq (by rw [hz8]; exact Tryz.size30)
   clear hz8
   go_wp2_with (first
    | (refine wpList_load_mid rfl 30 (.tmp 3) rfl (w.heap.size + 1 + 1) 0 rfl (u8s z) _ HR.out Tryz.underlying30 rfl HI8.out ?_)
    | (refine wpList_store_cells rfl 30 (.tmp 2) (.tmp 38) rfl (w.heap.size + 1) 0 (u8s z) rfl rfl HT.out HI8.out (u8s_one _) ?_))
   exact bodyPost_ret (ret_range (cs := u8s z) rfl rfl (World.rangeAt_setCells_same _ _ _ (u8s z) HT.out) Tryz.underlying30 rfl HI8.out) rfl ⟨by rw [HZ.out], below_setCells (by omega) _ _ _ HA.out.1⟩
theorem Tryz.zero234 : (Tryz.prog.info? 234).map (fun i => (i.zero, i.size)) = some (some (.agg (Array.replicate 72 (.int .u8 0))), 72) := by kernel_rfl
def padTo (n k : Nat) : List UInt8 := 128 :: (List.replicate ((119 - n % 64) % 64) 0 ++ lenBytes n k)
theorem padTo_length (n k : Nat) : (padTo n k).length = 1 + (119 - n % 64) % 64 + k := by simp [padTo, lenBytes]; omega
theorem padTo_succ (n k : Nat) : padTo n (k + 1) = padTo n k ++ [UInt8.ofNat (8 * n / 2 ^ (56 - 8 * k))] := by simp [padTo, lenBytes, List.range_succ]
theorem len_byte (n k : Nat) : 8 * (n : Int) / (2 : Int) ^ (56 - 8 * k) % (256 : Int) = ((UInt8.ofNat (8 * n / 2 ^ (56 - 8 * k))).toNat : Int) := by
 rw [UInt8.toNat_ofNat']
 simp only [Int.natCast_emod, Int.natCast_ediv, Int.natCast_pow, Int.natCast_mul]
 rfl
theorem ret_range2 {P : Program} {fn : Func} {p u : Tmp} {ty : TypeId} (h : fn.results = #[.cell p ty, .tmp u]) {tmps : Array Value} {w : World} {g : Nat} {cs : List Value} {d : TypeDesc} {v : Value}
  (hp : tmps.getD p undef = .pointer (some ⟨g, 0, none⟩)) (hu' : tmps.getD u undef = v) (hc : w.rangeAt g 0 cs) (hu : P.underlying ty = some d) (hd : d.isRow = true) (hi : (P.info? ty).map (·.size) = some cs.length) :
  (results fn tmps).run P w = .ok (.tuple #[.agg cs.toArray, v]) w := by
 have hp' : tmps[p]?.getD undef = .pointer (some ⟨g, 0, none⟩) := by simpa using hp
 have hu'' : tmps[u]?.getD undef = v := by simpa using hu'
 simp [results, h, hp', hu'', asAddr, run_loadVar_mid w g 0 ty cs d hc hu hd hi]
theorem padding_any (n : Nat) (w : World) (hn : n < 1152921504606846976) :
  Calls Tryz.prog 182 #[.int .u64 (n : Int)] w fun E w' => E = .returned (.tuple #[.agg (u8s (padOf n ++ List.replicate (72 - (padOf n).length) 0)).toArray, .int .i64 ((padOf n).length : Int)]) /\ Below w.heap.size w w' := by
 obtain ⟨hz, _⟩ := zero_of_info Tryz.zero234
 go_enter Tryz.func182, Tryz.ntmps182
 go_wp2
 obtain ⟨m, hm⟩ : ∃ m, m = 1 + (119 - n % 64) % 64 := ⟨_, rfl⟩
 have hm64 : m <= 64 := by omega
 have em : (1 : Int) + (119 - (n : Int)) % 64 = (m : Int) := by omega
 rw [em]
 have HM := iq hm
 clear hm em hz
 go_loopw [14] (fun vi wr => ∃ k : Nat, k <= 8 /\ vi = .int .i64 k /\ Hid (ArAt w wr (w.heap.size + 1) w.heap.size 72 (padTo n k ++ List.replicate (72 - (m + k)) 0))) (fun vi _ => 8 - (intOf vi).toNat)
 case atStart =>
  refine ⟨0, by omega, rfl, iq ?_⟩
  have e : padTo n 0 ++ List.replicate (72 - (m + 0)) 0 = 128 :: List.replicate 71 0 := by
   rw [padTo, lenBytes, HM.out]
   simp only [List.range_zero, List.map_nil, List.append_nil, List.cons_append, List.replicate_append_replicate]
   congr 2
   omega
  rw [e]
  refine ⟨(bl.alloc (Nat.le_refl _) _).alloc (by simp) _, by omega, by omega, ?_, there_new2 w _ _ _, World.there_alloc (there_new w _ _) _, rfl⟩
  exact range_new2 w _ (u8s (128 :: List.replicate 71 0)) _
 case round =>
  obtain ⟨k, hk, rfl, HA⟩ := hrel
  by_cases hk8 : k < 8
  ·obtain ⟨o0, c0⟩ := HA.out.cell (m + k) (by omega)
   have f0 := HA.out.free (m + k) (by omega)
   go_wp2
   go_roundw
   case measure => simp [intOf]; omega
   case rel =>
    refine ⟨k + 1, by omega, by go_num, iq ?_⟩
    rw [len_byte]
    have := HA.out.set (m + k) (by omega) (UInt8.ofNat (8 * n / 2 ^ (56 - 8 * k)))
    rw [fill_set _ _ _ 72 (m + k) (by rw [padTo_length, HM.out]) (by omega), <- padTo_succ] at this
    exact this
  ·obtain rfl : k = 8 := by omega
   have HE : Hid (padTo n 8 ++ List.replicate (72 - (m + 8)) 0 = padOf n ++ List.replicate (72 - (padOf n).length) 0) := iq (by
    rw [show padOf n = padTo n 8 from rfl, padTo_length, HM.out])
   have HN : Hid (m + 8 = (padOf n).length) := iq (by rw [show padOf n = padTo n 8 from rfl, padTo_length, HM.out])
   rw [HE.out] at HA
   obtain ⟨z, hz⟩ : ∃ z, z = padOf n ++ List.replicate (72 - (padOf n).length) 0 := ⟨_, rfl⟩
   rw [<- hz] at HA
   have HZ := iq hz
   clear hz HE
   have HR : Hid (wr.rangeAt (w.heap.size + 1) 0 (u8s z)) := iq HA.out.2.2.2.1
   have hz8 : (u8s z).length = 72 := by rw [u8s_length, HA.out.2.2.2.2.2.2]
   have HT : Hid (wr.there w.heap.size 0 (u8s z).length) := iq (by rw [hz8]; exact HA.out.2.2.2.2.2.1)
   have HI8 : Hid ((Tryz.prog.info? 234).map (·.size) = some (u8s z).length) := iq (by rw [hz8]; exact Tryz.size234)
   clear hz8
   go_wp2_with (first
    | (refine wpList_load_mid rfl 234 (.tmp 4) rfl (w.heap.size + 1) 0 rfl (u8s z) _ HR.out Tryz.underlying234 rfl HI8.out ?_)
    | (refine wpList_store_cells rfl 234 (.tmp 2) (.tmp 29) rfl w.heap.size 0 (u8s z) rfl rfl HT.out HI8.out (u8s_one _) ?_))
   exact bodyPost_ret (ret_range2 (cs := u8s z) rfl rfl rfl (World.rangeAt_setCells_same _ _ _ (u8s z) HT.out) Tryz.underlying234 rfl HI8.out) rfl ⟨by rw [HZ.out, <- HN.out]; rfl, below_setCells (Nat.le_refl _) _ _ _ HA.out.1⟩
open Go.RowKit
theorem Tryz.zero233 : (Tryz.prog.info? 233).map (fun i => (i.zero, i.size)) = some (some (.agg ((List.replicate 8 (Value.int .u32 0) ++ List.replicate 64 (Value.int .u8 0)) ++ [Value.int .i64 0, Value.int .u64 0]).toArray), 74) := by kernel_rfl
def hcells (nums : List UInt32) (blk : List UInt8) (f n : Nat) : List Value := u32s nums ++ (u8s blk ++ [.int .i64 (f : Int), .int .u64 (n : Int)])
def HashIs (w : World) (g : Nat) (xs : List UInt8) (L : Nat) : Prop :=
 ∃ blk : List UInt8, blk.length = 64 /\ blk.take (xs.length % 64) = xs.drop (64 * (xs.length / 64)) /\ w.heap[g]? = some (.cells (hcells (absorb xs) blk (xs.length % 64) L).toArray 233 (0, 0))
theorem HashIs.below {B g L : Nat} {w w' : World} {xs : List UInt8} (h : HashIs w g xs L) (hb : Below B w w') (hB : g < B) : HashIs w' g xs L :=
 let ⟨blk, h1, h2, h3⟩ := h
 ⟨blk, h1, h2, (hb.block g hB).trans h3⟩
theorem HashIs.lt {g L : Nat} {w : World} {xs : List UInt8} (h : HashIs w g xs L) : g < w.heap.size :=
 let ⟨_, _, _, h3⟩ := h
 (Array.getElem?_eq_some_iff.1 h3).1
theorem new_any (w : World) : Calls Tryz.prog 175 #[] w fun E w' => ∃ g, E = .returned (.pointer (some ⟨g, 0, none⟩)) /\ w.heap.size <= g /\ HashIs w' g [] 0 /\ Below w.heap.size w w' := by
 obtain ⟨hz, _⟩ := zero_of_info Tryz.zero233
 go_enter Tryz.func175, Tryz.ntmps175
 go_wp2_with (first | (go_at_call 180; refine (start_any _).mono ?_; rintro E w1 ⟨rfl, hb1⟩))
 go_ret
 refine ⟨w1.heap.size, rfl, hb1.size, ⟨List.replicate 64 0, rfl, rfl, ?_⟩, hb1.alloc hb1.size _⟩
 exact heap_alloc_new w1 _
open Go.RowKit
def Rd (P : Nat -> Prop) (w : World) (A : Option Addr) (n : Nat) (bs : List UInt8) : Prop :=
 bs.length = n /\ (0 < n -> ∃ b o, A = some ⟨b, o, none⟩ /\ b < w.heap.size /\ P b /\ ∀ j u, bs[j]? = some u -> w.cell? ⟨b, o + j, none⟩ = some (.int .u8 (u.toNat : Int)))
def Sl (A : Option Addr) (n c : Nat) : Prop := (A = none -> n = 0 /\ c = 0) /\ n <= c /\ c <= 9223372036854775807
theorem Rd.mono {P Q : Nat -> Prop} {w : World} {A : Option Addr} {n : Nat} {bs : List UInt8} (h : Rd P w A n bs) (hq : ∀ b, b < w.heap.size -> P b -> Q b) : Rd Q w A n bs :=
 ⟨h.1, fun hn => let ⟨b, o, e, hb, hp, hc⟩ := h.2 hn; ⟨b, o, e, hb, hq b hb hp, hc⟩⟩
theorem Rd.nil (P : Nat -> Prop) (w : World) (A : Option Addr) : Rd P w A 0 [] := ⟨rfl, fun h => absurd h (by omega)⟩
theorem Rd.below {P : Nat -> Prop} {B : Nat} {w w' : World} {A : Option Addr} {n : Nat} {bs : List UInt8} (h : Rd P w A n bs) (hb : Below B w w') (hB : ∀ b, b < w.heap.size -> P b -> b < B) : Rd P w' A n bs := by
 refine ⟨h.1, fun hn => ?_⟩
 obtain ⟨b, o, hA, hlt, hp, hc⟩ := h.2 hn
 exact ⟨b, o, hA, Nat.lt_of_lt_of_le hlt hb.size, hp, fun j u hu => (hb.cell (p := ⟨b, o + j, none⟩) (hB b hlt hp)).trans (hc j u hu)⟩
theorem Rd.grown {g : Nat} {P : Nat -> Prop} {w w' : World} {A : Option Addr} {n : Nat} {bs : List UInt8} (h : Rd P w A n bs) (hb : w.grownBy w' (some g)) (hB : ∀ b, P b -> b ≠ g) : Rd P w' A n bs := by
 refine ⟨h.1, fun hn => ?_⟩
 obtain ⟨b, o, hA, hlt, hp, hc⟩ := h.2 hn
 exact ⟨b, o, hA, Nat.lt_of_lt_of_le hlt hb.size, hp, fun j u hu => hb.cell (hc j u hu) (fun e => hB b hp (Option.some.inj e))⟩
theorem Rd.drewN {P : Nat -> Prop} {w : World} {A : Option Addr} {n : Nat} {bs : List UInt8} (h : Rd P w A n bs) (q : Nat) : Rd P (w.drewN q) A n bs := h
theorem add_lit (b o k : Nat) : (⟨b, o, none⟩ : Addr).add k = ⟨b, o + k, none⟩ := by unfold Addr.add; split <;> simp_all
theorem Rd.cut {P : Nat -> Prop} {w : World} {A : Option Addr} {n c k : Nat} {all : List UInt8} (h : Rd P w A n all) (hk : k <= n) (hc : n <= c) :
  Rd P w (if c = k then A else A.map (·.add k)) (n - k) (all.drop k) := by
 refine ⟨by rw [List.length_drop, h.1], fun hn => ?_⟩
 obtain ⟨b, o, rfl, hb, hp, hcell⟩ := h.2 (by omega)
 rw [if_neg (by omega)]
 refine ⟨b, o + k, by simp [add_lit], hb, hp, fun j u hu => ?_⟩
 rw [Nat.add_assoc]
 exact hcell _ u (by rw [<- hu, List.getElem?_drop])
theorem Sl.cut {A : Option Addr} {n c k m : Nat} (h : Sl A n c) (hk : k + m <= n) : Sl (if c = k then A else A.map (·.add k)) m (c - k) := by
 obtain ⟨h1, h2, h3⟩ := h
 refine ⟨fun he => ?_, by omega, by omega⟩
 split at he
 ·obtain ⟨rfl, rfl⟩ := h1 he
  omega
 ·have : A = none := by simpa using he
  obtain ⟨rfl, rfl⟩ := h1 this
  omega
theorem gb_trans {a w w' : World} {row : Option Nat} (h : a.grownBy w row) (k : w.grownBy w' row) : a.grownBy w' row :=
 ⟨k.os.trans h.os, k.tape.trans h.tape, k.output.trans h.output, Nat.le_trans h.size k.size, fun i hi hr => (k.block i (Nat.lt_of_lt_of_le hi h.size) hr).trans (h.block i hi hr)⟩
theorem gb_drewN (w : World) (q : Nat) (row : Option Nat) : w.grownBy (w.drewN q) row := ⟨rfl, rfl, rfl, Nat.le_refl _, fun _ _ _ => rfl⟩
theorem gb_below {w w' : World} (h : Below w.heap.size w w') (row : Option Nat) : w.grownBy w' row := ⟨h.os, h.tape, h.output, h.size, fun k hk _ => h.block k hk⟩
theorem gb_set (w : World) (g i : Nat) (v : Value) : w.grownBy (w.setCell ⟨g, i, none⟩ v) (some g) :=
 ⟨rfl, rfl, rfl, by simp [World.setCell], fun k _ hr => Below.heap_setCell w ⟨g, i, none⟩ v k (fun e => hr (by rw [e]))⟩
theorem gb_setCells (g : Nat) : ∀ (vs : List Value) (o : Nat) (w : World), w.grownBy (w.setCells g o vs) (some g)
 | [], _, w => World.grownBy.refl w _
 | v :: r, o, w => gb_trans (gb_set w g o v) (gb_setCells g r (o + 1) _)
theorem gb_setRow (w : World) (g : Nat) (cs : Array Value) : w.grownBy (w.setRow g cs) (some g) :=
 ⟨rfl, rfl, rfl, by simp [World.setRow], fun k _ hr => setRow_other w g k cs (fun e => hr (by rw [e]))⟩
theorem wpList_copy_grown {P : Program} {w : World} {ops : Array Oper} {rest : List Oper} {o : Oper} {a : Act} {Q : Exit -> Act -> World -> Prop} (hgd : o.guard = none) (d s : Operand) (dT sT : TypeId)
  (ho : o.op = .call { callee := .builtin .copy, args := #[d, s], argTypes := #[dT, sT] }) (elem : TypeId) (hu : P.underlying dT = some (.slice elem)) (hsz : (P.info? elem).map (·.size) = some 1)
  (dp sp : Option Addr) (dLen dCap sLen sCap : Nat) (hd : a.eval d = .slice dp dLen dCap) (hs : a.eval s = .slice sp sLen sCap)
  (g off : Nat) (cur : List Value) (t : TypeId) (hg : w.heap[g]? = some (.cells cur.toArray t (0, 0))) (cs : List Value) (hn : cs.length = Nat.min sLen dLen)
  (hpos : 0 < cs.length -> dp = some ⟨g, off, none⟩ /\ ∃ ad, sp = some ad /\ ∀ j v, cs[j]? = some v -> w.cell? (ad.add j) = some v)
  (hfit : off + cs.length <= cur.length) (h1 : ∀ v ∈ cs, v.oneCell' = true)
  (h : ∀ w', Hid (w'.heap[g]? = some (.cells (splice cur off cs).toArray t (0, 0)) /\ w.grownBy w' (some g)) -> wpList P ops Q rest (a.put o.dst (goInt cs.length)) w') :
  wpList P ops Q (o :: rest) a w := by
 by_cases h0 : cs.length = 0
 ·obtain rfl : cs = [] := List.eq_nil_of_length_eq_zero h0
  refine wpList_copy_nothing hgd d s dT sT ho elem hu hsz dp sp dLen dCap sLen sCap hd hs (by simpa using hn.symm) ?_
  exact h w (iq ⟨by simpa [splice] using hg, World.grownBy.refl w _⟩)
 ·obtain ⟨rfl, ad, rfl, hsrc⟩ := hpos (by omega)
  refine wpList_copy_own hgd d s dT sT ho elem hu hsz g off dLen dCap ad sLen sCap hd hs cur.toArray t hg cs hn hsrc (by simpa using hfit) h1 ?_
  exact h _ (iq ⟨by simpa [splice] using setRow_heap w g _ _ t _ hg, gb_setRow w g _⟩)
theorem hcells_length {nums : List UInt32} {blk : List UInt8} (hn : nums.length = 8) (hb : blk.length = 64) (f n : Nat) : (hcells nums blk f n).length = 74 := by simp [hcells, u32s_length, u8s_length, hn, hb]
theorem hcells_72 {nums : List UInt32} {blk : List UInt8} (hn : nums.length = 8) (hb : blk.length = 64) (f n : Nat) : (hcells nums blk f n)[72]? = some (.int .i64 (f : Int)) := by
 simp [hcells, u32s_length, u8s_length, hn, hb]
theorem hcells_73 {nums : List UInt32} {blk : List UInt8} (hn : nums.length = 8) (hb : blk.length = 64) (f n : Nat) : (hcells nums blk f n)[73]? = some (.int .u64 (n : Int)) := by
 simp [hcells, u32s_length, u8s_length, hn, hb]
theorem hcells_set72 {nums : List UInt32} {blk : List UInt8} (hn : nums.length = 8) (hb : blk.length = 64) (f n f' : Nat) : (hcells nums blk f n).set 72 (.int .i64 (f' : Int)) = hcells nums blk f' n := by
 simp [hcells, u32s_length, u8s_length, hn, hb]
theorem hcells_set73 {nums : List UInt32} {blk : List UInt8} (hn : nums.length = 8) (hb : blk.length = 64) (f n n' : Nat) : (hcells nums blk f n).set 73 (.int .u64 (n' : Int)) = hcells nums blk f n' := by
 simp [hcells, u32s_length, u8s_length, hn, hb]
theorem hcells_splice {nums : List UInt32} {blk : List UInt8} (hn : nums.length = 8) (hb : blk.length = 64) (f n r : Nat) (ys : List UInt8) (hr : r + ys.length <= 64) :
  splice (hcells nums blk f n) (8 + r) (u8s ys) = hcells nums (splice blk r ys) f n := by
 have h1 : (u32s nums).length = 8 := by rw [u32s_length, hn]
 have h2 : (u8s blk).length = 64 := by rw [u8s_length, hb]
 have h3 : (u8s ys).length = ys.length := u8s_length ys
 unfold hcells splice
 rw [List.take_append, List.drop_append, h1, List.take_append, List.drop_append, h2, h3]
 rw [List.take_of_length_le (l := u32s nums) (by omega), List.drop_of_length_le (l := u32s nums) (by omega)]
 rw [show 8 + r - 8 = r by omega, show r - 64 = 0 by omega, show 8 + r + ys.length - 8 = r + ys.length by omega, show r + ys.length - 64 = 0 by omega]
 simp [u8s]
theorem heap_set {w : World} {g k : Nat} {C : List Value} {t : TypeId} (h : w.heap[g]? = some (.cells C.toArray t (0, 0))) (v : Value) : (w.setCell ⟨g, k, none⟩ v).heap[g]? = some (.cells (C.set k v).toArray t (0, 0)) := by
 simp [World.setCell, Array.getElem?_modify, h]
theorem free_block {w : World} {g : Nat} {C : Array Value} {t : TypeId} (h : w.heap[g]? = some (.cells C t (0, 0))) (k : Nat) : w.frozen? ⟨g, k, none⟩ = false := by
 simp only [World.frozen?, h]
 simp
end Go.Proofs.YtknpcmadghkaaaaGreatDoor.Sh
