/-
  What is proved: what Block answers. Conditions as stated.
-/
import Derived.Test.YtflbhicjaaeegaaDoorC
namespace Go.Proofs.YtflbhicjaaeegaaDoor
open Go.RowKit

theorem rangeAt_below {B : Nat} {w w' : World} {b o : Nat} {cs : List Value} (h : w.rangeAt b o cs) (hb : Below B w w') (hB : b < B) : w'.rangeAt b o cs := fun j v hv =>
  (hb.cell (p := ⟨b, o + j, none⟩) hB).trans (h j v hv)
theorem there_below {B : Nat} {w w' : World} {b o n : Nat} (h : w.there b o n) (hb : Below B w w') (hB : b < B) : w'.there b o n := fun j hj =>
  ⟨by rw [hb.cell (p := ⟨b, o + j, none⟩) hB]; exact (h j hj).1, by rw [hb.frozen (p := ⟨b, o + j, none⟩) hB]; exact (h j hj).2⟩
theorem KIs.below {B : Nat} {w w' : World} (h : KIs w) (hb : Below B w w') (hB : 0 < B) : KIs w' := fun i hi => (hb.cell (p := ⟨0, i, none⟩) hB).trans (h i hi)

theorem mixedOf_length (h : List UInt32) (b : List UInt8) : (mixedOf h b).length = 8 := rfl

theorem mixed_list (h : List UInt32) (b : List UInt8) (gw : Nat) (w : World) (hl : h.length = 8) (hk : KIs w) (h0 : 0 < w.heap.size) (hg : gw < w.heap.size) (hw : w.rangeAt gw 0 (u32s (sched b 48))) :
    Calls Tryd.prog 20 #[.agg (u32s h).toArray, .pointer (some ⟨gw, 0, none⟩)] w fun E w' => E = .returned (.agg (u32s (mixedOf h b)).toArray) ∧ Below w.heap.size w w' := by
  match h, hl with
  | [a, b0, c, d, e, f, g, h'], _ => exact mixed_any a b0 c d e f g h' (sched b 48) gw w hk h0 hg fun i hi => rangeAt_u32 hw i (by rw [sched_length]; omega)

/-- The first so many sums, the rest as it was. -/
def sumsTo (h m : List UInt32) (k : Nat) : List UInt32 := (List.zipWith (· + ·) h m).take k ++ h.drop k
theorem sumsTo_length (h m : List UInt32) (k : Nat) (hh : h.length = 8) (hm : m.length = 8) (hk : k ≤ 8) : (sumsTo h m k).length = 8 := by simp [sumsTo, hh, hm]; omega
theorem sumsTo_at (h m : List UInt32) (k : Nat) (hh : h.length = 8) (hm : m.length = 8) (hk : k < 8) : (sumsTo h m k).getD k 0 = h.getD k 0 := by
  unfold sumsTo
  rw [List.getD_eq_getElem?_getD, List.getElem?_append_right (by simp [hh, hm]; omega)]
  simp [hh, hm, List.getD_eq_getElem?_getD, show min k 8 = k by omega]
theorem sumsTo_set (h m : List UInt32) (k : Nat) (hh : h.length = 8) (hm : m.length = 8) (hk : k < 8) : (sumsTo h m k).set k (h.getD k 0 + m.getD k 0) = sumsTo h m (k + 1) := by
  unfold sumsTo
  have hz : (List.zipWith (· + ·) h m).length = 8 := by simp [hh, hm]
  rw [List.set_append_right _ _ (by simp [hz]; omega), List.take_add_one]
  have hd : h.drop k = h.getD k 0 :: h.drop (k + 1) := by
    rw [List.drop_eq_getElem_cons (by omega : k < h.length)]
    simp [List.getD_eq_getElem?_getD, hh, hk]
  have ht : (List.zipWith (· + ·) h m)[k]? = some (h.getD k 0 + m.getD k 0) := by
    rw [List.getElem?_zipWith, List.getElem?_eq_getElem (l := h) (i := k) (by omega), List.getElem?_eq_getElem (l := m) (i := k) (by omega)]
    simp [List.getD_eq_getElem?_getD, hh, hm, hk]
  rw [hd, ht, List.length_take, hz, show k - min k 8 = 0 by omega]
  simp

theorem range_new2 (w : World) (o : Obj) (cs : List Value) (t : TypeId) : ((w.alloc o).alloc (.cells cs.toArray t)).rangeAt (w.heap.size + 1) 0 cs := by
  have h := range_new (w.alloc o) cs t
  rwa [show (w.alloc o).heap.size = w.heap.size + 1 by simp] at h
theorem there_of_range {w : World} {cs : List Value} {t : TypeId} : (w.alloc (.cells cs.toArray t)).there w.heap.size 0 cs.length := by
  have := there_new w cs.toArray t
  simpa using this

theorem blk_facts {w w1 : World} {A B : List Value} {Z : Array Value} {s t u : TypeId}
    (hb : Below (((w.alloc (.cells A.toArray s)).alloc (.cells B.toArray t)).alloc (.cells Z u)).heap.size (((w.alloc (.cells A.toArray s)).alloc (.cells B.toArray t)).alloc (.cells Z u)) w1) :
    Below w.heap.size w w1 ∧ w1.rangeAt w.heap.size 0 A ∧ w1.there w.heap.size 0 A.length ∧ w1.there (w.heap.size + 1 + 1) 0 Z.size ∧ w.heap.size + 1 + 1 < w1.heap.size := by
  have hs : (((w.alloc (.cells A.toArray s)).alloc (.cells B.toArray t)).alloc (.cells Z u)).heap.size = w.heap.size + 1 + 1 + 1 := by simp
  have h0 : Below w.heap.size w (((w.alloc (.cells A.toArray s)).alloc (.cells B.toArray t)).alloc (.cells Z u)) := (((Below.refl _ _).alloc (Nat.le_refl _) _).alloc (by simp) _).alloc (by simp; omega) _
  refine ⟨h0.trans (hb.mono h0.size), ?_, ?_, ?_, ?_⟩
  · exact rangeAt_below (World.rangeAt_alloc (World.rangeAt_alloc (range_new w A s) _) _) hb (by rw [hs]; omega)
  · exact there_below (World.there_alloc (World.there_alloc there_of_range _) _) hb (by rw [hs]; omega)
  · exact there_below (there_last w _ _ _ _) hb (by rw [hs]; omega)
  · have := hb.size
    omega

/-- Into a block that was just made. -/
theorem wpList_store_fresh {P : Program} {ops : Array Oper} {rest : List Oper} {op : Oper} {a : Act} {w : World} {Z : Array Value} {t : TypeId} {Q : Exit → Act → World → Prop} (hgd : op.guard = none) (ty : TypeId) (x y : Operand) (ho : op.op = .store ty x y)
    (cs : List Value) (hx : a.eval x = .pointer (some ⟨w.heap.size, 0, none⟩)) (hy : a.eval y = .agg cs.toArray) (hZ : Z.size = cs.length) (hi : (P.info? ty).map (·.size) = some cs.length) (h1 : ∀ v ∈ cs, v.oneCell' = true)
    (h : ∀ w2, Hid (Below w.heap.size w w2 ∧ w2.rangeAt w.heap.size 0 cs ∧ w2.there w.heap.size 0 cs.length ∧ w.heap.size < w2.heap.size) → wpList P ops Q rest (a.put op.dst undef) w2) : wpList P ops Q (op :: rest) a (w.alloc (.cells Z t)) := by
  have ht : (w.alloc (.cells Z t)).there w.heap.size 0 cs.length := by rw [← hZ]; exact there_new w Z t
  have hb0 : Below w.heap.size w (w.alloc (.cells Z t)) := (Below.refl _ _).alloc (Nat.le_refl _) _
  have hb1 : Below (w.heap.size + 1) (w.alloc (.cells Z t)) ((w.alloc (.cells Z t)).setCells w.heap.size 0 cs) → True := fun _ => trivial
  refine wpList_store_cells hgd ty x y ho w.heap.size 0 cs hx hy ht hi h1 (h _ (Lib.hid ⟨below_setCells (Nat.le_refl _) _ _ _ hb0, World.rangeAt_setCells_same _ _ _ _ ht, World.there_setCells ht _ _ _, ?_⟩))
  have := (below_setCells (B := 0) (a := w.alloc (.cells Z t)) (b := w.heap.size) (Nat.zero_le _) cs 0 _ (Below.refl _ _)).size
  simp at this
  omega

theorem Tryd.info22 : (Tryd.prog.info? 22).map (·.size) = some 1 := by kernel_rfl

/-- A number of an array by value. -/
theorem run_index_cells {P : Program} {w : World} {ty e : TypeId} {n k : Nat} {kd : IntKind} {cs : List Value} {v : Value} (hu : P.underlying ty = some (.array n e)) (he : P.underlying e = some (.int kd))
    (hs : (P.info? e).map (·.size) = some 1) (hk : k < n) (hv : cs[k]? = some v) : (Instr.index ty (.agg cs.toArray) (.int .i64 (k : Int))).run P w = .ok v w := by
  have h0 : (0 : Int) ≤ (k : Int) ∧ (k : Int) < (n : Int) := by omega
  cases hq : P.info? e with
  | none => simp [hq] at hs
  | some i =>
    have h1 : i.size = 1 := by simpa [hq] using hs
    have hagg : (isAgg e).run P w = .ok false w := by
      unfold isAgg
      rw [Sem.run_bind, run_underlying he w]
      rfl
    simp [Instr.index, run_underlying hu, asIntOf, h0, sizeOf, typeInfo, hq, h1, part, hagg, hv]
    omega
theorem wpList_index_cells {P : Program} {ops : Array Oper} {rest : List Oper} {op : Oper} {a : Act} {w : World} {Q : Exit → Act → World → Prop} (hgd : op.guard = none) (ty : TypeId) (x y : Operand) (ho : op.op = .index ty x y)
    {e : TypeId} {n k : Nat} {kd : IntKind} {cs : List Value} {v : Value} (hx : a.eval x = .agg cs.toArray) (hy : a.eval y = .int .i64 (k : Int)) (hu : P.underlying ty = some (.array n e)) (he : P.underlying e = some (.int kd))
    (hs : (P.info? e).map (·.size) = some 1) (hk : k < n) (hv : cs[k]? = some v)
    (h : wpList P ops Q rest (a.put op.dst v) w) : wpList P ops Q (op :: rest) a w :=
  wpList_plain hgd fun K hK => by
    unfold Oper.wp execOp
    simp only [ho, hx, hy, Sem.run_bind, Sem.run_pure, Result.andThen_ok, run_index_cells hu he hs hk hv]
    exact hK _ _ h

/-- What lies in memory while Block adds. -/
def BkAt (h m : List UInt32) (k : Nat) (w wr : World) : Prop :=
  Below w.heap.size w wr ∧ wr.rangeAt w.heap.size 0 (u32s (sumsTo h m k)) ∧ wr.there w.heap.size 0 8 ∧ wr.there (w.heap.size + 1 + 1) 0 8
theorem BkAt.set {h m : List UInt32} {k : Nat} {w wr : World} (H : BkAt h m k w wr) (i : Nat) (hi : i < (sumsTo h m k).length) (x : UInt32) {j : Nat} (e : sumsTo h m j = (sumsTo h m k).set i x) :
    BkAt h m j w (wr.setCell ⟨w.heap.size, i, none⟩ (.int .u32 (x.toNat : Int))) := by
  refine ⟨H.1.setCell (Nat.le_refl _) _, ?_, there_set H.2.2.1 _ _, there_set H.2.2.2 _ _⟩
  have := rangeAt_set H.2.1 i (by rw [u32s_length]; exact hi) (u32 x)
  rw [e]
  rwa [show (u32s (sumsTo h m k)).set i (u32 x) = u32s ((sumsTo h m k).set i x) by simp [u32s]] at this
theorem BkAt.drewN {h m : List UInt32} {k : Nat} {w wr : World} (H : BkAt h m k w wr) (q : Nat) : BkAt h m k w (wr.drewN q) := ⟨below_drewN H.1 q, H.2.1, H.2.2.1, H.2.2.2⟩

set_option maxHeartbeats 400000 in
set_option maxRecDepth 100000 in
theorem block_by (h ml sw : List UInt32) (b : List UInt8) (w : World) (hl : h.length = 8) (hb64 : b.length = 64) (hm8 : ml.length = 8) (hsw : sw.length = 64) (hk : KIs w) (h0 : 0 < w.heap.size)
    (hs : ∀ w : World, Calls Tryd.prog 19 #[.agg (u8s b).toArray] w fun E w' => E = .returned (.agg (u32s sw).toArray) ∧ Below w.heap.size w w')
    (hm : ∀ (gw : Nat) (w : World), KIs w → 0 < w.heap.size → gw < w.heap.size → w.rangeAt gw 0 (u32s sw) →
      Calls Tryd.prog 20 #[.agg (u32s h).toArray, .pointer (some ⟨gw, 0, none⟩)] w fun E w' => E = .returned (.agg (u32s ml).toArray) ∧ Below w.heap.size w w') :
    Calls Tryd.prog 9 #[.agg (u32s h).toArray, .agg (u8s b).toArray] w fun E w' => E = .returned (.agg (u32s (List.zipWith (· + ·) h ml)).toArray) ∧ Below w.heap.size w w' := by
  have HK := Lib.hid hk
  have HS := Lib.hid hs
  have HM := Lib.hid hm
  have HL := Lib.hid hl
  have HM8 := Lib.hid hm8
  have H8 : Hid ((Tryd.prog.info? 23).map (·.size) = some (u32s h).length) := Lib.hid (by rw [u32s_length, hl]; exact Tryd.size23)
  have HLB : Hid ((Tryd.prog.info? 24).map (·.size) = some (u8s b).length) := Lib.hid (by simp only [u8s, List.length_map, hb64]; exact Tryd.size24)
  have HLW : Hid ((u32s sw).length = 64) := Lib.hid (by rw [u32s_length, hsw])
  have HI : Hid ((Tryd.prog.info? 42).map (·.size) = some (u32s sw).length) := Lib.hid (by rw [HLW.out]; exact Tryd.size42)
  clear hl hb64 hk hs hm hm8 hsw
  go_enter Tryd.func9, Tryd.ntmps9
  go_wp2_with (first
    | (refine wpList_load_mid rfl 24 (.tmp 3) rfl (w.heap.size + 1) 0 rfl (u8s b) _ (World.rangeAt_alloc (range_new2 w _ _ _) _) Tryd.underlying24 rfl HLB.out ?_)
    | (go_at_call 19; refine (HS.out _).mono ?_; rintro E w1 ⟨rfl, hb1⟩; have F := Lib.hid (blk_facts hb1); clear hb1)
    | (refine wpList_store_fresh rfl 42 (.tmp 5) (.tmp 9) rfl (u32s sw) rfl rfl HLW.out.symm HI.out (u32s_one _) ?_; intro w2 G)
    | (refine wpList_load_mid rfl 23 (.tmp 2) rfl w.heap.size 0 rfl (u32s h) _ (rangeAt_below F.out.2.1 G.out.1 (by have := F.out.2.2.2.2; omega)) Tryd.underlying23 rfl H8.out ?_)
    | (go_at_call 20; refine (HM.out w1.heap.size w2 (HK.out.below (F.out.1.trans (G.out.1.mono F.out.1.size)) h0) (by have := G.out.2.2.2; omega) G.out.2.2.2 G.out.2.1).mono ?_; rintro E w3 ⟨rfl, hb3⟩))
  have HA : Hid (BkAt h ml 0 w w3) := by
    have hA : w.heap.size < w1.heap.size := by have := F.out.2.2.2.2; omega
    have hA' : w.heap.size + 1 + 1 < w1.heap.size := F.out.2.2.2.2
    have hB : w1.heap.size < w2.heap.size := G.out.2.2.2
    have e8 : (u32s h).length = 8 := by rw [u32s_length, HL.out]
    refine Lib.hid ⟨(F.out.1.trans (G.out.1.mono F.out.1.size)).trans (hb3.mono (by omega)), ?_, ?_, ?_⟩
    · rw [show sumsTo h ml 0 = h by simp [sumsTo]]
      exact rangeAt_below (rangeAt_below F.out.2.1 G.out.1 hA) hb3 (by omega)
    · rw [← e8]
      exact there_below (there_below F.out.2.2.1 G.out.1 hA) hb3 (by omega)
    · exact there_below (there_below F.out.2.2.2.1 G.out.1 hA') hb3 (by omega)
  clear F G hb3
  go_loopw [12] (fun vi wr => ∃ k : Nat, k ≤ 8 ∧ vi = .int .i64 k ∧ Hid (BkAt h ml k w wr)) (fun vi _ => 8 - (intOf vi).toNat)
  case atStart => exact ⟨0, by omega, rfl, HA⟩
  case round =>
    clear HA
    obtain ⟨k, hk, rfl, HA⟩ := hrel
    by_cases hk8 : k < 8
    · have hc := rangeAt_u32 HA.out.2.1 k (by rw [sumsTo_length _ _ _ HL.out HM8.out hk]; exact hk8)
      have hf := there_cell HA.out.2.2.1 k hk8
      rw [sumsTo_at _ _ _ HL.out HM8.out hk8] at hc
      have HMK : Hid ((u32s ml)[k]? = some (.int .u32 ((ml.getD k 0).toNat : Int))) := Lib.hid (by
        simp [u32s, u32, List.getD_eq_getElem?_getD, List.getElem?_eq_getElem (l := ml) (i := k) (by rw [HM8.out]; exact hk8)])
      have HZ : Hid (sumsTo h ml (k + 1) = (sumsTo h ml k).set k (h.getD k 0 + ml.getD k 0)) := Lib.hid (sumsTo_set _ _ _ HL.out HM8.out hk8).symm
      have HLN : Hid (k < (sumsTo h ml k).length) := Lib.hid (by rw [sumsTo_length _ _ _ HL.out HM8.out hk]; exact hk8)
      generalize ml.getD k 0 = x at HMK HZ
      generalize h.getD k 0 = y at hc HZ
      go_wp2_with (first
        | (refine wpList_index_cells rfl 23 (.tmp 11) (.tmp 12) rfl rfl rfl Tryd.underlying23 Tryd.underlying22 Tryd.info22 hk8 HMK.out ?_))
      go_roundw
      case measure => simp [intOf]; omega
      case rel =>
        refine ⟨k + 1, by omega, by go_num, Lib.hid ?_⟩
        rw [b_add]
        exact HA.out.set k HLN.out (y + x) HZ.out
    · obtain rfl : k = 8 := by omega
      have HZ : Hid (sumsTo h ml 8 = List.zipWith (· + ·) h ml) := Lib.hid (by simp [sumsTo, HL.out, HM8.out, List.take_of_length_le, List.drop_of_length_le])
      obtain ⟨z, hz⟩ : ∃ z, z = List.zipWith (· + ·) h ml := ⟨_, rfl⟩
      rw [← hz] at HZ
      have HZ2 := Lib.hid hz
      clear hz
      have HR : Hid (wr.rangeAt w.heap.size 0 (u32s z)) := Lib.hid (by rw [← HZ.out]; exact HA.out.2.1)
      have hz8 : (u32s z).length = 8 := by rw [u32s_length, ← HZ.out, sumsTo_length _ _ _ HL.out HM8.out (Nat.le_refl _)]
      have HT : Hid (wr.there (w.heap.size + 1 + 1) 0 (u32s z).length) := Lib.hid (by rw [hz8]; exact HA.out.2.2.2)
      have HI8 : Hid ((Tryd.prog.info? 23).map (·.size) = some (u32s z).length) := Lib.hid (by rw [hz8]; exact Tryd.size23)
      clear hz8
      go_wp2_with (first
        | (refine wpList_load_mid rfl 23 (.tmp 2) rfl w.heap.size 0 rfl (u32s z) _ HR.out Tryd.underlying23 rfl HI8.out ?_)
        | (refine wpList_store_cells rfl 23 (.tmp 4) (.tmp 23) rfl (w.heap.size + 1 + 1) 0 (u32s z) rfl rfl HT.out HI8.out (u32s_one _) ?_))
      exact bodyPost_ret (ret_range (cs := u32s z) rfl rfl (World.rangeAt_setCells_same _ _ _ (u32s z) HT.out) Tryd.underlying23 rfl HI8.out) rfl ⟨by rw [HZ2.out], below_setCells (by omega) _ _ _ HA.out.1⟩

theorem block_any (h : List UInt32) (b : List UInt8) (w : World) (hl : h.length = 8) (hb64 : b.length = 64) (hk : KIs w) (h0 : 0 < w.heap.size) :
    Calls Tryd.prog 9 #[.agg (u32s h).toArray, .agg (u8s b).toArray] w fun E w' => E = .returned (.agg (u32s (blockOf h b)).toArray) ∧ Below w.heap.size w w' :=
  block_by h (mixedOf h b) (sched b 48) b w hl hb64 rfl (sched_length b 48) hk h0 (fun w => spread_any b w hb64) fun gw w hk h0 hg hw => mixed_list h b gw w hl hk h0 hg hw
end Go.Proofs.YtflbhicjaaeegaaDoor
