/-
  What is proved: what the document's put does. Conditions as stated.
-/
import Derived.Test.YthbbghkefekhfaaEe
namespace Go.Proofs.Ythbbghkefekhfaa
open Go.RowKit

theorem RRep.below {w w' : World} {S : Nat → Prop} {r T : Nat} {s : Dk} {fz : Int} {V1 V2 : Value} {sl : List (Int × List UInt8 × Bool)} (h : RRep w S r T s fz V1 V2 sl) (hb : Below w.heap.size w w') : RRep w' S r T s fz V1 V2 sl :=
  h.turned (fun k hs _ => hb.block k (h.lt k hs)) hb.size ((hb.block r (h.lt r (h.own r (.inl rfl)))).trans h.hd) h.fuse h.bound
theorem RRep.more {w : World} {S : Nat → Prop} {r T T' : Nat} {s : Dk} {fz : Int} {V1 V2 : Value} {sl : List (Int × List UInt8 × Bool)} (h : RRep w S r T s fz V1 V2 sl) (hT : sl.length + s.loose.length ≤ T') : RRep w S r T' s fz V1 V2 sl :=
  ⟨h.hd, h.fuse, h.bound, h.sure, h.uniq, h.slen, h.len, h.row1, h.row2, h.ap, hT, h.own, h.lt⟩
theorem put_new {w wA w5 w6 : World} {S : Nat → Prop} {r T : Nat} {s : Dk} {fz : Int} {V1 V2 V1' : Value} {sl : List (Int × List UInt8 × Bool)} (hA : Turns S w wA) (h : RRep wA S r T s fz V1 V2 sl) {p : Int × List UInt8 × Bool} (hb : p.2.1.length = 128) (hno : ∀ q ∈ sl, q.1 ≠ p.1)
    (M5 : w5.ownsRow 0 68 130 V1' (sl.length + 1) (sl.flatMap rcells ++ rcells p)) (T5 : wA.grownBy w5 V1.ownBlock ∧ (V1'.ownBlock = V1.ownBlock ∨ ∃ g, V1'.ownBlock = some g ∧ wA.heap.size ≤ g))
    (G6 : w6.heap[r]? = some (.cells (dref V1' V2 s.off fz).toArray 43 (0, 0)) ∧ w5.grownBy w6 (some r)) :
    ∃ S' V1' sl', RRep w6 S' r (T + 1) (s.puts p) fz V1' V2 sl' ∧ sl'.length ≤ sl.length + 1 ∧ Own w S w6 S' := by
  have z5 := T5.1.size
  have z6 := G6.2.size
  have hlt := h.lt r (h.own r (.inl rfl))
  have hne : ∀ g, V1'.ownBlock = some g → g ≠ r := by
    intro g hg e
    subst e
    rcases T5.2 with h0 | ⟨g', h0, h1⟩
    · exact h.apart.1 g (by rw [← h0, hg]) rfl
    · rw [h0] at hg
      injection hg with hg
      omega
  refine ⟨plus S wA w6, _, _, h.putNew p hb hno G6.1 (rrow_kept M5 fun g hg => G6.2.block g (M5.lt g hg).2 (fun e => hne g hg (by injection e))) T5.2
    (fun k h1 h2 h4 => (G6.2.block k (by omega) (fun e => h2 (by injection e))).trans (T5.1.block k h1 h4)) (by omega), by simp, ?_, ?_⟩
  · refine (hA.grown T5.1 ?_).grown G6.2 ?_
    · rintro g e; exact .inl (h.own _ (by simp [e]))
    · rintro g e; cases e; exact .inl (h.own _ (.inl rfl))
  · rintro k (hk | hk)
    · exact .inl hk
    · exact .inr (Nat.le_trans hA.size hk.1)
theorem put_at {w wA : World} {S : Nat → Prop} {r T : Nat} {s : Dk} {fz : Int} {g c : Nat} {V2 : Value} {sl : List (Int × List UInt8 × Bool)} (hA : Turns S w wA) (h : RRep wA S r T s fz (.slice (some ⟨g, 0, none⟩) sl.length c) V2 sl) {p q : Int × List UInt8 × Bool} (hp : p.2.1.length = 128) {k : Nat} (hq : sl[k]? = some q) (he : q.1 = p.1) :
    ∃ S' V1' sl', RRep (wA.setCells g (k * 130) (rcells p)) S' r (T + 1) (s.puts p) fz V1' V2 sl' ∧ sl'.length ≤ sl.length + 1 ∧ Own w S (wA.setCells g (k * 130) (rcells p)) S' :=
  ⟨S, _, _, (h.putAt p q hp hq he).more (by have := h.many; simp [Dk.puts]; omega), by simp, Own.same (Turns.setCells (.inl (h.own g (.inr (.inl rfl)))) _ _ _ hA)⟩
theorem RRep.drewN {w : World} {S : Nat → Prop} {r T : Nat} {s : Dk} {fz : Int} {V1 V2 : Value} {sl : List (Int × List UInt8 × Bool)} (h : RRep w S r T s fz V1 V2 sl) (q : Nat) : RRep (w.drewN q) S r T s fz V1 V2 sl :=
  h.turned (w' := w.drewN q) (fun _ _ _ => rfl) (Nat.le_refl _) h.hd h.fuse h.bound

theorem put_there {w : World} {S : Nat → Prop} {r T : Nat} {s : Dk} {fz : Int} {g c : Nat} {V2 : Value} {sl : List (Int × List UInt8 × Bool)} (h : RRep w S r T s fz (.slice (some ⟨g, 0, none⟩) sl.length c) V2 sl) {k : Nat} (hk : k < sl.length) : w.there g (k * 130) 130 := by
  rcases h.row1.2 with ⟨e, h0⟩ | ⟨g', cap', cur, e, hb, hg, h1, h2, h3, h4⟩
  · omega
  · injection e with e1 e2 e3
    injection e1 with e1
    injection e1 with e1
    subst e1 e3
    exact there_block (C := cur.toList) (t := 68) (by simpa using hg) _ _ (by
      have : cur.toList.length = c * 130 := by simpa using h3
      rw [this]
      have := Nat.mul_le_mul_right 130 (Nat.le_trans hk h1)
      rw [Nat.succ_mul] at this
      omega)

set_option maxHeartbeats 4000000 in
set_option maxRecDepth 100000 in
theorem put_any {w : World} {S : Nat → Prop} {r T : Nat} {s : Dk} {fz : Int} {V1 V2 : Value} {sl : List (Int × List UInt8 × Bool)} (h : RRep w S r T s fz V1 V2 sl) (p : Int × List UInt8 × Bool) (hp : p.2.1.length = 128) (hT : T < 1000000000) :
    Calls Try.prog 34 #[.pointer (some ⟨r, 0, none⟩), .agg (rcells p).toArray] w fun E w' => E = .returned (.tuple #[]) ∧ ∃ S' V1' sl', RRep w' S' r (T + 1) (s.puts p) fz V1' V2 sl' ∧ sl'.length ≤ sl.length + 1 ∧ Own w S w' S' := by
  have HTA : Hid (Turns S w (w.alloc (.cells (rcells p).toArray 68))) := Lib.hid ((Turns.refl S w).alloc _)
  have hb0 : Below w.heap.size w (w.alloc (.cells (rcells p).toArray 68)) := (Below.refl _ _).alloc (Nat.le_refl _) _
  have hA := h.below hb0
  have HBX : Hid ((w.alloc (.cells (rcells p).toArray 68)).heap[w.heap.size]? = some (.cells (rcells p).toArray 68 (0, 0))) := Lib.hid (row_new w _ _)
  have HSZ : Hid (w.heap.size < (w.alloc (.cells (rcells p).toArray 68)).heap.size) := Lib.hid (by simp)
  obtain ⟨A1, ca1, rfl, hs1⟩ := row_shape hA.row1
  have HA := Lib.hid hA
  have HP := Lib.hid hp
  have hn1 : sl.length < 1000000000 := by have := h.many; omega
  have HPL : Hid ((rcells p).length = 130) := Lib.hid (rcells_length hp)
  have HI : Hid ((Try.prog.info? 68).map (·.size) = some (rcells p).length) := Lib.hid (by rw [rcells_length hp]; exact Try.size68)
  obtain ⟨c0, -, -, -⟩ := hA.cells
  have hsc := hs1.2
  clear h hA hs1 hb0
  generalize hwA : w.alloc (.cells (rcells p).toArray 68) = wA at *
  go_enter Try.func34, Try.ntmps34
  go_wp2
  clear hwA
  go_loopw [4] (fun v4 wr => ∃ k : Nat, k ≤ sl.length ∧ v4 = .int .i64 (k : Int) ∧ (∀ q ∈ sl.take k, q.1 ≠ p.1) ∧ Hid (Below wA.heap.size wA wr)) (fun v4 _ => sl.length - (intOf v4).toNat)
  case atStart => exact ⟨0, Nat.zero_le _, rfl, fun q hq => (by simp at hq), Lib.hid (Below.refl _ _)⟩
  case round =>
    obtain ⟨k, hkn, rfl, hno, HD⟩ := hrel
    have HNO := Lib.hid hno
    have HRR := Lib.hid (HA.out.below HD.out)
    have HTW : Hid (Turns S w wr) := Lib.hid (HTA.out.trans (Turns.of_below HD.out))
    have HBW : Hid (wr.heap[w.heap.size]? = some (.cells (rcells p).toArray 68 (0, 0))) := Lib.hid ((HD.out.block _ HSZ.out).trans HBX.out)
    have HLT : Hid (r < wr.heap.size ∧ w.heap.size < wr.heap.size) := Lib.hid ⟨HRR.out.lt r (HRR.out.own r (.inl rfl)), Nat.lt_of_lt_of_le HSZ.out HD.out.size⟩
    obtain ⟨c0, -, -, -⟩ := HRR.out.cells
    have cb : wr.cell? ⟨w.heap.size, 0, none⟩ = some (.int .i64 p.1) := block_cell HBW.out 0 _ rfl
    clear hno HTA HBX
    by_cases hk : k = sl.length
    · subst hk
      go_wp2
      clear c0 cb
      have k1w : (wr.drewN 1).cell? ⟨r, 0, none⟩ = some (.slice A1 sl.length ca1) := HRR.out.cells.1
      have k1' : ((wr.drewN 1).alloc (.cells (rcells p).toArray 68)).cell? ⟨r, 0, none⟩ = some (.slice A1 sl.length ca1) := by
        rw [World.cell?_alloc_lt _ _ _ (show r < (wr.drewN 1).heap.size from HLT.out.1)]; exact HRR.out.cells.1
      have HQ5 : Hid ((wr.drewN 1).rangeAt w.heap.size 0 (rcells p)) := Lib.hid (range_block (w := wr.drewN 1) HBW.out 0 _ (fun j v hv => by rw [Nat.zero_add]; exact hv))
      have HO : Hid (wr.ownsRow 0 68 130 (.slice A1 sl.length ca1) sl.length (sl.flatMap rcells)) := Lib.hid HRR.out.row1
      have HM : Hid (sl.length < 100000000000) := Lib.hid (by omega)
      refine wp_region_any (by kernel_rfl) ?_
      change wpAny _ _ _ _ _ _ _ (wr.drewN 1)
      refine wpAny_take (i := 0) (oi := { dst := some 32, op := Op.move (Operand.tmp 0), type := 27, pos := "ref.go:61", after := #[], guard := none }) (v := .pointer (some ⟨r, 0, none⟩)) rfl (by kernel_rfl) (by kernel_rfl) (by kernel_rfl) (fun _ _ _ h => h) (Or.inl ⟨by kernel_rfl, fun W => by go_simp⟩) ?_
      simp only [Act.put, List.setIfInBounds_toArray, List.set_cons_zero, List.set_cons_succ]
      refine wpAny_take (i := 1) (oi := { dst := some 33, op := Op.move (Operand.tmp 0), type := 27, pos := "ref.go:61", after := #[], guard := none }) (v := .pointer (some ⟨r, 0, none⟩)) rfl (by kernel_rfl) (by kernel_rfl) (by kernel_rfl) (fun _ _ _ h => h) (Or.inl ⟨by kernel_rfl, fun W => by go_simp⟩) ?_
      simp only [Act.put, List.setIfInBounds_toArray, List.set_cons_zero, List.set_cons_succ]
      refine wpAny_take (i := 2) (oi := { dst := some 34, op := Op.nilCheck (Operand.tmp 33), type := 0, pos := "ref.go:61", after := #[{ on := 1, ground := Ground.data }], guard := none }) (v := .pointer (some ⟨r, 0, none⟩)) rfl (by kernel_rfl) (by kernel_rfl) (by kernel_rfl) (fun _ _ _ h => h) (Or.inl ⟨by kernel_rfl, fun W => by go_simp⟩) ?_
      simp only [Act.put, List.setIfInBounds_toArray, List.set_cons_zero, List.set_cons_succ]
      refine wpAny_take (i := 3) (oi := { dst := some 35, op := Op.fieldAddr 43 (Operand.tmp 34) 0, type := 0, pos := "ref.go:61", after := #[{ on := 2, ground := Ground.data }], guard := none }) (v := .pointer (some ⟨r, 0, none⟩)) rfl (by kernel_rfl) (by kernel_rfl) (by kernel_rfl) (fun _ _ _ h => h) (Or.inl ⟨by kernel_rfl, fun W => by go_simp⟩) ?_
      simp only [Act.put, List.setIfInBounds_toArray, List.set_cons_zero, List.set_cons_succ]
      refine wpAny_ready (rs := [4, 5]) (by kernel_rfl) (by simp) ?_
      refine (AllReady.cons (o := { dst := some 36, op := Op.load 41 (Operand.tmp 35), type := 41, pos := "ref.go:61", after := #[{ on := 3, ground := Ground.data }], guard := none }) rfl (fun K hK => ?_) (AllReady.cons (o := { dst := some 37, op := Op.load 68 (Operand.tmp 3), type := 68, pos := "ref.go:61", after := #[], guard := none }) rfl (fun K hK => ?_) AllReady.nil))
      · go_simp
        refine hK _ _ ?_
        clear hK K
        try simp only [Act.put, List.setIfInBounds_toArray, List.set_cons_zero, List.set_cons_succ]
        refine wpAny_ready (rs := [5]) (by kernel_rfl) (by simp) ?_
        refine (AllReady.cons (o := { dst := some 37, op := Op.load 68 (Operand.tmp 3), type := 68, pos := "ref.go:61", after := #[], guard := none }) rfl (fun K hK => ?_) AllReady.nil)
        refine step_load_cells rfl 68 (.tmp 3) rfl w.heap.size 0 rfl (rcells p) _ HQ5.out Try.underlying68 rfl HI.out ?_
        refine hK _ _ ?_
        clear hK K
        try simp only [Act.put, List.setIfInBounds_toArray, List.set_cons_zero, List.set_cons_succ]
        refine wpAny_ready (rs := [6]) (by kernel_rfl) (by simp) ?_
        refine (AllReady.cons (o := { dst := some 38, op := Op.buildSlice 41 1 #[(0, Operand.tmp 37)], type := 41, pos := "ref.go:61", after := #[{ on := 5, ground := Ground.data }], guard := none }) rfl (fun K hK => ?_) AllReady.nil)
        refine step_build41 rfl (.tmp 37) rfl p HP.out rfl ?_
        refine hK _ _ ?_
        clear hK K
        try simp only [Act.put, List.setIfInBounds_toArray, List.set_cons_zero, List.set_cons_succ]
        refine wpAny_ready (rs := [7]) (by kernel_rfl) (by simp) ?_
        refine (AllReady.cons (o := { dst := some 39, op := Op.call { callee := Callee.builtin Builtin.append, args := #[Operand.tmp 36, Operand.tmp 38], argTypes := #[41, 41] }, type := 41, pos := "ref.go:61", after := #[{ on := 4, ground := Ground.data }, { on := 6, ground := Ground.data }], guard := none }) rfl (fun K hK => ?_) AllReady.nil)
        refine step_append_r rfl (.tmp 36) (.tmp 38) rfl sl.length (.slice A1 sl.length ca1) (sl.flatMap rcells) p HP.out rfl rfl HO.out HM.out ?_
        intro A' c' w5 M5 T5
        refine hK _ _ ?_
        clear hK K
        simp only [Act.put, List.setIfInBounds_toArray, List.set_cons_zero, List.set_cons_succ]
        have H5 : w5.heap[r]? = some (.cells (dref (.slice A1 sl.length ca1) V2 s.off fz).toArray 43 (0, 0)) := (T5.out.1.block r HLT.out.1 (fun e => HRR.out.apart.1 r e.symm rfl)).trans HRR.out.hd
        refine wpAny_take (i := 8) (oi := { dst := some 40, op := Op.nilCheck (Operand.tmp 32), type := 0, pos := "ref.go:61", after := #[{ on := 0, ground := Ground.data }, { on := 0, ground := Ground.phase }, { on := 1, ground := Ground.phase }, { on := 2, ground := Ground.phase }, { on := 3, ground := Ground.phase }, { on := 4, ground := Ground.phase }, { on := 5, ground := Ground.phase }, { on := 6, ground := Ground.phase }, { on := 7, ground := Ground.phase }], guard := none }) (v := .pointer (some ⟨r, 0, none⟩)) rfl (by kernel_rfl) (by kernel_rfl) (by kernel_rfl) (fun _ _ _ h => h) (Or.inl ⟨by kernel_rfl, fun W => by go_simp⟩) ?_
        simp only [Act.put, List.setIfInBounds_toArray, List.set_cons_zero, List.set_cons_succ]
        refine wpAny_take (i := 9) (oi := { dst := some 41, op := Op.fieldAddr 43 (Operand.tmp 40) 0, type := 0, pos := "ref.go:61", after := #[{ on := 8, ground := Ground.data }, { on := 0, ground := Ground.phase }, { on := 1, ground := Ground.phase }, { on := 2, ground := Ground.phase }, { on := 3, ground := Ground.phase }, { on := 4, ground := Ground.phase }, { on := 5, ground := Ground.phase }, { on := 6, ground := Ground.phase }, { on := 7, ground := Ground.phase }], guard := none }) (v := .pointer (some ⟨r, 0, none⟩)) rfl (by kernel_rfl) (by kernel_rfl) (by kernel_rfl) (fun _ _ _ h => h) (Or.inl ⟨by kernel_rfl, fun W => by go_simp⟩) ?_
        simp only [Act.put, List.setIfInBounds_toArray, List.set_cons_zero, List.set_cons_succ]
        refine wpAny_ready (rs := [10]) (by kernel_rfl) (by simp) ?_
        refine (AllReady.cons (o := { dst := none, op := Op.store 41 (Operand.tmp 41) (Operand.tmp 39), type := 0, pos := "ref.go:61", after := #[{ on := 9, ground := Ground.data }, { on := 7, ground := Ground.data }, { on := 7, ground := Ground.chain }, { on := 0, ground := Ground.phase }, { on := 1, ground := Ground.phase }, { on := 2, ground := Ground.phase }, { on := 3, ground := Ground.phase }, { on := 4, ground := Ground.phase }, { on := 5, ground := Ground.phase }, { on := 6, ground := Ground.phase }, { on := 7, ground := Ground.phase }], guard := none }) rfl (fun K hK => ?_) AllReady.nil)
        refine step_store_at rfl 41 (.tmp 41) (.tmp 39) rfl r 0 (dref (.slice A1 sl.length ca1) V2 s.off fz) 43 H5 (show 0 < 4 by omega) (.slice A' (sl.length + 1) c') rfl rfl rfl rfl Try.size41 ?_
        intro w6 G6
        refine hK _ _ ?_
        clear hK K
        refine wpAny_done (by kernel_rfl) ?_ _
        have hend := put_new HTW.out HRR.out HP.out (fun q hq => HNO.out q (by rw [List.take_length]; exact hq)) M5.out ⟨gb_drew T5.out.1, T5.out.2⟩ G6.out
        go_wp2
        exact bodyPost_end (results_none rfl _ _ _) rfl ⟨rfl, hend⟩
      · refine step_load_cells rfl 68 (.tmp 3) rfl w.heap.size 0 rfl (rcells p) _ HQ5.out Try.underlying68 rfl HI.out ?_
        refine hK _ _ ?_
        clear hK K
        try simp only [Act.put, List.setIfInBounds_toArray, List.set_cons_zero, List.set_cons_succ]
        refine wpAny_ready (rs := [4, 6]) (by kernel_rfl) (by simp) ?_
        refine (AllReady.cons (o := { dst := some 36, op := Op.load 41 (Operand.tmp 35), type := 41, pos := "ref.go:61", after := #[{ on := 3, ground := Ground.data }], guard := none }) rfl (fun K hK => ?_) (AllReady.cons (o := { dst := some 38, op := Op.buildSlice 41 1 #[(0, Operand.tmp 37)], type := 41, pos := "ref.go:61", after := #[{ on := 5, ground := Ground.data }], guard := none }) rfl (fun K hK => ?_) AllReady.nil))
        · go_simp
          refine hK _ _ ?_
          clear hK K
          try simp only [Act.put, List.setIfInBounds_toArray, List.set_cons_zero, List.set_cons_succ]
          refine wpAny_ready (rs := [6]) (by kernel_rfl) (by simp) ?_
          refine (AllReady.cons (o := { dst := some 38, op := Op.buildSlice 41 1 #[(0, Operand.tmp 37)], type := 41, pos := "ref.go:61", after := #[{ on := 5, ground := Ground.data }], guard := none }) rfl (fun K hK => ?_) AllReady.nil)
          refine step_build41 rfl (.tmp 37) rfl p HP.out rfl ?_
          refine hK _ _ ?_
          clear hK K
          try simp only [Act.put, List.setIfInBounds_toArray, List.set_cons_zero, List.set_cons_succ]
          refine wpAny_ready (rs := [7]) (by kernel_rfl) (by simp) ?_
          refine (AllReady.cons (o := { dst := some 39, op := Op.call { callee := Callee.builtin Builtin.append, args := #[Operand.tmp 36, Operand.tmp 38], argTypes := #[41, 41] }, type := 41, pos := "ref.go:61", after := #[{ on := 4, ground := Ground.data }, { on := 6, ground := Ground.data }], guard := none }) rfl (fun K hK => ?_) AllReady.nil)
          refine step_append_r rfl (.tmp 36) (.tmp 38) rfl sl.length (.slice A1 sl.length ca1) (sl.flatMap rcells) p HP.out rfl rfl HO.out HM.out ?_
          intro A' c' w5 M5 T5
          refine hK _ _ ?_
          clear hK K
          simp only [Act.put, List.setIfInBounds_toArray, List.set_cons_zero, List.set_cons_succ]
          have H5 : w5.heap[r]? = some (.cells (dref (.slice A1 sl.length ca1) V2 s.off fz).toArray 43 (0, 0)) := (T5.out.1.block r HLT.out.1 (fun e => HRR.out.apart.1 r e.symm rfl)).trans HRR.out.hd
          refine wpAny_take (i := 8) (oi := { dst := some 40, op := Op.nilCheck (Operand.tmp 32), type := 0, pos := "ref.go:61", after := #[{ on := 0, ground := Ground.data }, { on := 0, ground := Ground.phase }, { on := 1, ground := Ground.phase }, { on := 2, ground := Ground.phase }, { on := 3, ground := Ground.phase }, { on := 4, ground := Ground.phase }, { on := 5, ground := Ground.phase }, { on := 6, ground := Ground.phase }, { on := 7, ground := Ground.phase }], guard := none }) (v := .pointer (some ⟨r, 0, none⟩)) rfl (by kernel_rfl) (by kernel_rfl) (by kernel_rfl) (fun _ _ _ h => h) (Or.inl ⟨by kernel_rfl, fun W => by go_simp⟩) ?_
          simp only [Act.put, List.setIfInBounds_toArray, List.set_cons_zero, List.set_cons_succ]
          refine wpAny_take (i := 9) (oi := { dst := some 41, op := Op.fieldAddr 43 (Operand.tmp 40) 0, type := 0, pos := "ref.go:61", after := #[{ on := 8, ground := Ground.data }, { on := 0, ground := Ground.phase }, { on := 1, ground := Ground.phase }, { on := 2, ground := Ground.phase }, { on := 3, ground := Ground.phase }, { on := 4, ground := Ground.phase }, { on := 5, ground := Ground.phase }, { on := 6, ground := Ground.phase }, { on := 7, ground := Ground.phase }], guard := none }) (v := .pointer (some ⟨r, 0, none⟩)) rfl (by kernel_rfl) (by kernel_rfl) (by kernel_rfl) (fun _ _ _ h => h) (Or.inl ⟨by kernel_rfl, fun W => by go_simp⟩) ?_
          simp only [Act.put, List.setIfInBounds_toArray, List.set_cons_zero, List.set_cons_succ]
          refine wpAny_ready (rs := [10]) (by kernel_rfl) (by simp) ?_
          refine (AllReady.cons (o := { dst := none, op := Op.store 41 (Operand.tmp 41) (Operand.tmp 39), type := 0, pos := "ref.go:61", after := #[{ on := 9, ground := Ground.data }, { on := 7, ground := Ground.data }, { on := 7, ground := Ground.chain }, { on := 0, ground := Ground.phase }, { on := 1, ground := Ground.phase }, { on := 2, ground := Ground.phase }, { on := 3, ground := Ground.phase }, { on := 4, ground := Ground.phase }, { on := 5, ground := Ground.phase }, { on := 6, ground := Ground.phase }, { on := 7, ground := Ground.phase }], guard := none }) rfl (fun K hK => ?_) AllReady.nil)
          refine step_store_at rfl 41 (.tmp 41) (.tmp 39) rfl r 0 (dref (.slice A1 sl.length ca1) V2 s.off fz) 43 H5 (show 0 < 4 by omega) (.slice A' (sl.length + 1) c') rfl rfl rfl rfl Try.size41 ?_
          intro w6 G6
          refine hK _ _ ?_
          clear hK K
          refine wpAny_done (by kernel_rfl) ?_ _
          have hend := put_new HTW.out HRR.out HP.out (fun q hq => HNO.out q (by rw [List.take_length]; exact hq)) M5.out ⟨gb_drew T5.out.1, T5.out.2⟩ G6.out
          go_wp2
          exact bodyPost_end (results_none rfl _ _ _) rfl ⟨rfl, hend⟩
        · refine step_build41 rfl (.tmp 37) rfl p HP.out rfl ?_
          refine hK _ _ ?_
          clear hK K
          try simp only [Act.put, List.setIfInBounds_toArray, List.set_cons_zero, List.set_cons_succ]
          refine wpAny_ready (rs := [4]) (by kernel_rfl) (by simp) ?_
          refine (AllReady.cons (o := { dst := some 36, op := Op.load 41 (Operand.tmp 35), type := 41, pos := "ref.go:61", after := #[{ on := 3, ground := Ground.data }], guard := none }) rfl (fun K hK => ?_) AllReady.nil)
          go_simp
          refine hK _ _ ?_
          clear hK K
          try simp only [Act.put, List.setIfInBounds_toArray, List.set_cons_zero, List.set_cons_succ]
          refine wpAny_ready (rs := [7]) (by kernel_rfl) (by simp) ?_
          refine (AllReady.cons (o := { dst := some 39, op := Op.call { callee := Callee.builtin Builtin.append, args := #[Operand.tmp 36, Operand.tmp 38], argTypes := #[41, 41] }, type := 41, pos := "ref.go:61", after := #[{ on := 4, ground := Ground.data }, { on := 6, ground := Ground.data }], guard := none }) rfl (fun K hK => ?_) AllReady.nil)
          refine step_append_r rfl (.tmp 36) (.tmp 38) rfl sl.length (.slice A1 sl.length ca1) (sl.flatMap rcells) p HP.out rfl rfl HO.out HM.out ?_
          intro A' c' w5 M5 T5
          refine hK _ _ ?_
          clear hK K
          simp only [Act.put, List.setIfInBounds_toArray, List.set_cons_zero, List.set_cons_succ]
          have H5 : w5.heap[r]? = some (.cells (dref (.slice A1 sl.length ca1) V2 s.off fz).toArray 43 (0, 0)) := (T5.out.1.block r HLT.out.1 (fun e => HRR.out.apart.1 r e.symm rfl)).trans HRR.out.hd
          refine wpAny_take (i := 8) (oi := { dst := some 40, op := Op.nilCheck (Operand.tmp 32), type := 0, pos := "ref.go:61", after := #[{ on := 0, ground := Ground.data }, { on := 0, ground := Ground.phase }, { on := 1, ground := Ground.phase }, { on := 2, ground := Ground.phase }, { on := 3, ground := Ground.phase }, { on := 4, ground := Ground.phase }, { on := 5, ground := Ground.phase }, { on := 6, ground := Ground.phase }, { on := 7, ground := Ground.phase }], guard := none }) (v := .pointer (some ⟨r, 0, none⟩)) rfl (by kernel_rfl) (by kernel_rfl) (by kernel_rfl) (fun _ _ _ h => h) (Or.inl ⟨by kernel_rfl, fun W => by go_simp⟩) ?_
          simp only [Act.put, List.setIfInBounds_toArray, List.set_cons_zero, List.set_cons_succ]
          refine wpAny_take (i := 9) (oi := { dst := some 41, op := Op.fieldAddr 43 (Operand.tmp 40) 0, type := 0, pos := "ref.go:61", after := #[{ on := 8, ground := Ground.data }, { on := 0, ground := Ground.phase }, { on := 1, ground := Ground.phase }, { on := 2, ground := Ground.phase }, { on := 3, ground := Ground.phase }, { on := 4, ground := Ground.phase }, { on := 5, ground := Ground.phase }, { on := 6, ground := Ground.phase }, { on := 7, ground := Ground.phase }], guard := none }) (v := .pointer (some ⟨r, 0, none⟩)) rfl (by kernel_rfl) (by kernel_rfl) (by kernel_rfl) (fun _ _ _ h => h) (Or.inl ⟨by kernel_rfl, fun W => by go_simp⟩) ?_
          simp only [Act.put, List.setIfInBounds_toArray, List.set_cons_zero, List.set_cons_succ]
          refine wpAny_ready (rs := [10]) (by kernel_rfl) (by simp) ?_
          refine (AllReady.cons (o := { dst := none, op := Op.store 41 (Operand.tmp 41) (Operand.tmp 39), type := 0, pos := "ref.go:61", after := #[{ on := 9, ground := Ground.data }, { on := 7, ground := Ground.data }, { on := 7, ground := Ground.chain }, { on := 0, ground := Ground.phase }, { on := 1, ground := Ground.phase }, { on := 2, ground := Ground.phase }, { on := 3, ground := Ground.phase }, { on := 4, ground := Ground.phase }, { on := 5, ground := Ground.phase }, { on := 6, ground := Ground.phase }, { on := 7, ground := Ground.phase }], guard := none }) rfl (fun K hK => ?_) AllReady.nil)
          refine step_store_at rfl 41 (.tmp 41) (.tmp 39) rfl r 0 (dref (.slice A1 sl.length ca1) V2 s.off fz) 43 H5 (show 0 < 4 by omega) (.slice A' (sl.length + 1) c') rfl rfl rfl rfl Try.size41 ?_
          intro w6 G6
          refine hK _ _ ?_
          clear hK K
          refine wpAny_done (by kernel_rfl) ?_ _
          have hend := put_new HTW.out HRR.out HP.out (fun q hq => HNO.out q (by rw [List.take_length]; exact hq)) M5.out ⟨gb_drew T5.out.1, T5.out.2⟩ G6.out
          go_wp2
          exact bodyPost_end (results_none rfl _ _ _) rfl ⟨rfl, hend⟩
    · have hk' : k < sl.length := by omega
      clear hk
      obtain ⟨g, c, e1, e2, -, hrg⟩ := row_some HRR.out.row1 (by omega)
      injection e1 with e1 _ e3
      subst e1 e3
      obtain ⟨q, hq⟩ : ∃ q, sl[k]? = some q := ⟨_, List.getElem?_eq_getElem hk'⟩
      have ca : wr.cell? ⟨g, k * 130, none⟩ = some (.int .i64 q.1) := by
        have := hrg (k * 130 + 0) (.int .i64 q.1) (by rw [rflat_at _ HRR.out.slen k _ hq _ (by omega)]; rfl)
        rwa [Nat.zero_add] at this
      have HQ := Lib.hid hq
      clear hq hrg e2
      by_cases hqp : q.1 = p.1
      · have HE := Lib.hid hqp
        rw [hqp] at ca
        clear hqp
        go_wp2_with fail
        go_quiet (fail)
        go_wp2_with fail
        clear ca cb
        have k1w : ((wr.drewN nq).drewN 1).cell? ⟨r, 0, none⟩ = some (.slice (some ⟨g, 0, none⟩) sl.length ca1) := HRR.out.cells.1
        have HQ5 : Hid (((wr.drewN nq).drewN 1).rangeAt w.heap.size 0 (rcells p)) := Lib.hid (range_block (w := (wr.drewN nq).drewN 1) HBW.out 0 _ (fun j v hv => by rw [Nat.zero_add]; exact hv))
        have HTH : Hid (((wr.drewN nq).drewN 1).there g (k * 130) (rcells p).length) := Lib.hid (by rw [HPL.out]; exact put_there ((HRR.out.drewN nq).drewN 1) hk')
        refine wp_region_any (by kernel_rfl) ?_
        change wpAny _ _ _ _ _ _ _ ((wr.drewN nq).drewN 1)
        refine wpAny_take (i := 0) (oi := { dst := some 25, op := Op.move (Operand.tmp 0), type := 27, pos := "ref.go:57", after := #[], guard := none }) (v := .pointer (some ⟨r, 0, none⟩)) rfl (by kernel_rfl) (by kernel_rfl) (by kernel_rfl) (fun _ _ _ h => h) (Or.inl ⟨by kernel_rfl, fun W => by go_simp⟩) ?_
        simp only [Act.put, List.setIfInBounds_toArray, List.set_cons_zero, List.set_cons_succ]
        refine wpAny_take (i := 1) (oi := { dst := some 26, op := Op.nilCheck (Operand.tmp 25), type := 0, pos := "ref.go:57", after := #[{ on := 0, ground := Ground.data }], guard := none }) (v := .pointer (some ⟨r, 0, none⟩)) rfl (by kernel_rfl) (by kernel_rfl) (by kernel_rfl) (fun _ _ _ h => h) (Or.inl ⟨by kernel_rfl, fun W => by go_simp⟩) ?_
        simp only [Act.put, List.setIfInBounds_toArray, List.set_cons_zero, List.set_cons_succ]
        refine wpAny_take (i := 2) (oi := { dst := some 27, op := Op.fieldAddr 43 (Operand.tmp 26) 0, type := 0, pos := "ref.go:57", after := #[{ on := 1, ground := Ground.data }], guard := none }) (v := .pointer (some ⟨r, 0, none⟩)) rfl (by kernel_rfl) (by kernel_rfl) (by kernel_rfl) (fun _ _ _ h => h) (Or.inl ⟨by kernel_rfl, fun W => by go_simp⟩) ?_
        simp only [Act.put, List.setIfInBounds_toArray, List.set_cons_zero, List.set_cons_succ]
        refine wpAny_take (i := 4) (oi := { dst := some 29, op := Op.move (Operand.tmp 4), type := 3, pos := "ref.go:57", after := #[], guard := none }) (v := .int .i64 (k : Int)) rfl (by kernel_rfl) (by kernel_rfl) (by kernel_rfl) (fun _ _ _ h => h) (Or.inl ⟨by kernel_rfl, fun W => by go_simp⟩) ?_
        simp only [Act.put, List.setIfInBounds_toArray, List.set_cons_zero, List.set_cons_succ]
        refine wpAny_ready (rs := [3, 5]) (by kernel_rfl) (by simp) ?_
        refine (AllReady.cons (o := { dst := some 28, op := Op.load 41 (Operand.tmp 27), type := 41, pos := "ref.go:57", after := #[{ on := 2, ground := Ground.data }], guard := none }) rfl (fun K hK => ?_) (AllReady.cons (o := { dst := some 30, op := Op.load 68 (Operand.tmp 3), type := 68, pos := "ref.go:57", after := #[], guard := none }) rfl (fun K hK => ?_) AllReady.nil))
        · go_simp
          refine hK _ _ ?_
          clear hK K
          try simp only [Act.put, List.setIfInBounds_toArray, List.set_cons_zero, List.set_cons_succ]
          refine wpAny_ready (rs := [5]) (by kernel_rfl) (by simp) ?_
          refine (AllReady.cons (o := { dst := some 30, op := Op.load 68 (Operand.tmp 3), type := 68, pos := "ref.go:57", after := #[], guard := none }) rfl (fun K hK => ?_) AllReady.nil)
          refine step_load_cells rfl 68 (.tmp 3) rfl w.heap.size 0 rfl (rcells p) _ HQ5.out Try.underlying68 rfl HI.out ?_
          refine hK _ _ ?_
          clear hK K
          try simp only [Act.put, List.setIfInBounds_toArray, List.set_cons_zero, List.set_cons_succ]
          refine wpAny_take (i := 6) (oi := { dst := some 31, op := Op.indexAddr 41 (Operand.tmp 28) (Operand.tmp 29), type := 0, pos := "ref.go:57", after := #[{ on := 3, ground := Ground.data }, { on := 4, ground := Ground.data }, { on := 0, ground := Ground.phase }, { on := 1, ground := Ground.phase }, { on := 2, ground := Ground.phase }, { on := 3, ground := Ground.phase }, { on := 4, ground := Ground.phase }, { on := 5, ground := Ground.phase }], guard := none }) (v := .pointer (some ⟨g, k * 130, none⟩)) rfl (by kernel_rfl) (by kernel_rfl) (by kernel_rfl) (fun _ _ _ h => h) (Or.inl ⟨by kernel_rfl, fun W => by go_simp⟩) ?_
          simp only [Act.put, List.setIfInBounds_toArray, List.set_cons_zero, List.set_cons_succ]
          refine wpAny_ready (rs := [7]) (by kernel_rfl) (by simp) ?_
          refine (AllReady.cons (o := { dst := none, op := Op.store 68 (Operand.tmp 31) (Operand.tmp 30), type := 0, pos := "ref.go:57", after := #[{ on := 6, ground := Ground.data }, { on := 5, ground := Ground.data }, { on := 0, ground := Ground.phase }, { on := 1, ground := Ground.phase }, { on := 2, ground := Ground.phase }, { on := 3, ground := Ground.phase }, { on := 4, ground := Ground.phase }, { on := 5, ground := Ground.phase }], guard := none }) rfl (fun K hK => ?_) AllReady.nil)
          refine step_store_cells rfl 68 (.tmp 31) (.tmp 30) rfl g (k * 130) (rcells p) rfl rfl HTH.out HI.out (rcells_one _) ?_
          refine hK _ _ ?_
          clear hK K
          refine wpAny_done (by kernel_rfl) ?_ _
          have hend := put_at ((HTW.out.drewN nq).drewN 1) ((HRR.out.drewN nq).drewN 1) HP.out HQ.out HE.out
          go_wp2
          first | exact bodyPost_ret (results_none rfl _ _ _) rfl ⟨rfl, hend⟩ | (go_ret; exact ⟨rfl, hend⟩)
        · refine step_load_cells rfl 68 (.tmp 3) rfl w.heap.size 0 rfl (rcells p) _ HQ5.out Try.underlying68 rfl HI.out ?_
          refine hK _ _ ?_
          clear hK K
          try simp only [Act.put, List.setIfInBounds_toArray, List.set_cons_zero, List.set_cons_succ]
          refine wpAny_ready (rs := [3]) (by kernel_rfl) (by simp) ?_
          refine (AllReady.cons (o := { dst := some 28, op := Op.load 41 (Operand.tmp 27), type := 41, pos := "ref.go:57", after := #[{ on := 2, ground := Ground.data }], guard := none }) rfl (fun K hK => ?_) AllReady.nil)
          go_simp
          refine hK _ _ ?_
          clear hK K
          try simp only [Act.put, List.setIfInBounds_toArray, List.set_cons_zero, List.set_cons_succ]
          refine wpAny_take (i := 6) (oi := { dst := some 31, op := Op.indexAddr 41 (Operand.tmp 28) (Operand.tmp 29), type := 0, pos := "ref.go:57", after := #[{ on := 3, ground := Ground.data }, { on := 4, ground := Ground.data }, { on := 0, ground := Ground.phase }, { on := 1, ground := Ground.phase }, { on := 2, ground := Ground.phase }, { on := 3, ground := Ground.phase }, { on := 4, ground := Ground.phase }, { on := 5, ground := Ground.phase }], guard := none }) (v := .pointer (some ⟨g, k * 130, none⟩)) rfl (by kernel_rfl) (by kernel_rfl) (by kernel_rfl) (fun _ _ _ h => h) (Or.inl ⟨by kernel_rfl, fun W => by go_simp⟩) ?_
          simp only [Act.put, List.setIfInBounds_toArray, List.set_cons_zero, List.set_cons_succ]
          refine wpAny_ready (rs := [7]) (by kernel_rfl) (by simp) ?_
          refine (AllReady.cons (o := { dst := none, op := Op.store 68 (Operand.tmp 31) (Operand.tmp 30), type := 0, pos := "ref.go:57", after := #[{ on := 6, ground := Ground.data }, { on := 5, ground := Ground.data }, { on := 0, ground := Ground.phase }, { on := 1, ground := Ground.phase }, { on := 2, ground := Ground.phase }, { on := 3, ground := Ground.phase }, { on := 4, ground := Ground.phase }, { on := 5, ground := Ground.phase }], guard := none }) rfl (fun K hK => ?_) AllReady.nil)
          refine step_store_cells rfl 68 (.tmp 31) (.tmp 30) rfl g (k * 130) (rcells p) rfl rfl HTH.out HI.out (rcells_one _) ?_
          refine hK _ _ ?_
          clear hK K
          refine wpAny_done (by kernel_rfl) ?_ _
          have hend := put_at ((HTW.out.drewN nq).drewN 1) ((HRR.out.drewN nq).drewN 1) HP.out HQ.out HE.out
          go_wp2
          first | exact bodyPost_ret (results_none rfl _ _ _) rfl ⟨rfl, hend⟩ | (go_ret; exact ⟨rfl, hend⟩)
      · go_wp2_with fail
        go_quiet (fail)
        go_wp2_with fail
        go_roundw
        case measure => simp [intOf]; omega
        case rel =>
          refine ⟨k + 1, by omega, by go_num, fun a ha => ?_, Lib.hid ?_⟩
          · rw [List.take_add_one, HQ.out] at ha
            rcases List.mem_append.1 ha with ha | ha
            · exact HNO.out a ha
            · simp at ha; subst ha; exact hqp
          · exact ⟨HD.out.os, HD.out.tape, HD.out.output, HD.out.size, HD.out.block⟩
end Go.Proofs.Ythbbghkefekhfaa
