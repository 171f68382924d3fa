/-
  What is proved: what is done when loose writes are settled. Conditions as stated.
-/
import Derived.Test.YtfegffdhlkhjbaaDe
namespace Go.Proofs.Ytfegffdhlkhjbaa
open Go.RowKit

/-- One cell behind the other set. -/
def setAll : List Value → Nat → List Value → List Value
  | C, _, [] => C
  | C, o, v :: r => setAll (C.set o v) (o + 1) r
theorem heap_setCells {g : Nat} {t : TypeId} : ∀ (vs : List Value) (o : Nat) (w : World) (C : List Value), w.heap[g]? = some (.cells C.toArray t (0, 0)) → (w.setCells g o vs).heap[g]? = some (.cells (setAll C o vs).toArray t (0, 0))
  | [], _, _, _, h => h
  | v :: r, o, w, C, h => by
    rw [World.setCells, setAll]
    exact heap_setCells r (o + 1) _ _ (heap_set h v)
theorem setAll_mid : ∀ (vs p a b : List Value), a.length = vs.length → setAll (p ++ (a ++ b)) p.length vs = p ++ (vs ++ b)
  | [], p, a, b, h => by
    obtain rfl : a = [] := List.eq_nil_of_length_eq_zero h
    rfl
  | v :: r, p, a, b, h => by
    match a, h with
    | x :: a', h =>
      have := setAll_mid r (p ++ [v]) a' b (by simpa using h)
      rw [setAll, List.set_append_right _ _ (Nat.le_refl _), Nat.sub_self]
      simpa using this
theorem gb_setCells (g : Nat) : ∀ (vs : List Value) (o : Nat) (w : World), w.grownBy (w.setCells g o vs) (some g)
  | [], _, _ => ⟨rfl, rfl, rfl, Nat.le_refl _, fun _ _ _ => rfl⟩
  | v :: r, o, w => by
    rw [World.setCells]
    have h : w.grownBy (w.setCell ⟨g, o, none⟩ v) (some g) := ⟨rfl, rfl, rfl, by simp [World.setCell], fun k _ hk => Below.heap_setCell _ _ _ _ (fun e => hk (by rw [e]))⟩
    exact h.trans (gb_setCells g r (o + 1) _)

/-- A whole block's cells anew: no other block has turned. -/
theorem wpList_store_all {P : Program} {ops : Array Oper} {rest : List Oper} {op : Oper} {a : Act} {w : World} {Q : Exit → Act → World → Prop} (hgd : op.guard = none) (ty : TypeId) (x y : Operand) (ho : op.op = .store ty x y)
    (g : Nat) (Z cs : List Value) (t : TypeId) (hZ : w.heap[g]? = some (.cells Z.toArray t (0, 0))) (hl : Z.length = cs.length) (hx : a.eval x = .pointer (some ⟨g, 0, none⟩)) (hy : a.eval y = .agg cs.toArray)
    (hi : (P.info? ty).map (·.size) = some cs.length) (h1 : ∀ v ∈ cs, v.oneCell' = true)
    (h : ∀ w', Hid (w'.heap[g]? = some (.cells cs.toArray t (0, 0)) ∧ w.grownBy w' (some g)) → wpList P ops Q rest (a.put op.dst undef) w') : wpList P ops Q (op :: rest) a w := by
  refine wpList_store_cells hgd ty x y ho g 0 cs hx hy (there_block hZ 0 _ (by omega)) hi h1 (h _ (Lib.hid ⟨?_, gb_setCells _ _ _ _⟩))
  rw [heap_setCells cs 0 w _ hZ]
  have := setAll_mid cs [] Z [] hl
  simp only [List.nil_append, List.length_nil, List.append_nil] at this
  rw [this]

theorem zero66 (w : World) : (zeroValue 75).run Try.prog w = .ok (.agg (.int .i64 0 :: u8s zeros).toArray) w := by kernel_rfl

/-- A quiet call of a function value. -/
theorem wpQuiet_call_value {P : Program} {ops : Array Oper} {C : World → Prop} {Q : Act → Prop} {rest : List Oper} {op : Oper} {a : Act} (hgd : op.guard = none) (f x : Operand) (ts : Array TypeId)
    (ho : op.op = .call { callee := .value f, args := #[x], argTypes := ts }) (K : Nat) (caps : Array Value) (hf : a.eval f = .func (.func K) #[] caps) (xv : Value) (hx : a.eval x = xv)
    (hE : ∀ args W, (callFunc K args).run P W = .ok (.enter K args) W) (v : Value) (hc : ∀ W, C W → Calls P K (#[xv] ++ caps) W fun E w' => E = .returned v ∧ C w')
    (h : wpQuiet P ops C Q rest (a.put op.dst v)) : wpQuiet P ops C Q (op :: rest) a := by
  have hw : Region.wanted op (yielded ops a.tmps) = true := by simp [Region.wanted, hgd]
  unfold wpQuiet
  rw [if_pos hw]
  refine ⟨v, fun W hC => ?_, h⟩
  have h1 := hE (#[xv] ++ caps) W
  unfold Oper.quietAt execOp
  simp [ho, resolve, hf, hx, Deferred.ofValue, invoke, h1, Oper.quietUpon]
  exact hc W hC
theorem Turns.of_drew {S : Nat → Prop} {w w1 : World} (h : Turns S (w.drewN 1) w1) : Turns S w w1 := ⟨h.os, h.tape, h.output, h.size, h.block⟩
/-- While loose writes are settled: k of them are. -/
def SetAt (t : Nat → Nat) (s : Dk) (S : Nat → Prop) (d T : Nat) (fused : Bool) (left : Int) (ms ml mn : Option Nat) (L : Value) (w : World) (k : Nat) (wr : World) : Prop :=
  ∃ gs gl gn, Turns S w wr ∧ wr.heap[d]? = some (.cells (dcells s.off fused left ms ml L mn).toArray 60 (0, 0)) ∧ Maps3 wr T (s.loose.length - k) ms ml mn gs gl gn ∧ (∀ y, view gs gl y = settled t 0 s.sure (s.loose.take k) y) ∧
    (∀ y, gn y = none ∨ ∃ p ∈ s.loose.drop k, p.1 = y) ∧ (∀ y c, gs y = some c → c.length = 128) ∧ wr.ownsRow 0 75 129 L s.loose.length (s.loose.flatMap wcells)

theorem SetAt.start {t : Nat → Nat} {s : Dk} {S : Nat → Prop} {d T : Nat} {fused : Bool} {left : Int} {ms ml mn : Option Nat} {L : Value} {w : World} {gs : Int → Option (List UInt8)} {gl : Int → Bool} {gn : Int → Option Nat}
    (h : Rep w S d T s fused left ms ml mn L gs gl gn) : SetAt t s S d T fused left ms ml mn L w 0 w := by
  refine ⟨gs, gl, gn, Turns.refl _ _, h.hd, h.maps, fun y => by rw [List.take_zero, settled, h.sure]; rfl, fun y => ?_, h.glen, h.row⟩
  rcases h.newest y with hn | ⟨j, b, _, h2, _⟩
  · exact .inl hn.1
  · exact .inr ⟨_, List.mem_of_getElem? h2, rfl⟩

theorem SetAt.end {t : Nat → Nat} {s : Dk} {S : Nat → Prop} {d T : Nat} {fused : Bool} {left : Int} {ms ml mn : Option Nat} {L : Value} {w wr w' : World} {gs : Int → Option (List UInt8)} {gl : Int → Bool} {gn : Int → Option Nat}
    (h : Rep w S d T s fused left ms ml mn L gs gl gn) (hA : SetAt t s S d T fused left ms ml mn L w s.loose.length wr)
    (hd' : w'.heap[d]? = some (.cells (dcells s.off fused left ms ml (.slice none 0 0) mn).toArray 60 (0, 0))) (hg' : wr.grownBy w' (some d)) : DiskIs w' S d T (s.settle t) ∧ Turns S w w' := by
  obtain ⟨gs1, gl1, gn1, ht, hd1, hm, hv, hnw, hg, _⟩ := hA
  have hSd := h.own d (.inl rfl)
  have htw : Turns S w w' := ht.grown hg' (by rintro g e; cases e; exact .inl hSd)
  refine ⟨⟨fused, left, ms, ml, mn, .slice none 0 0, gs1, gl1, gn1, hd', h.fuse, h.left, ?_, Nat.zero_le _, World.ownsRow_nil _ _ _ _, ?_, ?_, (fun p hp => by cases hp), hg, ?_, fun k hk => Nat.lt_of_lt_of_le (h.lt k hk) htw.size⟩, htw⟩
  · rw [Nat.sub_self] at hm
    refine maps_kept hm fun b hb => ?_
    have hlt : b < wr.heap.size := by
      rcases hm with ⟨rfl, rfl, rfl, _⟩ | ⟨bs, bl, bn, rfl, rfl, rfl, _, _, _, h7, h8, h9⟩
      · simp at hb
      · rcases hb with e | e | e
        · cases e; exact mapAt_lt h7
        · cases e; exact mapAt_lt h8
        · cases e; exact mapAt_lt h9
    exact hg'.block b hlt (fun e => by injection e with e; exact h.apart.1 b hb e)
  · intro y
    have := hv y
    rw [List.take_of_length_le (Nat.le_refl _)] at this
    exact this.symm
  · intro y
    rcases hnw y with h0 | ⟨p, hp, _⟩
    · exact .inl ⟨h0, rfl⟩
    · rw [List.drop_of_length_le (Nat.le_refl _)] at hp; cases hp
  · intro k hk
    rcases hk with e | e | e | e | e
    · exact h.own k (.inl e)
    · exact h.own k (by simp [e])
    · exact h.own k (by simp [e])
    · exact h.own k (by simp [e])
    · cases e
theorem SetAt.next {t : Nat → Nat} {s : Dk} {S : Nat → Prop} {d T : Nat} {fused : Bool} {left : Int} {bs bl bn : Nat} {L : Value} {w wr w2 w3 w4 : World} {gs gs1 gs2 : Int → Option (List UInt8)} {gl gl1 gl2 : Int → Bool} {gn gn1 : Int → Option Nat} {k : Nat} {x : Int} {b : List UInt8}
    (h : Rep w S d T s fused left (some bs) (some bl) (some bn) L gs gl gn) (hk : k < s.loose.length) (hp : s.loose[k]? = some (x, b)) (h4 : bs ≠ bl) (h5 : bs ≠ bn) (h6 : bl ≠ bn)
    (ht : Turns S w wr) (hd1 : wr.heap[d]? = some (.cells (dcells s.off fused left (some bs) (some bl) L (some bn)).toArray 60 (0, 0))) (hv : ∀ y, view gs1 gl1 y = settled t 0 s.sure (s.loose.take k) y)
    (hnw : ∀ y, gn1 y = none ∨ ∃ p ∈ s.loose.drop k, p.1 = y) (hr1 : wr.ownsRow 0 75 129 L s.loose.length (s.loose.flatMap wcells))
    (t2 : wr.grownBy w2 none) (t3 : Turns (fun k => k = bs ∨ k = bl) w2 w3) (m1 : World.mapAt w3 bs (T - (s.loose.length - k) + 1) (vS gs2)) (m2 : World.mapAt w3 bl (T - (s.loose.length - k) + 1) (vL gl2))
    (hv3 : ∀ y, view gs2 gl2 y = done (view gs1 gl1) (x, b) (t k) y) (hg3 : ∀ y c, gs2 y = some c → c.length = 128) (m4 : World.mapAt w4 bn T (upd (vN gn1) x none)) (t4 : w3.grownBy w4 (some bn)) :
    SetAt t s S d T fused left (some bs) (some bl) (some bn) L w (k + 1) w4 := by
  have hm := h.many
  have hz2 := t2.size
  have hz3 := t3.size
  obtain ⟨a1, a2⟩ := h.apart
  have hdr : d < wr.heap.size := (Array.getElem?_eq_some_iff.1 hd1).1
  have hS : ∀ k, (k = bs ∨ k = bl ∨ k = bn) → S k := fun k hk => h.own k (by rcases hk with e | e | e <;> simp [e])
  have keep : ∀ g, g < wr.heap.size → g ≠ bs → g ≠ bl → g ≠ bn → w4.heap[g]? = wr.heap[g]? := fun g h0 e1 e2 e3 => by
    rw [t4.block g (by omega) (fun e => e3 (by injection e)), t3.block g (by omega) (fun e => e.elim e1 e2), t2.block g h0 (by simp)]
  have hLne : ∀ g, L.ownBlock = some g → g < wr.heap.size ∧ g ≠ bs ∧ g ≠ bl ∧ g ≠ bn := by
    intro g hg
    have hlt := (hr1.lt g hg).2
    rcases h.row.2 with ⟨e0, _⟩ | ⟨g', cap, cur, e0, _, hgg, _⟩
    · rw [e0] at hg; simp [Value.ownBlock] at hg
    · rw [e0] at hg
      simp [Value.ownBlock] at hg
      subst hg
      rcases h.maps with ⟨h0, _⟩ | ⟨_, _, _, e1, e2, e3, _, _, _, h7, h8, h9⟩
      · cases h0
      · injection e1 with e1
        injection e2 with e2
        injection e3 with e3
        subst e1 e2 e3
        refine ⟨hlt, ?_, ?_, ?_⟩
        · rintro rfl; obtain ⟨es, c, h0⟩ := mapAt_block h7; rw [hgg] at h0; cases h0
        · rintro rfl; obtain ⟨es, c, h0⟩ := mapAt_block h8; rw [hgg] at h0; cases h0
        · rintro rfl; obtain ⟨es, c, h0⟩ := mapAt_block h9; rw [hgg] at h0; cases h0
  refine ⟨gs2, gl2, upd gn1 x none, ?_, ?_, .inr ⟨bs, bl, bn, rfl, rfl, rfl, h4, h5, h6, ?_, ?_, ?_⟩, ?_, ?_, hg3, ?_⟩
  · refine ((ht.grown t2 (by simp)).step t3 ?_).grown t4 ?_
    · rintro k (e | e)
      · exact .inl (hS k (.inl e))
      · exact .inl (hS k (.inr (.inl e)))
    · rintro g e; cases e; exact .inl (hS _ (.inr (.inr rfl)))
  · rw [keep d hdr (fun e => a1 bs (by simp) e.symm) (fun e => a1 bl (by simp) e.symm) (fun e => a1 bn (by simp) e.symm)]
    exact hd1
  · refine mapAt_mono (mapAt_kept m1 (t4.block bs (mapAt_lt m1) (fun e => h5 (by injection e)))) (by omega)
  · refine mapAt_mono (mapAt_kept m2 (t4.block bl (mapAt_lt m2) (fun e => h6 (by injection e)))) (by omega)
  · exact mapAt_congr m4 (vN_del gn1 x)
  · intro y
    have e1 : s.loose.take (k + 1) = s.loose.take k ++ [(x, b)] := by rw [List.take_add_one, hp]; rfl
    rw [e1, settled_snoc, hv3 y]
    have e2 : view gs1 gl1 = settled t 0 s.sure (s.loose.take k) := funext hv
    rw [e2, List.length_take, Nat.min_eq_left (by omega), Nat.zero_add]
  · intro y
    by_cases hy : y = x
    · subst hy; exact .inl (upd_same _ _ _)
    · rw [upd_other _ _ hy]
      rcases hnw y with h0 | ⟨p, hp1, hp2⟩
      · exact .inl h0
      · refine .inr ⟨p, ?_, hp2⟩
        rw [List.drop_eq_getElem_cons hk] at hp1
        rcases List.mem_cons.1 hp1 with e | e
        · exfalso
          have e3 : s.loose[k] = (x, b) := by rw [List.getElem?_eq_getElem hk] at hp; exact Option.some.inj hp
          rw [e3] at e
          subst e
          exact hy hp2.symm
        · exact e
  · exact row_kept hr1 fun g hg => by
      obtain ⟨h1, h2, h3, h4⟩ := hLne g hg
      exact keep g h1 h2 h3 h4

set_option maxHeartbeats 2000000 in
set_option maxRecDepth 100000 in
theorem settle_by (K : Nat) (caps : Array Value) (hE : ∀ args W, (callFunc K args).run Try.prog W = .ok (.enter K args) W) (t : Nat → Nat) {w : World} {S : Nat → Prop} {d T : Nat} {s : Dk} (h : DiskIs w S d T s) (hT : T < 1000000000)
    (hK : ∀ (i : Nat) (W : World), i < s.loose.length → Turns S w W → Calls Try.prog K (#[.int .i64 (i : Int)] ++ caps) W fun E w' => E = .returned (.int .u8 (t i : Int)) ∧ W = w') :
    Calls Try.prog 34 #[.pointer (some ⟨d, 0, none⟩), .func (.func K) #[] caps] w fun E w' => E = .returned (.tuple #[]) ∧ DiskIs w' S d T (s.settle t) ∧ Turns S w w' := by
  obtain ⟨fused, left, ms, ml, mn, L, gs, gl, gn, h⟩ := h
  have hSd := h.own d (.inl rfl)
  obtain ⟨A, c, rfl, hsl⟩ := row_shape h.row
  obtain ⟨c0, c1, c2, c3, c4, c5, c6⟩ := h.cells
  have HSt := Lib.hid (SetAt.start (t := t) h)
  have HR := Lib.hid h
  have HK := Lib.hid hK
  have HE := Lib.hid hE
  clear hE h c0 c1 c2 c3 c4 c6 hK
  go_enter Try.func34, Try.ntmps34
  go_wp2
  go_loopw [11] (fun v11 wr => ∃ k : Nat, k ≤ s.loose.length ∧ v11 = .int .i64 k ∧ Hid (SetAt t s S d T fused left ms ml mn (.slice A s.loose.length c) w k wr)) (fun v11 _ => s.loose.length - (intOf v11).toNat)
  case atStart => exact ⟨0, by omega, rfl, HSt⟩
  case round =>
    clear HSt c5
    obtain ⟨k, hkn, rfl, HA⟩ := hrel
    by_cases hkk : k < s.loose.length
    · obtain ⟨gs1, gl1, gn1, ht1, hd1, hm1, hv1, hnw1, hg1, hr1⟩ := HA.out
      rcases hm1 with ⟨_, _, _, h0, _⟩ | ⟨bs, bl, bn, rfl, rfl, rfl, h4, h5, h6, h7, h8, h9⟩
      · omega
      obtain ⟨g, c', e0, _, _, hrg⟩ := row_some hr1 (by omega)
      injection e0 with e0 _ e1
      subst e0 e1
      obtain ⟨⟨x, b⟩, hp⟩ : ∃ p, s.loose[k]? = some p := ⟨_, List.getElem?_eq_getElem hkk⟩
      obtain ⟨hb, hx⟩ := HR.out.len (x, b) (List.mem_of_getElem? hp)
      have hwl : (wcells (x, b)).length = 129 := wcells_length hb
      have HRG : Hid (wr.rangeAt g (k * 129) (wcells (x, b))) := Lib.hid fun i v hv => by
        have hi : i < 129 := by have := (List.getElem?_eq_some_iff.1 hv).1; omega
        have := hrg (k * 129 + i) v (by rw [flat_at _ (fun p hp => (HR.out.len p hp).1) k _ hp _ hi]; exact hv)
        rwa [Nat.zero_add] at this
      have HI : Hid ((Try.prog.info? 75).map (·.size) = some (wcells (x, b)).length) := Lib.hid (by rw [hwl]; exact Try.size75)
      obtain ⟨Z, hZ⟩ : ∃ Z, Z = Value.int .i64 0 :: u8s zeros := ⟨_, rfl⟩
      have hz : ∀ w, (zeroValue 75).run Try.prog w = .ok (.agg Z.toArray) w := by rw [hZ]; exact zero66
      have HZL : Hid (Z.length = (wcells (x, b)).length) := Lib.hid (by rw [hZ, hwl]; simp [u8s_length, zeros])
      have HP := Lib.hid hp
      have HN := Lib.hid (show s.loose.length - k ≤ T by have := HR.out.many; omega)
      have HV := Lib.hid hv1
      have HNW := Lib.hid hnw1
      have HG := Lib.hid hg1
      have HRR := Lib.hid hr1
      have HD := Lib.hid hd1
      have HT := Lib.hid ht1
      have H7 := Lib.hid h7
      have H8 := Lib.hid h8
      have H9 := Lib.hid h9
      have HB := Lib.hid hb
      have HX := Lib.hid hx
      have HIx : Hid (I64 x) := Lib.hid (i64_of (by omega))
      have hgl : g < wr.heap.size := World.block_lt_of_cell? wr _ (HRG.out 0 _ (List.getElem?_eq_getElem (by omega)))
      clear hZ hp hv1 hnw1 hg1 hr1 hd1 ht1 h7 h8 h9 hb hx hwl hrg
      go_wp2_with (first
        | (refine wpList_load_mid rfl 75 (.tmp 14) rfl g (k * 129) rfl (wcells (x, b)) _ HRG.out Try.underlying75 rfl HI.out ?_)
        | (refine wpList_store_all rfl 75 (.tmp 5) (.tmp 15) rfl wr.heap.size Z (wcells (x, b)) 75 (row_new wr Z 75) HZL.out rfl rfl HI.out (wcells_one _) ?_; intro w2 G2))
      try simp only [Act.put, List.setIfInBounds_toArray, List.set_cons_zero, List.set_cons_succ]
      have T2 : Hid (wr.grownBy w2 none) := Lib.hid ⟨G2.out.2.os, G2.out.2.tape, G2.out.2.output, Nat.le_trans (by simp) G2.out.2.size, fun j hj _ => (G2.out.2.block j (by simp; omega) (fun e => by injection e with e; omega)).trans (heap_alloc_old wr _ hj)⟩
      have HD2 : Hid ((w2.drewN 1).heap[d]? = some (.cells (dcells s.off fused left (some bs) (some bl) (.slice (some ⟨g, 0, none⟩) s.loose.length c) (some bn)).toArray 60 (0, 0))) := Lib.hid ((T2.out.block d (Array.getElem?_eq_some_iff.1 HD.out).1 (by simp)).trans HD.out)
      have J7 : Hid (World.mapAt (w2.drewN 1) bs (T - (s.loose.length - k)) (vS gs1)) := Lib.hid (mapAt_kept H7.out (T2.out.block bs (mapAt_lt H7.out) (by simp)))
      have J8 : Hid (World.mapAt (w2.drewN 1) bl (T - (s.loose.length - k)) (vL gl1)) := Lib.hid (mapAt_kept H8.out (T2.out.block bl (mapAt_lt H8.out) (by simp)))
      have J9 : Hid (World.mapAt (w2.drewN 1) bn T (vN gn1)) := Lib.hid (mapAt_kept H9.out (T2.out.block bn (mapAt_lt H9.out) (by simp)))
      have HQ : Hid (∀ W : World, W = w2.drewN 1 → W.rangeAt wr.heap.size 0 (wcells (x, b))) := Lib.hid (fun W hW => by subst hW; exact range_block (w := w2.drewN 1) G2.out.1 0 _ (fun j v hv => by rw [Nat.zero_add]; exact hv))
      have HTW : Hid (Turns S w (w2.drewN 1)) := Lib.hid ((HT.out.grown T2.out (by simp)).drewN 1)
      refine wp_region_quiet_tail 5 (by kernel_rfl) (by kernel_rfl) ?_
      simp only [List.take_succ_cons, List.take_zero, List.drop_succ_cons, List.drop_zero]
      repeat (first
        | go_big_quiet_skip
        | (refine wpQuiet_load_cells rfl 75 (.tmp 5) rfl wr.heap.size 0 rfl (wcells (x, b)) _ HQ.out Try.underlying75 rfl HI.out ?_; simp only [Act.put, List.setIfInBounds_toArray, List.set_cons_zero, List.set_cons_succ])
        | (refine wpQuiet_call_value rfl (.tmp 18) (.tmp 19) #[3] rfl K caps rfl (.int .i64 (k : Int)) rfl HE.out (.int .u8 (t k : Int)) (fun W hW => by subst hW; exact (HK.out k _ hkk HTW.out).mono fun _ _ h => ⟨h.1, h.2.symm⟩) ?_; simp only [Act.put, List.setIfInBounds_toArray, List.set_cons_zero, List.set_cons_succ])
        | (go_big_quiet_want; go_big_quiet_op; go_big_quiet_on))
      refine wpQuiet_nil ?_
      go_wp2_with (first
        | (go_at_call 53; refine (do_any HD2.out J7.out J8.out h4 x b (t k) HX.out HB.out (by omega) HG.out).mono ?_; rintro E w3 ⟨rfl, gs2, gl2, m1, m2, hv3, hg3, t3⟩; have M1 := Lib.hid m1; have M2 := Lib.hid m2; have HV3 := Lib.hid hv3; have HG3 := Lib.hid hg3; have T3 := Lib.hid t3; clear m1 m2 hv3 hg3 t3))
      try simp only [Act.put, List.setIfInBounds_toArray, List.set_cons_zero, List.set_cons_succ]
      have HD3 : Hid (w3.heap[d]? = some (.cells (dcells s.off fused left (some bs) (some bl) (.slice (some ⟨g, 0, none⟩) s.loose.length c) (some bn)).toArray 60 (0, 0))) := Lib.hid ((T3.out.block d (Array.getElem?_eq_some_iff.1 HD2.out).1 (fun e => by
        rcases e with e | e
        · exact HR.out.apart.1 bs (by simp) e.symm
        · exact HR.out.apart.1 bl (by simp) e.symm)).trans HD2.out)
      have k6 : w3.cell? ⟨d, 6, none⟩ = some (.map (some bn)) := block_cell HD3.out 6 _ rfl
      have kx : w3.cell? ⟨wr.heap.size, 0, none⟩ = some (.int .i64 x) := block_cell ((T3.out.block wr.heap.size (Array.getElem?_eq_some_iff.1 G2.out.1).1 (fun e => by
        rcases e with e | e
        · have := mapAt_lt H7.out; omega
        · have := mapAt_lt H8.out; omega)).trans G2.out.1) 0 _ rfl
      have J3 : Hid (World.mapAt w3 bn T (vN gn1)) := Lib.hid (mapAt_kept J9.out (T3.out.block bn (mapAt_lt J9.out) (fun e => by
        rcases e with e | e
        · exact h5 e.symm
        · exact h6 e.symm)))
      refine wp_region_quiet_tail 6 (by kernel_rfl) (by kernel_rfl) ?_
      simp only [List.take_succ_cons, List.take_zero, List.drop_succ_cons, List.drop_zero]
      repeat (first
        | go_big_quiet_skip
        | (go_big_quiet_want; go_big_quiet_op; go_big_quiet_on))
      refine wpQuiet_nil ?_
      refine wpList_del_at rfl (.tmp 25) (.tmp 27) 58 3 rfl Try.underlying58 bn T (vN gn1) rfl J3.out x rfl HIx.out ?_
      intro w4 M4 T4
      go_wp2
      go_roundw
      case measure => simp [intOf]; omega
      case rel => exact ⟨k + 1, by omega, by go_num, Lib.hid (SetAt.next HR.out hkk HP.out h4 h5 h6 HT.out HD.out HV.out HNW.out HRR.out T2.out (T3.out.of_drew) M1.out M2.out HV3.out HG3.out M4.out (gb_drew T4.out.grown))⟩
    · obtain rfl : k = s.loose.length := by omega
      go_wp2_with (first
        | (refine wpList_store_at rfl 57 (.tmp 31) (.const (Value.slice none 0 0)) rfl d 5 (dcells s.off fused left ms ml (.slice A s.loose.length c) mn) 60 (by obtain ⟨_, _, _, _, h0, _⟩ := HA.out; exact h0) (show 5 < 7 by omega) (.slice none 0 0) rfl rfl rfl rfl Try.size57 ?_; intro w5 G5))
      exact bodyPost_end (results_none rfl _ _ _) rfl ⟨rfl, SetAt.end HR.out HA.out G5.out.1 G5.out.2⟩
end Go.Proofs.Ytfegffdhlkhjbaa
