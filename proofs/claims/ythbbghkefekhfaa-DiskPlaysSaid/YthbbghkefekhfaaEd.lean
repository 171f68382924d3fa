/-
  What is proved: what the document's Write does. Conditions as stated.
-/
import Derived.Test.YthbbghkefekhfaaEc
namespace Go.Proofs.Ythbbghkefekhfaa
open Go.RowKit

theorem Try.info68 : (Try.prog.info? 68).map (fun i => (i.zero, i.size, i.bytes)) = some (some (.agg (rcells noW).toArray), 130, 144) := by kernel_rfl
theorem Try.size41 : (Try.prog.info? 41).map (·.size) = some 1 := by kernel_rfl

theorem build41 (p : Int × List UInt8 × Bool) (hp : p.2.1.length = 128) (w : World) : (Instr.buildSlice 41 1 #[(0, .agg (rcells p).toArray)]).run Try.prog w = .ok (.slice (some ⟨w.heap.size, 0, none⟩) 1 1) (w.alloc (.cells (rcells p).toArray 68)) := by
  obtain ⟨i0, hi, hz0, hz1, _⟩ := info_parts Try.info68
  have hl := rcells_length hp
  refine run_buildSlice w 41 68 1 _ _ i0 _ Try.underlying41 hi hz0 (by rw [hz1]; decide) (by rw [hz1]; decide) ?_
  rw [hz1]
  generalize hA : (Array.range (1 * 130)).map (fun x => (Value.agg (rcells noW).toArray).cells[x % (Value.agg (rcells noW).toArray).cells.size]!) = A
  have hAs : A.toList.length = 130 := by rw [← hA]; simp
  have hAs' : A.size = 130 := by simpa using hAs
  have m1 := fill_mid [] A.toList [] (rcells p) (by rw [hAs, hl])
  have e1 : (Value.agg (rcells p).toArray).cells.size = 130 := by show (rcells p).toArray.size = 130; simpa using hl
  rw [fill_cons _ _ 0 _ _ 0 130 rfl e1 (by rw [e1]; omega)]
  simp only [List.length_nil, List.nil_append, List.append_nil] at m1
  rw [show A = A.toList.toArray by simp, m1]
  rfl

/-- One more write onto the row of the document's. -/
theorem step_append_r {w : World} {ops : Array Oper} {o : Oper} {a : Act} {K : Act → World → Prop} {Q : Exit → Act → World → Prop} {E : Prop} (hgd : o.guard = none) (s x : Operand)
    (ho : o.op = Op.call { callee := Callee.builtin Builtin.append, args := #[s, x], argTypes := #[41, 41] })
    (n : Nat) (L : Value) (xs : List Value) (p : Int × List UInt8 × Bool) (hp : p.2.1.length = 128) (hs : a.eval s = L) (hx : a.eval x = .slice (some ⟨w.heap.size, 0, none⟩) 1 1)
    (hown : w.ownsRow 0 68 130 L n xs) (hm : n < 100000000000)
    (h : ∀ A' c' w', Hid (w'.ownsRow 0 68 130 (.slice A' (n + 1) c') (n + 1) (xs ++ rcells p)) → Hid (w.grownBy w' L.ownBlock ∧ ((Value.slice A' (n + 1) c').ownBlock = L.ownBlock ∨ ∃ g, (Value.slice A' (n + 1) c').ownBlock = some g ∧ w.heap.size ≤ g)) → K (a.put o.dst (.slice A' (n + 1) c')) w') :
    if Region.wanted o (yielded ops a.tmps) = true then Oper.wp Try.prog o a (w.alloc (.cells (rcells p).toArray 68)) K Q else E := by
  have hw : Region.wanted o (yielded ops a.tmps) = true := by simp [Region.wanted, hgd]
  rw [if_pos hw]
  obtain ⟨i0, hi, hz0, hz1, hz2⟩ := info_parts Try.info68
  have hl := rcells_length hp
  obtain ⟨v', w', hr, h2, h3, _, h5⟩ := run_append_own_at (P := Try.prog) (w.alloc (.cells (rcells p).toArray 68)) 0 41 o.type 68 i0 _ 130 144 Try.underlying41 hi hz0 hz1 hz2 (by show (rcells noW).toArray.size = 130; rfl) (by decide) L n xs (hown.alloc _) ⟨w.heap.size, 0, none⟩ 1 1 (rcells p) (by rw [hl])
    (fun j u hu => by rw [Addr.add_mid]; exact block_cell (row_new w (rcells p) 68) (0 + j) u (by simpa using hu)) (rcells_one p) (by unfold maxLen; omega) (by omega) (Nat.zero_le _)
  obtain ⟨A', c', rfl, _⟩ := row_shape h2
  unfold Oper.wp execOp
  simp only [ho, resolve, invoke, builtin, Sem.run_bind, Sem.run_pure, Result.andThen_ok, List.map_toArray, List.map_cons, List.map_nil, hs, hx, hr]
  refine h A' c' w' (Lib.hid h2) (Lib.hid ⟨?_, ?_⟩)
  · exact ⟨h3.os, h3.tape, h3.output, Nat.le_trans (by simp) h3.size, fun k hk hne => (h3.block k (by simp; omega) hne).trans (heap_alloc_old w _ hk)⟩
  · rcases h5 with h5 | h5
    · exact .inl h5
    · exact .inr ⟨_, h5, by simp⟩

theorem step_build41 {ops : Array Oper} {o : Oper} {a : Act} {w : World} {K : Act → World → Prop} {Q : Exit → Act → World → Prop} {E : Prop} (hgd : o.guard = none) (x : Operand) (ho : o.op = .buildSlice 41 1 #[(0, x)])
    (p : Int × List UInt8 × Bool) (hp : p.2.1.length = 128) (hx : a.eval x = .agg (rcells p).toArray)
    (h : K (a.put o.dst (.slice (some ⟨w.heap.size, 0, none⟩) 1 1)) (w.alloc (.cells (rcells p).toArray 68))) : if Region.wanted o (yielded ops a.tmps) = true then Oper.wp Try.prog o a w K Q else E := by
  have hw : Region.wanted o (yielded ops a.tmps) = true := by simp [Region.wanted, hgd]
  rw [if_pos hw]
  unfold Oper.wp execOp
  simp only [ho, List.map_toArray, List.map_cons, List.map_nil, hx, Sem.run_bind, build41 p hp w, Result.andThen_ok]
  exact h
theorem fill_w (x : Int) (V Z : List Value) (c : Value) (hV : V.length = 128) (hZ : Z.length = 128) :
    Instr.fill (fun i => (#[(0, 1), (1, 128), (129, 1)] : Array (Nat × Nat))[i]?) (.int .i64 0 :: (Z ++ [c])).toArray [(0, .int .i64 x), (1, .agg V.toArray)] = some (.int .i64 x :: (V ++ [c])).toArray := by
  have m1 := fill_mid [] [.int .i64 0] (Z ++ [c]) [.int .i64 x] rfl
  have m2 := fill_mid [.int .i64 x] Z [c] V (by rw [hV, hZ])
  have e0 : (Value.agg [Value.int .i64 x].toArray).cells = (Value.int .i64 x).cells := rfl
  have e1 : (Value.agg V.toArray).cells.size = 128 := by show V.toArray.size = 128; simpa using hV
  rw [e0] at m1
  rw [fill_cons _ _ 0 _ _ 0 1 rfl rfl (by simp [Value.cells])]
  simp only [List.length_nil, List.nil_append, List.cons_append] at m1
  rw [m1]
  rw [fill_cons _ _ 1 _ _ 1 128 rfl e1 (by rw [e1]; simp [hZ])]
  simp only [List.length_cons, List.length_nil, Nat.zero_add, List.nil_append, List.cons_append] at m2
  rw [m2]
  rfl
theorem buildW (x : Int) (b : List UInt8) (hb : b.length = 128) (w : World) : (Instr.build 68 #[(0, .int .i64 x), (1, .agg (u8s b).toArray)]).run Try.prog w = .ok (.agg (rcells (x, b, false)).toArray) w := by
  refine run_build w 68 _ _ ?_
  have e : ∀ parts, Try.prog.built 68 parts = Instr.fill (fun i => (#[(0, 1), (1, 128), (129, 1)] : Array (Nat × Nat))[i]?) (.int .i64 0 :: (u8s zeros ++ [.bool false])).toArray parts := fun _ => by kernel_rfl
  rw [e]
  exact fill_w x (u8s b) (u8s zeros) _ (by rw [u8s_length, hb]) (by rw [u8s_length]; rfl)

/-- One more write is loose. -/
theorem RRep.softened {w w6 : World} {S : Nat → Prop} {r T : Nat} {s : Dk} {fz : Int} {V1 V2 V2' : Value} {sl : List (Int × List UInt8 × Bool)} (h : RRep w S r T s fz V1 V2 sl) (x : Int) (b : List UInt8) (hb : b.length = 128)
    (hd6 : w6.heap[r]? = some (.cells (dref V1 V2' s.off fz).toArray 43 (0, 0)))
    (hr6 : w6.ownsRow 0 68 130 V2' (s.loose.length + 1) ((s.loose.map softW).flatMap rcells ++ rcells (x, b, false))) (hl6 : V2'.ownBlock = V2.ownBlock ∨ ∃ g, V2'.ownBlock = some g ∧ w.heap.size ≤ g)
    (hk6 : ∀ k, k < w.heap.size → k ≠ r → some k ≠ V2.ownBlock → w6.heap[k]? = w.heap[k]?) (hz6 : w.heap.size ≤ w6.heap.size) :
    RRep w6 (plus S w w6) r (T + 1) { s with loose := s.loose ++ [(x, b)] } fz V1 V2' sl := by
  obtain ⟨a1, a2⟩ := h.apart
  have hm := h.many
  refine ⟨hd6, h.fuse, h.bound, h.sure, h.uniq, h.slen, ?_, rrow_kept h.row1 fun g hg => hk6 g (h.row1.lt g hg).2 (a1 g hg) (fun e => h.ap g hg e.symm), ?_, ?_, by simp; omega, ?_, ?_⟩
  · intro p hp
    rcases List.mem_append.1 hp with hp | hp
    · exact h.len p hp
    · simp at hp; subst hp; exact hb
  · simp only [List.length_append, List.length_cons, List.length_nil, Nat.zero_add, List.map_append, List.map_cons, List.map_nil, List.flatMap_append, List.flatMap_cons, List.flatMap_nil, List.append_nil]
    exact hr6
  · intro g hg e
    rcases hl6 with h0 | ⟨g', h0, h1⟩
    · exact h.ap g hg (h0 ▸ e)
    · rw [h0] at e
      injection e with e
      have := (h.row1.lt g hg).2
      omega
  · rintro k (rfl | hk | hk)
    · exact .inl (h.own _ (.inl rfl))
    · exact .inl (h.own _ (.inr (.inl hk)))
    · rcases hl6 with h0 | ⟨g', h0, h1⟩
      · exact .inl (h.own _ (.inr (.inr (h0 ▸ hk))))
      · rw [h0] at hk
        injection hk with hk
        subst hk
        exact .inr ⟨h1, (hr6.lt _ h0).2⟩
  · rintro k (hk | hk)
    · exact Nat.lt_of_lt_of_le (h.lt k hk) hz6
    · exact hk.2
theorem write_end {w wA w5 w6 : World} {S : Nat → Prop} {r T : Nat} {s : Dk} {fz : Int} {V1 V2 V2' : Value} {sl : List (Int × List UInt8 × Bool)} (hA : Turns S w wA) (h : RRep wA S r T s fz V1 V2 sl) {x : Int} {b : List UInt8} (hb : b.length = 128)
    (M5 : w5.ownsRow 0 68 130 V2' (s.loose.length + 1) ((s.loose.map softW).flatMap rcells ++ rcells (x, b, false))) (T5 : wA.grownBy w5 V2.ownBlock ∧ (V2'.ownBlock = V2.ownBlock ∨ ∃ g, V2'.ownBlock = some g ∧ wA.heap.size ≤ g))
    (G6 : w6.heap[r]? = some (.cells (dref V1 V2' s.off fz).toArray 43 (0, 0)) ∧ w5.grownBy w6 (some r)) :
    RefIs w6 (plus S wA w6) r (T + 1) { s with loose := s.loose ++ [(x, b)] } ∧ Own w S w6 (plus S wA w6) := by
  have z5 := T5.1.size
  have z6 := G6.2.size
  have hlt := h.lt r (h.own r (.inl rfl))
  have hne : ∀ g, V2'.ownBlock = some g → g ≠ r := by
    intro g hg e
    subst e
    rcases T5.2 with h0 | ⟨g', h0, h1⟩
    · exact h.apart.2 g (by rw [← h0, hg]) rfl
    · rw [h0] at hg
      injection hg with hg
      omega
  refine ⟨⟨_, _, _, _, h.softened x b hb G6.1 (rrow_kept M5 fun g hg => G6.2.block g (M5.lt g hg).2 (fun e => hne g hg (by injection e))) T5.2
    (fun k h1 h2 h4 => (G6.2.block k (by omega) (fun e => h2 (by injection e))).trans (T5.1.block k h1 h4)) (by omega)⟩, ?_, ?_⟩
  · refine (hA.grown T5.1 ?_).grown G6.2 ?_
    · rintro g e; exact .inl (h.own _ (by simp [e]))
    · rintro g e; cases e; exact .inl (h.own _ (.inl rfl))
  · rintro k (hk | hk)
    · exact .inl hk
    · exact .inr (Nat.le_trans hA.size hk.1)
theorem yields68 {o : Oper} {a : Act} (x y : Operand) (ho : o.op = .build 68 #[(0, x), (1, y)]) (v : Int) (b : List UInt8) (hb : b.length = 128) (hx : a.eval x = .int .i64 v) (hy : a.eval y = .agg (u8s b).toArray) (W : World) :
    (execOp a.eval o).run Try.prog W = .ok (.value (.agg (rcells (v, b, false)).toArray)) W := by
  unfold execOp
  simp only [ho, List.map_toArray, List.map_cons, List.map_nil, hx, hy, Sem.run_bind, buildW v b hb W, Result.andThen_ok]
  rfl
theorem burn_two (s : Dk) : s.burn.2 = 0 ∨ s.burn.2 = 8 := by
  unfold Dk.burn
  split
  · exact .inl rfl
  · exact .inr rfl
  · exact .inl rfl
theorem two_ne : (decide ((0 : Int) ≠ 0)) = false ∧ (decide ((8 : Int) ≠ 0)) = true := by decide

set_option maxHeartbeats 4000000 in
set_option maxRecDepth 100000 in
theorem refWrite_any {w : World} {S : Nat → Prop} {r T : Nat} {s : Dk} (h : RefIs w S r T s) (x : Int) (b : List UInt8) (hb : b.length = 128) (hT : T < 1000000000) :
    Calls Try.prog 16 #[.pointer (some ⟨r, 0, none⟩), .int .i64 x, .agg (u8s b).toArray] w fun E w' => E = .returned (.int .i64 (s.write x b).2) ∧ ∃ S', RefIs w' S' r (T + 1) (s.write x b).1 ∧ Own w S w' S' := by
  have HTA : Hid (Turns S w (w.alloc (.cells (u8s b).toArray 33))) := Lib.hid ((Turns.refl S w).alloc _)
  have HA := h.turns ((Turns.refl (fun _ => False) w).alloc (.cells (u8s b).toArray 33)) (fun _ _ h => h)
  obtain ⟨fz, V1, V2, sl, h1⟩ := HA
  obtain ⟨A2, ca2, rfl, hs2⟩ := row_shape h1.row2
  obtain ⟨c0, c1, c2, c3⟩ := h1.cells
  have HR := Lib.hid h1
  have HB := Lib.hid hb
  have HMORE : Hid (RefIs (w.alloc (.cells (u8s b).toArray 33)) S r (T + 1) s) := Lib.hid ⟨fz, V1, _, sl, h1.hd, h1.fuse, h1.bound, h1.sure, h1.uniq, h1.slen, h1.len, h1.row1, h1.row2, h1.ap, Nat.le_succ_of_le h1.many, h1.own, h1.lt⟩
  have HI : Hid ((Try.prog.info? 33).map (·.size) = some (u8s b).length) := Lib.hid (by rw [u8s_length, hb]; exact Try.size33)
  have HQ : Hid (((w.alloc (.cells (u8s b).toArray 33)).drewN 1).rangeAt w.heap.size 0 (u8s b)) := Lib.hid (range_block (w := (w.alloc (.cells (u8s b).toArray 33)).drewN 1) (row_new w (u8s b) 33) 0 _ (fun j v hv => by rw [Nat.zero_add]; exact hv))
  have hbw := buildW x b hb
  clear h h1 c0 c3 hs2
  by_cases ho : s.off = true
  · have hrd : s.write x b = (s, 8) := by
      have hr1 : s.refuses x = 8 := by unfold Dk.refuses; rw [ho]; rfl
      unfold Dk.write; rw [hr1]; rfl
    rw [hrd]
    rw [ho] at c2
    clear hrd hbw
    go_enter Try.func16, Try.ntmps16
    go_wp2
    go_ret
    exact ⟨rfl, S, HMORE.out, Own.same HTA.out⟩
  have ho' : s.off = false := by simpa using ho
  rw [ho'] at c2
  by_cases hx : x < 0 ∨ 32768 ≤ x
  · have hr1 : s.refuses x = 1 := by
      unfold Dk.refuses
      rw [ho']
      simp only [Bool.false_eq_true, if_false]
      rw [if_pos hx]
    have hrd : s.write x b = (s, 1) := by unfold Dk.write; rw [hr1]; rfl
    rw [hrd]
    clear hrd hr1 hbw
    by_cases hx0 : x < 0
    all_goals
      go_enter Try.func16, Try.ntmps16
      go_wp2
      go_ret
      exact ⟨rfl, S, HMORE.out, Own.same HTA.out⟩
  obtain ⟨s', hs'⟩ : ∃ s' : Dk, s' = { s with loose := s.loose ++ [(x, b)] } := ⟨_, rfl⟩
  have hrd : s.write x b = s'.burn := by
    have hr0 : s.refuses x = 0 := by
      unfold Dk.refuses
      rw [ho']
      simp only [Bool.false_eq_true, if_false]
      rw [if_neg hx]
    unfold Dk.write
    rw [hr0, hs']
    rfl
  rw [hrd]
  have h2 := burn_two s'
  obtain ⟨⟨s2, e⟩, hse⟩ : ∃ p, p = s'.burn := ⟨_, rfl⟩
  rw [← hse] at h2 ⊢
  simp only at h2 ⊢
  have HE2 := Lib.hid h2
  have HSE := Lib.hid hse
  rw [not_or] at hx
  obtain ⟨hx1, hx2⟩ := hx
  have HS := Lib.hid hs'
  generalize hwA : w.alloc (.cells (u8s b).toArray 33) = wA at *
  have HN := Lib.hid (HR.out.apart.2)
  have HLT : Hid (r < wA.heap.size) := Lib.hid (HR.out.lt r (HR.out.own r (.inl rfl)))
  have HM : Hid (s.loose.length < 100000000000) := Lib.hid (by have := HR.out.many; omega)
  have HO : Hid (wA.ownsRow 0 68 130 (.slice A2 s.loose.length ca2) s.loose.length ((s.loose.map softW).flatMap rcells)) := Lib.hid HR.out.row2
  have HD : Hid (wA.heap[r]? = some (.cells (dref V1 (.slice A2 s.loose.length ca2) s.off fz).toArray 43 (0, 0))) := Lib.hid HR.out.hd
  clear HMORE hrd hs' h2 hse
  go_enter Try.func16, Try.ntmps16
  go_wp2
  clear hwA c2
  have k1w : (wA.drewN 1).cell? ⟨r, 1, none⟩ = some (.slice A2 s.loose.length ca2) := c1
  have k1' : ((wA.drewN 1).alloc (.cells (rcells (x, b, false)).toArray 68)).cell? ⟨r, 1, none⟩ = some (.slice A2 s.loose.length ca2) := by
    rw [World.cell?_alloc_lt _ _ _ (show r < (wA.drewN 1).heap.size from HLT.out)]; exact c1
  clear c1
  refine wp_region_any (by kernel_rfl) ?_
  change wpAny _ _ _ _ _ _ _ (wA.drewN 1)
  refine wpAny_take (i := 0) (oi := { dst := some 17, op := Op.move (Operand.tmp 0), type := 27, pos := "ref.go:102", after := #[], guard := none }) (v := .pointer (some ⟨r, 0, none⟩)) rfl (by kernel_rfl) (by kernel_rfl) (by kernel_rfl) (fun _ _ _ h => h) (Or.inl ⟨by kernel_rfl, fun W => by go_simp⟩) ?_
  simp only [Act.put, List.setIfInBounds_toArray, List.set_cons_zero, List.set_cons_succ]
  refine wpAny_take (i := 1) (oi := { dst := some 18, op := Op.move (Operand.tmp 0), type := 27, pos := "ref.go:102", after := #[], guard := none }) (v := .pointer (some ⟨r, 0, none⟩)) rfl (by kernel_rfl) (by kernel_rfl) (by kernel_rfl) (fun _ _ _ h => h) (Or.inl ⟨by kernel_rfl, fun W => by go_simp⟩) ?_
  simp only [Act.put, List.setIfInBounds_toArray, List.set_cons_zero, List.set_cons_succ]
  refine wpAny_take (i := 2) (oi := { dst := some 19, op := Op.nilCheck (Operand.tmp 18), type := 0, pos := "ref.go:102", after := #[{ on := 1, ground := Ground.data }], guard := none }) (v := .pointer (some ⟨r, 0, none⟩)) rfl (by kernel_rfl) (by kernel_rfl) (by kernel_rfl) (fun _ _ _ h => h) (Or.inl ⟨by kernel_rfl, fun W => by go_simp⟩) ?_
  simp only [Act.put, List.setIfInBounds_toArray, List.set_cons_zero, List.set_cons_succ]
  refine wpAny_take (i := 3) (oi := { dst := some 20, op := Op.fieldAddr 43 (Operand.tmp 19) 1, type := 0, pos := "ref.go:102", after := #[{ on := 2, ground := Ground.data }], guard := none }) (v := .pointer (some ⟨r, 1, none⟩)) rfl (by kernel_rfl) (by kernel_rfl) (by kernel_rfl) (fun _ _ _ h => h) (Or.inl ⟨by kernel_rfl, fun W => by go_simp⟩) ?_
  simp only [Act.put, List.setIfInBounds_toArray, List.set_cons_zero, List.set_cons_succ]
  refine wpAny_take (i := 5) (oi := { dst := some 22, op := Op.move (Operand.tmp 1), type := 3, pos := "ref.go:102", after := #[], guard := none }) (v := .int .i64 x) rfl (by kernel_rfl) (by kernel_rfl) (by kernel_rfl) (fun _ _ _ h => h) (Or.inl ⟨by kernel_rfl, fun W => by go_simp⟩) ?_
  simp only [Act.put, List.setIfInBounds_toArray, List.set_cons_zero, List.set_cons_succ]
  refine wpAny_ready (rs := [4, 6]) (by kernel_rfl) (by simp) ?_
  refine (AllReady.cons (o := { dst := some 21, op := Op.load 41 (Operand.tmp 20), type := 41, pos := "ref.go:102", after := #[{ on := 3, ground := Ground.data }], guard := none }) rfl (fun K hK => ?_) (AllReady.cons (o := { dst := some 23, op := Op.load 33 (Operand.tmp 5), type := 33, pos := "ref.go:102", after := #[], guard := none }) rfl (fun K hK => ?_) AllReady.nil))
  · go_simp
    refine hK _ _ ?_
    clear hK K
    try simp only [Act.put, List.setIfInBounds_toArray, List.set_cons_zero, List.set_cons_succ]
    refine wpAny_ready (rs := [6]) (by kernel_rfl) (by simp) ?_
    refine (AllReady.cons (o := { dst := some 23, op := Op.load 33 (Operand.tmp 5), type := 33, pos := "ref.go:102", after := #[], guard := none }) rfl (fun K hK => ?_) AllReady.nil)
    refine step_load_cells rfl 33 (.tmp 5) rfl w.heap.size 0 rfl (u8s b) _ HQ.out Try.underlying33 rfl HI.out ?_
    refine hK _ _ ?_
    clear hK K
    try simp only [Act.put, List.setIfInBounds_toArray, List.set_cons_zero, List.set_cons_succ]
    refine wpAny_take (i := 7) (oi := { dst := some 24, op := Op.build 68 #[(0, Operand.tmp 22), (1, Operand.tmp 23)], type := 68, pos := "ref.go:102", after := #[{ on := 5, ground := Ground.data }, { on := 6, ground := Ground.data }], guard := none }) (v := .agg (rcells (x, b, false)).toArray) rfl (by kernel_rfl) (by kernel_rfl) (by kernel_rfl) (fun _ _ _ h => h) (Or.inl ⟨by kernel_rfl, fun W => by exact yields68 (.tmp 22) (.tmp 23) rfl x b hb rfl rfl W⟩) ?_
    simp only [Act.put, List.setIfInBounds_toArray, List.set_cons_zero, List.set_cons_succ]
    refine wpAny_ready (rs := [8]) (by kernel_rfl) (by simp) ?_
    refine (AllReady.cons (o := { dst := some 25, op := Op.buildSlice 41 1 #[(0, Operand.tmp 24)], type := 41, pos := "ref.go:102", after := #[{ on := 7, ground := Ground.data }], guard := none }) rfl (fun K hK => ?_) AllReady.nil)
    refine step_build41 rfl (.tmp 24) rfl (x, b, false) HB.out rfl ?_
    refine hK _ _ ?_
    clear hK K
    try simp only [Act.put, List.setIfInBounds_toArray, List.set_cons_zero, List.set_cons_succ]
    refine wpAny_ready (rs := [9]) (by kernel_rfl) (by simp) ?_
    refine (AllReady.cons (o := { dst := some 26, op := Op.call { callee := Callee.builtin Builtin.append, args := #[Operand.tmp 21, Operand.tmp 25], argTypes := #[41, 41] }, type := 41, pos := "ref.go:102", after := #[{ on := 4, ground := Ground.data }, { on := 8, ground := Ground.data }], guard := none }) rfl (fun K hK => ?_) AllReady.nil)
    refine step_append_r rfl (.tmp 21) (.tmp 25) rfl s.loose.length (.slice A2 s.loose.length ca2) ((s.loose.map softW).flatMap rcells) (x, b, false) HB.out rfl rfl HO.out HM.out ?_
    intro A' c' w5 M5 T5
    refine hK _ _ ?_
    clear hK K
    simp only [Act.put, List.setIfInBounds_toArray, List.set_cons_zero, List.set_cons_succ]
    have H5 : w5.heap[r]? = some (.cells (dref V1 (.slice A2 s.loose.length ca2) s.off fz).toArray 43 (0, 0)) := (T5.out.1.block r HLT.out (fun e => HN.out r e.symm rfl)).trans HD.out
    refine wpAny_take (i := 10) (oi := { dst := some 27, op := Op.nilCheck (Operand.tmp 17), type := 0, pos := "ref.go:102", after := #[{ on := 0, ground := Ground.data }, { on := 0, ground := Ground.phase }, { on := 1, ground := Ground.phase }, { on := 2, ground := Ground.phase }, { on := 3, ground := Ground.phase }, { on := 4, ground := Ground.phase }, { on := 5, ground := Ground.phase }, { on := 6, ground := Ground.phase }, { on := 7, ground := Ground.phase }, { on := 8, ground := Ground.phase }, { on := 9, ground := Ground.phase }], guard := none }) (v := .pointer (some ⟨r, 0, none⟩)) rfl (by kernel_rfl) (by kernel_rfl) (by kernel_rfl) (fun _ _ _ h => h) (Or.inl ⟨by kernel_rfl, fun W => by go_simp⟩) ?_
    simp only [Act.put, List.setIfInBounds_toArray, List.set_cons_zero, List.set_cons_succ]
    refine wpAny_take (i := 11) (oi := { dst := some 28, op := Op.fieldAddr 43 (Operand.tmp 27) 1, type := 0, pos := "ref.go:102", after := #[{ on := 10, ground := Ground.data }, { on := 0, ground := Ground.phase }, { on := 1, ground := Ground.phase }, { on := 2, ground := Ground.phase }, { on := 3, ground := Ground.phase }, { on := 4, ground := Ground.phase }, { on := 5, ground := Ground.phase }, { on := 6, ground := Ground.phase }, { on := 7, ground := Ground.phase }, { on := 8, ground := Ground.phase }, { on := 9, ground := Ground.phase }], guard := none }) (v := .pointer (some ⟨r, 1, none⟩)) rfl (by kernel_rfl) (by kernel_rfl) (by kernel_rfl) (fun _ _ _ h => h) (Or.inl ⟨by kernel_rfl, fun W => by go_simp⟩) ?_
    simp only [Act.put, List.setIfInBounds_toArray, List.set_cons_zero, List.set_cons_succ]
    refine wpAny_ready (rs := [12]) (by kernel_rfl) (by simp) ?_
    refine (AllReady.cons (o := { dst := none, op := Op.store 41 (Operand.tmp 28) (Operand.tmp 26), type := 0, pos := "ref.go:102", after := #[{ on := 11, ground := Ground.data }, { on := 9, ground := Ground.data }, { on := 9, ground := Ground.chain }, { on := 0, ground := Ground.phase }, { on := 1, ground := Ground.phase }, { on := 2, ground := Ground.phase }, { on := 3, ground := Ground.phase }, { on := 4, ground := Ground.phase }, { on := 5, ground := Ground.phase }, { on := 6, ground := Ground.phase }, { on := 7, ground := Ground.phase }, { on := 8, ground := Ground.phase }, { on := 9, ground := Ground.phase }], guard := none }) rfl (fun K hK => ?_) AllReady.nil)
    refine step_store_at rfl 41 (.tmp 28) (.tmp 26) rfl r 1 (dref V1 (.slice A2 s.loose.length ca2) s.off fz) 43 H5 (show 1 < 4 by omega) (.slice A' (s.loose.length + 1) c') rfl rfl rfl rfl Try.size41 ?_
    intro w6 G6
    refine hK _ _ ?_
    clear hK K
    refine wpAny_done (by kernel_rfl) ?_ _
    obtain ⟨hend, hown⟩ := write_end HTA.out HR.out HB.out M5.out ⟨gb_drew T5.out.1, T5.out.2⟩ G6.out
    rw [← HS.out] at hend
    have hb6 := burns_any hend
    rw [← HSE.out] at hb6
    simp only at hb6
    have HB6 := Lib.hid hb6
    have HW6 := Lib.hid hown
    clear hend hown k1w k1' hbw hb6
    clear HSE HS
    rcases HE2.out with rfl | rfl
    all_goals
      try rw [two_ne.1] at HB6
      try rw [two_ne.2] at HB6
      go_wp2_with fail
      refine HB6.out.mono ?_
      rintro E w7 ⟨rfl, h7, t7⟩
      go_wp2
      go_ret
      exact ⟨rfl, _, h7, HW6.out.trans (Own.same t7)⟩
  · refine step_load_cells rfl 33 (.tmp 5) rfl w.heap.size 0 rfl (u8s b) _ HQ.out Try.underlying33 rfl HI.out ?_
    refine hK _ _ ?_
    clear hK K
    try simp only [Act.put, List.setIfInBounds_toArray, List.set_cons_zero, List.set_cons_succ]
    refine wpAny_take (i := 7) (oi := { dst := some 24, op := Op.build 68 #[(0, Operand.tmp 22), (1, Operand.tmp 23)], type := 68, pos := "ref.go:102", after := #[{ on := 5, ground := Ground.data }, { on := 6, ground := Ground.data }], guard := none }) (v := .agg (rcells (x, b, false)).toArray) rfl (by kernel_rfl) (by kernel_rfl) (by kernel_rfl) (fun _ _ _ h => h) (Or.inl ⟨by kernel_rfl, fun W => by exact yields68 (.tmp 22) (.tmp 23) rfl x b hb rfl rfl W⟩) ?_
    simp only [Act.put, List.setIfInBounds_toArray, List.set_cons_zero, List.set_cons_succ]
    refine wpAny_ready (rs := [4, 8]) (by kernel_rfl) (by simp) ?_
    refine (AllReady.cons (o := { dst := some 21, op := Op.load 41 (Operand.tmp 20), type := 41, pos := "ref.go:102", after := #[{ on := 3, ground := Ground.data }], guard := none }) rfl (fun K hK => ?_) (AllReady.cons (o := { dst := some 25, op := Op.buildSlice 41 1 #[(0, Operand.tmp 24)], type := 41, pos := "ref.go:102", after := #[{ on := 7, ground := Ground.data }], guard := none }) rfl (fun K hK => ?_) AllReady.nil))
    · go_simp
      refine hK _ _ ?_
      clear hK K
      try simp only [Act.put, List.setIfInBounds_toArray, List.set_cons_zero, List.set_cons_succ]
      refine wpAny_ready (rs := [8]) (by kernel_rfl) (by simp) ?_
      refine (AllReady.cons (o := { dst := some 25, op := Op.buildSlice 41 1 #[(0, Operand.tmp 24)], type := 41, pos := "ref.go:102", after := #[{ on := 7, ground := Ground.data }], guard := none }) rfl (fun K hK => ?_) AllReady.nil)
      refine step_build41 rfl (.tmp 24) rfl (x, b, false) HB.out rfl ?_
      refine hK _ _ ?_
      clear hK K
      try simp only [Act.put, List.setIfInBounds_toArray, List.set_cons_zero, List.set_cons_succ]
      refine wpAny_ready (rs := [9]) (by kernel_rfl) (by simp) ?_
      refine (AllReady.cons (o := { dst := some 26, op := Op.call { callee := Callee.builtin Builtin.append, args := #[Operand.tmp 21, Operand.tmp 25], argTypes := #[41, 41] }, type := 41, pos := "ref.go:102", after := #[{ on := 4, ground := Ground.data }, { on := 8, ground := Ground.data }], guard := none }) rfl (fun K hK => ?_) AllReady.nil)
      refine step_append_r rfl (.tmp 21) (.tmp 25) rfl s.loose.length (.slice A2 s.loose.length ca2) ((s.loose.map softW).flatMap rcells) (x, b, false) HB.out rfl rfl HO.out HM.out ?_
      intro A' c' w5 M5 T5
      refine hK _ _ ?_
      clear hK K
      simp only [Act.put, List.setIfInBounds_toArray, List.set_cons_zero, List.set_cons_succ]
      have H5 : w5.heap[r]? = some (.cells (dref V1 (.slice A2 s.loose.length ca2) s.off fz).toArray 43 (0, 0)) := (T5.out.1.block r HLT.out (fun e => HN.out r e.symm rfl)).trans HD.out
      refine wpAny_take (i := 10) (oi := { dst := some 27, op := Op.nilCheck (Operand.tmp 17), type := 0, pos := "ref.go:102", after := #[{ on := 0, ground := Ground.data }, { on := 0, ground := Ground.phase }, { on := 1, ground := Ground.phase }, { on := 2, ground := Ground.phase }, { on := 3, ground := Ground.phase }, { on := 4, ground := Ground.phase }, { on := 5, ground := Ground.phase }, { on := 6, ground := Ground.phase }, { on := 7, ground := Ground.phase }, { on := 8, ground := Ground.phase }, { on := 9, ground := Ground.phase }], guard := none }) (v := .pointer (some ⟨r, 0, none⟩)) rfl (by kernel_rfl) (by kernel_rfl) (by kernel_rfl) (fun _ _ _ h => h) (Or.inl ⟨by kernel_rfl, fun W => by go_simp⟩) ?_
      simp only [Act.put, List.setIfInBounds_toArray, List.set_cons_zero, List.set_cons_succ]
      refine wpAny_take (i := 11) (oi := { dst := some 28, op := Op.fieldAddr 43 (Operand.tmp 27) 1, type := 0, pos := "ref.go:102", after := #[{ on := 10, ground := Ground.data }, { on := 0, ground := Ground.phase }, { on := 1, ground := Ground.phase }, { on := 2, ground := Ground.phase }, { on := 3, ground := Ground.phase }, { on := 4, ground := Ground.phase }, { on := 5, ground := Ground.phase }, { on := 6, ground := Ground.phase }, { on := 7, ground := Ground.phase }, { on := 8, ground := Ground.phase }, { on := 9, ground := Ground.phase }], guard := none }) (v := .pointer (some ⟨r, 1, none⟩)) rfl (by kernel_rfl) (by kernel_rfl) (by kernel_rfl) (fun _ _ _ h => h) (Or.inl ⟨by kernel_rfl, fun W => by go_simp⟩) ?_
      simp only [Act.put, List.setIfInBounds_toArray, List.set_cons_zero, List.set_cons_succ]
      refine wpAny_ready (rs := [12]) (by kernel_rfl) (by simp) ?_
      refine (AllReady.cons (o := { dst := none, op := Op.store 41 (Operand.tmp 28) (Operand.tmp 26), type := 0, pos := "ref.go:102", after := #[{ on := 11, ground := Ground.data }, { on := 9, ground := Ground.data }, { on := 9, ground := Ground.chain }, { on := 0, ground := Ground.phase }, { on := 1, ground := Ground.phase }, { on := 2, ground := Ground.phase }, { on := 3, ground := Ground.phase }, { on := 4, ground := Ground.phase }, { on := 5, ground := Ground.phase }, { on := 6, ground := Ground.phase }, { on := 7, ground := Ground.phase }, { on := 8, ground := Ground.phase }, { on := 9, ground := Ground.phase }], guard := none }) rfl (fun K hK => ?_) AllReady.nil)
      refine step_store_at rfl 41 (.tmp 28) (.tmp 26) rfl r 1 (dref V1 (.slice A2 s.loose.length ca2) s.off fz) 43 H5 (show 1 < 4 by omega) (.slice A' (s.loose.length + 1) c') rfl rfl rfl rfl Try.size41 ?_
      intro w6 G6
      refine hK _ _ ?_
      clear hK K
      refine wpAny_done (by kernel_rfl) ?_ _
      obtain ⟨hend, hown⟩ := write_end HTA.out HR.out HB.out M5.out ⟨gb_drew T5.out.1, T5.out.2⟩ G6.out
      rw [← HS.out] at hend
      have hb6 := burns_any hend
      rw [← HSE.out] at hb6
      simp only at hb6
      have HB6 := Lib.hid hb6
      have HW6 := Lib.hid hown
      clear hend hown k1w k1' hbw hb6
      clear HSE HS
      rcases HE2.out with rfl | rfl
      all_goals
        try rw [two_ne.1] at HB6
        try rw [two_ne.2] at HB6
        go_wp2_with fail
        refine HB6.out.mono ?_
        rintro E w7 ⟨rfl, h7, t7⟩
        go_wp2
        go_ret
        exact ⟨rfl, _, h7, HW6.out.trans (Own.same t7)⟩
    · refine step_build41 rfl (.tmp 24) rfl (x, b, false) HB.out rfl ?_
      refine hK _ _ ?_
      clear hK K
      try simp only [Act.put, List.setIfInBounds_toArray, List.set_cons_zero, List.set_cons_succ]
      refine wpAny_ready (rs := [4]) (by kernel_rfl) (by simp) ?_
      refine (AllReady.cons (o := { dst := some 21, op := Op.load 41 (Operand.tmp 20), type := 41, pos := "ref.go:102", after := #[{ on := 3, ground := Ground.data }], guard := none }) rfl (fun K hK => ?_) AllReady.nil)
      go_simp
      refine hK _ _ ?_
      clear hK K
      try simp only [Act.put, List.setIfInBounds_toArray, List.set_cons_zero, List.set_cons_succ]
      refine wpAny_ready (rs := [9]) (by kernel_rfl) (by simp) ?_
      refine (AllReady.cons (o := { dst := some 26, op := Op.call { callee := Callee.builtin Builtin.append, args := #[Operand.tmp 21, Operand.tmp 25], argTypes := #[41, 41] }, type := 41, pos := "ref.go:102", after := #[{ on := 4, ground := Ground.data }, { on := 8, ground := Ground.data }], guard := none }) rfl (fun K hK => ?_) AllReady.nil)
      refine step_append_r rfl (.tmp 21) (.tmp 25) rfl s.loose.length (.slice A2 s.loose.length ca2) ((s.loose.map softW).flatMap rcells) (x, b, false) HB.out rfl rfl HO.out HM.out ?_
      intro A' c' w5 M5 T5
      refine hK _ _ ?_
      clear hK K
      simp only [Act.put, List.setIfInBounds_toArray, List.set_cons_zero, List.set_cons_succ]
      have H5 : w5.heap[r]? = some (.cells (dref V1 (.slice A2 s.loose.length ca2) s.off fz).toArray 43 (0, 0)) := (T5.out.1.block r HLT.out (fun e => HN.out r e.symm rfl)).trans HD.out
      refine wpAny_take (i := 10) (oi := { dst := some 27, op := Op.nilCheck (Operand.tmp 17), type := 0, pos := "ref.go:102", after := #[{ on := 0, ground := Ground.data }, { on := 0, ground := Ground.phase }, { on := 1, ground := Ground.phase }, { on := 2, ground := Ground.phase }, { on := 3, ground := Ground.phase }, { on := 4, ground := Ground.phase }, { on := 5, ground := Ground.phase }, { on := 6, ground := Ground.phase }, { on := 7, ground := Ground.phase }, { on := 8, ground := Ground.phase }, { on := 9, ground := Ground.phase }], guard := none }) (v := .pointer (some ⟨r, 0, none⟩)) rfl (by kernel_rfl) (by kernel_rfl) (by kernel_rfl) (fun _ _ _ h => h) (Or.inl ⟨by kernel_rfl, fun W => by go_simp⟩) ?_
      simp only [Act.put, List.setIfInBounds_toArray, List.set_cons_zero, List.set_cons_succ]
      refine wpAny_take (i := 11) (oi := { dst := some 28, op := Op.fieldAddr 43 (Operand.tmp 27) 1, type := 0, pos := "ref.go:102", after := #[{ on := 10, ground := Ground.data }, { on := 0, ground := Ground.phase }, { on := 1, ground := Ground.phase }, { on := 2, ground := Ground.phase }, { on := 3, ground := Ground.phase }, { on := 4, ground := Ground.phase }, { on := 5, ground := Ground.phase }, { on := 6, ground := Ground.phase }, { on := 7, ground := Ground.phase }, { on := 8, ground := Ground.phase }, { on := 9, ground := Ground.phase }], guard := none }) (v := .pointer (some ⟨r, 1, none⟩)) rfl (by kernel_rfl) (by kernel_rfl) (by kernel_rfl) (fun _ _ _ h => h) (Or.inl ⟨by kernel_rfl, fun W => by go_simp⟩) ?_
      simp only [Act.put, List.setIfInBounds_toArray, List.set_cons_zero, List.set_cons_succ]
      refine wpAny_ready (rs := [12]) (by kernel_rfl) (by simp) ?_
      refine (AllReady.cons (o := { dst := none, op := Op.store 41 (Operand.tmp 28) (Operand.tmp 26), type := 0, pos := "ref.go:102", after := #[{ on := 11, ground := Ground.data }, { on := 9, ground := Ground.data }, { on := 9, ground := Ground.chain }, { on := 0, ground := Ground.phase }, { on := 1, ground := Ground.phase }, { on := 2, ground := Ground.phase }, { on := 3, ground := Ground.phase }, { on := 4, ground := Ground.phase }, { on := 5, ground := Ground.phase }, { on := 6, ground := Ground.phase }, { on := 7, ground := Ground.phase }, { on := 8, ground := Ground.phase }, { on := 9, ground := Ground.phase }], guard := none }) rfl (fun K hK => ?_) AllReady.nil)
      refine step_store_at rfl 41 (.tmp 28) (.tmp 26) rfl r 1 (dref V1 (.slice A2 s.loose.length ca2) s.off fz) 43 H5 (show 1 < 4 by omega) (.slice A' (s.loose.length + 1) c') rfl rfl rfl rfl Try.size41 ?_
      intro w6 G6
      refine hK _ _ ?_
      clear hK K
      refine wpAny_done (by kernel_rfl) ?_ _
      obtain ⟨hend, hown⟩ := write_end HTA.out HR.out HB.out M5.out ⟨gb_drew T5.out.1, T5.out.2⟩ G6.out
      rw [← HS.out] at hend
      have hb6 := burns_any hend
      rw [← HSE.out] at hb6
      simp only at hb6
      have HB6 := Lib.hid hb6
      have HW6 := Lib.hid hown
      clear hend hown k1w k1' hbw hb6
      clear HSE HS
      rcases HE2.out with rfl | rfl
      all_goals
        try rw [two_ne.1] at HB6
        try rw [two_ne.2] at HB6
        go_wp2_with fail
        refine HB6.out.mono ?_
        rintro E w7 ⟨rfl, h7, t7⟩
        go_wp2
        go_ret
        exact ⟨rfl, _, h7, HW6.out.trans (Own.same t7)⟩
end Go.Proofs.Ythbbghkefekhfaa
