/-
  What is proved: a slice of crashes that came in reads as such; a row of strings of the law's own. Conditions as stated.
-/
import Derived.Test.YtepjfkmbmcfnoaaDoorGi
namespace Go.Proofs.YtepjfkmbmcfnoaaDoor
open Go.RowKit Go.ChangeShapes Go.WideShapes Go.Deep
set_option maxRecDepth 100000

theorem add_plain2 (b o i j : Nat) : (((⟨b, o, none⟩ : Addr).add i).add j) = ⟨b, o + i + j, none⟩ := by rw [Addr.add_lit, Addr.add_lit]
/-- A crash of the law's: the bytes, the number, the picks (where they lie, what they are). -/
structure Crs where
  adr : Option Addr
  room : Nat
  bs : List UInt8
  num : UInt8
  padr : Option Addr
  proom : Nat
  picks : List UInt8
instance : Inhabited Crs := ⟨⟨none, 0, [], 0, none, 0, []⟩⟩
def Crs.cells (x : Crs) : List Value := [.slice x.adr x.bs.length x.room, .int .u8 (x.num.toNat : Int), .slice x.padr x.picks.length x.proom]
def Crs.ok (w : World) (x : Crs) : Prop := Rd (fun _ => True) w x.adr x.bs.length x.bs ∧ Sl x.adr x.bs.length x.room ∧ Rd (fun _ => True) w x.padr x.picks.length x.picks ∧ Sl x.padr x.picks.length x.proom
def Crss (w : World) (A : Option Addr) (n : Nat) (xs : List Crs) : Prop :=
  xs.length = n ∧ (0 < n → ∃ b o, A = some ⟨b, o, none⟩ ∧ b < w.heap.size ∧ ∀ (j : Nat) (x : Crs), xs[j]? = some x → w.rangeAt b (o + j * 3) x.cells ∧ x.ok w)
theorem Tryd.cells31 : Tryd.prog.cellsOf 31 = 3 := by kernel_rfl
theorem Tryd.cells5 : Tryd.prog.cellsOf 5 = 1 := by kernel_rfl
theorem crash_of {H : Type} {enc : TypeId × Value → H} {W : World} {base : Nat} {spare : Nat → Bool} {held : Bool} {n : Nat} {cs : List Value} {y : DataW H × List MemPlace}
    (h : DataW.trod enc Tryd.prog W base spare held n 31 cs = some y) : ∃ x : Crs, cs = x.cells ∧ x.ok W := by
  obtain ⟨ys, m, _, _, hlen, hys, hf⟩ := DataW.trod_struct Tryd.underlying31 h
  rw [Tryd.cells31] at hlen
  obtain ⟨c0, c1, c2, rfl⟩ : ∃ c0 c1 c2, cs = [c0, c1, c2] := by
    match cs, hlen with
    | [c0, c1, c2], _ => exact ⟨c0, c1, c2, rfl⟩
  have hy3 : ys.length = 3 := hys
  have e0 : DataW.trod enc Tryd.prog W base spare held m 29 (([c0, c1, c2].drop 0).take (Tryd.prog.cellsOf 29)) = ys[0]? := hf 0 _ rfl
  have e1 : DataW.trod enc Tryd.prog W base spare held m 5 (([c0, c1, c2].drop 1).take (Tryd.prog.cellsOf 5)) = ys[1]? := hf 1 _ rfl
  have e2 : DataW.trod enc Tryd.prog W base spare held m 29 (([c0, c1, c2].drop 2).take (Tryd.prog.cellsOf 29)) = ys[2]? := hf 2 _ rfl
  rw [Tryd.cells29, List.getElem?_eq_getElem (by omega)] at e0 e2
  rw [Tryd.cells5, List.getElem?_eq_getElem (by omega)] at e1
  obtain ⟨k, h1, _, w1⟩ := DataW.trod_int Tryd.underlying5 e1
  simp only [List.drop_zero, List.drop_succ_cons, List.take_succ_cons, List.take_zero, List.cons.injEq, and_true] at h1 e0 e2
  subst h1
  have hV : ∀ {c : Value} {y : DataW H × List MemPlace}, DataW.trod enc Tryd.prog W base spare held m 29 [c] = some y → ∃ A' n' c', c = .slice A' n' c' := by
    intro c y e
    rcases open_ints Tryd.underlying29 Tryd.underlying5 (by kernel_rfl) e with ⟨hcs, _⟩ | ⟨x, l, cap, zs, hcs, _⟩
    · exact ⟨_, _, _, List.head_eq_of_cons_eq hcs⟩
    · exact ⟨_, _, _, List.head_eq_of_cons_eq hcs⟩
  obtain ⟨A0, n0, k0, rfl⟩ := hV e0
  obtain ⟨A2, n2, k2, rfl⟩ := hV e2
  obtain ⟨bs, hr, hs⟩ := bytes_of (A := A0) (n := n0) (c := k0) ⟨_, e0⟩
  obtain ⟨ps, hr2, hs2⟩ := bytes_of (A := A2) (n := n2) (c := k2) ⟨_, e2⟩
  obtain rfl : bs.length = n0 := hr.1
  obtain rfl : ps.length = n2 := hr2.1
  exact ⟨⟨A0, k0, bs, UInt8.ofNat k.toNat, A2, k2, ps⟩, by unfold Crs.cells; rw [← u8_of w1], hr, hs, hr2, hs2⟩
theorem crashes_of {H : Type} {enc : TypeId × Value → H} {W : World} {base : Nat} {spare : Nat → Bool} {held : Bool} {A : Option Addr} {n c : Nat} {d : DataW H} {p : List MemPlace}
    (h : DataW.Trod enc Tryd.prog W base spare held 22 (.slice A n c) d p) : ∃ xs, Crss W A n xs ∧ Sl A n c := by
  obtain ⟨fuel, hf⟩ := h
  rcases open_slice Tryd.underlying22 hf with ⟨hcs, _⟩ | ⟨a, len, cap, m, k, D, Pl, hcs, _, hlc, hcm, hm, _, hx⟩
  · simp [Value.cells] at hcs
    obtain ⟨rfl, rfl, rfl⟩ := hcs
    exact ⟨[], ⟨rfl, fun h => absurd h (by omega)⟩, ⟨fun _ => ⟨rfl, rfl⟩, Nat.le_refl _, by omega⟩⟩
  · simp [Value.cells] at hcs
    obtain ⟨rfl, rfl, rfl⟩ := hcs
    rw [Tryd.cells31] at hx
    have hnm : n ≤ m := by rw [hm]; split <;> omega
    have hx' : ∀ i, i < n → ∃ x : Crs, (∀ j v, x.cells[j]? = some v → W.cell? ((a.add (i * 3)).add j) = some v) ∧ x.ok W := by
      intro i hi
      obtain ⟨cs', hc, ht⟩ := hx i (by omega)
      obtain ⟨hl, _, hcell⟩ := World.cells?_some hc
      obtain ⟨x, rfl, hok⟩ := crash_of ht
      refine ⟨x, fun j v hv => ?_, hok⟩
      have hj : j < 3 := (List.getElem?_eq_some_iff.1 hv).1
      rw [hcell j hj]
      exact hv
    obtain ⟨F, hF⟩ := choose_lt (α := Crs) (p := fun i x => (∀ j v, x.cells[j]? = some v → W.cell? ((a.add (i * 3)).add j) = some v) ∧ x.ok W) hx'
    refine ⟨(List.range n).map F, ⟨by simp, fun hp => ?_⟩, ⟨(fun h => by cases h), hlc, by unfold maxLen at hcm; omega⟩⟩
    obtain ⟨b, off, spot⟩ := a
    have h00 := (hF 0 hp).1 0 _ rfl
    have hspot : spot = none := by simpa [Addr.add] using World.cell?_spot h00
    subst hspot
    refine ⟨b, off, rfl, ?_, fun j u hu => ?_⟩
    · rw [add_plain2] at h00
      exact World.block_lt_of_cell? W _ h00
    · rw [List.getElem?_map] at hu
      obtain ⟨z, hz1, rfl⟩ := Option.map_eq_some_iff.1 hu
      obtain ⟨hj, rfl⟩ := List.getElem?_eq_some_iff.1 hz1
      simp at hj
      obtain ⟨h1, h2⟩ := hF j hj
      simp
      refine ⟨fun i v hv => ?_, h2⟩
      have := h1 i v hv
      rwa [add_plain2] at this

/-! ### a counter keeps its own blocks -/
theorem keeps_opat {w : World} {d T : Nat} {s : Dk} {x : Int} {g : Nat} {bs : List UInt8} {slot : Int} : Keeps (fun L W => OpAt w d T s x L g bs slot W) where
  fresh := fun {L W W' q o} h hb hq ho => by
    obtain ⟨A, n, c, LR, h1, h2, h3, h4, h5, h6⟩ := h
    have k1 := keeps_dat.toKeep.fresh h1 hb hq ho
    refine ⟨A, n, c, LR, keeps_dat.toKeep.sub k1 fun p hp => ?_, h2, h3, h4, fun p hp => ⟨(h5 p hp).1, fun y hy => ?_⟩, fun y hy => ?_⟩
    · simp only [List.mem_cons, List.mem_append] at hp ⊢
      rcases hp with rfl | hp | rfl | hp
      · exact .inr (.inl rfl)
      · exact .inr (.inr (.inl hp))
      · exact .inl rfl
      · exact .inr (.inr (.inr hp))
    · rcases List.mem_cons.1 hy with rfl | hy
      · have := keeps_dat.toKeep.lt h1 (.tail _ (List.mem_append_left _ hp))
        simp only
        omega
      · exact (h5 p hp).2 y hy
    · rcases List.mem_cons.1 hy with rfl | hy
      · have := h1.lt (q := g) (.head _)
        simp only
        omega
      · exact h6 y hy
  next := fun h hb => h.next hb
  get := fun h hp => h.get hp
  sub := fun h hs => h.sub hs
  upd := fun h hne ho hg => h.write hne ho hg

theorem Tryd.info9 : (Tryd.prog.info? 9).map (fun i => (i.zero, i.size, i.bytes)) = some (some (.string ByteArray.empty), 1, 16) := by kernel_rfl
/-- The law's own row of strings; L is its block. -/
structure Strs (w : World) (L : List (Nat × Obj)) (v : Value) (gs : List (List UInt8)) (W : World) : Prop where
  row : W.ownsRow w.heap.size 9 1 v gs.length (gs.map fun b => .string (Oct.str b))
  own : (v.ownBlock = none ∧ L = []) ∨ ∃ g o, v.ownBlock = some g ∧ L = [(g, o)]
theorem Strs.nil (w W : World) : Strs w [] (.slice none 0 0) [] W := ⟨World.ownsRow_nil _ _ _ _, .inl ⟨rfl, rfl⟩⟩
theorem Strs.go {w W W' : World} {L : List (Nat × Obj)} {v : Value} {gs : List (List UInt8)} (h : Strs w L v gs W) (h0 : ∀ p ∈ L, W.heap[p.1]? = some p.2) (h1 : ∀ p ∈ L, W'.heap[p.1]? = some p.2) : Strs w L v gs W' := by
  obtain ⟨hr, ho⟩ := h
  refine ⟨own_kept hr fun g e => ?_, ho⟩
  rcases ho with ⟨hn, _⟩ | ⟨g', o, e', rfl⟩
  · rw [hn] at e; cases e
  · rw [e'] at e
    injection e with e
    subst e
    exact (h1 _ (.head _)).trans (h0 _ (.head _)).symm
theorem Strs.shape {w W : World} {L : List (Nat × Obj)} {v : Value} {gs : List (List UInt8)} (h : Strs w L v gs W) : ∃ A c, v = .slice A gs.length c ∧ Sl A gs.length c := row_shape h.row
theorem Strs.at {w W : World} {L : List (Nat × Obj)} {A : Option Addr} {n c : Nat} {gs : List (List UInt8)} (h : Strs w L (.slice A n c) gs W) {j : Nat} {b : List UInt8} (hj : gs[j]? = some b) : ∃ q, A = some ⟨q, 0, none⟩ ∧ W.cell? ⟨q, j, none⟩ = some (.string (Oct.str b)) := by
  have hr := h.row
  have hlt := (List.getElem?_eq_some_iff.1 hj).1
  rcases h.row.2 with ⟨_, h0⟩ | ⟨g, cap, cur, e, _⟩
  · omega
  · injection e with e1 e2 e3
    subst e1
    refine ⟨g, rfl, ?_⟩
    have := hr.cells (g := g) rfl j (.string (Oct.str b)) (by rw [List.getElem?_map, hj]; rfl)
    rwa [Addr.add_lit, Nat.zero_add] at this

/-- One more string: it was laid just now. -/
theorem wpList_strs {J : List (Nat × Obj) → World → Prop} (K : Keeps J) {w W : World} {L LG : List (Nat × Obj)} {ops : Array Oper} {rest : List Oper} {o : Oper} {a : Act} {Q : Exit → Act → World → Prop} (hgd : o.guard = none) (sv x : Operand)
    (ho : o.op = Op.call { callee := Callee.builtin Builtin.append, args := #[sv, x], argTypes := #[28, 28] })
    (v : Value) (gs : List (List UInt8)) (b : List UInt8) (hs : a.eval sv = v) (hx : a.eval x = .slice (some ⟨W.heap.size, 0, none⟩) 1 1)
    (hJ : J (LG ++ L) W) (hlow : w.heap.size ≤ W.heap.size) (hG : Strs w LG v gs W) (hne : ∀ p ∈ LG, ∀ q ∈ L, q.1 ≠ p.1) (hm : gs.length < 1000000)
    (h : ∀ A' c' W' LG', Hid (J (LG' ++ L) W' ∧ Strs w LG' (.slice A' (gs.length + 1) c') (gs ++ [b]) W' ∧ ∀ p ∈ LG', ∀ q ∈ L, q.1 ≠ p.1) → wpList Tryd.prog ops Q rest (a.put o.dst (.slice A' (gs.length + 1) c')) W') :
    wpList Tryd.prog ops Q (o :: rest) a (W.alloc (.cells #[.string (Oct.str b)] 9)) := by
  obtain ⟨i0, hi, hz0, hz1, hz2⟩ := info_parts Tryd.info9
  obtain ⟨h1, h3⟩ := hG
  obtain ⟨v', W', hrun, hv', hg', _, hat⟩ := run_append_own_at (P := Tryd.prog) (W.alloc (.cells #[.string (Oct.str b)] 9)) w.heap.size 28 o.type 9 i0 (.string ByteArray.empty) 1 16 Tryd.underlying28 hi hz0 hz1 hz2 rfl (by decide) v gs.length _ (h1.alloc _) ⟨W.heap.size, 0, none⟩ 1 1 [.string (Oct.str b)] rfl (cell_one_new _ _ _) (by intro u hu; simp at hu; subst hu; rfl) (by unfold maxLen; omega) (by omega) (by simp; omega)
  have hgo : W.grownBy W' v.ownBlock := ⟨hg'.os, hg'.tape, hg'.output, Nat.le_trans (by simp) hg'.size, fun k hk hn => (hg'.block k (by simp; omega) hn).trans (heap_alloc_old W _ hk)⟩
  obtain ⟨A', c', rfl, _⟩ := row_shape (e := 9) hv'
  have hrow : W'.ownsRow w.heap.size 9 1 (.slice A' (gs.length + 1) c') (gs ++ [b]).length ((gs ++ [b]).map fun b => Value.string (Oct.str b)) := by
    rw [List.length_append, List.map_append]
    exact hv'
  have hltL : ∀ q ∈ L, q.1 < W.heap.size := fun q hq => K.toKeep.lt hJ (List.mem_append_right _ hq)
  -- where the row lies now
  have key : ∀ q, (Value.slice A' (gs.length + 1) c').ownBlock = some q → ∃ o', J ((q, o') :: L) W' ∧ ∀ y ∈ L, y.1 ≠ q := fun q hq => by
    have hlt := (own_lt hv' q hq).2
    rcases h3 with ⟨hn, rfl⟩ | ⟨g, o, e, rfl⟩
    · have hb : Below W.heap.size W W' := by
        rw [hn] at hgo
        exact ⟨hgo.os, hgo.tape, hgo.output, hgo.size, fun k hk => hgo.block k hk (by simp)⟩
      rcases hat with hat | hat
      · rw [hn, hq] at hat; cases hat
      · rw [hq] at hat
        injection hat with hat
        have hqs : W.heap.size ≤ q := by rw [hat]; simp
        exact ⟨W'.heap[q], K.toKeep.fresh hJ hb hqs (Array.getElem?_eq_getElem hlt), fun y hy => by have := hltL y hy; omega⟩
    · rw [e] at hgo
      have hgl : g < W.heap.size := K.toKeep.lt hJ (p := (g, o)) (.head _)
      have hgo' : W.heap[g]? = some o := K.toKeep.get hJ (.head _)
      rcases hat with hat | hat
      · rw [hq, e] at hat
        injection hat with hat
        subst hat
        exact ⟨W'.heap[q], K.upd (L := L) (q := q) hJ (fun p hp => hne _ (.head _) p hp) (Array.getElem?_eq_getElem hlt) hgo, fun y hy => hne _ (.head _) y hy⟩
      · rw [hq] at hat
        injection hat with hat
        have hqs : W.heap.size ≤ q := by rw [hat]; simp
        -- the world with the old row as it was, then with it as it is
        have hb : Below W.heap.size W (W'.putObj g o) := ⟨hgo.os, hgo.tape, hgo.output, by have := hgo.size; simpa using this, fun k hk => by
          by_cases hkg : k = g
          · subst hkg
            rw [hgo']
            have : k < W'.heap.size := Nat.lt_of_lt_of_le hk hgo.size
            simp [World.putObj, this]
          · rw [World.putObj_heap_other hkg]
            exact hgo.block k hk (fun e => hkg (by cases e; rfl))⟩
        have hqg : q ≠ g := fun e => by omega
        obtain ⟨oq, hoq⟩ : ∃ o, W'.heap[q]? = some o := ⟨_, Array.getElem?_eq_getElem hlt⟩
        obtain ⟨og, hog⟩ : ∃ o, W'.heap[g]? = some o := by
          have : g < W'.heap.size := Nat.lt_of_lt_of_le hgl hgo.size
          exact ⟨_, Array.getElem?_eq_getElem this⟩
        have k1 := K.toKeep.fresh hJ hb hqs (o := oq) ((World.putObj_heap_other hqg).trans hoq)
        have k2 := K.upd (L := (q, oq) :: L) (q := g) (o := o) (o' := og) (W' := W') (K.toKeep.sub k1 fun p hp => by
            simp only [List.mem_cons, List.singleton_append] at hp ⊢
            rcases hp with rfl | rfl | hp
            · exact .inr (.inl rfl)
            · exact .inl rfl
            · exact .inr (.inr hp)) (fun p hp => by
            rcases List.mem_cons.1 hp with rfl | hp
            · simp only; omega
            · exact hne _ (.head _) p hp) hog
          ⟨rfl, rfl, rfl, by simp, fun k _ hn => (World.putObj_heap_other (fun e => hn (by rw [e]))).symm⟩
        exact ⟨oq, K.toKeep.sub k2 fun p hp => .tail _ hp, fun y hy => by have := hltL y hy; omega⟩
  have hfin : ∃ LG', J (LG' ++ L) W' ∧ (((Value.slice A' (gs.length + 1) c').ownBlock = none ∧ LG' = []) ∨ ∃ g o, (Value.slice A' (gs.length + 1) c').ownBlock = some g ∧ LG' = [(g, o)]) ∧ ∀ p ∈ LG', ∀ q ∈ L, q.1 ≠ p.1 := by
    cases hq : (Value.slice A' (gs.length + 1) c').ownBlock with
    | none =>
      exfalso
      rcases hrow.2 with ⟨e, h0⟩ | ⟨g, cap, cur, e, _⟩
      · simp at h0
      · rw [e] at hq
        cases hq
    | some g =>
      obtain ⟨o', k1, k2⟩ := key g hq
      exact ⟨[(g, o')], k1, .inr ⟨g, o', rfl, rfl⟩, fun p hp => by simp only [List.mem_singleton] at hp; subst hp; exact k2⟩
  obtain ⟨LG', k1, k2, k3⟩ := hfin
  refine wpList_plain hgd fun K' hK => ?_
  unfold Oper.wp execOp
  simp only [ho, resolve, invoke, builtin, Sem.run_bind, Sem.run_pure, Result.andThen_ok, List.map_toArray, List.map_cons, List.map_nil, hs, hx, hrun]
  exact hK _ _ (h A' c' W' LG' (Lib.hid ⟨k1, ⟨hrow, k2⟩, k3⟩))
end Go.Proofs.YtepjfkmbmcfnoaaDoor
