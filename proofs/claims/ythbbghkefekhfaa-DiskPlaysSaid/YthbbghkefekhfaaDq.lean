/-
  What is proved: the walk of DiskFuses for whatever comes in. Conditions as stated.
-/
import Derived.Test.YthbbghkefekhfaaDp
import Derived.Test.YthbbghkefekhfaaDn
namespace Go.Proofs.Ythbbghkefekhfaa
open Go.RowKit Go.Sort

/-- A slice that reads as these bools. -/
def Rb (w : World) (A : Option Addr) (n : Nat) (bs : List Bool) : Prop :=
  bs.length = n ∧ (0 < n → ∃ b o, A = some ⟨b, o, none⟩ ∧ b < w.heap.size ∧ ∀ j u, bs[j]? = some u → w.cell? ⟨b, o + j, none⟩ = some (.bool u))

/-- What is read has a sector's length. -/
theorem Dat.read_len {w wr : World} {d T : Nat} {s : Dk} {L : List (Nat × Obj)} (h : Dat w d T s L wr) (x : Int) : (s.read x).1.length = 128 := by
  obtain ⟨S, ⟨fused, left, ms, ml, mn, V, gs, gl, gn, h⟩, _⟩ := h
  unfold Dk.read
  split
  · rfl
  · rcases h.newest x with ⟨_, hw⟩ | ⟨j, b, _, hj, hw⟩
    · rw [hw]
      simp only
      rw [h.sure x]
      cases gl x
      · simp only [Bool.false_eq_true, if_false]
        cases hg : gs x with
        | none => rfl
        | some b => exact h.glen x b hg
      · rfl
    · rw [hw]
      exact (h.len _ (List.mem_of_getElem? hj)).1

/-- The call's own row behind an append. -/
theorem Dat.row {w wr w' : World} {d T : Nat} {s : Dk} {L : List (Nat × Obj)} (h : Dat w d T s L wr) {row : Option Nat} (hg : wr.grownBy w' row) (hr : ∀ q, row = some q → ∃ o, (q, o) ∈ L) (g : Nat) (o : Obj) (ho : w'.heap[g]? = some o)
    (hw : (∃ o', (g, o') ∈ L) ∨ wr.heap.size ≤ g) : Dat w d T s [(g, o)] w' := by
  have hb := h.below
  obtain ⟨S, h1, h2, h3⟩ := h
  refine ⟨S, h1.kept (fun k hk => hg.block k (h1.lt k hk) (fun e => ?_)) hg.size, ⟨h2.1.grown hg (fun q e => ?_), h2.2⟩, fun p hp => ?_⟩
  · obtain ⟨o, hq⟩ := hr k e.symm
    exact (h3 _ hq).2.1 hk
  · obtain ⟨o, hq⟩ := hr q e
    exact .inr (h3 _ hq).1
  · simp at hp
    subst hp
    rcases hw with ⟨o', hq⟩ | hw
    · exact ⟨(h3 _ hq).1, (h3 _ hq).2.1, ho⟩
    · exact ⟨Nat.le_trans hb.size hw, (fun x => by have := h1.lt g x; omega), ho⟩

theorem Try.info5 : (Try.prog.info? 5).map (fun i => (i.zero, i.size, i.bytes)) = some (some (.int .u8 0), 1, 1) := by kernel_rfl
/-- One more byte onto a row of the call's own. -/
theorem wpList_append_u8 {w : World} {ops : Array Oper} {rest : List Oper} {o : Oper} {a : Act} {Q : Exit → Act → World → Prop} (hgd : o.guard = none) (s x : Operand)
    (ho : o.op = Op.call { callee := Callee.builtin Builtin.append, args := #[s, x], argTypes := #[30, 30] })
    (n : Nat) (L : Value) (xs : List UInt8) (u : UInt8) (z : Int) (hz : z = (u.toNat : Int)) (hs : a.eval s = L) (hx : a.eval x = .slice (some ⟨w.heap.size, 0, none⟩) 1 1)
    (hown : w.ownsRow 0 5 1 L n (u8s xs)) (hm : n < 1000000000000)
    (h : ∀ A' c' w', Hid (w'.ownsRow 0 5 1 (.slice A' (n + 1) c') (n + 1) (u8s (xs ++ [u]))) → Hid (w.grownBy w' L.ownBlock ∧ ((Value.slice A' (n + 1) c').ownBlock = L.ownBlock ∨ ∃ g, (Value.slice A' (n + 1) c').ownBlock = some g ∧ w.heap.size ≤ g)) → wpList Try.prog ops Q rest (a.put o.dst (.slice A' (n + 1) c')) w') :
    wpList Try.prog ops Q (o :: rest) a (w.alloc (.cells #[.int .u8 z] 5)) := by
  refine wpList_plain hgd fun K hK => ?_
  obtain ⟨i0, hi, hz0, hz1, hz2⟩ := info_parts Try.info5
  obtain ⟨v', w', hr, h2, h3, _, h5⟩ := run_append_own_at (P := Try.prog) (w.alloc (.cells #[.int .u8 z] 5)) 0 30 o.type 5 i0 (.int .u8 0) 1 1 Try.underlying30 hi hz0 hz1 hz2 rfl (by decide) L n _ (hown.alloc _) ⟨w.heap.size, 0, none⟩ 1 1 [.int .u8 z] rfl
    (cell_one_new w _ 5) (fun u hu => by simp at hu; subst hu; rfl) (by unfold maxLen; omega) (by omega) (Nat.zero_le _)
  obtain ⟨A', c', rfl, _⟩ := row_shape h2
  unfold Oper.wp execOp
  simp only [ho, resolve, invoke, builtin, Sem.run_bind, Sem.run_pure, Result.andThen_ok, List.map_toArray, List.map_cons, List.map_nil, hs, hx, hr]
  refine hK _ _ (h A' c' w' (Lib.hid (by subst hz; simpa [u8s] using h2)) (Lib.hid ⟨?_, ?_⟩))
  · exact ⟨h3.os, h3.tape, h3.output, Nat.le_trans (by simp) h3.size, fun k hk hne => (h3.block k (by simp; omega) hne).trans (heap_alloc_old w _ hk)⟩
  · rcases h5 with h5 | h5
    · exact .inl h5
    · exact .inr ⟨_, h5, by simp⟩

/-- The picks, while they are made. -/
def PkAt (P : UInt8) (w : World) (d T : Nat) (s : Dk) (v : Value) (k : Nat) (wr : World) : Prop :=
  (k = 0 ∧ v = .slice none 0 0 ∧ Dat w d T s [] wr) ∨ ∃ q c o, v = .slice (some ⟨q, 0, none⟩) k c ∧ Dat w d T s [(q, o)] wr ∧ wr.ownsRow 0 5 1 v k (u8s (List.replicate k P))
theorem PkAt.own {P : UInt8} {w : World} {d T : Nat} {s : Dk} {v : Value} {k : Nat} {wr : World} (h : PkAt P w d T s v k wr) : wr.ownsRow 0 5 1 v k (u8s (List.replicate k P)) := by
  rcases h with ⟨rfl, rfl, _⟩ | ⟨q, c, o, _, _, h⟩
  · exact World.ownsRow_nil _ _ _ _
  · exact h
theorem PkAt.next {P : UInt8} {w : World} {d T : Nat} {s : Dk} {v : Value} {k : Nat} {wr : World} (h : PkAt P w d T s v k wr) {A' : Option Addr} {c' : Nat} {w' : World} (M : w'.ownsRow 0 5 1 (.slice A' (k + 1) c') (k + 1) (u8s (List.replicate k P ++ [P])))
    (T5 : wr.grownBy w' v.ownBlock ∧ ((Value.slice A' (k + 1) c').ownBlock = v.ownBlock ∨ ∃ g, (Value.slice A' (k + 1) c').ownBlock = some g ∧ wr.heap.size ≤ g)) : PkAt P w d T s (.slice A' (k + 1) c') (k + 1) w' := by
  rw [← List.replicate_succ'] at M
  right
  have hM := M
  rcases M.2 with ⟨_, h0⟩ | ⟨g, cap, cur, e, _, hgg, _⟩
  · omega
  · injection e with e1 _ e2
    subst e1 e2
    have hob : (Value.slice (some ⟨g, 0, none⟩) (k + 1) c').ownBlock = some g := by simp [Value.ownBlock]
    refine ⟨g, c', .cells cur 5 (0, 0), rfl, ?_, hM⟩
    rcases h with ⟨rfl, rfl, hD⟩ | ⟨q, c, o, rfl, hD, _⟩
    · refine hD.row T5.1 (fun q e => by simp [Value.ownBlock] at e) g _ hgg ?_
      rcases T5.2 with h0 | ⟨g', h0, h1⟩
      · rw [hob] at h0; simp [Value.ownBlock] at h0
      · rw [hob] at h0; injection h0 with h0; exact .inr (by omega)
    · have hoq : (Value.slice (some ⟨q, 0, none⟩) k c).ownBlock = some q := by simp [Value.ownBlock]
      refine hD.row T5.1 (fun q' e => by rw [hoq] at e; injection e with e; exact ⟨o, by simp [e]⟩) g _ hgg ?_
      rcases T5.2 with h0 | ⟨g', h0, h1⟩
      · rw [hob, hoq] at h0; injection h0 with h0; exact .inl ⟨o, by simp [h0]⟩
      · rw [hob] at h0; injection h0 with h0; exact .inr (by omega)
/-- On, by the picks that were made. -/
theorem PkAt.on {P : UInt8} {w : World} {d T : Nat} {s s' : Dk} {v : Value} {k : Nat} {wr : World} (h : PkAt P w d T s v k wr) (hT : T < 1000000000) (e : Int) (he : (s.on (List.replicate k P)) = (s', e)) :
    Calls Try.prog 22 #[.pointer (some ⟨d, 0, none⟩), v] wr fun E w' => E = .returned (.int .i64 e) ∧ ∃ L, Dat w d T s' L w' := by
  rcases h with ⟨rfl, rfl, hD⟩ | ⟨q, c, o, rfl, hD, hO⟩
  · have := dat_on_nil hD hT
    rw [List.replicate_zero] at he
    rw [he] at this
    exact this.mono fun _ _ ⟨h1, h2⟩ => ⟨h1, _, h2⟩
  · rcases hO.2 with ⟨e0, _⟩ | ⟨g, cap, cur, e0, _, hgg, hn, hm, _⟩
    · cases e0
    · injection e0 with e1 _ e2
      subst e2
      have hc := hO.cells (g := q) (by simp [Value.ownBlock])
      have := dat_on_own hD hT q k c o (by simp) (List.replicate k P) (by simp) (fun j u hu => by
        have := hc j (.int .u8 (u.toNat : Int)) (by simp only [u8s, List.getElem?_map, hu, Option.map_some])
        rwa [Addr.add_mid, Nat.zero_add] at this) hn (by unfold maxLen at hm; omega)
      rw [he] at this
      exact this.mono fun _ _ ⟨h1, h2⟩ => ⟨h1, _, h2⟩
end Go.Proofs.Ythbbghkefekhfaa
