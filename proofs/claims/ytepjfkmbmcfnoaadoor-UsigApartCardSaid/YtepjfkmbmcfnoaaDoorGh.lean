/-
  What is proved: a Next that nothing disturbs; the chapter's example (works). Conditions as stated.
-/
import Derived.Test.YtepjfkmbmcfnoaaDoorGg
import Derived.Test.YtepjfkmbmcfnoaaDoorS9
namespace Go.Proofs.YtepjfkmbmcfnoaaDoor
open Go.RowKit
set_option maxRecDepth 100000

theorem run_part_int {P : Program} {e : TypeId} {kd : IntKind} (he : P.underlying e = some (.int kd)) {xs : Array Value} {i : Nat} {v : Value} (hv : xs[i]? = some v) (w : World) : (part e xs i).run P w = .ok v w := by
  have hagg : (isAgg e).run P w = .ok false w := by
    unfold isAgg
    rw [Sem.run_bind, run_underlying he w]
    rfl
  simp [part, hagg, hv]
theorem eqItems_bytes {P : Program} {d : Nat} {e : TypeId} (he : P.underlying e = some (.int .u8)) (l m : List UInt8) (w : World) :
    ∀ is : List Nat, (∀ i ∈ is, i < l.length ∧ i < m.length) → (Op.eqItems (d + 1) e 1 (u8s l).toArray (u8s m).toArray is).run P w = .ok (is.all fun i => l.getD i 0 == m.getD i 0) w
  | [], _ => by simp [Op.eqItems]
  | i :: is, h => by
    obtain ⟨h1, h2⟩ := h i (by simp)
    have hr := eqItems_bytes (d := d) he l m w is fun j hj => h j (by simp [hj])
    have e1 : ((u8s l).toArray)[i]? = some (.int .u8 ((l.getD i 0).toNat : Int)) := by simpa using u8s_at l i h1
    have e2 : ((u8s m).toArray)[i]? = some (.int .u8 ((m.getD i 0).toNat : Int)) := by simpa using u8s_at m i h2
    have e3 : (((l.getD i 0).toNat : Int) == ((m.getD i 0).toNat : Int)) = (l.getD i 0 == m.getD i 0) := by
      by_cases hq : l.getD i 0 = m.getD i 0
      · rw [hq]; simp
      · have : ((l.getD i 0).toNat : Int) ≠ ((m.getD i 0).toNat : Int) := fun hh => hq (UInt8.toNat_inj.1 (by omega))
        rw [beq_false_of_ne this, beq_false_of_ne hq]
    simp only [Op.eqItems, Nat.mul_one, Sem.run_bind, run_part_int he e1, run_part_int he e2, Result.andThen_ok, run_equalIn_int w d e .u8 .u8 _ _ he, List.all_cons]
    rw [e3]
    cases hq : (l.getD i 0 == m.getD i 0)
    · simp
    · simp [hr]
/-- Two tags are compared whole. -/
theorem eq_tags (l m : List UInt8) (hl : l.length = 32) (hm : m.length = 32) (w : World) : (Op.equalIn 10000 36 (.agg (u8s l).toArray) (.agg (u8s m).toArray)).run Tryd.prog w = .ok (decide (l = m)) w := by
  obtain ⟨i, hi⟩ := Option.isSome_iff_exists.1 Sh.Tryd.has5
  rw [show 10000 = 9999 + 1 from rfl, run_equalIn_array w 9999 _ _ Tryd.underlying36 hi, Sh.Tryd.cells5, show 9999 = 9998 + 1 from rfl,
    eqItems_bytes (d := 9998) Tryd.underlying5 l m w _ (fun i hi => by rw [hl, hm]; simpa using hi)]
  congr 1
  by_cases h : l = m
  · subst h; simp
  · rw [decide_eq_false h, Bool.eq_false_iff]
    intro hall
    apply h
    apply List.ext_getElem (by rw [hl, hm])
    intro i h1 h2
    have := List.all_eq_true.1 hall i (by simp; omega)
    simp only [List.getD_eq_getElem?_getD, List.getElem?_eq_getElem h1, List.getElem?_eq_getElem h2, Option.getD_some, beq_iff_eq] at this
    exact this
theorem wpList_load_midG {P : Program} {ops : Array Oper} {rest : List Oper} {op : Oper} {a : Act} {w : World} {Q : Exit → Act → World → Prop} (hw : Region.wanted op (yielded ops a.tmps) = true) (ty : TypeId) (x : Operand) (ho : op.op = .load ty x)
    (b o : Nat) (hx : a.eval x = .pointer (some ⟨b, o, none⟩)) (cs : List Value) (d : TypeDesc) (hc : w.rangeAt b o cs)
    (hu : P.underlying ty = some d) (hd : d.isRow = true) (hi : (P.info? ty).map (·.size) = some cs.length)
    (h : wpList P ops Q rest (a.put op.dst (.agg cs.toArray)) w) : wpList P ops Q (op :: rest) a w :=
  wpList_step fun K hK => by
    rw [if_pos hw]
    exact wp_load_mid ty x ho b o hx cs d hc hu hd hi (hK _ _ h)

theorem seal_be (n : Nat) (b : List UInt8) (hn : n < 18446744073709551616) : sealN (Oct.be 8 n ++ b) = n ∧ sealB (Oct.be 8 n ++ b) = b := by
  have hl : 8 ≤ (Oct.be 8 n ++ b).length := by rw [List.length_append, Oct.be_length]; omega
  constructor
  · rw [sealN, if_pos hl, List.take_append_of_le_length (by rw [Oct.be_length]; omega), List.take_of_length_le (by rw [Oct.be_length]; omega)]
    exact num_be 8 n hn
  · rw [sealB, if_pos hl, List.drop_append, Oct.be_length, List.drop_of_length_le (by rw [Oct.be_length]; omega)]
    simp
theorem last_be (i : Int) (n : Nat) (b : List UInt8) (hn : n < 18446744073709551616) (h1 : 1 ≤ n) : lastB (Oct.be 8 n ++ b) = b ∧ lastT i (Oct.be 8 n ++ b) = Sh.numTag i n b := by
  obtain ⟨h2, h3⟩ := seal_be n b hn
  constructor
  · rw [lastB, h2, if_neg (by omega), h3]
  · rw [lastT, h2, if_neg (by omega), h3]
theorem sound_be (n : Nat) (b : List UInt8) (h1 : 1 ≤ n) (h2 : n ≤ 65536) (hb : b.length ≤ 1024) : soundB (Oct.be 8 n ++ b) = true := by
  obtain ⟨h3, h4⟩ := seal_be n b (by omega)
  rw [soundB, h3, h4]
  simp [mayN]
  omega

section
variable {w wr w0 w1 : World} {d T : Nat} {s s' : Dk} {L : List (Nat × Obj)} {x : Int} {a na C g u : Nat} {bs b : List UInt8} {slot e : Int}
theorem next_calm (h : OpAt w d T s x L g bs (a : Int) wr) (i : Int) (hu : (u, usOf g i) ∈ L) (hk : Sh.KIs w) (h0 : 0 < w.heap.size) (hc : Calm s) (hT : T < 10000000) (hx : 0 ≤ x ∧ x ≤ 32748) (hI : CellIs s x a na bs C) (hC : C + 1 < 4611686018427387904)
    {A : Option Addr} {m c : Nat} (hb : Src w L A m b) (hs : Oct.Sl A m c) (hm : m ≤ 1024) (hbl : b.length = m) (num : Nat) (hnum : sealN bs = num) (hn : num < 65536) :
    Calls Tryd.prog 16 #[.pointer (some ⟨u, 0, none⟩), .slice A m c] wr fun E w' => E = .returned (.tuple #[.int .u64 ((num + 1 : Nat) : Int), tagV (Sh.numTag i (num + 1) b), .int .i64 0]) ∧
      ∃ s', Hid (OpAt w d (T + 10) s' x L g (Oct.be 8 (num + 1) ++ b) ((1 - a : Nat) : Int) w' ∧ Calm s' ∧ s'.loose = [] ∧ CellIs s' x (1 - a) (topGo s x 20 + 1) (Oct.be 8 (num + 1) ++ b) (C + 1) ∧ SlotIs s' (x + a * 10) na bs ∧
      ∀ y, 0 ≤ y ∧ y < 32768 → ¬ (x ≤ y ∧ y < x + 20) → s'.read y = s.read y) := by
  have ha := hI.slot
  obtain ⟨t1, t2⟩ := hI.top_le
  obtain ⟨s', k1, k2, k3, k4, k5⟩ := renew_ok (s := s) (at' := x) (slot := 1 - (a : Int)) (bs := Oct.be 8 (num + 1) ++ b) hc.1 hc.2 (by omega)
  have e1 : x + (1 - (a : Int)) * 10 = x + ((1 - a : Nat) : Int) * 10 := by omega
  have hl : (Oct.be 8 (num + 1) ++ b).length ≤ 1100 := by rw [List.length_append, Oct.be_length]; omega
  obtain ⟨i1, i2⟩ := hI.put (s' := s') hx hC (Oct.be 8 (num + 1) ++ b) hl (fun y hy => by rw [k5 y hy, e1])
  refine (next_us h i hu hk h0 hc.1 hT hx (by omega) (by omega) hb hs hm num hnum hn k1).mono fun E w' ⟨h7, h8⟩ => ?_
  rw [if_pos rfl, if_pos rfl] at h7
  refine ⟨h7, s', ?_⟩
  rcases h8.out with ⟨h9, _⟩ | ⟨_, hO⟩
  · exact absurd rfl h9
  · rw [show (1 - (a : Int)) = ((1 - a : Nat) : Int) by omega] at hO
    exact ⟨hO, ⟨k2, k3⟩, k4, i1, i2, fun y hy hny => by rw [k5 y hy, if_neg (by omega)]⟩
theorem last_none (h : OpAt w d T s x L g [] slot wr) (i : Int) (hu : (u, usOf g i) ∈ L) (hk : Sh.KIs w) (h0 : 0 < w.heap.size) :
    Calls Tryd.prog 13 #[.pointer (some ⟨u, 0, none⟩)] wr fun E w' => ∃ A c, E = .returned (.tuple #[.int .u64 0, .slice A 0 c, tagV noTag]) ∧ Hid (Below wr.heap.size wr w') :=
  (last_us h i hu hk h0).mono fun _ _ ⟨A, c, h1, _, h3⟩ => ⟨A, c, h1, h3⟩
theorem last_some (n : Nat) (h : OpAt w d T s x L g (Oct.be 8 n ++ b) slot wr) (i : Int) (hu : (u, usOf g i) ∈ L) (hk : Sh.KIs w) (h0 : 0 < w.heap.size) (hn : n < 18446744073709551616) (h1 : 1 ≤ n) :
    Calls Tryd.prog 13 #[.pointer (some ⟨u, 0, none⟩)] wr fun E w' => ∃ A c LR, E = .returned (.tuple #[.int .u64 (n : Int), .slice A b.length c, tagV (Sh.numTag i n b)]) ∧
      Hid (OpAt w d T s x (LR ++ L) g (Oct.be 8 n ++ b) slot w' ∧ Src w LR A b.length b ∧ Oct.Sl A b.length c) ∧ Hid (Below wr.heap.size wr w') := by
  have := last_us h i hu hk h0
  rw [(last_be i n b hn h1).1, (last_be i n b hn h1).2, (seal_be n b hn).1] at this
  refine this.mono fun E w' ⟨A, c, e, h2, h3⟩ => ?_
  obtain ⟨LR, k1, k2⟩ := h.own h3.out h2.out.1 (Nat.le_refl _)
  exact ⟨A, c, LR, e, Lib.hid ⟨k1, k2, h2.out.2⟩, h3⟩
end
/-- The tag of the chapter's example, and another replica's. -/
theorem tags_differ : Sh.numTag 2 1 [97, 98] ≠ Sh.numTag 1 1 [97, 98] := by
  intro h
  have : (Sh.numTag 2 1 [97, 98]).getD 0 0 = (Sh.numTag 1 1 [97, 98]).getD 0 0 := by rw [h]
  revert this
  decide +kernel
end Go.Proofs.YtepjfkmbmcfnoaaDoor
