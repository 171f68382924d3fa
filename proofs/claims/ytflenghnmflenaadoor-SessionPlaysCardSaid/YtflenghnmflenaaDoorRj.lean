/-
  What is proved: the document's own Of. Conditions as stated.
-/
import Derived.Test.YtflenghnmflenaaDoorRg
import Derived.Laws.AppendOwnNone
import Derived.Test.YtflenghnmflenaaDoorMm
namespace Go.Proofs.YtflenghnmflenaaDoor
open Go.RowKit
set_option maxRecDepth 100000

theorem its_cell {w : World} {b o : Nat} : ∀ {xs : List It} (_ : ∀ j p, xs[j]? = some p → w.cell? ⟨b, o + j * 2, none⟩ = some (.string p.1) ∧ w.cell? ⟨b, o + j * 2 + 1, none⟩ = some (.string p.2)) (j : Nat) (u : Value), (itC xs)[j]? = some u → w.cell? ⟨b, o + j, none⟩ = some u := fun {xs} h j u hj => by
  obtain ⟨i, e, hie⟩ : ∃ i e, j = i * 2 + e ∧ e < 2 := ⟨j / 2, j % 2, by omega, by omega⟩
  obtain ⟨rfl, he⟩ := hie
  have hl := (List.getElem?_eq_some_iff.1 hj).1
  rw [itC_length] at hl
  obtain ⟨p, hp⟩ : ∃ p, xs[i]? = some p := ⟨_, List.getElem?_eq_getElem (by omega)⟩
  obtain ⟨e1, e2⟩ := itC_at hp
  have ⟨c1, c2⟩ := h i p hp
  rcases Nat.lt_or_ge e 1 with h0 | h0
  · obtain rfl : e = 0 := by omega
    rw [Nat.add_zero] at hj ⊢
    rw [e1] at hj; cases hj; exact c1
  · obtain rfl : e = 1 := by omega
    rw [e2] at hj; cases hj
    rw [← Nat.add_assoc]; exact c2
theorem app_its {w0 w : World} {ops : Array Oper} {rest : List Oper} {o : Oper} {a : Act} {Q : Exit → Act → World → Prop} (hgd : o.guard = none) (s x : Operand)
    (ho : o.op = .call { callee := .builtin .append, args := #[s, x], argTypes := #[43, 43] }) {v : Value} (hs : a.eval s = v) (hown : w.ownsRow w0.heap.size 64 2 v 0 []) (hb : Below w0.heap.size w0 w)
    {A : Option Addr} {n c : Nat} {xs : List It} (hx : a.eval x = .slice A n c) (hn : n = xs.length) (hI : Its w A xs) (hc : A = none → c = 0) (hl : n ≤ 1000)
    (h : ∀ r c' w', Rw w' r c' xs → (∀ b, r = some b → w0.heap.size ≤ b) → Below w0.heap.size w0 w' → wpList Tryd.prog ops Q rest (a.put o.dst (.slice (slA r) n c')) w') : wpList Tryd.prog ops Q (o :: rest) a w := by
  refine wpList_plain hgd fun K hK => ?_
  cases A with
  | none =>
    have hc0 : c = 0 := hc rfl
    have hn0 : xs = [] := by
      rcases Nat.eq_zero_or_pos xs.length with h | h
      · exact List.length_eq_zero_iff.1 h
      · obtain ⟨b, o, hx, _⟩ := hI h
        cases hx
    subst hc0 hn0
    subst hn
    obtain ⟨i0, hi0, _⟩ := info_parts Tryd.info64
    have hrun := run_append_owned_none (P := Tryd.prog) (w := w) w0.heap.size 43 o.type 64 i0 2 Tryd.underlying43 hi0 v 0 [] hown
    have hown2 : w.ownsRow w0.heap.size 64 2 v ([] : List It).length (itC []) := hown
    obtain ⟨r, c', he, hr, hg⟩ := rw_of_own hown2
    unfold Oper.wp
    simp only [List.length_nil] at hx
    simp [execOp, ho, resolve, invoke, builtin, hs, hx, hrun, Result.andThen]
    rw [he]
    exact hK _ _ (h r c' w hr hg hb)
  | some ad =>
    subst hn
    refine wp_app s x ho hs hown hb ad xs.length c (itC xs) hx (itC_length xs) (fun j u hj => ?_) (itC_one xs) (by omega) ?_
    · have hjl := (List.getElem?_eq_some_iff.1 hj).1
      rw [itC_length] at hjl
      obtain ⟨b, o, he, hbl, hcs⟩ := hI (by omega)
      injection he with he
      subst he
      rw [Addr.add_lit]
      exact its_cell hcs j u hj
    · intro v' w' ho' hb'
      rw [Nat.zero_add, List.nil_append] at ho'
      obtain ⟨r, c', rfl, hr, hg⟩ := rw_of_own ho'
      exact hK _ _ (h r c' w' hr hg hb')
def ROfP (w : World) (xs : List It) (E : Ending) (w' : World) : Prop :=
  Below w.heap.size w w' ∧ if mayI ByteArray.empty xs = true then (if xs.length ≤ 64 then ∃ g r c, E = .returned (.tuple #[.pointer (some ⟨g, 0, none⟩), .int .i64 0]) ∧ RL w' g r c xs ∧ ∀ k, On g r k → w.heap.size ≤ k
    else E = .returned (.tuple #[.pointer none, .int .i64 6])) else E = .returned (.tuple #[.pointer none, .int .i64 1])
theorem rl_of {w W : World} {xs : List It} (hb : Below w.heap.size w W) {r : Option Nat} {c : Nat} (hr : Rw W r c xs) (hg : ∀ b, r = some b → w.heap.size ≤ b) :
    RL (W.alloc (.cells #[.slice (slA r) xs.length c] 45)) W.heap.size r c xs ∧ ∀ k, On W.heap.size r k → w.heap.size ≤ k := by
  have hb2 : Below W.heap.size W (W.alloc (.cells #[.slice (slA r) xs.length c] 45)) := (Below.refl _ _).alloc (Nat.le_refl _) _
  refine ⟨⟨heap_alloc_new W _, hr.kept fun b e => hb2.block b (by rw [e] at hr; exact hr.lt)⟩, ?_⟩
  rintro k (rfl | hk)
  · exact hb.size
  · exact hg k hk
end Go.Proofs.YtflenghnmflenaaDoor
