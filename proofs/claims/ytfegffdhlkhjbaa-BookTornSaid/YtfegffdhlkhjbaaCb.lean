/-
  What is proved: plain facts on a slot's sectors; laws on bytes that are read, put behind others, copied. Conditions as stated.
-/
import Derived.Test.YtfegffdhlkhjbaaCa
import Derived.Test.YtfegffdhlkhjbaaOf
import Derived.Deep.RegionHeld
import Derived.RegionTactic
namespace Go.Proofs.Ytfegffdhlkhjbaa
open Go.RowKit
set_option maxRecDepth 100000

/-- What stands in a slot behind the counts: how many bytes there are, and the bytes. -/
def slotRow (bs : List UInt8) : List UInt8 := Oct.be 2 bs.length ++ bs
/-- Sector i of the part of it that is cut into 120 bytes each. -/
def partOf (bs : List UInt8) (i : Nat) : List UInt8 := ((slotRow bs).drop (120 * i)).take 120
def sect (count : Nat) (bs : List UInt8) (i : Nat) : List UInt8 := Oct.be 8 count ++ (partOf bs i ++ List.replicate (120 - (partOf bs i).length) 0)
theorem partOf_le (bs : List UInt8) (i : Nat) : (partOf bs i).length ≤ 120 := by unfold partOf; rw [List.length_take]; omega
theorem sect_length (count : Nat) (bs : List UInt8) (i : Nat) : (sect count bs i).length = 128 := by
  have := partOf_le bs i
  simp only [sect, List.length_append, Oct.be_length, List.length_replicate]
  omega
theorem slotRow_length (bs : List UInt8) : (slotRow bs).length = bs.length + 2 := by simp only [slotRow, List.length_append, Oct.be_length]; omega

/-- append of bytes that are read onto a row of the call's own: as a step of a region. -/
theorem step_append_oct {w : World} {ops : Array Oper} {o : Oper} {a : Act} {K : Act → World → Prop} {Q : Exit → Act → World → Prop} {E : Prop} (hgd : o.guard = none) (s x : Operand)
    (ho : o.op = Op.call { callee := Callee.builtin Builtin.append, args := #[s, x], argTypes := #[29, 29] })
    (B n m c : Nat) (v : Value) (A : Option Addr) (xs bs : List UInt8) (hs : a.eval s = v) (hx : a.eval x = .slice A m c)
    (hown : w.ownsRow B 5 1 v n (u8s xs)) (hr : Oct.Rd w A m bs) (hsl : Oct.Sl A m c) (hB : B ≤ w.heap.size) (hm : n + m ≤ 140737488355328)
    (h : ∀ A' c' w', Hid (w'.ownsRow B 5 1 (.slice A' (n + m) c') (n + m) (u8s (xs ++ bs)) ∧ Oct.Sl A' (n + m) c') → Hid (w.grownBy w' v.ownBlock) → K (a.put o.dst (.slice A' (n + m) c')) w') :
    if Region.wanted o (yielded ops a.tmps) = true then Oper.wp Try.prog o a w K Q else E := by
  have hw : Region.wanted o (yielded ops a.tmps) = true := by simp [Region.wanted, hgd]
  rw [if_pos hw]
  obtain ⟨i0, hi, hz0, hz1, hz2⟩ := info_parts Oct.Try.info5
  rcases A with _ | ad
  · obtain ⟨rfl, rfl⟩ := hsl.1 rfl
    have hbs : bs = [] := List.eq_nil_of_length_eq_zero hr.1
    subst hbs
    obtain ⟨A', c', rfl, hsl'⟩ := Oct.own_shape hown
    have hrun := run_append_owned_none (P := Try.prog) w B 29 o.type 5 i0 1 Try.underlying29 hi _ n _ hown
    unfold Oper.wp
    simp [execOp, ho, resolve, invoke, builtin, hs, hx, hrun, Result.andThen]
    have h2 := h A' c' w ⟨by simpa using hown, by simpa using hsl'⟩ (World.grownBy.refl w _)
    rw [Nat.add_zero] at h2
    exact h2
  · have hl : (u8s bs).length = m * 1 := by rw [u8s_length, hr.1]; omega
    refine wp_append_own w s x 29 ho B 5 i0 (.int .u8 0) 1 1 Try.underlying29 hi hz0 hz1 hz2 rfl (by decide) v n _ hs hown ad m c (u8s bs) hx hl ?_ (u8s_one bs) (by unfold maxLen; omega) (by omega) hB ?_
    · intro j u hu
      have hp : 0 < (u8s bs).length := by have := (List.getElem?_eq_some_iff.1 hu).1; omega
      obtain ⟨ad2, had, hc⟩ := hr.src (Below.refl _ w) hp
      injection had with had
      subst had
      exact hc j u hu
    · intro v' w' hv' hg' _
      obtain ⟨A', c', rfl, hsl'⟩ := Oct.own_shape hv'
      exact h A' c' w' ⟨by rw [show u8s (xs ++ bs) = u8s xs ++ u8s bs by simp [u8s]]; exact hv', hsl'⟩ hg'

/-- A row of the call's own that is not empty lies in a block. -/
theorem own_block {w : World} {B n : Nat} {v : Value} {xs : List UInt8} (h : w.ownsRow B 5 1 v n (u8s xs)) (hp : 0 < n) :
    ∃ g cap cur, v = .slice (some ⟨g, 0, none⟩) n cap ∧ B ≤ g ∧ n ≤ cap ∧ cap ≤ 9223372036854775807 ∧ w.heap[g]? = some (.cells cur 5 (0, 0)) ∧ ∀ W : World, W.heap[g]? = some (.cells cur 5 (0, 0)) → Oct.Rd W (some ⟨g, 0, none⟩) n xs := by
  obtain ⟨h1, h2⟩ := h
  rcases h2 with ⟨_, h0⟩ | ⟨g, cap, cur, rfl, hB, hg, hn, hm, r⟩
  · omega
  · exact ⟨g, cap, cur, rfl, hB, hn, by unfold maxLen at hm; omega, hg, fun W hW => Oct.Rd.of_own (B := B) (c := cap) ⟨h1, .inr ⟨g, cap, cur, rfl, hB, hW, hn, hm, r⟩⟩⟩

/-- What stays is read in whatever world. -/
theorem oper_wide {P : Program} {o : Oper} {a : Act} {w : World} {next : Act → World → Prop} {Q : Exit → Act → World → Prop} {n : Nat} (h : o.wp P a w next Q) : o.wpIn Fence.wide n P a w next Q := by
  refine ⟨fun _ _ => trivial, ?_⟩
  have e : (o.semAt Fence.wide.round a.eval) = execOp a.eval o := rfl
  rw [e]
  unfold Oper.wp at h
  generalize (execOp a.eval o).run P w = r at h ⊢
  cases r with
  | ok x w' =>
    cases x with
    | value v => exact h
    | skip => exact h
    | defer d => exact h
    | enter f args =>
      refine ⟨fun h => by simp [Fence.wide] at h, (callsIn_wide (n := n - 1)).2 (h.mono fun E w'' hE => ?_)⟩
      cases E with
      | returned v => exact hE
      | panicked c => exact hE
      | outgrown => exact hE
    | row row args => exact ⟨fun h => by simp [Fence.wide] at h, rowsIn_wide h⟩
    | round => exact h.elim
    | _ => exact False.elim h
  | halt x w' =>
    cases x with
    | panic v => exact h
    | _ => exact h.elim

theorem part_src {w : World} {A : Option Addr} {m k : Nat} {bs : List UInt8} (h : Oct.Rd w A m ((slotRow bs).drop (120 * k))) (hp : 0 < (u8s (partOf bs k)).length) :
    ∃ ad, A = some ad ∧ ∀ j v, (u8s (partOf bs k))[j]? = some v → w.cell? (ad.add j) = some v := by
  have hl : 0 < (u8s ((slotRow bs).drop (120 * k))).length := by
    rw [u8s_length] at hp ⊢
    unfold partOf at hp
    rw [List.length_take] at hp
    omega
  obtain ⟨ad, hA, hc⟩ := h.src (Below.refl _ w) hl
  refine ⟨ad, hA, fun j v hv => hc j v ?_⟩
  have hj : j < (partOf bs k).length := by have := (List.getElem?_eq_some_iff.1 hv).1; rwa [u8s_length] at this
  have hj2 := partOf_le bs k
  simp only [u8s, partOf, List.getElem?_map, List.getElem?_take] at hv ⊢
  rwa [if_pos (by omega)] at hv
theorem drop_next (bs : List UInt8) (k m : Nat) (hm : m = ((slotRow bs).drop (120 * k)).length) : ((slotRow bs).drop (120 * k)).drop (min 120 m) = (slotRow bs).drop (120 * (k + 1)) := by
  rw [List.length_drop] at hm
  rw [List.drop_drop]
  by_cases h : 120 ≤ m
  · rw [Nat.min_eq_left h]; congr 1
  · rw [List.drop_of_length_le (by omega), List.drop_of_length_le (by omega)]
/-- What is left of a slot's bytes behind a sector. -/
theorem next_rest {bs : List UInt8} {k m cm jj : Nat} {B : Option Addr} {Hp : World → Prop} (hsl : Oct.Sl B m cm) (hM : m = ((slotRow bs).drop (120 * k)).length ∧ ∀ W, Hp W → Oct.Rd W B m ((slotRow bs).drop (120 * k))) (hj : jj = min 120 m) :
    Oct.Sl (if cm = jj then B else B.map (·.add jj)) (m - jj) (cm - jj) ∧ (m - jj = ((slotRow bs).drop (120 * (k + 1))).length ∧ ∀ W, Hp W → Oct.Rd W (if cm = jj then B else B.map (·.add jj)) (m - jj) ((slotRow bs).drop (120 * (k + 1)))) := by
  have hjm : jj ≤ m := by omega
  refine ⟨hsl.cut (by omega), ?_, fun W h => ?_⟩
  · have := hM.1
    rw [List.length_drop] at this ⊢
    omega
  · rw [← drop_next bs k m hM.1, ← hj]
    exact (hM.2 W h).cut hjm hsl.2.1
theorem splice_sect (count : Nat) (bs : List UInt8) (k : Nat) : splice (splice (u8s zeros) 0 (u8s (Oct.be 8 count))) 8 (u8s (partOf bs k)) = u8s (sect count bs k) := by
  have h1 : (u8s (Oct.be 8 count)).length = 8 := by rw [u8s_length, Oct.be_length]
  have h2 := partOf_le bs k
  have e1 : splice (u8s zeros) 0 (u8s (Oct.be 8 count)) = u8s (Oct.be 8 count) ++ u8s (List.replicate 120 0) := by
    simp only [splice, List.take_zero, List.nil_append, h1, Nat.zero_add]
    rfl
  rw [e1]
  simp only [splice, sect]
  rw [List.take_append_of_le_length (by omega), List.take_of_length_le (by omega), List.drop_append, h1, List.drop_of_length_le (by rw [h1]; omega), List.nil_append, u8s_length,
    show 8 + (partOf bs k).length - 8 = (partOf bs k).length by omega]
  simp only [u8s, List.map_append, List.map_replicate, List.drop_replicate]
end Go.Proofs.Ytfegffdhlkhjbaa
