/-
  What is proved: a region that draws its order may be walked under a condition on the world that is made stronger on the way; an append into a row with room, told whole. Conditions as stated.
-/
import Derived.Test.YtfmmldpemdodkaaDoorU
import Derived.Deep.RegionHeld
import Derived.RegionTactic
namespace Go.Proofs.YtfmmldpemdodkaaDoor
open Go.RowKit

theorem wpAnyH_mono {P : Program} {md : Region.Mode} {ops : Array Oper} {Q : Exit → Act → World → Prop} {S S' : World → Prop} (hS : ∀ w, S' w → S w) : ∀ (fuel : Nat) (listed : Array Bool) (a : Act) (w : World), wpAnyH P md ops Q S' fuel listed a w → wpAnyH P md ops Q S fuel listed a w
  | 0, _, _, _, h => h
  | fuel + 1, _, _, _, h => ⟨h.1, fun i hi => wpOp_mono (fun a' w' h' => ⟨hS _ h'.1, wpAnyH_mono hS fuel _ a' w' h'.2⟩) (h.2 i hi)⟩

/-- From here on all memory that there is stays as it is. -/
theorem wpAnyH_next {P : Program} {md : Region.Mode} {ops : Array Oper} {Q : Exit → Act → World → Prop} {w0 w1 : World} (hb : Below w0.heap.size w0 w1) {fuel : Nat} {listed : Array Bool} {a : Act}
    (h : wpAnyH P md ops Q (fun W => Below w1.heap.size w1 W) fuel listed a w1) : wpAnyH P md ops Q (fun W => Below w0.heap.size w0 W) fuel listed a w1 :=
  wpAnyH_mono (fun _ h => hb.trans (h.mono hb.size)) _ _ _ _ h

/-- append of bytes that came in into an empty row with room, told whole. -/
theorem wpList_append_into {Pr : Nat → Prop} {w0 w : World} {ops : Array Oper} {rest : List Oper} {o : Oper} {a : Act} {Q : Exit → Act → World → Prop} (hgd : o.guard = none) (s x : Operand)
    (ho : o.op = Op.call { callee := Callee.builtin Builtin.append, args := #[s, x], argTypes := #[22, 22] })
    (g cap m c : Nat) (A : Option Addr) (bs : List UInt8) (hs : a.eval s = .slice (some ⟨g, 0, none⟩) 0 cap) (hx : a.eval x = .slice A m c)
    (hg : Hid (w.heap[g]? = some (.cells (List.replicate cap (Value.int .u8 0)).toArray 5 (0, 0)))) (hr : Rd Pr w A m bs) (hsl : Sl A m c) (hb : Below g w0 w) (hm : m ≤ cap) (hcap : cap ≤ 9223372036854775807)
    (h : ∀ w', Hid (w'.heap[g]? = some (.cells (splice (List.replicate cap (Value.int .u8 0)) 0 (u8s bs)).toArray 5 (0, 0))) → Below g w0 w' → w.heap.size ≤ w'.heap.size → wpList Tryd.prog ops Q rest (a.put o.dst (.slice (some ⟨g, 0, none⟩) m cap)) w') :
    wpList Tryd.prog ops Q (o :: rest) a w := by
  obtain ⟨i0, hi, hz0, hz1, hz2⟩ := info_parts Tryd.info5
  refine wpList_plain hgd fun K hK' => ?_
  rcases A with _ | ad
  · obtain ⟨rfl, rfl⟩ := hsl.1 rfl
    have hbs : bs = [] := List.eq_nil_of_length_eq_zero hr.1
    subst hbs
    have hown : w.ownsRow g 5 1 (.slice (some ⟨g, 0, none⟩) 0 cap) 0 [] := ⟨rfl, .inr ⟨g, cap, _, rfl, Nat.le_refl _, hg.out, Nat.zero_le _, by unfold maxLen; omega, by simp, by simp⟩⟩
    have hrun := run_append_owned_none (P := Tryd.prog) w g 22 o.type 5 i0 1 Tryd.underlying22 hi _ 0 _ hown
    unfold Oper.wp
    simp [execOp, ho, resolve, invoke, builtin, hs, hx, hrun, Result.andThen]
    exact hK' _ _ (h w (by show _ = _; rw [hg.out]; simp [splice, u8s]) hb (Nat.le_refl _))
  · have hl : (u8s bs).length = m * i0.size := by rw [u8s_length, hr.1, hz1]; omega
    have hcells : ∀ j u, (u8s bs)[j]? = some u → w.cell? (ad.add j) = some u := by
      intro j u hu
      have hp : 0 < (u8s bs).length := by have := (List.getElem?_eq_some_iff.1 hu).1; omega
      obtain ⟨ad2, had, hc⟩ := hr.src hp
      injection had with had
      subst had
      exact hc j u hu
    have hrun := run_append_room (P := Tryd.prog) w 22 o.type 5 i0 Tryd.underlying22 hi g 0 cap _ hg.out ad m c (u8s bs) hl hcells (u8s_one bs) (by omega) (by rw [hl, hz1]; simp; omega)
    have hsp : ((List.replicate cap (Value.int .u8 0)).toArray.toList.take (0 * i0.size) ++ u8s bs ++ (List.replicate cap (Value.int .u8 0)).toArray.toList.drop (0 * i0.size + (u8s bs).length)) = splice (List.replicate cap (Value.int .u8 0)) 0 (u8s bs) := by simp [splice]
    rw [hsp, Nat.zero_add] at hrun
    unfold Oper.wp
    simp only [execOp, ho, resolve, invoke, builtin, Sem.run_bind, Sem.run_pure, Result.andThen_ok, List.map_toArray, List.map_cons, List.map_nil, hs, hx, hrun]
    exact hK' _ _ (h _ (setRow_heap w g _ _ 5 _ hg.out) (below_setRow hb (Nat.le_refl _) _) (by simp [World.setRow]))
end Go.Proofs.YtfmmldpemdodkaaDoor
