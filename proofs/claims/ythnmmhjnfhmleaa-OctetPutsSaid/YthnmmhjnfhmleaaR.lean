/-
  What is proved: laws and contracts for OctetPuts. Conditions as stated.
-/
import Derived.Test.YthnmmhjnfhmleaaQ
import Derived.Deep.RegionHeld3
import Derived.RegionTactic
namespace Go.Proofs.Ythnmmhjnfhmleaa
open Go.RowKit

/-- append of bytes that came in into an empty row with room, told whole. -/
theorem wpList_append_into {w0 w : World} {ops : Array Oper} {rest : List Oper} {o : Oper} {a : Act} {Q : Exit → Act → World → Prop} (hgd : o.guard = none) (s x : Operand)
    (ho : o.op = Op.call { callee := Callee.builtin Builtin.append, args := #[s, x], argTypes := #[22, 22] })
    (g cap m c : Nat) (A : Option Addr) (bs : List UInt8) (hs : a.eval s = .slice (some ⟨g, 0, none⟩) 0 cap) (hx : a.eval x = .slice A m c)
    (hg : Hid (w.heap[g]? = some (.cells (List.replicate cap (Value.int .u8 0)).toArray 5 (0, 0)))) (hr : Rd w A m bs) (hsl : Sl A m c) (hb : Below g w0 w) (hm : m ≤ cap) (hcap : cap ≤ 9223372036854775807)
    (h : ∀ w', Hid (w'.heap[g]? = some (.cells (splice (List.replicate cap (Value.int .u8 0)) 0 (u8s bs)).toArray 5 (0, 0))) → Below g w0 w' → w.heap.size ≤ w'.heap.size → wpList Try.prog ops Q rest (a.put o.dst (.slice (some ⟨g, 0, none⟩) m cap)) w') :
    wpList Try.prog ops Q (o :: rest) a w := by
  obtain ⟨i0, hi, hz0, hz1, hz2⟩ := info_parts Try.info5
  refine wpList_plain hgd fun K hK' => ?_
  rcases A with _ | ad
  · obtain ⟨rfl, rfl⟩ := hsl.1 rfl
    have hbs : bs = [] := List.eq_nil_of_length_eq_zero hr.1
    subst hbs
    have hown : w.ownsRow g 5 1 (.slice (some ⟨g, 0, none⟩) 0 cap) 0 [] := ⟨rfl, .inr ⟨g, cap, _, rfl, Nat.le_refl _, hg.out, Nat.zero_le _, by unfold maxLen; omega, by simp, by simp⟩⟩
    have hrun := run_append_owned_none (P := Try.prog) w g 22 o.type 5 i0 1 Try.underlying22 hi _ 0 _ hown
    unfold Oper.wp
    simp [execOp, ho, resolve, invoke, builtin, hs, hx, hrun, Result.andThen]
    exact hK' _ _ (h w (by show _ = _; rw [hg.out]; simp [splice, u8s]) hb (Nat.le_refl _))
  · have hl : (u8s bs).length = m * i0.size := by rw [u8s_length, hr.1, hz1]; omega
    have hcells : ∀ j u, (u8s bs)[j]? = some u → w.cell? (ad.add j) = some u := by
      intro j u hu
      have hp : 0 < (u8s bs).length := by have := (List.getElem?_eq_some_iff.1 hu).1; omega
      obtain ⟨ad2, had, hc⟩ := hr.src (Below.refl _ _) hp
      injection had with had
      subst had
      exact hc j u hu
    have hrun := run_append_room (P := Try.prog) w 22 o.type 5 i0 Try.underlying22 hi g 0 cap _ hg.out ad m c (u8s bs) hl hcells (u8s_one bs) (by omega) (by rw [hl, hz1]; simp; omega)
    have hsp : ((List.replicate cap (Value.int .u8 0)).toArray.toList.take (0 * i0.size) ++ u8s bs ++ (List.replicate cap (Value.int .u8 0)).toArray.toList.drop (0 * i0.size + (u8s bs).length)) = splice (List.replicate cap (Value.int .u8 0)) 0 (u8s bs) := by simp [splice]
    rw [hsp, Nat.zero_add] at hrun
    unfold Oper.wp
    simp only [execOp, ho, resolve, invoke, builtin, Sem.run_bind, Sem.run_pure, Result.andThen_ok, List.map_toArray, List.map_cons, List.map_nil, hs, hx, hrun]
    exact hK' _ _ (h _ (setRow_heap w g _ _ 5 _ hg.out) (below_setRow hb (Nat.le_refl _) _) (by simp [World.setRow]))

/-- What Text puts. -/
def txt (bs : List UInt8) (s : ByteArray) : List UInt8 := if 65535 < s.size then [] else bs ++ be 2 s.size ++ s.data.toList
def txtErr (s : ByteArray) : Int := if 65535 < s.size then 6 else 0

theorem text_all (A : Option Addr) (n c : Nat) (bs : List UInt8) (s : ByteArray) (w : World) (hr : Rd w A n bs) (hn : n + s.size ≤ 131072) :
    Calls Try.prog 10 #[.slice A n c, .string s] w fun e w' => ∃ A' m c', e = .returned (.tuple #[.slice A' m c', .int .i64 (txtErr s)]) ∧ Hid (Rd w' A' m (txt bs s)) ∧ Below w.heap.size w w' := by
  unfold txt txtErr
  by_cases h : 65535 < s.size
  · rw [if_pos h, if_pos h]
    exact (text_many _ s w h (by omega)).mono fun e w' ⟨he, hw⟩ => hw ▸ ⟨none, 0, 0, he, Rd.nil w, Below.refl _ _⟩
  · rw [if_neg h, if_neg h]
    exact (text_ok A n c bs s w hr (by omega) (by omega)).mono fun e w' ⟨A', c', he, ho, _, hb⟩ => ⟨A', _, c', he, Rd.of_own ho, hb⟩

theorem refText_all (A : Option Addr) (n c : Nat) (bs : List UInt8) (s : ByteArray) (w : World) (hr : Rd w A n bs) (hsl : Sl A n c) (hn : n + s.size ≤ 131072) :
    Calls Try.prog 11 #[.slice A n c, .string s] w fun e w' => ∃ A' m c', e = .returned (.tuple #[.slice A' m c', .int .i64 (txtErr s)]) ∧ Hid (Rd w' A' m (txt bs s)) ∧ Below w.heap.size w w' := by
  unfold txt txtErr
  by_cases h : 65535 < s.size
  · rw [if_pos h, if_pos h]
    exact (refText_many _ s w h (by omega)).mono fun e w' ⟨he, hw⟩ => hw ▸ ⟨none, 0, 0, he, Rd.nil w, Below.refl _ _⟩
  · rw [if_neg h, if_neg h]
    exact (refText_ok A n c bs s w hr hsl (by omega) (by omega)).mono fun e w' ⟨A', c', he, ho, hb⟩ => ⟨A', _, c', he, ho.out.1, hb⟩

theorem conv_at {A : Option Addr} {n c : Nat} {bs : List UInt8} {w : World} (h : Rd w A n bs) {s : ByteArray} (hs : s = str bs) : (convert 22 9 (.slice A n c)).run Try.prog w = .ok (.string s) w := hs ▸ run_string h

theorem conv2_at {A B : Option Addr} {n c m d : Nat} {bs : List UInt8} {w : World} (h : Rd w A n bs) (k : Rd w B m bs) {s : ByteArray} (hs : s = str bs) :
    (convert 22 9 (.slice A n c)).run Try.prog w = .ok (.string s) w ∧ (convert 22 9 (.slice B m d)).run Try.prog w = .ok (.string s) w := ⟨conv_at h hs, conv_at k hs⟩

end Go.Proofs.Ythnmmhjnfhmleaa
