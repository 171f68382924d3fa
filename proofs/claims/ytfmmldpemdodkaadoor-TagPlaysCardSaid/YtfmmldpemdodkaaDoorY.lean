/-
  What is proved: bytes as a string. Conditions as stated.
-/
import Derived.Test.YtfmmldpemdodkaaDoorU
import Derived.Laws.BytesArg
namespace Go.Proofs.YtfmmldpemdodkaaDoor
open Go.RowKit

theorem Tryd.underlying9' : Tryd.prog.underlying 9 = some .string := by kernel_rfl
/-- Bytes as a string. -/
def str (bs : List UInt8) : ByteArray := ⟨bs.toArray⟩

theorem run_string {P : Nat → Prop} {w : World} {A : Option Addr} {n c : Nat} {bs : List UInt8} (h : Rd P w A n bs) : (convert 22 9 (.slice A n c)).run Tryd.prog w = .ok (.string (str bs)) w := by
  rcases A with _ | ad
  · have h0 : n = 0 := by
      rcases Nat.eq_zero_or_pos n with h0 | h0
      · exact h0
      · obtain ⟨_, _, hA, _⟩ := h.2 h0
        cases hA
    subst h0
    have hb : bs = [] := List.eq_nil_of_length_eq_zero h.1
    subst hb
    exact run_convert_bytes_nil w 22 5 Tryd.underlying22 Tryd.underlying5 0 c 9 Tryd.underlying9'
  · rcases Nat.eq_zero_or_pos n with h0 | h0
    · subst h0
      have hb : bs = [] := List.eq_nil_of_length_eq_zero h.1
      subst hb
      rw [run_convert_bytes_string w 22 9 5 _ 0 c Tryd.underlying22 Tryd.underlying5 Tryd.underlying9', run_bytesToString w ad 0 c [] (by simpa using run_loadCells_list (P := Tryd.prog) w ad [] (by simp))]
      rfl
    · obtain ⟨b, o, hA, _, _, hc⟩ := h.2 h0
      injection hA with hA
      subst hA
      have := run_convert_bytes_arg (P := Tryd.prog) w 22 5 Tryd.underlying22 Tryd.underlying5 b o n c (bs.map fun x => (x.toNat : Int)) (by rw [List.length_map]; exact h.1) (fun i hi => by
        have hi' : i < bs.length := by rw [h.1]; exact hi
        rw [hc i bs[i] (List.getElem?_eq_getElem hi')]
        simp [List.getD, hi']) 9 Tryd.underlying9'
      rw [this]
      congr 2
      apply ByteArray.ext
      apply Array.toList_inj.1
      rw [strOfNums_data, List.map_map]
      simp only [str]
      conv => rhs; rw [← List.map_id bs]
      apply List.map_congr_left
      intro x _
      simp

theorem own_none (w : World) (G : Nat) (hG : w.heap.size = G) : (w.alloc (.cells #[] 5)).ownsRow G 5 1 (.slice (some ⟨G, 0, none⟩) 0 0) 0 (u8s []) := by
  subst hG
  exact World.ownsRow_lit w #[] 0 (Nat.le_refl _) (Nat.zero_le _) rfl

end Go.Proofs.YtfmmldpemdodkaaDoor
