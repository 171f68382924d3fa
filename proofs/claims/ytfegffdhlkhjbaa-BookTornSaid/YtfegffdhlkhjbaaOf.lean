/-
  What is proved: what Text and Raw of a cut answer. Conditions as stated.
-/
import Derived.Test.YtfegffdhlkhjbaaOe
namespace Go.Proofs.Ytfegffdhlkhjbaa.Oct
open Go.RowKit
set_option maxRecDepth 100000

theorem raw_cut {lo : Nat} (g : Nat) (rem : List UInt8) (sp : Bool) (k : Int) (w : World) (h : CutAt w lo g rem sp) :
    Calls Try.prog 55 #[.pointer (some ⟨g, 0, none⟩), .int .i64 k] w fun e w' => ∃ A' m c', e = .returned (.slice A' m c') ∧
      Hid (m = (tkOut rem sp k).length ∧ w'.ownsRow w.heap.size 5 1 (.slice A' m c') m (u8s (tkOut rem sp k)) ∧ Sl A' m c') ∧
      CutAt w' lo g (tkRem rem sp k) (!fits rem sp k) ∧ w.grownBy w' (some g) := by
  go_enter Try.func55, Try.ntmps55
  go_wp2_with (go_at_call 69; refine (raw_of_take g rem sp k w h).mono ?_; rintro e w1 ⟨A', m, c', rfl, hh, hc, hg⟩)
  go_ret
  exact ⟨A', m, c', rfl, hh, hc, hg⟩

/-- Bytes as a string. -/
def str (bs : List UInt8) : ByteArray := ⟨bs.toArray⟩

theorem run_string {w : World} {A : Option Addr} {n c : Nat} {bs : List UInt8} (h : Rd w A n bs) : (convert 29 9 (.slice A n c)).run Try.prog w = .ok (.string (str bs)) w := by
  rcases A with _ | ad
  · have h0 : n = 0 := by
      rcases Nat.eq_zero_or_pos n with h0 | h0
      · exact h0
      · obtain ⟨_, _, hA, _⟩ := h.2 h0
        cases hA
    subst h0
    have hb : bs = [] := List.eq_nil_of_length_eq_zero h.1
    subst hb
    exact run_convert_bytes_nil w 29 5 Try.underlying29 Try.underlying5 0 c 9 Try.underlying9
  · rcases Nat.eq_zero_or_pos n with h0 | h0
    · subst h0
      have hb : bs = [] := List.eq_nil_of_length_eq_zero h.1
      subst hb
      rw [run_convert_bytes_string w 29 9 5 _ 0 c Try.underlying29 Try.underlying5 Try.underlying9, run_bytesToString w ad 0 c [] (by simpa using run_loadCells_list (P := Try.prog) w ad [] (by simp))]
      rfl
    · obtain ⟨b, o, hA, _, hc⟩ := h.2 h0
      injection hA with hA
      subst hA
      have := run_convert_bytes_arg (P := Try.prog) w 29 5 Try.underlying29 Try.underlying5 b o n c (bs.map fun x => (x.toNat : Int)) (by rw [List.length_map]; exact h.1) (fun i hi => by
        have hi' : i < bs.length := by rw [h.1]; exact hi
        rw [hc i bs[i] (List.getElem?_eq_getElem hi')]
        simp [List.getD, hi']) 9 Try.underlying9
      rw [this]
      congr 2
      apply ByteArray.ext
      apply Array.toList_inj.1
      rw [strOfNums_data, List.map_map]
      simp only [str]
      conv => rhs; rw [← List.map_id bs]
      apply List.map_congr_left
      intro x _
      simp

/-- string(b). -/
theorem wpList_string {w : World} {ops : Array Oper} {rest : List Oper} {o : Oper} {a : Act} {Q : Exit → Act → World → Prop} (hgd : o.guard = none) (x : Operand)
    (ho : o.op = .convert 29 9 x) (A : Option Addr) (n c : Nat) (bs : List UInt8) (hx : a.eval x = .slice A n c) (hr : Rd w A n bs)
    (h : wpList Try.prog ops Q rest (a.put o.dst (.string (str bs))) w) : wpList Try.prog ops Q (o :: rest) a w := by
  refine wpList_plain hgd fun K hK => ?_
  have hrun := run_string (c := c) hr
  unfold Oper.wp
  simp [execOp, ho, hx, hrun, Result.andThen]
  exact hK _ _ h

end Go.Proofs.Ytfegffdhlkhjbaa.Oct
