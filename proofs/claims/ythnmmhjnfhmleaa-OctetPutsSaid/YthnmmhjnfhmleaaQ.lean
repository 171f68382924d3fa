/-
  What is proved: what the document's own Word, Half and Text put. Conditions as stated.
-/
import Derived.Test.YthnmmhjnfhmleaaJ
namespace Go.Proofs.Ythnmmhjnfhmleaa
open Go.RowKit

/-- append of bytes that came in onto a row of the call's own. -/
theorem wpList_append_rd {w0 w : World} {ops : Array Oper} {rest : List Oper} {o : Oper} {a : Act} {Q : Exit → Act → World → Prop} (hgd : o.guard = none) (s x : Operand)
    (ho : o.op = Op.call { callee := Callee.builtin Builtin.append, args := #[s, x], argTypes := #[22, 22] })
    (B n m c : Nat) (v : Value) (A : Option Addr) (xs bs : List UInt8) (hs : a.eval s = v) (hx : a.eval x = .slice A m c)
    (hown : w.ownsRow B 5 1 v n (u8s xs)) (hr : Rd w A m bs) (hsl : Sl A m c) (hb : Below B w0 w) (hB : B ≤ w.heap.size) (hm : n + m ≤ 140737488355328)
    (h : ∀ A' c' w', Hid (w'.ownsRow B 5 1 (.slice A' (n + m) c') (n + m) (u8s (xs ++ bs)) ∧ Sl A' (n + m) c') → Below B w0 w' → wpList Try.prog ops Q rest (a.put o.dst (.slice A' (n + m) c')) w') :
    wpList Try.prog ops Q (o :: rest) a w := by
  obtain ⟨i0, hi, hz0, hz1, hz2⟩ := info_parts Try.info5
  rcases A with _ | ad
  · obtain ⟨rfl, rfl⟩ := hsl.1 rfl
    have hbs : bs = [] := List.eq_nil_of_length_eq_zero hr.1
    subst hbs
    obtain ⟨A', c', rfl, hsl'⟩ := own_shape hown
    refine wpList_plain hgd fun K hK' => ?_
    have hrun := run_append_owned_none (P := Try.prog) w B 22 o.type 5 i0 1 Try.underlying22 hi _ n _ hown
    unfold Oper.wp
    simp [execOp, ho, resolve, invoke, builtin, hs, hx, hrun, Result.andThen]
    exact hK' _ _ (by simpa using h A' c' w ⟨by simpa using hown, by simpa using hsl'⟩ hb)
  · have hl : (u8s bs).length = m * 1 := by rw [u8s_length, hr.1]; omega
    refine wpList_append_own _ hgd s x 22 ho B 5 i0 (.int .u8 0) 1 1 Try.underlying22 hi hz0 hz1 hz2 rfl (by decide) v n _ hs hown ad m c (u8s bs) hx hl ?_ (u8s_one bs) (by unfold maxLen; omega) (by omega) hB ?_
    · intro j u hu
      have hp : 0 < (u8s bs).length := by have := (List.getElem?_eq_some_iff.1 hu).1; omega
      obtain ⟨ad2, had, hc⟩ := hr.src (Below.refl _ _) hp
      injection had with had
      subst had
      exact hc j u hu
    · intro v' w' hv' hg' _
      obtain ⟨A', c', rfl, hsl'⟩ := own_shape hv'
      exact h A' c' w' ⟨by rw [u8s_append]; exact hv', hsl'⟩ (hb.grown hg' hB (fun k hk => (hown.lt k hk).1))

/-- append of one byte that may grow. -/
theorem wpList_append_byte_own {w0 wr : World} {ops : Array Oper} {rest : List Oper} {o : Oper} {a : Act} {Q : Exit → Act → World → Prop} (hgd : o.guard = none) (s x : Operand)
    (ho : o.op = Op.call { callee := Callee.builtin Builtin.append, args := #[s, x], argTypes := #[22, 22] })
    (B n : Nat) (v : Value) (xs : List UInt8) (z : Int) (u : UInt8) (hs : a.eval s = v) (hx : a.eval x = .slice (some ⟨wr.heap.size, 0, none⟩) 1 1)
    (hown : wr.ownsRow B 5 1 v n (u8s xs)) (hb : Below B w0 wr) (hB : B ≤ wr.heap.size) (hz : z = (u.toNat : Int)) (hm : n + 1 ≤ 140737488355328)
    (h : ∀ A' c' w', Hid (w'.ownsRow B 5 1 (.slice A' (n + 1) c') (n + 1) (u8s (xs ++ [u])) ∧ Sl A' (n + 1) c') → Below B w0 w' → wpList Try.prog ops Q rest (a.put o.dst (.slice A' (n + 1) c')) w') :
    wpList Try.prog ops Q (o :: rest) a (wr.alloc (.cells #[.int .u8 z] 5)) := by
  refine wpList_append_rd (w0 := w0) hgd s x ho B n 1 1 v _ xs [u] hs hx (hown.alloc _) ⟨rfl, fun _ => ⟨_, 0, rfl, by simp, fun j y hy => ?_⟩⟩ ⟨(fun h => (by cases h)), Nat.le_refl _, by omega⟩ (hb.alloc hB _) (by simp; omega) hm h
  match j, hy with
  | 0, hy =>
    simp at hy
    subst hy hz
    exact cell_of_row _ _ 0 _ 5 (0, 0) (heap_alloc_new wr _)

set_option maxHeartbeats 400000 in
theorem refPut_any (A : Option Addr) (n c : Nat) (bs : List UInt8) (num size : Nat) (w : World) (hr : Rd w A n bs) (hsl : Sl A n c) (hn : n ≤ 140737488300000) (hs : size ≤ 8) :
    Calls Try.prog 33 #[.slice A n c, .int .u64 num, .int .i64 size] w fun e w' => ∃ A' c', e = .returned (.slice A' (n + size) c') ∧
      Hid (w'.ownsRow w.heap.size 5 1 (.slice A' (n + size) c') (n + size) (u8s (bs ++ be size num)) ∧ Sl A' (n + size) c') ∧ Below w.heap.size w w' := by
  have HR : Hid (Rd w A n bs) := hr
  have HSL : Hid (Sl A n c) := hsl
  clear hr hsl
  go_enter Try.func33, Try.ntmps33
  go_wp2_with (at_builtin; go_must (refine wpList_append_rd (w0 := w) rfl (.tmp 9) (.tmp 10) rfl w.heap.size 0 n c _ A [] bs rfl rfl (World.ownsRow_lit w #[] 0 (Nat.le_refl _) (Nat.zero_le _) rfl) (HR.out.below ((Below.refl _ _).alloc (Nat.le_refl _) _)) HSL.out ((Below.refl _ _).alloc (Nat.le_refl _) _) (by simp) (by omega) ?_); intro A1 c1 w1 h1 hb1; rw [Nat.zero_add, List.nil_append] at h1; rw [Nat.zero_add])
  go_loopw [7, 8] (fun v i wr => ∃ (j : Nat) (z : Int) (A2 : Option Addr) (c2 : Nat), j ≤ size ∧ i = .int .i64 z ∧ z = (j : Int) - 1 ∧ v = .slice A2 (n + (size - j)) c2 ∧
      Hid (wr.ownsRow w.heap.size 5 1 (.slice A2 (n + (size - j)) c2) (n + (size - j)) (u8s (bs ++ beTake size num (size - j))) ∧ Sl A2 (n + (size - j)) c2) ∧ Below w.heap.size w wr)
    (fun _ i _ => (intOf i + 1).toNat)
  case atStart => exact ⟨size, _, A1, c1, Nat.le_refl _, rfl, rfl, by rw [Nat.sub_self]; rfl, by rw [Nat.sub_self]; simpa [beTake] using h1, hb1⟩
  case round =>
    obtain ⟨j, z, A2, c2, hj, rfl, hz, rfl, HW, hb⟩ := hrel
    by_cases h0 : j = 0
    · subst h0
      obtain rfl : z = -1 := by omega
      clear hz hj
      go_wp2
      go_ret
      exact ⟨A2, c2, rfl, HW, hb⟩
    · obtain ⟨t, rfl⟩ : ∃ t, j = t + 1 := ⟨j - 1, by omega⟩
      obtain rfl : z = (t : Int) := by omega
      obtain ⟨k, hk, hkk⟩ : ∃ k, k = size - (t + 1) ∧ t = size - 1 - k := ⟨_, rfl, by omega⟩
      rw [← hk] at HW ⊢
      have HK := Lib.hid hk
      have HKK := Lib.hid hkk
      clear hz h0 hk hkk
      have hk8 : n + k ≤ 140737488300008 := by have := HK.out; omega
      have ht : t < 8 := by omega
      have hbc : (num : Int) / 2 ^ (8 * t) % 256 = ((beAt size num k).toNat : Int) := by rw [HKK.out]; exact be_cell size num k
      have HBC := Lib.hid hbc
      clear hbc
      go_wp2_with (at_builtin; go_must (refine wpList_append_byte_own (w0 := w) rfl (.tmp 18) (.tmp 25) rfl w.heap.size (n + k) _ (bs ++ beTake size num k) _ (beAt size num k) rfl rfl HW.out.1 hb hb.size HBC.out (by omega) ?_); intro A3 c3 w3 HW3 hb3)
      go_roundw
      case rel => exact ⟨t, (t : Int) - 1, A3, c3, by omega, by go_num, rfl, by rw [show size - t = k + 1 by have := HK.out; omega]; rfl, by rw [show size - t = k + 1 by have := HK.out; omega, beTake_succ, ← List.append_assoc]; exact HW3, hb3⟩
      case measure => simp [intOf]

theorem refWord_any (A : Option Addr) (n c : Nat) (bs : List UInt8) (num : Nat) (w : World) (hr : Rd w A n bs) (hsl : Sl A n c) (hn : n ≤ 140737488300000) :
    Calls Try.prog 13 #[.slice A n c, .int .u64 num] w fun e w' => ∃ A' c', e = .returned (.slice A' (n + 8) c') ∧ Hid (Rd w' A' (n + 8) (bs ++ be 8 num) ∧ Sl A' (n + 8) c') ∧ Below w.heap.size w w' := by
  go_enter Try.func13, Try.ntmps13
  go_wp2_with (go_at_call 33; go_must (refine (refPut_any A n c bs num 8 w hr hsl hn (by omega)).mono ?_); rintro e w' ⟨A', c', rfl, ho, hb⟩)
  go_ret
  exact ⟨_, _, rfl, ⟨Rd.of_own ho.out.1, ho.out.2⟩, hb⟩

theorem refHalf_any (A : Option Addr) (n c : Nat) (bs : List UInt8) (num : Nat) (w : World) (hr : Rd w A n bs) (hsl : Sl A n c) (hn : n ≤ 140737488300000) (hnum : num < 65536) :
    Calls Try.prog 15 #[.slice A n c, .int .u16 num] w fun e w' => ∃ A' c', e = .returned (.slice A' (n + 2) c') ∧ Hid (w'.ownsRow w.heap.size 5 1 (.slice A' (n + 2) c') (n + 2) (u8s (bs ++ be 2 num)) ∧ Sl A' (n + 2) c') ∧ Below w.heap.size w w' := by
  go_enter Try.func15, Try.ntmps15
  go_wp2_with (go_at_call 33; go_must (refine (refPut_any A n c bs num 2 w hr hsl hn (by omega)).mono ?_); rintro e w' ⟨A', c', rfl, ho, hb⟩)
  go_ret
  exact ⟨_, _, rfl, ho, hb⟩

theorem refText_many (v : Value) (s : ByteArray) (w : World) (hs : 65535 < s.size) (hm : s.size ≤ 140737488355328) :
    Calls Try.prog 11 #[v, .string s] w fun e w' => e = .returned (.tuple #[.slice none 0 0, .int .i64 6]) ∧ w = w' := by
  go_enter Try.func11, Try.ntmps11
  go_wp2
  go_ret2
  exact ⟨rfl, rfl⟩

theorem refText_ok (A : Option Addr) (n c : Nat) (bs : List UInt8) (s : ByteArray) (w : World) (hr : Rd w A n bs) (hsl : Sl A n c) (hn : n ≤ 140737488200000) (hs : s.size ≤ 65535) :
    Calls Try.prog 11 #[.slice A n c, .string s] w fun e w' => ∃ A' c', e = .returned (.tuple #[.slice A' (n + 2 + s.size) c', .int .i64 0]) ∧
      Hid (Rd w' A' (n + 2 + s.size) (bs ++ be 2 s.size ++ s.data.toList) ∧ Sl A' (n + 2 + s.size) c') ∧ Below w.heap.size w w' := by
  obtain ⟨i0, hi, hz0, hz1, hz2⟩ := info_parts Try.info5
  have hw : (s.size : Int) % 65536 = (s.size : Int) := by omega
  go_enter Try.func11, Try.ntmps11
  go_wp2_with (first
    | (go_at_call 15; go_must (refine (refHalf_any A n c bs s.size w hr hsl (by omega) (by omega)).mono ?_); rintro e w' ⟨A1, c1, rfl, ho, hb⟩)
    | (at_builtin; go_must (refine Lib.wpList_append_own_string _ rfl (.tmp 13) (.tmp 14) 22 9 rfl w.heap.size 5 i0 Try.underlying22 Try.underlying9 hi hz0 hz1 hz2 _ (n + 2) _ rfl ho.out.1 s rfl (by unfold maxLen; omega) (by omega) hb.size ?_); intro v' w2 hv2 hg2 _; obtain ⟨A', c', rfl, hsl'⟩ := own_shape hv2))
  go_ret2
  refine ⟨_, _, rfl, ⟨Rd.of_own (B := w.heap.size) (c := c') ?_, hsl'⟩, hb.grown hg2 hb.size (fun k hk => (ho.out.1.lt k hk).1)⟩
  rw [u8s_append]
  exact hv2

end Go.Proofs.Ythnmmhjnfhmleaa
