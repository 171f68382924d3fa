/-
  What is proved: a request's bytes as the document puts them; a request's tag. Conditions as stated.
-/
import Derived.Test.YtgdcnakcjomllaaDoorV6p
import Derived.Test.YtgdcnakcjomllaaDoorV9p
import Derived.Lib.AppendStr
namespace Go.Proofs.YtgdcnakcjomllaaDoor.Sh
open Go.RowKit
set_option maxRecDepth 100000

/-- While what was handed in by its value lies in the block w.heap.size, and the result in the one behind. -/
structure BxR (w : World) (C Z : List Value) (t u : TypeId) (wr : World) : Prop where
  bel : Below w.heap.size w wr
  lt : w.heap.size + 1 < wr.heap.size
  box : wr.heap[w.heap.size]? = some (.cells C.toArray t (0, 0))
  res : wr.heap[w.heap.size + 1]? = some (.cells Z.toArray u (0, 0))
theorem BxR.start (w : World) (C Z : List Value) (t u : TypeId) : BxR w C Z t u ((w.alloc (.cells C.toArray t)).alloc (.cells Z.toArray u)) :=
  ⟨((Below.refl _ _).alloc (Nat.le_refl _) _).alloc (by simp) _, by simp, by
    have h1 := heap_alloc_new w (.cells C.toArray t)
    exact (((Below.refl _ _).alloc (Nat.le_refl _) (.cells Z.toArray u) : Below (w.alloc (.cells C.toArray t)).heap.size _ _).block w.heap.size (by simp)).trans h1, by simpa using heap_alloc_new (w.alloc (.cells C.toArray t)) (.cells Z.toArray u)⟩
theorem BxR.next {w : World} {C Z : List Value} {t u : TypeId} {wr w' : World} (H : BxR w C Z t u wr) (hb : Below wr.heap.size wr w') : BxR w C Z t u w' :=
  ⟨H.bel.trans (hb.mono H.bel.size), Nat.lt_of_lt_of_le H.lt hb.size, (hb.block _ (by have := H.lt; omega)).trans H.box, (hb.block _ H.lt).trans H.res⟩
theorem BxR.drewN {w : World} {C Z : List Value} {t u : TypeId} {wr : World} (H : BxR w C Z t u wr) (q : Nat) : BxR w C Z t u (wr.drewN q) := ⟨below_drewN H.bel q, H.lt, H.box, H.res⟩
theorem BxR.put {w : World} {C C' Z : List Value} {t u : TypeId} {wr w' : World} (H : BxR w C Z t u wr) (h : w'.heap[w.heap.size]? = some (.cells C'.toArray t (0, 0)) ∧ wr.grownBy w' (some w.heap.size)) : BxR w C' Z t u w' :=
  ⟨H.bel.grown h.2 H.bel.size (fun k hk => by injection hk with hk; omega), Nat.lt_of_lt_of_le H.lt h.2.size, h.1, (h.2.block _ H.lt (fun e => by injection e with e; omega)).trans H.res⟩
theorem BxR.lt0 {w : World} {C Z : List Value} {t u : TypeId} {wr : World} (H : BxR w C Z t u wr) : w.heap.size < wr.heap.size := by have := H.lt; omega

set_option maxHeartbeats 1000000 in
theorem rhalf_ow {B n c : Nat} {w : World} {A : Option Addr} {bs : List UInt8} (num : Nat) (h : Ow B w A n c bs) (hn : n ≤ 100000000) (hnum : num ≤ 65535) :
    Calls Tryd.prog 75 #[.slice A n c, .int .u16 (num : Int)] w fun E w' => ∃ A' c', E = .returned (.slice A' (n + 2) c') ∧ Ow w.heap.size w' A' (n + 2) c' (bs ++ be 2 num) ∧ Hid (Below w.heap.size w w') := by
  have HO := Lib.hid h
  clear h
  have hw : IntKind.u64.wrap (num : Int) = (num : Int) := by rw [IntKind.wrap_u64]; omega
  go_enter Tryd.func75, Tryd.ntmps75
  go_wp2_with (go_at_call 58; go_must (refine (refPut_any A n c bs num 2 w HO.out.rd HO.out.2 (by omega) (by omega)).mono ?_); rintro e w' ⟨A', c', rfl, ho, hb⟩)
  go_ret
  exact ⟨_, _, rfl, ho.out, Lib.hid hb⟩
theorem rtext_ow {B n c : Nat} {w : World} {A : Option Addr} {bs : List UInt8} (s : ByteArray) (h : Ow B w A n c bs) (hn : n ≤ 100000000) (hs : s.size ≤ 65535) :
    Calls Tryd.prog 59 #[.slice A n c, .string s] w fun E w' => ∃ A' n' c', E = .returned (.tuple #[.slice A' n' c', .int .i64 0]) ∧ Ow w.heap.size w' A' n' c' (bs ++ txtB s) ∧ Hid (Below w.heap.size w w') := by
  obtain ⟨i0, hi, hz0, hz1, hz2⟩ := info_parts Tryd.info5
  have HO := Lib.hid h
  clear h
  have hso : ¬ ((s.size : Int) > 65535) := by omega
  have hsn : ¬ (65535 < s.size) := by omega
  have hsm : ¬ ((65535 : Int) < (s.size : Int)) := by omega
  have hw : (s.size : Int) % 65536 = (s.size : Int) := by omega
  go_enter Tryd.func59, Tryd.ntmps59
  go_wp2_with (first
    | (go_at_call 75; refine (rhalf_ow s.size HO.out hn hs).mono ?_; rintro e w' ⟨A1, c1, rfl, ho, hb⟩)
    | (at_builtin; go_must (refine Lib.wpList_append_own_string _ rfl (.tmp 13) (.tmp 14) 63 9 rfl w.heap.size 5 i0 Tryd.underlying63 Tryd.underlying9 hi hz0 hz1 hz2 _ (n + 2) _ rfl ho.1 s rfl (by unfold maxLen; omega) (by omega) hb.out.size ?_); intro v' w2 hv2 hg2 _; obtain ⟨A', c', rfl, hsl⟩ := Oct.own_shape hv2))
  go_ret2
  refine ⟨_, _, _, rfl, ⟨?_, hsl⟩, Lib.hid (hb.out.grown hg2 hb.out.size (fun k hk => (ho.1.lt k hk).1))⟩
  rw [txtB, ← List.append_assoc, u8s_append]
  exact hv2
end Go.Proofs.YtgdcnakcjomllaaDoor.Sh
