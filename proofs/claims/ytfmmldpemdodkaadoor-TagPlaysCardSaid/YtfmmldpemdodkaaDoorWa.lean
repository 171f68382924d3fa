/-
  What is proved: the chapter's examples of tag hold. Conditions as stated.
-/
import Derived.Lib.SlBytesConst
import Derived.Test.YtfmmldpemdodkaaDoorTf
namespace Go.Proofs.YtfmmldpemdodkaaDoor
open Go.RowKit

/-- What the examples say, as a walk asks it. -/
def Works : Prop := ∀ w : World, KIs w → 0 < w.heap.size → Calls Tryd.prog 8 #[] w fun E w' => E = .returned (.bool true) ∧ Below w.heap.size w w'

theorem range_mark (w : World) (cs : List Value) (t : TypeId) (fr : Nat × Nat) : (w.alloc (.cells cs.toArray t fr)).rangeAt w.heap.size 0 cs := fun j v hv => by
  rw [Nat.zero_add, cell_of_row _ _ j cs.toArray t fr (heap_alloc_new w _)]
  simpa using hv

/-- A text's bytes that were just laid. -/
theorem wpList_text {ops : Array Oper} {rest : List Oper} {op : Oper} {a : Act} {w : World} {Q : Exit → Act → World → Prop} (hgd : op.guard = none) (x : Operand) (ho : op.op = .convert 22 22 x)
    (bs : List UInt8) (C : Array Value) (n : Nat) (hC : C = (u8s bs).toArray) (hx : a.eval x = .slice (some ⟨w.heap.size, 0, none⟩) n n)
    (h : ∀ w2, Hid (Below w.heap.size w w2 ∧ w2.rangeAt w.heap.size 0 (u8s bs) ∧ w.heap.size < w2.heap.size) → wpList Tryd.prog ops Q rest (a.put op.dst (.slice (some ⟨w.heap.size, 0, none⟩) n n)) w2) : wpList Tryd.prog ops Q (op :: rest) a (w.alloc (.cells C 5)) := by
  subst hC
  have hrun := Lib.run_convert_bytes_const (P := Tryd.prog) w 22 5 (u8s bs).toArray n n Tryd.underlying22 Tryd.underlying5
  refine wpList_plain hgd fun K hK => ?_
  unfold Oper.wp execOp
  simp only [ho, hx, Sem.run_bind, Sem.run_pure, Result.andThen_ok, hrun]
  exact hK _ _ (h _ (Lib.hid ⟨(Below.refl _ _).alloc (Nat.le_refl _) _, range_mark w _ _ _, by simp⟩))

def txtHi : List UInt8 := [72, 105, 32, 84, 104, 101, 114, 101]
def txtJefe : List UInt8 := [74, 101, 102, 101]
def txtWhat : List UInt8 := [119, 104, 97, 116, 32, 100, 111, 32, 121, 97, 32, 119, 97, 110, 116, 32, 102, 111, 114, 32, 110, 111, 116, 104, 105, 110, 103, 63]
def k0b : List UInt8 := List.replicate 20 11

theorem Rd.at_range {P : Nat → Prop} {w : World} {g : Nat} {l : List UInt8} (h : w.rangeAt g 0 (u8s l)) (hg : g < w.heap.size) (hp : P g) (o n : Nat) (hn : o + n ≤ l.length) : Rd P w (some ⟨g, o, none⟩) n ((l.drop o).take n) := by
  refine ⟨by simp; omega, fun _ => ⟨g, o, rfl, hg, hp, fun j u hu => ?_⟩⟩
  rw [List.getElem?_take] at hu
  split at hu
  · rw [List.getElem?_drop] at hu
    have := h (o + j) (.int .u8 (u.toNat : Int)) (by simp [u8s, hu])
    rwa [Nat.zero_add] at this
  · cases hu

set_option maxHeartbeats 1000000 in
theorem works_by (d1 d2 : List UInt8) (w : World) (hk : KIs w) (h0 : 0 < w.heap.size) (hd1 : d1.length = 32) (hd2 : d2.length = 32)
    (e1 : str ((d1.drop 0).take 4) = ⟨#[176, 52, 76, 97]⟩) (e2 : str ((d1.drop 28).take 4) = ⟨#[46, 50, 207, 247]⟩) (e3 : str ((d2.drop 0).take 4) = ⟨#[91, 220, 193, 70]⟩) (e4 : str ((d2.drop 28).take 4) = ⟨#[100, 236, 56, 67]⟩)
    (O1 : ∀ (A : Option Addr) (c g : Nat) (w : World), Rd (fun _ => True) w A 20 k0b → Sl A 20 c → g < w.heap.size → w.rangeAt g 0 (u8s txtHi) → KIs w → 0 < w.heap.size → Calls Tryd.prog 9 #[.slice A 20 c, .slice (some ⟨g, 0, none⟩) 8 8] w fun E w' => E = .returned (.agg (u8s d1).toArray) ∧ Below w.heap.size w w')
    (O2 : ∀ (g g' : Nat) (w : World), g < w.heap.size → g' < w.heap.size → w.rangeAt g 0 (u8s txtJefe) → w.rangeAt g' 0 (u8s txtWhat) → KIs w → 0 < w.heap.size → Calls Tryd.prog 9 #[.slice (some ⟨g, 0, none⟩) 4 4, .slice (some ⟨g', 0, none⟩) 28 28] w fun E w' => E = .returned (.agg (u8s d2).toArray) ∧ Below w.heap.size w w')
    (R1 : ∀ w : World, KIs w → 0 < w.heap.size → Calls Tryd.prog 11 #[.int .i64 1] w fun E w' => ∃ A c, E = .returned (.slice A 32 c) ∧ Below w.heap.size w w')
    (R0 : ∀ w : World, KIs w → 0 < w.heap.size → Calls Tryd.prog 11 #[.int .i64 0] w fun E w' => ∃ A c, E = .returned (.slice A 0 c) ∧ Below w.heap.size w w') :
    Calls Tryd.prog 8 #[] w fun E w' => E = .returned (.bool true) ∧ Below w.heap.size w w' := by
  have HK := Lib.hid hk
  have OA := Lib.hid O1
  have OB := Lib.hid O2
  have RA := Lib.hid R1
  have RB := Lib.hid R0
  have HE := Lib.hid (And.intro e1 (And.intro e2 (And.intro e3 e4)))
  have HD1 : Hid (d1.length = 32 ∧ (u8s d1).length = 32) := Lib.hid ⟨hd1, by rw [u8s_length, hd1]⟩
  have HD2 : Hid (d2.length = 32 ∧ (u8s d2).length = 32) := Lib.hid ⟨hd2, by rw [u8s_length, hd2]⟩
  have HI1 : Hid ((Tryd.prog.info? 25).map (·.size) = some (u8s d1).length) := Lib.hid (by rw [HD1.out.2]; exact Tryd.size25)
  have HI2 : Hid ((Tryd.prog.info? 25).map (·.size) = some (u8s d2).length) := Lib.hid (by rw [HD2.out.2]; exact Tryd.size25)
  clear hk O1 O2 R1 R0 e1 e2 e3 e4 hd1 hd2
  go_enter Tryd.func8, Tryd.ntmps8
  go_wp2
  go_loopw [1, 2] (fun v i wr => ∃ (k : Nat) (A : Option Addr) (c : Nat), k ≤ 20 ∧ i = .int .i64 k ∧ v = .slice A k c ∧ Hid (wr.ownsRow w.heap.size 5 1 (.slice A k c) k (u8s (List.replicate k 11)) ∧ Sl A k c) ∧ Below w.heap.size w wr) (fun _ i _ => 20 - (intOf i).toNat)
  case atStart => exact ⟨0, none, 0, by omega, rfl, rfl, Lib.hid ⟨⟨rfl, .inl ⟨rfl, rfl⟩⟩, ⟨fun _ => ⟨rfl, rfl⟩, Nat.le_refl _, by omega⟩⟩, Below.refl _ _⟩
  case round =>
    obtain ⟨k, A, c, hk, rfl, rfl, HW, hb⟩ := hrel
    by_cases hk20 : k < 20
    · go_wp2_with (at_builtin; refine wpList_append_byte_own (w0 := w) rfl (.tmp 9) (.tmp 10) rfl w.heap.size k _ (List.replicate k 11) _ 11 rfl rfl HW.out.1 hb hb.size rfl (by omega) ?_; intro A3 c3 w3 HW3 hb3)
      go_roundw
      case measure => simp [intOf]; omega
      case rel => exact ⟨k + 1, A3, c3, by omega, by go_num, rfl, by rw [List.replicate_succ']; exact HW3, hb3⟩
    · obtain rfl : k = 20 := by omega
      have HB := Lib.hid hb
      clear hb
      go_wp2_with (first
        | ((with_reducible refine wpList_text ?_ (.tmp 13) ?_ txtHi _ 8 ?_ ?_ ?_); (· rfl); (· rfl); (· rfl); (· rfl); intro w1 H1)
        | ((with_reducible refine wpList_text ?_ (.tmp 16) ?_ txtJefe _ 4 ?_ ?_ ?_); (· rfl); (· rfl); (· rfl); (· rfl); intro w4 H4)
        | ((with_reducible refine wpList_text ?_ (.tmp 18) ?_ txtWhat _ 28 ?_ ?_ ?_); (· rfl); (· rfl); (· rfl); (· rfl); intro w5 H5; have HB5 : Hid (Below w.heap.size w w5) := Lib.hid ((HB3.out.trans (H4.out.1.mono HB3.out.size)).trans (H5.out.1.mono (by have := HB3.out.size; have := H4.out.2.2; omega))))
        | (go_at_call_of 9 (Value.slice A 20 c); refine (OA.out A c wr.heap.size w1 (((Rd.of_own HW.out.1).below H1.out.1 (fun _ h _ => h)).mono fun _ _ _ => trivial) HW.out.2 H1.out.2.2 H1.out.2.1 (HK.out.below (HB.out.trans (H1.out.1.mono HB.out.size)) h0) (by have := H1.out.2.2; omega)).mono ?_; rintro E w2 ⟨rfl, hb2⟩; have HB2 : Hid (Below w.heap.size w w2) := Lib.hid ((HB.out.trans (H1.out.1.mono HB.out.size)).trans (hb2.mono (by have := HB.out.size; have := H1.out.2.2; omega))); clear hb2)
        | (go_at_call_of 9 (Value.slice (some ⟨w3.heap.size, 0, none⟩) 4 4); refine (OB.out w3.heap.size w4.heap.size w5 (Nat.lt_trans H4.out.2.2 H5.out.2.2) H5.out.2.2 (rangeAt_below H4.out.2.1 H5.out.1 H4.out.2.2) H5.out.2.1 (HK.out.below HB5.out h0) (by have := H5.out.2.2; omega)).mono ?_; rintro E w6 ⟨rfl, hb6⟩; have HB6 : Hid (Below w.heap.size w w6 ∧ Below w3.heap.size w3 w6) := Lib.hid ⟨HB5.out.trans (hb6.mono HB5.out.size), (H4.out.1.trans (H5.out.1.mono (by have := H4.out.2.2; omega))).trans (hb6.mono (by have := H4.out.2.2; have := H5.out.2.2; omega))⟩; clear hb6)
        | (go_at_call_of 11 (Value.int .i64 1); refine (RA.out w7 (HK.out.below HB7.out.1 h0) (Nat.lt_of_lt_of_le h0 HB7.out.1.size)).mono ?_; rintro E w8 ⟨A8, c8, rfl, hb8⟩; have HB8 : Hid (Below w.heap.size w w8) := Lib.hid (HB7.out.1.trans (hb8.mono HB7.out.1.size)); clear hb8)
        | (go_at_call_of 11 (Value.int .i64 0); refine (RB.out w8 (HK.out.below HB8.out h0) (Nat.lt_of_lt_of_le h0 HB8.out.size)).mono ?_; rintro E w9 ⟨A9, c9, rfl, hb9⟩; have HB9 : Hid (Below w.heap.size w w9) := Lib.hid (HB8.out.trans (hb9.mono HB8.out.size)); clear hb9)
        | ((with_reducible refine wpList_store_fresh ?_ 25 (.tmp 3) (.tmp 15) ?_ (u8s d1) ?_ ?_ ?_ ?_ ?_ ?_); (· rfl); (· rfl); (· rfl); (· rfl); (· rw [HD1.out.2]; rfl); (· exact HI1.out); (· exact u8s_one _); intro w3 H3; have HB3 : Hid (Below w.heap.size w w3) := Lib.hid (HB2.out.trans (H3.out.1.mono HB2.out.size)))
        | ((with_reducible refine wpList_store_fresh ?_ 25 (.tmp 4) (.tmp 20) ?_ (u8s d2) ?_ ?_ ?_ ?_ ?_ ?_); (· rfl); (· rfl); (· rfl); (· rfl); (· rw [HD2.out.2]; rfl); (· exact HI2.out); (· exact u8s_one _); intro w7 H7; have HB7 : Hid (Below w.heap.size w w7 ∧ Below w3.heap.size w3 w7) := Lib.hid ⟨HB6.out.1.trans (H7.out.1.mono HB6.out.1.size), HB6.out.2.trans (H7.out.1.mono HB6.out.2.size)⟩; have hr1 := rangeAt_below H3.out.2.1 HB7.out.2 H3.out.2.2.2; have hg1 : w2.heap.size < w7.heap.size := Nat.lt_of_lt_of_le H3.out.2.2.2 HB7.out.2.size; have hc1 := run_string (c := 32) (Rd.at_range (P := fun _ => True) hr1 hg1 trivial 0 4 (by rw [HD1.out.1]; omega)); have hc2 := run_string (c := 4) (Rd.at_range (P := fun _ => True) hr1 hg1 trivial 28 4 (by rw [HD1.out.1]; omega)); have hc3 := run_string (c := 32) (Rd.at_range (P := fun _ => True) H7.out.2.1 H7.out.2.2.2 trivial 0 4 (by rw [HD2.out.1]; omega)); have hc4 := run_string (c := 4) (Rd.at_range (P := fun _ => True) H7.out.2.1 H7.out.2.2.2 trivial 28 4 (by rw [HD2.out.1]; omega)); rw [HE.out.1] at hc1; rw [HE.out.2.1] at hc2; rw [HE.out.2.2.1] at hc3; rw [HE.out.2.2.2] at hc4; clear hr1 hg1))
      go_ret
      exact ⟨rfl, HB9.out⟩

theorem works_any : Works := fun w hk h0 =>
  works_by (hmac k0b txtHi) (hmac txtJefe txtWhat) w hk h0 (hmac_length _ _) (hmac_length _ _) (by kernel_rfl) (by kernel_rfl) (by kernel_rfl) (by kernel_rfl)
    (fun A c g w hr hs hg hra hk h0 => of_any k0b txtHi A 20 c _ 8 8 w hr hs (Rd.of_range (P := fun _ => True) hra hg trivial (fun _ _ h => h) rfl) ⟨(fun e => by cases e), Nat.le_refl _, by omega⟩ (by omega) (by omega) hk h0)
    (fun g g' w hg hg' h1 h2 hk h0 => of_any txtJefe txtWhat _ 4 4 _ 28 28 w (Rd.of_range (P := fun _ => True) h1 hg trivial (fun _ _ h => h) rfl) ⟨(fun e => by cases e), Nat.le_refl _, by omega⟩ (Rd.of_range (P := fun _ => True) h2 hg' trivial (fun _ _ h => h) rfl) ⟨(fun e => by cases e), Nat.le_refl _, by omega⟩ (by omega) (by omega) hk h0)
    (fun w hk h0 => (replica_any 1 w hk h0).mono fun E w' ⟨A, c, he, _, hb⟩ => ⟨A, c, by rw [he, show (repKey 1).length = 32 from sumOf_length _], hb⟩)
    (fun w hk h0 => (replica_any 0 w hk h0).mono fun E w' ⟨A, c, he, _, hb⟩ => ⟨A, c, by rw [he]; rfl, hb⟩)
end Go.Proofs.YtfmmldpemdodkaaDoor
