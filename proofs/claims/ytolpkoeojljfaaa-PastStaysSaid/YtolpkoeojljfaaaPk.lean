/-
  What is proved: of no past; steps that came in. Conditions as stated.
-/
import Derived.Test.YtolpkoeojljfaaaPj
import Derived.ProofKit
import Derived.OpenShut
import Derived.SizedLaws
import Derived.Deep.Slices
namespace Go.Proofs.Ytolpkoeojljfaaa
open Go.RowKit Go.ChangeShapes Go.WideShapes Go.Deep
set_option maxRecDepth 100000

theorem does_nil (W : World) (x : MStep) (hx : x.Wf) :
    Calls Try.prog 10 #[.pointer none, .agg (stC x).toArray] W fun E W' => E = .returned (.bool false) ∧ Below W.heap.size W W' := by
  obtain ⟨op, xv, xk, xl⟩ := x
  have hop : op < 256 := hx.op
  simp only [stC]
  have HB : Hid (∀ W' : World, W' = W.alloc (.cells #[.int .u8 (op : Int), .int .u64 (xv : Int), .int .u64 (xk : Int), .int .i64 xl] 30) → ∀ n, Below W.heap.size W (W'.drewN n)) := Lib.hid fun W' e n => by
    subst e; exact below_drewN ((Below.refl _ _).alloc (Nat.le_refl _) _) n
  have HB0 : Hid (∀ W' : World, W' = W.alloc (.cells #[.int .u8 (op : Int), .int .u64 (xv : Int), .int .u64 (xk : Int), .int .i64 xl] 30) → Below W.heap.size W W') := Lib.hid fun W' e => by
    subst e; exact (Below.refl _ _).alloc (Nat.le_refl _) _
  clear hx
  by_cases h0 : op % 4 = 0
  · have e0 : ((op : Int) % 4 == 0) = true := by simp; omega
    go_enter Try.func10, Try.ntmps10
    go_wp2_with (go_at_call 17; refine (change_nil _ _).mono ?_; rintro E w1 ⟨rfl, rfl⟩)
    go_ret
    exact ⟨rfl, HB0.out _ rfl⟩
  · have e0 : ((op : Int) % 4 == 0) = false := by simp; omega
    by_cases h1 : op % 4 = 1
    · have e1 : ((op : Int) % 4 == 1) = true := by simp; omega
      go_enter Try.func10, Try.ntmps10
      go_wp2_with (go_at_call 18; refine (Enter_nil _ _ _).mono ?_; rintro E w1 ⟨rfl, rfl⟩)
      go_ret
      exact ⟨rfl, HB0.out _ rfl⟩
    · have e1 : ((op : Int) % 4 == 1) = false := by simp; omega
      by_cases h2 : op % 4 = 2
      · have e2 : ((op : Int) % 4 == 2) = true := by simp; omega
        go_enter Try.func10, Try.ntmps10
        go_wp2_with (go_at_call 20; refine (Prepare_nil _ _).mono ?_; rintro E w1 ⟨rfl, nq, rfl⟩)
        go_ret
        exact ⟨rfl, HB.out _ rfl _⟩
      · have e2 : ((op : Int) % 4 == 2) = false := by simp; omega
        go_enter Try.func10, Try.ntmps10
        go_wp2_with (go_at_call 16; refine (Commit_nil _ _ _ _).mono ?_; rintro E w1 ⟨rfl, nq, rfl⟩)
        go_ret
        exact ⟨rfl, HB.out _ rfl _⟩
/-! ### what comes in -/
theorem Try.cells30 : Try.prog.cellsOf 30 = 4 := by kernel_rfl
theorem Try.cells5 : Try.prog.cellsOf 5 = 1 := by kernel_rfl
theorem Try.cells23 : Try.prog.cellsOf 23 = 1 := by kernel_rfl
theorem Try.cells3 : Try.prog.cellsOf 3 = 1 := by kernel_rfl
theorem wf_u8 {x : Int} (h : (Lit.int .u8 x).wf = true) : 0 ≤ x ∧ x < 256 := by
  simp [Lit.wf, IntKind.min, IntKind.max, IntKind.signed, IntKind.bits] at h; omega
theorem wf_u64 {x : Int} (h : (Lit.int .u64 x).wf = true) : 0 ≤ x ∧ x < 18446744073709551616 := by
  simp [Lit.wf, IntKind.min, IntKind.max, IntKind.signed, IntKind.bits] at h; omega
theorem wf_i64 {x : Int} (h : (Lit.int .i64 x).wf = true) : -9223372036854775808 ≤ x ∧ x ≤ 9223372036854775807 := by
  simp [Lit.wf, IntKind.min, IntKind.max, IntKind.signed, IntKind.bits] at h; omega
theorem step_of {H : Type} {enc : TypeId × Value → H} {W : World} {base : Nat} {spare : Nat → Bool} {held : Bool} {n : Nat} {cs : List Value} {y : DataW H × List MemPlace}
    (h : DataW.trod enc Try.prog W base spare held n 30 cs = some y) : ∃ x : MStep, cs = stC x ∧ x.Wf := by
  obtain ⟨ys, m, _, _, hlen, hys, hf⟩ := DataW.trod_struct Try.underlying30 h
  rw [Try.cells30] at hlen
  obtain ⟨c0, c1, c2, c3, rfl⟩ : ∃ c0 c1 c2 c3, cs = [c0, c1, c2, c3] := by
    match cs, hlen with
    | [c0, c1, c2, c3], _ => exact ⟨c0, c1, c2, c3, rfl⟩
  have hy3 : ys.length = 4 := hys
  have e0 : DataW.trod enc Try.prog W base spare held m 5 (([c0, c1, c2, c3].drop 0).take (Try.prog.cellsOf 5)) = ys[0]? := hf 0 _ rfl
  have e1 : DataW.trod enc Try.prog W base spare held m 23 (([c0, c1, c2, c3].drop 1).take (Try.prog.cellsOf 23)) = ys[1]? := hf 1 _ rfl
  have e2 : DataW.trod enc Try.prog W base spare held m 23 (([c0, c1, c2, c3].drop 2).take (Try.prog.cellsOf 23)) = ys[2]? := hf 2 _ rfl
  have e3 : DataW.trod enc Try.prog W base spare held m 3 (([c0, c1, c2, c3].drop 3).take (Try.prog.cellsOf 3)) = ys[3]? := hf 3 _ rfl
  rw [Try.cells5, List.getElem?_eq_getElem (by omega)] at e0
  rw [Try.cells23, List.getElem?_eq_getElem (by omega)] at e1 e2
  rw [Try.cells3, List.getElem?_eq_getElem (by omega)] at e3
  obtain ⟨k, h0, _, w0⟩ := DataW.trod_int Try.underlying5 e0
  obtain ⟨a, h1, _, w1⟩ := DataW.trod_int Try.underlying23 e1
  obtain ⟨b, h2, _, w2⟩ := DataW.trod_int Try.underlying23 e2
  obtain ⟨c, h3, _, w3⟩ := DataW.trod_int Try.underlying3 e3
  simp only [List.drop_zero, List.drop_succ_cons, List.take_succ_cons, List.take_zero, List.cons.injEq, and_true] at h0 h1 h2 h3
  subst h0 h1 h2 h3
  have q0 := wf_u8 w0
  have q1 := wf_u64 w1
  have q2 := wf_u64 w2
  have q3 := wf_i64 w3
  refine ⟨⟨k.toNat, a.toNat, b.toNat, c⟩, ?_, ⟨by show k.toNat < _; omega, by show a.toNat < _; omega, by show b.toNat < _; omega, q3.1, q3.2⟩⟩
  show _ = [Value.int .u8 (k.toNat : Int), .int .u64 (a.toNat : Int), .int .u64 (b.toNat : Int), .int .i64 c]
  rw [Int.toNat_of_nonneg q0.1, Int.toNat_of_nonneg q1.1, Int.toNat_of_nonneg q2.1]
theorem step_in {H : Type} {enc : TypeId × Value → H} {W : World} {base b0 : Nat} {r : Reach} {spare : Nat → Bool} {held : Bool} {v : Value} {d : DataW H} {p : List MemPlace}
    (hval : Value.okWide Try.prog W r b0 30 v) (h : DataW.Trod enc Try.prog W base spare held 30 v d p) : ∃ x : MStep, v = .agg (stC x).toArray ∧ x.Wf := by
  simp only [Value.okWide, Try.underlying30] at hval
  obtain ⟨cs, rfl, _⟩ := hval
  obtain ⟨fuel, hf⟩ := h
  obtain ⟨m, hm, h1⟩ := step_of hf
  exact ⟨m, by rw [← hm]; rfl, h1⟩
instance : Inhabited MStep := ⟨⟨0, 0, 0, 0⟩⟩
/-- Steps that came in. -/
def Sts (W : World) (A : Option Addr) (xs : List MStep) : Prop := 0 < xs.length → ∃ b o, A = some ⟨b, o, none⟩ ∧ b < W.heap.size ∧ ∀ (j : Nat) (x : MStep), xs[j]? = some x → W.rangeAt b (o + j * 4) (stC x)
theorem Sts.below {W W' : World} {A : Option Addr} {xs : List MStep} (h : Sts W A xs) (hb : Below W.heap.size W W') : Sts W' A xs := fun hn =>
  let ⟨b, o, e, hl, hc⟩ := h hn
  ⟨b, o, e, Nat.lt_of_lt_of_le hl hb.size, fun j x hx i u hu => (hb.cell (p := ⟨b, _, none⟩) hl).trans (hc j x hx i u hu)⟩
theorem steps_of {H : Type} {enc : TypeId × Value → H} {W : World} {base : Nat} {spare : Nat → Bool} {held : Bool} {A : Option Addr} {n c : Nat} {d : DataW H} {p : List MemPlace}
    (h : DataW.Trod enc Try.prog W base spare held 22 (.slice A n c) d p) : ∃ xs : List MStep, n = xs.length ∧ Sts W A xs ∧ ∀ x ∈ xs, x.Wf := by
  obtain ⟨fuel, hf⟩ := h
  rcases open_slice Try.underlying22 hf with ⟨hcs, _⟩ | ⟨a, len, cap, m, k, D, Pl, hcs, _, hlc, hcm, hm, _, hx⟩
  · simp [Value.cells] at hcs
    obtain ⟨rfl, rfl, rfl⟩ := hcs
    exact ⟨[], rfl, fun h => absurd h (by simp), fun _ h => (by cases h)⟩
  · simp [Value.cells] at hcs
    obtain ⟨rfl, rfl, rfl⟩ := hcs
    rw [Try.cells30] at hx
    have hnm : n ≤ m := by rw [hm]; split <;> omega
    have hx' : ∀ i, i < n → ∃ x : MStep, x.Wf ∧ ∀ j, j < 4 → W.cell? ((a.add (i * 4)).add j) = (stC x)[j]? := by
      intro i hi
      obtain ⟨cs', hc, ht⟩ := hx i (by omega)
      obtain ⟨_, _, hcell⟩ := World.cells?_some hc
      obtain ⟨x, rfl, hw⟩ := step_of ht
      exact ⟨x, hw, fun j hj => by have := hcell j (by omega); rw [this]⟩
    obtain ⟨F, hF⟩ := choose_lt (α := MStep) (p := fun i x => x.Wf ∧ ∀ j, j < 4 → W.cell? ((a.add (i * 4)).add j) = (stC x)[j]?) hx'
    refine ⟨(List.range n).map F, by simp, fun hp => ?_, fun x hx => ?_⟩
    · have hp' : 0 < n := by simpa using hp
      obtain ⟨b, off, spot⟩ := a
      have h0 := (hF 0 hp').2 0 (by omega)
      have hspot : spot = none := by
        have h1 : W.cell? ⟨b, off, spot⟩ = some (.int .u8 ((F 0).op : Int)) := by simpa [Addr.add, stC] using h0
        simpa using World.cell?_spot h1
      subst hspot
      refine ⟨b, off, rfl, ?_, fun j u hu i z hz => ?_⟩
      · have h1 : W.cell? ⟨b, off, none⟩ = some (.int .u8 ((F 0).op : Int)) := by simpa [Addr.add, stC] using h0
        exact World.block_lt_of_cell? W _ h1
      · rw [List.getElem?_map] at hu
        obtain ⟨q, hq1, rfl⟩ := Option.map_eq_some_iff.1 hu
        obtain ⟨hj, rfl⟩ := List.getElem?_eq_some_iff.1 hq1
        simp at hj
        have hi : i < 4 := (List.getElem?_eq_some_iff.1 hz).1
        have h2 := (hF j hj).2 i hi
        rw [Addr.add_lit, Addr.add_lit] at h2
        rw [List.getElem_range] at hz
        exact h2.trans hz
    · obtain ⟨i, hi, rfl⟩ := List.mem_map.1 hx
      exact (hF i (List.mem_range.1 hi)).1
/-- Of no past. -/
theorem nil_walk (W : World) (x : MStep) (hx : x.Wf) :
    Calls Try.prog 5 #[.agg (stC x).toArray] W fun E W' => E = .returned (.bool true) ∧ Below W.heap.size W W' := by
  have HD : Hid (∀ W', W' = W.alloc (.cells (stC x).toArray 30) → Calls Try.prog 10 #[.pointer none, .agg (stC x).toArray] W' fun E W'' => E = .returned (.bool false) ∧ Below W.heap.size W W'') := Lib.hid fun W' e => by
    refine (does_nil W' x hx).mono fun E W'' h => ⟨h.1, ?_⟩
    have hb : Below W.heap.size W W' := by rw [e]; exact (Below.refl _ _).alloc (Nat.le_refl _) _
    exact hb.trans (h.2.mono hb.size)
  have HW : Hid (∀ W', Below W.heap.size W W' → Calls Try.prog 7 #[] W' fun E W'' => E = .returned (.bool true) ∧ Below W.heap.size W W'') := Lib.hid fun W' hb => by
    have hs := hb.size
    refine (works_any (Fr.start W')).mono fun E W'' h => ⟨h.1, hb.trans (h.2.bel.mono hs)⟩
  obtain ⟨op, xv, xk, xl⟩ := x
  simp only [stC] at HD ⊢
  clear hx
  go_enter Try.func5, Try.ntmps5
  go_wp2_with (first
    | (go_at_call 13; refine (voted_nil _ _).mono ?_; rintro E w1 ⟨rfl, rfl⟩)
    | (go_at_call 10; refine (HD.out _ rfl).mono ?_; rintro E w1 ⟨rfl, h⟩; have h1 := Lib.hid h; clear h)
    | (go_at_call 12; refine (great_nil _).mono ?_; rintro E w2 ⟨rfl, rfl⟩)
    | (go_at_call 15; refine (entered_nil _).mono ?_; rintro E w2 ⟨rfl, rfl⟩)
    | (go_at_call 7; refine (HW.out _ h1.out).mono ?_; rintro E w2 ⟨rfl, h⟩; have h2 := Lib.hid h; clear h))
  go_ret
  exact ⟨rfl, h2.out⟩
end Go.Proofs.Ytolpkoeojljfaaa
