/-
  What is proved: what comes in: requests, what clients were answered. Conditions as stated.
-/
import Derived.Test.YtflenghnmflenaaDoorLw
import Derived.Test.YtflenghnmflenaaDoorUa
import Derived.SizedLaws
namespace Go.Proofs.YtflenghnmflenaaDoor
open Go.RowKit Go.ChangeShapes Go.WideShapes Go.Deep
set_option maxRecDepth 100000

section
variable {H : Type} {enc : TypeId × Value → H} {W : World} {base : Nat} {spare : Nat → Bool} {held : Bool} {n : Nat} {cs : List Value} {y : DataW H × List MemPlace}
theorem Tryd.cc52 : Tryd.prog.cellsOf 52 = 40 := by kernel_rfl
theorem Tryd.cc50 : Tryd.prog.cellsOf 50 = 32 := by kernel_rfl
theorem Tryd.cc3 : Tryd.prog.cellsOf 3 = 1 := by kernel_rfl
theorem Tryd.cc34 : Tryd.prog.cellsOf 34 = 3 := by kernel_rfl
theorem Tryd.cc32 : Tryd.prog.cellsOf 32 = 2 := by kernel_rfl
theorem Tryd.cc27 : Tryd.prog.cellsOf 27 = 1 := by kernel_rfl
theorem Tryd.bytes52 : Tryd.prog.bytesOf 52 = 128 := by kernel_rfl
theorem rq_of (h : DataW.trod enc Tryd.prog W base spare held n 52 cs = some y) : ∃ q : MRq, cs = rqC q ∧ q.tag.length = 32 ∧ (q.time < 18446744073709551616 ∧ q.op.amount < 18446744073709551616 ∧ (Lit.int .i64 q.client).wf = true) := by
  obtain ⟨ys, m, _, _, hlen, hys, hf⟩ := DataW.trod_struct Tryd.underlying52 h
  rw [Tryd.cc52] at hlen
  have hy : ys.length = 4 := hys
  have f0 : DataW.trod enc Tryd.prog W base spare held m 3 ((cs.drop 0).take (Tryd.prog.cellsOf 3)) = ys[0]? := hf 0 _ rfl
  rw [Tryd.cc3] at f0
  obtain ⟨_, e0⟩ := some_at (by omega) f0
  have f1 : DataW.trod enc Tryd.prog W base spare held m 30 ((cs.drop 1).take (Tryd.prog.cellsOf 30)) = ys[1]? := hf 1 _ rfl
  rw [Tryd.cc30] at f1
  obtain ⟨_, e1⟩ := some_at (by omega) f1
  have f2 : DataW.trod enc Tryd.prog W base spare held m 49 ((cs.drop 2).take (Tryd.prog.cellsOf 49)) = ys[2]? := hf 2 _ rfl
  rw [Tryd.cc49] at f2
  obtain ⟨_, e2⟩ := some_at (by omega) f2
  obtain ⟨z0, h0, w0⟩ := int_of Tryd.underlying3 e0
  obtain ⟨z1, h1, w1⟩ := int_of Tryd.underlying30 e1
  obtain ⟨o, h2, ho⟩ := op_of e2
  have hp := pieces (cs := cs) [1, 1, 6, 32] 0 (by simp; omega)
  refine ⟨⟨z0, z1.toNat, o, (cs.drop 8).take 32⟩, ?_, ?_, ?_, ho, w0⟩
  · rw [List.drop_zero] at hp
    show cs = rqC _
    rw [hp]
    unfold rqC
    rw [← nat_of_u64 w1]
    show (cs.drop 0).take 1 ++ ((cs.drop 1).take 1 ++ ((cs.drop 2).take 6 ++ ((cs.drop 8).take 32 ++ []))) = _
    rw [h0, h1, h2, ← hp]
    simp
  · simp; omega
  · have := w1
    simp [Lit.wf, IntKind.min, IntKind.max, IntKind.signed, IntKind.bits] at this
    show z1.toNat < _
    omega
theorem rp_of (h : DataW.trod enc Tryd.prog W base spare held n 32 cs = some y) : ∃ p : Lrp, cs = lrC p := by
  obtain ⟨ys, m, _, _, hlen, hys, hf⟩ := DataW.trod_struct Tryd.underlying32 h
  rw [Tryd.cc32] at hlen
  have hy : ys.length = 2 := hys
  have f0 : DataW.trod enc Tryd.prog W base spare held m 27 ((cs.drop 0).take (Tryd.prog.cellsOf 27)) = ys[0]? := hf 0 _ rfl
  rw [Tryd.cc27] at f0
  obtain ⟨_, e0⟩ := some_at (by omega) f0
  have f1 : DataW.trod enc Tryd.prog W base spare held m 9 ((cs.drop 1).take (Tryd.prog.cellsOf 9)) = ys[1]? := hf 1 _ rfl
  rw [Tryd.cc9] at f1
  obtain ⟨_, e1⟩ := some_at (by omega) f1
  obtain ⟨z0, h0, w0⟩ := int_of Tryd.underlying27 e0
  obtain ⟨z1, h1⟩ := str_of e1
  have hp := pieces (cs := cs) [1, 1] 0 (by simp; omega)
  refine ⟨(z0, z1), ?_⟩
  rw [List.drop_zero] at hp
  rw [hp]
  show (cs.drop 0).take 1 ++ ((cs.drop 1).take 1 ++ []) = _
  rw [h0, h1]
  rfl
theorem ls_of (h : DataW.trod enc Tryd.prog W base spare held n 34 cs = some y) : ∃ p : Lst, cs = lsC p := by
  obtain ⟨ys, m, _, _, hlen, hys, hf⟩ := DataW.trod_struct Tryd.underlying34 h
  rw [Tryd.cc34] at hlen
  have hy : ys.length = 2 := hys
  have f0 : DataW.trod enc Tryd.prog W base spare held m 30 ((cs.drop 0).take (Tryd.prog.cellsOf 30)) = ys[0]? := hf 0 _ rfl
  rw [Tryd.cc30] at f0
  obtain ⟨_, e0⟩ := some_at (by omega) f0
  have f1 : DataW.trod enc Tryd.prog W base spare held m 32 ((cs.drop 1).take (Tryd.prog.cellsOf 32)) = ys[1]? := hf 1 _ rfl
  rw [Tryd.cc32] at f1
  obtain ⟨_, e1⟩ := some_at (by omega) f1
  obtain ⟨z0, h0, w0⟩ := int_of Tryd.underlying30 e0
  obtain ⟨p, h1⟩ := rp_of e1
  have hp := pieces (cs := cs) [1, 2] 0 (by simp; omega)
  refine ⟨(z0.toNat, p), ?_⟩
  rw [List.drop_zero] at hp
  rw [hp]
  unfold lsC
  rw [← nat_of_u64 w0]
  show (cs.drop 0).take 1 ++ ((cs.drop 1).take 2 ++ []) = _
  rw [h0, h1]
  rfl
end
theorem rq_in {H : Type} {enc : TypeId × Value → H} {W : World} {base b0 : Nat} {r : Reach} {spare : Nat → Bool} {held : Bool} {v : Value} {d : DataW H} {p : List MemPlace}
    (hval : Value.okWide Tryd.prog W r b0 52 v) (h : DataW.Trod enc Tryd.prog W base spare held 52 v d p) : ∃ q : MRq, v = .agg (rqC q).toArray ∧ q.tag.length = 32 ∧ (q.time < 18446744073709551616 ∧ q.op.amount < 18446744073709551616 ∧ (Lit.int .i64 q.client).wf = true) := by
  simp only [Value.okWide, Tryd.underlying52] at hval
  obtain ⟨cs, rfl, _⟩ := hval
  obtain ⟨fuel, hf⟩ := h
  obtain ⟨m, hm, ha⟩ := rq_of hf
  exact ⟨m, by rw [← hm]; rfl, ha⟩
instance : Inhabited MRq := ⟨⟨0, 0, default, []⟩⟩
theorem rqs_of {H : Type} {enc : TypeId × Value → H} {W : World} {base : Nat} {spare : Nat → Bool} {held : Bool} {A : Option Addr} {n c : Nat} {d : DataW H} {p : List MemPlace}
    (h : DataW.Trod enc Tryd.prog W base spare held 23 (.slice A n c) d p) : ∃ qs : List MRq, qs.length = n ∧ Rqs W A qs := by
  obtain ⟨fuel, hf⟩ := h
  rcases open_slice Tryd.underlying23 hf with ⟨hcs, _⟩ | ⟨a, len, cap, m, k, D, Pl, hcs, _, hlc, hcm, hm, _, hx⟩
  · simp [Value.cells] at hcs
    obtain ⟨rfl, rfl, rfl⟩ := hcs
    exact ⟨[], rfl, fun h => absurd h (by simp), (fun o ho => by cases ho), (fun o ho => by cases ho)⟩
  · simp [Value.cells] at hcs
    obtain ⟨rfl, rfl, rfl⟩ := hcs
    rw [Tryd.cc52] at hx
    have hnm : n ≤ m := by rw [hm]; split <;> omega
    have hx' : ∀ i, i < n → ∃ x : MRq, (∀ j v, (rqC x)[j]? = some v → W.cell? ((a.add (i * 40)).add j) = some v) ∧ x.tag.length = 32 ∧ (x.time < 18446744073709551616 ∧ x.op.amount < 18446744073709551616 ∧ (Lit.int .i64 x.client).wf = true) := by
      intro i hi
      obtain ⟨cs', hc, ht⟩ := hx i (by omega)
      obtain ⟨hl, _, hcell⟩ := World.cells?_some hc
      obtain ⟨x, rfl, ha, hb⟩ := rq_of ht
      refine ⟨x, fun j v hv => ?_, ha, hb⟩
      have hj : j < 40 := by have := (List.getElem?_eq_some_iff.1 hv).1; rw [rqC_length, ha] at this; exact this
      rw [hcell j hj]
      exact hv
    obtain ⟨F, hF⟩ := choose_lt (α := MRq) (p := fun i x => (∀ j v, (rqC x)[j]? = some v → W.cell? ((a.add (i * 40)).add j) = some v) ∧ x.tag.length = 32 ∧ (x.time < 18446744073709551616 ∧ x.op.amount < 18446744073709551616 ∧ (Lit.int .i64 x.client).wf = true)) hx'
    refine ⟨(List.range n).map F, by simp, fun hp => ?_, fun o ho => ?_, fun o ho => ?_⟩
    · have hp0 : 0 < n := by simpa using hp
      obtain ⟨b, off, spot⟩ := a
      have h00 := (hF 0 hp0).1 0 _ (rq_0 _)
      have hspot : spot = none := by simpa [Addr.add] using World.cell?_spot h00
      subst hspot
      refine ⟨b, off, rfl, ?_, fun j u hu => ?_⟩
      · rw [add_plain2] at h00
        exact World.block_lt_of_cell? W _ h00
      · rw [List.getElem?_map] at hu
        obtain ⟨z, hz1, rfl⟩ := Option.map_eq_some_iff.1 hu
        obtain ⟨hj, rfl⟩ := List.getElem?_eq_some_iff.1 hz1
        simp at hj
        obtain ⟨h1, _⟩ := hF j hj
        simp
        intro i v hv
        have := h1 i v hv
        rwa [add_plain2] at this
    · obtain ⟨i, hi, rfl⟩ := List.mem_map.1 ho
      exact (hF i (List.mem_range.1 hi)).2.1
    · obtain ⟨i, hi, rfl⟩ := List.mem_map.1 ho
      exact (hF i (List.mem_range.1 hi)).2.2
theorem rqs_reach {H : Type} {enc : TypeId × Value → H} {W : World} {base : Nat} {spare : Nat → Bool} {held : Bool} {A : Option Addr} {n c : Nat} {d : DataW H} {p : List MemPlace} {ts : List TypeId} {ds : List (DataW H)} {j : Nat}
    (hsz : (DataW.weightsEach Tryd.prog ts ds).all (· ≤ reachBytes) = true) (ht : ts[j]? = some 23) (hd : ds[j]? = some d) (h : DataW.Trod enc Tryd.prog W base spare held 23 (.slice A n c) d p) : n ≤ 1099511627776 := by
  obtain ⟨fuel, hf⟩ := h
  rcases open_slice Tryd.underlying23 hf with ⟨hcs, _⟩ | ⟨a, len, cap, m, k, D, Pl, hcs, _, hlc, hcm, hm, hx, _⟩
  · simp [Value.cells] at hcs
    omega
  · simp [Value.cells] at hcs
    obtain ⟨rfl, rfl, rfl⟩ := hcs
    injection hx with hx1 hx2
    subst hx1
    have h2 := sized_slice hsz ht hd Tryd.underlying23
    rw [Tryd.bytes52] at h2
    simp at h2
    unfold reachBytes at h2
    omega
theorem lss_of {H : Type} {enc : TypeId × Value → H} {W : World} {base : Nat} {spare : Nat → Bool} {held : Bool} {A : Option Addr} {n c : Nat} {d : DataW H} {p : List MemPlace}
    (h : DataW.Trod enc Tryd.prog W base spare held 22 (.slice A n c) d p) : ∃ T : List Lst, T.length = n ∧ Lss W A T ∧ n ≤ c ∧ c ≤ 9223372036854775807 ∧ (A = none → c = 0) := by
  obtain ⟨fuel, hf⟩ := h
  rcases open_slice Tryd.underlying22 hf with ⟨hcs, _⟩ | ⟨a, len, cap, m, k, D, Pl, hcs, _, hlc, hcm, hm, _, hx⟩
  · simp [Value.cells] at hcs
    obtain ⟨rfl, rfl, rfl⟩ := hcs
    exact ⟨[], rfl, fun h => absurd h (by simp), Nat.le_refl _, by omega, fun _ => rfl⟩
  · simp [Value.cells] at hcs
    obtain ⟨rfl, rfl, rfl⟩ := hcs
    rw [Tryd.cc34] at hx
    have hnm : n ≤ m := by rw [hm]; split <;> omega
    have hx' : ∀ i, i < n → ∃ x : Lst, (∀ j v, (lsC x)[j]? = some v → W.cell? ((a.add (i * 3)).add j) = some v) := by
      intro i hi
      obtain ⟨cs', hc, ht⟩ := hx i (by omega)
      obtain ⟨hl, _, hcell⟩ := World.cells?_some hc
      obtain ⟨x, rfl⟩ := ls_of ht
      refine ⟨x, fun j v hv => ?_⟩
      have hj : j < 3 := (List.getElem?_eq_some_iff.1 hv).1
      rw [hcell j hj]
      exact hv
    obtain ⟨F, hF⟩ := choose_lt (α := Lst) (p := fun i x => (∀ j v, (lsC x)[j]? = some v → W.cell? ((a.add (i * 3)).add j) = some v)) hx'
    refine ⟨(List.range n).map F, by simp, fun hp => ?_, hlc, by unfold maxLen at hcm; omega, fun h => by cases h⟩
    have hp0 : 0 < n := by simpa using hp
    obtain ⟨b, off, spot⟩ := a
    have h00 := (hF 0 hp0) 0 _ rfl
    have hspot : spot = none := by simpa [Addr.add] using World.cell?_spot h00
    subst hspot
    refine ⟨b, off, rfl, ?_, fun j u hu => ?_⟩
    · rw [add_plain2] at h00
      exact World.block_lt_of_cell? W _ h00
    · rw [List.getElem?_map] at hu
      obtain ⟨z, hz1, rfl⟩ := Option.map_eq_some_iff.1 hu
      obtain ⟨hj, rfl⟩ := List.getElem?_eq_some_iff.1 hz1
      simp at hj
      have h1 := hF j hj
      simp
      intro i v hv
      have := h1 i v hv
      rwa [add_plain2] at this
end Go.Proofs.YtflenghnmflenaaDoor
