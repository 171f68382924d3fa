/-
  What is proved: requests that come in, with the cells of their tags. Conditions as stated.
-/
import Derived.Test.YtflenghnmflenaaDoorSk
namespace Go.Proofs.YtflenghnmflenaaDoor
open Go.RowKit Go.ChangeShapes Go.WideShapes Go.Deep
set_option maxRecDepth 100000

section
variable {H : Type} {enc : TypeId × Value → H} {W : World} {base : Nat} {spare : Nat → Bool} {held : Bool} {n : Nat} {cs : List Value} {y : DataW H × List MemPlace}
theorem arr_of {t e : TypeId} {N : Nat} {k : IntKind} (hu : Tryd.prog.underlying t = some (.array N e)) (he : Tryd.prog.underlying e = some (.int k)) (hce : Tryd.prog.cellsOf e = 1) (hct : Tryd.prog.cellsOf t = N)
    (h : DataW.trod enc Tryd.prog W base spare held n t cs = some y) : ∃ zs : List Int, cs = zs.map (Value.int k) ∧ zs.length = N ∧ ∀ z ∈ zs, (Lit.int k z).wf = true := by
  obtain ⟨xs, m, _, _, hcl, hxl, hat⟩ := DataW.trod_array hu h
  rw [hct] at hcl
  have key : ∀ i, i < N → ∃ z, cs[i]? = some (.int k z) ∧ (Lit.int k z).wf = true := fun i hi => by
    have h1 := hat i hi
    rw [hce] at h1
    have h2 : xs[i]? = some xs[i] := List.getElem?_eq_getElem (by omega)
    rw [h2] at h1
    obtain ⟨z, hz, _, hw⟩ := DataW.trod_int he h1
    refine ⟨z, ?_, hw⟩
    have := congrArg (·[0]?) hz
    simpa [List.getElem?_take, List.getElem?_drop] using this
  refine ⟨cs.map intOf, ?_, by rw [List.length_map, hcl], ?_⟩
  · apply List.ext_getElem?
    intro i
    by_cases hi : i < N
    · obtain ⟨z, hz, _⟩ := key i hi
      simp [hz, intOf]
    · rw [List.getElem?_eq_none (by omega), List.getElem?_eq_none (by simp; omega)]
  · intro z hz
    obtain ⟨c, hc, rfl⟩ := List.mem_map.1 hz
    obtain ⟨i, hi, hci⟩ := List.mem_iff_getElem.1 hc
    obtain ⟨z, hz1, hw⟩ := key i (by omega)
    rw [List.getElem?_eq_getElem hi, hci] at hz1
    rw [Option.some.inj hz1]
    exact hw
theorem rq_of2 (h : DataW.trod enc Tryd.prog W base spare held n 52 cs = some y) : ∃ q : MRq, cs = rqC q ∧ q.tag.length = 32 ∧ (q.time < 18446744073709551616 ∧ q.op.amount < 18446744073709551616 ∧ (Lit.int .i64 q.client).wf = true) ∧ ∀ v ∈ q.tag, v.oneCell' = true := by
  obtain ⟨q, hq, ht, hn⟩ := rq_of h
  refine ⟨q, hq, ht, hn, ?_⟩
  obtain ⟨ys, m, _, _, hlen, hys, hf⟩ := DataW.trod_struct Tryd.underlying52 h
  have hy : ys.length = 4 := hys
  have f3 : DataW.trod enc Tryd.prog W base spare held m 50 ((cs.drop 8).take (Tryd.prog.cellsOf 50)) = ys[3]? := hf 3 _ rfl
  rw [Tryd.cc50] at f3
  obtain ⟨_, e3⟩ := some_at (by omega) f3
  obtain ⟨zs, hz, _, _⟩ := arr_of Tryd.underlying50 Tryd.underlying5 Tryd.cc5 Tryd.cc50 e3
  have htag : (cs.drop 8).take 32 = q.tag := by
    rw [hq]
    show (q.tag).take 32 = q.tag
    exact List.take_of_length_le (by omega)
  rw [htag] at hz
  intro v hv
  rw [hz] at hv
  obtain ⟨z, _, rfl⟩ := List.mem_map.1 hv
  rfl
end
theorem rqs_of2 {H : Type} {enc : TypeId × Value → H} {W : World} {base : Nat} {spare : Nat → Bool} {held : Bool} {A : Option Addr} {n c : Nat} {d : DataW H} {p : List MemPlace}
    (h : DataW.Trod enc Tryd.prog W base spare held 23 (.slice A n c) d p) : ∃ qs : List MRq, qs.length = n ∧ Rqs W A qs ∧ ∀ q ∈ qs, ∀ v ∈ q.tag, v.oneCell' = true := by
  obtain ⟨fuel, hf⟩ := h
  rcases open_slice Tryd.underlying23 hf with ⟨hcs, _⟩ | ⟨a, len, cap, m, k, D, Pl, hcs, _, hlc, hcm, hm, _, hx⟩
  · simp [Value.cells] at hcs
    obtain ⟨rfl, rfl, rfl⟩ := hcs
    exact ⟨[], rfl, ⟨fun h => absurd h (by simp), (fun o ho => by cases ho), (fun o ho => by cases ho)⟩, fun o ho => by cases ho⟩
  · simp [Value.cells] at hcs
    obtain ⟨rfl, rfl, rfl⟩ := hcs
    rw [Tryd.cc52] at hx
    have hnm : n ≤ m := by rw [hm]; split <;> omega
    have hx' : ∀ i, i < n → ∃ x : MRq, (∀ j v, (rqC x)[j]? = some v → W.cell? ((a.add (i * 40)).add j) = some v) ∧ x.tag.length = 32 ∧ (x.time < 18446744073709551616 ∧ x.op.amount < 18446744073709551616 ∧ (Lit.int .i64 x.client).wf = true) ∧ ∀ v ∈ x.tag, v.oneCell' = true := by
      intro i hi
      obtain ⟨cs', hc, ht⟩ := hx i (by omega)
      obtain ⟨hl, _, hcell⟩ := World.cells?_some hc
      obtain ⟨x, rfl, ha, hb⟩ := rq_of2 ht
      refine ⟨x, fun j v hv => ?_, ha, hb⟩
      have hj : j < 40 := by have := (List.getElem?_eq_some_iff.1 hv).1; rw [rqC_length, ha] at this; exact this
      rw [hcell j hj]
      exact hv
    obtain ⟨F, hF⟩ := choose_lt (α := MRq) (p := fun i x => (∀ j v, (rqC x)[j]? = some v → W.cell? ((a.add (i * 40)).add j) = some v) ∧ x.tag.length = 32 ∧ (x.time < 18446744073709551616 ∧ x.op.amount < 18446744073709551616 ∧ (Lit.int .i64 x.client).wf = true) ∧ ∀ v ∈ x.tag, v.oneCell' = true) hx'
    refine ⟨(List.range n).map F, by simp, ⟨fun hp => ?_, fun o ho => ?_, fun o ho => ?_⟩, fun o ho => ?_⟩
    · have hp0 : 0 < n := by simpa using hp
      obtain ⟨b, off, spot⟩ := a
      have h00 := (hF 0 hp0).1 0 _ (rq_0 _)
      have hspot : spot = none := by simpa [Addr.add] using World.cell?_spot h00
      subst hspot
      refine ⟨b, off, rfl, ?_, fun j u hu => ?_⟩
      · rw [add_plain2] at h00
        exact World.block_lt_of_cell? W _ h00
      · rw [List.getElem?_map] at hu
        obtain ⟨z, hz1, rfl⟩ := Option.map_eq_some_iff.1 hu
        obtain ⟨hj, rfl⟩ := List.getElem?_eq_some_iff.1 hz1
        simp at hj
        obtain ⟨h1, _⟩ := hF j hj
        simp
        intro i v hv
        have := h1 i v hv
        rwa [add_plain2] at this
    · obtain ⟨i, hi, rfl⟩ := List.mem_map.1 ho
      exact (hF i (List.mem_range.1 hi)).2.1
    · obtain ⟨i, hi, rfl⟩ := List.mem_map.1 ho
      exact (hF i (List.mem_range.1 hi)).2.2.1
    · obtain ⟨i, hi, rfl⟩ := List.mem_map.1 ho
      exact (hF i (List.mem_range.1 hi)).2.2.2
end Go.Proofs.YtflenghnmflenaaDoor
