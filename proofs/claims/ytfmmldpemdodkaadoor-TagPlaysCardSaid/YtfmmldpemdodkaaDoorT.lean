/-
  What is proved: arrays of numbers that came in read as numbers. Conditions as stated.
-/
import Derived.Test.YtfmmldpemdodkaaDoorL
namespace Go.Proofs.YtfmmldpemdodkaaDoor
open Go.RowKit Go.ChangeShapes Go.WideShapes Go.Deep

theorem array_cells {P : Program} {H : Type} {enc : TypeId × Value → H} {W : World} {base b0 : Nat} {r : Reach} {spare : Nat → Bool} {held : Bool} {t e : TypeId} {n : Nat} {k : IntKind} {v : Value} {d : DataW H} {p : List MemPlace}
    (hu : P.underlying t = some (.array n e)) (he : P.underlying e = some (.int k)) (hce : P.cellsOf e = 1) (hct : P.cellsOf t = n)
    (hval : Value.okWide P W r b0 t v) (h : DataW.Trod enc P W base spare held t v d p) : ∃ zs : List Int, v = .agg (zs.map (Value.int k)).toArray ∧ zs.length = n ∧ ∀ z ∈ zs, (Lit.int k z).wf = true := by
  simp only [Value.okWide, hu] at hval
  obtain ⟨cs, rfl, hsz, _⟩ := hval
  obtain ⟨fuel, hf⟩ := h
  obtain ⟨xs, m, _, _, hcl, hxl, hat⟩ := DataW.trod_array hu hf
  have hcs : (Value.agg cs).cells = cs := rfl
  rw [hcs, hct] at hcl
  have key : ∀ i, i < n → ∃ z, cs.toList[i]? = some (.int k z) ∧ (Lit.int k z).wf = true := fun i hi => by
    have h1 := hat i hi
    rw [hce, hcs] at h1
    have h2 : xs[i]? = some xs[i] := List.getElem?_eq_getElem (by omega)
    rw [h2] at h1
    obtain ⟨z, hz, _, hw⟩ := DataW.trod_int he h1
    refine ⟨z, ?_, hw⟩
    have := congrArg (·[0]?) hz
    simpa [List.getElem?_take, List.getElem?_drop] using this
  refine ⟨cs.toList.map intOf, ?_, by rw [List.length_map, hcl], ?_⟩
  · congr 1
    apply Array.toList_inj.1
    apply List.ext_getElem?
    intro i
    by_cases hi : i < n
    · obtain ⟨z, hz, _⟩ := key i hi
      have hz' : cs[i]? = some (.int k z) := by simpa using hz
      simp [hz', intOf]
    · rw [List.getElem?_eq_none (by omega), List.getElem?_eq_none (by simp at hcl ⊢; omega)]
  · intro z hz
    obtain ⟨c, hc, rfl⟩ := List.mem_map.1 hz
    obtain ⟨i, hi, hci⟩ := List.mem_iff_getElem.1 hc
    obtain ⟨z, hz1, hw⟩ := key i (by omega)
    rw [List.getElem?_eq_getElem hi, hci] at hz1
    rw [Option.some.inj hz1]
    exact hw

theorem c23 : Tryd.prog.cellsOf 51 = 8 := by kernel_rfl
theorem c24 : Tryd.prog.cellsOf 45 = 64 := by kernel_rfl

theorem nums_of {H : Type} {enc : TypeId × Value → H} {W : World} {base b0 : Nat} {r : Reach} {spare : Nat → Bool} {held : Bool} {v : Value} {d : DataW H} {p : List MemPlace}
    (hval : Value.okWide Tryd.prog W r b0 51 v) (h : DataW.Trod enc Tryd.prog W base spare held 51 v d p) : ∃ l : List UInt32, v = .agg (u32s l).toArray ∧ l.length = 8 := by
  obtain ⟨zs, rfl, hl, hw⟩ := array_cells Tryd.underlying51 Tryd.underlying50 Tryd.cells50 c23 hval h
  refine ⟨zs.map fun z => UInt32.ofNat z.toNat, ?_, by rw [List.length_map, hl]⟩
  congr 2
  rw [u32s, List.map_map]
  refine List.map_congr_left fun z hz => ?_
  have := bounds_u32 (hw z hz)
  simp only [Function.comp, u32]
  congr 1
  simp
  omega
theorem bytes64_of {H : Type} {enc : TypeId × Value → H} {W : World} {base b0 : Nat} {r : Reach} {spare : Nat → Bool} {held : Bool} {v : Value} {d : DataW H} {p : List MemPlace}
    (hval : Value.okWide Tryd.prog W r b0 45 v) (h : DataW.Trod enc Tryd.prog W base spare held 45 v d p) : ∃ l : List UInt8, v = .agg (u8s l).toArray ∧ l.length = 64 := by
  obtain ⟨zs, rfl, hl, hw⟩ := array_cells Tryd.underlying45 Tryd.underlying5 Tryd.cells5 c24 hval h
  refine ⟨zs.map fun z => UInt8.ofNat z.toNat, ?_, by rw [List.length_map, hl]⟩
  congr 2
  rw [u8s, List.map_map]
  refine List.map_congr_left fun z hz => ?_
  have := bounds_u8 (hw z hz)
  simp only [Function.comp]
  congr 1
  simp
  omega
end Go.Proofs.YtfmmldpemdodkaaDoor
