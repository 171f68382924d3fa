/-
  What is proved: the listed table holds K; what came in reads as bytes and numbers. Conditions as stated.
  What is proved: arrays of numbers that came in read as numbers. Conditions as stated.
-/
import Derived.Test.YtpageppjngbnpaaGreatDoorS3
import Derived.Test.YtpageppjngbnpaaGreatDoorRows
import Derived.ProofKit
import Derived.OpenShut
import Derived.Deep.Slices
import Derived.Lib.LaidTab
import Derived.SizedLaws

namespace Go.Proofs.YtpageppjngbnpaaGreatDoor.Sh
set_option maxRecDepth 100000
open Go.RowKit Go.ChangeShapes Go.WideShapes Go.Deep

theorem gK : Tryz.prog.globalNamed "ratchet/sha.k" = some 0 := by kernel_rfl
theorem tK : (Tryz.prog.globals[0]?).map (·.type) = some 133 := by kernel_rfl
theorem c42 : Tryz.prog.cellsOf 133 = 64 := by kernel_rfl
theorem K_length : K.length = 64 := by decide

theorem kIs_of_laid {W : World} (h : laidMet Tryz.prog [("ratchet/sha.k", Rows.laid_ratchet_sha_k)] W) : KIs W ∧ 0 < W.heap.size := by
  have hT : Lib.TabIs Tryz.prog W "ratchet/sha.k" .u32 (K.map fun x => (x.toNat : Int)) :=
    Lib.tabIs_of_head gK tK Tryz.underlying133 Tryz.underlying105 Tryz.cells105 c42 (rest := []) h
  have hk : KIs W := fun i hi => by
    have := hT.cell gK i (by simpa [K_length] using hi)
    rw [this]
    simp [List.getD_eq_getElem?_getD, List.getElem?_eq_getElem (l := K) (i := i) (by rw [K_length]; exact hi)]
  exact ⟨hk, World.block_lt_of_cell? W _ (hk 0 (by omega))⟩

/-- A slice of bytes that came in reads as bytes. -/
theorem bytes_of {H : Type} {enc : TypeId × Value → H} {W : World} {base : Nat} {spare : Nat → Bool} {held : Bool} {A : Option Addr} {n c : Nat} {d : DataW H} {p : List MemPlace}
    (h : DataW.Trod enc Tryz.prog W base spare held 23 (.slice A n c) d p) : ∃ bs, Rd (fun _ => True) W A n bs ∧ Sl A n c := by
  obtain ⟨fuel, hf⟩ := h
  rcases open_ints Tryz.underlying23 Tryz.underlying5 (by kernel_rfl) hf with ⟨hcs, _⟩ | ⟨x, l, cap, zs, hcs, _, hl, hm, hz, _, hcell, hwz⟩
  · simp [Value.cells] at hcs
    obtain ⟨rfl, rfl, rfl⟩ := hcs
    exact ⟨[], Rd.nil _ W _, ⟨fun _ => ⟨rfl, rfl⟩, Nat.le_refl _, by omega⟩⟩
  · simp [Value.cells] at hcs
    obtain ⟨rfl, rfl, rfl⟩ := hcs
    have hnz : n ≤ zs.length := by rw [hz]; split <;> omega
    refine ⟨(zs.take n).map fun z => UInt8.ofNat z.toNat, ⟨by rw [List.length_map, List.length_take]; omega, fun hp => ?_⟩, ⟨(fun h => by cases h), hl, by unfold maxLen at hm; omega⟩⟩
    obtain ⟨b, o, rfl, hc⟩ := ints_at hcell (by omega)
    refine ⟨b, o, rfl, ?_, trivial, fun j u hu => ?_⟩
    · have := World.block_lt_of_cell? W _ (hc 0 (by omega))
      exact this
    · rw [List.getElem?_map] at hu
      obtain ⟨z, hz1, rfl⟩ := Option.map_eq_some_iff.1 hu
      rw [List.getElem?_take] at hz1
      split at hz1
      · obtain ⟨hj, hz2⟩ := List.getElem?_eq_some_iff.1 hz1
        rw [hc j hj, List.getD_eq_getElem?_getD, hz1]
        have hb := bounds_u8 (hwz z (hz2 ▸ List.getElem_mem hj))
        simp only [Option.getD_some]
        congr 2
        simp
        omega
      · cases hz1

theorem Tryz.bytes5 : Tryz.prog.bytesOf 5 = 1 := by kernel_rfl
/-- A slice of bytes that came in takes no more than can be reached. -/
theorem bytes_reach {H : Type} {enc : TypeId × Value → H} {W : World} {base : Nat} {spare : Nat → Bool} {held : Bool} {A : Option Addr} {n c : Nat} {d : DataW H} {p : List MemPlace} {ts : List TypeId} {ds : List (DataW H)} {j : Nat}
    (hsz : (DataW.weightsEach Tryz.prog ts ds).all (· ≤ reachBytes) = true) (ht : ts[j]? = some 23) (hd : ds[j]? = some d) (h : DataW.Trod enc Tryz.prog W base spare held 23 (.slice A n c) d p) : n ≤ 140737488351232 := by
  obtain ⟨fuel, hf⟩ := h
  rcases open_ints Tryz.underlying23 Tryz.underlying5 (by kernel_rfl) hf with ⟨hcs, _⟩ | ⟨x, l, cap, zs, hcs, _, hl, hm, hz, hx, _⟩
  · simp [Value.cells] at hcs
    omega
  · simp [Value.cells] at hcs
    obtain ⟨rfl, rfl, rfl⟩ := hcs
    injection hx with hx1 hx2
    subst hx1
    have h2 := sized_slice hsz ht hd Tryz.underlying23
    rw [Tryz.bytes5] at h2
    simp [lits] at h2
    unfold reachBytes at h2
    have : n ≤ zs.length := by rw [hz]; split <;> omega
    omega
end Go.Proofs.YtpageppjngbnpaaGreatDoor.Sh

namespace Go.Proofs.YtpageppjngbnpaaGreatDoor.Sh
set_option maxRecDepth 100000
open Go.RowKit Go.ChangeShapes Go.WideShapes Go.Deep

theorem array_cells {P : Program} {H : Type} {enc : TypeId × Value → H} {W : World} {base b0 : Nat} {r : Reach} {spare : Nat → Bool} {held : Bool} {t e : TypeId} {n : Nat} {k : IntKind} {v : Value} {d : DataW H} {p : List MemPlace}
    (hu : P.underlying t = some (.array n e)) (he : P.underlying e = some (.int k)) (hce : P.cellsOf e = 1) (hct : P.cellsOf t = n)
    (hval : Value.okWide P W r b0 t v) (h : DataW.Trod enc P W base spare held t v d p) : ∃ zs : List Int, v = .agg (zs.map (Value.int k)).toArray ∧ zs.length = n ∧ ∀ z ∈ zs, (Lit.int k z).wf = true := by
  simp only [Value.okWide, hu] at hval
  obtain ⟨cs, rfl, hsz, _⟩ := hval
  obtain ⟨fuel, hf⟩ := h
  obtain ⟨xs, m, _, _, hcl, hxl, hat⟩ := DataW.trod_array hu hf
  have hcs : (Value.agg cs).cells = cs := rfl
  rw [hcs, hct] at hcl
  have key : ∀ i, i < n → ∃ z, cs.toList[i]? = some (.int k z) ∧ (Lit.int k z).wf = true := fun i hi => by
    have h1 := hat i hi
    rw [hce, hcs] at h1
    have h2 : xs[i]? = some xs[i] := List.getElem?_eq_getElem (by omega)
    rw [h2] at h1
    obtain ⟨z, hz, _, hw⟩ := DataW.trod_int he h1
    refine ⟨z, ?_, hw⟩
    have := congrArg (·[0]?) hz
    simpa [List.getElem?_take, List.getElem?_drop] using this
  refine ⟨cs.toList.map intOf, ?_, by rw [List.length_map, hcl], ?_⟩
  · congr 1
    apply Array.toList_inj.1
    apply List.ext_getElem?
    intro i
    by_cases hi : i < n
    · obtain ⟨z, hz, _⟩ := key i hi
      have hz' : cs[i]? = some (.int k z) := by simpa using hz
      simp [hz', intOf]
    · rw [List.getElem?_eq_none (by omega), List.getElem?_eq_none (by simp at hcl ⊢; omega)]
  · intro z hz
    obtain ⟨c, hc, rfl⟩ := List.mem_map.1 hz
    obtain ⟨i, hi, hci⟩ := List.mem_iff_getElem.1 hc
    obtain ⟨z, hz1, hw⟩ := key i (by omega)
    rw [List.getElem?_eq_getElem hi, hci] at hz1
    rw [Option.some.inj hz1]
    exact hw

theorem c23 : Tryz.prog.cellsOf 106 = 8 := by kernel_rfl
theorem c24 : Tryz.prog.cellsOf 108 = 64 := by kernel_rfl

theorem nums_of {H : Type} {enc : TypeId × Value → H} {W : World} {base b0 : Nat} {r : Reach} {spare : Nat → Bool} {held : Bool} {v : Value} {d : DataW H} {p : List MemPlace}
    (hval : Value.okWide Tryz.prog W r b0 106 v) (h : DataW.Trod enc Tryz.prog W base spare held 106 v d p) : ∃ l : List UInt32, v = .agg (u32s l).toArray ∧ l.length = 8 := by
  obtain ⟨zs, rfl, hl, hw⟩ := array_cells Tryz.underlying106 Tryz.underlying105 Tryz.cells105 c23 hval h
  refine ⟨zs.map fun z => UInt32.ofNat z.toNat, ?_, by rw [List.length_map, hl]⟩
  congr 2
  rw [u32s, List.map_map]
  refine List.map_congr_left fun z hz => ?_
  have := bounds_u32 (hw z hz)
  simp only [Function.comp, u32]
  congr 1
  simp
  omega
theorem bytes64_of {H : Type} {enc : TypeId × Value → H} {W : World} {base b0 : Nat} {r : Reach} {spare : Nat → Bool} {held : Bool} {v : Value} {d : DataW H} {p : List MemPlace}
    (hval : Value.okWide Tryz.prog W r b0 108 v) (h : DataW.Trod enc Tryz.prog W base spare held 108 v d p) : ∃ l : List UInt8, v = .agg (u8s l).toArray ∧ l.length = 64 := by
  obtain ⟨zs, rfl, hl, hw⟩ := array_cells Tryz.underlying108 Tryz.underlying5 Tryz.cells5 c24 hval h
  refine ⟨zs.map fun z => UInt8.ofNat z.toNat, ?_, by rw [List.length_map, hl]⟩
  congr 2
  rw [u8s, List.map_map]
  refine List.map_congr_left fun z hz => ?_
  have := bounds_u8 (hw z hz)
  simp only [Function.comp]
  congr 1
  simp
  omega
end Go.Proofs.YtpageppjngbnpaaGreatDoor.Sh
