/-
  What is proved: what comes in, read: operations, items, strings; and the library's variables as they are laid. Conditions as stated.
  What is proved: what comes in: requests, what clients were answered. Conditions as stated.
-/
import Derived.Test.YtpageppjngbnpaaDoorA5
import Derived.Test.YtpageppjngbnpaaDoorRows
import Derived.OpenShut
import Derived.Deep.Slices
import Derived.Lib.LaidTab
import Derived.Stop.LaidErr
import Derived.Test.YtpageppjngbnpaaDoorAU
import Derived.SizedLaws
namespace Go.Proofs.YtpageppjngbnpaaDoor
open Go.RowKit Go.ChangeShapes Go.WideShapes Go.Deep
set_option maxRecDepth 100000

theorem cut_step {α : Type} (l : List α) (a b : Nat) : l.drop a = (l.drop a).take b ++ l.drop (a + b) := by
  rw [← List.drop_drop]
  exact (List.take_append_drop b _).symm
theorem nat_of_u64 {z : Int} (h : (Lit.int .u64 z).wf = true) : z = ((z.toNat : Nat) : Int) := by
  simp [Lit.wf, IntKind.min, IntKind.max, IntKind.signed, IntKind.bits] at h
  omega
theorem u8_of_wf {z : Int} (h : (Lit.int .u8 z).wf = true) : z = ((UInt8.ofNat z.toNat).toNat : Int) := by
  simp [Lit.wf, IntKind.min, IntKind.max, IntKind.signed, IntKind.bits] at h
  simp
  omega
section
variable {H : Type} {enc : TypeId × Value → H} {W : World} {base : Nat} {spare : Nat → Bool} {held : Bool} {n : Nat} {cs : List Value} {y : DataW H × List MemPlace}
theorem Tryd.cc34 : Tryd.prog.cellsOf 34 = 6 := by kernel_rfl
theorem Tryd.cc81 : Tryd.prog.cellsOf 81 = 2 := by kernel_rfl
theorem Tryd.cc9 : Tryd.prog.cellsOf 9 = 1 := by kernel_rfl
theorem Tryd.cc5 : Tryd.prog.cellsOf 5 = 1 := by kernel_rfl
theorem Tryd.cc32 : Tryd.prog.cellsOf 32 = 1 := by kernel_rfl
theorem int_of {t : TypeId} {k : IntKind} (ht : Tryd.prog.underlying t = some (.int k)) (h : DataW.trod enc Tryd.prog W base spare held n t cs = some y) : ∃ z, cs = [.int k z] ∧ (Lit.int k z).wf = true := by
  obtain ⟨z, h1, _, h2⟩ := DataW.trod_int ht h
  exact ⟨z, h1, h2⟩
theorem str_of (h : DataW.trod enc Tryd.prog W base spare held n 9 cs = some y) : ∃ z, cs = [.string z] := by
  obtain ⟨z, h1, _, _⟩ := DataW.trod_string Tryd.underlying9 h
  exact ⟨z, h1⟩
theorem some_at {α : Type} {xs : List α} {i : Nat} (h : i < xs.length) {o : Option α} (e : o = xs[i]?) : ∃ z, o = some z := ⟨xs[i], by rw [e, List.getElem?_eq_getElem h]⟩
theorem pieces {cs : List Value} : ∀ (bs : List Nat) (a : Nat), cs.length = a + bs.sum → cs.drop a = (bs.zip ((List.range bs.length).map fun i => a + (bs.take i).sum)).flatMap fun p => (cs.drop p.2).take p.1
  | [], a, h => by
    have h' : cs.length ≤ a := by simpa using Nat.le_of_eq h
    simpa using h'
  | b :: bs, a, h => by
    rw [cut_step cs a b, pieces bs (a + b) (by simp at h; omega)]
    simp only [List.length_cons, List.range_succ_eq_map, List.map_cons, List.map_map, List.zip_cons_cons, List.flatMap_cons, List.take_zero, List.sum_nil, Nat.add_zero]
    congr 2
    congr 1
    apply List.map_congr_left
    intro i _
    simp [Nat.add_assoc]
theorem op_of (h : DataW.trod enc Tryd.prog W base spare held n 34 cs = some y) : ∃ o : MOp, cs = opC o ∧ o.amount < 18446744073709551616 := by
  obtain ⟨ys, m, _, _, hlen, hys, hf⟩ := DataW.trod_struct Tryd.underlying34 h
  rw [Tryd.cc34] at hlen
  have hy : ys.length = 6 := hys
  have f0 : DataW.trod enc Tryd.prog W base spare held m 5 ((cs.drop 0).take (Tryd.prog.cellsOf 5)) = ys[0]? := hf 0 _ rfl
  rw [Tryd.cc5] at f0
  obtain ⟨_, e0⟩ := some_at (by omega) f0
  have f1 : DataW.trod enc Tryd.prog W base spare held m 9 ((cs.drop 1).take (Tryd.prog.cellsOf 9)) = ys[1]? := hf 1 _ rfl
  rw [Tryd.cc9] at f1
  obtain ⟨_, e1⟩ := some_at (by omega) f1
  have f2 : DataW.trod enc Tryd.prog W base spare held m 9 ((cs.drop 2).take (Tryd.prog.cellsOf 9)) = ys[2]? := hf 2 _ rfl
  rw [Tryd.cc9] at f2
  obtain ⟨_, e2⟩ := some_at (by omega) f2
  have f3 : DataW.trod enc Tryd.prog W base spare held m 9 ((cs.drop 3).take (Tryd.prog.cellsOf 9)) = ys[3]? := hf 3 _ rfl
  rw [Tryd.cc9] at f3
  obtain ⟨_, e3⟩ := some_at (by omega) f3
  have f4 : DataW.trod enc Tryd.prog W base spare held m 9 ((cs.drop 4).take (Tryd.prog.cellsOf 9)) = ys[4]? := hf 4 _ rfl
  rw [Tryd.cc9] at f4
  obtain ⟨_, e4⟩ := some_at (by omega) f4
  have f5 : DataW.trod enc Tryd.prog W base spare held m 32 ((cs.drop 5).take (Tryd.prog.cellsOf 32)) = ys[5]? := hf 5 _ rfl
  rw [Tryd.cc32] at f5
  obtain ⟨_, e5⟩ := some_at (by omega) f5
  obtain ⟨z0, h0, w0⟩ := int_of Tryd.underlying5 e0
  obtain ⟨z1, h1⟩ := str_of e1
  obtain ⟨z2, h2⟩ := str_of e2
  obtain ⟨z3, h3⟩ := str_of e3
  obtain ⟨z4, h4⟩ := str_of e4
  obtain ⟨z5, h5, w5⟩ := int_of Tryd.underlying32 e5
  have hp := pieces (cs := cs) [1, 1, 1, 1, 1, 1] 0 (by simp; omega)
  refine ⟨⟨UInt8.ofNat z0.toNat, z1, z2, z3, z4, z5.toNat⟩, ?_, by have := w5; simp [Lit.wf, IntKind.min, IntKind.max, IntKind.signed, IntKind.bits] at this; show z5.toNat < _; omega⟩
  rw [List.drop_zero] at hp
  rw [hp, opC, ← u8_of_wf w0, ← nat_of_u64 w5]
  show (cs.drop 0).take 1 ++ ((cs.drop 1).take 1 ++ ((cs.drop 2).take 1 ++ ((cs.drop 3).take 1 ++ ((cs.drop 4).take 1 ++ ((cs.drop 5).take 1 ++ []))))) = _
  rw [h0, h1, h2, h3, h4, h5]
  rfl
theorem it_of (h : DataW.trod enc Tryd.prog W base spare held n 81 cs = some y) : ∃ p : It, cs = [.string p.1, .string p.2] := by
  obtain ⟨ys, m, _, _, hlen, hys, hf⟩ := DataW.trod_struct Tryd.underlying81 h
  rw [Tryd.cc81] at hlen
  have hy : ys.length = 2 := hys
  have f0 : DataW.trod enc Tryd.prog W base spare held m 9 ((cs.drop 0).take (Tryd.prog.cellsOf 9)) = ys[0]? := hf 0 _ rfl
  rw [Tryd.cc9] at f0
  obtain ⟨_, e0⟩ := some_at (by omega) f0
  have f1 : DataW.trod enc Tryd.prog W base spare held m 9 ((cs.drop 1).take (Tryd.prog.cellsOf 9)) = ys[1]? := hf 1 _ rfl
  rw [Tryd.cc9] at f1
  obtain ⟨_, e1⟩ := some_at (by omega) f1
  obtain ⟨z0, h0⟩ := str_of e0
  obtain ⟨z1, h1⟩ := str_of e1
  have hp := pieces (cs := cs) [1, 1] 0 (by simp; omega)
  refine ⟨(z0, z1), ?_⟩
  rw [List.drop_zero] at hp
  rw [hp]
  show (cs.drop 0).take 1 ++ ((cs.drop 1).take 1 ++ []) = _
  rw [h0, h1]
  rfl
end
theorem op_in {H : Type} {enc : TypeId × Value → H} {W : World} {base b0 : Nat} {r : Reach} {spare : Nat → Bool} {held : Bool} {v : Value} {d : DataW H} {p : List MemPlace}
    (hval : Value.okWide Tryd.prog W r b0 34 v) (h : DataW.Trod enc Tryd.prog W base spare held 34 v d p) : ∃ o : MOp, v = .agg (opC o).toArray ∧ o.amount < 18446744073709551616 := by
  simp only [Value.okWide, Tryd.underlying34] at hval
  obtain ⟨cs, rfl, _⟩ := hval
  obtain ⟨fuel, hf⟩ := h
  obtain ⟨m, hm, ha⟩ := op_of hf
  exact ⟨m, by rw [← hm]; rfl, ha⟩
instance : Inhabited MOp := ⟨⟨0, ByteArray.empty, ByteArray.empty, ByteArray.empty, ByteArray.empty, 0⟩⟩
theorem add_plain2 (b o i j : Nat) : (((⟨b, o, none⟩ : Addr).add i).add j) = ⟨b, o + i + j, none⟩ := by rw [Addr.add_lit, Addr.add_lit]
theorem ops_of {H : Type} {enc : TypeId × Value → H} {W : World} {base : Nat} {spare : Nat → Bool} {held : Bool} {A : Option Addr} {n c : Nat} {d : DataW H} {p : List MemPlace}
    (h : DataW.Trod enc Tryd.prog W base spare held 41 (.slice A n c) d p) : ∃ os : List MOp, os.length = n ∧ Ops W A os ∧ n ≤ c ∧ c ≤ 9223372036854775807 ∧ ∀ o ∈ os, o.amount < 18446744073709551616 := by
  obtain ⟨fuel, hf⟩ := h
  rcases open_slice Tryd.underlying41 hf with ⟨hcs, _⟩ | ⟨a, len, cap, m, k, D, Pl, hcs, _, hlc, hcm, hm, _, hx⟩
  · simp [Value.cells] at hcs
    obtain ⟨rfl, rfl, rfl⟩ := hcs
    exact ⟨[], rfl, fun h => absurd h (by simp), Nat.le_refl _, by omega, fun o ho => by cases ho⟩
  · simp [Value.cells] at hcs
    obtain ⟨rfl, rfl, rfl⟩ := hcs
    rw [Tryd.cc34] at hx
    have hnm : n ≤ m := by rw [hm]; split <;> omega
    have hx' : ∀ i, i < n → ∃ x : MOp, (∀ j v, (opC x)[j]? = some v → W.cell? ((a.add (i * 6)).add j) = some v) ∧ x.amount < 18446744073709551616 := by
      intro i hi
      obtain ⟨cs', hc, ht⟩ := hx i (by omega)
      obtain ⟨hl, _, hcell⟩ := World.cells?_some hc
      obtain ⟨x, rfl, ha⟩ := op_of ht
      refine ⟨x, fun j v hv => ?_, ha⟩
      have hj : j < 6 := (List.getElem?_eq_some_iff.1 hv).1
      rw [hcell j hj]
      exact hv
    obtain ⟨F, hF⟩ := choose_lt (α := MOp) (p := fun i x => (∀ j v, (opC x)[j]? = some v → W.cell? ((a.add (i * 6)).add j) = some v) ∧ x.amount < 18446744073709551616) hx'
    refine ⟨(List.range n).map F, by simp, fun hp => ?_, hlc, by unfold maxLen at hcm; omega, fun o ho => ?_⟩
    · have hp0 : 0 < n := by simpa using hp
      obtain ⟨b, off, spot⟩ := a
      have h00 := (hF 0 hp0).1 0 _ rfl
      have hspot : spot = none := by simpa [Addr.add] using World.cell?_spot h00
      subst hspot
      refine ⟨b, off, rfl, ?_, fun j u hu => ?_⟩
      · rw [add_plain2] at h00
        exact World.block_lt_of_cell? W _ h00
      · rw [List.getElem?_map] at hu
        obtain ⟨z, hz1, rfl⟩ := Option.map_eq_some_iff.1 hu
        obtain ⟨hj, rfl⟩ := List.getElem?_eq_some_iff.1 hz1
        simp at hj
        obtain ⟨h1, _⟩ := hF j hj
        simp
        intro i v hv
        have := h1 i v hv
        rwa [add_plain2] at this
    · obtain ⟨i, hi, rfl⟩ := List.mem_map.1 ho
      exact (hF i (List.mem_range.1 hi)).2
theorem items_of {H : Type} {enc : TypeId × Value → H} {W : World} {base : Nat} {spare : Nat → Bool} {held : Bool} {A : Option Addr} {n c : Nat} {d : DataW H} {p : List MemPlace}
    (h : DataW.Trod enc Tryd.prog W base spare held 45 (.slice A n c) d p) : ∃ xs : List It, xs.length = n ∧ Its W A xs ∧ n ≤ c ∧ c ≤ 9223372036854775807 ∧ (A = none → c = 0) := by
  obtain ⟨fuel, hf⟩ := h
  rcases open_slice Tryd.underlying45 hf with ⟨hcs, _⟩ | ⟨a, len, cap, m, k, D, Pl, hcs, _, hlc, hcm, hm, _, hx⟩
  · simp [Value.cells] at hcs
    obtain ⟨rfl, rfl, rfl⟩ := hcs
    exact ⟨[], rfl, fun h => absurd h (by simp), Nat.le_refl _, by omega, fun _ => rfl⟩
  · simp [Value.cells] at hcs
    obtain ⟨rfl, rfl, rfl⟩ := hcs
    rw [Tryd.cc81] at hx
    have hnm : n ≤ m := by rw [hm]; split <;> omega
    have hx' : ∀ i, i < n → ∃ x : It, ∀ j v, [Value.string x.1, .string x.2][j]? = some v → W.cell? ((a.add (i * 2)).add j) = some v := by
      intro i hi
      obtain ⟨cs', hc, ht⟩ := hx i (by omega)
      obtain ⟨hl, _, hcell⟩ := World.cells?_some hc
      obtain ⟨x, rfl⟩ := it_of ht
      refine ⟨x, fun j v hv => ?_⟩
      have hj : j < 2 := (List.getElem?_eq_some_iff.1 hv).1
      rw [hcell j hj]
      exact hv
    obtain ⟨F, hF⟩ := choose_lt (α := It) (p := fun i x => ∀ j v, [Value.string x.1, .string x.2][j]? = some v → W.cell? ((a.add (i * 2)).add j) = some v) hx'
    refine ⟨(List.range n).map F, by simp, fun hp => ?_, hlc, by unfold maxLen at hcm; omega, fun h => by cases h⟩
    have hp0 : 0 < n := by simpa using hp
    obtain ⟨b, off, spot⟩ := a
    have h00 := (hF 0 hp0) 0 _ rfl
    have hspot : spot = none := by simpa [Addr.add] using World.cell?_spot h00
    subst hspot
    refine ⟨b, off, rfl, ?_, fun j u hu => ?_⟩
    · rw [add_plain2] at h00
      exact World.block_lt_of_cell? W _ h00
    · rw [List.getElem?_map] at hu
      obtain ⟨z, hz1, rfl⟩ := Option.map_eq_some_iff.1 hu
      obtain ⟨hj, rfl⟩ := List.getElem?_eq_some_iff.1 hz1
      simp at hj
      have h1 := hF j hj
      simp
      constructor
      · have := h1 0 _ rfl
        rwa [add_plain2] at this
      · have := h1 1 _ rfl
        rwa [add_plain2] at this

theorem Tryd.star : "*" ++ "errors.errorString" = "*errors.errorString" := by decide
theorem Tryd.row143 (u : TypeId) (h : Tryd.prog.typeName? 3 u = some "*errors.errorString") : u = 143 :=
  typeName_ptr_named (nm := "errors.errorString") (by rw [Tryd.star]; kernel_rfl) (by kernel_rfl) (by decide) u (by rw [Tryd.star]; exact h)
theorem vars_of_laid {W : World} (h : laidMet Tryd.prog [("math/bits.deBruijn32tab", Rows.laid_math_bits_deBruijn32tab), ("math/bits.deBruijn64tab", Rows.laid_math_bits_deBruijn64tab), ("internal/strconv.uint64pow10", Rows.laid_internal_strconv_uint64pow10), ("strconv.ErrRange", Rows.laid_strconv_ErrRange), ("strconv.ErrSyntax", Rows.laid_strconv_ErrSyntax)] W) : Vars W := by
  have h2 := h.tail.tail
  have h3 := h2.tail
  have h4 := h3.tail
  have hT : Lib.TabIs Tryd.prog W "internal/strconv.uint64pow10" .u64 Lib.pow10Tab :=
    Lib.tabIs_of_head Tryd.g3 (t := 138) (e := 32) (n := 20) (by kernel_rfl) Tryd.underlying138 Tryd.underlying32 Tryd.cc32 (by kernel_rfl) (rest := [("strconv.ErrRange", Rows.laid_strconv_ErrRange), ("strconv.ErrSyntax", Rows.laid_strconv_ErrSyntax)]) h2
  have hR : ∃ tp p, W.var? Tryd.prog "strconv.ErrRange" = some #[.iface tp p] := by
    obtain ⟨a, s, hv, _⟩ := laid_sentinel (ti := 113) (tp := 143) (te := 145) (ts := 9) h3 Tryd.g2 (by kernel_rfl) Tryd.underlying113 Tryd.row143 Tryd.underlying143 Tryd.underlying145 rfl rfl Tryd.underlying9 (by kernel_rfl) Tryd.cc9
    exact ⟨_, _, hv⟩
  have hS : ∃ tp p, W.var? Tryd.prog "strconv.ErrSyntax" = some #[.iface tp p] := by
    obtain ⟨a, s, hv, _⟩ := laid_sentinel (ti := 113) (tp := 143) (te := 145) (ts := 9) h4 Tryd.g1 (by kernel_rfl) Tryd.underlying113 Tryd.row143 Tryd.underlying143 Tryd.underlying145 rfl rfl Tryd.underlying9 (by kernel_rfl) Tryd.cc9
    exact ⟨_, _, hv⟩
  exact ⟨hS, hR, hT⟩
open Go.RowKit Go.ChangeShapes Go.WideShapes Go.Deep
set_option maxRecDepth 100000

section
variable {H : Type} {enc : TypeId × Value → H} {W : World} {base : Nat} {spare : Nat → Bool} {held : Bool} {n : Nat} {cs : List Value} {y : DataW H × List MemPlace}
theorem Tryd.cc37 : Tryd.prog.cellsOf 37 = 40 := by kernel_rfl
theorem Tryd.cc35 : Tryd.prog.cellsOf 35 = 32 := by kernel_rfl
theorem Tryd.cc3 : Tryd.prog.cellsOf 3 = 1 := by kernel_rfl
theorem Tryd.cc48 : Tryd.prog.cellsOf 48 = 3 := by kernel_rfl
theorem Tryd.cc29 : Tryd.prog.cellsOf 29 = 2 := by kernel_rfl
theorem Tryd.cc27 : Tryd.prog.cellsOf 27 = 1 := by kernel_rfl
theorem Tryd.bytes52 : Tryd.prog.bytesOf 37 = 128 := by kernel_rfl
theorem rq_of (h : DataW.trod enc Tryd.prog W base spare held n 37 cs = some y) : ∃ q : MRq, cs = rqC q ∧ q.tag.length = 32 ∧ (q.time < 18446744073709551616 ∧ q.op.amount < 18446744073709551616 ∧ (Lit.int .i64 q.client).wf = true) := by
  obtain ⟨ys, m, _, _, hlen, hys, hf⟩ := DataW.trod_struct Tryd.underlying37 h
  rw [Tryd.cc37] at hlen
  have hy : ys.length = 4 := hys
  have f0 : DataW.trod enc Tryd.prog W base spare held m 3 ((cs.drop 0).take (Tryd.prog.cellsOf 3)) = ys[0]? := hf 0 _ rfl
  rw [Tryd.cc3] at f0
  obtain ⟨_, e0⟩ := some_at (by omega) f0
  have f1 : DataW.trod enc Tryd.prog W base spare held m 32 ((cs.drop 1).take (Tryd.prog.cellsOf 32)) = ys[1]? := hf 1 _ rfl
  rw [Tryd.cc32] at f1
  obtain ⟨_, e1⟩ := some_at (by omega) f1
  have f2 : DataW.trod enc Tryd.prog W base spare held m 34 ((cs.drop 2).take (Tryd.prog.cellsOf 34)) = ys[2]? := hf 2 _ rfl
  rw [Tryd.cc34] at f2
  obtain ⟨_, e2⟩ := some_at (by omega) f2
  obtain ⟨z0, h0, w0⟩ := int_of Tryd.underlying3 e0
  obtain ⟨z1, h1, w1⟩ := int_of Tryd.underlying32 e1
  obtain ⟨o, h2, ho⟩ := op_of e2
  have hp := pieces (cs := cs) [1, 1, 6, 32] 0 (by simp; omega)
  refine ⟨⟨z0, z1.toNat, o, (cs.drop 8).take 32⟩, ?_, ?_, ?_, ho, w0⟩
  · rw [List.drop_zero] at hp
    show cs = rqC _
    rw [hp]
    unfold rqC
    rw [← nat_of_u64 w1]
    show (cs.drop 0).take 1 ++ ((cs.drop 1).take 1 ++ ((cs.drop 2).take 6 ++ ((cs.drop 8).take 32 ++ []))) = _
    rw [h0, h1, h2, ← hp]
    simp
  · simp; omega
  · have := w1
    simp [Lit.wf, IntKind.min, IntKind.max, IntKind.signed, IntKind.bits] at this
    show z1.toNat < _
    omega
theorem rp_of (h : DataW.trod enc Tryd.prog W base spare held n 29 cs = some y) : ∃ p : Lrp, cs = lrC p := by
  obtain ⟨ys, m, _, _, hlen, hys, hf⟩ := DataW.trod_struct Tryd.underlying29 h
  rw [Tryd.cc29] at hlen
  have hy : ys.length = 2 := hys
  have f0 : DataW.trod enc Tryd.prog W base spare held m 27 ((cs.drop 0).take (Tryd.prog.cellsOf 27)) = ys[0]? := hf 0 _ rfl
  rw [Tryd.cc27] at f0
  obtain ⟨_, e0⟩ := some_at (by omega) f0
  have f1 : DataW.trod enc Tryd.prog W base spare held m 9 ((cs.drop 1).take (Tryd.prog.cellsOf 9)) = ys[1]? := hf 1 _ rfl
  rw [Tryd.cc9] at f1
  obtain ⟨_, e1⟩ := some_at (by omega) f1
  obtain ⟨z0, h0, w0⟩ := int_of Tryd.underlying27 e0
  obtain ⟨z1, h1⟩ := str_of e1
  have hp := pieces (cs := cs) [1, 1] 0 (by simp; omega)
  refine ⟨(z0, z1), ?_⟩
  rw [List.drop_zero] at hp
  rw [hp]
  show (cs.drop 0).take 1 ++ ((cs.drop 1).take 1 ++ []) = _
  rw [h0, h1]
  rfl
theorem ls_of (h : DataW.trod enc Tryd.prog W base spare held n 48 cs = some y) : ∃ p : Lst, cs = lsC p := by
  obtain ⟨ys, m, _, _, hlen, hys, hf⟩ := DataW.trod_struct Tryd.underlying48 h
  rw [Tryd.cc48] at hlen
  have hy : ys.length = 2 := hys
  have f0 : DataW.trod enc Tryd.prog W base spare held m 32 ((cs.drop 0).take (Tryd.prog.cellsOf 32)) = ys[0]? := hf 0 _ rfl
  rw [Tryd.cc32] at f0
  obtain ⟨_, e0⟩ := some_at (by omega) f0
  have f1 : DataW.trod enc Tryd.prog W base spare held m 29 ((cs.drop 1).take (Tryd.prog.cellsOf 29)) = ys[1]? := hf 1 _ rfl
  rw [Tryd.cc29] at f1
  obtain ⟨_, e1⟩ := some_at (by omega) f1
  obtain ⟨z0, h0, w0⟩ := int_of Tryd.underlying32 e0
  obtain ⟨p, h1⟩ := rp_of e1
  have hp := pieces (cs := cs) [1, 2] 0 (by simp; omega)
  refine ⟨(z0.toNat, p), ?_⟩
  rw [List.drop_zero] at hp
  rw [hp]
  unfold lsC
  rw [← nat_of_u64 w0]
  show (cs.drop 0).take 1 ++ ((cs.drop 1).take 2 ++ []) = _
  rw [h0, h1]
  rfl
end
theorem rq_in {H : Type} {enc : TypeId × Value → H} {W : World} {base b0 : Nat} {r : Reach} {spare : Nat → Bool} {held : Bool} {v : Value} {d : DataW H} {p : List MemPlace}
    (hval : Value.okWide Tryd.prog W r b0 37 v) (h : DataW.Trod enc Tryd.prog W base spare held 37 v d p) : ∃ q : MRq, v = .agg (rqC q).toArray ∧ q.tag.length = 32 ∧ (q.time < 18446744073709551616 ∧ q.op.amount < 18446744073709551616 ∧ (Lit.int .i64 q.client).wf = true) := by
  simp only [Value.okWide, Tryd.underlying37] at hval
  obtain ⟨cs, rfl, _⟩ := hval
  obtain ⟨fuel, hf⟩ := h
  obtain ⟨m, hm, ha⟩ := rq_of hf
  exact ⟨m, by rw [← hm]; rfl, ha⟩
instance : Inhabited MRq := ⟨⟨0, 0, default, []⟩⟩
theorem rqs_of {H : Type} {enc : TypeId × Value → H} {W : World} {base : Nat} {spare : Nat → Bool} {held : Bool} {A : Option Addr} {n c : Nat} {d : DataW H} {p : List MemPlace}
    (h : DataW.Trod enc Tryd.prog W base spare held 22 (.slice A n c) d p) : ∃ qs : List MRq, qs.length = n ∧ Rqs W A qs := by
  obtain ⟨fuel, hf⟩ := h
  rcases open_slice Tryd.underlying22 hf with ⟨hcs, _⟩ | ⟨a, len, cap, m, k, D, Pl, hcs, _, hlc, hcm, hm, _, hx⟩
  · simp [Value.cells] at hcs
    obtain ⟨rfl, rfl, rfl⟩ := hcs
    exact ⟨[], rfl, fun h => absurd h (by simp), (fun o ho => by cases ho), (fun o ho => by cases ho)⟩
  · simp [Value.cells] at hcs
    obtain ⟨rfl, rfl, rfl⟩ := hcs
    rw [Tryd.cc37] at hx
    have hnm : n ≤ m := by rw [hm]; split <;> omega
    have hx' : ∀ i, i < n → ∃ x : MRq, (∀ j v, (rqC x)[j]? = some v → W.cell? ((a.add (i * 40)).add j) = some v) ∧ x.tag.length = 32 ∧ (x.time < 18446744073709551616 ∧ x.op.amount < 18446744073709551616 ∧ (Lit.int .i64 x.client).wf = true) := by
      intro i hi
      obtain ⟨cs', hc, ht⟩ := hx i (by omega)
      obtain ⟨hl, _, hcell⟩ := World.cells?_some hc
      obtain ⟨x, rfl, ha, hb⟩ := rq_of ht
      refine ⟨x, fun j v hv => ?_, ha, hb⟩
      have hj : j < 40 := by have := (List.getElem?_eq_some_iff.1 hv).1; rw [rqC_length, ha] at this; exact this
      rw [hcell j hj]
      exact hv
    obtain ⟨F, hF⟩ := choose_lt (α := MRq) (p := fun i x => (∀ j v, (rqC x)[j]? = some v → W.cell? ((a.add (i * 40)).add j) = some v) ∧ x.tag.length = 32 ∧ (x.time < 18446744073709551616 ∧ x.op.amount < 18446744073709551616 ∧ (Lit.int .i64 x.client).wf = true)) hx'
    refine ⟨(List.range n).map F, by simp, fun hp => ?_, fun o ho => ?_, fun o ho => ?_⟩
    · have hp0 : 0 < n := by simpa using hp
      obtain ⟨b, off, spot⟩ := a
      have h00 := (hF 0 hp0).1 0 _ (rq_0 _)
      have hspot : spot = none := by simpa [Addr.add] using World.cell?_spot h00
      subst hspot
      refine ⟨b, off, rfl, ?_, fun j u hu => ?_⟩
      · rw [add_plain2] at h00
        exact World.block_lt_of_cell? W _ h00
      · rw [List.getElem?_map] at hu
        obtain ⟨z, hz1, rfl⟩ := Option.map_eq_some_iff.1 hu
        obtain ⟨hj, rfl⟩ := List.getElem?_eq_some_iff.1 hz1
        simp at hj
        obtain ⟨h1, _⟩ := hF j hj
        simp
        intro i v hv
        have := h1 i v hv
        rwa [add_plain2] at this
    · obtain ⟨i, hi, rfl⟩ := List.mem_map.1 ho
      exact (hF i (List.mem_range.1 hi)).2.1
    · obtain ⟨i, hi, rfl⟩ := List.mem_map.1 ho
      exact (hF i (List.mem_range.1 hi)).2.2
theorem rqs_reach {H : Type} {enc : TypeId × Value → H} {W : World} {base : Nat} {spare : Nat → Bool} {held : Bool} {A : Option Addr} {n c : Nat} {d : DataW H} {p : List MemPlace} {ts : List TypeId} {ds : List (DataW H)} {j : Nat}
    (hsz : (DataW.weightsEach Tryd.prog ts ds).all (· ≤ reachBytes) = true) (ht : ts[j]? = some 22) (hd : ds[j]? = some d) (h : DataW.Trod enc Tryd.prog W base spare held 22 (.slice A n c) d p) : n ≤ 1099511627776 := by
  obtain ⟨fuel, hf⟩ := h
  rcases open_slice Tryd.underlying22 hf with ⟨hcs, _⟩ | ⟨a, len, cap, m, k, D, Pl, hcs, _, hlc, hcm, hm, hx, _⟩
  · simp [Value.cells] at hcs
    omega
  · simp [Value.cells] at hcs
    obtain ⟨rfl, rfl, rfl⟩ := hcs
    injection hx with hx1 hx2
    subst hx1
    have h2 := sized_slice hsz ht hd Tryd.underlying22
    rw [Tryd.bytes52] at h2
    simp at h2
    unfold reachBytes at h2
    omega
theorem lss_of {H : Type} {enc : TypeId × Value → H} {W : World} {base : Nat} {spare : Nat → Bool} {held : Bool} {A : Option Addr} {n c : Nat} {d : DataW H} {p : List MemPlace}
    (h : DataW.Trod enc Tryd.prog W base spare held 64 (.slice A n c) d p) : ∃ T : List Lst, T.length = n ∧ Lss W A T ∧ n ≤ c ∧ c ≤ 9223372036854775807 ∧ (A = none → c = 0) := by
  obtain ⟨fuel, hf⟩ := h
  rcases open_slice Tryd.underlying64 hf with ⟨hcs, _⟩ | ⟨a, len, cap, m, k, D, Pl, hcs, _, hlc, hcm, hm, _, hx⟩
  · simp [Value.cells] at hcs
    obtain ⟨rfl, rfl, rfl⟩ := hcs
    exact ⟨[], rfl, fun h => absurd h (by simp), Nat.le_refl _, by omega, fun _ => rfl⟩
  · simp [Value.cells] at hcs
    obtain ⟨rfl, rfl, rfl⟩ := hcs
    rw [Tryd.cc48] at hx
    have hnm : n ≤ m := by rw [hm]; split <;> omega
    have hx' : ∀ i, i < n → ∃ x : Lst, (∀ j v, (lsC x)[j]? = some v → W.cell? ((a.add (i * 3)).add j) = some v) := by
      intro i hi
      obtain ⟨cs', hc, ht⟩ := hx i (by omega)
      obtain ⟨hl, _, hcell⟩ := World.cells?_some hc
      obtain ⟨x, rfl⟩ := ls_of ht
      refine ⟨x, fun j v hv => ?_⟩
      have hj : j < 3 := (List.getElem?_eq_some_iff.1 hv).1
      rw [hcell j hj]
      exact hv
    obtain ⟨F, hF⟩ := choose_lt (α := Lst) (p := fun i x => (∀ j v, (lsC x)[j]? = some v → W.cell? ((a.add (i * 3)).add j) = some v)) hx'
    refine ⟨(List.range n).map F, by simp, fun hp => ?_, hlc, by unfold maxLen at hcm; omega, fun h => by cases h⟩
    have hp0 : 0 < n := by simpa using hp
    obtain ⟨b, off, spot⟩ := a
    have h00 := (hF 0 hp0) 0 _ rfl
    have hspot : spot = none := by simpa [Addr.add] using World.cell?_spot h00
    subst hspot
    refine ⟨b, off, rfl, ?_, fun j u hu => ?_⟩
    · rw [add_plain2] at h00
      exact World.block_lt_of_cell? W _ h00
    · rw [List.getElem?_map] at hu
      obtain ⟨z, hz1, rfl⟩ := Option.map_eq_some_iff.1 hu
      obtain ⟨hj, rfl⟩ := List.getElem?_eq_some_iff.1 hz1
      simp at hj
      have h1 := hF j hj
      simp
      intro i v hv
      have := h1 i v hv
      rwa [add_plain2] at this
end Go.Proofs.YtpageppjngbnpaaDoor
