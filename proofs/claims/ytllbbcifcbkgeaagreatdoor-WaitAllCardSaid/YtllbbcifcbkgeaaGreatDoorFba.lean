/- Laws and walks. -/
import Derived.Test.YtllbbcifcbkgeaaGreatDoorV5a
import Derived.Test.YtllbbcifcbkgeaaGreatDoorS9a
import Derived.OpenShut
import Derived.Deep.Slices
set_option maxHeartbeats 16000000
set_option maxRecDepth 100000
namespace Go.Proofs.YtllbbcifcbkgeaaGreatDoor.Sh
open Go.RowKit Go.ChangeShapes Go.WideShapes Go.Deep
theorem cut_step {α : Type} (l : List α) (a b : Nat) : l.drop a = (l.drop a).take b ++ l.drop (a + b) := by
 rw [<- List.drop_drop]
 exact (List.take_append_drop b _).symm
theorem u8_of_wf {z : Int} (h : (Lit.int .u8 z).wf = true) : z = ((UInt8.ofNat z.toNat).toNat : Int) := by
 simp [Lit.wf, IntKind.min, IntKind.max, IntKind.signed, IntKind.bits] at h
 simp
 omega
section
variable {H : Type} {enc : TypeId × Value -> H} {W : World} {base : Nat} {spare : Nat -> Bool} {held : Bool} {n : Nat} {cs : List Value} {y : DataW H × List MemPlace}
theorem Tryz.cc3 : Tryz.prog.cellsOf 3 = 1 := by kernel_rfl
theorem Tryz.cc55 : Tryz.prog.cellsOf 55 = 2 := by kernel_rfl
theorem int_of {t : TypeId} {k : IntKind} (ht : Tryz.prog.underlying t = some (.int k)) (h : DataW.trod enc Tryz.prog W base spare held n t cs = some y) : ∃ z, cs = [.int k z] /\ (Lit.int k z).wf = true := by
 obtain ⟨z, h1, _, h2⟩ := DataW.trod_int ht h
 exact ⟨z, h1, h2⟩
theorem some_at {α : Type} {xs : List α} {i : Nat} (h : i < xs.length) {o : Option α} (e : o = xs[i]?) : ∃ z, o = some z := ⟨xs[i], by rw [e, List.getElem?_eq_getElem h]⟩
theorem pieces {cs : List Value} : ∀ (bs : List Nat) (a : Nat), cs.length = a + bs.sum -> cs.drop a = (bs.zip ((List.range bs.length).map fun i => a + (bs.take i).sum)).flatMap fun p => (cs.drop p.2).take p.1
 | [], a, h => by
  have h' : cs.length <= a := by simpa using Nat.le_of_eq h
  simpa using h'
 | b :: bs, a, h => by
  rw [cut_step cs a b, pieces bs (a + b) (by simp at h; omega)]
  simp only [List.length_cons, List.range_succ_eq_map, List.map_cons, List.map_map, List.zip_cons_cons, List.flatMap_cons, List.take_zero, List.sum_nil, Nat.add_zero]
  congr 2
  congr 1
  apply List.map_congr_left
  intro i _
  simp [Nat.add_assoc]
theorem word_lt {z : Int} (h : (Lit.int .u64 z).wf = true) : z.toNat < 18446744073709551616 := by
 simp [Lit.wf, IntKind.min, IntKind.max, IntKind.signed, IntKind.bits] at h
 omega
theorem add_plain2 (b o i j : Nat) : (((⟨b, o, none⟩ : Addr).add i).add j) = ⟨b, o + i + j, none⟩ := by rw [Addr.add_lit, Addr.add_lit]
theorem choose_prs {α : Type} {n : Nat} {p : Nat -> α -> Prop} [Inhabited α] (h : ∀ i, i < n -> ∃ x, p i x) : ∃ F : Nat -> α, ∀ i, i < n -> p i (F i) :=
 ⟨fun i => if hi : i < n then Classical.choose (h i hi) else default, fun i hi => by have := Classical.choose_spec (h i hi); simpa [hi] using this⟩
end
end Go.Proofs.YtllbbcifcbkgeaaGreatDoor.Sh
