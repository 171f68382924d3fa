/- Laws and walks. -/
import Derived.Test.YtknpcmadghkaaaaGreatDoorV5w
import Derived.Test.YtknpcmadghkaaaaGreatDoorS9w
import Derived.OpenShut
import Derived.Deep.Slices
set_option maxHeartbeats 16000000
set_option maxRecDepth 100000
namespace Go.Proofs.YtknpcmadghkaaaaGreatDoor.Sh
open Go.RowKit Go.ChangeShapes Go.WideShapes Go.Deep
theorem cut_step {α : Type} (l : List α) (a b : Nat) : l.drop a = (l.drop a).take b ++ l.drop (a + b) := by
 rw [<- List.drop_drop]
 exact (List.take_append_drop b _).symm
theorem nat_of_u64 {z : Int} (h : (Lit.int .u64 z).wf = true) : z = ((z.toNat : Nat) : Int) := by
 simp [Lit.wf, IntKind.min, IntKind.max, IntKind.signed, IntKind.bits] at h
 omega
theorem u8_of_wf {z : Int} (h : (Lit.int .u8 z).wf = true) : z = ((UInt8.ofNat z.toNat).toNat : Int) := by
 simp [Lit.wf, IntKind.min, IntKind.max, IntKind.signed, IntKind.bits] at h
 simp
 omega
section
variable {H : Type} {enc : TypeId × Value -> H} {W : World} {base : Nat} {spare : Nat -> Bool} {held : Bool} {n : Nat} {cs : List Value} {y : DataW H × List MemPlace}
theorem arr_of {t e : TypeId} {N : Nat} {k : IntKind} (hu : Tryz.prog.underlying t = some (.array N e)) (he : Tryz.prog.underlying e = some (.int k)) (hce : Tryz.prog.cellsOf e = 1) (hct : Tryz.prog.cellsOf t = N)
  (h : DataW.trod enc Tryz.prog W base spare held n t cs = some y) : ∃ zs : List Int, cs = zs.map (Value.int k) /\ zs.length = N /\ ∀ z ∈ zs, (Lit.int k z).wf = true := by
 obtain ⟨xs, m, _, _, hcl, hxl, hat⟩ := DataW.trod_array hu h
 rw [hct] at hcl
 have key : ∀ i, i < N -> ∃ z, cs[i]? = some (.int k z) /\ (Lit.int k z).wf = true := fun i hi => by
  have h1 := hat i hi
  rw [hce] at h1
  have h2 : xs[i]? = some xs[i] := List.getElem?_eq_getElem (by omega)
  rw [h2] at h1
  obtain ⟨z, hz, _, hw⟩ := DataW.trod_int he h1
  refine ⟨z, ?_, hw⟩
  have := congrArg (·[0]?) hz
  simpa [List.getElem?_take, List.getElem?_drop] using this
 refine ⟨cs.map intOf, ?_, by rw [List.length_map, hcl], ?_⟩
 ·apply List.ext_getElem?
  intro i
  by_cases hi : i < N
  ·obtain ⟨z, hz, _⟩ := key i hi
   simp [hz, intOf]
  ·rw [List.getElem?_eq_none (by omega), List.getElem?_eq_none (by simp; omega)]
 ·intro z hz
  obtain ⟨c, hc, rfl⟩ := List.mem_map.1 hz
  obtain ⟨i, hi, hci⟩ := List.mem_iff_getElem.1 hc
  obtain ⟨z, hz1, hw⟩ := key i (by omega)
  rw [List.getElem?_eq_getElem hi, hci] at hz1
  rw [Option.some.inj hz1]
  exact hw
theorem Tryz.cc30 : Tryz.prog.cellsOf 30 = 32 := by kernel_rfl
theorem Tryz.cc37 : Tryz.prog.cellsOf 37 = 11 := by kernel_rfl
theorem Tryz.cc29 : Tryz.prog.cellsOf 29 = 6 := by kernel_rfl
theorem Tryz.cc32 : Tryz.prog.cellsOf 32 = 40 := by kernel_rfl
theorem Tryz.cc35 : Tryz.prog.cellsOf 35 = 76 := by kernel_rfl
theorem Tryz.cc39 : Tryz.prog.cellsOf 39 = 121 := by kernel_rfl
theorem Tryz.cc3 : Tryz.prog.cellsOf 3 = 1 := by kernel_rfl
theorem Tryz.cc9 : Tryz.prog.cellsOf 9 = 1 := by kernel_rfl
theorem Tryz.cc33 : Tryz.prog.cellsOf 33 = 1 := by kernel_rfl
theorem Tryz.cc78 : Tryz.prog.cellsOf 78 = 2 := by kernel_rfl
theorem tag_of (h : DataW.trod enc Tryz.prog W base spare held n 30 cs = some y) : ∃ l : List UInt8, cs = u8s l /\ l.length = 32 := by
 obtain ⟨zs, rfl, hl, hw⟩ := arr_of Tryz.underlying30 Tryz.underlying5 Tryz.cells5 Tryz.cc30 h
 refine ⟨zs.map fun z => UInt8.ofNat z.toNat, ?_, by simpa⟩
 rw [u8s, List.map_map]
 exact List.map_congr_left fun z hz => congrArg (Value.int .u8) (u8_of_wf (hw z hz))
theorem deps_of (h : DataW.trod enc Tryz.prog W base spare held n 37 cs = some y) : ∃ l : List Nat, cs = u64s l /\ l.length = 11 := by
 obtain ⟨zs, rfl, hl, hw⟩ := arr_of Tryz.underlying37 Tryz.underlying25 Tryz.cells25 Tryz.cc37 h
 refine ⟨zs.map fun z => z.toNat, ?_, by simpa⟩
 rw [u64s, List.map_map]
 exact List.map_congr_left fun z hz => congrArg (Value.int .u64) (nat_of_u64 (hw z hz))
theorem int_of {t : TypeId} {k : IntKind} (ht : Tryz.prog.underlying t = some (.int k)) (h : DataW.trod enc Tryz.prog W base spare held n t cs = some y) : ∃ z, cs = [.int k z] /\ (Lit.int k z).wf = true := by
 obtain ⟨z, h1, _, h2⟩ := DataW.trod_int ht h
 exact ⟨z, h1, h2⟩
theorem str_of (h : DataW.trod enc Tryz.prog W base spare held n 9 cs = some y) : ∃ z, cs = [.string z] := by
 obtain ⟨z, h1, _, _⟩ := DataW.trod_string Tryz.underlying9 h
 exact ⟨z, h1⟩
theorem some_at {α : Type} {xs : List α} {i : Nat} (h : i < xs.length) {o : Option α} (e : o = xs[i]?) : ∃ z, o = some z := ⟨xs[i], by rw [e, List.getElem?_eq_getElem h]⟩
theorem pieces {cs : List Value} : ∀ (bs : List Nat) (a : Nat), cs.length = a + bs.sum -> cs.drop a = (bs.zip ((List.range bs.length).map fun i => a + (bs.take i).sum)).flatMap fun p => (cs.drop p.2).take p.1
 | [], a, h => by
  have h' : cs.length <= a := by simpa using Nat.le_of_eq h
  simpa using h'
 | b :: bs, a, h => by
  rw [cut_step cs a b, pieces bs (a + b) (by simp at h; omega)]
  simp only [List.length_cons, List.range_succ_eq_map, List.map_cons, List.map_map, List.zip_cons_cons, List.flatMap_cons, List.take_zero, List.sum_nil, Nat.add_zero]
  congr 2
  congr 1
  apply List.map_congr_left
  intro i _
  simp [Nat.add_assoc]
theorem word_lt {z : Int} (h : (Lit.int .u64 z).wf = true) : z.toNat < 18446744073709551616 := by
 simp [Lit.wf, IntKind.min, IntKind.max, IntKind.signed, IntKind.bits] at h
 omega
theorem op_of (h : DataW.trod enc Tryz.prog W base spare held n 29 cs = some y) : ∃ o : MOp, cs = opC o /\ o.amount < 18446744073709551616 := by
 obtain ⟨ys, m, _, _, hlen, hys, hf⟩ := DataW.trod_struct Tryz.underlying29 h
 rw [Tryz.cc29] at hlen
 have hy : ys.length = 6 := hys
 have f0 : DataW.trod enc Tryz.prog W base spare held m 5 ((cs.drop 0).take (Tryz.prog.cellsOf 5)) = ys[0]? := hf 0 _ rfl
 rw [Tryz.cells5] at f0
 obtain ⟨_, e0⟩ := some_at (by omega) f0
 have f1 : DataW.trod enc Tryz.prog W base spare held m 9 ((cs.drop 1).take (Tryz.prog.cellsOf 9)) = ys[1]? := hf 1 _ rfl
 rw [Tryz.cc9] at f1
 obtain ⟨_, e1⟩ := some_at (by omega) f1
 have f2 : DataW.trod enc Tryz.prog W base spare held m 9 ((cs.drop 2).take (Tryz.prog.cellsOf 9)) = ys[2]? := hf 2 _ rfl
 rw [Tryz.cc9] at f2
 obtain ⟨_, e2⟩ := some_at (by omega) f2
 have f3 : DataW.trod enc Tryz.prog W base spare held m 9 ((cs.drop 3).take (Tryz.prog.cellsOf 9)) = ys[3]? := hf 3 _ rfl
 rw [Tryz.cc9] at f3
 obtain ⟨_, e3⟩ := some_at (by omega) f3
 have f4 : DataW.trod enc Tryz.prog W base spare held m 9 ((cs.drop 4).take (Tryz.prog.cellsOf 9)) = ys[4]? := hf 4 _ rfl
 rw [Tryz.cc9] at f4
 obtain ⟨_, e4⟩ := some_at (by omega) f4
 have f5 : DataW.trod enc Tryz.prog W base spare held m 25 ((cs.drop 5).take (Tryz.prog.cellsOf 25)) = ys[5]? := hf 5 _ rfl
 rw [Tryz.cells25] at f5
 obtain ⟨_, e5⟩ := some_at (by omega) f5
 obtain ⟨z0, h0, w0⟩ := int_of Tryz.underlying5 e0
 obtain ⟨z1, h1⟩ := str_of e1
 obtain ⟨z2, h2⟩ := str_of e2
 obtain ⟨z3, h3⟩ := str_of e3
 obtain ⟨z4, h4⟩ := str_of e4
 obtain ⟨z5, h5, w5⟩ := int_of Tryz.underlying25 e5
 have hp := pieces (cs := cs) [1, 1, 1, 1, 1, 1] 0 (by simp; omega)
 refine ⟨⟨UInt8.ofNat z0.toNat, z1, z2, z3, z4, z5.toNat⟩, ?_, word_lt w5⟩
 rw [List.drop_zero] at hp
 rw [hp, opC, <- u8_of_wf w0, <- nat_of_u64 w5]
 show (cs.drop 0).take 1 ++ ((cs.drop 1).take 1 ++ ((cs.drop 2).take 1 ++ ((cs.drop 3).take 1 ++ ((cs.drop 4).take 1 ++ ((cs.drop 5).take 1 ++ []))))) = _
 rw [h0, h1, h2, h3, h4, h5]
 rfl
theorem req_of (h : DataW.trod enc Tryz.prog W base spare held n 32 cs = some y) : ∃ r : MReq, cs = reqC r /\ r.tag.length = 32 /\ r.op.amount < 18446744073709551616 := by
 obtain ⟨ys, m, _, _, hlen, hys, hf⟩ := DataW.trod_struct Tryz.underlying32 h
 rw [Tryz.cc32] at hlen
 have hy : ys.length = 4 := hys
 have f0 : DataW.trod enc Tryz.prog W base spare held m 3 ((cs.drop 0).take (Tryz.prog.cellsOf 3)) = ys[0]? := hf 0 _ rfl
 rw [Tryz.cc3] at f0
 obtain ⟨_, e0⟩ := some_at (by omega) f0
 have f1 : DataW.trod enc Tryz.prog W base spare held m 25 ((cs.drop 1).take (Tryz.prog.cellsOf 25)) = ys[1]? := hf 1 _ rfl
 rw [Tryz.cells25] at f1
 obtain ⟨_, e1⟩ := some_at (by omega) f1
 have f2 : DataW.trod enc Tryz.prog W base spare held m 29 ((cs.drop 2).take (Tryz.prog.cellsOf 29)) = ys[2]? := hf 2 _ rfl
 rw [Tryz.cc29] at f2
 obtain ⟨_, e2⟩ := some_at (by omega) f2
 have f3 : DataW.trod enc Tryz.prog W base spare held m 30 ((cs.drop 8).take (Tryz.prog.cellsOf 30)) = ys[3]? := hf 3 _ rfl
 rw [Tryz.cc30] at f3
 obtain ⟨_, e3⟩ := some_at (by omega) f3
 obtain ⟨z0, h0, w0⟩ := int_of Tryz.underlying3 e0
 obtain ⟨z1, h1, w1⟩ := int_of Tryz.underlying25 e1
 obtain ⟨o, h2, ho⟩ := op_of e2
 obtain ⟨t, h3, ht⟩ := tag_of e3
 have hp := pieces (cs := cs) [1, 1, 6, 32] 0 (by simp; omega)
 refine ⟨⟨z0, z1.toNat, o, t⟩, ?_, ht, ho⟩
 rw [List.drop_zero] at hp
 rw [hp, reqC, <- nat_of_u64 w1]
 show (cs.drop 0).take 1 ++ ((cs.drop 1).take 1 ++ ((cs.drop 2).take 6 ++ ((cs.drop 8).take 32 ++ []))) = _
 rw [h0, h1, h2, h3]
 simp
theorem pair_of (h : DataW.trod enc Tryz.prog W base spare held n 78 cs = some y) : ∃ p : Int × Nat, cs = prC p := by
 obtain ⟨ys, m, _, _, hlen, hys, hf⟩ := DataW.trod_struct Tryz.underlying78 h
 rw [Tryz.cc78] at hlen
 have hy : ys.length = 2 := hys
 have f0 : DataW.trod enc Tryz.prog W base spare held m 3 ((cs.drop 0).take (Tryz.prog.cellsOf 3)) = ys[0]? := hf 0 _ rfl
 rw [Tryz.cc3] at f0
 obtain ⟨_, e0⟩ := some_at (by omega) f0
 have f1 : DataW.trod enc Tryz.prog W base spare held m 25 ((cs.drop 1).take (Tryz.prog.cellsOf 25)) = ys[1]? := hf 1 _ rfl
 rw [Tryz.cells25] at f1
 obtain ⟨_, e1⟩ := some_at (by omega) f1
 obtain ⟨z0, h0, w0⟩ := int_of Tryz.underlying3 e0
 obtain ⟨z1, h1, w1⟩ := int_of Tryz.underlying25 e1
 have hp := pieces (cs := cs) [1, 1] 0 (by simp; omega)
 refine ⟨(z0, z1.toNat), ?_⟩
 rw [List.drop_zero] at hp
 rw [hp, prC, <- nat_of_u64 w1]
 show (cs.drop 0).take 1 ++ ((cs.drop 1).take 1 ++ []) = _
 rw [h0, h1]
 rfl
theorem add_plain2 (b o i j : Nat) : (((⟨b, o, none⟩ : Addr).add i).add j) = ⟨b, o + i + j, none⟩ := by rw [Addr.add_lit, Addr.add_lit]
theorem choose_prs {α : Type} {n : Nat} {p : Nat -> α -> Prop} [Inhabited α] (h : ∀ i, i < n -> ∃ x, p i x) : ∃ F : Nat -> α, ∀ i, i < n -> p i (F i) :=
 ⟨fun i => if hi : i < n then Classical.choose (h i hi) else default, fun i hi => by have := Classical.choose_spec (h i hi); simpa [hi] using this⟩
theorem pairs_of (h : DataW.trod enc Tryz.prog W base spare held n 33 cs = some y) : ∃ (A : Option Addr) (c : Nat) (qs : List (Int × Nat)), cs = [.slice A qs.length c] /\ Prs W A qs := by
 rcases open_slice Tryz.underlying33 h with ⟨hcs, _⟩ | ⟨a, len, cap, m, k, D, Pl, hcs, _, hlc, hcm, hm, _, hx⟩
 ·exact ⟨none, 0, [], hcs, fun h => absurd h (by simp)⟩
 ·rw [Tryz.cc78] at hx
  have hnm : len <= m := by rw [hm]; split <;> omega
  have hx' : ∀ i, i < len -> ∃ p : Int × Nat, ∀ j v, (prC p)[j]? = some v -> W.cell? ((a.add (i * 2)).add j) = some v := by
   intro i hi
   obtain ⟨cs', hc, ht⟩ := hx i (by omega)
   obtain ⟨hl, _, hcell⟩ := World.cells?_some hc
   obtain ⟨p, rfl⟩ := pair_of ht
   refine ⟨p, fun j v hv => ?_⟩
   have hj : j < 2 := (List.getElem?_eq_some_iff.1 hv).1
   rw [hcell j hj]
   exact hv
  obtain ⟨F, hF⟩ := choose_prs hx'
  refine ⟨some a, cap, (List.range len).map F, by simpa using hcs, fun hp => ?_⟩
  obtain ⟨b, off, spot⟩ := a
  have h00 := hF 0 (by simpa using hp) 0 _ rfl
  have hspot : spot = none := by simpa [Addr.add] using World.cell?_spot h00
  subst hspot
  refine ⟨b, off, rfl, ?_, fun j u hu => ?_⟩
  ·rw [add_plain2] at h00
   exact World.block_lt_of_cell? W _ h00
  ·rw [List.getElem?_map] at hu
   obtain ⟨z, hz1, rfl⟩ := Option.map_eq_some_iff.1 hu
   obtain ⟨hj, rfl⟩ := List.getElem?_eq_some_iff.1 hz1
   simp at hj
   have h0 := hF j hj 0 _ rfl
   have h1 := hF j hj 1 _ rfl
   rw [add_plain2] at h0 h1
   simpa using ⟨h0, h1⟩
theorem body_of (h : DataW.trod enc Tryz.prog W base spare held n 35 cs = some y) : ∃ b : MBody, cs = bodyC b /\ b.Wf /\ Prs W b.qa b.qs /\ b.req.op.amount < 18446744073709551616 := by
 obtain ⟨ys, m, _, _, hlen, hys, hf⟩ := DataW.trod_struct Tryz.underlying35 h
 rw [Tryz.cc35] at hlen
 have hy : ys.length = 6 := hys
 have f0 : DataW.trod enc Tryz.prog W base spare held m 5 ((cs.drop 0).take (Tryz.prog.cellsOf 5)) = ys[0]? := hf 0 _ rfl
 rw [Tryz.cells5] at f0
 obtain ⟨_, e0⟩ := some_at (by omega) f0
 have f1 : DataW.trod enc Tryz.prog W base spare held m 25 ((cs.drop 1).take (Tryz.prog.cellsOf 25)) = ys[1]? := hf 1 _ rfl
 rw [Tryz.cells25] at f1
 obtain ⟨_, e1⟩ := some_at (by omega) f1
 have f2 : DataW.trod enc Tryz.prog W base spare held m 25 ((cs.drop 2).take (Tryz.prog.cellsOf 25)) = ys[2]? := hf 2 _ rfl
 rw [Tryz.cells25] at f2
 obtain ⟨_, e2⟩ := some_at (by omega) f2
 have f3 : DataW.trod enc Tryz.prog W base spare held m 32 ((cs.drop 3).take (Tryz.prog.cellsOf 32)) = ys[3]? := hf 3 _ rfl
 rw [Tryz.cc32] at f3
 obtain ⟨_, e3⟩ := some_at (by omega) f3
 have f4 : DataW.trod enc Tryz.prog W base spare held m 33 ((cs.drop 43).take (Tryz.prog.cellsOf 33)) = ys[4]? := hf 4 _ rfl
 rw [Tryz.cc33] at f4
 obtain ⟨_, e4⟩ := some_at (by omega) f4
 have f5 : DataW.trod enc Tryz.prog W base spare held m 30 ((cs.drop 44).take (Tryz.prog.cellsOf 30)) = ys[5]? := hf 5 _ rfl
 rw [Tryz.cc30] at f5
 obtain ⟨_, e5⟩ := some_at (by omega) f5
 obtain ⟨z0, h0, w0⟩ := int_of Tryz.underlying5 e0
 obtain ⟨z1, h1, w1⟩ := int_of Tryz.underlying25 e1
 obtain ⟨z2, h2, w2⟩ := int_of Tryz.underlying25 e2
 obtain ⟨r, h3, hr, ho⟩ := req_of e3
 obtain ⟨A, c, qs, h4, hq⟩ := pairs_of e4
 obtain ⟨t, h5, ht⟩ := tag_of e5
 have hp := pieces (cs := cs) [1, 1, 1, 40, 1, 32] 0 (by simp; omega)
 refine ⟨⟨UInt8.ofNat z0.toNat, z1.toNat, z2.toNat, r, A, c, qs, t⟩, ?_, ⟨hr, ht⟩, hq, ho⟩
 rw [List.drop_zero] at hp
 rw [hp, bodyC, <- u8_of_wf w0, <- nat_of_u64 w1, <- nat_of_u64 w2]
 show (cs.drop 0).take 1 ++ ((cs.drop 1).take 1 ++ ((cs.drop 2).take 1 ++ ((cs.drop 3).take 40 ++ ((cs.drop 43).take 1 ++ ((cs.drop 44).take 32 ++ []))))) = _
 rw [h0, h1, h2, h3, h4, h5]
 simp [MBody.qv]
theorem msg_cells (h : DataW.trod enc Tryz.prog W base spare held n 39 cs = some y) : ∃ m : MMsg, cs = msgC m /\ m.Wf /\ Prs W m.body.qa m.body.qs /\ m.body.req.op.amount < 18446744073709551616 := by
 obtain ⟨ys, k, _, _, hlen, hys, hf⟩ := DataW.trod_struct Tryz.underlying39 h
 rw [Tryz.cc39] at hlen
 have hy : ys.length = 5 := hys
 have f0 : DataW.trod enc Tryz.prog W base spare held k 3 ((cs.drop 0).take (Tryz.prog.cellsOf 3)) = ys[0]? := hf 0 _ rfl
 rw [Tryz.cc3] at f0
 obtain ⟨_, e0⟩ := some_at (by omega) f0
 have f1 : DataW.trod enc Tryz.prog W base spare held k 25 ((cs.drop 1).take (Tryz.prog.cellsOf 25)) = ys[1]? := hf 1 _ rfl
 rw [Tryz.cells25] at f1
 obtain ⟨_, e1⟩ := some_at (by omega) f1
 have f2 : DataW.trod enc Tryz.prog W base spare held k 37 ((cs.drop 2).take (Tryz.prog.cellsOf 37)) = ys[2]? := hf 2 _ rfl
 rw [Tryz.cc37] at f2
 obtain ⟨_, e2⟩ := some_at (by omega) f2
 have f3 : DataW.trod enc Tryz.prog W base spare held k 35 ((cs.drop 13).take (Tryz.prog.cellsOf 35)) = ys[3]? := hf 3 _ rfl
 rw [Tryz.cc35] at f3
 obtain ⟨_, e3⟩ := some_at (by omega) f3
 have f4 : DataW.trod enc Tryz.prog W base spare held k 30 ((cs.drop 89).take (Tryz.prog.cellsOf 30)) = ys[4]? := hf 4 _ rfl
 rw [Tryz.cc30] at f4
 obtain ⟨_, e4⟩ := some_at (by omega) f4
 obtain ⟨z0, h0, w0⟩ := int_of Tryz.underlying3 e0
 obtain ⟨z1, h1, w1⟩ := int_of Tryz.underlying25 e1
 obtain ⟨l, h2, hl⟩ := deps_of e2
 obtain ⟨b, h3, hb, hq, ho⟩ := body_of e3
 obtain ⟨t, h4, ht⟩ := tag_of e4
 have hp := pieces (cs := cs) [1, 1, 11, 76, 32] 0 (by simp; omega)
 refine ⟨⟨z0, z1.toNat, l, b, t⟩, ?_, ⟨hl, hb, ht⟩, hq, ho⟩
 rw [List.drop_zero] at hp
 rw [hp, msgC, <- nat_of_u64 w1]
 show (cs.drop 0).take 1 ++ ((cs.drop 1).take 1 ++ ((cs.drop 2).take 11 ++ ((cs.drop 13).take 76 ++ ((cs.drop 89).take 32 ++ [])))) = _
 rw [h0, h1, h2, h3, h4]
 simp
end
theorem msg_of {H : Type} {enc : TypeId × Value -> H} {W : World} {base b0 : Nat} {r : Reach} {spare : Nat -> Bool} {held : Bool} {v : Value} {d : DataW H} {p : List MemPlace}
  (hval : Value.okWide Tryz.prog W r b0 39 v) (h : DataW.Trod enc Tryz.prog W base spare held 39 v d p) : ∃ m : MMsg, v = .agg (msgC m).toArray /\ m.Wf /\ Prs W m.body.qa m.body.qs /\ m.body.req.op.amount < 18446744073709551616 := by
 simp only [Value.okWide, Tryz.underlying39] at hval
 obtain ⟨cs, rfl, _⟩ := hval
 obtain ⟨fuel, hf⟩ := h
 obtain ⟨m, hm, h1⟩ := msg_cells hf
 exact ⟨m, by rw [<- hm]; rfl, h1⟩
end Go.Proofs.YtknpcmadghkaaaaGreatDoor.Sh
