/-
  What is proved: what the two Sums answer. Conditions as stated.
-/
import Derived.Test.YtflbhicjaaeegaaDoorG
namespace Go.Proofs.YtflbhicjaaeegaaDoor
open Go.RowKit

/-- A whole value into a block that was just made: what the block holds. -/
theorem wpList_store_whole {P : Program} {ops : Array Oper} {rest : List Oper} {op : Oper} {a : Act} {w : World} {Z : Array Value} {t : TypeId} {Q : Exit → Act → World → Prop} (hgd : op.guard = none) (ty : TypeId) (x y : Operand) (ho : op.op = .store ty x y)
    (cs : List Value) (G : Nat) (hG : w.heap.size = G) (hx : a.eval x = .pointer (some ⟨G, 0, none⟩)) (hy : a.eval y = .agg cs.toArray) (hZ : Z.size = cs.length) (hi : (P.info? ty).map (·.size) = some cs.length) (h1 : ∀ v ∈ cs, v.oneCell' = true)
    (h : ∀ w2, Hid (Below w.heap.size w w2 ∧ w2.heap[G]? = some (.cells cs.toArray t (0, 0)) ∧ G < w2.heap.size) → wpList P ops Q rest (a.put op.dst undef) w2) : wpList P ops Q (op :: rest) a (w.alloc (.cells Z t)) := by
  subst hG
  have ht : (w.alloc (.cells Z t)).there w.heap.size 0 cs.length := by rw [← hZ]; exact there_new w Z t
  have hb0 : Below w.heap.size w (w.alloc (.cells Z t)) := (Below.refl _ _).alloc (Nat.le_refl _) _
  refine wpList_store_cells hgd ty x y ho w.heap.size 0 cs hx hy ht hi h1 (h _ (Lib.hid ⟨below_setCells (Nat.le_refl _) _ _ _ hb0, ?_, ?_⟩))
  · have hz : (w.alloc (.cells Z t)).heap[w.heap.size]? = some (.cells Z.toList.toArray t (0, 0)) := by rw [Array.toArray_toList]; exact heap_alloc_new w _
    rw [heap_setCells cs 0 _ _ hz]
    have := setAll_mid cs [] Z.toList [] (by simpa using hZ)
    simp only [List.nil_append, List.append_nil, List.length_nil] at this
    rw [this]
  · have := (below_setCells (B := 0) (a := w.alloc (.cells Z t)) (b := w.heap.size) (Nat.zero_le _) cs 0 _ (Below.refl _ _)).size
    simp at this
    omega

theorem hcells_one (nums : List UInt32) (blk : List UInt8) (f n : Nat) : ∀ v ∈ hcells nums blk f n, v.oneCell' = true := by
  intro v hv
  simp only [hcells, List.mem_append, List.mem_cons, List.not_mem_nil, or_false] at hv
  rcases hv with hv | hv | rfl | rfl
  · exact u32s_one _ v hv
  · exact u8s_one _ v hv
  · rfl
  · rfl
theorem there_grown {w w' : World} {b g o n : Nat} (h : w.there b o n) (hb : w.grownBy w' (some g)) (hne : b ≠ g) : w'.there b o n := fun j hj => by
  obtain ⟨u, hu⟩ := Option.isSome_iff_exists.1 (h j hj).1
  have hlt := World.block_lt_of_cell? w _ hu
  exact ⟨by rw [hb.cell hu (fun e => hne (Option.some.inj e))]; rfl, by rw [World.frozen?_of_block (w := w) (hb.block b hlt (fun e => hne (Option.some.inj e)))]; exact (h j hj).2⟩
theorem padOf_length (n : Nat) : (padOf n).length = 1 + (119 - n % 64) % 64 + 8 := padTo_length n 8
theorem Rd.of_range {P : Nat → Prop} {w : World} {g c : Nat} {l more : List UInt8} (h : w.rangeAt g 0 (u8s l)) (hg : g < w.heap.size) (hp : P g) (hc : ∀ (j : Nat) (u : UInt8), more[j]? = some u → l[j]? = some u) (hn : more.length = c) : Rd P w (some ⟨g, 0, none⟩) c more :=
  ⟨hn, fun _ => ⟨g, 0, rfl, hg, hp, fun j u hu => h j _ (by simp [u8s, hc j u hu])⟩⟩

/-- What is known ahead of the walk. -/
structure SumFacts (g n f pl : Nat) (nums all : List UInt32) (blk out pz pad xs : List UInt8) (w : World) : Prop where
  hk : KIs w
  h0 : 0 < w.heap.size
  hh : w.heap[g]? = some (.cells (hcells nums blk f n).toArray 52 (0, 0))
  gw : g < w.heap.size
  pl72 : pl ≤ 72
  c73 : w.cell? ⟨g, 73, none⟩ = some (.int .u64 (n : Int))
  i52 : (Tryd.prog.info? 52).map (·.size) = some (hcells nums blk f n).length
  cl : (hcells nums blk f n).length = 74
  pd : ∀ w : World, Calls Tryd.prog 26 #[.int .u64 (n : Int)] w fun E w' => E = .returned (.tuple #[.agg (u8s pz).toArray, .int .i64 (pl : Int)]) ∧ Below w.heap.size w w'
  pzl : (u8s pz).length = 72
  i53 : (Tryd.prog.info? 53).map (·.size) = some (u8s pz).length
  pz : ∀ (j : Nat) (u : UInt8), pad[j]? = some u → pz[j]? = some u
  dg : ∀ w : World, Calls Tryd.prog 27 #[.agg (u32s all).toArray] w fun E w' => E = .returned (.agg (u8s out).toArray) ∧ Below w.heap.size w w'
  ol : (u8s out).length = 32
  i29 : (Tryd.prog.info? 29).map (·.size) = some (u8s out).length
  i23 : (Tryd.prog.info? 23).map (·.size) = some (u32s all).length
  wr : ∀ (g2 ge : Nat) (w : World), HashIs w g2 xs xs.length → Rd (· ≠ g2) w (some ⟨ge, 0, none⟩) pl pad → KIs w → 0 < g2 →
      Calls Tryd.prog 15 #[.pointer (some ⟨g2, 0, none⟩), .slice (some ⟨ge, 0, none⟩) pl 72] w fun E w' => E = .returned (.tuple #[]) ∧ (∃ blk' f' n', w'.heap[g2]? = some (.cells (hcells all blk' f' n').toArray 52 (0, 0))) ∧ w.grownBy w' (some g2)
  hx : ∀ (w2 : World) (g2 : Nat), w2.heap[g2]? = some (.cells (hcells nums blk f n).toArray 52 (0, 0)) → HashIs w2 g2 xs xs.length
  hpl : pl = pad.length

set_option maxHeartbeats 1000000 in
set_option maxRecDepth 100000 in
theorem hashSum_by (g n f pl : Nat) (nums all : List UInt32) (blk out pz pad xs : List UInt8) (w : World) (H : SumFacts g n f pl nums all blk out pz pad xs w) :
    Calls Tryd.prog 16 #[.pointer (some ⟨g, 0, none⟩)] w fun E w' => E = .returned (.agg (u8s out).toArray) ∧ Below w.heap.size w w' := by
  obtain ⟨hz52, _⟩ := zero_of_info Tryd.zero52
  obtain ⟨hz53, _⟩ := zero_of_info Tryd.zero53
  have HK := Lib.hid H.hk
  have HZ := Lib.hid H.h0
  have HH := Lib.hid H.hh
  have HGW := Lib.hid H.gw
  have hpli : (pl : Int) ≤ 72 := by have := H.pl72; omega
  have c73 := H.c73
  have HI := Lib.hid H.i52
  have HCL := Lib.hid H.cl
  have HPAD := Lib.hid H.pd
  have HPZL := Lib.hid H.pzl
  have HIP := Lib.hid H.i53
  have HPZ := Lib.hid H.pz
  have HDIG := Lib.hid H.dg
  have HIO := Lib.hid H.i29
  have HOL := Lib.hid H.ol
  have HIA := Lib.hid H.i23
  have HWR := Lib.hid H.wr
  have HXS := Lib.hid H.hx
  have HPL := Lib.hid H.hpl
  clear H
  go_enter Tryd.func16, Tryd.ntmps16
  go_wp2_with (first
    | (refine wpList_load_mid rfl 52 (.tmp 10) rfl g 0 rfl (hcells nums blk f n) _ (World.rangeAt_alloc (range_block HH.out 0 _ (by intro j v hv; rw [Nat.zero_add]; exact hv)) _) Tryd.underlying52 rfl HI.out ?_)
    | (refine wpList_store_whole rfl 52 (.tmp 3) (.tmp 11) rfl (hcells nums blk f n) (w.heap.size + 1) (by simp) rfl rfl HCL.out.symm HI.out (hcells_one _ _ _ _) ?_; intro w2 G2; have hb2 : Hid (Below w.heap.size w w2) := Lib.hid (((Below.refl _ _).alloc (Nat.le_refl _) _).trans (G2.out.1.mono (by simp))); have ht2 : Hid (w2.there w.heap.size 0 32) := Lib.hid (there_below (there_new w _ _) G2.out.1 (by simp)); have c73' : w2.cell? ⟨g, 73, none⟩ = some (.int .u64 (n : Int)) := (hb2.out.cell (p := ⟨g, 73, none⟩) HGW.out).trans c73)
    | (go_at_call 26; refine (HPAD.out w2).mono ?_; rintro E w3 ⟨rfl, hb3⟩; have HB3 := Lib.hid hb3; clear hb3)
    | (refine wpList_store_fresh rfl 53 (.tmp 4) (.tmp 18) rfl (u8s pz) rfl rfl (by simp [HPZL.out]) HIP.out (u8s_one _) ?_; intro w4 G4)
    | (go_at_call 15; refine (HWR.out (w.heap.size + 1) w3.heap.size w4 (HXS.out w4 _ ((G4.out.1.block _ (by have := G2.out.2.2; have := HB3.out.size; omega)).trans ((HB3.out.block _ G2.out.2.2).trans G2.out.2.1))) (Rd.of_range G4.out.2.1 G4.out.2.2.2 (by have := G2.out.2.2; have := HB3.out.size; omega) HPZ.out HPL.out.symm) (HK.out.below (hb2.out.trans ((HB3.out.mono hb2.out.size).trans (G4.out.1.mono (by have := hb2.out.size; have := HB3.out.size; omega)))) HZ.out) (by omega)).mono ?_; rintro E w5 ⟨rfl, hc5, hg5⟩; have HC5 := Lib.hid hc5; have HG5 := Lib.hid hg5; clear hc5 hg5)
    | (obtain ⟨blk', f', n', hc5⟩ := HC5.out; refine wpList_load_mid rfl 23 (.tmp 23) rfl (w.heap.size + 1) 0 rfl (u32s all) _ (range_block hc5 0 _ (hcells_nums all blk' f' n')) Tryd.underlying23 rfl HIA.out ?_; clear hc5)
    | (go_at_call 27; refine (HDIG.out w5).mono ?_; rintro E w6 ⟨rfl, hb6⟩; have HT6 : Hid (w6.there w.heap.size 0 (u8s out).length) := Lib.hid (by rw [HOL.out]; exact there_below (there_grown (there_below (there_below ht2.out HB3.out (by have := G2.out.2.2; omega)) G4.out.1 (by have := G2.out.2.2; have := HB3.out.size; omega)) HG5.out (by omega)) hb6 (by have := G2.out.2.2; have := HB3.out.size; have := G4.out.1.size; have := HG5.out.size; omega)); have HB6 := Lib.hid hb6; clear hb6)
    | (refine wpList_store_cells rfl 29 (.tmp 2) (.tmp 25) rfl w.heap.size 0 (u8s out) rfl rfl HT6.out HIO.out (u8s_one _) ?_))
  refine bodyPost_ret (ret_range (cs := u8s out) rfl rfl (World.rangeAt_setCells_same _ _ _ (u8s out) HT6.out) Tryd.underlying29 rfl HIO.out) rfl ⟨rfl, below_setCells (Nat.le_refl _) _ _ _ ?_⟩
  have h3 : Below w.heap.size w w3 := hb2.out.trans (HB3.out.mono hb2.out.size)
  have h4 : Below w.heap.size w w4 := h3.trans (G4.out.1.mono h3.size)
  have h5 : Below w.heap.size w w5 := h4.grown HG5.out h4.size (fun k hk => by cases hk; omega)
  exact h5.trans (HB6.out.mono h5.size)

theorem hashSum_any (g : Nat) (xs : List UInt8) (w : World) (hh : HashIs w g xs xs.length) (hL : xs.length < 1000000000000000000) (hk : KIs w) (h0 : 0 < w.heap.size) :
    Calls Tryd.prog 16 #[.pointer (some ⟨g, 0, none⟩)] w fun E w' => E = .returned (.agg (u8s (sumOf xs)).toArray) ∧ Below w.heap.size w w' := by
  have hgw := hh.lt
  obtain ⟨blk, hb64, hbt, hh⟩ := hh
  have HK := Lib.hid hk
  have HH := Lib.hid hh
  have HB := Lib.hid (And.intro hb64 hbt)
  have HGW := Lib.hid hgw
  clear hh hb64 hbt hk hgw
  obtain ⟨n, hn⟩ : ∃ n, n = xs.length := ⟨_, rfl⟩
  obtain ⟨nums, hnums⟩ : ∃ nums, nums = absorb xs := ⟨_, rfl⟩
  obtain ⟨f, hf⟩ : ∃ f, f = xs.length % 64 := ⟨_, rfl⟩
  obtain ⟨pl, hpl⟩ : ∃ pl, pl = (padOf n).length := ⟨_, rfl⟩
  have hpl72 : pl ≤ 72 := by rw [hpl, padOf_length]; omega
  have hn8 : nums.length = 8 := by rw [hnums, absorb_length]
  rw [← hnums, ← hf, ← hn] at HH
  have c73 := hash_cell HH.out 73 _ (hcells_73 hn8 HB.out.1 _ _)
  have hcl : (hcells nums blk f n).length = 74 := hcells_length hn8 HB.out.1 _ _
  have HI : Hid ((Tryd.prog.info? 52).map (·.size) = some (hcells nums blk f n).length) := Lib.hid (by rw [hcl]; exact Tryd.size52)
  have HCL := Lib.hid hcl
  have HPAD : Hid (∀ w : World, Calls Tryd.prog 26 #[.int .u64 (n : Int)] w fun E w' => E = .returned (.tuple #[.agg (u8s (padOf n ++ List.replicate (72 - pl) 0)).toArray, .int .i64 (pl : Int)]) ∧ Below w.heap.size w w') := Lib.hid fun w => by
    rw [hpl]
    exact padding_any n w (by omega)
  obtain ⟨pz, hpz⟩ : ∃ pz, pz = padOf n ++ List.replicate (72 - pl) 0 := ⟨_, rfl⟩
  rw [← hpz] at HPAD
  have hpzl : (u8s pz).length = 72 := by rw [u8s_length, hpz, List.length_append, List.length_replicate, ← hpl]; omega
  have HPZL := Lib.hid hpzl
  have HIP : Hid ((Tryd.prog.info? 53).map (·.size) = some (u8s pz).length) := Lib.hid (by rw [hpzl]; exact Tryd.size53)
  have HPZ : Hid (∀ j u, (padOf n)[j]? = some u → pz[j]? = some u) := Lib.hid fun j u hu => by
    rw [hpz, List.getElem?_append_left (List.getElem?_eq_some_iff.1 hu).1]; exact hu
  obtain ⟨all, hall⟩ : ∃ all, all = absorb (xs ++ padOf n) := ⟨_, rfl⟩
  have hal8 : all.length = 8 := by rw [hall, absorb_length]
  obtain ⟨out, hout⟩ : ∃ out, out = digestOf all := ⟨_, rfl⟩
  have hol : (u8s out).length = 32 := by rw [u8s_length, hout, digestOf_length, hal8]
  have HDIG : Hid (∀ w : World, Calls Tryd.prog 27 #[.agg (u32s all).toArray] w fun E w' => E = .returned (.agg (u8s out).toArray) ∧ Below w.heap.size w w') := Lib.hid fun w => by
    rw [hout]
    exact digest_any all w hal8
  have HIO : Hid ((Tryd.prog.info? 29).map (·.size) = some (u8s out).length) := Lib.hid (by rw [hol]; exact Tryd.size29)
  have HIA : Hid ((Tryd.prog.info? 23).map (·.size) = some (u32s all).length) := Lib.hid (by rw [u32s_length, hal8]; exact Tryd.size23)
  have HRES : Hid (out = sumOf xs) := Lib.hid (by rw [hout, hall, hn]; rfl)
  rw [← HRES.out]
  have HWR : Hid (∀ (g2 ge : Nat) (w : World), HashIs w g2 xs xs.length → Rd (· ≠ g2) w (some ⟨ge, 0, none⟩) pl (padOf n) → KIs w → 0 < g2 →
      Calls Tryd.prog 15 #[.pointer (some ⟨g2, 0, none⟩), .slice (some ⟨ge, 0, none⟩) pl 72] w fun E w' => E = .returned (.tuple #[]) ∧ (∃ blk' f' n', w'.heap[g2]? = some (.cells (hcells all blk' f' n').toArray 52 (0, 0))) ∧ w.grownBy w' (some g2)) := Lib.hid fun g2 ge w h1 h2 h3 h4 => by
    have := write_any g2 xs (padOf n) (some ⟨ge, 0, none⟩) 72 w h1 (by rw [← hpl]; exact h2) ⟨fun e => (by cases e), by omega, by omega⟩ (by omega) h3 h4
    rw [← hpl] at this
    refine this.mono ?_
    rintro E w' ⟨hE, hhs, hg⟩
    obtain ⟨blk', _, _, hc⟩ := hhs
    exact ⟨hE, ⟨blk', _, _, by rw [hall]; exact hc⟩, hg⟩
  have HXS : Hid (∀ (w2 : World) (g2 : Nat), w2.heap[g2]? = some (.cells (hcells nums blk f n).toArray 52 (0, 0)) → HashIs w2 g2 xs xs.length) := Lib.hid fun w2 g2 h => ⟨blk, HB.out.1, HB.out.2, by rw [← hnums, ← hf, ← hn]; exact h⟩
  exact hashSum_by g n f pl nums all blk out pz (padOf n) xs w ⟨HK.out, h0, HH.out, HGW.out, hpl72, c73, HI.out, HCL.out, HPAD.out, HPZL.out, HIP.out, HPZ.out, HDIG.out, hol, HIO.out, HIA.out, HWR.out, HXS.out, hpl⟩
end Go.Proofs.YtflbhicjaaeegaaDoor
