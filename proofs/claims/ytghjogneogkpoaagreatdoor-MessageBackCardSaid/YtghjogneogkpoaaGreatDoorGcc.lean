/-
  What is proved: a NewView's body, read of a cut. Conditions as stated.
-/
import Derived.Test.YtghjogneogkpoaaGreatDoorGbc
namespace Go.Proofs.YtghjogneogkpoaaGreatDoor.Sh
open Go.RowKit
set_option maxRecDepth 100000


def rdPairs : Nat → Cst → List (Int × Nat) × Cst
  | 0, s => ([], s)
  | j + 1, s => ((rdPairs j s).1 ++ [(((cByte (rdPairs j s).2).1 : Int), (cWord (cByte (rdPairs j s).2).2).1)], (cWord (cByte (rdPairs j s).2).2).2)
theorem rdPairs_len : ∀ (j : Nat) (s : Cst), (rdPairs j s).1.length = j
  | 0, _ => rfl
  | j + 1, s => by rw [rdPairs, List.length_append, rdPairs_len j s]; rfl
def rdNewView (s : Cst) : MBody × Cst :=
  let v := cWord s; let c := cByte v.2; let q := rdPairs c.1 c.2
  ({ zeroBody with view := v.1, qs := q.1 }, q.2)
set_option maxHeartbeats 8000000 in
theorem cutNewView_by {w : World} {lo g : Nat} {s : Cst} (v cn : Nat) (s1 s2 s3 : Cst) (qq : List (Int × Nat)) (h : CtS w lo g s) (e1 : rdView s = (({ zeroBody with view := v } : MBody), s1)) (e2 : cByte s1 = (cn, s2)) (e3 : rdPairs cn s2 = (qq, s3)) :
    Calls Tryz.prog 105 #[.pointer (some ⟨g, 0, none⟩)] w fun E w' => ∃ A c, E = .returned (.agg (bodyC ({ zeroBody with view := v, qa := A, qc := c, qs := qq } : MBody)).toArray) ∧ QOw w.heap.size w' A c qq ∧ CtS w' lo g s3 ∧ Hid (w.grownBy w' (some g)) := by
  have hcn : cn < 256 := by have := cByte_lt s1; rw [e2] at this; exact this
  have HCN := Lib.hid hcn
  have HE3 := Lib.hid e3
  have HBY : Hid (∀ W sx, CtS W lo g sx → Calls Tryz.prog 75 #[.pointer (some ⟨g, 0, none⟩)] W fun E w' => E = .returned (.int .u8 ((cByte sx).1 : Int)) ∧ CtS w' lo g (cByte sx).2 ∧ Hid (W.grownBy w' (some g))) := Lib.hid fun W sx hW => byte_s hW
  have HWD : Hid (∀ W sx, CtS W lo g sx → Calls Tryz.prog 44 #[.pointer (some ⟨g, 0, none⟩)] W fun E w' => E = .returned (.int .u64 ((cWord sx).1 : Int)) ∧ CtS w' lo g (cWord sx).2 ∧ Hid (W.grownBy w' (some g))) := Lib.hid fun W sx hW => word_s hW
  have HG := Lib.hid h.lt
  have hz : ∀ w, (zeroValue 32).run Tryz.prog w = .ok (.agg (bodyC zeroBody).toArray) w := zero_body
  have HL : Hid (∀ q : MBody, q.Wf → 0 + (bodyC q).length ≤ (bodyC zeroBody).length ∧ setAll (bodyC zeroBody) 0 (bodyC q) = bodyC q ∧ (Tryz.prog.info? 32).map (·.size) = some (bodyC q).length) := Lib.hid fun q hq => ⟨by rw [bodyC_length hq, bodyC_length zero_wf]; omega, setAll_all (by rw [bodyC_length hq, bodyC_length zero_wf]), by rw [bodyC_length hq]; exact Tryz.is32⟩
  have HC0 := Lib.hid (h.below ((Below.refl _ _).alloc (Nat.le_refl _) (.cells (bodyC zeroBody).toArray 32)))
  have C1 : Hid (∀ W, CtS W lo g s → Calls Tryz.prog 104 #[.pointer (some ⟨g, 0, none⟩)] W fun E w' => E = .returned (.agg (bodyC ({ zeroBody with view := v } : MBody)).toArray) ∧ CtS w' lo g s1 ∧ Hid (W.grownBy w' (some g))) := Lib.hid (fun W hW => by have h1 := cutView_ms _ _ _ _ hW; rw [e1] at h1; exact h1)
  have C2 : Hid (∀ W, CtS W lo g s1 → Calls Tryz.prog 75 #[.pointer (some ⟨g, 0, none⟩)] W fun E w' => E = .returned (.int .u8 (cn : Int)) ∧ CtS w' lo g s2 ∧ Hid (W.grownBy w' (some g))) := Lib.hid (fun W hW => by have h1 := byte_s hW; rw [e2] at h1; exact h1)
  clear h e1 e2 e3
  go_enter Tryz.func105, Tryz.ntmps105
  go_wp2_with (first | (go_at_call 104; (with_reducible refine (C1.out _ HC0.out).mono ?_); rintro E w1 ⟨rfl, hc1, hg1⟩; have D1 := Lib.hid (CtX.start HG.out hc1 hg1.out)) | ((with_reducible refine wpList_store_part ?_ 32 (.tmp 3) (.tmp 6) ?_ w1.heap.size 0 (bodyC zeroBody) (bodyC ({ zeroBody with view := v } : MBody)) (bodyC ({ zeroBody with view := v } : MBody)) 32 ?_ ?_ ?_ ?_ ?_ ?_ ?_ ?_); (· rfl); (· rfl); (· exact D1.out.msg); (· exact (HL.out _ ⟨rfl, rfl⟩).1); (· exact (HL.out _ ⟨rfl, rfl⟩).2.1); (· rfl); (· rfl); (· exact (HL.out _ ⟨rfl, rfl⟩).2.2); (· exact one_bodyC _); intro w2 G2; have D2 := Lib.hid (D1.out.put G2.out)) | (go_at_call 75; (with_reducible refine (C2.out _ D2.out.cut).mono ?_); rintro E w3 ⟨rfl, hc3, hg3⟩; have D3 := Lib.hid (D2.out.turn hg3.out hc3)))
  clear D1 D2 G2 hg1 hg3 hc1 hc3 C1 C2 HC0
  have D4 : Hid (CtX w lo g w1.heap.size (rdPairs 0 s2).2 (bodyC zeroBody) (bodyC ({ zeroBody with view := v, qa := none, qc := 0, qs := (rdPairs 0 s2).1 } : MBody)) 32 w3 ∧ QOw (w1.heap.size + 1) w3 none 0 (rdPairs 0 s2).1) := Lib.hid ⟨D3.out, QOw.nil _ _⟩
  clear D3
  generalize w1.heap.size = gm at D4 ⊢
  go_loopw [9] (fun v9 wr => ∃ j : Nat, j ≤ cn ∧ v9 = .int .u8 (j : Int) ∧ ∃ A c, Hid (CtX w lo g gm (rdPairs j s2).2 (bodyC zeroBody) (bodyC ({ zeroBody with view := v, qa := A, qc := c, qs := (rdPairs j s2).1 } : MBody)) 32 wr ∧ QOw (gm + 1) wr A c (rdPairs j s2).1)) (fun v9 _ => cn - (intOf v9).toNat)
  case atStart => exact ⟨0, by omega, rfl, _, _, D4⟩
  case round =>
    clear D4
    obtain ⟨j, hj, rfl, A, c, D⟩ := hrel
    by_cases hjj : j < cn
    · have HPL : Hid ((rdPairs j s2).1.length = j) := Lib.hid (rdPairs_len j s2)
      have HNX : Hid ((rdPairs (j + 1) s2).1 = (rdPairs j s2).1 ++ [(((cByte (rdPairs j s2).2).1 : Int), (cWord (cByte (rdPairs j s2).2).2).1)] ∧ (rdPairs (j + 1) s2).2 = (cWord (cByte (rdPairs j s2).2).2).2) := Lib.hid ⟨rfl, rfl⟩
      have BB := Lib.hid (HBY.out wr _ D.out.1.cut)
      have BW : Hid (∀ W, CtS W lo g (cByte (rdPairs j s2).2).2 → Calls Tryz.prog 44 #[.pointer (some ⟨g, 0, none⟩)] W fun E w' => E = .returned (.int .u64 ((cWord (cByte (rdPairs j s2).2).2).1 : Int)) ∧ CtS w' lo g (cWord (cByte (rdPairs j s2).2).2).2 ∧ Hid (W.grownBy w' (some g))) := Lib.hid fun W hW => HWD.out W _ hW
      have hx256 : (cByte (rdPairs j s2).2).1 < 256 := cByte_lt _
      generalize (cWord (cByte (rdPairs j s2).2).2).1 = y at BW HNX
      generalize (cWord (cByte (rdPairs j s2).2).2).2 = sc at BW HNX
      generalize (cByte (rdPairs j s2).2).1 = x at BB HNX hx256
      generalize (cByte (rdPairs j s2).2).2 = sb at BB BW
      generalize (rdPairs j s2).2 = sa at D BB
      generalize (rdPairs j s2).1 = ps at D HPL HNX
      have HC43 : Hid ((bodyC ({ zeroBody with view := v, qa := A, qc := c, qs := ps } : MBody))[43]? = some (.slice A j c)) := Lib.hid (by have := HPL.out; simp [bodyC, reqC, opC, zeroBody, zeroReq, noTag, u8s, MBody.qv, this])
      have HSQ : Hid (∀ A2 c2, (bodyC ({ zeroBody with view := v, qa := A, qc := c, qs := ps } : MBody)).set 43 (.slice A2 (j + 1) c2) = bodyC ({ zeroBody with view := v, qa := A2, qc := c2, qs := (ps ++ [((x : Int), y)]) } : MBody)) := Lib.hid fun A2 c2 => by
        have := set_q ({ zeroBody with view := v, qa := A, qc := c, qs := ps } : MBody) A2 c2 (ps ++ [((x : Int), y)]) rfl
        rwa [List.length_append, HPL.out] at this
      have hw1 : RowKit.wrap64 (x : Int) = (x : Int) := by unfold RowKit.wrap64; omega
      have hjc : (j : Int) < (cn : Int) := by omega
      go_wp2_with (go_at_call 75; refine BB.out.mono ?_; rintro E w6 ⟨rfl, hc6, hg6⟩; have D6 : Hid (CtX w lo g gm sb (bodyC zeroBody) (bodyC ({ zeroBody with view := v, qa := A, qc := c, qs := ps } : MBody)) 32 w6 ∧ QOw (gm + 1) w6 A c ps) := Lib.hid ⟨D.out.1.turn hg6.out hc6, D.out.2.far hg6.out (by have := D.out.1.lt; have := D.out.1.lg; omega)⟩)
      refine wp_region_any (by kernel_rfl) ?_
      have D7 : Hid (CtX w lo g gm sb (bodyC zeroBody) (bodyC ({ zeroBody with view := v, qa := A, qc := c, qs := ps } : MBody)) 32 (w6.drewN 1) ∧ QOw (gm + 1) (w6.drewN 1) A c ps) := Lib.hid ⟨D6.out.1.below (below_drewN (Below.refl _ _) 1), D6.out.2.below (below_drewN (Below.refl _ _) 1)⟩
      change wpAny _ _ _ _ _ _ _ (w6.drewN 1)
      generalize w6.drewN 1 = w7 at D7 ⊢
      refine wpAny_of_held (S := fun W => True) _ _ _ _ ?_
      refine tk 0 ⟨some 14, .fieldAddr 32 (.tmp 3) 4, _, _, _, none⟩ (.pointer (some ⟨gm, 43, none⟩)) rfl (by kernel_rfl) (fun _ _ _ h => h) (trivial) (fun W hSW => by go_simp) ?_
      try simp only [Act.put, l0, l1, l2]
      refine tk 2 ⟨some 16, .move (.tmp 4), _, _, _, none⟩ (.int .i64 (x : Int)) rfl (by kernel_rfl) (fun _ _ _ h => h) (trivial) (fun W hSW => by go_simp) ?_
      try simp only [Act.put, l0, l1, l2]
      refine tk 3 ⟨some 17, .move (.tmp 0), _, _, _, none⟩ (.pointer (some ⟨g, 0, none⟩)) rfl (by kernel_rfl) (fun _ _ _ h => h) (trivial) (fun W hSW => by go_simp) ?_
      try simp only [Act.put, l0, l1, l2]
      refine rdy [1, 4] (by kernel_rfl) ?_
      refine (AllReadyH.cons (o := ⟨some 15, .load 30 (.tmp 14), _, _, _, none⟩) rfl (fun K' hK' => ?_) (AllReadyH.cons (o := ⟨some 18, .call { callee := .value (.func 44), args := #[.tmp 17], argTypes := #[61] }, _, _, _, none⟩) rfl (fun K' hK' => ?_) AllReadyH.nil))
      · have c43 : w7.cell? ⟨gm, 43, none⟩ = some (.slice A j c) := D7.out.1.cell 43 _ HC43.out
        go_simp
        refine hK'.out _ _ trivial (fun _ => ?_)
        clear hK' K'
        try simp only [Act.put, l0, l1, l2]
        refine rdy [4] (by kernel_rfl) ?_
        refine AllReadyH.cons (o := ⟨some 18, .call { callee := .value (.func 44), args := #[.tmp 17], argTypes := #[61] }, _, _, _, none⟩) rfl (fun K' hK' => ?_) AllReadyH.nil
        go_simp
        go_at_call 44
        refine (BW.out _ D7.out.1.cut).mono ?_
        rintro E w8 ⟨rfl, hc8, hg8⟩
        have D8 : Hid (CtX w lo g gm sc (bodyC zeroBody) (bodyC ({ zeroBody with view := v, qa := A, qc := c, qs := ps } : MBody)) 32 w8 ∧ QOw (gm + 1) w8 A c ps) := Lib.hid ⟨D7.out.1.turn hg8.out hc8, D7.out.2.far hg8.out (by have := D7.out.1.lt; have := D7.out.1.lg; omega)⟩
        refine hK'.out _ _ (trivial) (fun _ => ?_)
        clear hK' K'
        try simp only [Act.put, l0, l1, l2]
        refine tk 5 ⟨some 19, .build 54 #[(0, .tmp 16), (1, .tmp 18)], _, _, _, none⟩ (.agg #[.int .i64 (x : Int), .int .u64 (y : Int)]) rfl (by kernel_rfl) (fun _ _ _ h => h) (trivial) (fun W hSW => by go_simp) ?_
        try simp only [Act.put, l0, l1, l2]
        refine rdy [6] (by kernel_rfl) ?_
        refine AllReadyH.cons (o := ⟨some 20, .buildSlice 30 1 #[(0, .tmp 19)], _, _, _, none⟩) rfl (fun K' hK' => ?_) AllReadyH.nil
        go_simp
        have D9 : Hid (CtX w lo g gm sc (bodyC zeroBody) (bodyC ({ zeroBody with view := v, qa := A, qc := c, qs := ps } : MBody)) 32 (w8.alloc (.cells #[.int .i64 (x : Int), .int .u64 (y : Int)] 54)) ∧ QOw (gm + 1) (w8.alloc (.cells #[.int .i64 (x : Int), .int .u64 (y : Int)] 54)) A c ps) := Lib.hid ⟨D8.out.1.below ((Below.refl _ _).alloc (Nat.le_refl _) _), D8.out.2.below ((Below.refl _ _).alloc (Nat.le_refl _) _)⟩
        refine hK'.out _ _ trivial (fun _ => ?_)
        clear hK' K'
        try simp only [Act.put, l0, l1, l2]
        refine rdy [7] (by kernel_rfl) ?_
        refine AllReadyH.cons (o := ⟨some 21, .call { callee := .builtin .append, args := #[.tmp 15, .tmp 20], argTypes := #[30, 30] }, _, _, _, none⟩) rfl (fun K' hK' => ?_) AllReadyH.nil
        refine step_append_pr rfl (.tmp 15) (.tmp 20) rfl (gm + 1) c j w8.heap.size A ps ((x : Int), y) HPL.out rfl rfl D9.out.2 (range_box w8 (prC ((x : Int), y)) 54) (by have := D9.out.1.ltm; omega) (by have := HCN.out; omega) ?_
        intro A2 c2 w10 Q10 G10
        have D10 : Hid (CtX w lo g gm sc (bodyC zeroBody) (bodyC ({ zeroBody with view := v, qa := A, qc := c, qs := ps } : MBody)) 32 w10 ∧ QOw (gm + 1) w10 A2 c2 (ps ++ [((x : Int), y)])) := Lib.hid ⟨D9.out.1.row D9.out.2 (by rw [HPL.out]; exact G10.out), Q10.out⟩
        refine hK'.out _ _ trivial (fun _ => ?_)
        clear hK' K'
        try simp only [Act.put, l0, l1, l2]
        refine tk 8 ⟨some 22, .fieldAddr 32 (.tmp 3) 4, _, _, _, none⟩ (.pointer (some ⟨gm, 43, none⟩)) rfl (by kernel_rfl) (fun _ _ _ h => h) (trivial) (fun W hSW => by go_simp) ?_
        try simp only [Act.put, l0, l1, l2]
        refine rdy [9] (by kernel_rfl) ?_
        refine AllReadyH.cons (o := ⟨none, .store 30 (.tmp 22) (.tmp 21), _, _, _, none⟩) rfl (fun K' hK' => ?_) AllReadyH.nil
        have u43 : w10.cell? ⟨gm, 43, none⟩ = some (.slice A j c) := D10.out.1.cell 43 _ HC43.out
        have uf43 := free_block D10.out.1.msg 43
        go_simp
        have D11 : Hid (CtX w lo g gm sc (bodyC zeroBody) (bodyC ({ zeroBody with view := v, qa := A2, qc := c2, qs := (ps ++ [((x : Int), y)]) } : MBody)) 32 (w10.setCell ⟨gm, 43, none⟩ (.slice A2 (j + 1) c2)) ∧ QOw (gm + 1) (w10.setCell ⟨gm, 43, none⟩ (.slice A2 (j + 1) c2)) A2 c2 (ps ++ [((x : Int), y)])) := Lib.hid ⟨D10.out.1.set 43 _ (by rw [← HSQ.out A2 c2]), D10.out.2.far (gb_set _ _ _ _) (by omega)⟩
        refine hK'.out _ _ trivial (fun _ => ?_)
        clear hK' K'
        refine wpAnyH_done (by kernel_rfl) ?_ _
        generalize w10.setCell ⟨gm, 43, none⟩ (.slice A2 (j + 1) c2) = w11 at D11 ⊢
        go_wp2_with fail
        go_roundw
        case measure => simp [intOf] <;> omega
        case rel =>
          exact ⟨j + 1, by omega, by first | rfl | go_num, A2, c2, Lib.hid ⟨by rw [HNX.out.1, HNX.out.2]; exact D11.out.1, by rw [HNX.out.1]; exact D11.out.2⟩⟩
      · go_simp
        go_at_call 44
        refine (BW.out _ D7.out.1.cut).mono ?_
        rintro E w8 ⟨rfl, hc8, hg8⟩
        have D8 : Hid (CtX w lo g gm sc (bodyC zeroBody) (bodyC ({ zeroBody with view := v, qa := A, qc := c, qs := ps } : MBody)) 32 w8 ∧ QOw (gm + 1) w8 A c ps) := Lib.hid ⟨D7.out.1.turn hg8.out hc8, D7.out.2.far hg8.out (by have := D7.out.1.lt; have := D7.out.1.lg; omega)⟩
        refine hK'.out _ _ (trivial) (fun _ => ?_)
        clear hK' K'
        try simp only [Act.put, l0, l1, l2]
        refine tk 5 ⟨some 19, .build 54 #[(0, .tmp 16), (1, .tmp 18)], _, _, _, none⟩ (.agg #[.int .i64 (x : Int), .int .u64 (y : Int)]) rfl (by kernel_rfl) (fun _ _ _ h => h) (trivial) (fun W hSW => by go_simp) ?_
        try simp only [Act.put, l0, l1, l2]
        refine rdy [1, 6] (by kernel_rfl) ?_
        refine (AllReadyH.cons (o := ⟨some 15, .load 30 (.tmp 14), _, _, _, none⟩) rfl (fun K' hK' => ?_) (AllReadyH.cons (o := ⟨some 20, .buildSlice 30 1 #[(0, .tmp 19)], _, _, _, none⟩) rfl (fun K' hK' => ?_) AllReadyH.nil))
        · have c43 : w8.cell? ⟨gm, 43, none⟩ = some (.slice A j c) := D8.out.1.cell 43 _ HC43.out
          go_simp
          refine hK'.out _ _ trivial (fun _ => ?_)
          clear hK' K'
          try simp only [Act.put, l0, l1, l2]
          refine rdy [6] (by kernel_rfl) ?_
          refine AllReadyH.cons (o := ⟨some 20, .buildSlice 30 1 #[(0, .tmp 19)], _, _, _, none⟩) rfl (fun K' hK' => ?_) AllReadyH.nil
          go_simp
          have D9 : Hid (CtX w lo g gm sc (bodyC zeroBody) (bodyC ({ zeroBody with view := v, qa := A, qc := c, qs := ps } : MBody)) 32 (w8.alloc (.cells #[.int .i64 (x : Int), .int .u64 (y : Int)] 54)) ∧ QOw (gm + 1) (w8.alloc (.cells #[.int .i64 (x : Int), .int .u64 (y : Int)] 54)) A c ps) := Lib.hid ⟨D8.out.1.below ((Below.refl _ _).alloc (Nat.le_refl _) _), D8.out.2.below ((Below.refl _ _).alloc (Nat.le_refl _) _)⟩
          refine hK'.out _ _ trivial (fun _ => ?_)
          clear hK' K'
          try simp only [Act.put, l0, l1, l2]
          refine rdy [7] (by kernel_rfl) ?_
          refine AllReadyH.cons (o := ⟨some 21, .call { callee := .builtin .append, args := #[.tmp 15, .tmp 20], argTypes := #[30, 30] }, _, _, _, none⟩) rfl (fun K' hK' => ?_) AllReadyH.nil
          refine step_append_pr rfl (.tmp 15) (.tmp 20) rfl (gm + 1) c j w8.heap.size A ps ((x : Int), y) HPL.out rfl rfl D9.out.2 (range_box w8 (prC ((x : Int), y)) 54) (by have := D9.out.1.ltm; omega) (by have := HCN.out; omega) ?_
          intro A2 c2 w10 Q10 G10
          have D10 : Hid (CtX w lo g gm sc (bodyC zeroBody) (bodyC ({ zeroBody with view := v, qa := A, qc := c, qs := ps } : MBody)) 32 w10 ∧ QOw (gm + 1) w10 A2 c2 (ps ++ [((x : Int), y)])) := Lib.hid ⟨D9.out.1.row D9.out.2 (by rw [HPL.out]; exact G10.out), Q10.out⟩
          refine hK'.out _ _ trivial (fun _ => ?_)
          clear hK' K'
          try simp only [Act.put, l0, l1, l2]
          refine tk 8 ⟨some 22, .fieldAddr 32 (.tmp 3) 4, _, _, _, none⟩ (.pointer (some ⟨gm, 43, none⟩)) rfl (by kernel_rfl) (fun _ _ _ h => h) (trivial) (fun W hSW => by go_simp) ?_
          try simp only [Act.put, l0, l1, l2]
          refine rdy [9] (by kernel_rfl) ?_
          refine AllReadyH.cons (o := ⟨none, .store 30 (.tmp 22) (.tmp 21), _, _, _, none⟩) rfl (fun K' hK' => ?_) AllReadyH.nil
          have u43 : w10.cell? ⟨gm, 43, none⟩ = some (.slice A j c) := D10.out.1.cell 43 _ HC43.out
          have uf43 := free_block D10.out.1.msg 43
          go_simp
          have D11 : Hid (CtX w lo g gm sc (bodyC zeroBody) (bodyC ({ zeroBody with view := v, qa := A2, qc := c2, qs := (ps ++ [((x : Int), y)]) } : MBody)) 32 (w10.setCell ⟨gm, 43, none⟩ (.slice A2 (j + 1) c2)) ∧ QOw (gm + 1) (w10.setCell ⟨gm, 43, none⟩ (.slice A2 (j + 1) c2)) A2 c2 (ps ++ [((x : Int), y)])) := Lib.hid ⟨D10.out.1.set 43 _ (by rw [← HSQ.out A2 c2]), D10.out.2.far (gb_set _ _ _ _) (by omega)⟩
          refine hK'.out _ _ trivial (fun _ => ?_)
          clear hK' K'
          refine wpAnyH_done (by kernel_rfl) ?_ _
          generalize w10.setCell ⟨gm, 43, none⟩ (.slice A2 (j + 1) c2) = w11 at D11 ⊢
          go_wp2_with fail
          go_roundw
          case measure => simp [intOf] <;> omega
          case rel =>
            exact ⟨j + 1, by omega, by first | rfl | go_num, A2, c2, Lib.hid ⟨by rw [HNX.out.1, HNX.out.2]; exact D11.out.1, by rw [HNX.out.1]; exact D11.out.2⟩⟩
        · go_simp
          have D9 : Hid (CtX w lo g gm sc (bodyC zeroBody) (bodyC ({ zeroBody with view := v, qa := A, qc := c, qs := ps } : MBody)) 32 (w8.alloc (.cells #[.int .i64 (x : Int), .int .u64 (y : Int)] 54)) ∧ QOw (gm + 1) (w8.alloc (.cells #[.int .i64 (x : Int), .int .u64 (y : Int)] 54)) A c ps) := Lib.hid ⟨D8.out.1.below ((Below.refl _ _).alloc (Nat.le_refl _) _), D8.out.2.below ((Below.refl _ _).alloc (Nat.le_refl _) _)⟩
          refine hK'.out _ _ trivial (fun _ => ?_)
          clear hK' K'
          try simp only [Act.put, l0, l1, l2]
          refine rdy [1] (by kernel_rfl) ?_
          refine AllReadyH.cons (o := ⟨some 15, .load 30 (.tmp 14), _, _, _, none⟩) rfl (fun K' hK' => ?_) AllReadyH.nil
          have c43 : (w8.alloc (.cells #[.int .i64 (x : Int), .int .u64 (y : Int)] 54)).cell? ⟨gm, 43, none⟩ = some (.slice A j c) := D9.out.1.cell 43 _ HC43.out
          go_simp
          refine hK'.out _ _ trivial (fun _ => ?_)
          clear hK' K'
          try simp only [Act.put, l0, l1, l2]
          refine rdy [7] (by kernel_rfl) ?_
          refine AllReadyH.cons (o := ⟨some 21, .call { callee := .builtin .append, args := #[.tmp 15, .tmp 20], argTypes := #[30, 30] }, _, _, _, none⟩) rfl (fun K' hK' => ?_) AllReadyH.nil
          refine step_append_pr rfl (.tmp 15) (.tmp 20) rfl (gm + 1) c j w8.heap.size A ps ((x : Int), y) HPL.out rfl rfl D9.out.2 (range_box w8 (prC ((x : Int), y)) 54) (by have := D9.out.1.ltm; omega) (by have := HCN.out; omega) ?_
          intro A2 c2 w10 Q10 G10
          have D10 : Hid (CtX w lo g gm sc (bodyC zeroBody) (bodyC ({ zeroBody with view := v, qa := A, qc := c, qs := ps } : MBody)) 32 w10 ∧ QOw (gm + 1) w10 A2 c2 (ps ++ [((x : Int), y)])) := Lib.hid ⟨D9.out.1.row D9.out.2 (by rw [HPL.out]; exact G10.out), Q10.out⟩
          refine hK'.out _ _ trivial (fun _ => ?_)
          clear hK' K'
          try simp only [Act.put, l0, l1, l2]
          refine tk 8 ⟨some 22, .fieldAddr 32 (.tmp 3) 4, _, _, _, none⟩ (.pointer (some ⟨gm, 43, none⟩)) rfl (by kernel_rfl) (fun _ _ _ h => h) (trivial) (fun W hSW => by go_simp) ?_
          try simp only [Act.put, l0, l1, l2]
          refine rdy [9] (by kernel_rfl) ?_
          refine AllReadyH.cons (o := ⟨none, .store 30 (.tmp 22) (.tmp 21), _, _, _, none⟩) rfl (fun K' hK' => ?_) AllReadyH.nil
          have u43 : w10.cell? ⟨gm, 43, none⟩ = some (.slice A j c) := D10.out.1.cell 43 _ HC43.out
          have uf43 := free_block D10.out.1.msg 43
          go_simp
          have D11 : Hid (CtX w lo g gm sc (bodyC zeroBody) (bodyC ({ zeroBody with view := v, qa := A2, qc := c2, qs := (ps ++ [((x : Int), y)]) } : MBody)) 32 (w10.setCell ⟨gm, 43, none⟩ (.slice A2 (j + 1) c2)) ∧ QOw (gm + 1) (w10.setCell ⟨gm, 43, none⟩ (.slice A2 (j + 1) c2)) A2 c2 (ps ++ [((x : Int), y)])) := Lib.hid ⟨D10.out.1.set 43 _ (by rw [← HSQ.out A2 c2]), D10.out.2.far (gb_set _ _ _ _) (by omega)⟩
          refine hK'.out _ _ trivial (fun _ => ?_)
          clear hK' K'
          refine wpAnyH_done (by kernel_rfl) ?_ _
          generalize w10.setCell ⟨gm, 43, none⟩ (.slice A2 (j + 1) c2) = w11 at D11 ⊢
          go_wp2_with fail
          go_roundw
          case measure => simp [intOf] <;> omega
          case rel =>
            exact ⟨j + 1, by omega, by first | rfl | go_num, A2, c2, Lib.hid ⟨by rw [HNX.out.1, HNX.out.2]; exact D11.out.1, by rw [HNX.out.1]; exact D11.out.2⟩⟩
    · obtain rfl : j = cn := by omega
      have D5 : Hid (CtX w lo g gm s3 (bodyC zeroBody) (bodyC ({ zeroBody with view := v, qa := A, qc := c, qs := qq } : MBody)) 32 wr ∧ QOw (gm + 1) wr A c qq) := Lib.hid (by have := D.out; rwa [HE3.out] at this)
      go_wp2_with (first | ((with_reducible refine wpList_load_midG ?_ 32 (.tmp 3) ?_ gm 0 ?_ (bodyC ({ zeroBody with view := v, qa := A, qc := c, qs := qq } : MBody)) _ ?_ Tryz.underlying32 ?_ ?_ ?_); (· rfl); (· rfl); (· rfl); (· exact range_of D5.out.1.msg); (· rfl); (· exact (HL.out _ ⟨rfl, rfl⟩).2.2)) | ((with_reducible refine wpList_store_part ?_ 32 (.tmp 2) (.tmp 24) ?_ w.heap.size 0 (bodyC zeroBody) (bodyC ({ zeroBody with view := v, qa := A, qc := c, qs := qq } : MBody)) (bodyC ({ zeroBody with view := v, qa := A, qc := c, qs := qq } : MBody)) 32 ?_ ?_ ?_ ?_ ?_ ?_ ?_ ?_); (· rfl); (· rfl); (· exact D5.out.1.res); (· exact (HL.out _ ⟨rfl, rfl⟩).1); (· exact (HL.out _ ⟨rfl, rfl⟩).2.1); (· rfl); (· rfl); (· exact (HL.out _ ⟨rfl, rfl⟩).2.2); (· exact one_bodyC _); intro w9 G9))
      exact bodyPost_ret (ret_range (cs := bodyC ({ zeroBody with view := v, qa := A, qc := c, qs := qq } : MBody)) rfl rfl (range_of G9.out.1) Tryz.underlying32 rfl (HL.out _ ⟨rfl, rfl⟩).2.2) rfl ⟨A, c, rfl, (D5.out.2.far G9.out.2 (by have := D5.out.1.lt; omega)).low (by have := D5.out.1.lt; omega), D5.out.1.cut.far G9.out.2 HG.out, Lib.hid (gb_new D5.out.1.gb G9.out.2 (Nat.le_refl _))⟩
theorem cutNewView_ms : CutsG 105 rdNewView := fun _ _ _ _ h => cutNewView_by _ _ _ _ _ _ h rfl rfl rfl
end Go.Proofs.YtghjogneogkpoaaGreatDoor.Sh
