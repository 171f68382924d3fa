/-
  What is proved: the walk of BookRoom for whatever comes in. Conditions as stated.
-/
import Derived.Test.YtfegffdhlkhjbaaBr
namespace Go.Proofs.Ytfegffdhlkhjbaa
open Go.RowKit
set_option maxRecDepth 100000

theorem eqItems_bytes {P : Program} {d : Nat} {e : TypeId} (he : P.underlying e = some (.int .u8)) (l m : List UInt8) (w : World) :
    ∀ is : List Nat, (∀ i ∈ is, i < l.length ∧ i < m.length) → (Op.eqItems (d + 1) e 1 (u8s l).toArray (u8s m).toArray is).run P w = .ok (is.all fun i => l.getD i 0 == m.getD i 0) w
  | [], _ => by simp [Op.eqItems]
  | i :: is, h => by
    obtain ⟨h1, h2⟩ := h i (by simp)
    have hr := eqItems_bytes (d := d) he l m w is fun j hj => h j (by simp [hj])
    have e1 : ((u8s l).toArray)[i]? = some (.int .u8 ((l.getD i 0).toNat : Int)) := by simpa using u8s_at l i h1
    have e2 : ((u8s m).toArray)[i]? = some (.int .u8 ((m.getD i 0).toNat : Int)) := by simpa using u8s_at m i h2
    have e3 : (((l.getD i 0).toNat : Int) == ((m.getD i 0).toNat : Int)) = (l.getD i 0 == m.getD i 0) := by
      by_cases hq : l.getD i 0 = m.getD i 0
      · rw [hq]; simp
      · have : ((l.getD i 0).toNat : Int) ≠ ((m.getD i 0).toNat : Int) := fun hh => hq (UInt8.toNat_inj.1 (by omega))
        rw [beq_false_of_ne this, beq_false_of_ne hq]
    simp only [Op.eqItems, Nat.mul_one, Sem.run_bind, part_int he e1, part_int he e2, Result.andThen_ok, run_equalIn_int w d e .u8 .u8 _ _ he, List.all_cons]
    rw [e3]
    cases hq : (l.getD i 0 == m.getD i 0)
    · simp
    · simp [hr]
theorem Try.cells5 : Try.prog.cellsOf 5 = 1 := by kernel_rfl
theorem Try.has5 : (Try.prog.info? 5).isSome = true := by kernel_rfl
theorem Try.guard43 : Try.prog.eqGuardType Try.prog.depth 43 = false := by kernel_rfl
theorem eq43_same (l : List UInt8) (hl : l.length = 128) (w : World) : (Op.equalIn 10000 43 (.agg (u8s l).toArray) (.agg (u8s l).toArray)).run Try.prog w = .ok true w := by
  obtain ⟨i, hi⟩ := Option.isSome_iff_exists.1 Try.has5
  rw [show 10000 = 9999 + 1 from rfl, run_equalIn_array w 9999 _ _ Try.underlying43 hi, Try.cells5, show 9999 = 9998 + 1 from rfl,
    eqItems_bytes (d := 9998) Try.underlying5 l l w _ (fun i hi => by rw [hl]; simpa using hi)]
  congr 1
  simp
theorem pages_any {w : World} (n : Nat) (hn : n ≤ 140737488355328) : Calls Try.prog 18 #[.int .i64 (n : Int)] w fun E w' => E = .returned (.int .i64 (pagesN n : Int)) ∧ w = w' := by
  go_enter Try.func18, Try.ntmps18
  go_wp2
  go_ret
  refine ⟨?_, rfl⟩
  change Ending.returned (.int .i64 (((n : Int) + 2 + 107) / 108)) = _
  unfold pagesN
  congr 2

/-- Behind k rounds. -/
structure RmAt (w : World) (d g k : Nat) (E : Int) (LF : List (Nat × Obj)) (q : List (Nat × List UInt8)) (a na : Nat) (s : Dk) (W : World) : Prop where
  dat : Dat w d (30 + 38 * k) s ((g, bookOf d 1 (q.length : Int) (endOf (3 + 20) q) E false) :: LF) W
  ne : ∀ p ∈ LF, p.1 ≠ g
  calm : Calm s
  book : BookIs s 3 E 1 0 q a na 3
  cnt : q.length ≤ k
  out : ∀ z, E ≤ z → z < 32768 → s.read z = (zeros, 0)

set_option maxHeartbeats 16000000 in
theorem bookRoom_by (hW : Works) (sz : Nat) (hz8 : sz ≤ 255) (A : Option Addr) (n c : Nat) (rs : List (List UInt8)) (w : World) (hx : Rows (fun b => b < w.heap.size) w A n rs) (hs : Sl A n c) :
    Calls Try.prog 5 #[.int .u8 (sz : Int), .slice A n c] w fun E w' => E = .returned (.bool true) ∧ Below w.heap.size w w' := by
  have HW := Lib.hid hW
  have HX := Lib.hid hx
  have hsc := hs.2
  have hwz : RowKit.wrap64 (sz : Int) = (sz : Int) := by unfold RowKit.wrap64; omega
  have HPG := Lib.hid (fun (m : Nat) (hm : m ≤ 140737488355328) (wx : World) => pages_any (w := wx) m hm)
  clear hW hx hs
  by_cases hn : n ≤ 60
  · go_enter Try.func5, Try.ntmps5
    go_wp2_with fail
    refine (dat_new (Below.refl _ w)).mono ?_
    rintro E w1 ⟨d, rfl, h1, -⟩
    have D1 := Lib.hid h1
    clear h1
    go_wp2_with fail
    refine (book_format D1.out (by omega) (x := 3) (24 + (sz : Int)) (by omega) (by omega)).mono ?_
    rintro E w2 ⟨rfl, s2, H2⟩
    clear D1
    go_wp2_with fail
    refine (book_open H2.out.1 H2.out.2.1 (by omega) H2.out.2.2.2.1 (21 + (sz : Int)) (by omega) (by omega) (by omega) (by omega) (by omega) (by omega)).mono ?_
    rintro E w3 ⟨g, A3, n3, c3, rfl, s3, LF3, H3⟩
    obtain rfl : n3 = 0 := H3.out.1.row.1.symm
    have HR0 : Hid (RmAt w d g 0 (24 + (sz : Int)) (LF3 ++ []) [] (1 - 0) (topGo s2 3 20 + 1) s3 w3) := Lib.hid ⟨H3.out.1.book, H3.out.1.ne, H3.out.2.1, H3.out.2.2.2.1, Nat.le_refl _, fun z h1 h2 => by
      rw [H3.out.2.2.2.2 z (by omega) (by omega)]
      exact H2.out.2.2.2.2 z (by omega) (by omega)⟩
    clear H2 H3
    generalize topGo s2 3 20 + 1 = na at HR0
    generalize LF3 ++ [] = LF at HR0
    go_wp2_with fail
    go_loopw [10, 11, 12] (fun v10 v11 v12 wr => ∃ k : Nat, k ≤ n ∧ v12 = .int .i64 (k : Int) ∧ ∃ q s, v10 = .int .i64 (24 + (sz : Int) - endOf (3 + 20) q) ∧ v11 = .int .i64 (q.length : Int) ∧ Hid (RmAt w d g k (24 + (sz : Int)) LF q (1 - 0) na s wr)) (fun _ _ v12 _ => n - (intOf v12).toNat)
    case atStart => exact ⟨0, Nat.zero_le _, rfl, [], s3, by congr 1; simp only [endOf]; omega, rfl, HR0⟩
    case round =>
      clear HR0
      obtain ⟨k, hk, rfl, q, s, rfl, rfl, HD⟩ := hrel
      obtain ⟨y, hy⟩ : ∃ y, y = endOf (3 + 20) q := ⟨_, rfl⟩
      have HY := Lib.hid hy
      have hyg := endOf_ge q (3 + 20)
      have hyf := HD.out.book.fit
      have hcn := HD.out.cnt
      rw [← hy] at hyg hyf ⊢
      clear hy
      obtain ⟨ql, hql⟩ : ∃ ql, ql = q.length := ⟨_, rfl⟩
      have HQL := Lib.hid hql
      rw [← hql] at hyg hcn ⊢
      clear hql
      by_cases hkk : k < n
      · obtain ⟨r, hr⟩ : ∃ r, rs[k]? = some r := ⟨_, List.getElem?_eq_getElem (by have := HX.out.1; omega)⟩
        obtain ⟨b, o, Aj, cj, rfl, hb0, -, hcr, hrd, hsj⟩ := HX.out.at hr
        have HCR : Hid (∀ W, Below w.heap.size w W → W.cell? ⟨b, o + k, none⟩ = some (.slice Aj r.length cj)) := Lib.hid fun W hb => (hb.cell (p := ⟨b, o + k, none⟩) hb0).trans hcr
        have HRD : Hid (∀ W, Below w.heap.size w W → Rd (fun b => b < w.heap.size) W Aj r.length r) := Lib.hid fun W hb => hrd.kept fun b hb' _ => ⟨hb', hb.block b hb'⟩
        have HSJ := Lib.hid hsj
        obtain ⟨m, hm⟩ : ∃ m, m = r.length := ⟨_, rfl⟩
        rw [← hm] at HCR HRD HSJ
        have HM := Lib.hid hm
        have hmc := HSJ.out.2
        clear hcr hrd hsj hr hm
        have cb := HCR.out _ HD.out.dat.below
        by_cases hml : m ≤ 4096
        · obtain ⟨pn, hpn⟩ : ∃ pn, pn = pagesN m := ⟨_, rfl⟩
          have hpb : 1 ≤ pn ∧ pn ≤ 38 := by rw [hpn]; exact ⟨pagesN_pos m, pagesN_le m hml⟩
          have HPN := Lib.hid hpn
          have HPC := Lib.hid (fun wx => HPG.out m (by omega) wx)
          rw [← hpn] at HPC
          clear hpn
          by_cases hfit : y + pn ≤ 24 + (sz : Int)
          · go_wp2_with (first | (go_at_call 18; refine (HPC.out _).mono ?_; rintro E w4 ⟨rfl, rfl⟩) | fail)
            refine (book_append (x := 3) (E := 24 + (sz : Int)) (q := q) HD.out.dat HD.out.ne HD.out.calm (by omega) HD.out.book (by omega) (by omega) (by omega) (by rw [← HQL.out]; omega) Aj m cj r (rd_rd (HRD.out _ HD.out.dat.below)) HSJ.out hml (by rw [← HY.out, ← HPN.out]; exact hfit)).mono ?_
            rintro E w5 ⟨rfl, s5, H5⟩
            have HN : Hid (RmAt w d g (k + 1) (24 + (sz : Int)) LF (q ++ [(1, r)]) (1 - 0) na s5 w5) := Lib.hid ⟨H5.out.1.more (by rw [← HPN.out]; omega), HD.out.ne, H5.out.2.1, H5.out.2.2.2.1, by rw [List.length_append, ← HQL.out]; simp; omega, fun z h1 h2 => by
              rw [H5.out.2.2.2.2 z (by omega) (by rw [← HY.out, ← HPN.out]; omega)]
              exact HD.out.out z h1 h2⟩
            clear H5 HD cb
            have cb := HCR.out _ HN.out.dat.below
            go_wp2_with (first | (go_at_call 18; refine (HPC.out _).mono ?_; rintro E w6 ⟨rfl, rfl⟩) | fail)
            refine ⟨⟨k + 1, by omega, by go_num, q ++ [(1, r)], s5, ?_, ?_, HN⟩, by simp [intOf]; omega⟩
            · rw [endOf_snoc, ← HM.out, ← HPN.out, ← HY.out]
              congr 1
              omega
            · rw [List.length_append, ← HQL.out]
              simp
          · have HAF := Lib.hid (append_full (HD.out.dat.get (q := g) (.head _)) Aj m cj hml (by rw [← HY.out]; omega) (by omega) (by rw [← HY.out, ← HPN.out]; omega))
            go_wp2_with (first | (go_at_call 18; refine (HPC.out _).mono ?_; rintro E w4 ⟨rfl, rfl⟩) | fail)
            refine HAF.out.mono ?_
            rintro E w5 ⟨rfl, q5, rfl⟩
            have HN : Hid (RmAt w d g (k + 1) (24 + (sz : Int)) LF q (1 - 0) na s (wr.drewN q5)) := Lib.hid ⟨Dat.more (T := 30 + 38 * k) (T' := 30 + 38 * (k + 1)) (HD.out.dat.next (w' := wr.drewN q5) ⟨rfl, rfl, rfl, Nat.le_refl _, fun _ _ => rfl⟩) (by omega), HD.out.ne, HD.out.calm, HD.out.book, by rw [← HQL.out]; omega, HD.out.out⟩
            clear HD cb HAF
            go_wp2_with fail
            exact ⟨⟨k + 1, by omega, by go_num, q, s, by rw [HY.out], by rw [HQL.out], HN⟩, by simp [intOf]; omega⟩
        · go_wp2_with (first | (go_at_call 8; refine (HW.out _).mono ?_; rintro E wz ⟨rfl, hbz⟩) | fail)
          go_ret
          exact ⟨rfl, HD.out.dat.below.trans (hbz.mono HD.out.dat.below.size)⟩
      · go_wp2_with fail
        refine (book_open HD.out.dat HD.out.calm (by omega) HD.out.book (21 + (sz : Int)) (by omega) (by omega) (by omega) (by omega) (by omega) (by omega)).mono ?_
        rintro E w6 ⟨g6, A6, n6, c6, rfl, s6, LF6, H6⟩
        obtain rfl : n6 = ql := by rw [HQL.out, ← H6.out.1.row.1, recsOf_length]
        have G6 : Hid (Calls Try.prog 17 #[.pointer (some ⟨g6, 0, none⟩)] w6 fun E w' => E = .returned (.int .i64 (n6 : Int)) ∧ w6 = w') := Lib.hid (by rw [HQL.out]; exact len_b (H6.out.1.book.get (q := g6) (.head _)))
        have G3 : Hid (Calls Try.prog 17 #[.pointer (some ⟨g, 0, none⟩)] w6 fun E w' => E = .returned (.int .i64 (n6 : Int)) ∧ w6 = w') := Lib.hid (by rw [HQL.out]; exact len_b (H6.out.1.book.get (q := g) (.tail _ (List.mem_append_right _ (.head _)))))
        have D6 : Hid (Dat w d (30 + 38 * k + 10) s6 [] w6) := Lib.hid (H6.out.1.dat.sub fun p hp => by cases hp)
        have HRE : Hid (s6.read (3 + (21 + (sz : Int))) = (zeros, 0)) := Lib.hid (by rw [H6.out.2.2.2.2 _ (by omega) (by omega)]; exact HD.out.out _ (by omega) (by omega))
        have hsl6 := H6.out.1.sl.2
        clear H6 HD HPG
        go_wp2_with fail
        refine G6.out.mono ?_
        rintro E w7 ⟨rfl, rfl⟩
        go_wp2_with fail
        refine G3.out.mono ?_
        rintro E w8 ⟨rfl, rfl⟩
        clear G6 G3
        have HRD := Lib.hid (dat_read D6.out (3 + (21 + (sz : Int))) (i64_of (by omega)))
        rw [HRE.out] at HRD
        obtain ⟨Z, hZ⟩ : ∃ Z, Z = zeros := ⟨_, rfl⟩
        have HZE := Lib.hid hZ
        rw [← hZ] at HRD
        have UZ : Hid ((u8s Z).length = 128) := Lib.hid (by rw [hZ, u8s_length]; rfl)
        have hz : ∀ w, (zeroValue 43).run Try.prog w = .ok (.agg (u8s Z).toArray) w := by rw [hZ]; exact zero33
        have HBY : Hid (∀ wx, Calls Try.prog 20 #[.int .u8 0] wx fun E w' => E = .returned (.agg (u8s Z).toArray) ∧ Below wx.heap.size wx w') := Lib.hid (by rw [hZ]; exact fun wx => bytes_any 0 wx)
        have hge := eq43_same Z (by rw [hZ]; rfl)
        have hgd := Try.guard43
        clear hZ HRE
        go_wp2_with fail
        refine HRD.out.mono ?_
        rintro E w9 ⟨rfl, h9, -⟩
        have D9 := Lib.hid h9
        clear h9 HRD D6
        go_wp2_with (first
          | (refine wpList_store_all rfl 43 (.tmp 16) (.tmp 126) rfl w9.heap.size (u8s Z) (u8s Z) 43 (row_new w9 (u8s Z) 43) rfl rfl rfl (by rw [UZ.out]; exact Try.size43) (u8s_one _) ?_; intro w10 G10)
          | fail)
        have D8 : Hid (Dat w d (30 + 38 * k + 10) s6 [(w9.heap.size, .cells (u8s Z).toArray 43 (0, 0))] w10) := Lib.hid ((D9.out.alloc (.cells (u8s Z).toArray 43)).upd (fun p hp => by cases hp) G10.out.1 G10.out.2)
        clear D9 G10
        generalize w9.heap.size = q16 at D8 ⊢

        try simp only [Act.put, List.setIfInBounds_toArray, List.set_cons_zero, List.set_cons_succ]
        refine wp_region_any (by kernel_rfl) ?_
        change wpAny _ _ _ _ _ _ _ (w10.drewN 1)
        have D9 := Lib.hid (D8.out.next (w' := w10.drewN 1) ⟨rfl, rfl, rfl, Nat.le_refl _, fun _ _ => rfl⟩)
        clear D8
        generalize w10.drewN 1 = w13 at D9 ⊢
        have hS := D9.out.get (q := q16) (.head _)
        refine wpAny_of_held (S := fun W => W.heap[q16]? = some (.cells (u8s Z).toArray 43 (0, 0))) _ _ _ _ ?_
        refine wpAnyH_take (i := 0) (oi := { dst := some 128, op := Op.move (Operand.tmp 17), type := 26, pos := "more.go:55", after := #[], guard := none }) (v := .int .i64 0) rfl (by kernel_rfl) (by kernel_rfl) (by kernel_rfl) (fun _ _ _ h => h) (Or.inl ⟨by kernel_rfl, fun W hSW => by go_simp⟩) (hS) ?_
        simp only [Act.put, List.setIfInBounds_toArray, List.set_cons_zero, List.set_cons_succ]
        refine wpAnyH_take (i := 1) (oi := { dst := some 129, op := Op.binOp BinOp.eql 26 (Operand.tmp 128) (Operand.const (Value.int IntKind.i64 0)) 26, type := 4, pos := "more.go:55", after := #[{ on := 0, ground := Ground.data }], guard := none }) (v := .bool true) rfl (by kernel_rfl) (by kernel_rfl) (by kernel_rfl) (fun _ _ _ h => h) (Or.inl ⟨by kernel_rfl, fun W hSW => by go_simp⟩) (hS) ?_
        simp only [Act.put, List.setIfInBounds_toArray, List.set_cons_zero, List.set_cons_succ]
        refine wpAnyH_take (i := 2) (oi := { dst := some 130, op := Op.move (Operand.tmp 129), type := 4, pos := "more.go:55", after := #[{ on := 1, ground := Ground.data }], guard := none }) (v := .bool true) rfl (by kernel_rfl) (by kernel_rfl) (by kernel_rfl) (fun _ _ _ h => h) (Or.inl ⟨by kernel_rfl, fun W hSW => by go_simp⟩) (hS) ?_
        simp only [Act.put, List.setIfInBounds_toArray, List.set_cons_zero, List.set_cons_succ]
        refine wpAnyH_take (i := 3) (oi := { dst := some 131, op := Op.load 43 (Operand.tmp 16), type := 43, pos := "more.go:55", after := #[{ on := 2, ground := Ground.guard }], guard := some (2, true) }) (v := .agg (u8s Z).toArray) rfl (by kernel_rfl) (by kernel_rfl) (by kernel_rfl) (fun _ _ _ h => h) (yieldsIf_load_mid (by kernel_rfl) 43 (.tmp 16) rfl q16 0 rfl (u8s Z) _ (fun W hSW => range_block hSW 0 _ (fun j v hv => by rw [Nat.zero_add]; exact hv)) Try.underlying43 rfl (by rw [UZ.out]; exact Try.size43)) hS ?_
        simp only [Act.put, List.setIfInBounds_toArray, List.set_cons_zero, List.set_cons_succ]
        refine wpAnyH_ready (rs := [4]) (by kernel_rfl) (by simp) ?_
        refine AllReadyH.cons (o := { dst := some 132, op := Op.call { callee := Callee.value (Operand.func 20), args := #[Operand.const (Value.int IntKind.u8 0)], argTypes := #[5] }, type := 43, pos := "more.go:55", after := #[{ on := 2, ground := Ground.chain }, { on := 2, ground := Ground.guard }], guard := some (2, true) }) rfl (fun K' hK' => ?_) AllReadyH.nil
        go_simp
        go_at_call 20
        refine (HBY.out _).mono ?_
        rintro E w11 ⟨rfl, hb11⟩
        have D11 := Lib.hid (D9.out.next hb11)
        clear hb11 D9 hS
        have hS := D11.out.get (q := q16) (.head _)
        refine hK'.out _ _ hS (fun _ => ?_)
        clear hK' K'
        refine wpAnyH_take (i := 5) (oi := { dst := some 133, op := Op.binOp BinOp.eql 43 (Operand.tmp 131) (Operand.tmp 132) 43, type := 4, pos := "more.go:55", after := #[{ on := 3, ground := Ground.data }, { on := 4, ground := Ground.data }, { on := 2, ground := Ground.guard }], guard := some (2, true) }) (v := .bool true) rfl (by kernel_rfl) (by kernel_rfl) (by kernel_rfl) (fun _ _ _ h => h) (Or.inl ⟨by kernel_rfl, fun W hSW => by go_simp⟩) (hS) ?_
        simp only [Act.put, List.setIfInBounds_toArray, List.set_cons_zero, List.set_cons_succ]
        refine wpAnyH_take (i := 6) (oi := { dst := some 134, op := Op.pick (Operand.tmp 130) (Operand.tmp 133) (Operand.const (Value.bool false)), type := 4, pos := "more.go:55", after := #[{ on := 2, ground := Ground.data }, { on := 5, ground := Ground.data }], guard := none }) (v := .bool true) rfl (by kernel_rfl) (by kernel_rfl) (by kernel_rfl) (fun _ _ _ h => h) (Or.inl ⟨by kernel_rfl, fun W hSW => by go_simp⟩) (hS) ?_
        simp only [Act.put, List.setIfInBounds_toArray, List.set_cons_zero, List.set_cons_succ]
        refine wpAnyH_take (i := 7) (oi := { dst := some 135, op := Op.move (Operand.tmp 134), type := 4, pos := "more.go:55", after := #[{ on := 6, ground := Ground.data }, { on := 4, ground := Ground.chain }], guard := none }) (v := .bool true) rfl (by kernel_rfl) (by kernel_rfl) (by kernel_rfl) (fun _ _ _ h => h) (Or.inl ⟨by kernel_rfl, fun W hSW => by go_simp⟩) (hS) ?_
        simp only [Act.put, List.setIfInBounds_toArray, List.set_cons_zero, List.set_cons_succ]
        refine wpAnyH_ready (rs := [8]) (by kernel_rfl) (by simp) ?_
        refine AllReadyH.cons (o := { dst := some 136, op := Op.call { callee := Callee.value (Operand.func 8), args := #[], argTypes := #[] }, type := 4, pos := "more.go:55", after := #[{ on := 7, ground := Ground.chain }, { on := 7, ground := Ground.guard }], guard := some (7, true) }) rfl (fun K' hK' => ?_) AllReadyH.nil
        go_simp
        go_at_call 8
        refine (HW.out _).mono ?_
        rintro E w12 ⟨rfl, hb12⟩
        have D12 := Lib.hid (D11.out.next hb12)
        clear hb12 D11 hS
        have hS := D12.out.get (q := q16) (.head _)
        refine hK'.out _ _ hS (fun _ => ?_)
        clear hK' K'
        refine wpAnyH_take (i := 9) (oi := { dst := some 137, op := Op.pick (Operand.tmp 135) (Operand.tmp 136) (Operand.const (Value.bool false)), type := 4, pos := "more.go:55", after := #[{ on := 7, ground := Ground.data }, { on := 8, ground := Ground.data }], guard := none }) (v := .bool true) rfl (by kernel_rfl) (by kernel_rfl) (by kernel_rfl) (fun _ _ _ h => h) (Or.inl ⟨by kernel_rfl, fun W hSW => by go_simp⟩) (hS) ?_
        simp only [Act.put, List.setIfInBounds_toArray, List.set_cons_zero, List.set_cons_succ]
        refine wpAnyH_take (i := 10) (oi := { dst := some 4, op := Op.assign (Operand.tmp 137), type := 4, pos := "more.go:55", after := #[{ on := 9, ground := Ground.data }, { on := 8, ground := Ground.chain }, { on := 0, ground := Ground.phase }, { on := 1, ground := Ground.phase }, { on := 2, ground := Ground.phase }, { on := 3, ground := Ground.phase }, { on := 4, ground := Ground.phase }, { on := 5, ground := Ground.phase }, { on := 6, ground := Ground.phase }, { on := 7, ground := Ground.phase }, { on := 8, ground := Ground.phase }, { on := 9, ground := Ground.phase }], guard := none }) (v := .bool true) rfl (by kernel_rfl) (by kernel_rfl) (by kernel_rfl) (fun _ _ _ h => h) (Or.inl ⟨by kernel_rfl, fun W hSW => by go_simp⟩) (hS) ?_
        simp only [Act.put, List.setIfInBounds_toArray, List.set_cons_zero, List.set_cons_succ]
        refine wpAnyH_done (by kernel_rfl) ?_ _
        go_wp2_with fail
        go_ret
        exact ⟨rfl, D12.out.below⟩
  · go_enter Try.func5, Try.ntmps5
    go_wp2_with (first | (go_at_call 8; refine (HW.out _).mono ?_; rintro E wz ⟨rfl, hb⟩))
    go_ret
    exact ⟨rfl, hb⟩
theorem bookRoom_walk (w : World) (x : Int) (hx : (Lit.int .u8 x).wf = true) (A : Option Addr) (n c : Nat) (h : ∃ rs, Rows (fun b => b < w.heap.size) w A n rs ∧ Sl A n c) :
    Calls Try.prog 5 #[.int .u8 x, .slice A n c] w fun E w' => E = .returned (.bool true) ∧ Below w.heap.size w w' := by
  obtain ⟨rs, h1, h2⟩ := h
  rw [u8_of hx]
  exact bookRoom_by works_any _ (by have := (UInt8.ofNat x.toNat).toNat_lt; omega) A n c rs w h1 h2
end Go.Proofs.Ytfegffdhlkhjbaa
