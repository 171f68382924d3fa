/-
  What is proved: what a page of a book reads as. Conditions as stated.
-/
import Derived.Test.YtfegffdhlkhjbaaBb
namespace Go.Proofs.Ytfegffdhlkhjbaa
open Go.RowKit
set_option maxRecDepth 100000

/-- A whole block's cells anew, as a step of a region. -/
theorem step_store_all {P : Program} {ops : Array Oper} {op : Oper} {a : Act} {w : World} {K : Act → World → Prop} {Q : Exit → Act → World → Prop} {E : Prop} (hgd : op.guard = none) (ty : TypeId) (x y : Operand) (ho : op.op = .store ty x y)
    (g : Nat) (Z cs : List Value) (t : TypeId) (hZ : w.heap[g]? = some (.cells Z.toArray t (0, 0))) (hl : Z.length = cs.length) (hx : a.eval x = .pointer (some ⟨g, 0, none⟩)) (hy : a.eval y = .agg cs.toArray)
    (hi : (P.info? ty).map (·.size) = some cs.length) (h1 : ∀ v ∈ cs, v.oneCell' = true)
    (h : ∀ w', Hid (w'.heap[g]? = some (.cells cs.toArray t (0, 0)) ∧ w.grownBy w' (some g)) → K (a.put op.dst undef) w') : if Region.wanted op (yielded ops a.tmps) = true then Oper.wp P op a w K Q else E := by
  have hw : Region.wanted op (yielded ops a.tmps) = true := by simp [Region.wanted, hgd]
  rw [if_pos hw]
  refine wp_store_mid ty x y ho g 0 cs.toArray hx hy (by simpa using there_block hZ 0 cs.length (by omega)) (by simpa using hi) (all_oneCell_toArray h1) (h _ (Lib.hid ⟨?_, gb_setCells _ _ _ _⟩))
  rw [heap_setCells _ 0 w _ hZ]
  have := setAll_mid cs [] Z [] hl
  simp only [List.nil_append, List.length_nil, List.append_nil] at this
  rw [this]

/-- A word is cut off bytes that are there. -/
theorem word_at {rem : List UInt8} (hl : 8 ≤ rem.length) : Hid (∀ (lo g : Nat) (wx : World), Oct.CutAt wx lo g rem false → Calls Try.prog 46 #[.pointer (some ⟨g, 0, none⟩)] wx fun E w' => E = .returned (.int .u64 (Oct.num (rem.take 8) : Int)) ∧ Oct.CutAt w' lo g (rem.drop 8) false ∧ wx.grownBy w' (some g)) := Lib.hid fun lo g wx h => by
  have := Oct.word_cut g rem false wx h
  rw [show (8 : Int) = ((8 : Nat) : Int) from rfl, (tk_nat (k := 8) hl).1, (tk_nat (k := 8) hl).2, fits_nat (k := 8) hl] at this
  exact this
theorem half_at {rem : List UInt8} (hl : 2 ≤ rem.length) : Hid (∀ (lo g : Nat) (wx : World), Oct.CutAt wx lo g rem false → Calls Try.prog 64 #[.pointer (some ⟨g, 0, none⟩)] wx fun E w' => E = .returned (.int .u16 (Oct.num (rem.take 2) : Int)) ∧ Oct.CutAt w' lo g (rem.drop 2) false ∧ wx.grownBy w' (some g)) := Lib.hid fun lo g wx h => by
  have := Oct.half_cut g rem false wx h
  rw [show (2 : Int) = ((2 : Nat) : Int) from rfl, (tk_nat (k := 2) hl).1, (tk_nat (k := 2) hl).2, fits_nat (k := 2) hl] at this
  exact this
theorem raw_all (rem : List UInt8) (m : Nat) (hm : rem.length = m) : Hid (∀ (lo g : Nat) (wx : World), Oct.CutAt wx lo g rem false → Calls Try.prog 55 #[.pointer (some ⟨g, 0, none⟩), .int .i64 (m : Int)] wx fun E w' => ∃ A' k c', E = .returned (.slice A' k c') ∧
    Hid (k = m ∧ w'.ownsRow wx.heap.size 5 1 (.slice A' k c') k (u8s rem) ∧ Oct.Sl A' k c') ∧ wx.grownBy w' (some g)) := Lib.hid fun lo g wx h => by
  subst hm
  have := Oct.raw_cut g rem false (rem.length : Int) wx h
  rw [(tk_nat (rem := rem) (k := rem.length) (Nat.le_refl _)).1, List.take_length] at this
  exact this.mono fun E w' ⟨A', k, c', h1, h2, _, h4⟩ => ⟨A', k, c', h1, h2, h4⟩
theorem left_all (rem : List UInt8) (m : Nat) (hm : rem.length = m) : Hid (∀ (lo g : Nat) (wx : World), Oct.CutAt wx lo g rem false → Calls Try.prog 56 #[.pointer (some ⟨g, 0, none⟩)] wx fun E w' => E = .returned (.int .i64 (m : Int)) ∧ ∃ q, w' = wx.drewN q) := Lib.hid fun lo g wx h => by
  subst hm
  exact Oct.left_any g rem false wx h

set_option maxHeartbeats 4000000 in
theorem page_b {w wo : World} {d T g life : Nat} {s : Dk} {L : List (Nat × Obj)} {count next stop : Int} {failed : Bool} (h : Dat w d T s ((g, bookOf d life count next stop failed) :: L) wo) (y : Int) (hy : I64 y) :
    Calls Try.prog 49 #[.pointer (some ⟨g, 0, none⟩), .int .i64 y] wo fun E w' => ∃ A m c, E = .returned (.tuple #[.agg (headV (headAt s y)).toArray, .slice A m c]) ∧ Below wo.heap.size wo w' ∧ Oct.Sl A m c ∧ w'.ownsRow wo.heap.size 5 1 (.slice A m c) m (u8s (partAt s y)) := by
  have D0 := Lib.hid (h.alloc (.cells #[.int .u64 0, .int .u64 0, .int .u16 0, .int .u16 0] 94))
  obtain ⟨c0, -⟩ := bookOf_cells (D0.out.get (q := g) (.tail _ (.head _)))
  have HBW : Hid (Below wo.heap.size wo (wo.alloc (.cells #[.int .u64 0, .int .u64 0, .int .u16 0, .int .u16 0] 94))) := Lib.hid ((Below.refl _ _).alloc (Nat.le_refl _) _)
  obtain ⟨X, hX⟩ : ∃ X, X = (s.read y).1 := ⟨_, rfl⟩
  obtain ⟨e, he⟩ : ∃ e, e = (s.read y).2 := ⟨_, rfl⟩
  have hXl : X.length = 128 := by rw [hX]; exact h.read_len y
  have HR : Hid (Calls Try.prog 19 #[.pointer (some ⟨d, 0, none⟩), .int .i64 y] (wo.alloc (.cells #[.int .u64 0, .int .u64 0, .int .u16 0, .int .u16 0] 94)) fun E w' => E = .returned (.tuple #[.agg (u8s X).toArray, .int .i64 e]) ∧ Dat w d T s ((wo.heap.size, .cells #[.int .u64 0, .int .u64 0, .int .u16 0, .int .u16 0] 94) :: (g, bookOf d life count next stop failed) :: L) w' ∧ Below (wo.alloc (.cells #[.int .u64 0, .int .u64 0, .int .u16 0, .int .u16 0] 94)).heap.size (wo.alloc (.cells #[.int .u64 0, .int .u64 0, .int .u16 0, .int .u16 0] 94)) w') := Lib.hid (by rw [hX, he]; exact dat_read D0.out y hy)
  have HHD : Hid (headAt s y = if e ≠ 0 then (0, 0, 0, 0) else headOf X) := Lib.hid (by rw [headAt, hX, he])
  have HPT : Hid (partAt s y = if e ≠ 0 then [] else X.drop 20) := Lib.hid (by rw [partAt, hX, he])
  have UX : Hid ((u8s X).length = 128) := Lib.hid (by rw [u8s_length, hXl])
  have XL := Lib.hid hXl
  clear h hX he hXl D0
  obtain ⟨Z, hZ⟩ : ∃ Z, Z = u8s zeros := ⟨_, rfl⟩
  have hz : ∀ w, (zeroValue 43).run Try.prog w = .ok (.agg Z.toArray) w := by rw [hZ]; exact zero33
  have ZL : Hid (Z.length = 128) := Lib.hid (by rw [hZ, u8s_length]; rfl)
  clear hZ
  go_enter Try.func49, Try.ntmps49
  go_wp2_with fail
  refine HR.out.mono ?_
  rintro E w1 ⟨rfl, h1, hb1⟩
  have D1 := Lib.hid h1
  have B1 : Hid (Below wo.heap.size wo w1) := Lib.hid (HBW.out.trans (hb1.mono HBW.out.size))
  have Q1 : Hid (w1.heap[wo.heap.size]? = some (.cells (headV (0, 0, 0, 0)).toArray 94 (0, 0))) := Lib.hid (h1.get (q := wo.heap.size) (.head _))
  clear h1 hb1 c0 HBW HR
  by_cases he : e = 0
  · subst he
    go_wp2_with (first
      | (refine wpList_store_all rfl 43 (.tmp 6) (.tmp 17) rfl w1.heap.size Z (u8s X) 43 (row_new w1 Z 43) (ZL.out.trans UX.out.symm) rfl rfl (by rw [UX.out]; exact Try.size43) (u8s_one _) ?_; intro w2 G2)
      | fail)
    have BW2 : Hid (Below wo.heap.size wo w2) := Lib.hid ((B1.out.alloc B1.out.size _).grown G2.out.2 (by simp; exact Nat.le_succ_of_le B1.out.size) (fun k e => by injection e with e; subst e; exact B1.out.size))
    have HW1 : Hid (wo.heap.size < w1.heap.size) := Lib.hid (Array.getElem?_eq_some_iff.1 Q1.out).1
    have Q2 : Hid (w2.heap[wo.heap.size]? = some (.cells (headV (0, 0, 0, 0)).toArray 94 (0, 0))) := Lib.hid ((G2.out.2.block _ (by simp; have := HW1.out; omega) (fun e => by injection e with e; have := HW1.out; omega)).trans ((heap_alloc_old w1 _ HW1.out).trans Q1.out))
    have HW2 : Hid (wo.heap.size < w2.heap.size) := Lib.hid (Array.getElem?_eq_some_iff.1 Q2.out).1
    have QR : Hid (Oct.Rd w2 (some ⟨w1.heap.size, 0, none⟩) 128 X) := Lib.hid ⟨XL.out, fun _ => ⟨w1.heap.size, 0, rfl, (Array.getElem?_eq_some_iff.1 G2.out.1).1, fun j u hu => by rw [Nat.zero_add]; exact block_cell G2.out.1 j _ (by simp [u8s, hu])⟩⟩
    clear G2 D1 B1 Q1
    rw [if_neg (by simp)] at HHD HPT
    obtain ⟨Y4, hY4⟩ : ∃ Y, Y = X.drop 20 := ⟨_, rfl⟩
    have HWD1 := word_at (rem := X) (by rw [XL.out]; omega)
    have HWD2 := word_at (rem := X.drop 8) (by rw [List.length_drop, XL.out]; omega)
    have HHF1 := half_at (rem := X.drop 16) (by rw [List.length_drop, XL.out]; omega)
    have HHF2 := half_at (rem := X.drop 18) (by rw [List.length_drop, XL.out]; omega)
    have YL : Y4.length = 108 := by rw [hY4, List.length_drop, XL.out]
    have HLF := left_all Y4 108 YL
    have HRW := raw_all Y4 108 YL
    rw [List.drop_drop] at HWD2 HHF1 HHF2
    rw [← hY4] at HPT HHF2
    obtain ⟨hh, hhh⟩ : ∃ hh, hh = headOf X := ⟨_, rfl⟩
    rw [← hhh] at HHD
    obtain ⟨n1, n2, n3, n4⟩ := hh
    have e1 : Oct.num (X.take 8) = n1 ∧ Oct.num ((X.drop 8).take 8) = n2 ∧ Oct.num ((X.drop 16).take 2) = n3 ∧ Oct.num ((X.drop 18).take 2) = n4 := by
      simp only [headOf, Prod.mk.injEq] at hhh
      exact ⟨hhh.1.symm, hhh.2.1.symm, hhh.2.2.1.symm, hhh.2.2.2.symm⟩
    rw [e1.1] at HWD1
    rw [e1.2.1] at HWD2
    rw [e1.2.2.1] at HHF1
    rw [e1.2.2.2] at HHF2
    clear hhh e1 hY4 YL UX
    refine (Oct.new_any (some ⟨w1.heap.size, 0, none⟩) 128 128 X w2 QR.out ⟨(fun h => by cases h), Nat.le_refl _, by omega⟩ (by omega)).mono ?_
    rintro E w3 ⟨g2, rfl, hg, hcut, hb3⟩
    have HG := Lib.hid hg
    have HCT := Lib.hid hcut
    have B3 := Lib.hid hb3
    clear hg hcut hb3 QR
    go_wp2_with fail
    refine (HWD1.out _ _ _ HCT.out).mono ?_
    rintro E w4 ⟨rfl, hcut4, hg4⟩
    have B4 : Hid (Below w2.heap.size w2 w4) := Lib.hid (below_gb' B3.out hg4 HG.out B3.out.size)
    have HC4 := Lib.hid hcut4
    clear hcut4 hg4 HCT B3
    go_wp2_with fail
    refine (HWD2.out _ _ _ HC4.out).mono ?_
    rintro E w5 ⟨rfl, hcut5, hg5⟩
    have B5 : Hid (Below w2.heap.size w2 w5) := Lib.hid (below_gb' B4.out hg5 HG.out B4.out.size)
    have HC5 := Lib.hid hcut5
    clear hcut5 hg5 HC4 B4
    go_wp2_with fail
    refine (HHF1.out _ _ _ HC5.out).mono ?_
    rintro E w6 ⟨rfl, hcut6, hg6⟩
    have B6 : Hid (Below w2.heap.size w2 w6) := Lib.hid (below_gb' B5.out hg6 HG.out B5.out.size)
    have HC6 := Lib.hid hcut6
    clear hcut6 hg6 HC5 B5
    go_wp2_with fail
    refine (HHF2.out _ _ _ HC6.out).mono ?_
    rintro E w7 ⟨rfl, hcut7, hg7⟩
    have B7 : Hid (Below w2.heap.size w2 w7) := Lib.hid (below_gb' B6.out hg7 HG.out B6.out.size)
    have HC7 := Lib.hid hcut7
    clear hcut7 hg7 HC6 B6
    go_wp2_with fail
    have H9 : Hid ((w7.alloc (.cells #[.int .u64 (n1 : Int), .int .u64 (n2 : Int), .int .u16 (n3 : Int), .int .u16 (n4 : Int)] 94)).heap[w7.heap.size]? = some (.cells (headV (n1, n2, n3, n4)).toArray 94 (0, 0))) := Lib.hid (heap_alloc_new w7 _)
    have C8 : Hid (Oct.CutAt (w7.alloc (.cells #[.int .u64 (n1 : Int), .int .u64 (n2 : Int), .int .u16 (n3 : Int), .int .u16 (n4 : Int)] 94)) w2.heap.size g2 Y4 false) := Lib.hid (HC7.out.below ((Below.refl _ _).alloc (Nat.le_refl _) _))
    have B8 : Hid (Below w2.heap.size w2 (w7.alloc (.cells #[.int .u64 (n1 : Int), .int .u64 (n2 : Int), .int .u16 (n3 : Int), .int .u16 (n4 : Int)] 94))) := Lib.hid (B7.out.alloc B7.out.size _)
    have HQ9 : Hid (g2 < w7.heap.size ∧ wo.heap.size < w7.heap.size) := Lib.hid ⟨HC7.out.lt, Nat.lt_of_lt_of_le HW2.out B7.out.size⟩
    generalize w7.alloc (.cells #[.int .u64 (n1 : Int), .int .u64 (n2 : Int), .int .u16 (n3 : Int), .int .u16 (n4 : Int)] 94) = w8 at H9 C8 B8 ⊢
    generalize w7.heap.size = q9 at H9 HQ9 ⊢
    obtain ⟨hh, hhh⟩ : ∃ hh : Nat × Nat × Nat × Nat, hh = (n1, n2, n3, n4) := ⟨_, rfl⟩
    rw [← hhh] at HHD H9
    clear hhh HC7 B7 HWD1 HWD2 HHF1 HHF2
    try simp only [Act.put, List.setIfInBounds_toArray, List.set_cons_zero, List.set_cons_succ]
    refine wp_region_any (by kernel_rfl) ?_
    change wpAny _ _ _ _ _ _ _ (w8.drewN 1)
    have S9 : Hid ((w8.drewN 1).heap[q9]? = some (.cells (headV hh).toArray 94 (0, 0))) := Lib.hid H9.out
    have C9 := Lib.hid (C8.out.drewN 1)
    have B9 : Hid (Below w2.heap.size w2 (w8.drewN 1)) := Lib.hid (B8.out.trans (c := w8.drewN 1) ⟨rfl, rfl, rfl, Nat.le_refl _, fun _ _ => rfl⟩)
    clear C8 H9 B8
    generalize w8.drewN 1 = w9 at S9 C9 B9 ⊢
    refine wpAny_of_held (S := fun W => W.heap[q9]? = some (.cells (headV hh).toArray 94 (0, 0))) _ _ _ _ ?_
    refine wpAnyH_take (i := 0) (oi := { dst := some 33, op := Op.load 94 (Operand.tmp 9), type := 94, pos := "book.go:186", after := #[], guard := none }) (v := .agg (headV hh).toArray) rfl (by kernel_rfl) (by kernel_rfl) (by kernel_rfl) (fun _ _ _ h => h) (Or.inl ⟨by kernel_rfl, fun W hSW => by have k0 := block_cell hSW 0 _ rfl; have k1 := block_cell hSW 1 _ rfl; have k2 := block_cell hSW 2 _ rfl; have k3 := block_cell hSW 3 _ rfl; go_simp; rfl⟩) (S9.out) ?_
    simp only [Act.put, List.setIfInBounds_toArray, List.set_cons_zero, List.set_cons_succ]
    refine wpAnyH_take (i := 1) (oi := { dst := some 34, op := Op.move (Operand.tmp 8), type := 88, pos := "book.go:186", after := #[], guard := none }) (v := .pointer (some ⟨g2, 0, none⟩)) rfl (by kernel_rfl) (by kernel_rfl) (by kernel_rfl) (fun _ _ _ h => h) (Or.inl ⟨by kernel_rfl, fun W hSW => by go_simp⟩) (S9.out) ?_
    simp only [Act.put, List.setIfInBounds_toArray, List.set_cons_zero, List.set_cons_succ]
    refine wpAnyH_take (i := 2) (oi := { dst := some 35, op := Op.move (Operand.tmp 8), type := 88, pos := "book.go:186", after := #[], guard := none }) (v := .pointer (some ⟨g2, 0, none⟩)) rfl (by kernel_rfl) (by kernel_rfl) (by kernel_rfl) (fun _ _ _ h => h) (Or.inl ⟨by kernel_rfl, fun W hSW => by go_simp⟩) (S9.out) ?_
    simp only [Act.put, List.setIfInBounds_toArray, List.set_cons_zero, List.set_cons_succ]
    refine wpAnyH_ready (rs := [3]) (by kernel_rfl) (by simp) ?_
    refine AllReadyH.cons (o := { dst := some 36, op := Op.call { callee := Callee.value (Operand.func 56), args := #[Operand.tmp 35], argTypes := #[88] }, type := 3, pos := "book.go:186", after := #[{ on := 2, ground := Ground.data }], guard := none }) rfl (fun K' hK' => ?_) AllReadyH.nil
    go_simp
    go_at_call 56
    refine (HLF.out _ _ _ C9.out).mono ?_
    rintro E w10 ⟨rfl, q, rfl⟩
    refine hK'.out _ _ S9.out (fun _ => ?_)
    clear hK' K'
    refine wpAnyH_ready (rs := [4]) (by kernel_rfl) (by simp) ?_
    refine AllReadyH.cons (o := { dst := some 37, op := Op.call { callee := Callee.value (Operand.func 55), args := #[Operand.tmp 34, Operand.tmp 36], argTypes := #[88, 3] }, type := 29, pos := "book.go:186", after := #[{ on := 1, ground := Ground.data }, { on := 3, ground := Ground.data }, { on := 3, ground := Ground.chain }], guard := none }) rfl (fun K' hK' => ?_) AllReadyH.nil
    go_simp
    go_at_call 55
    refine (HRW.out _ _ _ (C9.out.drewN q)).mono ?_
    rintro E w11 ⟨A2, m2, c2, rfl, h11, hg11⟩
    obtain rfl : m2 = 108 := h11.out.1
    have S11 : Hid (w11.heap[q9]? = some (.cells (headV hh).toArray 94 (0, 0))) := Lib.hid ((hg11.block _ (Array.getElem?_eq_some_iff.1 S9.out).1 (fun e => by injection e with e; have := HQ9.out; omega)).trans S9.out)
    have B11 : Hid (Below w2.heap.size w2 w11) := Lib.hid (below_gb' (B9.out.trans (c := w9.drewN q) ⟨rfl, rfl, rfl, Nat.le_refl _, fun _ _ => rfl⟩) hg11 HG.out B9.out.size)
    have O11 : Hid (w11.ownsRow w2.heap.size 5 1 (.slice A2 108 c2) 108 (u8s Y4) ∧ Oct.Sl A2 108 c2) := Lib.hid ⟨own_base h11.out.2.1 B9.out.size, h11.out.2.2⟩
    refine hK'.out _ _ S11.out (fun _ => ?_)
    clear hK' K' h11 hg11 S9 B9 C9
    refine wpAnyH_ready (rs := [5]) (by kernel_rfl) (by simp) ?_
    refine AllReadyH.cons (o := { dst := none, op := Op.store 94 (Operand.tmp 4) (Operand.tmp 33), type := 0, pos := "book.go:186", after := #[{ on := 0, ground := Ground.data }, { on := 4, ground := Ground.chain }, { on := 0, ground := Ground.phase }, { on := 1, ground := Ground.textOnly Departure.lateStores }, { on := 2, ground := Ground.textOnly Departure.lateStores }, { on := 3, ground := Ground.textOnly Departure.lateStoresUnsure }, { on := 4, ground := Ground.textOnly Departure.lateStoresUnsure }], guard := none }) rfl (fun K' hK' => ?_) AllReadyH.nil
    have Q11 : w11.heap[wo.heap.size]? = some (.cells (headV (0, 0, 0, 0)).toArray 94 (0, 0)) := (B11.out.block _ (Array.getElem?_eq_some_iff.1 Q2.out).1).trans Q2.out
    refine step_store_all rfl 94 (.tmp 4) (.tmp 33) rfl wo.heap.size (headV (0, 0, 0, 0)) (headV hh) 94 Q11 rfl rfl rfl Try.size94 (headV_one _) ?_
    intro w12 G12
    have S12 : w12.heap[q9]? = some (.cells (headV hh).toArray 94 (0, 0)) := (G12.out.2.block _ (Array.getElem?_eq_some_iff.1 S11.out).1 (fun e => by injection e with e; have := HQ9.out; have := HW2.out; omega)).trans S11.out
    refine hK'.out _ _ S12 (fun _ => ?_)
    clear hK' K'
    refine wpAnyH_take (i := 6) (oi := { dst := some 5, op := Op.assign (Operand.tmp 37), type := 29, pos := "book.go:186", after := #[{ on := 4, ground := Ground.data }, { on := 5, ground := Ground.chain }, { on := 0, ground := Ground.phase }, { on := 1, ground := Ground.phase }, { on := 2, ground := Ground.phase }, { on := 3, ground := Ground.phase }, { on := 4, ground := Ground.phase }, { on := 5, ground := Ground.phase }], guard := none }) (v := .slice A2 108 c2) rfl (by kernel_rfl) (by kernel_rfl) (by kernel_rfl) (fun _ _ _ h => h) (Or.inl ⟨by kernel_rfl, fun W hSW => by go_simp⟩) (S12) ?_
    simp only [Act.put, List.setIfInBounds_toArray, List.set_cons_zero, List.set_cons_succ]
    refine wpAnyH_done (by kernel_rfl) ?_ _
    go_wp2_with fail
    have HLT := HW2.out
    have BW : Below wo.heap.size wo w12 := below_gb' (BW2.out.trans (B11.out.mono BW2.out.size)) G12.out.2 (Nat.le_refl _) (Nat.le_trans BW2.out.size B11.out.size)
    exact bodyPost_ret (ret_pair (cs := headV hh) rfl rfl rfl (range_block G12.out.1 0 _ (fun j v hv => by rw [Nat.zero_add]; exact hv)) Try.underlying94 rfl Try.size94) rfl ⟨A2, 108, c2, by rw [HHD.out]; rfl, BW, O11.out.2, by rw [HPT.out]; exact own_base (own_kept O11.out.1 (fun g3 hg3 => by have hh := own_lt O11.out.1 g3 hg3; exact G12.out.2.block _ hh.2 (fun e => by injection e with e; omega))) BW2.out.size⟩
  · have he1 : (if e ≠ 0 then ((0, 0, 0, 0) : Nat × Nat × Nat × Nat) else headOf X) = (0, 0, 0, 0) := if_pos he
    have he2 : (if e ≠ 0 then ([] : List UInt8) else X.drop 20) = [] := if_pos he
    rw [he1] at HHD
    rw [he2] at HPT
    clear he1 he2
    go_wp2_with (first
      | (refine wpList_store_all rfl 43 (.tmp 6) (.tmp 17) rfl w1.heap.size Z (u8s X) 43 (row_new w1 Z 43) (ZL.out.trans UX.out.symm) rfl rfl (by rw [UX.out]; exact Try.size43) (u8s_one _) ?_; intro w2 G2)
      | (have BW2 : Hid (Below wo.heap.size wo w2) := Lib.hid ((B1.out.alloc B1.out.size _).grown G2.out.2 (by simp; exact Nat.le_succ_of_le B1.out.size) (fun k e => by injection e with e; subst e; exact B1.out.size)); have HW1 : Hid (wo.heap.size < w1.heap.size) := Lib.hid (Array.getElem?_eq_some_iff.1 Q1.out).1; have Q2 : Hid (w2.heap[wo.heap.size]? = some (.cells (headV (0, 0, 0, 0)).toArray 94 (0, 0))) := Lib.hid ((G2.out.2.block _ (by simp; have := HW1.out; omega) (fun e => by injection e with e; have := HW1.out; omega)).trans ((heap_alloc_old w1 _ HW1.out).trans Q1.out)); refine wpList_store_all rfl 94 (.tmp 4) (.tmp 21) rfl wo.heap.size (headV (0, 0, 0, 0)) (headV (0, 0, 0, 0)) 94 Q2.out rfl rfl rfl Try.size94 (headV_one _) ?_; intro w3 G3)
      | fail)
    exact bodyPost_ret (ret_pair (cs := headV (0, 0, 0, 0)) rfl rfl rfl (range_block G3.out.1 0 _ (fun j v hv => by rw [Nat.zero_add]; exact hv)) Try.underlying94 rfl Try.size94) rfl ⟨none, 0, 0, by rw [HHD.out]; rfl, below_gb' BW2.out G3.out.2 (Nat.le_refl _) BW2.out.size, sl_nil, by rw [HPT.out]; exact World.ownsRow_nil _ _ _ _⟩
end Go.Proofs.Ytfegffdhlkhjbaa
