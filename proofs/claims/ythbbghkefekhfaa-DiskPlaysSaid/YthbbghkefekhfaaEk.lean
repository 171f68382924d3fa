/-
  What is proved: the walk of DiskPlays for whatever comes in, given that the chapter's examples hold. Conditions as stated.
-/
import Derived.Test.YthbbghkefekhfaaEj
namespace Go.Proofs.Ythbbghkefekhfaa
open Go.RowKit Go.Sort

def z32 : List Value := [.int .u8 0, .int .i64 0, .int .u8 0, .int .i8 0, .slice none 0 0]
theorem zero32 (w : World) : (zeroValue 32).run Try.prog w = .ok (.agg z32.toArray) w := by kernel_rfl
theorem Try.size32 : (Try.prog.info? 32).map (·.size) = some 5 := by kernel_rfl
theorem Stp.cells_one (x : Stp) : ∀ v ∈ x.cells, v.oneCell' = true := by intro v hv; simp [Stp.cells] at hv; rcases hv with rfl | rfl | rfl | rfl | rfl <;> rfl
theorem few_all {xs : List Stp} (h : fewOf xs 200 = true) : xs.length ≤ 200 ∧ ∀ x ∈ xs, x.picks.length ≤ 200 := by
  unfold fewOf at h
  rw [Bool.and_eq_true, List.all_eq_true] at h
  refine ⟨by have := of_decide_eq_true h.1; omega, fun x hx => of_decide_eq_true (h.2 x hx)⟩
theorem Duo.var {w wr w' : World} {d T r T' : Nat} {s s' : Dk} {L : List (Nat × Obj)} {o o' : Obj} (h : Duo w d T s r T' s' L wr) (G : w'.heap[wr.heap.size]? = some o' ∧ (wr.alloc o).grownBy w' (some wr.heap.size)) : Duo w d T s r T' s' ((wr.heap.size, o') :: L) w' :=
  (h.alloc o).upd (fun p hp e => by have := (Array.getElem?_eq_some_iff.1 (h.get (q := p.1) (o := p.2) hp)).1; omega) G.1 G.2

theorem Duo.read_len {w wr : World} {d T r T' : Nat} {s s' : Dk} {L : List (Nat × Obj)} (h : Duo w d T s r T' s' L wr) (x : Int) : (s.read x).1.length = 128 := by
  obtain ⟨S, S', h1, _, _, h3, _⟩ := h
  exact Dat.read_len (L := []) ⟨S, h1, h3, fun _ hp => (by cases hp)⟩ x
theorem Duo.ref_fuse {w wr : World} {d T r T' : Nat} {s s' : Dk} {L : List (Nat × Obj)} (h : Duo w d T s r T' s' L wr) : ∃ v, wr.cell? ⟨r, 3, none⟩ = some v ∧ wr.frozen? ⟨r, 3, none⟩ = false := by
  obtain ⟨S, S', h1, ⟨fz, V1, V2, sl, h2⟩, _⟩ := h
  exact ⟨_, block_cell h2.hd 3 _ rfl, free_block h2.hd 3⟩
theorem Duo.drewN {w wr : World} {d T r T' : Nat} {s s' : Dk} {L : List (Nat × Obj)} (h : Duo w d T s r T' s' L wr) (q : Nat) : Duo w d T s r T' s' L (wr.drewN q) := h.next ⟨rfl, rfl, rfl, Nat.le_refl _, fun _ _ => rfl⟩

set_option maxHeartbeats 40000000 in
set_option maxRecDepth 100000 in
theorem diskPlays_by (hW : Works) (A : Option Addr) (n c : Nat) (xs : List Stp) (w : World) (hx : Steps w A n xs) (hs : Sl A n c) :
    Calls Try.prog 3 #[.slice A n c] w fun E w' => E = .returned (.bool true) ∧ Below w.heap.size w w' := by
  have HW := Lib.hid hW
  have HX := Lib.hid hx
  have hsc := hs.2
  have HF : Hid (Calls Try.prog 8 #[.slice A n c, .int .i64 200] w fun E w' => E = .returned (.bool (fewOf xs 200)) ∧ w = w') := Lib.hid ((few_any A n c xs hx hs 200 (by omega)).mono fun _ _ ⟨a, b⟩ => ⟨a, b.symm⟩)
  clear hW hx hs
  by_cases hf : fewOf xs 200 = true
  · rw [hf] at HF
    obtain ⟨hn, hpk⟩ := few_all hf
    rw [HX.out.1] at hn
    have HPK := Lib.hid hpk
    obtain ⟨Z, hZ⟩ : ∃ b, b = zeros := ⟨_, rfl⟩
    have lZ : Z.length = 128 := by rw [hZ]; rfl
    have UZ : Hid ((u8s Z).length = 128) := Lib.hid (by rw [u8s_length, lZ])
    have hz : ∀ w, (zeroValue 33).run Try.prog w = .ok (.agg (u8s Z).toArray) w := by rw [hZ]; exact zero33
    clear hZ lZ
    have hz5 := zero32
    generalize hzz : z32 = Z5 at hz5
    have UZ5 : Hid (Z5.length = 5) := Lib.hid (by rw [← hzz]; rfl)
    clear hf hpk hzz
    go_enter Try.func3, Try.ntmps3
    go_wp2_with fail
    refine HF.out.mono ?_
    rintro E _ ⟨rfl, rfl⟩
    clear HF
    go_wp2_with fail
    refine (dat_new (Below.refl _ w)).mono ?_
    rintro E w1 ⟨d, rfl, h1, -⟩
    have D1 := Lib.hid h1
    clear h1
    go_wp2_with fail
    refine (duo_new D1.out.below D1.out).mono ?_
    rintro E w2 ⟨r, rfl, h1⟩
    have D2 : Hid (Duo w d 0 Dk.new r 0 Dk.new [] w2) := Lib.hid h1
    clear h1 D1
    go_wp2_with fail
    go_loopw [5] (fun v5 wr => ∃ k : Nat, k ≤ n ∧ v5 = .int .i64 (k : Int) ∧ ∃ s, Hid (Duo w d k s r k s [] wr)) (fun v5 _ => n - (intOf v5).toNat)
    case atStart => exact ⟨0, by omega, rfl, _, D2⟩
    case round =>
      clear D2
      obtain ⟨k, hkn, rfl, s, HD⟩ := hrel
      by_cases hkk : k < n
      · obtain ⟨b, o, rfl, hb0, hc⟩ := HX.out.2 (by omega)
        obtain ⟨x, hq⟩ : ∃ x, xs[k]? = some x := ⟨_, List.getElem?_eq_getElem (by rw [HX.out.1]; exact hkk)⟩
        obtain ⟨hcx, hI, hnum, hrd, hsl⟩ := hc k x hq
        have HXC : Hid (wr.rangeAt b (o + k * 5) x.cells) := Lib.hid (fun i v hv => (HD.out.below.cell (p := ⟨b, o + k * 5 + i, none⟩) hb0).trans (hcx i v hv))
        have HIX := Lib.hid hI
        have HNUM := Lib.hid hnum
        have HSL := Lib.hid hsl
        have HRD : Hid (∀ w', Below w.heap.size w w' → Rd (fun b => b < w.heap.size) w' x.adr x.picks.length x.picks) := Lib.hid (fun w' hb => ⟨hrd.1, fun hp => let ⟨b, o, e, h1, _, h3⟩ := hrd.2 hp; ⟨b, o, e, Nat.lt_of_lt_of_le h1 hb.size, h1, fun j u hu => (hb.cell (p := ⟨b, o + j, none⟩) h1).trans (h3 j u hu)⟩⟩)
        obtain ⟨C5, hC5⟩ : ∃ C5, C5 = x.cells := ⟨_, rfl⟩
        rw [← hC5] at HXC
        have HC5 := Lib.hid hC5
        have UC5 : Hid (C5.length = 5) := Lib.hid (by rw [hC5]; rfl)
        have OC5 : Hid (∀ v ∈ C5, v.oneCell' = true) := Lib.hid (by rw [hC5]; exact x.cells_one)
        have hk6 : x.todo.toNat % 6 = 0 ∨ x.todo.toNat % 6 = 1 ∨ x.todo.toNat % 6 = 2 ∨ x.todo.toNat % 6 = 3 ∨ x.todo.toNat % 6 = 4 ∨ x.todo.toNat % 6 = 5 := by omega
        clear hc hq hcx hI hnum hrd hsl hC5
        rcases hk6 with hm | hm | hm | hm | hm | hm
        · as_aux_lemma =>
            have hm6 : ((x.todo.toNat : Int)).tmod 6 = 0 := by rw [Int.tmod_eq_emod_of_nonneg (by omega)]; omega
            have hm7 : ((x.todo.toNat : Int)) % 6 = 0 := by omega
            clear hm
            go_wp2_with (first
              | (refine wpList_load_mid rfl 32 (.tmp 33) rfl b (o + k * 5) rfl C5 _ HXC.out Try.underlying32 rfl (by rw [UC5.out]; exact Try.size32) ?_)
              | (refine wpList_store_all rfl 32 (.tmp 6) (.tmp 34) rfl wr.heap.size Z5 C5 32 (row_new wr Z5 32) (UZ5.out.trans UC5.out.symm) rfl rfl (by rw [UC5.out]; exact Try.size32) OC5.out ?_; intro w2 G2; have D2 := Lib.hid (HD.out.var G2.out); have q0 : w2.cell? ⟨wr.heap.size, 0, none⟩ = some (.int .u8 (x.todo.toNat : Int)) := block_cell G2.out.1 0 _ (by rw [HC5.out]; rfl); have q1 : w2.cell? ⟨wr.heap.size, 1, none⟩ = some (.int .i64 x.sec) := block_cell G2.out.1 1 _ (by rw [HC5.out]; rfl)))
            obtain ⟨X, hX⟩ : ∃ X, X = (s.read x.sec).1 := ⟨_, rfl⟩
            obtain ⟨e, he⟩ : ∃ e, e = (s.read x.sec).2 := ⟨_, rfl⟩
            have hXl : X.length = 128 := by rw [hX]; exact HD.out.read_len _
            have UX : Hid ((u8s X).length = 128) := Lib.hid (by rw [u8s_length, hXl])
            have HXE : Hid (s.read x.sec = (X, e)) := Lib.hid (Prod.ext hX.symm he.symm)
            have hge := eq33_same X hXl
            have hgd := Try.guard33
            clear hX he hXl q0 hm6 hm7
            refine (duo_readD D2.out x.sec HIX.out X e HXE.out).mono ?_
            rintro E w6 ⟨rfl, h6, -⟩
            have D6 := Lib.hid h6
            clear h6 q1
            go_wp2_with (first
              | (refine wpList_store_all rfl 33 (.tmp 8) (.tmp 54) rfl w6.heap.size (u8s Z) (u8s X) 33 (row_new w6 (u8s Z) 33) (UZ.out.trans UX.out.symm) rfl rfl (by rw [UX.out]; exact Try.size33) (u8s_one _) ?_; intro w7 G7; have D7 := Lib.hid (D6.out.var G7.out); have q1 : w7.cell? ⟨wr.heap.size, 1, none⟩ = some (.int .i64 x.sec) := block_cell (D7.out.get (q := wr.heap.size) (o := .cells C5.toArray 32) (by simp)) 1 _ (by rw [HC5.out]; rfl)))
            refine (duo_readR D7.out (by omega) x.sec X e HXE.out).mono ?_
            rintro E w8 ⟨rfl, h8, -⟩
            have D8 := Lib.hid h8
            clear h8 q1 D6
            go_wp2_with (first
              | (refine wpList_store_all rfl 33 (.tmp 10) (.tmp 61) rfl w8.heap.size (u8s Z) (u8s X) 33 (row_new w8 (u8s Z) 33) (UZ.out.trans UX.out.symm) rfl rfl (by rw [UX.out]; exact Try.size33) (u8s_one _) ?_; intro w4 G9; have D9 := Lib.hid (D8.out.var G9.out))
              | (refine wpList_load_mid rfl 33 (.tmp 8) rfl w6.heap.size 0 rfl (u8s X) _ (range_block (D9.out.get (q := w6.heap.size) (o := .cells (u8s X).toArray 33) (by simp)) 0 _ (fun j v hv => by rw [Nat.zero_add]; exact hv)) Try.underlying33 rfl (by rw [UX.out]; exact Try.size33) ?_)
              | (refine wpList_load_mid rfl 33 (.tmp 10) rfl w8.heap.size 0 rfl (u8s X) _ (range_block (D9.out.get (q := w8.heap.size) (o := .cells (u8s X).toArray 33) (by simp)) 0 _ (fun j v hv => by rw [Nat.zero_add]; exact hv)) Try.underlying33 rfl (by rw [UX.out]; exact Try.size33) ?_))
            have D4 := Lib.hid D9.out.drop.drop
            clear D7 D8 D9 HXE UX hge hgd
            obtain ⟨s1, hs1⟩ : ∃ s1, s1 = s := ⟨_, rfl⟩
            rw [← hs1] at D4
            clear hs1
            have D4' := Lib.hid (D4.out.drop.more (U := k + 1) (U' := k + 1) (by omega) (by omega))
            obtain ⟨c2r, A1, c1', c1r⟩ := D4.out.ref_cells
            have hbb : ((!s1.off) == s1.off) = false := by cases s1.off <;> rfl
            go_quiet (first | (go_at_call 24; exact (duo_power (D4.out.drewN _)).mono fun _ _ h => ⟨h.1, _, h.2.symm⟩) | (go_at_call 25; exact (duo_loose (D4.out.drewN _)).mono fun _ _ h => ⟨h.1, _, h.2.symm⟩))
            go_wp2_with fail
            all_goals (try exact ⟨⟨k + 1, by omega, by go_num, s1, Lib.hid (D4'.out.drewN nq)⟩, by simp [intOf]; omega⟩)
            all_goals
              have D5 := Lib.hid (D4'.out.drewN nq)
              clear D4 D4' c2r c1r hbb
              generalize w4.drewN nq = w5 at D5 ⊢
              go_loopw [12] (fun v12 wr2 => ∃ j : Nat, j ≤ k + 1 ∧ v12 = .int .i64 (j : Int) ∧ Hid (Duo w d (k + 1) s1 r (k + 1) s1 [] wr2)) (fun v12 _ => k + 1 - (intOf v12).toNat)
              case atStart => exact ⟨0, by omega, rfl, D5⟩
              case round =>
                clear D5
                obtain ⟨j, hj, rfl, DJ⟩ := hrel
                by_cases hjk : j ≤ k
                · obtain ⟨b', o', e', hb', hc'⟩ := HX.out.2 (by omega)
                  injection e' with e'
                  injection e' with e1 e2
                  subst e1 e2
                  obtain ⟨y, hy⟩ : ∃ y, xs[j]? = some y := ⟨_, List.getElem?_eq_getElem (by rw [HX.out.1]; omega)⟩
                  obtain ⟨hcy, hIy, -⟩ := hc' j y hy
                  have HCY : Hid (∀ W, Below w.heap.size w W → W.cell? ⟨b, o + j * 5 + 1, none⟩ = some (.int .i64 y.sec)) := Lib.hid (fun W hb => (hb.cell (p := ⟨b, o + j * 5 + 1, none⟩) hb').trans (hcy 1 _ rfl))
                  have HIY := Lib.hid hIy
                  have cy := HCY.out _ DJ.out.below
                  obtain ⟨X, hX⟩ : ∃ X, X = (s1.read y.sec).1 := ⟨_, rfl⟩
                  obtain ⟨e, he⟩ : ∃ e, e = (s1.read y.sec).2 := ⟨_, rfl⟩
                  have hXl : X.length = 128 := by rw [hX]; exact DJ.out.read_len _
                  have UX : Hid ((u8s X).length = 128) := Lib.hid (by rw [u8s_length, hXl])
                  have HXE : Hid (s1.read y.sec = (X, e)) := Lib.hid (Prod.ext hX.symm he.symm)
                  have hge := eq33_same X hXl
                  have hgd := Try.guard33
                  clear hc' hy hcy hIy hX he hXl
                  go_wp2_with fail
                  refine (duo_readD DJ.out y.sec HIY.out X e HXE.out).mono ?_
                  rintro E w6 ⟨rfl, h6, -⟩
                  have D6 := Lib.hid h6
                  clear h6 cy
                  go_wp2_with (first
                    | (refine wpList_store_all rfl 33 (.tmp 13) (.tmp 159) rfl w6.heap.size (u8s Z) (u8s X) 33 (row_new w6 (u8s Z) 33) (UZ.out.trans UX.out.symm) rfl rfl (by rw [UX.out]; exact Try.size33) (u8s_one _) ?_; intro w7 G7; have D7 := Lib.hid (D6.out.var G7.out); have cy := HCY.out _ D7.out.below))
                  refine (duo_readR D7.out (by omega) y.sec X e HXE.out).mono ?_
                  rintro E w8 ⟨rfl, h8, -⟩
                  have D8 := Lib.hid h8
                  clear h8 cy
                  go_wp2_with (first
                    | (refine wpList_store_all rfl 33 (.tmp 15) (.tmp 169) rfl w8.heap.size (u8s Z) (u8s X) 33 (row_new w8 (u8s Z) 33) (UZ.out.trans UX.out.symm) rfl rfl (by rw [UX.out]; exact Try.size33) (u8s_one _) ?_; intro w9 G9; have D9 := Lib.hid (D8.out.var G9.out))
                    | (refine wpList_load_mid rfl 33 (.tmp 13) rfl w6.heap.size 0 rfl (u8s X) _ (range_block (D9.out.get (q := w6.heap.size) (o := .cells (u8s X).toArray 33) (by simp)) 0 _ (fun j v hv => by rw [Nat.zero_add]; exact hv)) Try.underlying33 rfl (by rw [UX.out]; exact Try.size33) ?_)
                    | (refine wpList_load_mid rfl 33 (.tmp 15) rfl w8.heap.size 0 rfl (u8s X) _ (range_block (D9.out.get (q := w8.heap.size) (o := .cells (u8s X).toArray 33) (by simp)) 0 _ (fun j v hv => by rw [Nat.zero_add]; exact hv)) Try.underlying33 rfl (by rw [UX.out]; exact Try.size33) ?_))
                  go_roundw
                  case measure => simp [intOf]; omega
                  case rel => exact ⟨j + 1, by omega, by go_num, Lib.hid D9.out.drop.drop⟩
                · obtain rfl : j = k + 1 := by omega
                  go_wp2_with fail
                  go_roundw
                  case measure => simp [intOf]; omega
                  case rel => exact ⟨k + 1, by omega, by go_num, s1, DJ⟩
        · as_aux_lemma =>
            have hm6 : ((x.todo.toNat : Int)).tmod 6 = 1 := by rw [Int.tmod_eq_emod_of_nonneg (by omega)]; omega
            have hm7 : ((x.todo.toNat : Int)) % 6 = 1 := by omega
            clear hm
            go_wp2_with (first
              | (refine wpList_load_mid rfl 32 (.tmp 33) rfl b (o + k * 5) rfl C5 _ HXC.out Try.underlying32 rfl (by rw [UC5.out]; exact Try.size32) ?_)
              | (refine wpList_store_all rfl 32 (.tmp 6) (.tmp 34) rfl wr.heap.size Z5 C5 32 (row_new wr Z5 32) (UZ5.out.trans UC5.out.symm) rfl rfl (by rw [UC5.out]; exact Try.size32) OC5.out ?_; intro w2 G2; have D2 := Lib.hid (HD.out.var G2.out); have q0 : w2.cell? ⟨wr.heap.size, 0, none⟩ = some (.int .u8 (x.todo.toNat : Int)) := block_cell G2.out.1 0 _ (by rw [HC5.out]; rfl); have q1 : w2.cell? ⟨wr.heap.size, 1, none⟩ = some (.int .i64 x.sec) := block_cell G2.out.1 1 _ (by rw [HC5.out]; rfl); have q2 : w2.cell? ⟨wr.heap.size, 2, none⟩ = some (.int .u8 (x.byte.toNat : Int)) := block_cell G2.out.1 2 _ (by rw [HC5.out]; rfl)))
            have BU : Hid (∀ wr, Calls Try.prog 15 #[.int .u8 (x.byte.toNat : Int)] wr fun E w' => E = .returned (.agg (u8s (secOf x.byte)).toArray) ∧ Below wr.heap.size wr w') := Lib.hid (bytes_any x.byte)
            have LS := Lib.hid (secOf_length x.byte)
            generalize secOf x.byte = sv at BU LS
            obtain ⟨e0, he0⟩ : ∃ e0, e0 = (s.write x.sec sv).2 := ⟨_, rfl⟩
            have HE := Lib.hid he0
            clear he0 q1 q2
            have HB6 : Hid (∀ {T T' : Nat} {s2 s3 : Dk} (W : World), Duo w d T s2 r T' s3 [(wr.heap.size, Obj.cells C5.toArray 32)] W → W.heap[wr.heap.size]? = some (.cells C5.toArray 32 (0, 0))) := Lib.hid (fun W h => h.get (q := wr.heap.size) (o := .cells C5.toArray 32) (by simp))
            try simp only [Act.put, List.setIfInBounds_toArray, List.set_cons_zero, List.set_cons_succ]
            refine wp_region_any (by kernel_rfl) ?_
            change wpAny _ _ _ _ _ _ _ (w2.drewN 1)
            have DD := Lib.hid (D2.out.drewN 1)
            clear D2 HD q0 hm6 hm7
            generalize w2.drewN 1 = wD at DD ⊢
            refine wpAny_of_held (S := fun W => W.heap[wr.heap.size]? = some (.cells C5.toArray 32 (0, 0))) _ _ _ _ ?_
            refine wpAnyH_take (i := 0) (oi := { dst := some 73, op := Op.move (Operand.tmp 3), type := 25, pos := "law.go:82", after := #[], guard := none }) (v := .pointer (some ⟨d, 0, none⟩)) rfl (by kernel_rfl) (by kernel_rfl) (by kernel_rfl) (fun _ _ _ h => h) (Or.inl ⟨by kernel_rfl, fun W hSW => by go_simp⟩) (HB6.out _ DD.out) ?_
            simp only [Act.put, List.setIfInBounds_toArray, List.set_cons_zero, List.set_cons_succ]
            refine wpAnyH_take (i := 1) (oi := { dst := some 74, op := Op.fieldAddr 32 (Operand.tmp 6) 1, type := 0, pos := "law.go:82", after := #[], guard := none }) (v := (.pointer (some ⟨wr.heap.size, 1, none⟩))) rfl (by kernel_rfl) (by kernel_rfl) (by kernel_rfl) (fun _ _ _ h => h) (Or.inl ⟨by kernel_rfl, fun W hSW => by go_simp⟩) (HB6.out _ DD.out) ?_
            simp only [Act.put, List.setIfInBounds_toArray, List.set_cons_zero, List.set_cons_succ]
            refine wpAnyH_take (i := 2) (oi := { dst := some 75, op := Op.load 3 (Operand.tmp 74), type := 3, pos := "law.go:82", after := #[{ on := 1, ground := Ground.data }], guard := none }) (v := .int .i64 x.sec) rfl (by kernel_rfl) (by kernel_rfl) (by kernel_rfl) (fun _ _ _ h => h) (Or.inl ⟨by kernel_rfl, fun W hSW => by have hcv : W.cell? ⟨wr.heap.size, 1, none⟩ = some (.int .i64 x.sec) := block_cell hSW 1 _ (by rw [HC5.out]; rfl); go_simp⟩) (HB6.out _ DD.out) ?_
            simp only [Act.put, List.setIfInBounds_toArray, List.set_cons_zero, List.set_cons_succ]
            refine wpAnyH_take (i := 3) (oi := { dst := some 76, op := Op.fieldAddr 32 (Operand.tmp 6) 2, type := 0, pos := "law.go:82", after := #[], guard := none }) (v := (.pointer (some ⟨wr.heap.size, 2, none⟩))) rfl (by kernel_rfl) (by kernel_rfl) (by kernel_rfl) (fun _ _ _ h => h) (Or.inl ⟨by kernel_rfl, fun W hSW => by go_simp⟩) (HB6.out _ DD.out) ?_
            simp only [Act.put, List.setIfInBounds_toArray, List.set_cons_zero, List.set_cons_succ]
            refine wpAnyH_take (i := 4) (oi := { dst := some 77, op := Op.load 5 (Operand.tmp 76), type := 5, pos := "law.go:82", after := #[{ on := 3, ground := Ground.data }], guard := none }) (v := .int .u8 (x.byte.toNat : Int)) rfl (by kernel_rfl) (by kernel_rfl) (by kernel_rfl) (fun _ _ _ h => h) (Or.inl ⟨by kernel_rfl, fun W hSW => by have hcv : W.cell? ⟨wr.heap.size, 2, none⟩ = some (.int .u8 (x.byte.toNat : Int)) := block_cell hSW 2 _ (by rw [HC5.out]; rfl); go_simp⟩) (HB6.out _ DD.out) ?_
            simp only [Act.put, List.setIfInBounds_toArray, List.set_cons_zero, List.set_cons_succ]
            refine wpAnyH_take (i := 7) (oi := { dst := some 80, op := Op.move (Operand.tmp 4), type := 27, pos := "law.go:82", after := #[], guard := none }) (v := .pointer (some ⟨r, 0, none⟩)) rfl (by kernel_rfl) (by kernel_rfl) (by kernel_rfl) (fun _ _ _ h => h) (Or.inl ⟨by kernel_rfl, fun W hSW => by go_simp⟩) (HB6.out _ DD.out) ?_
            simp only [Act.put, List.setIfInBounds_toArray, List.set_cons_zero, List.set_cons_succ]
            refine wpAnyH_take (i := 8) (oi := { dst := some 81, op := Op.fieldAddr 32 (Operand.tmp 6) 1, type := 0, pos := "law.go:82", after := #[], guard := none }) (v := (.pointer (some ⟨wr.heap.size, 1, none⟩))) rfl (by kernel_rfl) (by kernel_rfl) (by kernel_rfl) (fun _ _ _ h => h) (Or.inl ⟨by kernel_rfl, fun W hSW => by go_simp⟩) (HB6.out _ DD.out) ?_
            simp only [Act.put, List.setIfInBounds_toArray, List.set_cons_zero, List.set_cons_succ]
            refine wpAnyH_take (i := 9) (oi := { dst := some 82, op := Op.load 3 (Operand.tmp 81), type := 3, pos := "law.go:82", after := #[{ on := 8, ground := Ground.data }], guard := none }) (v := .int .i64 x.sec) rfl (by kernel_rfl) (by kernel_rfl) (by kernel_rfl) (fun _ _ _ h => h) (Or.inl ⟨by kernel_rfl, fun W hSW => by have hcv : W.cell? ⟨wr.heap.size, 1, none⟩ = some (.int .i64 x.sec) := block_cell hSW 1 _ (by rw [HC5.out]; rfl); go_simp⟩) (HB6.out _ DD.out) ?_
            simp only [Act.put, List.setIfInBounds_toArray, List.set_cons_zero, List.set_cons_succ]
            refine wpAnyH_take (i := 10) (oi := { dst := some 83, op := Op.fieldAddr 32 (Operand.tmp 6) 2, type := 0, pos := "law.go:82", after := #[], guard := none }) (v := (.pointer (some ⟨wr.heap.size, 2, none⟩))) rfl (by kernel_rfl) (by kernel_rfl) (by kernel_rfl) (fun _ _ _ h => h) (Or.inl ⟨by kernel_rfl, fun W hSW => by go_simp⟩) (HB6.out _ DD.out) ?_
            simp only [Act.put, List.setIfInBounds_toArray, List.set_cons_zero, List.set_cons_succ]
            refine wpAnyH_take (i := 11) (oi := { dst := some 84, op := Op.load 5 (Operand.tmp 83), type := 5, pos := "law.go:82", after := #[{ on := 10, ground := Ground.data }], guard := none }) (v := .int .u8 (x.byte.toNat : Int)) rfl (by kernel_rfl) (by kernel_rfl) (by kernel_rfl) (fun _ _ _ h => h) (Or.inl ⟨by kernel_rfl, fun W hSW => by have hcv : W.cell? ⟨wr.heap.size, 2, none⟩ = some (.int .u8 (x.byte.toNat : Int)) := block_cell hSW 2 _ (by rw [HC5.out]; rfl); go_simp⟩) (HB6.out _ DD.out) ?_
            simp only [Act.put, List.setIfInBounds_toArray, List.set_cons_zero, List.set_cons_succ]
            refine wpAnyH_ready (rs := [5]) (by kernel_rfl) (by simp) ?_
            refine AllReadyH.cons (o := { dst := some 78, op := Op.call { callee := Callee.value (Operand.func 15), args := #[Operand.tmp 77], argTypes := #[5] }, type := 33, pos := "law.go:82", after := #[{ on := 4, ground := Ground.data }], guard := none }) rfl (fun K hK => ?_) AllReadyH.nil
            go_simp
            go_at_call 15
            refine (BU.out _).mono ?_
            rintro E wa ⟨rfl, hb⟩
            have Da := Lib.hid (DD.out.next hb)
            clear hb DD
            refine hK.out _ _ (HB6.out _ Da.out) (fun _ => ?_)
            clear hK K
            refine wpAnyH_ready (rs := [6]) (by kernel_rfl) (by simp) ?_
            refine AllReadyH.cons (o := { dst := some 79, op := Op.call { callee := Callee.value (Operand.func 14), args := #[Operand.tmp 73, Operand.tmp 75, Operand.tmp 78], argTypes := #[25, 3, 33] }, type := 34, pos := "law.go:82", after := #[{ on := 0, ground := Ground.data }, { on := 2, ground := Ground.data }, { on := 5, ground := Ground.data }, { on := 5, ground := Ground.chain }], guard := none }) rfl (fun K hK => ?_) AllReadyH.nil
            go_simp
            go_at_call 14
            refine (duo_writeD Da.out x.sec sv LS.out (by omega)).mono ?_
            rw [← HE.out]
            rintro E wb ⟨rfl, hb⟩
            have Db := Lib.hid hb
            clear hb Da
            refine hK.out _ _ (HB6.out _ Db.out) (fun _ => ?_)
            clear hK K
            refine wpAnyH_ready (rs := [12]) (by kernel_rfl) (by simp) ?_
            refine AllReadyH.cons (o := { dst := some 85, op := Op.call { callee := Callee.value (Operand.func 15), args := #[Operand.tmp 84], argTypes := #[5] }, type := 33, pos := "law.go:82", after := #[{ on := 11, ground := Ground.data }, { on := 6, ground := Ground.chain }], guard := none }) rfl (fun K hK => ?_) AllReadyH.nil
            go_simp
            go_at_call 15
            refine (BU.out _).mono ?_
            rintro E wc ⟨rfl, hb⟩
            have Dc := Lib.hid (Db.out.next hb)
            clear hb Db
            refine hK.out _ _ (HB6.out _ Dc.out) (fun _ => ?_)
            clear hK K
            refine wpAnyH_ready (rs := [13]) (by kernel_rfl) (by simp) ?_
            refine AllReadyH.cons (o := { dst := some 86, op := Op.call { callee := Callee.value (Operand.func 16), args := #[Operand.tmp 80, Operand.tmp 82, Operand.tmp 85], argTypes := #[27, 3, 33] }, type := 34, pos := "law.go:82", after := #[{ on := 7, ground := Ground.data }, { on := 9, ground := Ground.data }, { on := 12, ground := Ground.data }, { on := 12, ground := Ground.chain }], guard := none }) rfl (fun K hK => ?_) AllReadyH.nil
            go_simp
            go_at_call 16
            refine (duo_writeR Dc.out x.sec sv LS.out (by omega)).mono ?_
            rw [← HE.out]
            rintro E w4 ⟨rfl, hb⟩
            have D4 := Lib.hid hb
            clear hb Dc
            refine hK.out _ _ (HB6.out _ D4.out) (fun _ => ?_)
            clear hK K
            refine wpAnyH_take (i := 14) (oi := { dst := some 87, op := Op.binOp BinOp.eql 34 (Operand.tmp 79) (Operand.tmp 86) 34, type := 4, pos := "law.go:82", after := #[{ on := 6, ground := Ground.data }, { on := 13, ground := Ground.data }], guard := none }) (v := .bool true) rfl (by kernel_rfl) (by kernel_rfl) (by kernel_rfl) (fun _ _ _ h => h) (Or.inl ⟨by kernel_rfl, fun W hSW => by go_simp⟩) (HB6.out _ D4.out) ?_
            simp only [Act.put, List.setIfInBounds_toArray, List.set_cons_zero, List.set_cons_succ]
            refine wpAnyH_take (i := 15) (oi := { dst := some 7, op := Op.assign (Operand.tmp 87), type := 4, pos := "law.go:82", after := #[{ on := 14, ground := Ground.data }, { on := 13, ground := Ground.chain }, { on := 0, ground := Ground.phase }, { on := 1, ground := Ground.phase }, { on := 2, ground := Ground.phase }, { on := 3, ground := Ground.phase }, { on := 4, ground := Ground.phase }, { on := 5, ground := Ground.phase }, { on := 6, ground := Ground.phase }, { on := 7, ground := Ground.phase }, { on := 8, ground := Ground.phase }, { on := 9, ground := Ground.phase }, { on := 10, ground := Ground.phase }, { on := 11, ground := Ground.phase }, { on := 12, ground := Ground.phase }, { on := 13, ground := Ground.phase }, { on := 14, ground := Ground.phase }], guard := none }) (v := .bool true) rfl (by kernel_rfl) (by kernel_rfl) (by kernel_rfl) (fun _ _ _ h => h) (Or.inl ⟨by kernel_rfl, fun W hSW => by go_simp⟩) (HB6.out _ D4.out) ?_
            simp only [Act.put, List.setIfInBounds_toArray, List.set_cons_zero, List.set_cons_succ]
            refine wpAnyH_done (by kernel_rfl) ?_ _
            clear HB6 BU
            go_wp2_with fail
            obtain ⟨s1, hs1⟩ : ∃ s1, s1 = (s.write x.sec sv).1 := ⟨_, rfl⟩
            rw [← hs1] at D4
            clear hs1
            have D4' := Lib.hid (D4.out.drop.more (U := k + 1) (U' := k + 1) (by omega) (by omega))
            obtain ⟨c2r, A1, c1', c1r⟩ := D4.out.ref_cells
            have hbb : ((!s1.off) == s1.off) = false := by cases s1.off <;> rfl
            go_quiet (first | (go_at_call 24; exact (duo_power (D4.out.drewN _)).mono fun _ _ h => ⟨h.1, _, h.2.symm⟩) | (go_at_call 25; exact (duo_loose (D4.out.drewN _)).mono fun _ _ h => ⟨h.1, _, h.2.symm⟩))
            go_wp2_with fail
            all_goals (try exact ⟨⟨k + 1, by omega, by go_num, s1, Lib.hid (D4'.out.drewN nq)⟩, by simp [intOf]; omega⟩)
            all_goals
              have D5 := Lib.hid (D4'.out.drewN nq)
              clear D4 D4' c2r c1r hbb
              generalize w4.drewN nq = w5 at D5 ⊢
              go_loopw [12] (fun v12 wr2 => ∃ j : Nat, j ≤ k + 1 ∧ v12 = .int .i64 (j : Int) ∧ Hid (Duo w d (k + 1) s1 r (k + 1) s1 [] wr2)) (fun v12 _ => k + 1 - (intOf v12).toNat)
              case atStart => exact ⟨0, by omega, rfl, D5⟩
              case round =>
                clear D5
                obtain ⟨j, hj, rfl, DJ⟩ := hrel
                by_cases hjk : j ≤ k
                · obtain ⟨b', o', e', hb', hc'⟩ := HX.out.2 (by omega)
                  injection e' with e'
                  injection e' with e1 e2
                  subst e1 e2
                  obtain ⟨y, hy⟩ : ∃ y, xs[j]? = some y := ⟨_, List.getElem?_eq_getElem (by rw [HX.out.1]; omega)⟩
                  obtain ⟨hcy, hIy, -⟩ := hc' j y hy
                  have HCY : Hid (∀ W, Below w.heap.size w W → W.cell? ⟨b, o + j * 5 + 1, none⟩ = some (.int .i64 y.sec)) := Lib.hid (fun W hb => (hb.cell (p := ⟨b, o + j * 5 + 1, none⟩) hb').trans (hcy 1 _ rfl))
                  have HIY := Lib.hid hIy
                  have cy := HCY.out _ DJ.out.below
                  obtain ⟨X, hX⟩ : ∃ X, X = (s1.read y.sec).1 := ⟨_, rfl⟩
                  obtain ⟨e, he⟩ : ∃ e, e = (s1.read y.sec).2 := ⟨_, rfl⟩
                  have hXl : X.length = 128 := by rw [hX]; exact DJ.out.read_len _
                  have UX : Hid ((u8s X).length = 128) := Lib.hid (by rw [u8s_length, hXl])
                  have HXE : Hid (s1.read y.sec = (X, e)) := Lib.hid (Prod.ext hX.symm he.symm)
                  have hge := eq33_same X hXl
                  have hgd := Try.guard33
                  clear hc' hy hcy hIy hX he hXl
                  go_wp2_with fail
                  refine (duo_readD DJ.out y.sec HIY.out X e HXE.out).mono ?_
                  rintro E w6 ⟨rfl, h6, -⟩
                  have D6 := Lib.hid h6
                  clear h6 cy
                  go_wp2_with (first
                    | (refine wpList_store_all rfl 33 (.tmp 13) (.tmp 159) rfl w6.heap.size (u8s Z) (u8s X) 33 (row_new w6 (u8s Z) 33) (UZ.out.trans UX.out.symm) rfl rfl (by rw [UX.out]; exact Try.size33) (u8s_one _) ?_; intro w7 G7; have D7 := Lib.hid (D6.out.var G7.out); have cy := HCY.out _ D7.out.below))
                  refine (duo_readR D7.out (by omega) y.sec X e HXE.out).mono ?_
                  rintro E w8 ⟨rfl, h8, -⟩
                  have D8 := Lib.hid h8
                  clear h8 cy
                  go_wp2_with (first
                    | (refine wpList_store_all rfl 33 (.tmp 15) (.tmp 169) rfl w8.heap.size (u8s Z) (u8s X) 33 (row_new w8 (u8s Z) 33) (UZ.out.trans UX.out.symm) rfl rfl (by rw [UX.out]; exact Try.size33) (u8s_one _) ?_; intro w9 G9; have D9 := Lib.hid (D8.out.var G9.out))
                    | (refine wpList_load_mid rfl 33 (.tmp 13) rfl w6.heap.size 0 rfl (u8s X) _ (range_block (D9.out.get (q := w6.heap.size) (o := .cells (u8s X).toArray 33) (by simp)) 0 _ (fun j v hv => by rw [Nat.zero_add]; exact hv)) Try.underlying33 rfl (by rw [UX.out]; exact Try.size33) ?_)
                    | (refine wpList_load_mid rfl 33 (.tmp 15) rfl w8.heap.size 0 rfl (u8s X) _ (range_block (D9.out.get (q := w8.heap.size) (o := .cells (u8s X).toArray 33) (by simp)) 0 _ (fun j v hv => by rw [Nat.zero_add]; exact hv)) Try.underlying33 rfl (by rw [UX.out]; exact Try.size33) ?_))
                  go_roundw
                  case measure => simp [intOf]; omega
                  case rel => exact ⟨j + 1, by omega, by go_num, Lib.hid D9.out.drop.drop⟩
                · obtain rfl : j = k + 1 := by omega
                  go_wp2_with fail
                  go_roundw
                  case measure => simp [intOf]; omega
                  case rel => exact ⟨k + 1, by omega, by go_num, s1, DJ⟩
        · as_aux_lemma =>
            have hm6 : ((x.todo.toNat : Int)).tmod 6 = 2 := by rw [Int.tmod_eq_emod_of_nonneg (by omega)]; omega
            have hm7 : ((x.todo.toNat : Int)) % 6 = 2 := by omega
            clear hm
            go_wp2_with (first
              | (refine wpList_load_mid rfl 32 (.tmp 33) rfl b (o + k * 5) rfl C5 _ HXC.out Try.underlying32 rfl (by rw [UC5.out]; exact Try.size32) ?_)
              | (refine wpList_store_all rfl 32 (.tmp 6) (.tmp 34) rfl wr.heap.size Z5 C5 32 (row_new wr Z5 32) (UZ5.out.trans UC5.out.symm) rfl rfl (by rw [UC5.out]; exact Try.size32) OC5.out ?_; intro w2 G2; have D2 := Lib.hid (HD.out.var G2.out); have q0 : w2.cell? ⟨wr.heap.size, 0, none⟩ = some (.int .u8 (x.todo.toNat : Int)) := block_cell G2.out.1 0 _ (by rw [HC5.out]; rfl)))
            have HB8 := Lib.hid (duo_syncD D2.out (by omega))
            clear q0 hm6 hm7 HD
            refine HB8.out.mono ?_
            rintro E w3 ⟨rfl, h3⟩
            have D3 := Lib.hid h3
            clear h3 HB8
            go_wp2_with fail
            refine (duo_syncR D3.out (by omega)).mono ?_
            rintro E w4 ⟨rfl, h4⟩
            have D4 := Lib.hid h4
            clear h4 D3
            go_wp2_with fail
            obtain ⟨s1, hs1⟩ : ∃ s1, s1 = s.sync.1 := ⟨_, rfl⟩
            rw [← hs1] at D4
            clear hs1
            have D4' := Lib.hid (D4.out.drop.more (U := k + 1) (U' := k + 1) (by omega) (by omega))
            obtain ⟨c2r, A1, c1', c1r⟩ := D4.out.ref_cells
            have hbb : ((!s1.off) == s1.off) = false := by cases s1.off <;> rfl
            go_quiet (first | (go_at_call 24; exact (duo_power (D4.out.drewN _)).mono fun _ _ h => ⟨h.1, _, h.2.symm⟩) | (go_at_call 25; exact (duo_loose (D4.out.drewN _)).mono fun _ _ h => ⟨h.1, _, h.2.symm⟩))
            go_wp2_with fail
            all_goals (try exact ⟨⟨k + 1, by omega, by go_num, s1, Lib.hid (D4'.out.drewN nq)⟩, by simp [intOf]; omega⟩)
            all_goals
              have D5 := Lib.hid (D4'.out.drewN nq)
              clear D4 D4' c2r c1r hbb
              generalize w4.drewN nq = w5 at D5 ⊢
              go_loopw [12] (fun v12 wr2 => ∃ j : Nat, j ≤ k + 1 ∧ v12 = .int .i64 (j : Int) ∧ Hid (Duo w d (k + 1) s1 r (k + 1) s1 [] wr2)) (fun v12 _ => k + 1 - (intOf v12).toNat)
              case atStart => exact ⟨0, by omega, rfl, D5⟩
              case round =>
                clear D5
                obtain ⟨j, hj, rfl, DJ⟩ := hrel
                by_cases hjk : j ≤ k
                · obtain ⟨b', o', e', hb', hc'⟩ := HX.out.2 (by omega)
                  injection e' with e'
                  injection e' with e1 e2
                  subst e1 e2
                  obtain ⟨y, hy⟩ : ∃ y, xs[j]? = some y := ⟨_, List.getElem?_eq_getElem (by rw [HX.out.1]; omega)⟩
                  obtain ⟨hcy, hIy, -⟩ := hc' j y hy
                  have HCY : Hid (∀ W, Below w.heap.size w W → W.cell? ⟨b, o + j * 5 + 1, none⟩ = some (.int .i64 y.sec)) := Lib.hid (fun W hb => (hb.cell (p := ⟨b, o + j * 5 + 1, none⟩) hb').trans (hcy 1 _ rfl))
                  have HIY := Lib.hid hIy
                  have cy := HCY.out _ DJ.out.below
                  obtain ⟨X, hX⟩ : ∃ X, X = (s1.read y.sec).1 := ⟨_, rfl⟩
                  obtain ⟨e, he⟩ : ∃ e, e = (s1.read y.sec).2 := ⟨_, rfl⟩
                  have hXl : X.length = 128 := by rw [hX]; exact DJ.out.read_len _
                  have UX : Hid ((u8s X).length = 128) := Lib.hid (by rw [u8s_length, hXl])
                  have HXE : Hid (s1.read y.sec = (X, e)) := Lib.hid (Prod.ext hX.symm he.symm)
                  have hge := eq33_same X hXl
                  have hgd := Try.guard33
                  clear hc' hy hcy hIy hX he hXl
                  go_wp2_with fail
                  refine (duo_readD DJ.out y.sec HIY.out X e HXE.out).mono ?_
                  rintro E w6 ⟨rfl, h6, -⟩
                  have D6 := Lib.hid h6
                  clear h6 cy
                  go_wp2_with (first
                    | (refine wpList_store_all rfl 33 (.tmp 13) (.tmp 159) rfl w6.heap.size (u8s Z) (u8s X) 33 (row_new w6 (u8s Z) 33) (UZ.out.trans UX.out.symm) rfl rfl (by rw [UX.out]; exact Try.size33) (u8s_one _) ?_; intro w7 G7; have D7 := Lib.hid (D6.out.var G7.out); have cy := HCY.out _ D7.out.below))
                  refine (duo_readR D7.out (by omega) y.sec X e HXE.out).mono ?_
                  rintro E w8 ⟨rfl, h8, -⟩
                  have D8 := Lib.hid h8
                  clear h8 cy
                  go_wp2_with (first
                    | (refine wpList_store_all rfl 33 (.tmp 15) (.tmp 169) rfl w8.heap.size (u8s Z) (u8s X) 33 (row_new w8 (u8s Z) 33) (UZ.out.trans UX.out.symm) rfl rfl (by rw [UX.out]; exact Try.size33) (u8s_one _) ?_; intro w9 G9; have D9 := Lib.hid (D8.out.var G9.out))
                    | (refine wpList_load_mid rfl 33 (.tmp 13) rfl w6.heap.size 0 rfl (u8s X) _ (range_block (D9.out.get (q := w6.heap.size) (o := .cells (u8s X).toArray 33) (by simp)) 0 _ (fun j v hv => by rw [Nat.zero_add]; exact hv)) Try.underlying33 rfl (by rw [UX.out]; exact Try.size33) ?_)
                    | (refine wpList_load_mid rfl 33 (.tmp 15) rfl w8.heap.size 0 rfl (u8s X) _ (range_block (D9.out.get (q := w8.heap.size) (o := .cells (u8s X).toArray 33) (by simp)) 0 _ (fun j v hv => by rw [Nat.zero_add]; exact hv)) Try.underlying33 rfl (by rw [UX.out]; exact Try.size33) ?_))
                  go_roundw
                  case measure => simp [intOf]; omega
                  case rel => exact ⟨j + 1, by omega, by go_num, Lib.hid D9.out.drop.drop⟩
                · obtain rfl : j = k + 1 := by omega
                  go_wp2_with fail
                  go_roundw
                  case measure => simp [intOf]; omega
                  case rel => exact ⟨k + 1, by omega, by go_num, s1, DJ⟩
        · as_aux_lemma =>
            have hwr : RowKit.wrap64 x.num = x.num := by have := HNUM.out; unfold RowKit.wrap64; omega
            have hm6 : ((x.todo.toNat : Int)).tmod 6 = 3 := by rw [Int.tmod_eq_emod_of_nonneg (by omega)]; omega
            have hm7 : ((x.todo.toNat : Int)) % 6 = 3 := by omega
            clear hm
            go_wp2_with (first
              | (refine wpList_load_mid rfl 32 (.tmp 33) rfl b (o + k * 5) rfl C5 _ HXC.out Try.underlying32 rfl (by rw [UC5.out]; exact Try.size32) ?_)
              | (refine wpList_store_all rfl 32 (.tmp 6) (.tmp 34) rfl wr.heap.size Z5 C5 32 (row_new wr Z5 32) (UZ5.out.trans UC5.out.symm) rfl rfl (by rw [UC5.out]; exact Try.size32) OC5.out ?_; intro w2 G2; have D2 := Lib.hid (HD.out.var G2.out); have q0 : w2.cell? ⟨wr.heap.size, 0, none⟩ = some (.int .u8 (x.todo.toNat : Int)) := block_cell G2.out.1 0 _ (by rw [HC5.out]; rfl); have q3 : w2.cell? ⟨wr.heap.size, 3, none⟩ = some (.int .i8 x.num) := block_cell G2.out.1 3 _ (by rw [HC5.out]; rfl)))
            refine (duo_fuseD D2.out x.num (by have := HNUM.out; omega)).mono ?_
            rintro E w3 ⟨rfl, h3⟩
            have D3 := Lib.hid h3
            clear h3 q0 q3 hm6 hm7 HD
            have q3 : w3.cell? ⟨wr.heap.size, 3, none⟩ = some (.int .i8 x.num) := block_cell (D3.out.get (q := wr.heap.size) (o := .cells C5.toArray 32) (by simp)) 3 _ (by rw [HC5.out]; rfl)
            obtain ⟨vf, cf, ff⟩ := D3.out.ref_fuse
            go_wp2_with fail
            all_goals
              have D4 : Hid (∃ v : Int, v = max x.num (-1) ∧ ∀ w', w' = w3.setCell ⟨r, 3, none⟩ (.int .i64 v) → Duo w d k (s.fuseAt x.num) r k (s.fuseAt x.num) [(wr.heap.size, Obj.cells C5.toArray 32)] w') := Lib.hid ⟨_, rfl, fun w' e => by subst e; exact D3.out.fused x.num (by have := HNUM.out; omega)⟩
              obtain ⟨v, hv, hD4⟩ := D4
              have hv2 : (x.num < -1 ∧ v = -1) ∨ (-1 ≤ x.num ∧ v = x.num) := by rw [hv]; omega
              clear hv
              rcases hv2 with ⟨hvv, rfl⟩ | ⟨hvv, rfl⟩
              all_goals (try (exfalso; omega))
              all_goals clear hvv
              generalize hw4 : w3.setCell _ _ = w4 at hD4 ⊢
              have D4 := Lib.hid (hD4 _ rfl)
              clear cf ff q3 D3 hD4 hw4 hwr
              obtain ⟨s1, hs1⟩ : ∃ s1, s1 = s.fuseAt x.num := ⟨_, rfl⟩
              rw [← hs1] at D4
              clear hs1
              have D4' := Lib.hid (D4.out.drop.more (U := k + 1) (U' := k + 1) (by omega) (by omega))
              obtain ⟨c2r, A1, c1', c1r⟩ := D4.out.ref_cells
              have hbb : ((!s1.off) == s1.off) = false := by cases s1.off <;> rfl
              go_quiet (first | (go_at_call 24; exact (duo_power (D4.out.drewN _)).mono fun _ _ h => ⟨h.1, _, h.2.symm⟩) | (go_at_call 25; exact (duo_loose (D4.out.drewN _)).mono fun _ _ h => ⟨h.1, _, h.2.symm⟩))
              go_wp2_with fail
              all_goals (try exact ⟨⟨k + 1, by omega, by go_num, s1, Lib.hid (D4'.out.drewN nq)⟩, by simp [intOf]; omega⟩)
              all_goals
                have D5 := Lib.hid (D4'.out.drewN nq)
                clear D4 D4' c2r c1r hbb
                generalize w4.drewN nq = w5 at D5 ⊢
                go_loopw [12] (fun v12 wr2 => ∃ j : Nat, j ≤ k + 1 ∧ v12 = .int .i64 (j : Int) ∧ Hid (Duo w d (k + 1) s1 r (k + 1) s1 [] wr2)) (fun v12 _ => k + 1 - (intOf v12).toNat)
                case atStart => exact ⟨0, by omega, rfl, D5⟩
                case round =>
                  clear D5
                  obtain ⟨j, hj, rfl, DJ⟩ := hrel
                  by_cases hjk : j ≤ k
                  · obtain ⟨b', o', e', hb', hc'⟩ := HX.out.2 (by omega)
                    injection e' with e'
                    injection e' with e1 e2
                    subst e1 e2
                    obtain ⟨y, hy⟩ : ∃ y, xs[j]? = some y := ⟨_, List.getElem?_eq_getElem (by rw [HX.out.1]; omega)⟩
                    obtain ⟨hcy, hIy, -⟩ := hc' j y hy
                    have HCY : Hid (∀ W, Below w.heap.size w W → W.cell? ⟨b, o + j * 5 + 1, none⟩ = some (.int .i64 y.sec)) := Lib.hid (fun W hb => (hb.cell (p := ⟨b, o + j * 5 + 1, none⟩) hb').trans (hcy 1 _ rfl))
                    have HIY := Lib.hid hIy
                    have cy := HCY.out _ DJ.out.below
                    obtain ⟨X, hX⟩ : ∃ X, X = (s1.read y.sec).1 := ⟨_, rfl⟩
                    obtain ⟨e, he⟩ : ∃ e, e = (s1.read y.sec).2 := ⟨_, rfl⟩
                    have hXl : X.length = 128 := by rw [hX]; exact DJ.out.read_len _
                    have UX : Hid ((u8s X).length = 128) := Lib.hid (by rw [u8s_length, hXl])
                    have HXE : Hid (s1.read y.sec = (X, e)) := Lib.hid (Prod.ext hX.symm he.symm)
                    have hge := eq33_same X hXl
                    have hgd := Try.guard33
                    clear hc' hy hcy hIy hX he hXl
                    go_wp2_with fail
                    refine (duo_readD DJ.out y.sec HIY.out X e HXE.out).mono ?_
                    rintro E w6 ⟨rfl, h6, -⟩
                    have D6 := Lib.hid h6
                    clear h6 cy
                    go_wp2_with (first
                      | (refine wpList_store_all rfl 33 (.tmp 13) (.tmp 159) rfl w6.heap.size (u8s Z) (u8s X) 33 (row_new w6 (u8s Z) 33) (UZ.out.trans UX.out.symm) rfl rfl (by rw [UX.out]; exact Try.size33) (u8s_one _) ?_; intro w7 G7; have D7 := Lib.hid (D6.out.var G7.out); have cy := HCY.out _ D7.out.below))
                    refine (duo_readR D7.out (by omega) y.sec X e HXE.out).mono ?_
                    rintro E w8 ⟨rfl, h8, -⟩
                    have D8 := Lib.hid h8
                    clear h8 cy
                    go_wp2_with (first
                      | (refine wpList_store_all rfl 33 (.tmp 15) (.tmp 169) rfl w8.heap.size (u8s Z) (u8s X) 33 (row_new w8 (u8s Z) 33) (UZ.out.trans UX.out.symm) rfl rfl (by rw [UX.out]; exact Try.size33) (u8s_one _) ?_; intro w9 G9; have D9 := Lib.hid (D8.out.var G9.out))
                      | (refine wpList_load_mid rfl 33 (.tmp 13) rfl w6.heap.size 0 rfl (u8s X) _ (range_block (D9.out.get (q := w6.heap.size) (o := .cells (u8s X).toArray 33) (by simp)) 0 _ (fun j v hv => by rw [Nat.zero_add]; exact hv)) Try.underlying33 rfl (by rw [UX.out]; exact Try.size33) ?_)
                      | (refine wpList_load_mid rfl 33 (.tmp 15) rfl w8.heap.size 0 rfl (u8s X) _ (range_block (D9.out.get (q := w8.heap.size) (o := .cells (u8s X).toArray 33) (by simp)) 0 _ (fun j v hv => by rw [Nat.zero_add]; exact hv)) Try.underlying33 rfl (by rw [UX.out]; exact Try.size33) ?_))
                    go_roundw
                    case measure => simp [intOf]; omega
                    case rel => exact ⟨j + 1, by omega, by go_num, Lib.hid D9.out.drop.drop⟩
                  · obtain rfl : j = k + 1 := by omega
                    go_wp2_with fail
                    go_roundw
                    case measure => simp [intOf]; omega
                    case rel => exact ⟨k + 1, by omega, by go_num, s1, DJ⟩
        · as_aux_lemma =>
            have hm6 : ((x.todo.toNat : Int)).tmod 6 = 4 := by rw [Int.tmod_eq_emod_of_nonneg (by omega)]; omega
            have hm7 : ((x.todo.toNat : Int)) % 6 = 4 := by omega
            clear hm
            go_wp2_with (first
              | (refine wpList_load_mid rfl 32 (.tmp 33) rfl b (o + k * 5) rfl C5 _ HXC.out Try.underlying32 rfl (by rw [UC5.out]; exact Try.size32) ?_)
              | (refine wpList_store_all rfl 32 (.tmp 6) (.tmp 34) rfl wr.heap.size Z5 C5 32 (row_new wr Z5 32) (UZ5.out.trans UC5.out.symm) rfl rfl (by rw [UC5.out]; exact Try.size32) OC5.out ?_; intro w2 G2; have D2 := Lib.hid (HD.out.var G2.out); have q0 : w2.cell? ⟨wr.heap.size, 0, none⟩ = some (.int .u8 (x.todo.toNat : Int)) := block_cell G2.out.1 0 _ (by rw [HC5.out]; rfl)))
            refine (duo_offD D2.out).mono ?_
            rintro E w3 ⟨rfl, h3⟩
            have D3 := Lib.hid h3
            clear h3 q0 hm6 hm7 HD
            go_wp2_with fail
            refine (duo_offR D3.out).mono ?_
            rintro E w4 ⟨rfl, h4⟩
            have D4 := Lib.hid h4
            clear h4 D3
            go_wp2_with fail
            obtain ⟨s1, hs1⟩ : ∃ s1, s1 = s.offed := ⟨_, rfl⟩
            rw [← hs1] at D4
            clear hs1
            have D4' := Lib.hid (D4.out.drop.more (U := k + 1) (U' := k + 1) (by omega) (by omega))
            obtain ⟨c2r, A1, c1', c1r⟩ := D4.out.ref_cells
            have hbb : ((!s1.off) == s1.off) = false := by cases s1.off <;> rfl
            go_quiet (first | (go_at_call 24; exact (duo_power (D4.out.drewN _)).mono fun _ _ h => ⟨h.1, _, h.2.symm⟩) | (go_at_call 25; exact (duo_loose (D4.out.drewN _)).mono fun _ _ h => ⟨h.1, _, h.2.symm⟩))
            go_wp2_with fail
            all_goals (try exact ⟨⟨k + 1, by omega, by go_num, s1, Lib.hid (D4'.out.drewN nq)⟩, by simp [intOf]; omega⟩)
            all_goals
              have D5 := Lib.hid (D4'.out.drewN nq)
              clear D4 D4' c2r c1r hbb
              generalize w4.drewN nq = w5 at D5 ⊢
              go_loopw [12] (fun v12 wr2 => ∃ j : Nat, j ≤ k + 1 ∧ v12 = .int .i64 (j : Int) ∧ Hid (Duo w d (k + 1) s1 r (k + 1) s1 [] wr2)) (fun v12 _ => k + 1 - (intOf v12).toNat)
              case atStart => exact ⟨0, by omega, rfl, D5⟩
              case round =>
                clear D5
                obtain ⟨j, hj, rfl, DJ⟩ := hrel
                by_cases hjk : j ≤ k
                · obtain ⟨b', o', e', hb', hc'⟩ := HX.out.2 (by omega)
                  injection e' with e'
                  injection e' with e1 e2
                  subst e1 e2
                  obtain ⟨y, hy⟩ : ∃ y, xs[j]? = some y := ⟨_, List.getElem?_eq_getElem (by rw [HX.out.1]; omega)⟩
                  obtain ⟨hcy, hIy, -⟩ := hc' j y hy
                  have HCY : Hid (∀ W, Below w.heap.size w W → W.cell? ⟨b, o + j * 5 + 1, none⟩ = some (.int .i64 y.sec)) := Lib.hid (fun W hb => (hb.cell (p := ⟨b, o + j * 5 + 1, none⟩) hb').trans (hcy 1 _ rfl))
                  have HIY := Lib.hid hIy
                  have cy := HCY.out _ DJ.out.below
                  obtain ⟨X, hX⟩ : ∃ X, X = (s1.read y.sec).1 := ⟨_, rfl⟩
                  obtain ⟨e, he⟩ : ∃ e, e = (s1.read y.sec).2 := ⟨_, rfl⟩
                  have hXl : X.length = 128 := by rw [hX]; exact DJ.out.read_len _
                  have UX : Hid ((u8s X).length = 128) := Lib.hid (by rw [u8s_length, hXl])
                  have HXE : Hid (s1.read y.sec = (X, e)) := Lib.hid (Prod.ext hX.symm he.symm)
                  have hge := eq33_same X hXl
                  have hgd := Try.guard33
                  clear hc' hy hcy hIy hX he hXl
                  go_wp2_with fail
                  refine (duo_readD DJ.out y.sec HIY.out X e HXE.out).mono ?_
                  rintro E w6 ⟨rfl, h6, -⟩
                  have D6 := Lib.hid h6
                  clear h6 cy
                  go_wp2_with (first
                    | (refine wpList_store_all rfl 33 (.tmp 13) (.tmp 159) rfl w6.heap.size (u8s Z) (u8s X) 33 (row_new w6 (u8s Z) 33) (UZ.out.trans UX.out.symm) rfl rfl (by rw [UX.out]; exact Try.size33) (u8s_one _) ?_; intro w7 G7; have D7 := Lib.hid (D6.out.var G7.out); have cy := HCY.out _ D7.out.below))
                  refine (duo_readR D7.out (by omega) y.sec X e HXE.out).mono ?_
                  rintro E w8 ⟨rfl, h8, -⟩
                  have D8 := Lib.hid h8
                  clear h8 cy
                  go_wp2_with (first
                    | (refine wpList_store_all rfl 33 (.tmp 15) (.tmp 169) rfl w8.heap.size (u8s Z) (u8s X) 33 (row_new w8 (u8s Z) 33) (UZ.out.trans UX.out.symm) rfl rfl (by rw [UX.out]; exact Try.size33) (u8s_one _) ?_; intro w9 G9; have D9 := Lib.hid (D8.out.var G9.out))
                    | (refine wpList_load_mid rfl 33 (.tmp 13) rfl w6.heap.size 0 rfl (u8s X) _ (range_block (D9.out.get (q := w6.heap.size) (o := .cells (u8s X).toArray 33) (by simp)) 0 _ (fun j v hv => by rw [Nat.zero_add]; exact hv)) Try.underlying33 rfl (by rw [UX.out]; exact Try.size33) ?_)
                    | (refine wpList_load_mid rfl 33 (.tmp 15) rfl w8.heap.size 0 rfl (u8s X) _ (range_block (D9.out.get (q := w8.heap.size) (o := .cells (u8s X).toArray 33) (by simp)) 0 _ (fun j v hv => by rw [Nat.zero_add]; exact hv)) Try.underlying33 rfl (by rw [UX.out]; exact Try.size33) ?_))
                  go_roundw
                  case measure => simp [intOf]; omega
                  case rel => exact ⟨j + 1, by omega, by go_num, Lib.hid D9.out.drop.drop⟩
                · obtain rfl : j = k + 1 := by omega
                  go_wp2_with fail
                  go_roundw
                  case measure => simp [intOf]; omega
                  case rel => exact ⟨k + 1, by omega, by go_num, s1, DJ⟩
        · as_aux_lemma =>
            have hm6 : ((x.todo.toNat : Int)).tmod 6 = 5 := by rw [Int.tmod_eq_emod_of_nonneg (by omega)]; omega
            have hm7 : ((x.todo.toNat : Int)) % 6 = 5 := by omega
            clear hm
            go_wp2_with (first
              | (refine wpList_load_mid rfl 32 (.tmp 33) rfl b (o + k * 5) rfl C5 _ HXC.out Try.underlying32 rfl (by rw [UC5.out]; exact Try.size32) ?_)
              | (refine wpList_store_all rfl 32 (.tmp 6) (.tmp 34) rfl wr.heap.size Z5 C5 32 (row_new wr Z5 32) (UZ5.out.trans UC5.out.symm) rfl rfl (by rw [UC5.out]; exact Try.size32) OC5.out ?_; intro w2 G2; have D2 := Lib.hid (HD.out.var G2.out); have q0 : w2.cell? ⟨wr.heap.size, 0, none⟩ = some (.int .u8 (x.todo.toNat : Int)) := block_cell G2.out.1 0 _ (by rw [HC5.out]; rfl); have q4 : w2.cell? ⟨wr.heap.size, 4, none⟩ = some (.slice x.adr x.picks.length x.room) := block_cell G2.out.1 4 _ (by rw [HC5.out]; rfl)))
            obtain ⟨e0, he0⟩ : ∃ e0, e0 = (s.on x.picks).2 := ⟨_, rfl⟩
            have HE := Lib.hid he0
            clear he0 q4
            have HB6 : Hid (∀ {T T' : Nat} {s2 s3 : Dk} (W : World), Duo w d T s2 r T' s3 [(wr.heap.size, Obj.cells C5.toArray 32)] W → W.heap[wr.heap.size]? = some (.cells C5.toArray 32 (0, 0))) := Lib.hid (fun W h => h.get (q := wr.heap.size) (o := .cells C5.toArray 32) (by simp))
            try simp only [Act.put, List.setIfInBounds_toArray, List.set_cons_zero, List.set_cons_succ]
            refine wp_region_any (by kernel_rfl) ?_
            change wpAny _ _ _ _ _ _ _ (w2.drewN 1)
            have DD := Lib.hid (D2.out.drewN 1)
            clear D2 HD q0 hm6 hm7
            generalize w2.drewN 1 = wD at DD ⊢
            refine wpAny_of_held (S := fun W => W.heap[wr.heap.size]? = some (.cells C5.toArray 32 (0, 0))) _ _ _ _ ?_
            refine wpAnyH_take (i := 0) (oi := { dst := some 38, op := Op.move (Operand.tmp 3), type := 25, pos := "law.go:92", after := #[], guard := none }) (v := .pointer (some ⟨d, 0, none⟩)) rfl (by kernel_rfl) (by kernel_rfl) (by kernel_rfl) (fun _ _ _ h => h) (Or.inl ⟨by kernel_rfl, fun W hSW => by go_simp⟩) (HB6.out _ DD.out) ?_
            simp only [Act.put, List.setIfInBounds_toArray, List.set_cons_zero, List.set_cons_succ]
            refine wpAnyH_take (i := 1) (oi := { dst := some 39, op := Op.fieldAddr 32 (Operand.tmp 6) 4, type := 0, pos := "law.go:92", after := #[], guard := none }) (v := (.pointer (some ⟨wr.heap.size, 4, none⟩))) rfl (by kernel_rfl) (by kernel_rfl) (by kernel_rfl) (fun _ _ _ h => h) (Or.inl ⟨by kernel_rfl, fun W hSW => by go_simp⟩) (HB6.out _ DD.out) ?_
            simp only [Act.put, List.setIfInBounds_toArray, List.set_cons_zero, List.set_cons_succ]
            refine wpAnyH_take (i := 2) (oi := { dst := some 40, op := Op.load 30 (Operand.tmp 39), type := 30, pos := "law.go:92", after := #[{ on := 1, ground := Ground.data }], guard := none }) (v := .slice x.adr x.picks.length x.room) rfl (by kernel_rfl) (by kernel_rfl) (by kernel_rfl) (fun _ _ _ h => h) (Or.inl ⟨by kernel_rfl, fun W hSW => by have hcv : W.cell? ⟨wr.heap.size, 4, none⟩ = some (.slice x.adr x.picks.length x.room) := block_cell hSW 4 _ (by rw [HC5.out]; rfl); go_simp⟩) (HB6.out _ DD.out) ?_
            simp only [Act.put, List.setIfInBounds_toArray, List.set_cons_zero, List.set_cons_succ]
            refine wpAnyH_take (i := 4) (oi := { dst := some 42, op := Op.move (Operand.tmp 4), type := 27, pos := "law.go:92", after := #[], guard := none }) (v := .pointer (some ⟨r, 0, none⟩)) rfl (by kernel_rfl) (by kernel_rfl) (by kernel_rfl) (fun _ _ _ h => h) (Or.inl ⟨by kernel_rfl, fun W hSW => by go_simp⟩) (HB6.out _ DD.out) ?_
            simp only [Act.put, List.setIfInBounds_toArray, List.set_cons_zero, List.set_cons_succ]
            refine wpAnyH_take (i := 5) (oi := { dst := some 43, op := Op.fieldAddr 32 (Operand.tmp 6) 4, type := 0, pos := "law.go:92", after := #[], guard := none }) (v := (.pointer (some ⟨wr.heap.size, 4, none⟩))) rfl (by kernel_rfl) (by kernel_rfl) (by kernel_rfl) (fun _ _ _ h => h) (Or.inl ⟨by kernel_rfl, fun W hSW => by go_simp⟩) (HB6.out _ DD.out) ?_
            simp only [Act.put, List.setIfInBounds_toArray, List.set_cons_zero, List.set_cons_succ]
            refine wpAnyH_take (i := 6) (oi := { dst := some 44, op := Op.load 30 (Operand.tmp 43), type := 30, pos := "law.go:92", after := #[{ on := 5, ground := Ground.data }], guard := none }) (v := .slice x.adr x.picks.length x.room) rfl (by kernel_rfl) (by kernel_rfl) (by kernel_rfl) (fun _ _ _ h => h) (Or.inl ⟨by kernel_rfl, fun W hSW => by have hcv : W.cell? ⟨wr.heap.size, 4, none⟩ = some (.slice x.adr x.picks.length x.room) := block_cell hSW 4 _ (by rw [HC5.out]; rfl); go_simp⟩) (HB6.out _ DD.out) ?_
            simp only [Act.put, List.setIfInBounds_toArray, List.set_cons_zero, List.set_cons_succ]
            refine wpAnyH_ready (rs := [3]) (by kernel_rfl) (by simp) ?_
            refine AllReadyH.cons (o := { dst := some 41, op := Op.call { callee := Callee.value (Operand.func 22), args := #[Operand.tmp 38, Operand.tmp 40], argTypes := #[25, 30] }, type := 34, pos := "law.go:92", after := #[{ on := 0, ground := Ground.data }, { on := 2, ground := Ground.data }], guard := none }) rfl (fun K hK => ?_) AllReadyH.nil
            go_simp
            go_at_call 22
            refine (duo_onD DD.out (by omega) x.adr x.picks.length x.room x.picks (HRD.out _ DD.out.below) HSL.out).mono ?_
            rw [← HE.out]
            rintro E wb ⟨rfl, hb⟩
            have Db := Lib.hid hb
            clear hb DD
            refine hK.out _ _ (HB6.out _ Db.out) (fun _ => ?_)
            clear hK K
            refine wpAnyH_ready (rs := [7]) (by kernel_rfl) (by simp) ?_
            refine AllReadyH.cons (o := { dst := some 45, op := Op.call { callee := Callee.value (Operand.func 23), args := #[Operand.tmp 42, Operand.tmp 44], argTypes := #[27, 30] }, type := 34, pos := "law.go:92", after := #[{ on := 4, ground := Ground.data }, { on := 6, ground := Ground.data }, { on := 3, ground := Ground.chain }], guard := none }) rfl (fun K hK => ?_) AllReadyH.nil
            go_simp
            go_at_call 23
            refine (duo_onR Db.out (by omega) x.adr x.picks.length x.room x.picks (HRD.out _ Db.out.below) HSL.out).mono ?_
            rw [← HE.out]
            rintro E w4 ⟨rfl, hb⟩
            have D4 := Lib.hid hb
            clear hb Db
            refine hK.out _ _ (HB6.out _ D4.out) (fun _ => ?_)
            clear hK K
            refine wpAnyH_take (i := 8) (oi := { dst := some 46, op := Op.binOp BinOp.eql 34 (Operand.tmp 41) (Operand.tmp 45) 34, type := 4, pos := "law.go:92", after := #[{ on := 3, ground := Ground.data }, { on := 7, ground := Ground.data }], guard := none }) (v := .bool true) rfl (by kernel_rfl) (by kernel_rfl) (by kernel_rfl) (fun _ _ _ h => h) (Or.inl ⟨by kernel_rfl, fun W hSW => by go_simp⟩) (HB6.out _ D4.out) ?_
            simp only [Act.put, List.setIfInBounds_toArray, List.set_cons_zero, List.set_cons_succ]
            refine wpAnyH_take (i := 9) (oi := { dst := some 7, op := Op.assign (Operand.tmp 46), type := 4, pos := "law.go:92", after := #[{ on := 8, ground := Ground.data }, { on := 7, ground := Ground.chain }, { on := 0, ground := Ground.phase }, { on := 1, ground := Ground.phase }, { on := 2, ground := Ground.phase }, { on := 3, ground := Ground.phase }, { on := 4, ground := Ground.phase }, { on := 5, ground := Ground.phase }, { on := 6, ground := Ground.phase }, { on := 7, ground := Ground.phase }, { on := 8, ground := Ground.phase }], guard := none }) (v := .bool true) rfl (by kernel_rfl) (by kernel_rfl) (by kernel_rfl) (fun _ _ _ h => h) (Or.inl ⟨by kernel_rfl, fun W hSW => by go_simp⟩) (HB6.out _ D4.out) ?_
            simp only [Act.put, List.setIfInBounds_toArray, List.set_cons_zero, List.set_cons_succ]
            refine wpAnyH_done (by kernel_rfl) ?_ _
            clear HB6
            go_wp2_with fail
            obtain ⟨s1, hs1⟩ : ∃ s1, s1 = (s.on x.picks).1 := ⟨_, rfl⟩
            rw [← hs1] at D4
            clear hs1
            have D4' := Lib.hid (D4.out.drop.more (U := k + 1) (U' := k + 1) (by omega) (by omega))
            obtain ⟨c2r, A1, c1', c1r⟩ := D4.out.ref_cells
            have hbb : ((!s1.off) == s1.off) = false := by cases s1.off <;> rfl
            go_quiet (first | (go_at_call 24; exact (duo_power (D4.out.drewN _)).mono fun _ _ h => ⟨h.1, _, h.2.symm⟩) | (go_at_call 25; exact (duo_loose (D4.out.drewN _)).mono fun _ _ h => ⟨h.1, _, h.2.symm⟩))
            go_wp2_with fail
            all_goals (try exact ⟨⟨k + 1, by omega, by go_num, s1, Lib.hid (D4'.out.drewN nq)⟩, by simp [intOf]; omega⟩)
            all_goals
              have D5 := Lib.hid (D4'.out.drewN nq)
              clear D4 D4' c2r c1r hbb
              generalize w4.drewN nq = w5 at D5 ⊢
              go_loopw [12] (fun v12 wr2 => ∃ j : Nat, j ≤ k + 1 ∧ v12 = .int .i64 (j : Int) ∧ Hid (Duo w d (k + 1) s1 r (k + 1) s1 [] wr2)) (fun v12 _ => k + 1 - (intOf v12).toNat)
              case atStart => exact ⟨0, by omega, rfl, D5⟩
              case round =>
                clear D5
                obtain ⟨j, hj, rfl, DJ⟩ := hrel
                by_cases hjk : j ≤ k
                · obtain ⟨b', o', e', hb', hc'⟩ := HX.out.2 (by omega)
                  injection e' with e'
                  injection e' with e1 e2
                  subst e1 e2
                  obtain ⟨y, hy⟩ : ∃ y, xs[j]? = some y := ⟨_, List.getElem?_eq_getElem (by rw [HX.out.1]; omega)⟩
                  obtain ⟨hcy, hIy, -⟩ := hc' j y hy
                  have HCY : Hid (∀ W, Below w.heap.size w W → W.cell? ⟨b, o + j * 5 + 1, none⟩ = some (.int .i64 y.sec)) := Lib.hid (fun W hb => (hb.cell (p := ⟨b, o + j * 5 + 1, none⟩) hb').trans (hcy 1 _ rfl))
                  have HIY := Lib.hid hIy
                  have cy := HCY.out _ DJ.out.below
                  obtain ⟨X, hX⟩ : ∃ X, X = (s1.read y.sec).1 := ⟨_, rfl⟩
                  obtain ⟨e, he⟩ : ∃ e, e = (s1.read y.sec).2 := ⟨_, rfl⟩
                  have hXl : X.length = 128 := by rw [hX]; exact DJ.out.read_len _
                  have UX : Hid ((u8s X).length = 128) := Lib.hid (by rw [u8s_length, hXl])
                  have HXE : Hid (s1.read y.sec = (X, e)) := Lib.hid (Prod.ext hX.symm he.symm)
                  have hge := eq33_same X hXl
                  have hgd := Try.guard33
                  clear hc' hy hcy hIy hX he hXl
                  go_wp2_with fail
                  refine (duo_readD DJ.out y.sec HIY.out X e HXE.out).mono ?_
                  rintro E w6 ⟨rfl, h6, -⟩
                  have D6 := Lib.hid h6
                  clear h6 cy
                  go_wp2_with (first
                    | (refine wpList_store_all rfl 33 (.tmp 13) (.tmp 159) rfl w6.heap.size (u8s Z) (u8s X) 33 (row_new w6 (u8s Z) 33) (UZ.out.trans UX.out.symm) rfl rfl (by rw [UX.out]; exact Try.size33) (u8s_one _) ?_; intro w7 G7; have D7 := Lib.hid (D6.out.var G7.out); have cy := HCY.out _ D7.out.below))
                  refine (duo_readR D7.out (by omega) y.sec X e HXE.out).mono ?_
                  rintro E w8 ⟨rfl, h8, -⟩
                  have D8 := Lib.hid h8
                  clear h8 cy
                  go_wp2_with (first
                    | (refine wpList_store_all rfl 33 (.tmp 15) (.tmp 169) rfl w8.heap.size (u8s Z) (u8s X) 33 (row_new w8 (u8s Z) 33) (UZ.out.trans UX.out.symm) rfl rfl (by rw [UX.out]; exact Try.size33) (u8s_one _) ?_; intro w9 G9; have D9 := Lib.hid (D8.out.var G9.out))
                    | (refine wpList_load_mid rfl 33 (.tmp 13) rfl w6.heap.size 0 rfl (u8s X) _ (range_block (D9.out.get (q := w6.heap.size) (o := .cells (u8s X).toArray 33) (by simp)) 0 _ (fun j v hv => by rw [Nat.zero_add]; exact hv)) Try.underlying33 rfl (by rw [UX.out]; exact Try.size33) ?_)
                    | (refine wpList_load_mid rfl 33 (.tmp 15) rfl w8.heap.size 0 rfl (u8s X) _ (range_block (D9.out.get (q := w8.heap.size) (o := .cells (u8s X).toArray 33) (by simp)) 0 _ (fun j v hv => by rw [Nat.zero_add]; exact hv)) Try.underlying33 rfl (by rw [UX.out]; exact Try.size33) ?_))
                  go_roundw
                  case measure => simp [intOf]; omega
                  case rel => exact ⟨j + 1, by omega, by go_num, Lib.hid D9.out.drop.drop⟩
                · obtain rfl : j = k + 1 := by omega
                  go_wp2_with fail
                  go_roundw
                  case measure => simp [intOf]; omega
                  case rel => exact ⟨k + 1, by omega, by go_num, s1, DJ⟩
      · go_wp2_with fail
        refine (HW.out wr).mono ?_
        rintro E wz ⟨rfl, hb⟩
        go_wp2
        go_ret
        exact ⟨rfl, HD.out.below.trans (hb.mono HD.out.below.size)⟩
  · have hf' : fewOf xs 200 = false := by simpa using hf
    rw [hf'] at HF
    go_enter Try.func3, Try.ntmps3
    go_wp2_with fail
    refine HF.out.mono ?_
    rintro E _ ⟨rfl, rfl⟩
    go_wp2_with (first | (go_at_call 9; refine (HW.out w).mono ?_; rintro E wz ⟨rfl, hb⟩))
    go_ret
    exact ⟨rfl, hb⟩
end Go.Proofs.Ythbbghkefekhfaa
