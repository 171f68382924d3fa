/-
  What is proved: the walk of UsigOnce for whatever comes in. Conditions as stated.
-/
import Derived.Test.YtepjfkmbmcfnoaaDoorGs
import Derived.Test.YtepjfkmbmcfnoaaDoorGq
namespace Go.Proofs.YtepjfkmbmcfnoaaDoor
open Go.RowKit
set_option maxRecDepth 100000

/-- What was given, and what is sealed. -/
def Giv (gs : List (List UInt8)) (bs : List UInt8) : Prop :=
  (bs = [] ∧ gs = []) ∨ ∃ n b, bs = Oct.be 8 n ++ b ∧ b.length ≤ 1024 ∧ ((n = gs.length ∧ 1 ≤ n ∧ gs[n - 1]? = some b) ∨ n = gs.length + 1)
theorem Giv.sound {gs : List (List UInt8)} {bs : List UInt8} (h : Giv gs bs) (hl : gs.length < 65000) : soundB bs = true := by
  rcases h with ⟨rfl, rfl⟩ | ⟨n, b, rfl, hb, h⟩
  · rfl
  · exact sound_be n b (by rcases h with ⟨_, h, _⟩ | h <;> omega) (by rcases h with ⟨h, _, _⟩ | h <;> omega) hb
theorem Strs.typed {w W : World} {L : List (Nat × Obj)} {v : Value} {gs : List (List UInt8)} (h : Strs w L v gs W) {q : Nat} {o : Obj} (hq : (q, o) ∈ L) (ho : W.heap[q]? = some o) : ∃ C, o = .cells C 9 (0, 0) := by
  rcases h.own with ⟨_, rfl⟩ | ⟨g, o', e, rfl⟩
  · cases hq
  · obtain ⟨rfl, rfl⟩ : q = g ∧ o = o' := by simpa using hq
    rcases h.row.2 with ⟨rfl, _⟩ | ⟨g', cap, cur, rfl, _, hg, _⟩
    · cases e
    · simp only [Value.ownBlock, Option.some.injEq] at e
      subst e
      rw [hg] at ho
      exact ⟨cur, (Option.some.inj ho).symm⟩
theorem OpAt.own2 {w w0 w1 : World} {d T : Nat} {s : Dk} {L : List (Nat × Obj)} {x : Int} {g : Nat} {bs b : List UInt8} {slot : Int} (h : OpAt w d T s x L g bs slot w0) (hb : Below w0.heap.size w0 w1) {A : Option Addr} {n c B : Nat} (ho : w1.ownsRow B 5 1 (.slice A n c) n (u8s b)) (hB : w0.heap.size ≤ B) :
    ∃ LR, OpAt w d T s x (LR ++ L) g bs slot w1 ∧ Src w LR A n b ∧ ∀ p ∈ LR, w0.heap.size ≤ p.1 := by
  obtain ⟨A0, n0, c0, LR0, h1, h2, h3, h4, h5, h6⟩ := h
  obtain ⟨LR, k1, k2, k3⟩ := own_src h1 hb ho hB
  refine ⟨LR, ⟨A0, n0, c0, LR0, k1.sub fun p hp => ?_, h2, h3, h4, fun p hp => ⟨(h5 p hp).1, fun q hq => ?_⟩, fun q hq => ?_⟩, k2, k3⟩
  · simp only [List.mem_cons, List.mem_append] at hp ⊢
    rcases hp with rfl | hp | hp | hp
    · exact .inr (.inl rfl)
    · exact .inr (.inr (.inl hp))
    · exact .inl hp
    · exact .inr (.inr (.inr hp))
  · rcases List.mem_append.1 hq with hq | hq
    · have a := k3 q hq
      have b := keeps_dat.toKeep.lt h1 (.tail _ (List.mem_append_left _ hp))
      omega
    · exact (h5 p hp).2 q hq
  · rcases List.mem_append.1 hq with hq | hq
    · have a := k3 q hq
      have b := h1.lt (q := g) (.head _)
      omega
    · exact h6 q hq
/-- What Last tells of a counter that is open, and what is put by then. -/
theorem last_giv {w wr : World} {d T : Nat} {s : Dk} {LG : List (Nat × Obj)} {x : Int} {g u : Nat} {bs b : List UInt8} {slot : Int} {n : Nat} (hbs : bs = Oct.be 8 n ++ b) (h : OpAt w d T s x ((u, usOf g 3) :: LG) g bs slot wr) (hk : Sh.KIs w) (h0 : 0 < w.heap.size) (hn : n < 18446744073709551616) (h1 : 1 ≤ n) :
    Calls Tryd.prog 13 #[.pointer (some ⟨u, 0, none⟩)] wr fun E w' => ∃ A c LR, E = .returned (.tuple #[.int .u64 (n : Int), .slice A b.length c, tagV (Sh.numTag 3 n b)]) ∧
      Hid (OpAt w d T s x (LR ++ ((u, usOf g 3) :: LG)) g bs slot w' ∧ Src w LR A b.length b ∧ Oct.Sl A b.length c ∧ ∀ p ∈ LR, ∀ q ∈ LG, p.1 ≠ q.1) := by
  subst hbs
  have := last_us h 3 (.head _) hk h0
  rw [(last_be 3 n b hn h1).1, (last_be 3 n b hn h1).2, (seal_be n b hn).1] at this
  refine this.mono fun E w' ⟨A, c, e, h2, h3⟩ => ?_
  obtain ⟨LR, k1, k2, k3⟩ := h.own2 h3.out h2.out.1 (Nat.le_refl _)
  exact ⟨A, c, LR, e, Lib.hid ⟨k1, k2, h2.out.2, fun p hp q hq => by
    have a := k3 p hp
    have b := h.dat.lt (q := q.1) (o := q.2) (.tail _ hq)
    omega⟩⟩

theorem chk_ref (i : Int) (n : Nat) (b t : List UInt8) (h1 : isRep i = true) (h2 : mayN n b.length = true) : decide (Sh.numTag i n b = t) = chk i n b t := by
  unfold chk
  rw [h1, h2, Bool.true_and, Bool.true_and]
  generalize Sh.numTag i n b = T
  exact decide_eq_decide.2 ⟨Eq.symm, Eq.symm⟩
theorem giv_apart {w w4 w5 : World} {d T : Nat} {s : Dk} {LG LR : List (Nat × Obj)} {x : Int} {g u : Nat} {bs : List UInt8} {slot : Int} {v : Value} {gs : List (List UInt8)} {t0 : Obj} (hS : Strs w LG v gs w5) (hO : OpAt w d T s x ((w4.heap.size, t0) :: (LR ++ ((u, usOf g 3) :: LG))) g bs slot w5)
    (h4 : ∀ p ∈ LR ++ ((u, usOf g 3) :: LG), p.1 ≠ w4.heap.size) (hR : ∀ p ∈ LR, ∀ q ∈ LG, p.1 ≠ q.1) : ∀ p ∈ LG, ∀ q ∈ ((w4.heap.size, t0) :: (LR ++ [(u, usOf g 3)])), q.1 ≠ p.1 := by
  intro p hp q hq
  rcases List.mem_cons.1 hq with rfl | hq
  · exact fun e => h4 p (List.mem_append_right _ (.tail _ hp)) e.symm
  · rcases List.mem_append.1 hq with hq | hq
    · exact hR q hq p hp
    · simp only [List.mem_singleton] at hq
      subst hq
      intro e
      have h1 := hO.get (q := u) (o := usOf g 3) (.tail _ (List.mem_append_right _ (.head _)))
      have h2 := hO.get (q := p.1) (o := p.2) (.tail _ (List.mem_append_right _ (.tail _ hp)))
      obtain ⟨C, hC⟩ := hS.typed (q := p.1) (o := p.2) hp h2
      simp only at e
      rw [e, h2, hC] at h1
      simp [usOf] at h1

set_option maxHeartbeats 40000000 in
theorem usigOnce_by (w : World) (HK : Hid (Sh.KIs w)) (h0 : 0 < w.heap.size) (HW : Hid (∀ W', Below w.heap.size w W' → Calls Tryd.prog 9 #[] W' fun E w' => E = .returned (.bool true) ∧ Below W'.heap.size W' w')) (A : Option Addr) (n c : Nat) (xs : List Crs) (hx : Crss w A n xs) (hs : Sl A n c) :
    Calls Tryd.prog 3 #[.slice A n c] w fun E w' => E = .returned (.bool true) ∧ Below w.heap.size w w' := by
  have HX := Lib.hid hx
  have HR0 := Lib.hid (Below.refl w.heap.size w)
  have hsc := hs.2
  clear hx hs
  by_cases hn : n ≤ 30
  · obtain ⟨Z, hZ⟩ : ∃ Z, Z = u8s noTag := ⟨_, rfl⟩
    have hz : ∀ w, (zeroValue 36).run Tryd.prog w = .ok (.agg Z.toArray) w := by rw [hZ]; exact zero_tag
    have hbd : ∀ w, (Instr.build 36 #[]).run Tryd.prog w = .ok (.agg Z.toArray) w := by rw [hZ]; exact build_tag
    have hzz : ∀ w, (Op.equalIn 10000 36 (.agg Z.toArray) (.agg Z.toArray)).run Tryd.prog w = .ok true w := fun w => by rw [hZ, eq_tags noTag noTag rfl rfl, decide_eq_true rfl]
    have HIZ : Hid ((Tryd.prog.info? 36).map (·.size) = some Z.length) := Lib.hid (by rw [hZ]; exact tag_info rfl)
    have HOZ : Hid (∀ v ∈ Z, v.oneCell' = true) := Lib.hid (by rw [hZ]; exact u8s_one _)
    have HZZ := Lib.hid hZ
    have HLZ : Hid (∀ T : List UInt8, T.length = 32 → Z.length = (u8s T).length) := Lib.hid fun T hT => by rw [hZ, u8s_length, u8s_length, hT]; rfl
    clear hZ
    go_enter Tryd.func3, Tryd.ntmps3
    go_wp2_with fail
    refine (dat_new (Below.refl _ w)).mono ?_
    rintro E w1 ⟨d, rfl, h1, -⟩
    have D1 := Lib.hid h1
    clear h1
    go_wp2_with fail
    refine (us_format D1.out new_calm (by omega) (x := 0) (by omega)).mono ?_
    rintro E w2 ⟨rfl, s2, H2⟩
    clear D1
    go_wp2_with fail
    have D2 : Hid (Strs w [] (.slice none 0 0) [] w2 ∧ Dat w d (20 + 10 * 0) s2 [] w2 ∧ Calm s2 ∧ s2.loose = [] ∧ CellIs s2 0 0 2 [] (2 + 0) ∧ Giv [] []) := Lib.hid ⟨Strs.nil _ _, H2.out.1, H2.out.2.1, H2.out.2.2.1, H2.out.2.2.2.1, .inl ⟨rfl, rfl⟩⟩
    clear H2
    go_loopw [4, 5] (fun v4 v5 wr => ∃ k : Nat, k ≤ n ∧ v5 = .int .i64 (k : Int) ∧ ∃ gs bs a na s LG, Hid (gs.length ≤ 2 * k) ∧ Hid (Strs w LG v4 gs wr ∧ Dat w d (20 + 10 * k) s LG wr ∧ Calm s ∧ s.loose = [] ∧ CellIs s 0 a na bs (2 + k) ∧ Giv gs bs)) (fun _ v5 _ => n - (intOf v5).toNat)
    case atStart => exact ⟨0, by omega, rfl, [], [], 0, 2, s2, [], Lib.hid (by simp), D2⟩
    case round =>
      clear D2 HR0
      obtain ⟨k, hkn, rfl, gs, bs, a, na, s, LG, HGL, HD⟩ := hrel
      obtain ⟨A4, c4, rfl, hs4⟩ := HD.out.1.shape
      have hsc4 := hs4.2
      clear hs4
      by_cases hkk : k < n
      · obtain ⟨b, o, rfl, hb0, hc⟩ := HX.out.2 (by omega)
        obtain ⟨x, hq⟩ : ∃ x, xs[k]? = some x := ⟨_, List.getElem?_eq_getElem (by rw [HX.out.1]; exact hkk)⟩
        obtain ⟨hcx, hrb, hsb, hrp, hsp⟩ := hc k x hq
        have HCB : Hid (∀ W, Below w.heap.size w W → W.cell? ⟨b, o + k * 3, none⟩ = some (.slice x.adr x.bs.length x.room)) := Lib.hid fun W hb => (hb.cell (p := ⟨b, o + k * 3, none⟩) hb0).trans (hcx 0 _ rfl)
        have HCN : Hid (∀ W, Below w.heap.size w W → W.cell? ⟨b, o + k * 3 + 1, none⟩ = some (.int .u8 (x.num.toNat : Int))) := Lib.hid fun W hb => (hb.cell (p := ⟨b, o + k * 3 + 1, none⟩) hb0).trans (hcx 1 _ rfl)
        have HCP : Hid (∀ W, Below w.heap.size w W → W.cell? ⟨b, o + k * 3 + 2, none⟩ = some (.slice x.padr x.picks.length x.proom)) := Lib.hid fun W hb => (hb.cell (p := ⟨b, o + k * 3 + 2, none⟩) hb0).trans (hcx 2 _ rfl)
        have HRB : Hid (∀ W, Below w.heap.size w W → Oct.Rd W x.adr x.bs.length x.bs) := Lib.hid fun W hb => rd_oct hrb hb
        have HRP : Hid (∀ W, Below w.heap.size w W → Rd (fun b => b < w.heap.size) W x.padr x.picks.length x.picks) := Lib.hid fun W hb => rd_low hrp hb
        have HSB : Hid (Oct.Sl x.adr x.bs.length x.room) := Lib.hid hsb
        have HSP := Lib.hid hsp
        obtain ⟨x16, hx16⟩ : ∃ m, m = x.num.toNat % 16 := ⟨_, rfl⟩
        have htm : ((x.num.toNat : Int)).tmod 16 = (x16 : Int) := by rw [Int.tmod_eq_emod_of_nonneg (by omega)]; omega
        have hxl : x16 < 16 := by omega
        have hxz : (x.num.toNat : Int) % 16 = (x16 : Int) := by omega
        have hwn : RowKit.wrap64 (x.num.toNat : Int) = (x.num.toNat : Int) := by unfold RowKit.wrap64; have := x.num.toNat_lt; omega
        clear hc hq hcx hrb hsb hrp hsp hx16
        have cb := HCB.out _ HD.out.2.1.below
        have cp := HCP.out _ HD.out.2.1.below
        obtain ⟨m, hm⟩ : ∃ m, m = x.bs.length := ⟨_, rfl⟩
        obtain ⟨pm, hpm⟩ : ∃ m, m = x.picks.length := ⟨_, rfl⟩
        have HM := Lib.hid hm
        rw [← hm] at HCB HRB HSB cb
        rw [← hpm] at HCP HRP HSP cp
        have HPM := Lib.hid hpm
        clear hm hpm
        by_cases hok : pm ≤ 200 ∧ m ≤ 1024
        · obtain ⟨hpm, hml⟩ := hok
          have hgl : gs.length ≤ 60 := by have := HGL.out; omega
          have HGB : Hid (gs.length ≤ 60) := Lib.hid hgl
          go_wp2_with fail
          refine (us_new 3 rfl (HD.out.2.2.2.2.2.sound (by have := HGB.out; omega)) HK.out h0 (cell_open HD.out.2.1 HD.out.2.2.1.1 (x := 0) (by omega) HD.out.2.2.2.2.1)).mono ?_
          rintro E w3 ⟨u, g, rfl, O3⟩
          clear cb cp
          have HS3 : Hid (Strs w LG (.slice A4 gs.length c4) gs w3) := Lib.hid (HD.out.1.go (fun p hp => HD.out.2.1.get (q := p.1) (o := p.2) hp) (fun p hp => O3.out.get (q := p.1) (o := p.2) (.tail _ hp)))
          have HC : Hid (Calm s ∧ s.loose = [] ∧ CellIs s 0 a na bs (2 + k)) := Lib.hid ⟨HD.out.2.2.1, HD.out.2.2.2.1, HD.out.2.2.2.2.1⟩
          obtain ⟨gl, hgl2⟩ : ∃ gl, gl = gs.length := ⟨_, rfl⟩
          have HGE := Lib.hid hgl2
          rw [← hgl2] at HS3 hgl hsc4 ⊢
          clear hgl2
          have hw0 : IntKind.u64.wrap (gl : Int) = (gl : Int) := by rw [IntKind.wrap_u64]; omega
          have hw1 : IntKind.u64.wrap ((gl : Int) + 1) = ((gl + 1 : Nat) : Int) := by rw [IntKind.wrap_u64]; omega
          go_wp2_with fail
          have hgiv := HD.out.2.2.2.2.2
          rcases hgiv with ⟨hbs, hgs⟩ | ⟨num, bb, hbs, hbbl, hcase | hcase⟩
          · as_aux_lemma =>
              have HBS := Lib.hid hbs
              have HGS := Lib.hid hgs
              have HG0 : Hid (gl = 0) := Lib.hid (by rw [HGE.out, hgs]; rfl)
              clear hgs hbs
              have HLA := Lib.hid (last_us O3.out 3 (.head _) HK.out h0)
              rw [HBS.out, show sealN [] = 0 from rfl, show lastB [] = [] from rfl, show lastT 3 [] = noTag from rfl, show ([] : List UInt8).length = 0 from rfl, show ((0 : Nat) : Int) = (gl : Int) by rw [HG0.out]] at HLA
              unfold tagV at HLA
              rw [← HZZ.out] at HLA
              refine HLA.out.mono ?_
              rintro E w4 ⟨A9, c9, rfl, -, HB4⟩
              clear HLA
              have O4 := Lib.hid ((O3.out.next HB4.out).lit (.cells Z.toArray 36 (0, 0)))
              have hL4 : Hid (∀ p ∈ ((u, usOf g 3) :: LG), p.1 ≠ w4.heap.size) := Lib.hid fun p hp => by have := (O3.out.next HB4.out).dat.lt (q := p.1) (o := p.2) hp; omega
              have HA4 : Hid ((w4.alloc (.cells Z.toArray 36)).heap[w4.heap.size]? = some (.cells Z.toArray 36 (0, 0))) := Lib.hid (row_new _ _ _)
              go_wp2_with (first | (refine wpList_store_all rfl 36 (.tmp 10) (.tmp 61) rfl w4.heap.size Z Z 36 HA4.out rfl rfl rfl HIZ.out HOZ.out ?_; intro wx G5))
              have OX := Lib.hid (O4.out.write hL4.out G5.out.1 G5.out.2)
              have HST : Hid (Strs w LG (.slice A4 gl c4) gs wx) := Lib.hid (HS3.out.go (fun p hp => O3.out.get (q := p.1) (o := p.2) (.tail _ hp)) (fun p hp => OX.out.get (q := p.1) (o := p.2) (.tail _ (.tail _ hp))))
              obtain ⟨LX, hLX⟩ : ∃ LX, LX = (w4.heap.size, Obj.cells Z.toArray 36 (0, 0)) :: (u, usOf g 3) :: LG := ⟨_, rfl⟩
              have HU : Hid ((u, usOf g 3) ∈ LX) := Lib.hid (by rw [hLX]; exact .tail _ (.head _))
              have HLS : Hid (∀ p ∈ LG, p ∈ LX) := Lib.hid fun p hp => by rw [hLX]; exact .tail _ (.tail _ hp)
              rw [← hLX] at OX
              clear hLX
              have HGN : Hid (gs.length = gl) := Lib.hid HGE.out.symm
              have HG2 : Hid (gl ≤ 2 * k + 1) := Lib.hid (by have := HGL.out; have := HGE.out; omega)
              have HNB : Hid (gl ≤ 62) := Lib.hid (by omega)
              have HNS : Hid (sealN bs = gl) := Lib.hid (by rw [HBS.out, HG0.out]; rfl)
              have HGV : Hid (Giv gs bs) := Lib.hid HD.out.2.2.2.2.2
              have hz0 : ¬ (0 < (gl : Int)) := by have := HG0.out; omega
              clear O3 HB4 O4 hL4 HA4 G5 HS3 HD hgl hw0 hw1
              obtain ⟨N, hN⟩ : ∃ N, N = gl := ⟨_, rfl⟩
              subst hN
              try simp only [Act.put]
              refine wp_region_any (by kernel_rfl) ?_
              change wpAny _ _ _ _ _ _ _ (wx.drewN 1)
              have OQ := Lib.hid (OX.out.next (w3 := wx.drewN 1) ⟨rfl, rfl, rfl, Nat.le_refl _, fun _ _ => rfl⟩)
              have HSQ : Hid (Strs w LG (.slice A4 N c4) gs (wx.drewN 1)) := Lib.hid (HST.out.go (fun p hp => OX.out.get (q := p.1) (o := p.2) (HLS.out p hp)) (fun p hp => OQ.out.get (q := p.1) (o := p.2) (HLS.out p hp)))
              clear OX HST
              generalize wx.drewN 1 = w7 at OQ HSQ ⊢
              refine wpAny_of_held (S := fun W => Below w7.heap.size w7 W) _ _ _ _ ?_
              refine wpAnyH_take (i := 0) (oi := { dst := some 86, op := Op.move (Operand.tmp 8), type := 35, pos := "law.go:164", after := #[], guard := none }) (v := .int .u64 (N : Int)) rfl (by kernel_rfl) (by kernel_rfl) (by kernel_rfl) (fun _ _ _ h => h) (Or.inl ⟨by kernel_rfl, fun W hSW => by go_simp⟩) (Below.refl _ _) ?_
              try simp only [Act.put, List.setIfInBounds_toArray, List.set_cons_zero, List.set_cons_succ]
              refine wpAnyH_take (i := 1) (oi := { dst := some 87, op := Op.binOp BinOp.gtr 35 (Operand.tmp 86) (Operand.const (Value.int IntKind.u64 0)) 35, type := 4, pos := "law.go:164", after := #[{ on := 0, ground := Ground.data }], guard := none }) (v := .bool false) rfl (by kernel_rfl) (by kernel_rfl) (by kernel_rfl) (fun _ _ _ h => h) (Or.inl ⟨by kernel_rfl, fun W hSW => by go_simp; try omega⟩) (Below.refl _ _) ?_
              try simp only [Act.put, List.setIfInBounds_toArray, List.set_cons_zero, List.set_cons_succ]
              refine wpAnyH_take (i := 2) (oi := { dst := some 88, op := Op.move (Operand.tmp 87), type := 4, pos := "law.go:164", after := #[{ on := 1, ground := Ground.data }], guard := none }) (v := .bool false) rfl (by kernel_rfl) (by kernel_rfl) (by kernel_rfl) (fun _ _ _ h => h) (Or.inl ⟨by kernel_rfl, fun W hSW => by go_simp⟩) (Below.refl _ _) ?_
              try simp only [Act.put, List.setIfInBounds_toArray, List.set_cons_zero, List.set_cons_succ]
              refine wpAnyH_take (i := 3) (oi := { dst := some 89, op := Op.move (Operand.tmp 4), type := 28, pos := "law.go:164", after := #[{ on := 2, ground := Ground.guard }], guard := some (2, true) }) (v := undef) rfl (by kernel_rfl) (by kernel_rfl) (by kernel_rfl) (fun _ _ _ h => h) (Or.inr ⟨by kernel_rfl, rfl⟩) (Below.refl _ _) ?_
              try simp only [Act.put, List.setIfInBounds_toArray, List.set_cons_zero, List.set_cons_succ]
              refine wpAnyH_take (i := 4) (oi := { dst := some 90, op := Op.move (Operand.tmp 8), type := 35, pos := "law.go:164", after := #[{ on := 2, ground := Ground.guard }], guard := some (2, true) }) (v := undef) rfl (by kernel_rfl) (by kernel_rfl) (by kernel_rfl) (fun _ _ _ h => h) (Or.inr ⟨by kernel_rfl, rfl⟩) (Below.refl _ _) ?_
              try simp only [Act.put, List.setIfInBounds_toArray, List.set_cons_zero, List.set_cons_succ]
              refine wpAnyH_take (i := 5) (oi := { dst := some 91, op := Op.binOp BinOp.sub 35 (Operand.tmp 90) (Operand.const (Value.int IntKind.u64 1)) 35, type := 35, pos := "law.go:164", after := #[{ on := 4, ground := Ground.data }, { on := 2, ground := Ground.guard }], guard := some (2, true) }) (v := undef) rfl (by kernel_rfl) (by kernel_rfl) (by kernel_rfl) (fun _ _ _ h => h) (Or.inr ⟨by kernel_rfl, rfl⟩) (Below.refl _ _) ?_
              try simp only [Act.put, List.setIfInBounds_toArray, List.set_cons_zero, List.set_cons_succ]
              refine wpAnyH_take (i := 6) (oi := { dst := some 92, op := Op.indexAddr 28 (Operand.tmp 89) (Operand.tmp 91), type := 0, pos := "law.go:164", after := #[{ on := 3, ground := Ground.data }, { on := 5, ground := Ground.data }, { on := 2, ground := Ground.guard }], guard := some (2, true) }) (v := undef) rfl (by kernel_rfl) (by kernel_rfl) (by kernel_rfl) (fun _ _ _ h => h) (Or.inr ⟨by kernel_rfl, rfl⟩) (Below.refl _ _) ?_
              try simp only [Act.put, List.setIfInBounds_toArray, List.set_cons_zero, List.set_cons_succ]
              refine wpAnyH_take (i := 7) (oi := { dst := some 93, op := Op.load 9 (Operand.tmp 92), type := 9, pos := "law.go:164", after := #[{ on := 6, ground := Ground.data }, { on := 2, ground := Ground.guard }], guard := some (2, true) }) (v := undef) rfl (by kernel_rfl) (by kernel_rfl) (by kernel_rfl) (fun _ _ _ h => h) (Or.inr ⟨by kernel_rfl, rfl⟩) (Below.refl _ _) ?_
              try simp only [Act.put, List.setIfInBounds_toArray, List.set_cons_zero, List.set_cons_succ]
              refine wpAnyH_take (i := 8) (oi := { dst := some 94, op := Op.move (Operand.tmp 9), type := 29, pos := "law.go:164", after := #[{ on := 2, ground := Ground.guard }], guard := some (2, true) }) (v := undef) rfl (by kernel_rfl) (by kernel_rfl) (by kernel_rfl) (fun _ _ _ h => h) (Or.inr ⟨by kernel_rfl, rfl⟩) (Below.refl _ _) ?_
              try simp only [Act.put, List.setIfInBounds_toArray, List.set_cons_zero, List.set_cons_succ]
              refine wpAnyH_take (i := 9) (oi := { dst := some 95, op := Op.convert 29 9 (Operand.tmp 94), type := 9, pos := "law.go:164", after := #[{ on := 8, ground := Ground.data }, { on := 2, ground := Ground.guard }], guard := some (2, true) }) (v := undef) rfl (by kernel_rfl) (by kernel_rfl) (by kernel_rfl) (fun _ _ _ h => h) (Or.inr ⟨by kernel_rfl, rfl⟩) (Below.refl _ _) ?_
              try simp only [Act.put, List.setIfInBounds_toArray, List.set_cons_zero, List.set_cons_succ]
              refine wpAnyH_take (i := 10) (oi := { dst := some 96, op := Op.binOp BinOp.neq 9 (Operand.tmp 93) (Operand.tmp 95) 9, type := 4, pos := "law.go:164", after := #[{ on := 7, ground := Ground.data }, { on := 9, ground := Ground.data }, { on := 2, ground := Ground.guard }], guard := some (2, true) }) (v := undef) rfl (by kernel_rfl) (by kernel_rfl) (by kernel_rfl) (fun _ _ _ h => h) (Or.inr ⟨by kernel_rfl, rfl⟩) (Below.refl _ _) ?_
              try simp only [Act.put, List.setIfInBounds_toArray, List.set_cons_zero, List.set_cons_succ]
              refine wpAnyH_take (i := 11) (oi := { dst := some 97, op := Op.move (Operand.tmp 96), type := 4, pos := "law.go:164", after := #[{ on := 10, ground := Ground.data }, { on := 2, ground := Ground.chain }, { on := 2, ground := Ground.guard }], guard := some (2, true) }) (v := undef) rfl (by kernel_rfl) (by kernel_rfl) (by kernel_rfl) (fun _ _ _ h => h) (Or.inr ⟨by kernel_rfl, rfl⟩) (Below.refl _ _) ?_
              try simp only [Act.put, List.setIfInBounds_toArray, List.set_cons_zero, List.set_cons_succ]
              refine wpAnyH_take (i := 12) (oi := { dst := some 98, op := Op.move (Operand.tmp 8), type := 35, pos := "law.go:164", after := #[{ on := 11, ground := Ground.guard }], guard := some (11, false) }) (v := undef) rfl (by kernel_rfl) (by kernel_rfl) (by kernel_rfl) (fun _ _ _ h => h) (Or.inr ⟨by kernel_rfl, rfl⟩) (Below.refl _ _) ?_
              try simp only [Act.put, List.setIfInBounds_toArray, List.set_cons_zero, List.set_cons_succ]
              refine wpAnyH_take (i := 13) (oi := { dst := some 99, op := Op.move (Operand.tmp 9), type := 29, pos := "law.go:164", after := #[{ on := 11, ground := Ground.guard }], guard := some (11, false) }) (v := undef) rfl (by kernel_rfl) (by kernel_rfl) (by kernel_rfl) (fun _ _ _ h => h) (Or.inr ⟨by kernel_rfl, rfl⟩) (Below.refl _ _) ?_
              try simp only [Act.put, List.setIfInBounds_toArray, List.set_cons_zero, List.set_cons_succ]
              refine wpAnyH_take (i := 14) (oi := { dst := some 100, op := Op.load 36 (Operand.tmp 10), type := 36, pos := "law.go:164", after := #[{ on := 11, ground := Ground.guard }], guard := some (11, false) }) (v := undef) rfl (by kernel_rfl) (by kernel_rfl) (by kernel_rfl) (fun _ _ _ h => h) (Or.inr ⟨by kernel_rfl, rfl⟩) (Below.refl _ _) ?_
              try simp only [Act.put, List.setIfInBounds_toArray, List.set_cons_zero, List.set_cons_succ]
              refine wpAnyH_take (i := 15) (oi := { dst := some 101, op := Op.call { callee := Callee.value (Operand.func 14), args := #[Operand.const (Value.int IntKind.i64 3), Operand.tmp 98, Operand.tmp 99, Operand.tmp 100], argTypes := #[3, 35, 29, 36] }, type := 4, pos := "law.go:164", after := #[{ on := 12, ground := Ground.data }, { on := 13, ground := Ground.data }, { on := 14, ground := Ground.data }, { on := 11, ground := Ground.chain }, { on := 11, ground := Ground.guard }], guard := some (11, false) }) (v := undef) rfl (by kernel_rfl) (by kernel_rfl) (by kernel_rfl) (fun _ _ _ h => h) (Or.inr ⟨by kernel_rfl, rfl⟩) (Below.refl _ _) ?_
              try simp only [Act.put, List.setIfInBounds_toArray, List.set_cons_zero, List.set_cons_succ]
              refine wpAnyH_take (i := 16) (oi := { dst := some 102, op := Op.unOp UnOp.not 4 (Operand.tmp 101), type := 4, pos := "law.go:164", after := #[{ on := 15, ground := Ground.data }, { on := 11, ground := Ground.guard }], guard := some (11, false) }) (v := undef) rfl (by kernel_rfl) (by kernel_rfl) (by kernel_rfl) (fun _ _ _ h => h) (Or.inr ⟨by kernel_rfl, rfl⟩) (Below.refl _ _) ?_
              try simp only [Act.put, List.setIfInBounds_toArray, List.set_cons_zero, List.set_cons_succ]
              refine wpAnyH_take (i := 17) (oi := { dst := some 103, op := Op.pick (Operand.tmp 97) (Operand.const (Value.bool true)) (Operand.tmp 102), type := 4, pos := "law.go:164", after := #[{ on := 11, ground := Ground.data }, { on := 16, ground := Ground.data }, { on := 2, ground := Ground.guard }], guard := some (2, true) }) (v := undef) rfl (by kernel_rfl) (by kernel_rfl) (by kernel_rfl) (fun _ _ _ h => h) (Or.inr ⟨by kernel_rfl, rfl⟩) (Below.refl _ _) ?_
              try simp only [Act.put, List.setIfInBounds_toArray, List.set_cons_zero, List.set_cons_succ]
              refine wpAnyH_take (i := 18) (oi := { dst := some 104, op := Op.pick (Operand.tmp 88) (Operand.tmp 103) (Operand.const (Value.bool false)), type := 4, pos := "law.go:164", after := #[{ on := 2, ground := Ground.data }, { on := 17, ground := Ground.data }], guard := none }) (v := .bool false) rfl (by kernel_rfl) (by kernel_rfl) (by kernel_rfl) (fun _ _ _ h => h) (Or.inl ⟨by kernel_rfl, fun W hSW => by go_simp⟩) (Below.refl _ _) ?_
              try simp only [Act.put, List.setIfInBounds_toArray, List.set_cons_zero, List.set_cons_succ]
              refine wpAnyH_done (by kernel_rfl) ?_ _
              have OY := OQ
              have HSY := HSQ
              clear OQ HSQ
              obtain ⟨wy, hwy⟩ : ∃ wy, wy = w7 := ⟨_, rfl⟩
              subst hwy
              clear hz0
              have cn := HCN.out _ OY.out.dat.below
              go_wp2_with fail
              refine (cell_fuse OY.out (x16 : Int) (by omega)).mono ?_
              rintro E wf ⟨rfl, OF⟩
              have HSF : Hid (Strs w LG (.slice A4 N c4) gs wf) := Lib.hid (HSY.out.go (fun p hp => OY.out.get (q := p.1) (o := p.2) (HLS.out p hp)) (fun p hp => OF.out.get (q := p.1) (o := p.2) (HLS.out p hp)))
              clear OY HSY cn
              have HSFO : Hid (∀ p ∈ LG, wf.heap[p.1]? = some p.2) := Lib.hid fun p hp => OF.out.get (q := p.1) (o := p.2) (HLS.out p hp)
              have cb := HCB.out _ OF.out.dat.below
              have ha := HC.out.2.2.slot
              have htp := HC.out.2.2.top_le
              have hsm := HC.out.2.2.small
              have hNB : N ≤ 62 := HNB.out
              obtain ⟨s6, e, hrn, h08, hcr⟩ := renew_crash (s := s.fuseAt (x16 : Int)) (at' := 0) (slot := 1 - (a : Int)) (bs := Oct.be 8 (N + 1) ++ x.bs) HC.out.1.1 HC.out.2.1 (by omega)
              have htg : topGo (s.fuseAt (x16 : Int)) 0 20 = topGo s 0 20 := topGo_congr (fun _ => rfl) 0 20
              have hlen : (Oct.be 8 (N + 1) ++ x.bs).length ≤ 1100 := by rw [List.length_append, Oct.be_length, ← HM.out]; omega
              have hp := next_us OF.out 3 HU.out HK.out h0 HC.out.1.1 (by omega) (x := 0) (by omega) (by omega) (by rw [htg]; omega) (b := x.bs) (fun W hb1 _ => HRB.out W hb1) HSB.out hml N HNS.out (by omega) hrn
              obtain ⟨s9, k1, k2, k3, k4, k5, k6⟩ := hcr x.picks
              rw [htg] at k5 k6
              have e1 : (0 : Int) + (1 - (a : Int)) * 10 = 0 + ((1 - a : Nat) : Int) * 10 := by omega
              rw [e1] at k5 k6
              have HCI := Lib.hid (HC.out.2.2.crash (x := 0) (by omega) (by omega) (Oct.be 8 (N + 1) ++ x.bs) hlen HC.out.1.1 HC.out.2.1 k2 k4 k5)
              have HON : Hid (s6.offed.on x.picks = (s9, 0)) := Lib.hid k1
              have HC9 : Hid (Calm s9 ∧ s9.loose = []) := Lib.hid ⟨⟨k2, k3⟩, k4⟩
              have HK6 := Lib.hid k6
              have hTL := Sh.numTag_length 3 (N + 1) x.bs
              have HCK1 : Hid (∀ W, Below w.heap.size w W → Calls Tryd.prog 14 #[.int .i64 3, .int .u64 ((N + 1 : Nat) : Int), .slice x.adr m x.room, .agg (u8s (Sh.numTag 3 (N + 1) x.bs)).toArray] W fun E w' => E = .returned (.bool true) ∧ Hid (Below W.heap.size W w')) := Lib.hid fun W hb => by
                have hr := HRB.out W hb
                have hs := HSB.out
                rw [HM.out] at hr hs ⊢
                have := check_us 3 (N + 1) (t := Sh.numTag 3 (N + 1) x.bs) hr hs (by have := HM.out; omega) hTL (HK.out.below hb h0) (Nat.lt_of_lt_of_le h0 hb.size)
                rwa [show chk 3 (N + 1) x.bs (Sh.numTag 3 (N + 1) x.bs) = true by have := HM.out; simp [chk, isRep, mayN]; omega] at this
              obtain ⟨ans, hans⟩ : ∃ ans, ans = chk 3 (N + 2) x.bs (Sh.numTag 3 (N + 1) x.bs) := ⟨_, rfl⟩
              have HCK2 : Hid (∀ W, Below w.heap.size w W → Calls Tryd.prog 14 #[.int .i64 3, .int .u64 ((N + 2 : Nat) : Int), .slice x.adr m x.room, .agg (u8s (Sh.numTag 3 (N + 1) x.bs)).toArray] W fun E w' => E = .returned (.bool ans) ∧ Hid (Below W.heap.size W w')) := Lib.hid fun W hb => by
                have hr := HRB.out W hb
                have hs := HSB.out
                rw [HM.out] at hr hs ⊢
                rw [hans]
                exact check_us 3 (N + 2) (t := Sh.numTag 3 (N + 1) x.bs) hr hs (by have := HM.out; omega) hTL (HK.out.below hb h0) (Nat.lt_of_lt_of_le h0 hb.size)
              have hT2 := Sh.numTag_length 3 (N + 2) x.bs
              have HNM : Hid (∀ W, Below w.heap.size w W → Calls Tryd.prog 17 #[.int .i64 3, .int .u64 ((N + 2 : Nat) : Int), .slice x.adr m x.room] W fun E w' => E = .returned (.agg (u8s (Sh.numTag 3 (N + 2) x.bs)).toArray) ∧ Below W.heap.size W w') := Lib.hid fun W hb => by
                have hr := HRB.out W hb
                have hs := HSB.out
                rw [HM.out] at hr hs ⊢
                exact Sh.refNumbered_any 3 (N + 2) x.bs x.adr _ x.room W (rd_sh hr) hs (by have := HM.out; omega) (HK.out.below hb h0) (Nat.lt_of_lt_of_le h0 hb.size)
              have heq2 : ∀ w, (Op.equalIn 10000 36 (.agg (u8s (Sh.numTag 3 (N + 2) x.bs)).toArray) (.agg (u8s (Sh.numTag 3 (N + 1) x.bs)).toArray)).run Tryd.prog w = .ok ans w := fun w => by
                have hmm := HM.out
                rw [eq_tags _ _ hT2 hTL, hans, chk_ref 3 (N + 2) x.bs _ rfl (by simp [mayN]; omega)]
              have HI1 : Hid ((Tryd.prog.info? 36).map (·.size) = some (u8s (Sh.numTag 3 (N + 1) x.bs)).length) := Lib.hid (tag_info hTL)
              have HO1 : Hid (∀ v ∈ u8s (Sh.numTag 3 (N + 1) x.bs), v.oneCell' = true) := Lib.hid (u8s_one _)
              have HZ1 := Lib.hid (HLZ.out _ hTL)
              unfold tagV at hp
              generalize Sh.numTag 3 (N + 1) x.bs = T1 at hp HCK1 HCK2 heq2 HI1 HO1 HZ1
              generalize Sh.numTag 3 (N + 2) x.bs = T2 at HNM heq2
              generalize hnb : Oct.be 8 (N + 1) ++ x.bs = nb at hp HCI HK6
              have HNW := Lib.hid hnb
              clear k1 k2 k3 k4 k5 k6 hcr hrn htg e1 htp hsm ha OF hTL hT2 hans hlen hnb
              generalize topGo s 0 20 = tk at HCI HK6
              have hwn1 : IntKind.u64.wrap ((N : Int) + 1) = ((N + 1 : Nat) : Int) := by rw [IntKind.wrap_u64]; omega
              have hwn2 : IntKind.u64.wrap (((N + 1 : Nat) : Int) + 1) = ((N + 2 : Nat) : Int) := by rw [IntKind.wrap_u64]; omega
              have hwn3 : IntKind.u64.wrap ((N : Int) + 1 + 1) = (N : Int) + 2 := by rw [IntKind.wrap_u64]; omega
              clear hNB
              rcases h08 with h0e | h8e
              · subst h0e
                rw [if_pos rfl, if_pos rfl] at hp
                have HP := Lib.hid hp
                clear hp
                go_wp2_with fail
                refine HP.out.mono ?_
                rintro E w9 ⟨rfl, H9⟩
                clear HP cb
                have DA := Lib.hid (H9.out.dat.alloc (.cells Z.toArray 36 (0, 0)))
                have hL9 : Hid (∀ p ∈ LX, p.1 ≠ w9.heap.size) := Lib.hid fun p hp => by have := H9.out.dat.lt (q := p.1) (o := p.2) hp; omega
                have HA9 : Hid ((w9.alloc (.cells Z.toArray 36)).heap[w9.heap.size]? = some (.cells Z.toArray 36 (0, 0))) := Lib.hid (row_new _ _ _)
                have HS9' : Hid (Strs w LG (.slice A4 N c4) gs w9) := Lib.hid (HSF.out.go (fun p hp => by have := HSFO.out p hp; exact this) (fun p hp => H9.out.dat.get (q := p.1) (o := p.2) (HLS.out p hp)))
                clear HSF HSFO
                go_wp2_with (first | (refine wpList_store_all rfl 36 (.tmp 12) (.tmp 123) rfl w9.heap.size Z (u8s T1) 36 HA9.out HZ1.out rfl rfl HI1.out HO1.out ?_; intro w10 G10))
                have D10 := Lib.hid (DA.out.upd hL9.out G10.out.1 G10.out.2)
                have HS10 : Hid (Strs w LG (.slice A4 N c4) gs w10) := Lib.hid (HS9'.out.go (fun p hp => H9.out.dat.get (q := p.1) (o := p.2) (HLS.out p hp)) (fun p hp => D10.out.get (q := p.1) (o := p.2) (.tail _ (HLS.out p hp))))
                clear HS9' DA hL9 HA9 H9 G10
                try simp only [Act.put]
                refine wp_region_any (by kernel_rfl) ?_
                change wpAny _ _ _ _ _ _ _ (w10.drewN 1)
                have DQ := Lib.hid (D10.out.next (w' := w10.drewN 1) ⟨rfl, rfl, rfl, Nat.le_refl _, fun _ _ => rfl⟩)
                have HSQ : Hid (Strs w LG (.slice A4 N c4) gs (w10.drewN 1)) := Lib.hid (HS10.out.go (fun p hp => D10.out.get (q := p.1) (o := p.2) (.tail _ (HLS.out p hp))) (fun p hp => DQ.out.get (q := p.1) (o := p.2) (.tail _ (HLS.out p hp))))
                clear D10 HS10
                generalize w10.drewN 1 = w11 at DQ HSQ ⊢
                have HSX : Hid (∀ W, Below w11.heap.size w11 W → Below w.heap.size w W) := Lib.hid fun W hb => DQ.out.below.trans (hb.mono DQ.out.below.size)
                have HTG : Hid (w11.heap[w9.heap.size]? = some (.cells (u8s T1).toArray 36 (0, 0)) ∧ w9.heap.size < w11.heap.size) := Lib.hid ⟨DQ.out.get (.head _), DQ.out.lt (q := w9.heap.size) (.head _)⟩
                refine wpAny_of_held (S := fun W => Below w11.heap.size w11 W) _ _ _ _ ?_
                refine wpAnyH_take (i := 0) (oi := { dst := some 127, op := Op.move (Operand.tmp 11), type := 35, pos := "law.go:170", after := #[], guard := none }) (v := .int .u64 ((N + 1 : Nat) : Int)) rfl (by kernel_rfl) (by kernel_rfl) (by kernel_rfl) (fun _ _ _ h => h) (Or.inl ⟨by kernel_rfl, fun W hSW => by go_simp⟩) (Below.refl _ _) ?_
                try simp only [Act.put, List.setIfInBounds_toArray, List.set_cons_zero, List.set_cons_succ]
                refine wpAnyH_take (i := 1) (oi := { dst := some 128, op := Op.move (Operand.tmp 8), type := 35, pos := "law.go:170", after := #[], guard := none }) (v := .int .u64 (N : Int)) rfl (by kernel_rfl) (by kernel_rfl) (by kernel_rfl) (fun _ _ _ h => h) (Or.inl ⟨by kernel_rfl, fun W hSW => by go_simp⟩) (Below.refl _ _) ?_
                try simp only [Act.put, List.setIfInBounds_toArray, List.set_cons_zero, List.set_cons_succ]
                refine wpAnyH_take (i := 2) (oi := { dst := some 129, op := Op.binOp BinOp.add 35 (Operand.tmp 128) (Operand.const (Value.int IntKind.u64 1)) 35, type := 35, pos := "law.go:170", after := #[{ on := 1, ground := Ground.data }], guard := none }) (v := .int .u64 ((N + 1 : Nat) : Int)) rfl (by kernel_rfl) (by kernel_rfl) (by kernel_rfl) (fun _ _ _ h => h) (Or.inl ⟨by kernel_rfl, fun W hSW => by go_simp⟩) (Below.refl _ _) ?_
                try simp only [Act.put, List.setIfInBounds_toArray, List.set_cons_zero, List.set_cons_succ]
                refine wpAnyH_take (i := 3) (oi := { dst := some 130, op := Op.binOp BinOp.neq 35 (Operand.tmp 127) (Operand.tmp 129) 35, type := 4, pos := "law.go:170", after := #[{ on := 0, ground := Ground.data }, { on := 2, ground := Ground.data }], guard := none }) (v := .bool false) rfl (by kernel_rfl) (by kernel_rfl) (by kernel_rfl) (fun _ _ _ h => h) (Or.inl ⟨by kernel_rfl, fun W hSW => by go_simp⟩) (Below.refl _ _) ?_
                try simp only [Act.put, List.setIfInBounds_toArray, List.set_cons_zero, List.set_cons_succ]
                refine wpAnyH_take (i := 4) (oi := { dst := some 131, op := Op.move (Operand.tmp 130), type := 4, pos := "law.go:170", after := #[{ on := 3, ground := Ground.data }], guard := none }) (v := .bool false) rfl (by kernel_rfl) (by kernel_rfl) (by kernel_rfl) (fun _ _ _ h => h) (Or.inl ⟨by kernel_rfl, fun W hSW => by go_simp⟩) (Below.refl _ _) ?_
                try simp only [Act.put, List.setIfInBounds_toArray, List.set_cons_zero, List.set_cons_succ]
                refine wpAnyH_take (i := 5) (oi := { dst := some 132, op := Op.move (Operand.tmp 11), type := 35, pos := "law.go:170", after := #[{ on := 4, ground := Ground.guard }], guard := some (4, false) }) (v := .int .u64 ((N + 1 : Nat) : Int)) rfl (by kernel_rfl) (by kernel_rfl) (by kernel_rfl) (fun _ _ _ h => h) (Or.inl ⟨by kernel_rfl, fun W hSW => by go_simp⟩) (Below.refl _ _) ?_
                try simp only [Act.put, List.setIfInBounds_toArray, List.set_cons_zero, List.set_cons_succ]
                refine wpAnyH_take (i := 6) (oi := { dst := some 133, op := Op.move (Operand.tmp 0), type := 22, pos := "law.go:170", after := #[{ on := 4, ground := Ground.guard }], guard := some (4, false) }) (v := .slice (some ⟨b, o, none⟩) n c) rfl (by kernel_rfl) (by kernel_rfl) (by kernel_rfl) (fun _ _ _ h => h) (Or.inl ⟨by kernel_rfl, fun W hSW => by go_simp⟩) (Below.refl _ _) ?_
                try simp only [Act.put, List.setIfInBounds_toArray, List.set_cons_zero, List.set_cons_succ]
                refine wpAnyH_take (i := 7) (oi := { dst := some 134, op := Op.move (Operand.tmp 5), type := 3, pos := "law.go:170", after := #[{ on := 4, ground := Ground.guard }], guard := some (4, false) }) (v := .int .i64 (k : Int)) rfl (by kernel_rfl) (by kernel_rfl) (by kernel_rfl) (fun _ _ _ h => h) (Or.inl ⟨by kernel_rfl, fun W hSW => by go_simp⟩) (Below.refl _ _) ?_
                try simp only [Act.put, List.setIfInBounds_toArray, List.set_cons_zero, List.set_cons_succ]
                refine wpAnyH_take (i := 8) (oi := { dst := some 135, op := Op.indexAddr 22 (Operand.tmp 133) (Operand.tmp 134), type := 0, pos := "law.go:170", after := #[{ on := 6, ground := Ground.data }, { on := 7, ground := Ground.data }, { on := 4, ground := Ground.guard }], guard := some (4, false) }) (v := .pointer (some ⟨b, o + k * 3, none⟩)) rfl (by kernel_rfl) (by kernel_rfl) (by kernel_rfl) (fun _ _ _ h => h) (Or.inl ⟨by kernel_rfl, fun W hSW => by go_simp⟩) (Below.refl _ _) ?_
                try simp only [Act.put, List.setIfInBounds_toArray, List.set_cons_zero, List.set_cons_succ]
                refine wpAnyH_take (i := 9) (oi := { dst := some 136, op := Op.fieldAddr 31 (Operand.tmp 135) 0, type := 0, pos := "law.go:170", after := #[{ on := 8, ground := Ground.data }, { on := 4, ground := Ground.guard }], guard := some (4, false) }) (v := .pointer (some ⟨b, o + k * 3, none⟩)) rfl (by kernel_rfl) (by kernel_rfl) (by kernel_rfl) (fun _ _ _ h => h) (Or.inl ⟨by kernel_rfl, fun W hSW => by go_simp⟩) (Below.refl _ _) ?_
                try simp only [Act.put, List.setIfInBounds_toArray, List.set_cons_zero, List.set_cons_succ]
                refine wpAnyH_take (i := 10) (oi := { dst := some 137, op := Op.load 29 (Operand.tmp 136), type := 29, pos := "law.go:170", after := #[{ on := 9, ground := Ground.data }, { on := 4, ground := Ground.guard }], guard := some (4, false) }) (v := .slice x.adr m x.room) rfl (by kernel_rfl) (by kernel_rfl) (by kernel_rfl) (fun _ _ _ h => h) (Or.inl ⟨by kernel_rfl, fun W hSW => by have hcv := HCB.out W (HSX.out W hSW); go_simp⟩) (Below.refl _ _) ?_
                try simp only [Act.put, List.setIfInBounds_toArray, List.set_cons_zero, List.set_cons_succ]
                refine wpAnyH_take (i := 11) (oi := { dst := some 138, op := Op.load 36 (Operand.tmp 12), type := 36, pos := "law.go:170", after := #[{ on := 4, ground := Ground.guard }], guard := some (4, false) }) (v := .agg (u8s T1).toArray) rfl (by kernel_rfl) (by kernel_rfl) (by kernel_rfl) (fun _ _ _ h => h) (Or.inl ⟨by kernel_rfl, fun W hSW => exec_load_mid 36 (.tmp 12) rfl w9.heap.size 0 rfl (u8s T1) _ (range_block ((hSW.block _ HTG.out.2).trans HTG.out.1) 0 _ (fun j v hv => by rw [Nat.zero_add]; exact hv)) Tryd.underlying36 rfl HI1.out⟩) (Below.refl _ _) ?_
                try simp only [Act.put, List.setIfInBounds_toArray, List.set_cons_zero, List.set_cons_succ]
                refine wpAnyH_ready (rs := [12]) (by kernel_rfl) (by simp) ?_
                refine AllReadyH.cons (o := { dst := some 139, op := Op.call { callee := Callee.value (Operand.func 14), args := #[Operand.const (Value.int IntKind.i64 3), Operand.tmp 132, Operand.tmp 137, Operand.tmp 138], argTypes := #[3, 35, 29, 36] }, type := 4, pos := "law.go:170", after := #[{ on := 5, ground := Ground.data }, { on := 10, ground := Ground.data }, { on := 11, ground := Ground.data }, { on := 4, ground := Ground.chain }, { on := 4, ground := Ground.guard }], guard := some (4, false) }) rfl (fun K' hK' => ?_) AllReadyH.nil
                go_simp
                go_at_call 14
                refine (HCK1.out w11 (HSX.out w11 (Below.refl _ _))).mono ?_
                rintro E w12 ⟨rfl, HBw12'⟩
                have HBw12 := HBw12'
                refine hK'.out _ _ HBw12.out (fun _ => wpAnyH_next HBw12.out ?_)
                clear hK' K'
                try simp only [Act.put, List.setIfInBounds_toArray, List.set_cons_zero, List.set_cons_succ]
                have HX12 : Hid (Below w11.heap.size w11 w12) := HBw12
                have HSX : Hid (∀ W, Below w12.heap.size w12 W → Below w.heap.size w W) := Lib.hid fun W hb => HSX.out W (HX12.out.trans (hb.mono HX12.out.size))
                have HTG : Hid (w12.heap[w9.heap.size]? = some (.cells (u8s T1).toArray 36 (0, 0)) ∧ w9.heap.size < w12.heap.size) := Lib.hid ⟨(HX12.out.block _ HTG.out.2).trans HTG.out.1, Nat.lt_of_lt_of_le HTG.out.2 HX12.out.size⟩
                refine wpAnyH_take (i := 13) (oi := { dst := some 140, op := Op.unOp UnOp.not 4 (Operand.tmp 139), type := 4, pos := "law.go:170", after := #[{ on := 12, ground := Ground.data }, { on := 4, ground := Ground.guard }], guard := some (4, false) }) (v := .bool false) rfl (by kernel_rfl) (by kernel_rfl) (by kernel_rfl) (fun _ _ _ h => h) (Or.inl ⟨by kernel_rfl, fun W hSW => by go_simp⟩) (Below.refl _ _) ?_
                try simp only [Act.put, List.setIfInBounds_toArray, List.set_cons_zero, List.set_cons_succ]
                refine wpAnyH_take (i := 14) (oi := { dst := some 141, op := Op.pick (Operand.tmp 131) (Operand.const (Value.bool true)) (Operand.tmp 140), type := 4, pos := "law.go:170", after := #[{ on := 4, ground := Ground.data }, { on := 13, ground := Ground.data }], guard := none }) (v := .bool false) rfl (by kernel_rfl) (by kernel_rfl) (by kernel_rfl) (fun _ _ _ h => h) (Or.inl ⟨by kernel_rfl, fun W hSW => by go_simp⟩) (Below.refl _ _) ?_
                try simp only [Act.put, List.setIfInBounds_toArray, List.set_cons_zero, List.set_cons_succ]
                refine wpAnyH_take (i := 15) (oi := { dst := some 142, op := Op.move (Operand.tmp 141), type := 4, pos := "law.go:170", after := #[{ on := 14, ground := Ground.data }, { on := 12, ground := Ground.chain }], guard := none }) (v := .bool false) rfl (by kernel_rfl) (by kernel_rfl) (by kernel_rfl) (fun _ _ _ h => h) (Or.inl ⟨by kernel_rfl, fun W hSW => by go_simp⟩) (Below.refl _ _) ?_
                try simp only [Act.put, List.setIfInBounds_toArray, List.set_cons_zero, List.set_cons_succ]
                refine wpAnyH_take (i := 16) (oi := { dst := some 143, op := Op.move (Operand.tmp 11), type := 35, pos := "law.go:170", after := #[{ on := 15, ground := Ground.guard }], guard := some (15, false) }) (v := .int .u64 ((N + 1 : Nat) : Int)) rfl (by kernel_rfl) (by kernel_rfl) (by kernel_rfl) (fun _ _ _ h => h) (Or.inl ⟨by kernel_rfl, fun W hSW => by go_simp⟩) (Below.refl _ _) ?_
                try simp only [Act.put, List.setIfInBounds_toArray, List.set_cons_zero, List.set_cons_succ]
                refine wpAnyH_take (i := 17) (oi := { dst := some 144, op := Op.binOp BinOp.add 35 (Operand.tmp 143) (Operand.const (Value.int IntKind.u64 1)) 35, type := 35, pos := "law.go:170", after := #[{ on := 16, ground := Ground.data }, { on := 15, ground := Ground.guard }], guard := some (15, false) }) (v := .int .u64 ((N + 2 : Nat) : Int)) rfl (by kernel_rfl) (by kernel_rfl) (by kernel_rfl) (fun _ _ _ h => h) (Or.inl ⟨by kernel_rfl, fun W hSW => by go_simp⟩) (Below.refl _ _) ?_
                try simp only [Act.put, List.setIfInBounds_toArray, List.set_cons_zero, List.set_cons_succ]
                refine wpAnyH_take (i := 18) (oi := { dst := some 145, op := Op.move (Operand.tmp 0), type := 22, pos := "law.go:170", after := #[{ on := 15, ground := Ground.guard }], guard := some (15, false) }) (v := .slice (some ⟨b, o, none⟩) n c) rfl (by kernel_rfl) (by kernel_rfl) (by kernel_rfl) (fun _ _ _ h => h) (Or.inl ⟨by kernel_rfl, fun W hSW => by go_simp⟩) (Below.refl _ _) ?_
                try simp only [Act.put, List.setIfInBounds_toArray, List.set_cons_zero, List.set_cons_succ]
                refine wpAnyH_take (i := 19) (oi := { dst := some 146, op := Op.move (Operand.tmp 5), type := 3, pos := "law.go:170", after := #[{ on := 15, ground := Ground.guard }], guard := some (15, false) }) (v := .int .i64 (k : Int)) rfl (by kernel_rfl) (by kernel_rfl) (by kernel_rfl) (fun _ _ _ h => h) (Or.inl ⟨by kernel_rfl, fun W hSW => by go_simp⟩) (Below.refl _ _) ?_
                try simp only [Act.put, List.setIfInBounds_toArray, List.set_cons_zero, List.set_cons_succ]
                refine wpAnyH_take (i := 20) (oi := { dst := some 147, op := Op.indexAddr 22 (Operand.tmp 145) (Operand.tmp 146), type := 0, pos := "law.go:170", after := #[{ on := 18, ground := Ground.data }, { on := 19, ground := Ground.data }, { on := 15, ground := Ground.guard }], guard := some (15, false) }) (v := .pointer (some ⟨b, o + k * 3, none⟩)) rfl (by kernel_rfl) (by kernel_rfl) (by kernel_rfl) (fun _ _ _ h => h) (Or.inl ⟨by kernel_rfl, fun W hSW => by go_simp⟩) (Below.refl _ _) ?_
                try simp only [Act.put, List.setIfInBounds_toArray, List.set_cons_zero, List.set_cons_succ]
                refine wpAnyH_take (i := 21) (oi := { dst := some 148, op := Op.fieldAddr 31 (Operand.tmp 147) 0, type := 0, pos := "law.go:170", after := #[{ on := 20, ground := Ground.data }, { on := 15, ground := Ground.guard }], guard := some (15, false) }) (v := .pointer (some ⟨b, o + k * 3, none⟩)) rfl (by kernel_rfl) (by kernel_rfl) (by kernel_rfl) (fun _ _ _ h => h) (Or.inl ⟨by kernel_rfl, fun W hSW => by go_simp⟩) (Below.refl _ _) ?_
                try simp only [Act.put, List.setIfInBounds_toArray, List.set_cons_zero, List.set_cons_succ]
                refine wpAnyH_take (i := 22) (oi := { dst := some 149, op := Op.load 29 (Operand.tmp 148), type := 29, pos := "law.go:170", after := #[{ on := 21, ground := Ground.data }, { on := 15, ground := Ground.guard }], guard := some (15, false) }) (v := .slice x.adr m x.room) rfl (by kernel_rfl) (by kernel_rfl) (by kernel_rfl) (fun _ _ _ h => h) (Or.inl ⟨by kernel_rfl, fun W hSW => by have hcv := HCB.out W (HSX.out W hSW); go_simp⟩) (Below.refl _ _) ?_
                try simp only [Act.put, List.setIfInBounds_toArray, List.set_cons_zero, List.set_cons_succ]
                refine wpAnyH_take (i := 23) (oi := { dst := some 150, op := Op.load 36 (Operand.tmp 12), type := 36, pos := "law.go:170", after := #[{ on := 15, ground := Ground.guard }], guard := some (15, false) }) (v := .agg (u8s T1).toArray) rfl (by kernel_rfl) (by kernel_rfl) (by kernel_rfl) (fun _ _ _ h => h) (Or.inl ⟨by kernel_rfl, fun W hSW => exec_load_mid 36 (.tmp 12) rfl w9.heap.size 0 rfl (u8s T1) _ (range_block ((hSW.block _ HTG.out.2).trans HTG.out.1) 0 _ (fun j v hv => by rw [Nat.zero_add]; exact hv)) Tryd.underlying36 rfl HI1.out⟩) (Below.refl _ _) ?_
                try simp only [Act.put, List.setIfInBounds_toArray, List.set_cons_zero, List.set_cons_succ]
                refine wpAnyH_take (i := 25) (oi := { dst := some 152, op := Op.move (Operand.tmp 11), type := 35, pos := "law.go:170", after := #[{ on := 15, ground := Ground.guard }], guard := some (15, false) }) (v := .int .u64 ((N + 1 : Nat) : Int)) rfl (by kernel_rfl) (by kernel_rfl) (by kernel_rfl) (fun _ _ _ h => h) (Or.inl ⟨by kernel_rfl, fun W hSW => by go_simp⟩) (Below.refl _ _) ?_
                try simp only [Act.put, List.setIfInBounds_toArray, List.set_cons_zero, List.set_cons_succ]
                refine wpAnyH_take (i := 26) (oi := { dst := some 153, op := Op.binOp BinOp.add 35 (Operand.tmp 152) (Operand.const (Value.int IntKind.u64 1)) 35, type := 35, pos := "law.go:170", after := #[{ on := 25, ground := Ground.data }, { on := 15, ground := Ground.guard }], guard := some (15, false) }) (v := .int .u64 ((N + 2 : Nat) : Int)) rfl (by kernel_rfl) (by kernel_rfl) (by kernel_rfl) (fun _ _ _ h => h) (Or.inl ⟨by kernel_rfl, fun W hSW => by go_simp⟩) (Below.refl _ _) ?_
                try simp only [Act.put, List.setIfInBounds_toArray, List.set_cons_zero, List.set_cons_succ]
                refine wpAnyH_take (i := 27) (oi := { dst := some 154, op := Op.move (Operand.tmp 0), type := 22, pos := "law.go:170", after := #[{ on := 15, ground := Ground.guard }], guard := some (15, false) }) (v := .slice (some ⟨b, o, none⟩) n c) rfl (by kernel_rfl) (by kernel_rfl) (by kernel_rfl) (fun _ _ _ h => h) (Or.inl ⟨by kernel_rfl, fun W hSW => by go_simp⟩) (Below.refl _ _) ?_
                try simp only [Act.put, List.setIfInBounds_toArray, List.set_cons_zero, List.set_cons_succ]
                refine wpAnyH_take (i := 28) (oi := { dst := some 155, op := Op.move (Operand.tmp 5), type := 3, pos := "law.go:170", after := #[{ on := 15, ground := Ground.guard }], guard := some (15, false) }) (v := .int .i64 (k : Int)) rfl (by kernel_rfl) (by kernel_rfl) (by kernel_rfl) (fun _ _ _ h => h) (Or.inl ⟨by kernel_rfl, fun W hSW => by go_simp⟩) (Below.refl _ _) ?_
                try simp only [Act.put, List.setIfInBounds_toArray, List.set_cons_zero, List.set_cons_succ]
                refine wpAnyH_take (i := 29) (oi := { dst := some 156, op := Op.indexAddr 22 (Operand.tmp 154) (Operand.tmp 155), type := 0, pos := "law.go:170", after := #[{ on := 27, ground := Ground.data }, { on := 28, ground := Ground.data }, { on := 15, ground := Ground.guard }], guard := some (15, false) }) (v := .pointer (some ⟨b, o + k * 3, none⟩)) rfl (by kernel_rfl) (by kernel_rfl) (by kernel_rfl) (fun _ _ _ h => h) (Or.inl ⟨by kernel_rfl, fun W hSW => by go_simp⟩) (Below.refl _ _) ?_
                try simp only [Act.put, List.setIfInBounds_toArray, List.set_cons_zero, List.set_cons_succ]
                refine wpAnyH_take (i := 30) (oi := { dst := some 157, op := Op.fieldAddr 31 (Operand.tmp 156) 0, type := 0, pos := "law.go:170", after := #[{ on := 29, ground := Ground.data }, { on := 15, ground := Ground.guard }], guard := some (15, false) }) (v := .pointer (some ⟨b, o + k * 3, none⟩)) rfl (by kernel_rfl) (by kernel_rfl) (by kernel_rfl) (fun _ _ _ h => h) (Or.inl ⟨by kernel_rfl, fun W hSW => by go_simp⟩) (Below.refl _ _) ?_
                try simp only [Act.put, List.setIfInBounds_toArray, List.set_cons_zero, List.set_cons_succ]
                refine wpAnyH_take (i := 31) (oi := { dst := some 158, op := Op.load 29 (Operand.tmp 157), type := 29, pos := "law.go:170", after := #[{ on := 30, ground := Ground.data }, { on := 15, ground := Ground.guard }], guard := some (15, false) }) (v := .slice x.adr m x.room) rfl (by kernel_rfl) (by kernel_rfl) (by kernel_rfl) (fun _ _ _ h => h) (Or.inl ⟨by kernel_rfl, fun W hSW => by have hcv := HCB.out W (HSX.out W hSW); go_simp⟩) (Below.refl _ _) ?_
                try simp only [Act.put, List.setIfInBounds_toArray, List.set_cons_zero, List.set_cons_succ]
                refine wpAnyH_take (i := 33) (oi := { dst := some 160, op := Op.load 36 (Operand.tmp 12), type := 36, pos := "law.go:170", after := #[{ on := 15, ground := Ground.guard }], guard := some (15, false) }) (v := .agg (u8s T1).toArray) rfl (by kernel_rfl) (by kernel_rfl) (by kernel_rfl) (fun _ _ _ h => h) (Or.inl ⟨by kernel_rfl, fun W hSW => exec_load_mid 36 (.tmp 12) rfl w9.heap.size 0 rfl (u8s T1) _ (range_block ((hSW.block _ HTG.out.2).trans HTG.out.1) 0 _ (fun j v hv => by rw [Nat.zero_add]; exact hv)) Tryd.underlying36 rfl HI1.out⟩) (Below.refl _ _) ?_
                try simp only [Act.put, List.setIfInBounds_toArray, List.set_cons_zero, List.set_cons_succ]
                refine wpAnyH_ready (rs := [24]) (by kernel_rfl) (by simp) ?_
                refine AllReadyH.cons (o := { dst := some 151, op := Op.call { callee := Callee.value (Operand.func 14), args := #[Operand.const (Value.int IntKind.i64 3), Operand.tmp 144, Operand.tmp 149, Operand.tmp 150], argTypes := #[3, 35, 29, 36] }, type := 4, pos := "law.go:170", after := #[{ on := 17, ground := Ground.data }, { on := 22, ground := Ground.data }, { on := 23, ground := Ground.data }, { on := 15, ground := Ground.chain }, { on := 15, ground := Ground.guard }], guard := some (15, false) }) rfl (fun K' hK' => ?_) AllReadyH.nil
                go_simp
                go_at_call 14
                refine (HCK2.out w12 (HSX.out w12 (Below.refl _ _))).mono ?_
                rintro E w13 ⟨rfl, HBw13'⟩
                have HBw13 := HBw13'
                refine hK'.out _ _ HBw13.out (fun _ => wpAnyH_next HBw13.out ?_)
                clear hK' K'
                try simp only [Act.put, List.setIfInBounds_toArray, List.set_cons_zero, List.set_cons_succ]
                have HX13 : Hid (Below w11.heap.size w11 w13) := Lib.hid (HX12.out.trans (HBw13.out.mono HX12.out.size))
                refine wpAnyH_ready (rs := [32]) (by kernel_rfl) (by simp) ?_
                refine AllReadyH.cons (o := { dst := some 159, op := Op.call { callee := Callee.value (Operand.func 17), args := #[Operand.const (Value.int IntKind.i64 3), Operand.tmp 153, Operand.tmp 158], argTypes := #[3, 35, 29] }, type := 36, pos := "law.go:170", after := #[{ on := 26, ground := Ground.data }, { on := 31, ground := Ground.data }, { on := 24, ground := Ground.chain }, { on := 15, ground := Ground.guard }], guard := some (15, false) }) rfl (fun K' hK' => ?_) AllReadyH.nil
                go_simp
                go_at_call 17
                refine (HNM.out w13 (HSX.out w13 HBw13.out)).mono ?_
                rintro E w14 ⟨rfl, HBw14'⟩
                have HBw14 := Lib.hid HBw14'
                refine hK'.out _ _ HBw14.out (fun _ => wpAnyH_next HBw14.out ?_)
                clear hK' K'
                try simp only [Act.put, List.setIfInBounds_toArray, List.set_cons_zero, List.set_cons_succ]
                have HX14 : Hid (Below w11.heap.size w11 w14) := Lib.hid (HX13.out.trans (HBw14.out.mono HX13.out.size))
                refine wpAnyH_take (i := 34) (oi := { dst := some 161, op := Op.binOp BinOp.eql 36 (Operand.tmp 159) (Operand.tmp 160) 36, type := 4, pos := "law.go:170", after := #[{ on := 32, ground := Ground.data }, { on := 33, ground := Ground.data }, { on := 15, ground := Ground.guard }], guard := some (15, false) }) (v := .bool ans) rfl (by kernel_rfl) (by kernel_rfl) (by kernel_rfl) (fun _ _ _ h => h) (Or.inl ⟨by kernel_rfl, fun W hSW => by go_simp⟩) (Below.refl _ _) ?_
                try simp only [Act.put, List.setIfInBounds_toArray, List.set_cons_zero, List.set_cons_succ]
                refine wpAnyH_take (i := 35) (oi := { dst := some 162, op := Op.binOp BinOp.neq 4 (Operand.tmp 151) (Operand.tmp 161) 4, type := 4, pos := "law.go:170", after := #[{ on := 24, ground := Ground.data }, { on := 34, ground := Ground.data }, { on := 15, ground := Ground.guard }], guard := some (15, false) }) (v := .bool false) rfl (by kernel_rfl) (by kernel_rfl) (by kernel_rfl) (fun _ _ _ h => h) (Or.inl ⟨by kernel_rfl, fun W hSW => by go_simp⟩) (Below.refl _ _) ?_
                try simp only [Act.put, List.setIfInBounds_toArray, List.set_cons_zero, List.set_cons_succ]
                refine wpAnyH_take (i := 36) (oi := { dst := some 163, op := Op.pick (Operand.tmp 142) (Operand.const (Value.bool true)) (Operand.tmp 162), type := 4, pos := "law.go:170", after := #[{ on := 15, ground := Ground.data }, { on := 35, ground := Ground.data }], guard := none }) (v := .bool false) rfl (by kernel_rfl) (by kernel_rfl) (by kernel_rfl) (fun _ _ _ h => h) (Or.inl ⟨by kernel_rfl, fun W hSW => by go_simp⟩) (Below.refl _ _) ?_
                try simp only [Act.put, List.setIfInBounds_toArray, List.set_cons_zero, List.set_cons_succ]
                refine wpAnyH_done (by kernel_rfl) ?_ _
                have D14 := Lib.hid (DQ.out.next HX14.out)
                have HS14 : Hid (Strs w LG (.slice A4 N c4) gs w14) := Lib.hid (HSQ.out.go (fun p hp => DQ.out.get (q := p.1) (o := p.2) (.tail _ (HLS.out p hp))) (fun p hp => D14.out.get (q := p.1) (o := p.2) (.tail _ (HLS.out p hp))))
                clear HSX HTG HX12 HX13 HX14 HBw12 HBw12' HBw13 HBw13' HBw14 HBw14' DQ HSQ HCK1 HCK2 HNM heq2
                have cb := HCB.out _ D14.out.below
                have hrun := run_str x.room (HRB.out _ D14.out.below)
                have HJ : Hid (Dat w d (20 + 10 * k + 10) s6 (LG ++ []) w14) := Lib.hid (D14.out.sub fun p hp => .tail _ (HLS.out p (by simpa using hp)))
                have HLG : Hid (gs.length = N) := HGN
                have hgsN : N = gs.length := HLG.out.symm
                have HGSN := Lib.hid hgsN
                rw [hgsN] at HS14 ⊢
                clear hgsN
                go_wp2_with (first | (at_builtin; refine wpList_strs keeps_dat (w := w) (L := []) (LG := LG) rfl (.tmp 164) (.tmp 171) rfl (.slice A4 gs.length c4) gs x.bs rfl rfl HJ.out D14.out.below.size HS14.out (by simp) (by have := HLG.out; have := HNB.out; omega) ?_; intro A5 c5 w15 LG5 H15))
                have D15 : Hid (Dat w d (20 + 10 * k + 10) s6 LG5 w15) := Lib.hid (H15.out.1.sub fun p hp => List.mem_append_left _ hp)
                have cp := HCP.out _ D15.out.below
                refine (dat_off D15.out).mono ?_
                rintro E wo ⟨rfl, ho8⟩
                have D8 := Lib.hid ho8
                clear ho8 cp
                have cp := HCP.out _ D8.out.below
                have HON2 := Lib.hid (dat_on D8.out (by omega) x.padr pm x.proom x.picks (HRP.out _ D8.out.below) HSP.out)
                rw [HON.out] at HON2
                go_wp2_with fail
                refine HON2.out.mono ?_
                rintro E wz ⟨rfl, ho9⟩
                have D9 := Lib.hid ho9
                clear ho9 cp HON2
                have HS16 : Hid (Strs w LG5 (.slice A5 (gs.length + 1) c5) (gs ++ [x.bs]) wz) := Lib.hid (H15.out.2.1.go (fun p hp => D15.out.get (q := p.1) (o := p.2) hp) (fun p hp => D9.out.get (q := p.1) (o := p.2) hp))
                have HNEW : Hid (CellIs s9 0 (1 - a) (tk + 1) nb (2 + k + 1)) := Lib.hid (by
                  rcases HCI.out with h | ⟨_, i, hi, hne⟩
                  · exact h
                  · exact absurd (HK6.out (by trivial) i hi) hne)
                clear HCI HK6 H15 D15 D8
                go_wp2_with fail
                go_roundw
                case measure => simp [intOf]; omega
                case rel => exact ⟨k + 1, by omega, by go_num, gs ++ [x.bs], nb, 1 - a, tk + 1, s9, LG5, Lib.hid (by have := HG2.out; rw [List.length_append, HLG.out]; simp; omega), Lib.hid ⟨HS16.out, D9.out, HC9.out.1, HC9.out.2, HNEW.out, .inr ⟨N + 1, x.bs, HNW.out.symm, by have := HM.out; omega, .inl ⟨by rw [List.length_append, HLG.out]; rfl, by omega, by rw [List.getElem?_append_right (by rw [HLG.out]; omega), HLG.out]; simp⟩⟩⟩⟩
              · subst h8e
                rw [if_neg (by decide), if_neg (by decide), ← HZZ.out] at hp
                have HP := Lib.hid hp
                clear hp HCK1 HCK2 HNM heq2 HI1 HO1 HZ1 HK6
                go_wp2_with fail
                refine HP.out.mono ?_
                rintro E w9 ⟨rfl, H9⟩
                clear HP cb
                have DA := Lib.hid (H9.out.dat.alloc (.cells Z.toArray 36 (0, 0)))
                have hL9 : Hid (∀ p ∈ LX, p.1 ≠ w9.heap.size) := Lib.hid fun p hp => by have := H9.out.dat.lt (q := p.1) (o := p.2) hp; omega
                have HA9 : Hid ((w9.alloc (.cells Z.toArray 36)).heap[w9.heap.size]? = some (.cells Z.toArray 36 (0, 0))) := Lib.hid (row_new _ _ _)
                have HS9' : Hid (Strs w LG (.slice A4 N c4) gs w9) := Lib.hid (HSF.out.go (fun p hp => by have := HSFO.out p hp; exact this) (fun p hp => H9.out.dat.get (q := p.1) (o := p.2) (HLS.out p hp)))
                clear HSF HSFO
                go_wp2_with (first
                  | (refine wpList_store_all rfl 36 (.tmp 12) (.tmp 123) rfl w9.heap.size Z Z 36 HA9.out rfl rfl rfl HIZ.out HOZ.out ?_; intro w10 G10; have D10 := Lib.hid (DA.out.upd hL9.out G10.out.1 G10.out.2); have HR10 : Hid (w10.rangeAt w9.heap.size 0 Z) := Lib.hid (range_block G10.out.1 0 _ (fun j v hv => by rw [Nat.zero_add]; exact hv)))
                  | ((with_reducible refine wpList_load_midG ?_ 36 (.tmp 12) ?_ w9.heap.size 0 ?_ Z _ ?_ Tryd.underlying36 ?_ ?_ ?_); (· rfl); (· rfl); (· rfl); (· exact HR10.out); (· rfl); (· exact HIZ.out)))
                have HS10 : Hid (Strs w LG (.slice A4 N c4) gs w10) := Lib.hid (HS9'.out.go (fun p hp => H9.out.dat.get (q := p.1) (o := p.2) (HLS.out p hp)) (fun p hp => D10.out.get (q := p.1) (o := p.2) (.tail _ (HLS.out p hp))))
                have D15 : Hid (Dat w d (20 + 10 * k + 10) s6 LG w10) := Lib.hid (D10.out.sub fun p hp => .tail _ (HLS.out p hp))
                clear DA hL9 HA9 H9 G10 D10 HR10 HS9'
                have cp := HCP.out _ D15.out.below
                refine (dat_off D15.out).mono ?_
                rintro E wo ⟨rfl, ho8⟩
                have D8 := Lib.hid ho8
                clear ho8 cp
                have cp := HCP.out _ D8.out.below
                have HON2 := Lib.hid (dat_on D8.out (by omega) x.padr pm x.proom x.picks (HRP.out _ D8.out.below) HSP.out)
                rw [HON.out] at HON2
                go_wp2_with fail
                refine HON2.out.mono ?_
                rintro E wz ⟨rfl, ho9⟩
                have D9 := Lib.hid ho9
                clear ho9 cp HON2
                have HS16 : Hid (Strs w LG (.slice A4 N c4) gs wz) := Lib.hid (HS10.out.go (fun p hp => D15.out.get (q := p.1) (o := p.2) hp) (fun p hp => D9.out.get (q := p.1) (o := p.2) hp))
                clear HS10 D15 D8
                rcases HCI.out with HNEW' | ⟨HOLD', -⟩
                · have HCL := Lib.hid HNEW'
                  clear HCI HNEW'
                  go_wp2_with fail
                  go_roundw
                  case measure => simp [intOf]; omega
                  case rel => exact ⟨k + 1, by omega, by go_num, gs, nb, _, _, s9, LG, Lib.hid (by have := HG2.out; rw [HGN.out]; omega), Lib.hid ⟨HS16.out, D9.out, HC9.out.1, HC9.out.2, HCL.out, .inr ⟨N + 1, x.bs, HNW.out.symm, by have := HM.out; omega, .inr (by rw [HGN.out])⟩⟩⟩
                · have HCL := Lib.hid HOLD'
                  clear HCI HOLD'
                  go_wp2_with fail
                  go_roundw
                  case measure => simp [intOf]; omega
                  case rel => exact ⟨k + 1, by omega, by go_num, gs, bs, _, _, s9, LG, Lib.hid (by have := HG2.out; rw [HGN.out]; omega), Lib.hid ⟨HS16.out, D9.out, HC9.out.1, HC9.out.2, HCL.out, HGV.out⟩⟩
          · as_aux_lemma =>
              have HBS := Lib.hid hbs
              have HBL : Hid (bb.length ≤ 1024) := Lib.hid hbbl
              obtain ⟨hc1, hc2, hc3⟩ := hcase
              rw [← HGE.out] at hc1
              subst hc1
              have HGN : Hid (gs.length = num) := Lib.hid HGE.out.symm
              have HN0 : Hid (1 ≤ num) := Lib.hid hc2
              have HAT0 := Lib.hid hc3
              clear hc2 hc3
              have HNX : Hid (num ≤ 62 ∧ 1 ≤ num) := Lib.hid (by have := HN0.out; omega)
              have HLA := Lib.hid (last_giv HBS.out O3.out HK.out h0 (by have := HNX.out; omega) HNX.out.2)
              have hT := Sh.numTag_length 3 num bb
              have HCH : Hid (chk 3 num bb (Sh.numTag 3 num bb) = true) := Lib.hid (by have := HNX.out; simp [chk, isRep, mayN]; omega)
              have HT0 : Hid ((Sh.numTag 3 num bb).length = 32 ∧ chk 3 num bb (Sh.numTag 3 num bb) = true) := Lib.hid ⟨hT, HCH.out⟩
              have HI0 : Hid ((Tryd.prog.info? 36).map (·.size) = some (u8s (Sh.numTag 3 num bb)).length) := Lib.hid (tag_info hT)
              have HO0 : Hid (∀ v ∈ u8s (Sh.numTag 3 num bb), v.oneCell' = true) := Lib.hid (u8s_one _)
              have HZ0 := Lib.hid (HLZ.out _ hT)
              unfold tagV at HLA
              generalize Sh.numTag 3 num bb = T0 at HLA HT0 HI0 HO0 HZ0
              clear hT HCH hbs hbbl
              refine HLA.out.mono ?_
              rintro E w4 ⟨A9, c9, LR, rfl, H4⟩
              clear HLA
              have O4 := Lib.hid (H4.out.1.lit (.cells Z.toArray 36 (0, 0)))
              have hL4 : Hid (∀ p ∈ LR ++ ((u, usOf g 3) :: LG), p.1 ≠ w4.heap.size) := Lib.hid fun p hp => by have := H4.out.1.dat.lt (q := p.1) (o := p.2) hp; omega
              have HA4 : Hid ((w4.alloc (.cells Z.toArray 36)).heap[w4.heap.size]? = some (.cells Z.toArray 36 (0, 0))) := Lib.hid (row_new _ _ _)
              have HSR : Hid (Src w LR A9 bb.length bb) := Lib.hid H4.out.2.1
              have HS9 : Hid (Oct.Sl A9 bb.length c9) := Lib.hid H4.out.2.2.1
              have HS4 : Hid (Strs w LG (.slice A4 num c4) gs w4) := Lib.hid (HS3.out.go (fun p hp => O3.out.get (q := p.1) (o := p.2) (.tail _ hp)) (fun p hp => H4.out.1.get (q := p.1) (o := p.2) (List.mem_append_right _ (.tail _ hp))))
              go_wp2_with (first | (refine wpList_store_all rfl 36 (.tmp 10) (.tmp 61) rfl w4.heap.size Z (u8s T0) 36 HA4.out HZ0.out rfl rfl HI0.out HO0.out ?_; intro wx G5))
              have OX := Lib.hid (O4.out.write hL4.out G5.out.1 G5.out.2)
              have HST : Hid (Strs w LG (.slice A4 num c4) gs wx) := Lib.hid (HS4.out.go (fun p hp => H4.out.1.get (q := p.1) (o := p.2) (List.mem_append_right _ (.tail _ hp))) (fun p hp => OX.out.get (q := p.1) (o := p.2) (.tail _ (List.mem_append_right _ (.tail _ hp)))))
              obtain ⟨LX, hLX⟩ : ∃ LX, LX = (w4.heap.size, Obj.cells (u8s T0).toArray 36 (0, 0)) :: (LR ++ ((u, usOf g 3) :: LG)) := ⟨_, rfl⟩
              have HU : Hid ((u, usOf g 3) ∈ LX) := Lib.hid (by rw [hLX]; exact .tail _ (List.mem_append_right _ (.head _)))
              have HLS : Hid (∀ p ∈ LG, p ∈ LX) := Lib.hid fun p hp => by rw [hLX]; exact .tail _ (List.mem_append_right _ (.tail _ hp))
              have HLR : Hid (∀ p ∈ LR, p ∈ LX) := Lib.hid fun p hp => by rw [hLX]; exact .tail _ (List.mem_append_left _ hp)
              have HTX : Hid ((w4.heap.size, Obj.cells (u8s T0).toArray 36 (0, 0)) ∈ LX) := Lib.hid (by rw [hLX]; exact .head _)
              rw [← hLX] at OX
              clear hLX
              have HG2 : Hid (num ≤ 2 * k + 1) := Lib.hid (by have := HGL.out; have := HGE.out; omega)
              have HGV : Hid (Giv gs bs) := Lib.hid HD.out.2.2.2.2.2
              obtain ⟨n1, hn1⟩ : ∃ n1, n1 = num - 1 := ⟨_, rfl⟩
              have HN1 : Hid (num = n1 + 1) := Lib.hid (by have := HNX.out; omega)
              have HAT : Hid (gs[n1]? = some bb) := Lib.hid (by rw [hn1]; exact HAT0.out)
              clear hn1
              have HNB : Hid (num ≤ 62) := Lib.hid HNX.out.1
              have HNS : Hid (sealN bs = num) := Lib.hid (by rw [HBS.out]; exact (seal_be num bb (by have := HNX.out; omega)).1)
              clear O3 O4 hL4 HA4 G5 HS3 HD hgl hw0 hw1 H4 HS4 HN0
              obtain ⟨N, hN⟩ : ∃ N, N = num := ⟨_, rfl⟩
              subst hN
              try simp only [Act.put]
              refine wp_region_any (by kernel_rfl) ?_
              change wpAny _ _ _ _ _ _ _ (wx.drewN 1)
              have OQ := Lib.hid (OX.out.next (w3 := wx.drewN 1) ⟨rfl, rfl, rfl, Nat.le_refl _, fun _ _ => rfl⟩)
              have HSQ : Hid (Strs w LG (.slice A4 N c4) gs (wx.drewN 1)) := Lib.hid (HST.out.go (fun p hp => OX.out.get (q := p.1) (o := p.2) (HLS.out p hp)) (fun p hp => OQ.out.get (q := p.1) (o := p.2) (HLS.out p hp)))
              clear OX HST
              generalize wx.drewN 1 = w7 at OQ HSQ ⊢
              have HB9 : Hid (∀ W, Below w7.heap.size w7 W → Oct.Rd W A9 bb.length bb) := Lib.hid fun W hb => (HSR.out.rd OQ.out.dat (fun p hp => HLR.out p hp)).below hb
              obtain ⟨q4, rfl, hq4⟩ := HSQ.out.at HAT.out
              have HQ4 : Hid (∀ W, Below w7.heap.size w7 W → W.cell? ⟨q4, n1, none⟩ = some (.string (Oct.str bb))) := Lib.hid fun W hb => (hb.cell (p := ⟨q4, n1, none⟩) (World.block_lt_of_cell? w7 _ hq4)).trans hq4
              have HTG : Hid (w7.heap[w4.heap.size]? = some (.cells (u8s T0).toArray 36 (0, 0))) := Lib.hid (OQ.out.get HTX.out)
              have HTL : Hid (w4.heap.size < w7.heap.size) := Lib.hid (OQ.out.dat.lt (q := w4.heap.size) HTX.out)
              have HCK : Hid (∀ W, Below w7.heap.size w7 W → Calls Tryd.prog 14 #[.int .i64 3, .int .u64 (N : Int), .slice A9 bb.length c9, .agg (u8s T0).toArray] W fun E w' => E = .returned (.bool true) ∧ Hid (Below W.heap.size W w')) := Lib.hid fun W hb => by
                obtain ⟨k1, k2⟩ := OQ.out.kis HK.out h0
                have := check_us 3 N (t := T0) (HB9.out W hb) HS9.out (by have := HBL.out; omega) HT0.out.1 (k1.below hb k2) (Nat.lt_of_lt_of_le k2 hb.size)
                rwa [HT0.out.2] at this
              have hin : n1 < N := by have := HN1.out; omega
              have hwm : IntKind.u64.wrap ((N : Int) - 1) = (n1 : Int) := by have := HN1.out; rw [IntKind.wrap_u64]; omega
              have hpos : 0 < (N : Int) := by omega
              clear hq4
              refine wpAny_of_held (S := fun W => Below w7.heap.size w7 W) _ _ _ _ ?_
              refine wpAnyH_take (i := 0) (oi := { dst := some 86, op := Op.move (Operand.tmp 8), type := 35, pos := "law.go:164", after := #[], guard := none }) (v := .int .u64 (N : Int)) rfl (by kernel_rfl) (by kernel_rfl) (by kernel_rfl) (fun _ _ _ h => h) (Or.inl ⟨by kernel_rfl, fun W hSW => by go_simp⟩) (Below.refl _ _) ?_
              try simp only [Act.put, List.setIfInBounds_toArray, List.set_cons_zero, List.set_cons_succ]
              refine wpAnyH_take (i := 1) (oi := { dst := some 87, op := Op.binOp BinOp.gtr 35 (Operand.tmp 86) (Operand.const (Value.int IntKind.u64 0)) 35, type := 4, pos := "law.go:164", after := #[{ on := 0, ground := Ground.data }], guard := none }) (v := .bool true) rfl (by kernel_rfl) (by kernel_rfl) (by kernel_rfl) (fun _ _ _ h => h) (Or.inl ⟨by kernel_rfl, fun W hSW => by go_simp; try omega⟩) (Below.refl _ _) ?_
              try simp only [Act.put, List.setIfInBounds_toArray, List.set_cons_zero, List.set_cons_succ]
              refine wpAnyH_take (i := 2) (oi := { dst := some 88, op := Op.move (Operand.tmp 87), type := 4, pos := "law.go:164", after := #[{ on := 1, ground := Ground.data }], guard := none }) (v := .bool true) rfl (by kernel_rfl) (by kernel_rfl) (by kernel_rfl) (fun _ _ _ h => h) (Or.inl ⟨by kernel_rfl, fun W hSW => by go_simp⟩) (Below.refl _ _) ?_
              try simp only [Act.put, List.setIfInBounds_toArray, List.set_cons_zero, List.set_cons_succ]
              refine wpAnyH_take (i := 3) (oi := { dst := some 89, op := Op.move (Operand.tmp 4), type := 28, pos := "law.go:164", after := #[{ on := 2, ground := Ground.guard }], guard := some (2, true) }) (v := .slice (some ⟨q4, 0, none⟩) N c4) rfl (by kernel_rfl) (by kernel_rfl) (by kernel_rfl) (fun _ _ _ h => h) (Or.inl ⟨by kernel_rfl, fun W hSW => by go_simp⟩) (Below.refl _ _) ?_
              try simp only [Act.put, List.setIfInBounds_toArray, List.set_cons_zero, List.set_cons_succ]
              refine wpAnyH_take (i := 4) (oi := { dst := some 90, op := Op.move (Operand.tmp 8), type := 35, pos := "law.go:164", after := #[{ on := 2, ground := Ground.guard }], guard := some (2, true) }) (v := .int .u64 (N : Int)) rfl (by kernel_rfl) (by kernel_rfl) (by kernel_rfl) (fun _ _ _ h => h) (Or.inl ⟨by kernel_rfl, fun W hSW => by go_simp⟩) (Below.refl _ _) ?_
              try simp only [Act.put, List.setIfInBounds_toArray, List.set_cons_zero, List.set_cons_succ]
              refine wpAnyH_take (i := 5) (oi := { dst := some 91, op := Op.binOp BinOp.sub 35 (Operand.tmp 90) (Operand.const (Value.int IntKind.u64 1)) 35, type := 35, pos := "law.go:164", after := #[{ on := 4, ground := Ground.data }, { on := 2, ground := Ground.guard }], guard := some (2, true) }) (v := .int .u64 (n1 : Int)) rfl (by kernel_rfl) (by kernel_rfl) (by kernel_rfl) (fun _ _ _ h => h) (Or.inl ⟨by kernel_rfl, fun W hSW => by go_simp⟩) (Below.refl _ _) ?_
              try simp only [Act.put, List.setIfInBounds_toArray, List.set_cons_zero, List.set_cons_succ]
              refine wpAnyH_take (i := 6) (oi := { dst := some 92, op := Op.indexAddr 28 (Operand.tmp 89) (Operand.tmp 91), type := 0, pos := "law.go:164", after := #[{ on := 3, ground := Ground.data }, { on := 5, ground := Ground.data }, { on := 2, ground := Ground.guard }], guard := some (2, true) }) (v := .pointer (some ⟨q4, n1, none⟩)) rfl (by kernel_rfl) (by kernel_rfl) (by kernel_rfl) (fun _ _ _ h => h) (Or.inl ⟨by kernel_rfl, fun W hSW => by go_simp⟩) (Below.refl _ _) ?_
              try simp only [Act.put, List.setIfInBounds_toArray, List.set_cons_zero, List.set_cons_succ]
              refine wpAnyH_take (i := 7) (oi := { dst := some 93, op := Op.load 9 (Operand.tmp 92), type := 9, pos := "law.go:164", after := #[{ on := 6, ground := Ground.data }, { on := 2, ground := Ground.guard }], guard := some (2, true) }) (v := .string (Oct.str bb)) rfl (by kernel_rfl) (by kernel_rfl) (by kernel_rfl) (fun _ _ _ h => h) (Or.inl ⟨by kernel_rfl, fun W hSW => by have hcv := HQ4.out W hSW; go_simp⟩) (Below.refl _ _) ?_
              try simp only [Act.put, List.setIfInBounds_toArray, List.set_cons_zero, List.set_cons_succ]
              refine wpAnyH_take (i := 8) (oi := { dst := some 94, op := Op.move (Operand.tmp 9), type := 29, pos := "law.go:164", after := #[{ on := 2, ground := Ground.guard }], guard := some (2, true) }) (v := .slice A9 bb.length c9) rfl (by kernel_rfl) (by kernel_rfl) (by kernel_rfl) (fun _ _ _ h => h) (Or.inl ⟨by kernel_rfl, fun W hSW => by go_simp⟩) (Below.refl _ _) ?_
              try simp only [Act.put, List.setIfInBounds_toArray, List.set_cons_zero, List.set_cons_succ]
              refine wpAnyH_take (i := 9) (oi := { dst := some 95, op := Op.convert 29 9 (Operand.tmp 94), type := 9, pos := "law.go:164", after := #[{ on := 8, ground := Ground.data }, { on := 2, ground := Ground.guard }], guard := some (2, true) }) (v := .string (Oct.str bb)) rfl (by kernel_rfl) (by kernel_rfl) (by kernel_rfl) (fun _ _ _ h => h) (Or.inl ⟨by kernel_rfl, fun W hSW => by have hrun := run_str c9 (HB9.out W hSW); go_simp⟩) (Below.refl _ _) ?_
              try simp only [Act.put, List.setIfInBounds_toArray, List.set_cons_zero, List.set_cons_succ]
              refine wpAnyH_take (i := 10) (oi := { dst := some 96, op := Op.binOp BinOp.neq 9 (Operand.tmp 93) (Operand.tmp 95) 9, type := 4, pos := "law.go:164", after := #[{ on := 7, ground := Ground.data }, { on := 9, ground := Ground.data }, { on := 2, ground := Ground.guard }], guard := some (2, true) }) (v := .bool false) rfl (by kernel_rfl) (by kernel_rfl) (by kernel_rfl) (fun _ _ _ h => h) (Or.inl ⟨by kernel_rfl, fun W hSW => by go_simp⟩) (Below.refl _ _) ?_
              try simp only [Act.put, List.setIfInBounds_toArray, List.set_cons_zero, List.set_cons_succ]
              refine wpAnyH_take (i := 11) (oi := { dst := some 97, op := Op.move (Operand.tmp 96), type := 4, pos := "law.go:164", after := #[{ on := 10, ground := Ground.data }, { on := 2, ground := Ground.chain }, { on := 2, ground := Ground.guard }], guard := some (2, true) }) (v := .bool false) rfl (by kernel_rfl) (by kernel_rfl) (by kernel_rfl) (fun _ _ _ h => h) (Or.inl ⟨by kernel_rfl, fun W hSW => by go_simp⟩) (Below.refl _ _) ?_
              try simp only [Act.put, List.setIfInBounds_toArray, List.set_cons_zero, List.set_cons_succ]
              refine wpAnyH_take (i := 12) (oi := { dst := some 98, op := Op.move (Operand.tmp 8), type := 35, pos := "law.go:164", after := #[{ on := 11, ground := Ground.guard }], guard := some (11, false) }) (v := .int .u64 (N : Int)) rfl (by kernel_rfl) (by kernel_rfl) (by kernel_rfl) (fun _ _ _ h => h) (Or.inl ⟨by kernel_rfl, fun W hSW => by go_simp⟩) (Below.refl _ _) ?_
              try simp only [Act.put, List.setIfInBounds_toArray, List.set_cons_zero, List.set_cons_succ]
              refine wpAnyH_take (i := 13) (oi := { dst := some 99, op := Op.move (Operand.tmp 9), type := 29, pos := "law.go:164", after := #[{ on := 11, ground := Ground.guard }], guard := some (11, false) }) (v := .slice A9 bb.length c9) rfl (by kernel_rfl) (by kernel_rfl) (by kernel_rfl) (fun _ _ _ h => h) (Or.inl ⟨by kernel_rfl, fun W hSW => by go_simp⟩) (Below.refl _ _) ?_
              try simp only [Act.put, List.setIfInBounds_toArray, List.set_cons_zero, List.set_cons_succ]
              refine wpAnyH_take (i := 14) (oi := { dst := some 100, op := Op.load 36 (Operand.tmp 10), type := 36, pos := "law.go:164", after := #[{ on := 11, ground := Ground.guard }], guard := some (11, false) }) (v := .agg (u8s T0).toArray) rfl (by kernel_rfl) (by kernel_rfl) (by kernel_rfl) (fun _ _ _ h => h) (Or.inl ⟨by kernel_rfl, fun W hSW => exec_load_mid 36 (.tmp 10) rfl w4.heap.size 0 rfl (u8s T0) _ (range_block ((hSW.block _ HTL.out).trans HTG.out) 0 _ (fun j v hv => by rw [Nat.zero_add]; exact hv)) Tryd.underlying36 rfl HI0.out⟩) (Below.refl _ _) ?_
              try simp only [Act.put, List.setIfInBounds_toArray, List.set_cons_zero, List.set_cons_succ]
              refine wpAnyH_ready (rs := [15]) (by kernel_rfl) (by simp) ?_
              refine AllReadyH.cons (o := { dst := some 101, op := Op.call { callee := Callee.value (Operand.func 14), args := #[Operand.const (Value.int IntKind.i64 3), Operand.tmp 98, Operand.tmp 99, Operand.tmp 100], argTypes := #[3, 35, 29, 36] }, type := 4, pos := "law.go:164", after := #[{ on := 12, ground := Ground.data }, { on := 13, ground := Ground.data }, { on := 14, ground := Ground.data }, { on := 11, ground := Ground.chain }, { on := 11, ground := Ground.guard }], guard := some (11, false) }) rfl (fun K' hK' => ?_) AllReadyH.nil
              go_simp
              go_at_call 14
              refine (HCK.out w7 (Below.refl _ _)).mono ?_
              rintro E w8 ⟨rfl, HB8⟩
              refine hK'.out _ _ HB8.out (fun _ => wpAnyH_next HB8.out ?_)
              clear hK' K'
              try simp only [Act.put, List.setIfInBounds_toArray, List.set_cons_zero, List.set_cons_succ]
              refine wpAnyH_take (i := 16) (oi := { dst := some 102, op := Op.unOp UnOp.not 4 (Operand.tmp 101), type := 4, pos := "law.go:164", after := #[{ on := 15, ground := Ground.data }, { on := 11, ground := Ground.guard }], guard := some (11, false) }) (v := .bool false) rfl (by kernel_rfl) (by kernel_rfl) (by kernel_rfl) (fun _ _ _ h => h) (Or.inl ⟨by kernel_rfl, fun W hSW => by go_simp⟩) (Below.refl _ _) ?_
              try simp only [Act.put, List.setIfInBounds_toArray, List.set_cons_zero, List.set_cons_succ]
              refine wpAnyH_take (i := 17) (oi := { dst := some 103, op := Op.pick (Operand.tmp 97) (Operand.const (Value.bool true)) (Operand.tmp 102), type := 4, pos := "law.go:164", after := #[{ on := 11, ground := Ground.data }, { on := 16, ground := Ground.data }, { on := 2, ground := Ground.guard }], guard := some (2, true) }) (v := .bool false) rfl (by kernel_rfl) (by kernel_rfl) (by kernel_rfl) (fun _ _ _ h => h) (Or.inl ⟨by kernel_rfl, fun W hSW => by go_simp⟩) (Below.refl _ _) ?_
              try simp only [Act.put, List.setIfInBounds_toArray, List.set_cons_zero, List.set_cons_succ]
              refine wpAnyH_take (i := 18) (oi := { dst := some 104, op := Op.pick (Operand.tmp 88) (Operand.tmp 103) (Operand.const (Value.bool false)), type := 4, pos := "law.go:164", after := #[{ on := 2, ground := Ground.data }, { on := 17, ground := Ground.data }], guard := none }) (v := .bool false) rfl (by kernel_rfl) (by kernel_rfl) (by kernel_rfl) (fun _ _ _ h => h) (Or.inl ⟨by kernel_rfl, fun W hSW => by go_simp⟩) (Below.refl _ _) ?_
              try simp only [Act.put, List.setIfInBounds_toArray, List.set_cons_zero, List.set_cons_succ]
              refine wpAnyH_done (by kernel_rfl) ?_ _
              have OY := Lib.hid (OQ.out.next HB8.out)
              have HSY : Hid (Strs w LG (.slice (some ⟨q4, 0, none⟩) N c4) gs w8) := Lib.hid (HSQ.out.go (fun p hp => OQ.out.get (q := p.1) (o := p.2) (HLS.out p hp)) (fun p hp => OY.out.get (q := p.1) (o := p.2) (HLS.out p hp)))
              obtain ⟨A4, hA4⟩ : ∃ A4 : Option Addr, A4 = some ⟨q4, 0, none⟩ := ⟨_, rfl⟩
              rw [← hA4] at HSY ⊢
              clear OQ HSQ HB8 HCK HQ4 HB9 HTG HTL hA4 hin hwm hpos HSR HTX HT0 HI0 HAT HN1
              obtain ⟨wy, hwy⟩ : ∃ wy, wy = w8 := ⟨_, rfl⟩
              subst hwy
              have cn := HCN.out _ OY.out.dat.below
              go_wp2_with fail
              refine (cell_fuse OY.out (x16 : Int) (by omega)).mono ?_
              rintro E wf ⟨rfl, OF⟩
              have HSF : Hid (Strs w LG (.slice A4 N c4) gs wf) := Lib.hid (HSY.out.go (fun p hp => OY.out.get (q := p.1) (o := p.2) (HLS.out p hp)) (fun p hp => OF.out.get (q := p.1) (o := p.2) (HLS.out p hp)))
              clear OY HSY cn
              have HSFO : Hid (∀ p ∈ LG, wf.heap[p.1]? = some p.2) := Lib.hid fun p hp => OF.out.get (q := p.1) (o := p.2) (HLS.out p hp)
              have cb := HCB.out _ OF.out.dat.below
              have ha := HC.out.2.2.slot
              have htp := HC.out.2.2.top_le
              have hsm := HC.out.2.2.small
              have hNB : N ≤ 62 := HNB.out
              obtain ⟨s6, e, hrn, h08, hcr⟩ := renew_crash (s := s.fuseAt (x16 : Int)) (at' := 0) (slot := 1 - (a : Int)) (bs := Oct.be 8 (N + 1) ++ x.bs) HC.out.1.1 HC.out.2.1 (by omega)
              have htg : topGo (s.fuseAt (x16 : Int)) 0 20 = topGo s 0 20 := topGo_congr (fun _ => rfl) 0 20
              have hlen : (Oct.be 8 (N + 1) ++ x.bs).length ≤ 1100 := by rw [List.length_append, Oct.be_length, ← HM.out]; omega
              have hp := next_us OF.out 3 HU.out HK.out h0 HC.out.1.1 (by omega) (x := 0) (by omega) (by omega) (by rw [htg]; omega) (b := x.bs) (fun W hb1 _ => HRB.out W hb1) HSB.out hml N HNS.out (by omega) hrn
              obtain ⟨s9, k1, k2, k3, k4, k5, k6⟩ := hcr x.picks
              rw [htg] at k5 k6
              have e1 : (0 : Int) + (1 - (a : Int)) * 10 = 0 + ((1 - a : Nat) : Int) * 10 := by omega
              rw [e1] at k5 k6
              have HCI := Lib.hid (HC.out.2.2.crash (x := 0) (by omega) (by omega) (Oct.be 8 (N + 1) ++ x.bs) hlen HC.out.1.1 HC.out.2.1 k2 k4 k5)
              have HON : Hid (s6.offed.on x.picks = (s9, 0)) := Lib.hid k1
              have HC9 : Hid (Calm s9 ∧ s9.loose = []) := Lib.hid ⟨⟨k2, k3⟩, k4⟩
              have HK6 := Lib.hid k6
              have hTL := Sh.numTag_length 3 (N + 1) x.bs
              have HCK1 : Hid (∀ W, Below w.heap.size w W → Calls Tryd.prog 14 #[.int .i64 3, .int .u64 ((N + 1 : Nat) : Int), .slice x.adr m x.room, .agg (u8s (Sh.numTag 3 (N + 1) x.bs)).toArray] W fun E w' => E = .returned (.bool true) ∧ Hid (Below W.heap.size W w')) := Lib.hid fun W hb => by
                have hr := HRB.out W hb
                have hs := HSB.out
                rw [HM.out] at hr hs ⊢
                have := check_us 3 (N + 1) (t := Sh.numTag 3 (N + 1) x.bs) hr hs (by have := HM.out; omega) hTL (HK.out.below hb h0) (Nat.lt_of_lt_of_le h0 hb.size)
                rwa [show chk 3 (N + 1) x.bs (Sh.numTag 3 (N + 1) x.bs) = true by have := HM.out; simp [chk, isRep, mayN]; omega] at this
              obtain ⟨ans, hans⟩ : ∃ ans, ans = chk 3 (N + 2) x.bs (Sh.numTag 3 (N + 1) x.bs) := ⟨_, rfl⟩
              have HCK2 : Hid (∀ W, Below w.heap.size w W → Calls Tryd.prog 14 #[.int .i64 3, .int .u64 ((N + 2 : Nat) : Int), .slice x.adr m x.room, .agg (u8s (Sh.numTag 3 (N + 1) x.bs)).toArray] W fun E w' => E = .returned (.bool ans) ∧ Hid (Below W.heap.size W w')) := Lib.hid fun W hb => by
                have hr := HRB.out W hb
                have hs := HSB.out
                rw [HM.out] at hr hs ⊢
                rw [hans]
                exact check_us 3 (N + 2) (t := Sh.numTag 3 (N + 1) x.bs) hr hs (by have := HM.out; omega) hTL (HK.out.below hb h0) (Nat.lt_of_lt_of_le h0 hb.size)
              have hT2 := Sh.numTag_length 3 (N + 2) x.bs
              have HNM : Hid (∀ W, Below w.heap.size w W → Calls Tryd.prog 17 #[.int .i64 3, .int .u64 ((N + 2 : Nat) : Int), .slice x.adr m x.room] W fun E w' => E = .returned (.agg (u8s (Sh.numTag 3 (N + 2) x.bs)).toArray) ∧ Below W.heap.size W w') := Lib.hid fun W hb => by
                have hr := HRB.out W hb
                have hs := HSB.out
                rw [HM.out] at hr hs ⊢
                exact Sh.refNumbered_any 3 (N + 2) x.bs x.adr _ x.room W (rd_sh hr) hs (by have := HM.out; omega) (HK.out.below hb h0) (Nat.lt_of_lt_of_le h0 hb.size)
              have heq2 : ∀ w, (Op.equalIn 10000 36 (.agg (u8s (Sh.numTag 3 (N + 2) x.bs)).toArray) (.agg (u8s (Sh.numTag 3 (N + 1) x.bs)).toArray)).run Tryd.prog w = .ok ans w := fun w => by
                have hmm := HM.out
                rw [eq_tags _ _ hT2 hTL, hans, chk_ref 3 (N + 2) x.bs _ rfl (by simp [mayN]; omega)]
              have HI1 : Hid ((Tryd.prog.info? 36).map (·.size) = some (u8s (Sh.numTag 3 (N + 1) x.bs)).length) := Lib.hid (tag_info hTL)
              have HO1 : Hid (∀ v ∈ u8s (Sh.numTag 3 (N + 1) x.bs), v.oneCell' = true) := Lib.hid (u8s_one _)
              have HZ1 := Lib.hid (HLZ.out _ hTL)
              unfold tagV at hp
              generalize Sh.numTag 3 (N + 1) x.bs = T1 at hp HCK1 HCK2 heq2 HI1 HO1 HZ1
              generalize Sh.numTag 3 (N + 2) x.bs = T2 at HNM heq2
              generalize hnb : Oct.be 8 (N + 1) ++ x.bs = nb at hp HCI HK6
              have HNW := Lib.hid hnb
              clear k1 k2 k3 k4 k5 k6 hcr hrn htg e1 htp hsm ha OF hTL hT2 hans hlen hnb
              generalize topGo s 0 20 = tk at HCI HK6
              have hwn1 : IntKind.u64.wrap ((N : Int) + 1) = ((N + 1 : Nat) : Int) := by rw [IntKind.wrap_u64]; omega
              have hwn2 : IntKind.u64.wrap (((N + 1 : Nat) : Int) + 1) = ((N + 2 : Nat) : Int) := by rw [IntKind.wrap_u64]; omega
              have hwn3 : IntKind.u64.wrap ((N : Int) + 1 + 1) = (N : Int) + 2 := by rw [IntKind.wrap_u64]; omega
              clear hNB
              rcases h08 with h0e | h8e
              · subst h0e
                rw [if_pos rfl, if_pos rfl] at hp
                have HP := Lib.hid hp
                clear hp
                go_wp2_with fail
                refine HP.out.mono ?_
                rintro E w9 ⟨rfl, H9⟩
                clear HP cb
                have DA := Lib.hid (H9.out.dat.alloc (.cells Z.toArray 36 (0, 0)))
                have hL9 : Hid (∀ p ∈ LX, p.1 ≠ w9.heap.size) := Lib.hid fun p hp => by have := H9.out.dat.lt (q := p.1) (o := p.2) hp; omega
                have HA9 : Hid ((w9.alloc (.cells Z.toArray 36)).heap[w9.heap.size]? = some (.cells Z.toArray 36 (0, 0))) := Lib.hid (row_new _ _ _)
                have HS9' : Hid (Strs w LG (.slice A4 N c4) gs w9) := Lib.hid (HSF.out.go (fun p hp => by have := HSFO.out p hp; exact this) (fun p hp => H9.out.dat.get (q := p.1) (o := p.2) (HLS.out p hp)))
                clear HSF HSFO
                go_wp2_with (first | (refine wpList_store_all rfl 36 (.tmp 12) (.tmp 123) rfl w9.heap.size Z (u8s T1) 36 HA9.out HZ1.out rfl rfl HI1.out HO1.out ?_; intro w10 G10))
                have D10 := Lib.hid (DA.out.upd hL9.out G10.out.1 G10.out.2)
                have HS10 : Hid (Strs w LG (.slice A4 N c4) gs w10) := Lib.hid (HS9'.out.go (fun p hp => H9.out.dat.get (q := p.1) (o := p.2) (HLS.out p hp)) (fun p hp => D10.out.get (q := p.1) (o := p.2) (.tail _ (HLS.out p hp))))
                clear HS9' DA hL9 HA9 H9 G10
                try simp only [Act.put]
                refine wp_region_any (by kernel_rfl) ?_
                change wpAny _ _ _ _ _ _ _ (w10.drewN 1)
                have DQ := Lib.hid (D10.out.next (w' := w10.drewN 1) ⟨rfl, rfl, rfl, Nat.le_refl _, fun _ _ => rfl⟩)
                have HSQ : Hid (Strs w LG (.slice A4 N c4) gs (w10.drewN 1)) := Lib.hid (HS10.out.go (fun p hp => D10.out.get (q := p.1) (o := p.2) (.tail _ (HLS.out p hp))) (fun p hp => DQ.out.get (q := p.1) (o := p.2) (.tail _ (HLS.out p hp))))
                clear D10 HS10
                generalize w10.drewN 1 = w11 at DQ HSQ ⊢
                have HSX : Hid (∀ W, Below w11.heap.size w11 W → Below w.heap.size w W) := Lib.hid fun W hb => DQ.out.below.trans (hb.mono DQ.out.below.size)
                have HTG : Hid (w11.heap[w9.heap.size]? = some (.cells (u8s T1).toArray 36 (0, 0)) ∧ w9.heap.size < w11.heap.size) := Lib.hid ⟨DQ.out.get (.head _), DQ.out.lt (q := w9.heap.size) (.head _)⟩
                refine wpAny_of_held (S := fun W => Below w11.heap.size w11 W) _ _ _ _ ?_
                refine wpAnyH_take (i := 0) (oi := { dst := some 127, op := Op.move (Operand.tmp 11), type := 35, pos := "law.go:170", after := #[], guard := none }) (v := .int .u64 ((N + 1 : Nat) : Int)) rfl (by kernel_rfl) (by kernel_rfl) (by kernel_rfl) (fun _ _ _ h => h) (Or.inl ⟨by kernel_rfl, fun W hSW => by go_simp⟩) (Below.refl _ _) ?_
                try simp only [Act.put, List.setIfInBounds_toArray, List.set_cons_zero, List.set_cons_succ]
                refine wpAnyH_take (i := 1) (oi := { dst := some 128, op := Op.move (Operand.tmp 8), type := 35, pos := "law.go:170", after := #[], guard := none }) (v := .int .u64 (N : Int)) rfl (by kernel_rfl) (by kernel_rfl) (by kernel_rfl) (fun _ _ _ h => h) (Or.inl ⟨by kernel_rfl, fun W hSW => by go_simp⟩) (Below.refl _ _) ?_
                try simp only [Act.put, List.setIfInBounds_toArray, List.set_cons_zero, List.set_cons_succ]
                refine wpAnyH_take (i := 2) (oi := { dst := some 129, op := Op.binOp BinOp.add 35 (Operand.tmp 128) (Operand.const (Value.int IntKind.u64 1)) 35, type := 35, pos := "law.go:170", after := #[{ on := 1, ground := Ground.data }], guard := none }) (v := .int .u64 ((N + 1 : Nat) : Int)) rfl (by kernel_rfl) (by kernel_rfl) (by kernel_rfl) (fun _ _ _ h => h) (Or.inl ⟨by kernel_rfl, fun W hSW => by go_simp⟩) (Below.refl _ _) ?_
                try simp only [Act.put, List.setIfInBounds_toArray, List.set_cons_zero, List.set_cons_succ]
                refine wpAnyH_take (i := 3) (oi := { dst := some 130, op := Op.binOp BinOp.neq 35 (Operand.tmp 127) (Operand.tmp 129) 35, type := 4, pos := "law.go:170", after := #[{ on := 0, ground := Ground.data }, { on := 2, ground := Ground.data }], guard := none }) (v := .bool false) rfl (by kernel_rfl) (by kernel_rfl) (by kernel_rfl) (fun _ _ _ h => h) (Or.inl ⟨by kernel_rfl, fun W hSW => by go_simp⟩) (Below.refl _ _) ?_
                try simp only [Act.put, List.setIfInBounds_toArray, List.set_cons_zero, List.set_cons_succ]
                refine wpAnyH_take (i := 4) (oi := { dst := some 131, op := Op.move (Operand.tmp 130), type := 4, pos := "law.go:170", after := #[{ on := 3, ground := Ground.data }], guard := none }) (v := .bool false) rfl (by kernel_rfl) (by kernel_rfl) (by kernel_rfl) (fun _ _ _ h => h) (Or.inl ⟨by kernel_rfl, fun W hSW => by go_simp⟩) (Below.refl _ _) ?_
                try simp only [Act.put, List.setIfInBounds_toArray, List.set_cons_zero, List.set_cons_succ]
                refine wpAnyH_take (i := 5) (oi := { dst := some 132, op := Op.move (Operand.tmp 11), type := 35, pos := "law.go:170", after := #[{ on := 4, ground := Ground.guard }], guard := some (4, false) }) (v := .int .u64 ((N + 1 : Nat) : Int)) rfl (by kernel_rfl) (by kernel_rfl) (by kernel_rfl) (fun _ _ _ h => h) (Or.inl ⟨by kernel_rfl, fun W hSW => by go_simp⟩) (Below.refl _ _) ?_
                try simp only [Act.put, List.setIfInBounds_toArray, List.set_cons_zero, List.set_cons_succ]
                refine wpAnyH_take (i := 6) (oi := { dst := some 133, op := Op.move (Operand.tmp 0), type := 22, pos := "law.go:170", after := #[{ on := 4, ground := Ground.guard }], guard := some (4, false) }) (v := .slice (some ⟨b, o, none⟩) n c) rfl (by kernel_rfl) (by kernel_rfl) (by kernel_rfl) (fun _ _ _ h => h) (Or.inl ⟨by kernel_rfl, fun W hSW => by go_simp⟩) (Below.refl _ _) ?_
                try simp only [Act.put, List.setIfInBounds_toArray, List.set_cons_zero, List.set_cons_succ]
                refine wpAnyH_take (i := 7) (oi := { dst := some 134, op := Op.move (Operand.tmp 5), type := 3, pos := "law.go:170", after := #[{ on := 4, ground := Ground.guard }], guard := some (4, false) }) (v := .int .i64 (k : Int)) rfl (by kernel_rfl) (by kernel_rfl) (by kernel_rfl) (fun _ _ _ h => h) (Or.inl ⟨by kernel_rfl, fun W hSW => by go_simp⟩) (Below.refl _ _) ?_
                try simp only [Act.put, List.setIfInBounds_toArray, List.set_cons_zero, List.set_cons_succ]
                refine wpAnyH_take (i := 8) (oi := { dst := some 135, op := Op.indexAddr 22 (Operand.tmp 133) (Operand.tmp 134), type := 0, pos := "law.go:170", after := #[{ on := 6, ground := Ground.data }, { on := 7, ground := Ground.data }, { on := 4, ground := Ground.guard }], guard := some (4, false) }) (v := .pointer (some ⟨b, o + k * 3, none⟩)) rfl (by kernel_rfl) (by kernel_rfl) (by kernel_rfl) (fun _ _ _ h => h) (Or.inl ⟨by kernel_rfl, fun W hSW => by go_simp⟩) (Below.refl _ _) ?_
                try simp only [Act.put, List.setIfInBounds_toArray, List.set_cons_zero, List.set_cons_succ]
                refine wpAnyH_take (i := 9) (oi := { dst := some 136, op := Op.fieldAddr 31 (Operand.tmp 135) 0, type := 0, pos := "law.go:170", after := #[{ on := 8, ground := Ground.data }, { on := 4, ground := Ground.guard }], guard := some (4, false) }) (v := .pointer (some ⟨b, o + k * 3, none⟩)) rfl (by kernel_rfl) (by kernel_rfl) (by kernel_rfl) (fun _ _ _ h => h) (Or.inl ⟨by kernel_rfl, fun W hSW => by go_simp⟩) (Below.refl _ _) ?_
                try simp only [Act.put, List.setIfInBounds_toArray, List.set_cons_zero, List.set_cons_succ]
                refine wpAnyH_take (i := 10) (oi := { dst := some 137, op := Op.load 29 (Operand.tmp 136), type := 29, pos := "law.go:170", after := #[{ on := 9, ground := Ground.data }, { on := 4, ground := Ground.guard }], guard := some (4, false) }) (v := .slice x.adr m x.room) rfl (by kernel_rfl) (by kernel_rfl) (by kernel_rfl) (fun _ _ _ h => h) (Or.inl ⟨by kernel_rfl, fun W hSW => by have hcv := HCB.out W (HSX.out W hSW); go_simp⟩) (Below.refl _ _) ?_
                try simp only [Act.put, List.setIfInBounds_toArray, List.set_cons_zero, List.set_cons_succ]
                refine wpAnyH_take (i := 11) (oi := { dst := some 138, op := Op.load 36 (Operand.tmp 12), type := 36, pos := "law.go:170", after := #[{ on := 4, ground := Ground.guard }], guard := some (4, false) }) (v := .agg (u8s T1).toArray) rfl (by kernel_rfl) (by kernel_rfl) (by kernel_rfl) (fun _ _ _ h => h) (Or.inl ⟨by kernel_rfl, fun W hSW => exec_load_mid 36 (.tmp 12) rfl w9.heap.size 0 rfl (u8s T1) _ (range_block ((hSW.block _ HTG.out.2).trans HTG.out.1) 0 _ (fun j v hv => by rw [Nat.zero_add]; exact hv)) Tryd.underlying36 rfl HI1.out⟩) (Below.refl _ _) ?_
                try simp only [Act.put, List.setIfInBounds_toArray, List.set_cons_zero, List.set_cons_succ]
                refine wpAnyH_ready (rs := [12]) (by kernel_rfl) (by simp) ?_
                refine AllReadyH.cons (o := { dst := some 139, op := Op.call { callee := Callee.value (Operand.func 14), args := #[Operand.const (Value.int IntKind.i64 3), Operand.tmp 132, Operand.tmp 137, Operand.tmp 138], argTypes := #[3, 35, 29, 36] }, type := 4, pos := "law.go:170", after := #[{ on := 5, ground := Ground.data }, { on := 10, ground := Ground.data }, { on := 11, ground := Ground.data }, { on := 4, ground := Ground.chain }, { on := 4, ground := Ground.guard }], guard := some (4, false) }) rfl (fun K' hK' => ?_) AllReadyH.nil
                go_simp
                go_at_call 14
                refine (HCK1.out w11 (HSX.out w11 (Below.refl _ _))).mono ?_
                rintro E w12 ⟨rfl, HBw12'⟩
                have HBw12 := HBw12'
                refine hK'.out _ _ HBw12.out (fun _ => wpAnyH_next HBw12.out ?_)
                clear hK' K'
                try simp only [Act.put, List.setIfInBounds_toArray, List.set_cons_zero, List.set_cons_succ]
                have HX12 : Hid (Below w11.heap.size w11 w12) := HBw12
                have HSX : Hid (∀ W, Below w12.heap.size w12 W → Below w.heap.size w W) := Lib.hid fun W hb => HSX.out W (HX12.out.trans (hb.mono HX12.out.size))
                have HTG : Hid (w12.heap[w9.heap.size]? = some (.cells (u8s T1).toArray 36 (0, 0)) ∧ w9.heap.size < w12.heap.size) := Lib.hid ⟨(HX12.out.block _ HTG.out.2).trans HTG.out.1, Nat.lt_of_lt_of_le HTG.out.2 HX12.out.size⟩
                refine wpAnyH_take (i := 13) (oi := { dst := some 140, op := Op.unOp UnOp.not 4 (Operand.tmp 139), type := 4, pos := "law.go:170", after := #[{ on := 12, ground := Ground.data }, { on := 4, ground := Ground.guard }], guard := some (4, false) }) (v := .bool false) rfl (by kernel_rfl) (by kernel_rfl) (by kernel_rfl) (fun _ _ _ h => h) (Or.inl ⟨by kernel_rfl, fun W hSW => by go_simp⟩) (Below.refl _ _) ?_
                try simp only [Act.put, List.setIfInBounds_toArray, List.set_cons_zero, List.set_cons_succ]
                refine wpAnyH_take (i := 14) (oi := { dst := some 141, op := Op.pick (Operand.tmp 131) (Operand.const (Value.bool true)) (Operand.tmp 140), type := 4, pos := "law.go:170", after := #[{ on := 4, ground := Ground.data }, { on := 13, ground := Ground.data }], guard := none }) (v := .bool false) rfl (by kernel_rfl) (by kernel_rfl) (by kernel_rfl) (fun _ _ _ h => h) (Or.inl ⟨by kernel_rfl, fun W hSW => by go_simp⟩) (Below.refl _ _) ?_
                try simp only [Act.put, List.setIfInBounds_toArray, List.set_cons_zero, List.set_cons_succ]
                refine wpAnyH_take (i := 15) (oi := { dst := some 142, op := Op.move (Operand.tmp 141), type := 4, pos := "law.go:170", after := #[{ on := 14, ground := Ground.data }, { on := 12, ground := Ground.chain }], guard := none }) (v := .bool false) rfl (by kernel_rfl) (by kernel_rfl) (by kernel_rfl) (fun _ _ _ h => h) (Or.inl ⟨by kernel_rfl, fun W hSW => by go_simp⟩) (Below.refl _ _) ?_
                try simp only [Act.put, List.setIfInBounds_toArray, List.set_cons_zero, List.set_cons_succ]
                refine wpAnyH_take (i := 16) (oi := { dst := some 143, op := Op.move (Operand.tmp 11), type := 35, pos := "law.go:170", after := #[{ on := 15, ground := Ground.guard }], guard := some (15, false) }) (v := .int .u64 ((N + 1 : Nat) : Int)) rfl (by kernel_rfl) (by kernel_rfl) (by kernel_rfl) (fun _ _ _ h => h) (Or.inl ⟨by kernel_rfl, fun W hSW => by go_simp⟩) (Below.refl _ _) ?_
                try simp only [Act.put, List.setIfInBounds_toArray, List.set_cons_zero, List.set_cons_succ]
                refine wpAnyH_take (i := 17) (oi := { dst := some 144, op := Op.binOp BinOp.add 35 (Operand.tmp 143) (Operand.const (Value.int IntKind.u64 1)) 35, type := 35, pos := "law.go:170", after := #[{ on := 16, ground := Ground.data }, { on := 15, ground := Ground.guard }], guard := some (15, false) }) (v := .int .u64 ((N + 2 : Nat) : Int)) rfl (by kernel_rfl) (by kernel_rfl) (by kernel_rfl) (fun _ _ _ h => h) (Or.inl ⟨by kernel_rfl, fun W hSW => by go_simp⟩) (Below.refl _ _) ?_
                try simp only [Act.put, List.setIfInBounds_toArray, List.set_cons_zero, List.set_cons_succ]
                refine wpAnyH_take (i := 18) (oi := { dst := some 145, op := Op.move (Operand.tmp 0), type := 22, pos := "law.go:170", after := #[{ on := 15, ground := Ground.guard }], guard := some (15, false) }) (v := .slice (some ⟨b, o, none⟩) n c) rfl (by kernel_rfl) (by kernel_rfl) (by kernel_rfl) (fun _ _ _ h => h) (Or.inl ⟨by kernel_rfl, fun W hSW => by go_simp⟩) (Below.refl _ _) ?_
                try simp only [Act.put, List.setIfInBounds_toArray, List.set_cons_zero, List.set_cons_succ]
                refine wpAnyH_take (i := 19) (oi := { dst := some 146, op := Op.move (Operand.tmp 5), type := 3, pos := "law.go:170", after := #[{ on := 15, ground := Ground.guard }], guard := some (15, false) }) (v := .int .i64 (k : Int)) rfl (by kernel_rfl) (by kernel_rfl) (by kernel_rfl) (fun _ _ _ h => h) (Or.inl ⟨by kernel_rfl, fun W hSW => by go_simp⟩) (Below.refl _ _) ?_
                try simp only [Act.put, List.setIfInBounds_toArray, List.set_cons_zero, List.set_cons_succ]
                refine wpAnyH_take (i := 20) (oi := { dst := some 147, op := Op.indexAddr 22 (Operand.tmp 145) (Operand.tmp 146), type := 0, pos := "law.go:170", after := #[{ on := 18, ground := Ground.data }, { on := 19, ground := Ground.data }, { on := 15, ground := Ground.guard }], guard := some (15, false) }) (v := .pointer (some ⟨b, o + k * 3, none⟩)) rfl (by kernel_rfl) (by kernel_rfl) (by kernel_rfl) (fun _ _ _ h => h) (Or.inl ⟨by kernel_rfl, fun W hSW => by go_simp⟩) (Below.refl _ _) ?_
                try simp only [Act.put, List.setIfInBounds_toArray, List.set_cons_zero, List.set_cons_succ]
                refine wpAnyH_take (i := 21) (oi := { dst := some 148, op := Op.fieldAddr 31 (Operand.tmp 147) 0, type := 0, pos := "law.go:170", after := #[{ on := 20, ground := Ground.data }, { on := 15, ground := Ground.guard }], guard := some (15, false) }) (v := .pointer (some ⟨b, o + k * 3, none⟩)) rfl (by kernel_rfl) (by kernel_rfl) (by kernel_rfl) (fun _ _ _ h => h) (Or.inl ⟨by kernel_rfl, fun W hSW => by go_simp⟩) (Below.refl _ _) ?_
                try simp only [Act.put, List.setIfInBounds_toArray, List.set_cons_zero, List.set_cons_succ]
                refine wpAnyH_take (i := 22) (oi := { dst := some 149, op := Op.load 29 (Operand.tmp 148), type := 29, pos := "law.go:170", after := #[{ on := 21, ground := Ground.data }, { on := 15, ground := Ground.guard }], guard := some (15, false) }) (v := .slice x.adr m x.room) rfl (by kernel_rfl) (by kernel_rfl) (by kernel_rfl) (fun _ _ _ h => h) (Or.inl ⟨by kernel_rfl, fun W hSW => by have hcv := HCB.out W (HSX.out W hSW); go_simp⟩) (Below.refl _ _) ?_
                try simp only [Act.put, List.setIfInBounds_toArray, List.set_cons_zero, List.set_cons_succ]
                refine wpAnyH_take (i := 23) (oi := { dst := some 150, op := Op.load 36 (Operand.tmp 12), type := 36, pos := "law.go:170", after := #[{ on := 15, ground := Ground.guard }], guard := some (15, false) }) (v := .agg (u8s T1).toArray) rfl (by kernel_rfl) (by kernel_rfl) (by kernel_rfl) (fun _ _ _ h => h) (Or.inl ⟨by kernel_rfl, fun W hSW => exec_load_mid 36 (.tmp 12) rfl w9.heap.size 0 rfl (u8s T1) _ (range_block ((hSW.block _ HTG.out.2).trans HTG.out.1) 0 _ (fun j v hv => by rw [Nat.zero_add]; exact hv)) Tryd.underlying36 rfl HI1.out⟩) (Below.refl _ _) ?_
                try simp only [Act.put, List.setIfInBounds_toArray, List.set_cons_zero, List.set_cons_succ]
                refine wpAnyH_take (i := 25) (oi := { dst := some 152, op := Op.move (Operand.tmp 11), type := 35, pos := "law.go:170", after := #[{ on := 15, ground := Ground.guard }], guard := some (15, false) }) (v := .int .u64 ((N + 1 : Nat) : Int)) rfl (by kernel_rfl) (by kernel_rfl) (by kernel_rfl) (fun _ _ _ h => h) (Or.inl ⟨by kernel_rfl, fun W hSW => by go_simp⟩) (Below.refl _ _) ?_
                try simp only [Act.put, List.setIfInBounds_toArray, List.set_cons_zero, List.set_cons_succ]
                refine wpAnyH_take (i := 26) (oi := { dst := some 153, op := Op.binOp BinOp.add 35 (Operand.tmp 152) (Operand.const (Value.int IntKind.u64 1)) 35, type := 35, pos := "law.go:170", after := #[{ on := 25, ground := Ground.data }, { on := 15, ground := Ground.guard }], guard := some (15, false) }) (v := .int .u64 ((N + 2 : Nat) : Int)) rfl (by kernel_rfl) (by kernel_rfl) (by kernel_rfl) (fun _ _ _ h => h) (Or.inl ⟨by kernel_rfl, fun W hSW => by go_simp⟩) (Below.refl _ _) ?_
                try simp only [Act.put, List.setIfInBounds_toArray, List.set_cons_zero, List.set_cons_succ]
                refine wpAnyH_take (i := 27) (oi := { dst := some 154, op := Op.move (Operand.tmp 0), type := 22, pos := "law.go:170", after := #[{ on := 15, ground := Ground.guard }], guard := some (15, false) }) (v := .slice (some ⟨b, o, none⟩) n c) rfl (by kernel_rfl) (by kernel_rfl) (by kernel_rfl) (fun _ _ _ h => h) (Or.inl ⟨by kernel_rfl, fun W hSW => by go_simp⟩) (Below.refl _ _) ?_
                try simp only [Act.put, List.setIfInBounds_toArray, List.set_cons_zero, List.set_cons_succ]
                refine wpAnyH_take (i := 28) (oi := { dst := some 155, op := Op.move (Operand.tmp 5), type := 3, pos := "law.go:170", after := #[{ on := 15, ground := Ground.guard }], guard := some (15, false) }) (v := .int .i64 (k : Int)) rfl (by kernel_rfl) (by kernel_rfl) (by kernel_rfl) (fun _ _ _ h => h) (Or.inl ⟨by kernel_rfl, fun W hSW => by go_simp⟩) (Below.refl _ _) ?_
                try simp only [Act.put, List.setIfInBounds_toArray, List.set_cons_zero, List.set_cons_succ]
                refine wpAnyH_take (i := 29) (oi := { dst := some 156, op := Op.indexAddr 22 (Operand.tmp 154) (Operand.tmp 155), type := 0, pos := "law.go:170", after := #[{ on := 27, ground := Ground.data }, { on := 28, ground := Ground.data }, { on := 15, ground := Ground.guard }], guard := some (15, false) }) (v := .pointer (some ⟨b, o + k * 3, none⟩)) rfl (by kernel_rfl) (by kernel_rfl) (by kernel_rfl) (fun _ _ _ h => h) (Or.inl ⟨by kernel_rfl, fun W hSW => by go_simp⟩) (Below.refl _ _) ?_
                try simp only [Act.put, List.setIfInBounds_toArray, List.set_cons_zero, List.set_cons_succ]
                refine wpAnyH_take (i := 30) (oi := { dst := some 157, op := Op.fieldAddr 31 (Operand.tmp 156) 0, type := 0, pos := "law.go:170", after := #[{ on := 29, ground := Ground.data }, { on := 15, ground := Ground.guard }], guard := some (15, false) }) (v := .pointer (some ⟨b, o + k * 3, none⟩)) rfl (by kernel_rfl) (by kernel_rfl) (by kernel_rfl) (fun _ _ _ h => h) (Or.inl ⟨by kernel_rfl, fun W hSW => by go_simp⟩) (Below.refl _ _) ?_
                try simp only [Act.put, List.setIfInBounds_toArray, List.set_cons_zero, List.set_cons_succ]
                refine wpAnyH_take (i := 31) (oi := { dst := some 158, op := Op.load 29 (Operand.tmp 157), type := 29, pos := "law.go:170", after := #[{ on := 30, ground := Ground.data }, { on := 15, ground := Ground.guard }], guard := some (15, false) }) (v := .slice x.adr m x.room) rfl (by kernel_rfl) (by kernel_rfl) (by kernel_rfl) (fun _ _ _ h => h) (Or.inl ⟨by kernel_rfl, fun W hSW => by have hcv := HCB.out W (HSX.out W hSW); go_simp⟩) (Below.refl _ _) ?_
                try simp only [Act.put, List.setIfInBounds_toArray, List.set_cons_zero, List.set_cons_succ]
                refine wpAnyH_take (i := 33) (oi := { dst := some 160, op := Op.load 36 (Operand.tmp 12), type := 36, pos := "law.go:170", after := #[{ on := 15, ground := Ground.guard }], guard := some (15, false) }) (v := .agg (u8s T1).toArray) rfl (by kernel_rfl) (by kernel_rfl) (by kernel_rfl) (fun _ _ _ h => h) (Or.inl ⟨by kernel_rfl, fun W hSW => exec_load_mid 36 (.tmp 12) rfl w9.heap.size 0 rfl (u8s T1) _ (range_block ((hSW.block _ HTG.out.2).trans HTG.out.1) 0 _ (fun j v hv => by rw [Nat.zero_add]; exact hv)) Tryd.underlying36 rfl HI1.out⟩) (Below.refl _ _) ?_
                try simp only [Act.put, List.setIfInBounds_toArray, List.set_cons_zero, List.set_cons_succ]
                refine wpAnyH_ready (rs := [24]) (by kernel_rfl) (by simp) ?_
                refine AllReadyH.cons (o := { dst := some 151, op := Op.call { callee := Callee.value (Operand.func 14), args := #[Operand.const (Value.int IntKind.i64 3), Operand.tmp 144, Operand.tmp 149, Operand.tmp 150], argTypes := #[3, 35, 29, 36] }, type := 4, pos := "law.go:170", after := #[{ on := 17, ground := Ground.data }, { on := 22, ground := Ground.data }, { on := 23, ground := Ground.data }, { on := 15, ground := Ground.chain }, { on := 15, ground := Ground.guard }], guard := some (15, false) }) rfl (fun K' hK' => ?_) AllReadyH.nil
                go_simp
                go_at_call 14
                refine (HCK2.out w12 (HSX.out w12 (Below.refl _ _))).mono ?_
                rintro E w13 ⟨rfl, HBw13'⟩
                have HBw13 := HBw13'
                refine hK'.out _ _ HBw13.out (fun _ => wpAnyH_next HBw13.out ?_)
                clear hK' K'
                try simp only [Act.put, List.setIfInBounds_toArray, List.set_cons_zero, List.set_cons_succ]
                have HX13 : Hid (Below w11.heap.size w11 w13) := Lib.hid (HX12.out.trans (HBw13.out.mono HX12.out.size))
                refine wpAnyH_ready (rs := [32]) (by kernel_rfl) (by simp) ?_
                refine AllReadyH.cons (o := { dst := some 159, op := Op.call { callee := Callee.value (Operand.func 17), args := #[Operand.const (Value.int IntKind.i64 3), Operand.tmp 153, Operand.tmp 158], argTypes := #[3, 35, 29] }, type := 36, pos := "law.go:170", after := #[{ on := 26, ground := Ground.data }, { on := 31, ground := Ground.data }, { on := 24, ground := Ground.chain }, { on := 15, ground := Ground.guard }], guard := some (15, false) }) rfl (fun K' hK' => ?_) AllReadyH.nil
                go_simp
                go_at_call 17
                refine (HNM.out w13 (HSX.out w13 HBw13.out)).mono ?_
                rintro E w14 ⟨rfl, HBw14'⟩
                have HBw14 := Lib.hid HBw14'
                refine hK'.out _ _ HBw14.out (fun _ => wpAnyH_next HBw14.out ?_)
                clear hK' K'
                try simp only [Act.put, List.setIfInBounds_toArray, List.set_cons_zero, List.set_cons_succ]
                have HX14 : Hid (Below w11.heap.size w11 w14) := Lib.hid (HX13.out.trans (HBw14.out.mono HX13.out.size))
                refine wpAnyH_take (i := 34) (oi := { dst := some 161, op := Op.binOp BinOp.eql 36 (Operand.tmp 159) (Operand.tmp 160) 36, type := 4, pos := "law.go:170", after := #[{ on := 32, ground := Ground.data }, { on := 33, ground := Ground.data }, { on := 15, ground := Ground.guard }], guard := some (15, false) }) (v := .bool ans) rfl (by kernel_rfl) (by kernel_rfl) (by kernel_rfl) (fun _ _ _ h => h) (Or.inl ⟨by kernel_rfl, fun W hSW => by go_simp⟩) (Below.refl _ _) ?_
                try simp only [Act.put, List.setIfInBounds_toArray, List.set_cons_zero, List.set_cons_succ]
                refine wpAnyH_take (i := 35) (oi := { dst := some 162, op := Op.binOp BinOp.neq 4 (Operand.tmp 151) (Operand.tmp 161) 4, type := 4, pos := "law.go:170", after := #[{ on := 24, ground := Ground.data }, { on := 34, ground := Ground.data }, { on := 15, ground := Ground.guard }], guard := some (15, false) }) (v := .bool false) rfl (by kernel_rfl) (by kernel_rfl) (by kernel_rfl) (fun _ _ _ h => h) (Or.inl ⟨by kernel_rfl, fun W hSW => by go_simp⟩) (Below.refl _ _) ?_
                try simp only [Act.put, List.setIfInBounds_toArray, List.set_cons_zero, List.set_cons_succ]
                refine wpAnyH_take (i := 36) (oi := { dst := some 163, op := Op.pick (Operand.tmp 142) (Operand.const (Value.bool true)) (Operand.tmp 162), type := 4, pos := "law.go:170", after := #[{ on := 15, ground := Ground.data }, { on := 35, ground := Ground.data }], guard := none }) (v := .bool false) rfl (by kernel_rfl) (by kernel_rfl) (by kernel_rfl) (fun _ _ _ h => h) (Or.inl ⟨by kernel_rfl, fun W hSW => by go_simp⟩) (Below.refl _ _) ?_
                try simp only [Act.put, List.setIfInBounds_toArray, List.set_cons_zero, List.set_cons_succ]
                refine wpAnyH_done (by kernel_rfl) ?_ _
                have D14 := Lib.hid (DQ.out.next HX14.out)
                have HS14 : Hid (Strs w LG (.slice A4 N c4) gs w14) := Lib.hid (HSQ.out.go (fun p hp => DQ.out.get (q := p.1) (o := p.2) (.tail _ (HLS.out p hp))) (fun p hp => D14.out.get (q := p.1) (o := p.2) (.tail _ (HLS.out p hp))))
                clear HSX HTG HX12 HX13 HX14 HBw12 HBw12' HBw13 HBw13' HBw14 HBw14' DQ HSQ HCK1 HCK2 HNM heq2
                have cb := HCB.out _ D14.out.below
                have hrun := run_str x.room (HRB.out _ D14.out.below)
                have HJ : Hid (Dat w d (20 + 10 * k + 10) s6 (LG ++ []) w14) := Lib.hid (D14.out.sub fun p hp => .tail _ (HLS.out p (by simpa using hp)))
                have HLG : Hid (gs.length = N) := HGN
                have hgsN : N = gs.length := HLG.out.symm
                have HGSN := Lib.hid hgsN
                rw [hgsN] at HS14 ⊢
                clear hgsN
                go_wp2_with (first | (at_builtin; refine wpList_strs keeps_dat (w := w) (L := []) (LG := LG) rfl (.tmp 164) (.tmp 171) rfl (.slice A4 gs.length c4) gs x.bs rfl rfl HJ.out D14.out.below.size HS14.out (by simp) (by have := HLG.out; have := HNB.out; omega) ?_; intro A5 c5 w15 LG5 H15))
                have D15 : Hid (Dat w d (20 + 10 * k + 10) s6 LG5 w15) := Lib.hid (H15.out.1.sub fun p hp => List.mem_append_left _ hp)
                have cp := HCP.out _ D15.out.below
                refine (dat_off D15.out).mono ?_
                rintro E wo ⟨rfl, ho8⟩
                have D8 := Lib.hid ho8
                clear ho8 cp
                have cp := HCP.out _ D8.out.below
                have HON2 := Lib.hid (dat_on D8.out (by omega) x.padr pm x.proom x.picks (HRP.out _ D8.out.below) HSP.out)
                rw [HON.out] at HON2
                go_wp2_with fail
                refine HON2.out.mono ?_
                rintro E wz ⟨rfl, ho9⟩
                have D9 := Lib.hid ho9
                clear ho9 cp HON2
                have HS16 : Hid (Strs w LG5 (.slice A5 (gs.length + 1) c5) (gs ++ [x.bs]) wz) := Lib.hid (H15.out.2.1.go (fun p hp => D15.out.get (q := p.1) (o := p.2) hp) (fun p hp => D9.out.get (q := p.1) (o := p.2) hp))
                have HNEW : Hid (CellIs s9 0 (1 - a) (tk + 1) nb (2 + k + 1)) := Lib.hid (by
                  rcases HCI.out with h | ⟨_, i, hi, hne⟩
                  · exact h
                  · exact absurd (HK6.out (by trivial) i hi) hne)
                clear HCI HK6 H15 D15 D8
                go_wp2_with fail
                go_roundw
                case measure => simp [intOf]; omega
                case rel => exact ⟨k + 1, by omega, by go_num, gs ++ [x.bs], nb, 1 - a, tk + 1, s9, LG5, Lib.hid (by have := HG2.out; rw [List.length_append, HLG.out]; simp; omega), Lib.hid ⟨HS16.out, D9.out, HC9.out.1, HC9.out.2, HNEW.out, .inr ⟨N + 1, x.bs, HNW.out.symm, by have := HM.out; omega, .inl ⟨by rw [List.length_append, HLG.out]; rfl, by omega, by rw [List.getElem?_append_right (by rw [HLG.out]; omega), HLG.out]; simp⟩⟩⟩⟩
              · subst h8e
                rw [if_neg (by decide), if_neg (by decide), ← HZZ.out] at hp
                have HP := Lib.hid hp
                clear hp HCK1 HCK2 HNM heq2 HI1 HO1 HZ1 HK6
                go_wp2_with fail
                refine HP.out.mono ?_
                rintro E w9 ⟨rfl, H9⟩
                clear HP cb
                have DA := Lib.hid (H9.out.dat.alloc (.cells Z.toArray 36 (0, 0)))
                have hL9 : Hid (∀ p ∈ LX, p.1 ≠ w9.heap.size) := Lib.hid fun p hp => by have := H9.out.dat.lt (q := p.1) (o := p.2) hp; omega
                have HA9 : Hid ((w9.alloc (.cells Z.toArray 36)).heap[w9.heap.size]? = some (.cells Z.toArray 36 (0, 0))) := Lib.hid (row_new _ _ _)
                have HS9' : Hid (Strs w LG (.slice A4 N c4) gs w9) := Lib.hid (HSF.out.go (fun p hp => by have := HSFO.out p hp; exact this) (fun p hp => H9.out.dat.get (q := p.1) (o := p.2) (HLS.out p hp)))
                clear HSF HSFO
                go_wp2_with (first
                  | (refine wpList_store_all rfl 36 (.tmp 12) (.tmp 123) rfl w9.heap.size Z Z 36 HA9.out rfl rfl rfl HIZ.out HOZ.out ?_; intro w10 G10; have D10 := Lib.hid (DA.out.upd hL9.out G10.out.1 G10.out.2); have HR10 : Hid (w10.rangeAt w9.heap.size 0 Z) := Lib.hid (range_block G10.out.1 0 _ (fun j v hv => by rw [Nat.zero_add]; exact hv)))
                  | ((with_reducible refine wpList_load_midG ?_ 36 (.tmp 12) ?_ w9.heap.size 0 ?_ Z _ ?_ Tryd.underlying36 ?_ ?_ ?_); (· rfl); (· rfl); (· rfl); (· exact HR10.out); (· rfl); (· exact HIZ.out)))
                have HS10 : Hid (Strs w LG (.slice A4 N c4) gs w10) := Lib.hid (HS9'.out.go (fun p hp => H9.out.dat.get (q := p.1) (o := p.2) (HLS.out p hp)) (fun p hp => D10.out.get (q := p.1) (o := p.2) (.tail _ (HLS.out p hp))))
                have D15 : Hid (Dat w d (20 + 10 * k + 10) s6 LG w10) := Lib.hid (D10.out.sub fun p hp => .tail _ (HLS.out p hp))
                clear DA hL9 HA9 H9 G10 D10 HR10 HS9'
                have cp := HCP.out _ D15.out.below
                refine (dat_off D15.out).mono ?_
                rintro E wo ⟨rfl, ho8⟩
                have D8 := Lib.hid ho8
                clear ho8 cp
                have cp := HCP.out _ D8.out.below
                have HON2 := Lib.hid (dat_on D8.out (by omega) x.padr pm x.proom x.picks (HRP.out _ D8.out.below) HSP.out)
                rw [HON.out] at HON2
                go_wp2_with fail
                refine HON2.out.mono ?_
                rintro E wz ⟨rfl, ho9⟩
                have D9 := Lib.hid ho9
                clear ho9 cp HON2
                have HS16 : Hid (Strs w LG (.slice A4 N c4) gs wz) := Lib.hid (HS10.out.go (fun p hp => D15.out.get (q := p.1) (o := p.2) hp) (fun p hp => D9.out.get (q := p.1) (o := p.2) hp))
                clear HS10 D15 D8
                rcases HCI.out with HNEW' | ⟨HOLD', -⟩
                · have HCL := Lib.hid HNEW'
                  clear HCI HNEW'
                  go_wp2_with fail
                  go_roundw
                  case measure => simp [intOf]; omega
                  case rel => exact ⟨k + 1, by omega, by go_num, gs, nb, _, _, s9, LG, Lib.hid (by have := HG2.out; rw [HGN.out]; omega), Lib.hid ⟨HS16.out, D9.out, HC9.out.1, HC9.out.2, HCL.out, .inr ⟨N + 1, x.bs, HNW.out.symm, by have := HM.out; omega, .inr (by rw [HGN.out])⟩⟩⟩
                · have HCL := Lib.hid HOLD'
                  clear HCI HOLD'
                  go_wp2_with fail
                  go_roundw
                  case measure => simp [intOf]; omega
                  case rel => exact ⟨k + 1, by omega, by go_num, gs, bs, _, _, s9, LG, Lib.hid (by have := HG2.out; rw [HGN.out]; omega), Lib.hid ⟨HS16.out, D9.out, HC9.out.1, HC9.out.2, HCL.out, HGV.out⟩⟩
          · as_aux_lemma =>
              have HBS := Lib.hid hbs
              have HBL : Hid (bb.length ≤ 1024) := Lib.hid hbbl
              rw [← HGE.out] at hcase
              have HN0 : Hid (num = gl + 1) := Lib.hid hcase
              have hA1 : ¬ (((gl + 1 : Nat) : Int) < (num : Int)) := by omega
              have hB1 : ¬ ((num : Int) < (gl : Int)) := by omega
              have hE1 : ((num : Int) == ((gl + 1 : Nat) : Int)) = true := by rw [hcase]; simp
              clear hcase
              have HNX : Hid (num ≤ 62 ∧ 1 ≤ num) := Lib.hid (by have := HN0.out; omega)
              have HLA := Lib.hid (last_giv HBS.out O3.out HK.out h0 (by have := HNX.out; omega) HNX.out.2)
              have hT := Sh.numTag_length 3 num bb
              have HCH : Hid (chk 3 num bb (Sh.numTag 3 num bb) = true) := Lib.hid (by have := HNX.out; simp [chk, isRep, mayN]; omega)
              have HT0 : Hid ((Sh.numTag 3 num bb).length = 32 ∧ chk 3 num bb (Sh.numTag 3 num bb) = true) := Lib.hid ⟨hT, HCH.out⟩
              have HI0 : Hid ((Tryd.prog.info? 36).map (·.size) = some (u8s (Sh.numTag 3 num bb)).length) := Lib.hid (tag_info hT)
              have HO0 : Hid (∀ v ∈ u8s (Sh.numTag 3 num bb), v.oneCell' = true) := Lib.hid (u8s_one _)
              have HZ0 := Lib.hid (HLZ.out _ hT)
              unfold tagV at HLA
              generalize Sh.numTag 3 num bb = T0 at HLA HT0 HI0 HO0 HZ0
              clear hT HCH hbs hbbl
              refine HLA.out.mono ?_
              rintro E w4 ⟨A9, c9, LR, rfl, H4⟩
              clear HLA
              have O4 := Lib.hid (H4.out.1.lit (.cells Z.toArray 36 (0, 0)))
              have hL4 : Hid (∀ p ∈ LR ++ ((u, usOf g 3) :: LG), p.1 ≠ w4.heap.size) := Lib.hid fun p hp => by have := H4.out.1.dat.lt (q := p.1) (o := p.2) hp; omega
              have HA4 : Hid ((w4.alloc (.cells Z.toArray 36)).heap[w4.heap.size]? = some (.cells Z.toArray 36 (0, 0))) := Lib.hid (row_new _ _ _)
              have HSR : Hid (Src w LR A9 bb.length bb) := Lib.hid H4.out.2.1
              have HS9 : Hid (Oct.Sl A9 bb.length c9) := Lib.hid H4.out.2.2.1
              have HS4 : Hid (Strs w LG (.slice A4 gl c4) gs w4) := Lib.hid (HS3.out.go (fun p hp => O3.out.get (q := p.1) (o := p.2) (.tail _ hp)) (fun p hp => H4.out.1.get (q := p.1) (o := p.2) (List.mem_append_right _ (.tail _ hp))))
              have HW4 : Hid (∀ W, OpAt w d (20 + 10 * k) s 0 ((w4.heap.size, Obj.cells (u8s T0).toArray 36 (0, 0)) :: (LR ++ ((u, usOf g 3) :: LG))) g bs ((a : Nat) : Int) W → (convert 29 9 (.slice A9 bb.length c9)).run Tryd.prog W = .ok (.string (Oct.str bb)) W) := Lib.hid fun W hO => run_str c9 (HSR.out.rd hO.dat (fun p hp => .tail _ (List.mem_append_left _ hp)))
              have hns : num = gs.length + 1 := by rw [← HGE.out]; exact HN0.out
              have HNSS := Lib.hid hns
              clear hns
              have hgg : gl = gs.length := HGE.out
              rw [hgg] at HS4 hA1 hB1 hE1 hw0 hw1 hgl hsc4 ⊢
              clear hgg
              go_wp2_with (first
                | (refine wpList_store_all rfl 36 (.tmp 10) (.tmp 61) rfl w4.heap.size Z (u8s T0) 36 HA4.out HZ0.out rfl rfl HI0.out HO0.out ?_; intro w5 G5; have O5 := Lib.hid (O4.out.write hL4.out G5.out.1 G5.out.2); have hrun := HW4.out _ O5.out; have HSX5 : Hid (Strs w LG (.slice A4 gs.length c4) gs w5) := Lib.hid (HS4.out.go (fun p hp => H4.out.1.get (q := p.1) (o := p.2) (List.mem_append_right _ (.tail _ hp))) (fun p hp => O5.out.get (q := p.1) (o := p.2) (.tail _ (List.mem_append_right _ (.tail _ hp))))); have HJ5 : Hid (OpAt w d (20 + 10 * k) s 0 (LG ++ ((w4.heap.size, Obj.cells (u8s T0).toArray 36 (0, 0)) :: (LR ++ [(u, usOf g 3)]))) g bs ((a : Nat) : Int) w5) := Lib.hid (O5.out.sub fun p hp => by simp only [List.mem_append, List.mem_cons, List.not_mem_nil, or_false] at hp ⊢; rcases hp with hp | hp | hp | hp <;> simp [hp]); have HNE5 : Hid (∀ p ∈ LG, ∀ q ∈ ((w4.heap.size, Obj.cells (u8s T0).toArray 36 (0, 0)) :: (LR ++ [(u, usOf g 3)])), q.1 ≠ p.1) := Lib.hid (giv_apart HSX5.out O5.out hL4.out H4.out.2.2.2))
                | (at_builtin; refine wpList_strs (keeps_opat (w := w) (d := d) (T := 20 + 10 * k) (s := s) (x := 0) (g := g) (bs := bs) (slot := ((a : Nat) : Int))) (w := w) (L := (w4.heap.size, Obj.cells (u8s T0).toArray 36 (0, 0)) :: (LR ++ [(u, usOf g 3)])) (LG := LG) rfl (.tmp 81) (.tmp 84) rfl (.slice A4 gs.length c4) gs bb rfl rfl HJ5.out O5.out.dat.below.size HSX5.out HNE5.out (by omega) ?_; intro A5 c5 wx LG5 H15; rw [← HNSS.out]))
              have OX := Lib.hid H15.out.1
              have HST : Hid (Strs w LG5 (.slice A5 num c5) (gs ++ [bb]) wx) := Lib.hid (by have := H15.out.2.1; rwa [← HNSS.out] at this)
              obtain ⟨LX, hLX⟩ : ∃ LX, LX = LG5 ++ ((w4.heap.size, Obj.cells (u8s T0).toArray 36 (0, 0)) :: (LR ++ [(u, usOf g 3)])) := ⟨_, rfl⟩
              have HU : Hid ((u, usOf g 3) ∈ LX) := Lib.hid (by rw [hLX]; simp)
              have HLS : Hid (∀ p ∈ LG5, p ∈ LX) := Lib.hid fun p hp => by rw [hLX]; exact List.mem_append_left _ hp
              have HLR : Hid (∀ p ∈ LR, p ∈ LX) := Lib.hid fun p hp => by rw [hLX]; exact List.mem_append_right _ (.tail _ (List.mem_append_left _ hp))
              have HTX : Hid ((w4.heap.size, Obj.cells (u8s T0).toArray 36 (0, 0)) ∈ LX) := Lib.hid (by rw [hLX]; simp)
              rw [← hLX] at OX
              clear hLX
              have HGN : Hid ((gs ++ [bb]).length = num) := Lib.hid (by rw [List.length_append, HNSS.out]; rfl)
              have HG2 : Hid (num ≤ 2 * k + 1) := Lib.hid (by have := HGL.out; have := HNSS.out; omega)
              have HGV : Hid (Giv (gs ++ [bb]) bs) := Lib.hid (.inr ⟨num, bb, HBS.out, HBL.out, .inl ⟨HGN.out.symm, HNX.out.2, by rw [HNSS.out, List.getElem?_append_right (by omega)]; simp⟩⟩)
              obtain ⟨n1, hn1⟩ : ∃ n1, n1 = num - 1 := ⟨_, rfl⟩
              have HN1 : Hid (num = n1 + 1) := Lib.hid (by have := HNX.out; omega)
              have HAT : Hid ((gs ++ [bb])[n1]? = some bb) := Lib.hid (by rw [hn1, HNSS.out, List.getElem?_append_right (by omega)]; simp)
              clear hn1
              clear H15 HJ5 HSX5 HNE5 O5 HW4 hrun hA1 hB1 hE1
              obtain ⟨gs5, hgs5⟩ : ∃ gs5, gs5 = gs ++ [bb] := ⟨_, rfl⟩
              rw [← hgs5] at HST HGN HGV HAT
              clear hgs5
              obtain ⟨A4, hA45⟩ : ∃ A4 : Option Addr, A4 = A5 := ⟨_, rfl⟩
              rw [← hA45] at HST ⊢
              clear hA45
              obtain ⟨c4, hc45⟩ : ∃ c4 : Nat, c4 = c5 := ⟨_, rfl⟩
              rw [← hc45] at HST ⊢
              clear hc45
              have hsc4 := (row_shape HST.out.row)
              have hsc4 : num ≤ c4 ∧ c4 ≤ 9223372036854775807 := by
                obtain ⟨A', c', e, hh⟩ := hsc4
                injection e with e1 e2 e3
                have := hh.2
                rw [HGN.out, ← e3] at this
                exact this
              have HNB : Hid (num ≤ 62) := Lib.hid HNX.out.1
              have HNS : Hid (sealN bs = num) := Lib.hid (by rw [HBS.out]; exact (seal_be num bb (by have := HNX.out; omega)).1)
              clear O3 O4 hL4 HA4 G5 HS3 HD hgl hw0 hw1 H4 HS4 HN0
              obtain ⟨N, hN⟩ : ∃ N, N = num := ⟨_, rfl⟩
              subst hN
              try simp only [Act.put]
              refine wp_region_any (by kernel_rfl) ?_
              change wpAny _ _ _ _ _ _ _ (wx.drewN 1)
              have OQ := Lib.hid (OX.out.next (w3 := wx.drewN 1) ⟨rfl, rfl, rfl, Nat.le_refl _, fun _ _ => rfl⟩)
              have HSQ : Hid (Strs w LG5 (.slice A4 N c4) gs5 (wx.drewN 1)) := Lib.hid (HST.out.go (fun p hp => OX.out.get (q := p.1) (o := p.2) (HLS.out p hp)) (fun p hp => OQ.out.get (q := p.1) (o := p.2) (HLS.out p hp)))
              clear OX HST
              generalize wx.drewN 1 = w7 at OQ HSQ ⊢
              have HB9 : Hid (∀ W, Below w7.heap.size w7 W → Oct.Rd W A9 bb.length bb) := Lib.hid fun W hb => (HSR.out.rd OQ.out.dat (fun p hp => HLR.out p hp)).below hb
              obtain ⟨q4, rfl, hq4⟩ := HSQ.out.at HAT.out
              have HQ4 : Hid (∀ W, Below w7.heap.size w7 W → W.cell? ⟨q4, n1, none⟩ = some (.string (Oct.str bb))) := Lib.hid fun W hb => (hb.cell (p := ⟨q4, n1, none⟩) (World.block_lt_of_cell? w7 _ hq4)).trans hq4
              have HTG : Hid (w7.heap[w4.heap.size]? = some (.cells (u8s T0).toArray 36 (0, 0))) := Lib.hid (OQ.out.get HTX.out)
              have HTL : Hid (w4.heap.size < w7.heap.size) := Lib.hid (OQ.out.dat.lt (q := w4.heap.size) HTX.out)
              have HCK : Hid (∀ W, Below w7.heap.size w7 W → Calls Tryd.prog 14 #[.int .i64 3, .int .u64 (N : Int), .slice A9 bb.length c9, .agg (u8s T0).toArray] W fun E w' => E = .returned (.bool true) ∧ Hid (Below W.heap.size W w')) := Lib.hid fun W hb => by
                obtain ⟨k1, k2⟩ := OQ.out.kis HK.out h0
                have := check_us 3 N (t := T0) (HB9.out W hb) HS9.out (by have := HBL.out; omega) HT0.out.1 (k1.below hb k2) (Nat.lt_of_lt_of_le k2 hb.size)
                rwa [HT0.out.2] at this
              have hin : n1 < N := by have := HN1.out; omega
              have hwm : IntKind.u64.wrap ((N : Int) - 1) = (n1 : Int) := by have := HN1.out; rw [IntKind.wrap_u64]; omega
              have hpos : 0 < (N : Int) := by omega
              clear hq4
              refine wpAny_of_held (S := fun W => Below w7.heap.size w7 W) _ _ _ _ ?_
              refine wpAnyH_take (i := 0) (oi := { dst := some 86, op := Op.move (Operand.tmp 8), type := 35, pos := "law.go:164", after := #[], guard := none }) (v := .int .u64 (N : Int)) rfl (by kernel_rfl) (by kernel_rfl) (by kernel_rfl) (fun _ _ _ h => h) (Or.inl ⟨by kernel_rfl, fun W hSW => by go_simp⟩) (Below.refl _ _) ?_
              try simp only [Act.put, List.setIfInBounds_toArray, List.set_cons_zero, List.set_cons_succ]
              refine wpAnyH_take (i := 1) (oi := { dst := some 87, op := Op.binOp BinOp.gtr 35 (Operand.tmp 86) (Operand.const (Value.int IntKind.u64 0)) 35, type := 4, pos := "law.go:164", after := #[{ on := 0, ground := Ground.data }], guard := none }) (v := .bool true) rfl (by kernel_rfl) (by kernel_rfl) (by kernel_rfl) (fun _ _ _ h => h) (Or.inl ⟨by kernel_rfl, fun W hSW => by go_simp; try omega⟩) (Below.refl _ _) ?_
              try simp only [Act.put, List.setIfInBounds_toArray, List.set_cons_zero, List.set_cons_succ]
              refine wpAnyH_take (i := 2) (oi := { dst := some 88, op := Op.move (Operand.tmp 87), type := 4, pos := "law.go:164", after := #[{ on := 1, ground := Ground.data }], guard := none }) (v := .bool true) rfl (by kernel_rfl) (by kernel_rfl) (by kernel_rfl) (fun _ _ _ h => h) (Or.inl ⟨by kernel_rfl, fun W hSW => by go_simp⟩) (Below.refl _ _) ?_
              try simp only [Act.put, List.setIfInBounds_toArray, List.set_cons_zero, List.set_cons_succ]
              refine wpAnyH_take (i := 3) (oi := { dst := some 89, op := Op.move (Operand.tmp 4), type := 28, pos := "law.go:164", after := #[{ on := 2, ground := Ground.guard }], guard := some (2, true) }) (v := .slice (some ⟨q4, 0, none⟩) N c4) rfl (by kernel_rfl) (by kernel_rfl) (by kernel_rfl) (fun _ _ _ h => h) (Or.inl ⟨by kernel_rfl, fun W hSW => by go_simp⟩) (Below.refl _ _) ?_
              try simp only [Act.put, List.setIfInBounds_toArray, List.set_cons_zero, List.set_cons_succ]
              refine wpAnyH_take (i := 4) (oi := { dst := some 90, op := Op.move (Operand.tmp 8), type := 35, pos := "law.go:164", after := #[{ on := 2, ground := Ground.guard }], guard := some (2, true) }) (v := .int .u64 (N : Int)) rfl (by kernel_rfl) (by kernel_rfl) (by kernel_rfl) (fun _ _ _ h => h) (Or.inl ⟨by kernel_rfl, fun W hSW => by go_simp⟩) (Below.refl _ _) ?_
              try simp only [Act.put, List.setIfInBounds_toArray, List.set_cons_zero, List.set_cons_succ]
              refine wpAnyH_take (i := 5) (oi := { dst := some 91, op := Op.binOp BinOp.sub 35 (Operand.tmp 90) (Operand.const (Value.int IntKind.u64 1)) 35, type := 35, pos := "law.go:164", after := #[{ on := 4, ground := Ground.data }, { on := 2, ground := Ground.guard }], guard := some (2, true) }) (v := .int .u64 (n1 : Int)) rfl (by kernel_rfl) (by kernel_rfl) (by kernel_rfl) (fun _ _ _ h => h) (Or.inl ⟨by kernel_rfl, fun W hSW => by go_simp⟩) (Below.refl _ _) ?_
              try simp only [Act.put, List.setIfInBounds_toArray, List.set_cons_zero, List.set_cons_succ]
              refine wpAnyH_take (i := 6) (oi := { dst := some 92, op := Op.indexAddr 28 (Operand.tmp 89) (Operand.tmp 91), type := 0, pos := "law.go:164", after := #[{ on := 3, ground := Ground.data }, { on := 5, ground := Ground.data }, { on := 2, ground := Ground.guard }], guard := some (2, true) }) (v := .pointer (some ⟨q4, n1, none⟩)) rfl (by kernel_rfl) (by kernel_rfl) (by kernel_rfl) (fun _ _ _ h => h) (Or.inl ⟨by kernel_rfl, fun W hSW => by go_simp⟩) (Below.refl _ _) ?_
              try simp only [Act.put, List.setIfInBounds_toArray, List.set_cons_zero, List.set_cons_succ]
              refine wpAnyH_take (i := 7) (oi := { dst := some 93, op := Op.load 9 (Operand.tmp 92), type := 9, pos := "law.go:164", after := #[{ on := 6, ground := Ground.data }, { on := 2, ground := Ground.guard }], guard := some (2, true) }) (v := .string (Oct.str bb)) rfl (by kernel_rfl) (by kernel_rfl) (by kernel_rfl) (fun _ _ _ h => h) (Or.inl ⟨by kernel_rfl, fun W hSW => by have hcv := HQ4.out W hSW; go_simp⟩) (Below.refl _ _) ?_
              try simp only [Act.put, List.setIfInBounds_toArray, List.set_cons_zero, List.set_cons_succ]
              refine wpAnyH_take (i := 8) (oi := { dst := some 94, op := Op.move (Operand.tmp 9), type := 29, pos := "law.go:164", after := #[{ on := 2, ground := Ground.guard }], guard := some (2, true) }) (v := .slice A9 bb.length c9) rfl (by kernel_rfl) (by kernel_rfl) (by kernel_rfl) (fun _ _ _ h => h) (Or.inl ⟨by kernel_rfl, fun W hSW => by go_simp⟩) (Below.refl _ _) ?_
              try simp only [Act.put, List.setIfInBounds_toArray, List.set_cons_zero, List.set_cons_succ]
              refine wpAnyH_take (i := 9) (oi := { dst := some 95, op := Op.convert 29 9 (Operand.tmp 94), type := 9, pos := "law.go:164", after := #[{ on := 8, ground := Ground.data }, { on := 2, ground := Ground.guard }], guard := some (2, true) }) (v := .string (Oct.str bb)) rfl (by kernel_rfl) (by kernel_rfl) (by kernel_rfl) (fun _ _ _ h => h) (Or.inl ⟨by kernel_rfl, fun W hSW => by have hrun := run_str c9 (HB9.out W hSW); go_simp⟩) (Below.refl _ _) ?_
              try simp only [Act.put, List.setIfInBounds_toArray, List.set_cons_zero, List.set_cons_succ]
              refine wpAnyH_take (i := 10) (oi := { dst := some 96, op := Op.binOp BinOp.neq 9 (Operand.tmp 93) (Operand.tmp 95) 9, type := 4, pos := "law.go:164", after := #[{ on := 7, ground := Ground.data }, { on := 9, ground := Ground.data }, { on := 2, ground := Ground.guard }], guard := some (2, true) }) (v := .bool false) rfl (by kernel_rfl) (by kernel_rfl) (by kernel_rfl) (fun _ _ _ h => h) (Or.inl ⟨by kernel_rfl, fun W hSW => by go_simp⟩) (Below.refl _ _) ?_
              try simp only [Act.put, List.setIfInBounds_toArray, List.set_cons_zero, List.set_cons_succ]
              refine wpAnyH_take (i := 11) (oi := { dst := some 97, op := Op.move (Operand.tmp 96), type := 4, pos := "law.go:164", after := #[{ on := 10, ground := Ground.data }, { on := 2, ground := Ground.chain }, { on := 2, ground := Ground.guard }], guard := some (2, true) }) (v := .bool false) rfl (by kernel_rfl) (by kernel_rfl) (by kernel_rfl) (fun _ _ _ h => h) (Or.inl ⟨by kernel_rfl, fun W hSW => by go_simp⟩) (Below.refl _ _) ?_
              try simp only [Act.put, List.setIfInBounds_toArray, List.set_cons_zero, List.set_cons_succ]
              refine wpAnyH_take (i := 12) (oi := { dst := some 98, op := Op.move (Operand.tmp 8), type := 35, pos := "law.go:164", after := #[{ on := 11, ground := Ground.guard }], guard := some (11, false) }) (v := .int .u64 (N : Int)) rfl (by kernel_rfl) (by kernel_rfl) (by kernel_rfl) (fun _ _ _ h => h) (Or.inl ⟨by kernel_rfl, fun W hSW => by go_simp⟩) (Below.refl _ _) ?_
              try simp only [Act.put, List.setIfInBounds_toArray, List.set_cons_zero, List.set_cons_succ]
              refine wpAnyH_take (i := 13) (oi := { dst := some 99, op := Op.move (Operand.tmp 9), type := 29, pos := "law.go:164", after := #[{ on := 11, ground := Ground.guard }], guard := some (11, false) }) (v := .slice A9 bb.length c9) rfl (by kernel_rfl) (by kernel_rfl) (by kernel_rfl) (fun _ _ _ h => h) (Or.inl ⟨by kernel_rfl, fun W hSW => by go_simp⟩) (Below.refl _ _) ?_
              try simp only [Act.put, List.setIfInBounds_toArray, List.set_cons_zero, List.set_cons_succ]
              refine wpAnyH_take (i := 14) (oi := { dst := some 100, op := Op.load 36 (Operand.tmp 10), type := 36, pos := "law.go:164", after := #[{ on := 11, ground := Ground.guard }], guard := some (11, false) }) (v := .agg (u8s T0).toArray) rfl (by kernel_rfl) (by kernel_rfl) (by kernel_rfl) (fun _ _ _ h => h) (Or.inl ⟨by kernel_rfl, fun W hSW => exec_load_mid 36 (.tmp 10) rfl w4.heap.size 0 rfl (u8s T0) _ (range_block ((hSW.block _ HTL.out).trans HTG.out) 0 _ (fun j v hv => by rw [Nat.zero_add]; exact hv)) Tryd.underlying36 rfl HI0.out⟩) (Below.refl _ _) ?_
              try simp only [Act.put, List.setIfInBounds_toArray, List.set_cons_zero, List.set_cons_succ]
              refine wpAnyH_ready (rs := [15]) (by kernel_rfl) (by simp) ?_
              refine AllReadyH.cons (o := { dst := some 101, op := Op.call { callee := Callee.value (Operand.func 14), args := #[Operand.const (Value.int IntKind.i64 3), Operand.tmp 98, Operand.tmp 99, Operand.tmp 100], argTypes := #[3, 35, 29, 36] }, type := 4, pos := "law.go:164", after := #[{ on := 12, ground := Ground.data }, { on := 13, ground := Ground.data }, { on := 14, ground := Ground.data }, { on := 11, ground := Ground.chain }, { on := 11, ground := Ground.guard }], guard := some (11, false) }) rfl (fun K' hK' => ?_) AllReadyH.nil
              go_simp
              go_at_call 14
              refine (HCK.out w7 (Below.refl _ _)).mono ?_
              rintro E w8 ⟨rfl, HB8⟩
              refine hK'.out _ _ HB8.out (fun _ => wpAnyH_next HB8.out ?_)
              clear hK' K'
              try simp only [Act.put, List.setIfInBounds_toArray, List.set_cons_zero, List.set_cons_succ]
              refine wpAnyH_take (i := 16) (oi := { dst := some 102, op := Op.unOp UnOp.not 4 (Operand.tmp 101), type := 4, pos := "law.go:164", after := #[{ on := 15, ground := Ground.data }, { on := 11, ground := Ground.guard }], guard := some (11, false) }) (v := .bool false) rfl (by kernel_rfl) (by kernel_rfl) (by kernel_rfl) (fun _ _ _ h => h) (Or.inl ⟨by kernel_rfl, fun W hSW => by go_simp⟩) (Below.refl _ _) ?_
              try simp only [Act.put, List.setIfInBounds_toArray, List.set_cons_zero, List.set_cons_succ]
              refine wpAnyH_take (i := 17) (oi := { dst := some 103, op := Op.pick (Operand.tmp 97) (Operand.const (Value.bool true)) (Operand.tmp 102), type := 4, pos := "law.go:164", after := #[{ on := 11, ground := Ground.data }, { on := 16, ground := Ground.data }, { on := 2, ground := Ground.guard }], guard := some (2, true) }) (v := .bool false) rfl (by kernel_rfl) (by kernel_rfl) (by kernel_rfl) (fun _ _ _ h => h) (Or.inl ⟨by kernel_rfl, fun W hSW => by go_simp⟩) (Below.refl _ _) ?_
              try simp only [Act.put, List.setIfInBounds_toArray, List.set_cons_zero, List.set_cons_succ]
              refine wpAnyH_take (i := 18) (oi := { dst := some 104, op := Op.pick (Operand.tmp 88) (Operand.tmp 103) (Operand.const (Value.bool false)), type := 4, pos := "law.go:164", after := #[{ on := 2, ground := Ground.data }, { on := 17, ground := Ground.data }], guard := none }) (v := .bool false) rfl (by kernel_rfl) (by kernel_rfl) (by kernel_rfl) (fun _ _ _ h => h) (Or.inl ⟨by kernel_rfl, fun W hSW => by go_simp⟩) (Below.refl _ _) ?_
              try simp only [Act.put, List.setIfInBounds_toArray, List.set_cons_zero, List.set_cons_succ]
              refine wpAnyH_done (by kernel_rfl) ?_ _
              have OY := Lib.hid (OQ.out.next HB8.out)
              have HSY : Hid (Strs w LG5 (.slice (some ⟨q4, 0, none⟩) N c4) gs5 w8) := Lib.hid (HSQ.out.go (fun p hp => OQ.out.get (q := p.1) (o := p.2) (HLS.out p hp)) (fun p hp => OY.out.get (q := p.1) (o := p.2) (HLS.out p hp)))
              obtain ⟨A4, hA4⟩ : ∃ A4 : Option Addr, A4 = some ⟨q4, 0, none⟩ := ⟨_, rfl⟩
              rw [← hA4] at HSY ⊢
              clear OQ HSQ HB8 HCK HQ4 HB9 HTG HTL hA4 hin hwm hpos HSR HTX HT0 HI0 HAT HN1
              obtain ⟨wy, hwy⟩ : ∃ wy, wy = w8 := ⟨_, rfl⟩
              subst hwy
              have cn := HCN.out _ OY.out.dat.below
              go_wp2_with fail
              refine (cell_fuse OY.out (x16 : Int) (by omega)).mono ?_
              rintro E wf ⟨rfl, OF⟩
              have HSF : Hid (Strs w LG5 (.slice A4 N c4) gs5 wf) := Lib.hid (HSY.out.go (fun p hp => OY.out.get (q := p.1) (o := p.2) (HLS.out p hp)) (fun p hp => OF.out.get (q := p.1) (o := p.2) (HLS.out p hp)))
              clear OY HSY cn
              have HSFO : Hid (∀ p ∈ LG5, wf.heap[p.1]? = some p.2) := Lib.hid fun p hp => OF.out.get (q := p.1) (o := p.2) (HLS.out p hp)
              have cb := HCB.out _ OF.out.dat.below
              have ha := HC.out.2.2.slot
              have htp := HC.out.2.2.top_le
              have hsm := HC.out.2.2.small
              have hNB : N ≤ 62 := HNB.out
              obtain ⟨s6, e, hrn, h08, hcr⟩ := renew_crash (s := s.fuseAt (x16 : Int)) (at' := 0) (slot := 1 - (a : Int)) (bs := Oct.be 8 (N + 1) ++ x.bs) HC.out.1.1 HC.out.2.1 (by omega)
              have htg : topGo (s.fuseAt (x16 : Int)) 0 20 = topGo s 0 20 := topGo_congr (fun _ => rfl) 0 20
              have hlen : (Oct.be 8 (N + 1) ++ x.bs).length ≤ 1100 := by rw [List.length_append, Oct.be_length, ← HM.out]; omega
              have hp := next_us OF.out 3 HU.out HK.out h0 HC.out.1.1 (by omega) (x := 0) (by omega) (by omega) (by rw [htg]; omega) (b := x.bs) (fun W hb1 _ => HRB.out W hb1) HSB.out hml N HNS.out (by omega) hrn
              obtain ⟨s9, k1, k2, k3, k4, k5, k6⟩ := hcr x.picks
              rw [htg] at k5 k6
              have e1 : (0 : Int) + (1 - (a : Int)) * 10 = 0 + ((1 - a : Nat) : Int) * 10 := by omega
              rw [e1] at k5 k6
              have HCI := Lib.hid (HC.out.2.2.crash (x := 0) (by omega) (by omega) (Oct.be 8 (N + 1) ++ x.bs) hlen HC.out.1.1 HC.out.2.1 k2 k4 k5)
              have HON : Hid (s6.offed.on x.picks = (s9, 0)) := Lib.hid k1
              have HC9 : Hid (Calm s9 ∧ s9.loose = []) := Lib.hid ⟨⟨k2, k3⟩, k4⟩
              have HK6 := Lib.hid k6
              have hTL := Sh.numTag_length 3 (N + 1) x.bs
              have HCK1 : Hid (∀ W, Below w.heap.size w W → Calls Tryd.prog 14 #[.int .i64 3, .int .u64 ((N + 1 : Nat) : Int), .slice x.adr m x.room, .agg (u8s (Sh.numTag 3 (N + 1) x.bs)).toArray] W fun E w' => E = .returned (.bool true) ∧ Hid (Below W.heap.size W w')) := Lib.hid fun W hb => by
                have hr := HRB.out W hb
                have hs := HSB.out
                rw [HM.out] at hr hs ⊢
                have := check_us 3 (N + 1) (t := Sh.numTag 3 (N + 1) x.bs) hr hs (by have := HM.out; omega) hTL (HK.out.below hb h0) (Nat.lt_of_lt_of_le h0 hb.size)
                rwa [show chk 3 (N + 1) x.bs (Sh.numTag 3 (N + 1) x.bs) = true by have := HM.out; simp [chk, isRep, mayN]; omega] at this
              obtain ⟨ans, hans⟩ : ∃ ans, ans = chk 3 (N + 2) x.bs (Sh.numTag 3 (N + 1) x.bs) := ⟨_, rfl⟩
              have HCK2 : Hid (∀ W, Below w.heap.size w W → Calls Tryd.prog 14 #[.int .i64 3, .int .u64 ((N + 2 : Nat) : Int), .slice x.adr m x.room, .agg (u8s (Sh.numTag 3 (N + 1) x.bs)).toArray] W fun E w' => E = .returned (.bool ans) ∧ Hid (Below W.heap.size W w')) := Lib.hid fun W hb => by
                have hr := HRB.out W hb
                have hs := HSB.out
                rw [HM.out] at hr hs ⊢
                rw [hans]
                exact check_us 3 (N + 2) (t := Sh.numTag 3 (N + 1) x.bs) hr hs (by have := HM.out; omega) hTL (HK.out.below hb h0) (Nat.lt_of_lt_of_le h0 hb.size)
              have hT2 := Sh.numTag_length 3 (N + 2) x.bs
              have HNM : Hid (∀ W, Below w.heap.size w W → Calls Tryd.prog 17 #[.int .i64 3, .int .u64 ((N + 2 : Nat) : Int), .slice x.adr m x.room] W fun E w' => E = .returned (.agg (u8s (Sh.numTag 3 (N + 2) x.bs)).toArray) ∧ Below W.heap.size W w') := Lib.hid fun W hb => by
                have hr := HRB.out W hb
                have hs := HSB.out
                rw [HM.out] at hr hs ⊢
                exact Sh.refNumbered_any 3 (N + 2) x.bs x.adr _ x.room W (rd_sh hr) hs (by have := HM.out; omega) (HK.out.below hb h0) (Nat.lt_of_lt_of_le h0 hb.size)
              have heq2 : ∀ w, (Op.equalIn 10000 36 (.agg (u8s (Sh.numTag 3 (N + 2) x.bs)).toArray) (.agg (u8s (Sh.numTag 3 (N + 1) x.bs)).toArray)).run Tryd.prog w = .ok ans w := fun w => by
                have hmm := HM.out
                rw [eq_tags _ _ hT2 hTL, hans, chk_ref 3 (N + 2) x.bs _ rfl (by simp [mayN]; omega)]
              have HI1 : Hid ((Tryd.prog.info? 36).map (·.size) = some (u8s (Sh.numTag 3 (N + 1) x.bs)).length) := Lib.hid (tag_info hTL)
              have HO1 : Hid (∀ v ∈ u8s (Sh.numTag 3 (N + 1) x.bs), v.oneCell' = true) := Lib.hid (u8s_one _)
              have HZ1 := Lib.hid (HLZ.out _ hTL)
              unfold tagV at hp
              generalize Sh.numTag 3 (N + 1) x.bs = T1 at hp HCK1 HCK2 heq2 HI1 HO1 HZ1
              generalize Sh.numTag 3 (N + 2) x.bs = T2 at HNM heq2
              generalize hnb : Oct.be 8 (N + 1) ++ x.bs = nb at hp HCI HK6
              have HNW := Lib.hid hnb
              clear k1 k2 k3 k4 k5 k6 hcr hrn htg e1 htp hsm ha OF hTL hT2 hans hlen hnb
              generalize topGo s 0 20 = tk at HCI HK6
              have hwn1 : IntKind.u64.wrap ((N : Int) + 1) = ((N + 1 : Nat) : Int) := by rw [IntKind.wrap_u64]; omega
              have hwn2 : IntKind.u64.wrap (((N + 1 : Nat) : Int) + 1) = ((N + 2 : Nat) : Int) := by rw [IntKind.wrap_u64]; omega
              have hwn3 : IntKind.u64.wrap ((N : Int) + 1 + 1) = (N : Int) + 2 := by rw [IntKind.wrap_u64]; omega
              clear hNB
              rcases h08 with h0e | h8e
              · subst h0e
                rw [if_pos rfl, if_pos rfl] at hp
                have HP := Lib.hid hp
                clear hp
                go_wp2_with fail
                refine HP.out.mono ?_
                rintro E w9 ⟨rfl, H9⟩
                clear HP cb
                have DA := Lib.hid (H9.out.dat.alloc (.cells Z.toArray 36 (0, 0)))
                have hL9 : Hid (∀ p ∈ LX, p.1 ≠ w9.heap.size) := Lib.hid fun p hp => by have := H9.out.dat.lt (q := p.1) (o := p.2) hp; omega
                have HA9 : Hid ((w9.alloc (.cells Z.toArray 36)).heap[w9.heap.size]? = some (.cells Z.toArray 36 (0, 0))) := Lib.hid (row_new _ _ _)
                have HS9' : Hid (Strs w LG5 (.slice A4 N c4) gs5 w9) := Lib.hid (HSF.out.go (fun p hp => by have := HSFO.out p hp; exact this) (fun p hp => H9.out.dat.get (q := p.1) (o := p.2) (HLS.out p hp)))
                clear HSF HSFO
                go_wp2_with (first | (refine wpList_store_all rfl 36 (.tmp 12) (.tmp 123) rfl w9.heap.size Z (u8s T1) 36 HA9.out HZ1.out rfl rfl HI1.out HO1.out ?_; intro w10 G10))
                have D10 := Lib.hid (DA.out.upd hL9.out G10.out.1 G10.out.2)
                have HS10 : Hid (Strs w LG5 (.slice A4 N c4) gs5 w10) := Lib.hid (HS9'.out.go (fun p hp => H9.out.dat.get (q := p.1) (o := p.2) (HLS.out p hp)) (fun p hp => D10.out.get (q := p.1) (o := p.2) (.tail _ (HLS.out p hp))))
                clear HS9' DA hL9 HA9 H9 G10
                try simp only [Act.put]
                refine wp_region_any (by kernel_rfl) ?_
                change wpAny _ _ _ _ _ _ _ (w10.drewN 1)
                have DQ := Lib.hid (D10.out.next (w' := w10.drewN 1) ⟨rfl, rfl, rfl, Nat.le_refl _, fun _ _ => rfl⟩)
                have HSQ : Hid (Strs w LG5 (.slice A4 N c4) gs5 (w10.drewN 1)) := Lib.hid (HS10.out.go (fun p hp => D10.out.get (q := p.1) (o := p.2) (.tail _ (HLS.out p hp))) (fun p hp => DQ.out.get (q := p.1) (o := p.2) (.tail _ (HLS.out p hp))))
                clear D10 HS10
                generalize w10.drewN 1 = w11 at DQ HSQ ⊢
                have HSX : Hid (∀ W, Below w11.heap.size w11 W → Below w.heap.size w W) := Lib.hid fun W hb => DQ.out.below.trans (hb.mono DQ.out.below.size)
                have HTG : Hid (w11.heap[w9.heap.size]? = some (.cells (u8s T1).toArray 36 (0, 0)) ∧ w9.heap.size < w11.heap.size) := Lib.hid ⟨DQ.out.get (.head _), DQ.out.lt (q := w9.heap.size) (.head _)⟩
                refine wpAny_of_held (S := fun W => Below w11.heap.size w11 W) _ _ _ _ ?_
                refine wpAnyH_take (i := 0) (oi := { dst := some 127, op := Op.move (Operand.tmp 11), type := 35, pos := "law.go:170", after := #[], guard := none }) (v := .int .u64 ((N + 1 : Nat) : Int)) rfl (by kernel_rfl) (by kernel_rfl) (by kernel_rfl) (fun _ _ _ h => h) (Or.inl ⟨by kernel_rfl, fun W hSW => by go_simp⟩) (Below.refl _ _) ?_
                try simp only [Act.put, List.setIfInBounds_toArray, List.set_cons_zero, List.set_cons_succ]
                refine wpAnyH_take (i := 1) (oi := { dst := some 128, op := Op.move (Operand.tmp 8), type := 35, pos := "law.go:170", after := #[], guard := none }) (v := .int .u64 (N : Int)) rfl (by kernel_rfl) (by kernel_rfl) (by kernel_rfl) (fun _ _ _ h => h) (Or.inl ⟨by kernel_rfl, fun W hSW => by go_simp⟩) (Below.refl _ _) ?_
                try simp only [Act.put, List.setIfInBounds_toArray, List.set_cons_zero, List.set_cons_succ]
                refine wpAnyH_take (i := 2) (oi := { dst := some 129, op := Op.binOp BinOp.add 35 (Operand.tmp 128) (Operand.const (Value.int IntKind.u64 1)) 35, type := 35, pos := "law.go:170", after := #[{ on := 1, ground := Ground.data }], guard := none }) (v := .int .u64 ((N + 1 : Nat) : Int)) rfl (by kernel_rfl) (by kernel_rfl) (by kernel_rfl) (fun _ _ _ h => h) (Or.inl ⟨by kernel_rfl, fun W hSW => by go_simp⟩) (Below.refl _ _) ?_
                try simp only [Act.put, List.setIfInBounds_toArray, List.set_cons_zero, List.set_cons_succ]
                refine wpAnyH_take (i := 3) (oi := { dst := some 130, op := Op.binOp BinOp.neq 35 (Operand.tmp 127) (Operand.tmp 129) 35, type := 4, pos := "law.go:170", after := #[{ on := 0, ground := Ground.data }, { on := 2, ground := Ground.data }], guard := none }) (v := .bool false) rfl (by kernel_rfl) (by kernel_rfl) (by kernel_rfl) (fun _ _ _ h => h) (Or.inl ⟨by kernel_rfl, fun W hSW => by go_simp⟩) (Below.refl _ _) ?_
                try simp only [Act.put, List.setIfInBounds_toArray, List.set_cons_zero, List.set_cons_succ]
                refine wpAnyH_take (i := 4) (oi := { dst := some 131, op := Op.move (Operand.tmp 130), type := 4, pos := "law.go:170", after := #[{ on := 3, ground := Ground.data }], guard := none }) (v := .bool false) rfl (by kernel_rfl) (by kernel_rfl) (by kernel_rfl) (fun _ _ _ h => h) (Or.inl ⟨by kernel_rfl, fun W hSW => by go_simp⟩) (Below.refl _ _) ?_
                try simp only [Act.put, List.setIfInBounds_toArray, List.set_cons_zero, List.set_cons_succ]
                refine wpAnyH_take (i := 5) (oi := { dst := some 132, op := Op.move (Operand.tmp 11), type := 35, pos := "law.go:170", after := #[{ on := 4, ground := Ground.guard }], guard := some (4, false) }) (v := .int .u64 ((N + 1 : Nat) : Int)) rfl (by kernel_rfl) (by kernel_rfl) (by kernel_rfl) (fun _ _ _ h => h) (Or.inl ⟨by kernel_rfl, fun W hSW => by go_simp⟩) (Below.refl _ _) ?_
                try simp only [Act.put, List.setIfInBounds_toArray, List.set_cons_zero, List.set_cons_succ]
                refine wpAnyH_take (i := 6) (oi := { dst := some 133, op := Op.move (Operand.tmp 0), type := 22, pos := "law.go:170", after := #[{ on := 4, ground := Ground.guard }], guard := some (4, false) }) (v := .slice (some ⟨b, o, none⟩) n c) rfl (by kernel_rfl) (by kernel_rfl) (by kernel_rfl) (fun _ _ _ h => h) (Or.inl ⟨by kernel_rfl, fun W hSW => by go_simp⟩) (Below.refl _ _) ?_
                try simp only [Act.put, List.setIfInBounds_toArray, List.set_cons_zero, List.set_cons_succ]
                refine wpAnyH_take (i := 7) (oi := { dst := some 134, op := Op.move (Operand.tmp 5), type := 3, pos := "law.go:170", after := #[{ on := 4, ground := Ground.guard }], guard := some (4, false) }) (v := .int .i64 (k : Int)) rfl (by kernel_rfl) (by kernel_rfl) (by kernel_rfl) (fun _ _ _ h => h) (Or.inl ⟨by kernel_rfl, fun W hSW => by go_simp⟩) (Below.refl _ _) ?_
                try simp only [Act.put, List.setIfInBounds_toArray, List.set_cons_zero, List.set_cons_succ]
                refine wpAnyH_take (i := 8) (oi := { dst := some 135, op := Op.indexAddr 22 (Operand.tmp 133) (Operand.tmp 134), type := 0, pos := "law.go:170", after := #[{ on := 6, ground := Ground.data }, { on := 7, ground := Ground.data }, { on := 4, ground := Ground.guard }], guard := some (4, false) }) (v := .pointer (some ⟨b, o + k * 3, none⟩)) rfl (by kernel_rfl) (by kernel_rfl) (by kernel_rfl) (fun _ _ _ h => h) (Or.inl ⟨by kernel_rfl, fun W hSW => by go_simp⟩) (Below.refl _ _) ?_
                try simp only [Act.put, List.setIfInBounds_toArray, List.set_cons_zero, List.set_cons_succ]
                refine wpAnyH_take (i := 9) (oi := { dst := some 136, op := Op.fieldAddr 31 (Operand.tmp 135) 0, type := 0, pos := "law.go:170", after := #[{ on := 8, ground := Ground.data }, { on := 4, ground := Ground.guard }], guard := some (4, false) }) (v := .pointer (some ⟨b, o + k * 3, none⟩)) rfl (by kernel_rfl) (by kernel_rfl) (by kernel_rfl) (fun _ _ _ h => h) (Or.inl ⟨by kernel_rfl, fun W hSW => by go_simp⟩) (Below.refl _ _) ?_
                try simp only [Act.put, List.setIfInBounds_toArray, List.set_cons_zero, List.set_cons_succ]
                refine wpAnyH_take (i := 10) (oi := { dst := some 137, op := Op.load 29 (Operand.tmp 136), type := 29, pos := "law.go:170", after := #[{ on := 9, ground := Ground.data }, { on := 4, ground := Ground.guard }], guard := some (4, false) }) (v := .slice x.adr m x.room) rfl (by kernel_rfl) (by kernel_rfl) (by kernel_rfl) (fun _ _ _ h => h) (Or.inl ⟨by kernel_rfl, fun W hSW => by have hcv := HCB.out W (HSX.out W hSW); go_simp⟩) (Below.refl _ _) ?_
                try simp only [Act.put, List.setIfInBounds_toArray, List.set_cons_zero, List.set_cons_succ]
                refine wpAnyH_take (i := 11) (oi := { dst := some 138, op := Op.load 36 (Operand.tmp 12), type := 36, pos := "law.go:170", after := #[{ on := 4, ground := Ground.guard }], guard := some (4, false) }) (v := .agg (u8s T1).toArray) rfl (by kernel_rfl) (by kernel_rfl) (by kernel_rfl) (fun _ _ _ h => h) (Or.inl ⟨by kernel_rfl, fun W hSW => exec_load_mid 36 (.tmp 12) rfl w9.heap.size 0 rfl (u8s T1) _ (range_block ((hSW.block _ HTG.out.2).trans HTG.out.1) 0 _ (fun j v hv => by rw [Nat.zero_add]; exact hv)) Tryd.underlying36 rfl HI1.out⟩) (Below.refl _ _) ?_
                try simp only [Act.put, List.setIfInBounds_toArray, List.set_cons_zero, List.set_cons_succ]
                refine wpAnyH_ready (rs := [12]) (by kernel_rfl) (by simp) ?_
                refine AllReadyH.cons (o := { dst := some 139, op := Op.call { callee := Callee.value (Operand.func 14), args := #[Operand.const (Value.int IntKind.i64 3), Operand.tmp 132, Operand.tmp 137, Operand.tmp 138], argTypes := #[3, 35, 29, 36] }, type := 4, pos := "law.go:170", after := #[{ on := 5, ground := Ground.data }, { on := 10, ground := Ground.data }, { on := 11, ground := Ground.data }, { on := 4, ground := Ground.chain }, { on := 4, ground := Ground.guard }], guard := some (4, false) }) rfl (fun K' hK' => ?_) AllReadyH.nil
                go_simp
                go_at_call 14
                refine (HCK1.out w11 (HSX.out w11 (Below.refl _ _))).mono ?_
                rintro E w12 ⟨rfl, HBw12'⟩
                have HBw12 := HBw12'
                refine hK'.out _ _ HBw12.out (fun _ => wpAnyH_next HBw12.out ?_)
                clear hK' K'
                try simp only [Act.put, List.setIfInBounds_toArray, List.set_cons_zero, List.set_cons_succ]
                have HX12 : Hid (Below w11.heap.size w11 w12) := HBw12
                have HSX : Hid (∀ W, Below w12.heap.size w12 W → Below w.heap.size w W) := Lib.hid fun W hb => HSX.out W (HX12.out.trans (hb.mono HX12.out.size))
                have HTG : Hid (w12.heap[w9.heap.size]? = some (.cells (u8s T1).toArray 36 (0, 0)) ∧ w9.heap.size < w12.heap.size) := Lib.hid ⟨(HX12.out.block _ HTG.out.2).trans HTG.out.1, Nat.lt_of_lt_of_le HTG.out.2 HX12.out.size⟩
                refine wpAnyH_take (i := 13) (oi := { dst := some 140, op := Op.unOp UnOp.not 4 (Operand.tmp 139), type := 4, pos := "law.go:170", after := #[{ on := 12, ground := Ground.data }, { on := 4, ground := Ground.guard }], guard := some (4, false) }) (v := .bool false) rfl (by kernel_rfl) (by kernel_rfl) (by kernel_rfl) (fun _ _ _ h => h) (Or.inl ⟨by kernel_rfl, fun W hSW => by go_simp⟩) (Below.refl _ _) ?_
                try simp only [Act.put, List.setIfInBounds_toArray, List.set_cons_zero, List.set_cons_succ]
                refine wpAnyH_take (i := 14) (oi := { dst := some 141, op := Op.pick (Operand.tmp 131) (Operand.const (Value.bool true)) (Operand.tmp 140), type := 4, pos := "law.go:170", after := #[{ on := 4, ground := Ground.data }, { on := 13, ground := Ground.data }], guard := none }) (v := .bool false) rfl (by kernel_rfl) (by kernel_rfl) (by kernel_rfl) (fun _ _ _ h => h) (Or.inl ⟨by kernel_rfl, fun W hSW => by go_simp⟩) (Below.refl _ _) ?_
                try simp only [Act.put, List.setIfInBounds_toArray, List.set_cons_zero, List.set_cons_succ]
                refine wpAnyH_take (i := 15) (oi := { dst := some 142, op := Op.move (Operand.tmp 141), type := 4, pos := "law.go:170", after := #[{ on := 14, ground := Ground.data }, { on := 12, ground := Ground.chain }], guard := none }) (v := .bool false) rfl (by kernel_rfl) (by kernel_rfl) (by kernel_rfl) (fun _ _ _ h => h) (Or.inl ⟨by kernel_rfl, fun W hSW => by go_simp⟩) (Below.refl _ _) ?_
                try simp only [Act.put, List.setIfInBounds_toArray, List.set_cons_zero, List.set_cons_succ]
                refine wpAnyH_take (i := 16) (oi := { dst := some 143, op := Op.move (Operand.tmp 11), type := 35, pos := "law.go:170", after := #[{ on := 15, ground := Ground.guard }], guard := some (15, false) }) (v := .int .u64 ((N + 1 : Nat) : Int)) rfl (by kernel_rfl) (by kernel_rfl) (by kernel_rfl) (fun _ _ _ h => h) (Or.inl ⟨by kernel_rfl, fun W hSW => by go_simp⟩) (Below.refl _ _) ?_
                try simp only [Act.put, List.setIfInBounds_toArray, List.set_cons_zero, List.set_cons_succ]
                refine wpAnyH_take (i := 17) (oi := { dst := some 144, op := Op.binOp BinOp.add 35 (Operand.tmp 143) (Operand.const (Value.int IntKind.u64 1)) 35, type := 35, pos := "law.go:170", after := #[{ on := 16, ground := Ground.data }, { on := 15, ground := Ground.guard }], guard := some (15, false) }) (v := .int .u64 ((N + 2 : Nat) : Int)) rfl (by kernel_rfl) (by kernel_rfl) (by kernel_rfl) (fun _ _ _ h => h) (Or.inl ⟨by kernel_rfl, fun W hSW => by go_simp⟩) (Below.refl _ _) ?_
                try simp only [Act.put, List.setIfInBounds_toArray, List.set_cons_zero, List.set_cons_succ]
                refine wpAnyH_take (i := 18) (oi := { dst := some 145, op := Op.move (Operand.tmp 0), type := 22, pos := "law.go:170", after := #[{ on := 15, ground := Ground.guard }], guard := some (15, false) }) (v := .slice (some ⟨b, o, none⟩) n c) rfl (by kernel_rfl) (by kernel_rfl) (by kernel_rfl) (fun _ _ _ h => h) (Or.inl ⟨by kernel_rfl, fun W hSW => by go_simp⟩) (Below.refl _ _) ?_
                try simp only [Act.put, List.setIfInBounds_toArray, List.set_cons_zero, List.set_cons_succ]
                refine wpAnyH_take (i := 19) (oi := { dst := some 146, op := Op.move (Operand.tmp 5), type := 3, pos := "law.go:170", after := #[{ on := 15, ground := Ground.guard }], guard := some (15, false) }) (v := .int .i64 (k : Int)) rfl (by kernel_rfl) (by kernel_rfl) (by kernel_rfl) (fun _ _ _ h => h) (Or.inl ⟨by kernel_rfl, fun W hSW => by go_simp⟩) (Below.refl _ _) ?_
                try simp only [Act.put, List.setIfInBounds_toArray, List.set_cons_zero, List.set_cons_succ]
                refine wpAnyH_take (i := 20) (oi := { dst := some 147, op := Op.indexAddr 22 (Operand.tmp 145) (Operand.tmp 146), type := 0, pos := "law.go:170", after := #[{ on := 18, ground := Ground.data }, { on := 19, ground := Ground.data }, { on := 15, ground := Ground.guard }], guard := some (15, false) }) (v := .pointer (some ⟨b, o + k * 3, none⟩)) rfl (by kernel_rfl) (by kernel_rfl) (by kernel_rfl) (fun _ _ _ h => h) (Or.inl ⟨by kernel_rfl, fun W hSW => by go_simp⟩) (Below.refl _ _) ?_
                try simp only [Act.put, List.setIfInBounds_toArray, List.set_cons_zero, List.set_cons_succ]
                refine wpAnyH_take (i := 21) (oi := { dst := some 148, op := Op.fieldAddr 31 (Operand.tmp 147) 0, type := 0, pos := "law.go:170", after := #[{ on := 20, ground := Ground.data }, { on := 15, ground := Ground.guard }], guard := some (15, false) }) (v := .pointer (some ⟨b, o + k * 3, none⟩)) rfl (by kernel_rfl) (by kernel_rfl) (by kernel_rfl) (fun _ _ _ h => h) (Or.inl ⟨by kernel_rfl, fun W hSW => by go_simp⟩) (Below.refl _ _) ?_
                try simp only [Act.put, List.setIfInBounds_toArray, List.set_cons_zero, List.set_cons_succ]
                refine wpAnyH_take (i := 22) (oi := { dst := some 149, op := Op.load 29 (Operand.tmp 148), type := 29, pos := "law.go:170", after := #[{ on := 21, ground := Ground.data }, { on := 15, ground := Ground.guard }], guard := some (15, false) }) (v := .slice x.adr m x.room) rfl (by kernel_rfl) (by kernel_rfl) (by kernel_rfl) (fun _ _ _ h => h) (Or.inl ⟨by kernel_rfl, fun W hSW => by have hcv := HCB.out W (HSX.out W hSW); go_simp⟩) (Below.refl _ _) ?_
                try simp only [Act.put, List.setIfInBounds_toArray, List.set_cons_zero, List.set_cons_succ]
                refine wpAnyH_take (i := 23) (oi := { dst := some 150, op := Op.load 36 (Operand.tmp 12), type := 36, pos := "law.go:170", after := #[{ on := 15, ground := Ground.guard }], guard := some (15, false) }) (v := .agg (u8s T1).toArray) rfl (by kernel_rfl) (by kernel_rfl) (by kernel_rfl) (fun _ _ _ h => h) (Or.inl ⟨by kernel_rfl, fun W hSW => exec_load_mid 36 (.tmp 12) rfl w9.heap.size 0 rfl (u8s T1) _ (range_block ((hSW.block _ HTG.out.2).trans HTG.out.1) 0 _ (fun j v hv => by rw [Nat.zero_add]; exact hv)) Tryd.underlying36 rfl HI1.out⟩) (Below.refl _ _) ?_
                try simp only [Act.put, List.setIfInBounds_toArray, List.set_cons_zero, List.set_cons_succ]
                refine wpAnyH_take (i := 25) (oi := { dst := some 152, op := Op.move (Operand.tmp 11), type := 35, pos := "law.go:170", after := #[{ on := 15, ground := Ground.guard }], guard := some (15, false) }) (v := .int .u64 ((N + 1 : Nat) : Int)) rfl (by kernel_rfl) (by kernel_rfl) (by kernel_rfl) (fun _ _ _ h => h) (Or.inl ⟨by kernel_rfl, fun W hSW => by go_simp⟩) (Below.refl _ _) ?_
                try simp only [Act.put, List.setIfInBounds_toArray, List.set_cons_zero, List.set_cons_succ]
                refine wpAnyH_take (i := 26) (oi := { dst := some 153, op := Op.binOp BinOp.add 35 (Operand.tmp 152) (Operand.const (Value.int IntKind.u64 1)) 35, type := 35, pos := "law.go:170", after := #[{ on := 25, ground := Ground.data }, { on := 15, ground := Ground.guard }], guard := some (15, false) }) (v := .int .u64 ((N + 2 : Nat) : Int)) rfl (by kernel_rfl) (by kernel_rfl) (by kernel_rfl) (fun _ _ _ h => h) (Or.inl ⟨by kernel_rfl, fun W hSW => by go_simp⟩) (Below.refl _ _) ?_
                try simp only [Act.put, List.setIfInBounds_toArray, List.set_cons_zero, List.set_cons_succ]
                refine wpAnyH_take (i := 27) (oi := { dst := some 154, op := Op.move (Operand.tmp 0), type := 22, pos := "law.go:170", after := #[{ on := 15, ground := Ground.guard }], guard := some (15, false) }) (v := .slice (some ⟨b, o, none⟩) n c) rfl (by kernel_rfl) (by kernel_rfl) (by kernel_rfl) (fun _ _ _ h => h) (Or.inl ⟨by kernel_rfl, fun W hSW => by go_simp⟩) (Below.refl _ _) ?_
                try simp only [Act.put, List.setIfInBounds_toArray, List.set_cons_zero, List.set_cons_succ]
                refine wpAnyH_take (i := 28) (oi := { dst := some 155, op := Op.move (Operand.tmp 5), type := 3, pos := "law.go:170", after := #[{ on := 15, ground := Ground.guard }], guard := some (15, false) }) (v := .int .i64 (k : Int)) rfl (by kernel_rfl) (by kernel_rfl) (by kernel_rfl) (fun _ _ _ h => h) (Or.inl ⟨by kernel_rfl, fun W hSW => by go_simp⟩) (Below.refl _ _) ?_
                try simp only [Act.put, List.setIfInBounds_toArray, List.set_cons_zero, List.set_cons_succ]
                refine wpAnyH_take (i := 29) (oi := { dst := some 156, op := Op.indexAddr 22 (Operand.tmp 154) (Operand.tmp 155), type := 0, pos := "law.go:170", after := #[{ on := 27, ground := Ground.data }, { on := 28, ground := Ground.data }, { on := 15, ground := Ground.guard }], guard := some (15, false) }) (v := .pointer (some ⟨b, o + k * 3, none⟩)) rfl (by kernel_rfl) (by kernel_rfl) (by kernel_rfl) (fun _ _ _ h => h) (Or.inl ⟨by kernel_rfl, fun W hSW => by go_simp⟩) (Below.refl _ _) ?_
                try simp only [Act.put, List.setIfInBounds_toArray, List.set_cons_zero, List.set_cons_succ]
                refine wpAnyH_take (i := 30) (oi := { dst := some 157, op := Op.fieldAddr 31 (Operand.tmp 156) 0, type := 0, pos := "law.go:170", after := #[{ on := 29, ground := Ground.data }, { on := 15, ground := Ground.guard }], guard := some (15, false) }) (v := .pointer (some ⟨b, o + k * 3, none⟩)) rfl (by kernel_rfl) (by kernel_rfl) (by kernel_rfl) (fun _ _ _ h => h) (Or.inl ⟨by kernel_rfl, fun W hSW => by go_simp⟩) (Below.refl _ _) ?_
                try simp only [Act.put, List.setIfInBounds_toArray, List.set_cons_zero, List.set_cons_succ]
                refine wpAnyH_take (i := 31) (oi := { dst := some 158, op := Op.load 29 (Operand.tmp 157), type := 29, pos := "law.go:170", after := #[{ on := 30, ground := Ground.data }, { on := 15, ground := Ground.guard }], guard := some (15, false) }) (v := .slice x.adr m x.room) rfl (by kernel_rfl) (by kernel_rfl) (by kernel_rfl) (fun _ _ _ h => h) (Or.inl ⟨by kernel_rfl, fun W hSW => by have hcv := HCB.out W (HSX.out W hSW); go_simp⟩) (Below.refl _ _) ?_
                try simp only [Act.put, List.setIfInBounds_toArray, List.set_cons_zero, List.set_cons_succ]
                refine wpAnyH_take (i := 33) (oi := { dst := some 160, op := Op.load 36 (Operand.tmp 12), type := 36, pos := "law.go:170", after := #[{ on := 15, ground := Ground.guard }], guard := some (15, false) }) (v := .agg (u8s T1).toArray) rfl (by kernel_rfl) (by kernel_rfl) (by kernel_rfl) (fun _ _ _ h => h) (Or.inl ⟨by kernel_rfl, fun W hSW => exec_load_mid 36 (.tmp 12) rfl w9.heap.size 0 rfl (u8s T1) _ (range_block ((hSW.block _ HTG.out.2).trans HTG.out.1) 0 _ (fun j v hv => by rw [Nat.zero_add]; exact hv)) Tryd.underlying36 rfl HI1.out⟩) (Below.refl _ _) ?_
                try simp only [Act.put, List.setIfInBounds_toArray, List.set_cons_zero, List.set_cons_succ]
                refine wpAnyH_ready (rs := [24]) (by kernel_rfl) (by simp) ?_
                refine AllReadyH.cons (o := { dst := some 151, op := Op.call { callee := Callee.value (Operand.func 14), args := #[Operand.const (Value.int IntKind.i64 3), Operand.tmp 144, Operand.tmp 149, Operand.tmp 150], argTypes := #[3, 35, 29, 36] }, type := 4, pos := "law.go:170", after := #[{ on := 17, ground := Ground.data }, { on := 22, ground := Ground.data }, { on := 23, ground := Ground.data }, { on := 15, ground := Ground.chain }, { on := 15, ground := Ground.guard }], guard := some (15, false) }) rfl (fun K' hK' => ?_) AllReadyH.nil
                go_simp
                go_at_call 14
                refine (HCK2.out w12 (HSX.out w12 (Below.refl _ _))).mono ?_
                rintro E w13 ⟨rfl, HBw13'⟩
                have HBw13 := HBw13'
                refine hK'.out _ _ HBw13.out (fun _ => wpAnyH_next HBw13.out ?_)
                clear hK' K'
                try simp only [Act.put, List.setIfInBounds_toArray, List.set_cons_zero, List.set_cons_succ]
                have HX13 : Hid (Below w11.heap.size w11 w13) := Lib.hid (HX12.out.trans (HBw13.out.mono HX12.out.size))
                refine wpAnyH_ready (rs := [32]) (by kernel_rfl) (by simp) ?_
                refine AllReadyH.cons (o := { dst := some 159, op := Op.call { callee := Callee.value (Operand.func 17), args := #[Operand.const (Value.int IntKind.i64 3), Operand.tmp 153, Operand.tmp 158], argTypes := #[3, 35, 29] }, type := 36, pos := "law.go:170", after := #[{ on := 26, ground := Ground.data }, { on := 31, ground := Ground.data }, { on := 24, ground := Ground.chain }, { on := 15, ground := Ground.guard }], guard := some (15, false) }) rfl (fun K' hK' => ?_) AllReadyH.nil
                go_simp
                go_at_call 17
                refine (HNM.out w13 (HSX.out w13 HBw13.out)).mono ?_
                rintro E w14 ⟨rfl, HBw14'⟩
                have HBw14 := Lib.hid HBw14'
                refine hK'.out _ _ HBw14.out (fun _ => wpAnyH_next HBw14.out ?_)
                clear hK' K'
                try simp only [Act.put, List.setIfInBounds_toArray, List.set_cons_zero, List.set_cons_succ]
                have HX14 : Hid (Below w11.heap.size w11 w14) := Lib.hid (HX13.out.trans (HBw14.out.mono HX13.out.size))
                refine wpAnyH_take (i := 34) (oi := { dst := some 161, op := Op.binOp BinOp.eql 36 (Operand.tmp 159) (Operand.tmp 160) 36, type := 4, pos := "law.go:170", after := #[{ on := 32, ground := Ground.data }, { on := 33, ground := Ground.data }, { on := 15, ground := Ground.guard }], guard := some (15, false) }) (v := .bool ans) rfl (by kernel_rfl) (by kernel_rfl) (by kernel_rfl) (fun _ _ _ h => h) (Or.inl ⟨by kernel_rfl, fun W hSW => by go_simp⟩) (Below.refl _ _) ?_
                try simp only [Act.put, List.setIfInBounds_toArray, List.set_cons_zero, List.set_cons_succ]
                refine wpAnyH_take (i := 35) (oi := { dst := some 162, op := Op.binOp BinOp.neq 4 (Operand.tmp 151) (Operand.tmp 161) 4, type := 4, pos := "law.go:170", after := #[{ on := 24, ground := Ground.data }, { on := 34, ground := Ground.data }, { on := 15, ground := Ground.guard }], guard := some (15, false) }) (v := .bool false) rfl (by kernel_rfl) (by kernel_rfl) (by kernel_rfl) (fun _ _ _ h => h) (Or.inl ⟨by kernel_rfl, fun W hSW => by go_simp⟩) (Below.refl _ _) ?_
                try simp only [Act.put, List.setIfInBounds_toArray, List.set_cons_zero, List.set_cons_succ]
                refine wpAnyH_take (i := 36) (oi := { dst := some 163, op := Op.pick (Operand.tmp 142) (Operand.const (Value.bool true)) (Operand.tmp 162), type := 4, pos := "law.go:170", after := #[{ on := 15, ground := Ground.data }, { on := 35, ground := Ground.data }], guard := none }) (v := .bool false) rfl (by kernel_rfl) (by kernel_rfl) (by kernel_rfl) (fun _ _ _ h => h) (Or.inl ⟨by kernel_rfl, fun W hSW => by go_simp⟩) (Below.refl _ _) ?_
                try simp only [Act.put, List.setIfInBounds_toArray, List.set_cons_zero, List.set_cons_succ]
                refine wpAnyH_done (by kernel_rfl) ?_ _
                have D14 := Lib.hid (DQ.out.next HX14.out)
                have HS14 : Hid (Strs w LG5 (.slice A4 N c4) gs5 w14) := Lib.hid (HSQ.out.go (fun p hp => DQ.out.get (q := p.1) (o := p.2) (.tail _ (HLS.out p hp))) (fun p hp => D14.out.get (q := p.1) (o := p.2) (.tail _ (HLS.out p hp))))
                clear HSX HTG HX12 HX13 HX14 HBw12 HBw12' HBw13 HBw13' HBw14 HBw14' DQ HSQ HCK1 HCK2 HNM heq2
                have cb := HCB.out _ D14.out.below
                have hrun := run_str x.room (HRB.out _ D14.out.below)
                have HJ : Hid (Dat w d (20 + 10 * k + 10) s6 (LG5 ++ []) w14) := Lib.hid (D14.out.sub fun p hp => .tail _ (HLS.out p (by simpa using hp)))
                have HLG : Hid (gs5.length = N) := HGN
                have hgsN : N = gs5.length := HLG.out.symm
                have HGSN := Lib.hid hgsN
                rw [hgsN] at HS14 ⊢
                clear hgsN
                go_wp2_with (first | (at_builtin; refine wpList_strs keeps_dat (w := w) (L := []) (LG := LG5) rfl (.tmp 164) (.tmp 171) rfl (.slice A4 gs5.length c4) gs5 x.bs rfl rfl HJ.out D14.out.below.size HS14.out (by simp) (by have := HLG.out; have := HNB.out; omega) ?_; intro A5 c5 w15 LG5 H15))
                have D15 : Hid (Dat w d (20 + 10 * k + 10) s6 LG5 w15) := Lib.hid (H15.out.1.sub fun p hp => List.mem_append_left _ hp)
                have cp := HCP.out _ D15.out.below
                refine (dat_off D15.out).mono ?_
                rintro E wo ⟨rfl, ho8⟩
                have D8 := Lib.hid ho8
                clear ho8 cp
                have cp := HCP.out _ D8.out.below
                have HON2 := Lib.hid (dat_on D8.out (by omega) x.padr pm x.proom x.picks (HRP.out _ D8.out.below) HSP.out)
                rw [HON.out] at HON2
                go_wp2_with fail
                refine HON2.out.mono ?_
                rintro E wz ⟨rfl, ho9⟩
                have D9 := Lib.hid ho9
                clear ho9 cp HON2
                have HS16 : Hid (Strs w LG5 (.slice A5 (gs5.length + 1) c5) (gs5 ++ [x.bs]) wz) := Lib.hid (H15.out.2.1.go (fun p hp => D15.out.get (q := p.1) (o := p.2) hp) (fun p hp => D9.out.get (q := p.1) (o := p.2) hp))
                have HNEW : Hid (CellIs s9 0 (1 - a) (tk + 1) nb (2 + k + 1)) := Lib.hid (by
                  rcases HCI.out with h | ⟨_, i, hi, hne⟩
                  · exact h
                  · exact absurd (HK6.out (by trivial) i hi) hne)
                clear HCI HK6 H15 D15 D8
                go_wp2_with fail
                go_roundw
                case measure => simp [intOf]; omega
                case rel => exact ⟨k + 1, by omega, by go_num, gs5 ++ [x.bs], nb, 1 - a, tk + 1, s9, LG5, Lib.hid (by have := HG2.out; rw [List.length_append, HLG.out]; simp; omega), Lib.hid ⟨HS16.out, D9.out, HC9.out.1, HC9.out.2, HNEW.out, .inr ⟨N + 1, x.bs, HNW.out.symm, by have := HM.out; omega, .inl ⟨by rw [List.length_append, HLG.out]; rfl, by omega, by rw [List.getElem?_append_right (by rw [HLG.out]; omega), HLG.out]; simp⟩⟩⟩⟩
              · subst h8e
                rw [if_neg (by decide), if_neg (by decide), ← HZZ.out] at hp
                have HP := Lib.hid hp
                clear hp HCK1 HCK2 HNM heq2 HI1 HO1 HZ1 HK6
                go_wp2_with fail
                refine HP.out.mono ?_
                rintro E w9 ⟨rfl, H9⟩
                clear HP cb
                have DA := Lib.hid (H9.out.dat.alloc (.cells Z.toArray 36 (0, 0)))
                have hL9 : Hid (∀ p ∈ LX, p.1 ≠ w9.heap.size) := Lib.hid fun p hp => by have := H9.out.dat.lt (q := p.1) (o := p.2) hp; omega
                have HA9 : Hid ((w9.alloc (.cells Z.toArray 36)).heap[w9.heap.size]? = some (.cells Z.toArray 36 (0, 0))) := Lib.hid (row_new _ _ _)
                have HS9' : Hid (Strs w LG5 (.slice A4 N c4) gs5 w9) := Lib.hid (HSF.out.go (fun p hp => by have := HSFO.out p hp; exact this) (fun p hp => H9.out.dat.get (q := p.1) (o := p.2) (HLS.out p hp)))
                clear HSF HSFO
                go_wp2_with (first
                  | (refine wpList_store_all rfl 36 (.tmp 12) (.tmp 123) rfl w9.heap.size Z Z 36 HA9.out rfl rfl rfl HIZ.out HOZ.out ?_; intro w10 G10; have D10 := Lib.hid (DA.out.upd hL9.out G10.out.1 G10.out.2); have HR10 : Hid (w10.rangeAt w9.heap.size 0 Z) := Lib.hid (range_block G10.out.1 0 _ (fun j v hv => by rw [Nat.zero_add]; exact hv)))
                  | ((with_reducible refine wpList_load_midG ?_ 36 (.tmp 12) ?_ w9.heap.size 0 ?_ Z _ ?_ Tryd.underlying36 ?_ ?_ ?_); (· rfl); (· rfl); (· rfl); (· exact HR10.out); (· rfl); (· exact HIZ.out)))
                have HS10 : Hid (Strs w LG5 (.slice A4 N c4) gs5 w10) := Lib.hid (HS9'.out.go (fun p hp => H9.out.dat.get (q := p.1) (o := p.2) (HLS.out p hp)) (fun p hp => D10.out.get (q := p.1) (o := p.2) (.tail _ (HLS.out p hp))))
                have D15 : Hid (Dat w d (20 + 10 * k + 10) s6 LG5 w10) := Lib.hid (D10.out.sub fun p hp => .tail _ (HLS.out p hp))
                clear DA hL9 HA9 H9 G10 D10 HR10 HS9'
                have cp := HCP.out _ D15.out.below
                refine (dat_off D15.out).mono ?_
                rintro E wo ⟨rfl, ho8⟩
                have D8 := Lib.hid ho8
                clear ho8 cp
                have cp := HCP.out _ D8.out.below
                have HON2 := Lib.hid (dat_on D8.out (by omega) x.padr pm x.proom x.picks (HRP.out _ D8.out.below) HSP.out)
                rw [HON.out] at HON2
                go_wp2_with fail
                refine HON2.out.mono ?_
                rintro E wz ⟨rfl, ho9⟩
                have D9 := Lib.hid ho9
                clear ho9 cp HON2
                have HS16 : Hid (Strs w LG5 (.slice A4 N c4) gs5 wz) := Lib.hid (HS10.out.go (fun p hp => D15.out.get (q := p.1) (o := p.2) hp) (fun p hp => D9.out.get (q := p.1) (o := p.2) hp))
                clear HS10 D15 D8
                rcases HCI.out with HNEW' | ⟨HOLD', -⟩
                · have HCL := Lib.hid HNEW'
                  clear HCI HNEW'
                  go_wp2_with fail
                  go_roundw
                  case measure => simp [intOf]; omega
                  case rel => exact ⟨k + 1, by omega, by go_num, gs5, nb, _, _, s9, LG5, Lib.hid (by have := HG2.out; rw [HGN.out]; omega), Lib.hid ⟨HS16.out, D9.out, HC9.out.1, HC9.out.2, HCL.out, .inr ⟨N + 1, x.bs, HNW.out.symm, by have := HM.out; omega, .inr (by rw [HGN.out])⟩⟩⟩
                · have HCL := Lib.hid HOLD'
                  clear HCI HOLD'
                  go_wp2_with fail
                  go_roundw
                  case measure => simp [intOf]; omega
                  case rel => exact ⟨k + 1, by omega, by go_num, gs5, bs, _, _, s9, LG5, Lib.hid (by have := HG2.out; rw [HGN.out]; omega), Lib.hid ⟨HS16.out, D9.out, HC9.out.1, HC9.out.2, HCL.out, HGV.out⟩⟩
        · go_wp2_with (first | (go_at_call 9; refine (HW.out _ HD.out.2.1.below).mono ?_; rintro E wz ⟨rfl, hbz⟩))
          all_goals (go_ret; exact ⟨rfl, HD.out.2.1.below.trans (hbz.mono HD.out.2.1.below.size)⟩)
      · go_wp2_with fail
        refine (HW.out wr HD.out.2.1.below).mono ?_
        rintro E wz ⟨rfl, hb⟩
        go_wp2
        go_ret
        exact ⟨rfl, HD.out.2.1.below.trans (hb.mono HD.out.2.1.below.size)⟩
  · go_enter Tryd.func3, Tryd.ntmps3
    go_wp2_with (first | (go_at_call 9; refine (HW.out _ HR0.out).mono ?_; rintro E wz ⟨rfl, hb⟩))
    go_ret
    exact ⟨rfl, hb⟩
end Go.Proofs.YtepjfkmbmcfnoaaDoor
