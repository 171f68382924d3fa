/-
  What is proved: the walk of CellApart for whatever comes in. Conditions as stated.
-/
import Derived.Test.YtiphfeefbiiolaaCz
namespace Go.Proofs.Ytiphfeefbiiolaa
open Go.RowKit
set_option maxRecDepth 100000

/-- Behind k rounds: both cells, what is put down of them, their counts. -/
structure ApAt (w : World) (d q g1 g2 m k : Nat) (b1 b2 : List UInt8) (a1 a2 n1 n2 : Nat) (s : Dk) (W : World) : Prop where
  two : TwoAt w d (40 + 10 * k) s [(q, .cells #[.string (Oct.str b1), .string (Oct.str b2)] 41 (0, 0))] 0 g1 b1 (a1 : Int) (20 + (m : Int)) g2 b2 (a2 : Int) W
  calm : Calm s
  one : CellIs s 0 a1 n1 b1 (2 + k)
  snd : CellIs s (20 + (m : Int)) a2 n2 b2 (2 + k)
section
variable {w W W' : World} {d T q g1 g2 m k a1 a2 n1 n2 : Nat} {b1 b2 : List UInt8} {s : Dk} {L : List (Nat × Obj)} {x1 x2 l1 l2 : Int}
theorem ApAt.next (h : ApAt w d q g1 g2 m k b1 b2 a1 a2 n1 n2 s W) (hb : Below W.heap.size W W') : ApAt w d q g1 g2 m k b1 b2 a1 a2 n1 n2 s W' := ⟨h.two.next hb, h.calm, h.one, h.snd⟩
theorem ApAt.has (h : ApAt w d q g1 g2 m k b1 b2 a1 a2 n1 n2 s W) : W.heap[q]? = some (.cells #[.string (Oct.str b1), .string (Oct.str b2)] 41 (0, 0)) := h.two.dat.get (q := q) (.head _)
theorem TwoAt.var {o o' : Obj} (h : TwoAt w d T s L x1 g1 b1 l1 x2 g2 b2 l2 W) (G : W'.heap[W.heap.size]? = some o' ∧ (W.alloc o).grownBy W' (some W.heap.size)) : TwoAt w d T s ((W.heap.size, o') :: L) x1 g1 b1 l1 x2 g2 b2 l2 W' :=
  (h.lit o).upd (fun p hp e => by have := h.dat.lt (q := p.1) (o := p.2) hp; omega) G.1 G.2
/-- A Put of the first. -/
theorem ApAt.put1 (h : ApAt w d q g1 g2 m k b1 b2 a1 a2 n1 n2 s W) {s' : Dk} {b : List UInt8} {a' n' : Nat} (hm : m < 30) (hk : k ≤ 40) (ht : TwoAt w d (40 + 10 * (k + 1)) s' [(q, .cells #[.string (Oct.str b), .string (Oct.str b2)] 41 (0, 0))] 0 g1 b (a' : Int) (20 + (m : Int)) g2 b2 (a2 : Int) W') (hc : Calm s')
    (h1 : CellIs s' 0 a' n' b (2 + k + 1)) (hr : ∀ y, 0 ≤ y ∧ y < 32768 → ¬ ((0 : Int) ≤ y ∧ y < 0 + 20) → s'.read y = s.read y) : ApAt w d q g1 g2 m (k + 1) b b2 a' a2 n' n2 s' W' :=
  ⟨ht, hc, h1, h.snd.congr (fun i hi => hr _ (by omega) (by omega)) (by omega) (by omega)⟩
theorem ApAt.put2 (h : ApAt w d q g1 g2 m k b1 b2 a1 a2 n1 n2 s W) {s' : Dk} {b : List UInt8} {a' n' : Nat} (hm : m < 30) (hk : k ≤ 40) (ht : TwoAt w d (40 + 10 * (k + 1)) s' [(q, .cells #[.string (Oct.str b1), .string (Oct.str b)] 41 (0, 0))] 0 g1 b1 (a1 : Int) (20 + (m : Int)) g2 b (a' : Int) W') (hc : Calm s')
    (h1 : CellIs s' (20 + (m : Int)) a' n' b (2 + k + 1)) (hr : ∀ y, 0 ≤ y ∧ y < 32768 → ¬ (20 + (m : Int) ≤ y ∧ y < 20 + (m : Int) + 20) → s'.read y = s.read y) : ApAt w d q g1 g2 m (k + 1) b1 b a1 a' n1 n' s' W' :=
  ⟨ht, hc, h.one.congr (fun i hi => hr _ (by omega) (by omega)) (by omega) (by omega), h1⟩
theorem ApAt.wrote (h : ApAt w d q g1 g2 m k b1 b2 a1 a2 n1 n2 s W) {s' : Dk} {u : Nat} (hm : m < 30) (hk : k ≤ 40) (ht : TwoAt w d (40 + 10 * (k + 1)) s' [(q, .cells #[.string (Oct.str b1), .string (Oct.str b2)] 41 (0, 0))] 0 g1 b1 (a1 : Int) (20 + (m : Int)) g2 b2 (a2 : Int) W') (hc : Calm s')
    (hr : ∀ y, 0 ≤ y ∧ y < 32768 → y ≠ 40 + (m : Int) + (u : Int) → s'.read y = s.read y) : ApAt w d q g1 g2 m (k + 1) b1 b2 a1 a2 n1 n2 s' W' :=
  ⟨ht, hc, h.one.congr (fun i hi => hr _ (by omega) (by omega)) (by omega) (by omega), h.snd.congr (fun i hi => hr _ (by omega) (by omega)) (by omega) (by omega)⟩
end
theorem zero41 (w : World) : (zeroValue 41).run Try.prog w = .ok (.agg #[.string ByteArray.empty, .string ByteArray.empty]) w := by kernel_rfl

set_option maxHeartbeats 40000000 in
theorem cellApart_by (hW : Works) (gap : UInt8) (A : Option Addr) (n c : Nat) (xs : List Bsd) (w : World) (hx : Bsds w A n xs) (hs : Sl A n c) :
    Calls Try.prog 5 #[.int .u8 (gap.toNat : Int), .slice A n c] w fun E w' => E = .returned (.bool true) ∧ Below w.heap.size w w' := by
  have HW := Lib.hid hW
  have HX := Lib.hid hx
  have hsc := hs.2
  clear hW hx hs
  by_cases hn : n ≤ 40
  · obtain ⟨m, hm, htm, hmm, hwm⟩ := ap_mod gap
    have hz41 := zero41
    have hz5 := cellApart_zero43
    generalize hzz : ([.bool false, .bool false, .slice none 0 0, .int .u8 0, .int .u8 0] : List Value) = Z5 at hz5
    have UZ5 : Hid (Z5.length = 5) := Lib.hid (by rw [← hzz]; rfl)
    clear hzz
    go_enter Try.func5, Try.ntmps5
    go_wp2_with fail
    refine (dat_new (Below.refl _ w)).mono ?_
    rintro E w1 ⟨d, rfl, h1, -⟩
    have D1 := Lib.hid h1
    clear h1
    go_wp2_with fail
    refine (cell_format D1.out new_calm (by omega) (x := 0) (by omega)).mono ?_
    rintro E w2 ⟨rfl, s2, H2⟩
    clear D1
    go_wp2_with fail
    refine (cell_format H2.out.1 H2.out.2.1 (by omega) (x := 20 + (m : Int)) (by omega)).mono ?_
    rintro E w3 ⟨rfl, s3, H3⟩
    have D3 : Hid (Dat w d (40 + 10 * 0) s3 [] w3 ∧ Calm s3 ∧ CellIs s3 0 0 2 [] 2 ∧ CellIs s3 (20 + (m : Int)) 0 2 [] 2) := Lib.hid ⟨H3.out.1, H3.out.2.1, H2.out.2.2.2.1.congr (fun i hi => by rw [H3.out.2.2.2.2 _ (by omega), if_neg (by omega), if_neg (by omega)]) (Nat.le_refl _) (by omega), H3.out.2.2.2.1⟩
    clear H2 H3
    go_wp2_with fail
    refine (cell_open D3.out.1 D3.out.2.1.1 (x := 0) (by omega) D3.out.2.2.1).mono ?_
    rintro E w4 ⟨g1, rfl, O4⟩
    go_wp2_with fail
    refine (two_open O4.out D3.out.2.1.1 (x2 := 20 + (m : Int)) (by omega) D3.out.2.2.2).mono ?_
    rintro E w5 ⟨g2, rfl, O5⟩
    clear O4
    have I0 : Hid (ApAt w d w5.heap.size g1 g2 m 0 [] [] 0 0 2 2 s3 (w5.alloc (.cells #[.string ByteArray.empty, .string ByteArray.empty] 41 (0, 0)))) := Lib.hid ⟨O5.out.lit _, D3.out.2.1, D3.out.2.2.1, D3.out.2.2.2⟩
    clear O5 D3
    go_wp2_with fail
    generalize w5.heap.size = q at I0 ⊢
    go_loopw [12] (fun v12 wr => ∃ k : Nat, k ≤ n ∧ v12 = .int .i64 (k : Int) ∧ ∃ b1 b2 a1 a2 n1 n2 s, Hid (ApAt w d q g1 g2 m k b1 b2 a1 a2 n1 n2 s wr)) (fun v12 _ => n - (intOf v12).toNat)
    case atStart => exact ⟨0, by omega, rfl, [], [], 0, 0, 2, 2, s3, I0⟩
    case round =>
      clear I0
      obtain ⟨k, hkn, rfl, b1, b2, a1, a2, n1, n2, s, HI⟩ := hrel
      by_cases hkk : k < n
      · obtain ⟨b, o, rfl, hb0, hc⟩ := HX.out.2 (by omega)
        obtain ⟨x, hq⟩ : ∃ x, xs[k]? = some x := ⟨_, List.getElem?_eq_getElem (by rw [HX.out.1]; exact hkk)⟩
        obtain ⟨hcx, hrb, hsb⟩ := hc k x hq
        have HXC : Hid (wr.rangeAt b (o + k * 5) x.cells) := Lib.hid (fun i v hv => (HI.out.two.dat.below.cell (p := ⟨b, o + k * 5 + i, none⟩) hb0).trans (hcx i v hv))
        have HRB : Hid (∀ W, Below w.heap.size w W → Oct.Rd W x.adr x.bs.length x.bs) := Lib.hid fun W hb => rd_oct hrb hb
        have HSB : Hid (Oct.Sl x.adr x.bs.length x.room) := Lib.hid hsb
        obtain ⟨C5, hC5⟩ : ∃ C5, C5 = x.cells := ⟨_, rfl⟩
        rw [← hC5] at HXC
        have HC5 := Lib.hid hC5
        have UC5 : Hid (C5.length = 5) := Lib.hid (by rw [hC5]; rfl)
        have OC5 : Hid (∀ v ∈ C5, v.oneCell' = true) := Lib.hid (by rw [hC5]; exact x.cells_one)
        clear hc hq hcx hrb hsb hC5
        obtain ⟨l, hl⟩ : ∃ m, m = x.bs.length := ⟨_, rfl⟩
        have HL := Lib.hid hl
        rw [← hl] at HRB HSB
        clear hl
        by_cases hll : l ≤ 1100
        · rcases hxo : x.out with _ | _
          · rcases hxs : x.second with _ | _
            · go_wp2_with (first
                | (refine wpList_load_mid rfl 43 (.tmp 66) rfl b (o + k * 5) rfl C5 _ HXC.out Try.underlying43 rfl (by rw [UC5.out]; exact Try.size43) ?_)
                | (refine wpList_store_all rfl 43 (.tmp 13) (.tmp 67) rfl wr.heap.size Z5 C5 43 (row_new wr Z5 43) (UZ5.out.trans UC5.out.symm) rfl rfl (by rw [UC5.out]; exact Try.size43) OC5.out ?_; intro w2 G2; have D2 := Lib.hid (HI.out.two.var G2.out); have q0 : w2.cell? ⟨wr.heap.size, 0, none⟩ = some (.bool false) := block_cell G2.out.1 0 _ (by rw [HC5.out]; unfold Bsd.cells; first | rfl | (rw [hxo]; rfl) | (rw [hxs]; rfl) | (rw [HL.out]; rfl)); have q1 : w2.cell? ⟨wr.heap.size, 1, none⟩ = some (.bool false) := block_cell G2.out.1 1 _ (by rw [HC5.out]; unfold Bsd.cells; first | rfl | (rw [hxo]; rfl) | (rw [hxs]; rfl) | (rw [HL.out]; rfl)); have q2 : w2.cell? ⟨wr.heap.size, 2, none⟩ = some (.slice x.adr l x.room) := block_cell G2.out.1 2 _ (by rw [HC5.out]; unfold Bsd.cells; first | rfl | (rw [hxo]; rfl) | (rw [hxs]; rfl) | (rw [HL.out]; rfl))))
              refine (two_put D2.out HI.out.calm (by omega) (x1 := 0) (by omega) HI.out.one (by omega) HRB.out HSB.out hll HL.out.symm).mono ?_
              rintro E w4 ⟨rfl, s4, H4⟩
              clear q0 q1 q2
              have q2 : w4.cell? ⟨wr.heap.size, 2, none⟩ = some (.slice x.adr l x.room) := block_cell (H4.out.1.dat.get (q := wr.heap.size) (o := .cells C5.toArray 43 (0, 0)) (by simp)) 2 _ (by rw [HC5.out, HL.out]; rfl)
              have hrun := run_str x.room (HRB.out _ H4.out.1.dat.below)
              have hq4 : w4.heap[q]? = some (.cells [.string (Oct.str b1), .string (Oct.str b2)].toArray 41 (0, 0)) := H4.out.1.dat.get (q := q) (by simp)
              have cf := block_cell hq4 0 _ rfl
              have ff := free_block hq4 0
              have HQ4 := Lib.hid hq4
              clear hq4
              obtain ⟨SB, hSB⟩ : ∃ S, S = Oct.str x.bs := ⟨_, rfl⟩
              have HSBS := Lib.hid hSB
              rw [← hSB] at hrun
              clear hSB
              go_wp2_with fail
              generalize hw5 : w4.setCell _ _ = w5
              have T5 : Hid (TwoAt w d (40 + 10 * (k + 1)) s4 [(q, .cells #[.string (Oct.str x.bs), .string (Oct.str b2)] 41 (0, 0))] 0 g1 x.bs (((1 - a1) : Nat) : Int) (20 + (m : Int)) g2 b2 ((a2 : Nat) : Int) w5) := Lib.hid (by
                have h := (H4.out.1.sub (L' := [(q, .cells #[.string (Oct.str b1), .string (Oct.str b2)] 41 (0, 0))]) (fun p hp => .tail _ hp)).upd (W' := w4.setCell ⟨q, 0, none⟩ (.string SB)) (o' := .cells #[.string (Oct.str x.bs), .string (Oct.str b2)] 41 (0, 0)) (fun p hp => by cases hp) (by have := heap_set (k := 0) HQ4.out (.string SB); rw [HSBS.out] at this ⊢; exact this) (Oct.grownBy_set _ _ _ _)
                rw [hw5] at h
                exact h)
              have HI2 : Hid (ApAt w d q g1 g2 m (k + 1) x.bs b2 (1 - a1) a2 (topGo s 0 20 + 1) n2 s4 w5) := Lib.hid (HI.out.put1 hm (by omega) T5.out H4.out.2.1 H4.out.2.2.1 H4.out.2.2.2)
              clear T5 H4 HQ4 HSBS cf ff q2 hw5 D2
              obtain ⟨c1, c2, e1, e2, f1, f2, s5, HI2⟩ : ∃ c1 c2 e1 e2 f1 f2 s5, Hid (ApAt w d q g1 g2 m (k + 1) c1 c2 e1 e2 f1 f2 s5 w5) := ⟨_, _, _, _, _, _, _, HI2⟩
              clear HXC HRB HSB HC5 UC5 OC5 HL hll HI
              try simp only [Act.put, List.setIfInBounds_toArray, List.set_cons_zero, List.set_cons_succ]
              refine wp_region_any (by kernel_rfl) ?_
              change wpAny _ _ _ _ _ _ _ (w5.drewN 1)
              have I6 : Hid (ApAt w d q g1 g2 m (k + 1) c1 c2 e1 e2 f1 f2 s5 (w5.drewN 1)) := Lib.hid (HI2.out.next ⟨rfl, rfl, rfl, Nat.le_refl _, fun _ _ => rfl⟩)
              clear HI2
              generalize w5.drewN 1 = w6 at I6 ⊢
              obtain ⟨S1, hS1⟩ : ∃ S, S = Oct.str c1 := ⟨_, rfl⟩
              obtain ⟨S2, hS2⟩ : ∃ S, S = Oct.str c2 := ⟨_, rfl⟩
              have HS1 := Lib.hid hS1
              have HS2 := Lib.hid hS2
              have HQ : Hid (∀ W, Below w6.heap.size w6 W → W.heap[q]? = some (.cells [.string S1, .string S2].toArray 41 (0, 0))) := Lib.hid fun W hb => (hb.block _ (Array.getElem?_eq_some_iff.1 I6.out.has).1).trans (by rw [hS1, hS2]; exact I6.out.has)
              clear hS1 hS2
              refine wpAny_of_held (S := fun W => Below w6.heap.size w6 W) _ _ _ _ ?_
              refine wpAnyH_take (i := 0) (oi := { dst := some 106, op := Op.move (Operand.tmp 14), type := 26, pos := "more.go:51", after := #[], guard := none }) (v := .int .i64 0) rfl (by kernel_rfl) (by kernel_rfl) (by kernel_rfl) (fun _ _ _ h => h) (Or.inl ⟨by kernel_rfl, fun W hSW => by go_simp⟩) (Below.refl _ _) ?_
              simp only [Act.put, List.setIfInBounds_toArray, List.set_cons_zero, List.set_cons_succ]
              refine wpAnyH_take (i := 1) (oi := { dst := some 107, op := Op.binOp BinOp.neq 26 (Operand.tmp 106) (Operand.const (Value.int IntKind.i64 0)) 26, type := 4, pos := "more.go:51", after := #[{ on := 0, ground := Ground.data }], guard := none }) (v := .bool false) rfl (by kernel_rfl) (by kernel_rfl) (by kernel_rfl) (fun _ _ _ h => h) (Or.inl ⟨by kernel_rfl, fun W hSW => by go_simp⟩) (Below.refl _ _) ?_
              simp only [Act.put, List.setIfInBounds_toArray, List.set_cons_zero, List.set_cons_succ]
              refine wpAnyH_take (i := 2) (oi := { dst := some 108, op := Op.move (Operand.tmp 107), type := 4, pos := "more.go:51", after := #[{ on := 1, ground := Ground.data }], guard := none }) (v := .bool false) rfl (by kernel_rfl) (by kernel_rfl) (by kernel_rfl) (fun _ _ _ h => h) (Or.inl ⟨by kernel_rfl, fun W hSW => by go_simp⟩) (Below.refl _ _) ?_
              simp only [Act.put, List.setIfInBounds_toArray, List.set_cons_zero, List.set_cons_succ]
              refine wpAnyH_take (i := 3) (oi := { dst := some 109, op := Op.move (Operand.tmp 7), type := 31, pos := "more.go:51", after := #[{ on := 2, ground := Ground.guard }], guard := some (2, false) }) (v := .pointer (some ⟨g1, 0, none⟩)) rfl (by kernel_rfl) (by kernel_rfl) (by kernel_rfl) (fun _ _ _ h => h) (Or.inl ⟨by kernel_rfl, fun W hSW => by go_simp⟩) (Below.refl _ _) ?_
              simp only [Act.put, List.setIfInBounds_toArray, List.set_cons_zero, List.set_cons_succ]
              refine wpAnyH_take (i := 6) (oi := { dst := some 112, op := Op.indexAddr 41 (Operand.tmp 11) (Operand.const (Value.int IntKind.i64 0)), type := 0, pos := "more.go:51", after := #[{ on := 2, ground := Ground.guard }], guard := some (2, false) }) (v := .pointer (some ⟨q, 0, none⟩)) rfl (by kernel_rfl) (by kernel_rfl) (by kernel_rfl) (fun _ _ _ h => h) (Or.inl ⟨by kernel_rfl, fun W hSW => by go_simp⟩) (Below.refl _ _) ?_
              simp only [Act.put, List.setIfInBounds_toArray, List.set_cons_zero, List.set_cons_succ]
              refine wpAnyH_take (i := 7) (oi := { dst := some 113, op := Op.load 9 (Operand.tmp 112), type := 9, pos := "more.go:51", after := #[{ on := 6, ground := Ground.data }, { on := 2, ground := Ground.guard }], guard := some (2, false) }) (v := .string S1) rfl (by kernel_rfl) (by kernel_rfl) (by kernel_rfl) (fun _ _ _ h => h) (Or.inl ⟨by kernel_rfl, fun W hSW => by have hcv : W.cell? ⟨q, 0, none⟩ = some (.string S1) := block_cell (HQ.out W hSW) 0 _ rfl; go_simp⟩) (Below.refl _ _) ?_
              simp only [Act.put, List.setIfInBounds_toArray, List.set_cons_zero, List.set_cons_succ]
              refine wpAnyH_ready (rs := [4]) (by kernel_rfl) (by simp) ?_
              refine AllReadyH.cons (o := { dst := some 110, op := Op.call { callee := Callee.value (Operand.func 11), args := #[Operand.tmp 109], argTypes := #[31] }, type := 28, pos := "more.go:51", after := #[{ on := 3, ground := Ground.data }, { on := 2, ground := Ground.chain }, { on := 2, ground := Ground.guard }], guard := some (2, false) }) rfl (fun K' hK' => ?_) AllReadyH.nil
              go_simp
              go_at_call 11
              refine (two_gets I6.out.two).mono ?_
              rintro E w8 ⟨A8, n8, c8, rfl, H8⟩
              have B8 : Hid (Below w6.heap.size w6 w8) := Lib.hid H8.out.2.2
              refine hK'.out _ _ B8.out (fun _ => wpAnyH_next B8.out ?_)
              clear hK' K'
              have HR8 : Hid (∀ W, Below w8.heap.size w8 W → Oct.Rd W A8 n8 c1) := Lib.hid fun W hb => H8.out.2.1.below hb
              have T8 := Lib.hid H8.out.1.swap
              clear H8
              refine wpAnyH_take (i := 5) (oi := { dst := some 111, op := Op.convert 28 9 (Operand.tmp 110), type := 9, pos := "more.go:51", after := #[{ on := 4, ground := Ground.data }, { on := 2, ground := Ground.guard }], guard := some (2, false) }) (v := .string S1) rfl (by kernel_rfl) (by kernel_rfl) (by kernel_rfl) (fun _ _ _ h => h) (Or.inl ⟨by kernel_rfl, fun W hSW => by have hrun := run_str c8 (HR8.out W hSW); rw [← HS1.out] at hrun; go_simp⟩) (Below.refl _ _) ?_
              simp only [Act.put, List.setIfInBounds_toArray, List.set_cons_zero, List.set_cons_succ]
              refine wpAnyH_take (i := 8) (oi := { dst := some 114, op := Op.binOp BinOp.neq 9 (Operand.tmp 111) (Operand.tmp 113) 9, type := 4, pos := "more.go:51", after := #[{ on := 5, ground := Ground.data }, { on := 7, ground := Ground.data }, { on := 2, ground := Ground.guard }], guard := some (2, false) }) (v := .bool false) rfl (by kernel_rfl) (by kernel_rfl) (by kernel_rfl) (fun _ _ _ h => h) (Or.inl ⟨by kernel_rfl, fun W hSW => by go_simp⟩) (Below.refl _ _) ?_
              simp only [Act.put, List.setIfInBounds_toArray, List.set_cons_zero, List.set_cons_succ]
              refine wpAnyH_take (i := 9) (oi := { dst := some 115, op := Op.pick (Operand.tmp 108) (Operand.const (Value.bool true)) (Operand.tmp 114), type := 4, pos := "more.go:51", after := #[{ on := 2, ground := Ground.data }, { on := 8, ground := Ground.data }], guard := none }) (v := .bool false) rfl (by kernel_rfl) (by kernel_rfl) (by kernel_rfl) (fun _ _ _ h => h) (Or.inl ⟨by kernel_rfl, fun W hSW => by go_simp⟩) (Below.refl _ _) ?_
              simp only [Act.put, List.setIfInBounds_toArray, List.set_cons_zero, List.set_cons_succ]
              refine wpAnyH_take (i := 10) (oi := { dst := some 116, op := Op.move (Operand.tmp 115), type := 4, pos := "more.go:51", after := #[{ on := 9, ground := Ground.data }, { on := 4, ground := Ground.chain }], guard := none }) (v := .bool false) rfl (by kernel_rfl) (by kernel_rfl) (by kernel_rfl) (fun _ _ _ h => h) (Or.inl ⟨by kernel_rfl, fun W hSW => by go_simp⟩) (Below.refl _ _) ?_
              simp only [Act.put, List.setIfInBounds_toArray, List.set_cons_zero, List.set_cons_succ]
              refine wpAnyH_take (i := 11) (oi := { dst := some 117, op := Op.move (Operand.tmp 9), type := 31, pos := "more.go:51", after := #[{ on := 10, ground := Ground.guard }], guard := some (10, false) }) (v := .pointer (some ⟨g2, 0, none⟩)) rfl (by kernel_rfl) (by kernel_rfl) (by kernel_rfl) (fun _ _ _ h => h) (Or.inl ⟨by kernel_rfl, fun W hSW => by go_simp⟩) (Below.refl _ _) ?_
              simp only [Act.put, List.setIfInBounds_toArray, List.set_cons_zero, List.set_cons_succ]
              refine wpAnyH_take (i := 14) (oi := { dst := some 120, op := Op.indexAddr 41 (Operand.tmp 11) (Operand.const (Value.int IntKind.i64 1)), type := 0, pos := "more.go:51", after := #[{ on := 10, ground := Ground.guard }], guard := some (10, false) }) (v := .pointer (some ⟨q, 1, none⟩)) rfl (by kernel_rfl) (by kernel_rfl) (by kernel_rfl) (fun _ _ _ h => h) (Or.inl ⟨by kernel_rfl, fun W hSW => by go_simp⟩) (Below.refl _ _) ?_
              simp only [Act.put, List.setIfInBounds_toArray, List.set_cons_zero, List.set_cons_succ]
              refine wpAnyH_take (i := 15) (oi := { dst := some 121, op := Op.load 9 (Operand.tmp 120), type := 9, pos := "more.go:51", after := #[{ on := 14, ground := Ground.data }, { on := 10, ground := Ground.guard }], guard := some (10, false) }) (v := .string S2) rfl (by kernel_rfl) (by kernel_rfl) (by kernel_rfl) (fun _ _ _ h => h) (Or.inl ⟨by kernel_rfl, fun W hSW => by have hcv : W.cell? ⟨q, 1, none⟩ = some (.string S2) := block_cell (HQ.out W (B8.out.trans (hSW.mono B8.out.size))) 1 _ rfl; go_simp⟩) (Below.refl _ _) ?_
              simp only [Act.put, List.setIfInBounds_toArray, List.set_cons_zero, List.set_cons_succ]
              refine wpAnyH_ready (rs := [12]) (by kernel_rfl) (by simp) ?_
              refine AllReadyH.cons (o := { dst := some 118, op := Op.call { callee := Callee.value (Operand.func 11), args := #[Operand.tmp 117], argTypes := #[31] }, type := 28, pos := "more.go:51", after := #[{ on := 11, ground := Ground.data }, { on := 10, ground := Ground.chain }, { on := 10, ground := Ground.guard }], guard := some (10, false) }) rfl (fun K' hK' => ?_) AllReadyH.nil
              go_simp
              go_at_call 11
              refine (two_gets T8.out).mono ?_
              rintro E w9 ⟨A9, n9, c9, rfl, H9⟩
              have B9 : Hid (Below w8.heap.size w8 w9) := Lib.hid H9.out.2.2
              refine hK'.out _ _ B9.out (fun _ => wpAnyH_next B9.out ?_)
              clear hK' K'
              have HR9 : Hid (∀ W, Below w9.heap.size w9 W → Oct.Rd W A9 n9 c2) := Lib.hid fun W hb => H9.out.2.1.below hb
              clear H9
              refine wpAnyH_take (i := 13) (oi := { dst := some 119, op := Op.convert 28 9 (Operand.tmp 118), type := 9, pos := "more.go:51", after := #[{ on := 12, ground := Ground.data }, { on := 10, ground := Ground.guard }], guard := some (10, false) }) (v := .string S2) rfl (by kernel_rfl) (by kernel_rfl) (by kernel_rfl) (fun _ _ _ h => h) (Or.inl ⟨by kernel_rfl, fun W hSW => by have hrun := run_str c9 (HR9.out W hSW); rw [← HS2.out] at hrun; go_simp⟩) (Below.refl _ _) ?_
              simp only [Act.put, List.setIfInBounds_toArray, List.set_cons_zero, List.set_cons_succ]
              refine wpAnyH_take (i := 16) (oi := { dst := some 122, op := Op.binOp BinOp.neq 9 (Operand.tmp 119) (Operand.tmp 121) 9, type := 4, pos := "more.go:51", after := #[{ on := 13, ground := Ground.data }, { on := 15, ground := Ground.data }, { on := 10, ground := Ground.guard }], guard := some (10, false) }) (v := .bool false) rfl (by kernel_rfl) (by kernel_rfl) (by kernel_rfl) (fun _ _ _ h => h) (Or.inl ⟨by kernel_rfl, fun W hSW => by go_simp⟩) (Below.refl _ _) ?_
              simp only [Act.put, List.setIfInBounds_toArray, List.set_cons_zero, List.set_cons_succ]
              refine wpAnyH_take (i := 17) (oi := { dst := some 123, op := Op.pick (Operand.tmp 116) (Operand.const (Value.bool true)) (Operand.tmp 122), type := 4, pos := "more.go:51", after := #[{ on := 10, ground := Ground.data }, { on := 16, ground := Ground.data }], guard := none }) (v := .bool false) rfl (by kernel_rfl) (by kernel_rfl) (by kernel_rfl) (fun _ _ _ h => h) (Or.inl ⟨by kernel_rfl, fun W hSW => by go_simp⟩) (Below.refl _ _) ?_
              simp only [Act.put, List.setIfInBounds_toArray, List.set_cons_zero, List.set_cons_succ]
              have I9 : Hid (ApAt w d q g1 g2 m (k + 1) c1 c2 e1 e2 f1 f2 s5 w9) := Lib.hid (I6.out.next (B8.out.trans (B9.out.mono B8.out.size)))
              clear I6 B8 B9 HR8 HR9 T8 HQ HS1 HS2
              refine wpAnyH_done (by kernel_rfl) ?_ _
              go_wp2_with fail
              go_roundw
              case measure => simp [intOf]; omega
              case rel => exact ⟨k + 1, by omega, by go_num, c1, c2, e1, e2, f1, f2, s5, I9⟩
            · go_wp2_with (first
                | (refine wpList_load_mid rfl 43 (.tmp 66) rfl b (o + k * 5) rfl C5 _ HXC.out Try.underlying43 rfl (by rw [UC5.out]; exact Try.size43) ?_)
                | (refine wpList_store_all rfl 43 (.tmp 13) (.tmp 67) rfl wr.heap.size Z5 C5 43 (row_new wr Z5 43) (UZ5.out.trans UC5.out.symm) rfl rfl (by rw [UC5.out]; exact Try.size43) OC5.out ?_; intro w2 G2; have D2 := Lib.hid (HI.out.two.var G2.out); have q0 : w2.cell? ⟨wr.heap.size, 0, none⟩ = some (.bool false) := block_cell G2.out.1 0 _ (by rw [HC5.out]; unfold Bsd.cells; first | rfl | (rw [hxo]; rfl) | (rw [hxs]; rfl) | (rw [HL.out]; rfl)); have q1 : w2.cell? ⟨wr.heap.size, 1, none⟩ = some (.bool true) := block_cell G2.out.1 1 _ (by rw [HC5.out]; unfold Bsd.cells; first | rfl | (rw [hxo]; rfl) | (rw [hxs]; rfl) | (rw [HL.out]; rfl)); have q2 : w2.cell? ⟨wr.heap.size, 2, none⟩ = some (.slice x.adr l x.room) := block_cell G2.out.1 2 _ (by rw [HC5.out]; unfold Bsd.cells; first | rfl | (rw [hxo]; rfl) | (rw [hxs]; rfl) | (rw [HL.out]; rfl))))
              refine (two_put D2.out.swap HI.out.calm (by omega) (x1 := 20 + (m : Int)) (by omega) HI.out.snd (by omega) HRB.out HSB.out hll HL.out.symm).mono ?_
              rintro E w4 ⟨rfl, s4, H4⟩
              clear q0 q1 q2
              have q2 : w4.cell? ⟨wr.heap.size, 2, none⟩ = some (.slice x.adr l x.room) := block_cell (H4.out.1.dat.get (q := wr.heap.size) (o := .cells C5.toArray 43 (0, 0)) (by simp)) 2 _ (by rw [HC5.out, HL.out]; rfl)
              have hrun := run_str x.room (HRB.out _ H4.out.1.dat.below)
              have hq4 : w4.heap[q]? = some (.cells [.string (Oct.str b1), .string (Oct.str b2)].toArray 41 (0, 0)) := H4.out.1.dat.get (q := q) (by simp)
              have cf := block_cell hq4 1 _ rfl
              have ff := free_block hq4 1
              have HQ4 := Lib.hid hq4
              clear hq4
              obtain ⟨SB, hSB⟩ : ∃ S, S = Oct.str x.bs := ⟨_, rfl⟩
              have HSBS := Lib.hid hSB
              rw [← hSB] at hrun
              clear hSB
              go_wp2_with fail
              generalize hw5 : w4.setCell _ _ = w5
              have T5 : Hid (TwoAt w d (40 + 10 * (k + 1)) s4 [(q, .cells #[.string (Oct.str b1), .string (Oct.str x.bs)] 41 (0, 0))] 0 g1 b1 ((a1 : Nat) : Int) (20 + (m : Int)) g2 x.bs (((1 - a2) : Nat) : Int) w5) := Lib.hid (by
                have h := (H4.out.1.swap.sub (L' := [(q, .cells #[.string (Oct.str b1), .string (Oct.str b2)] 41 (0, 0))]) (fun p hp => .tail _ hp)).upd (W' := w4.setCell ⟨q, 1, none⟩ (.string SB)) (o' := .cells #[.string (Oct.str b1), .string (Oct.str x.bs)] 41 (0, 0)) (fun p hp => by cases hp) (by have := heap_set (k := 1) HQ4.out (.string SB); rw [HSBS.out] at this ⊢; exact this) (Oct.grownBy_set _ _ _ _)
                rw [hw5] at h
                exact h)
              have HI2 : Hid (ApAt w d q g1 g2 m (k + 1) b1 x.bs a1 (1 - a2) n1 (topGo s (20 + (m : Int)) 20 + 1) s4 w5) := Lib.hid (HI.out.put2 hm (by omega) T5.out H4.out.2.1 H4.out.2.2.1 H4.out.2.2.2)
              clear T5 H4 HQ4 HSBS cf ff q2 hw5 D2
              obtain ⟨c1, c2, e1, e2, f1, f2, s5, HI2⟩ : ∃ c1 c2 e1 e2 f1 f2 s5, Hid (ApAt w d q g1 g2 m (k + 1) c1 c2 e1 e2 f1 f2 s5 w5) := ⟨_, _, _, _, _, _, _, HI2⟩
              clear HXC HRB HSB HC5 UC5 OC5 HL hll HI
              try simp only [Act.put, List.setIfInBounds_toArray, List.set_cons_zero, List.set_cons_succ]
              refine wp_region_any (by kernel_rfl) ?_
              change wpAny _ _ _ _ _ _ _ (w5.drewN 1)
              have I6 : Hid (ApAt w d q g1 g2 m (k + 1) c1 c2 e1 e2 f1 f2 s5 (w5.drewN 1)) := Lib.hid (HI2.out.next ⟨rfl, rfl, rfl, Nat.le_refl _, fun _ _ => rfl⟩)
              clear HI2
              generalize w5.drewN 1 = w6 at I6 ⊢
              obtain ⟨S1, hS1⟩ : ∃ S, S = Oct.str c1 := ⟨_, rfl⟩
              obtain ⟨S2, hS2⟩ : ∃ S, S = Oct.str c2 := ⟨_, rfl⟩
              have HS1 := Lib.hid hS1
              have HS2 := Lib.hid hS2
              have HQ : Hid (∀ W, Below w6.heap.size w6 W → W.heap[q]? = some (.cells [.string S1, .string S2].toArray 41 (0, 0))) := Lib.hid fun W hb => (hb.block _ (Array.getElem?_eq_some_iff.1 I6.out.has).1).trans (by rw [hS1, hS2]; exact I6.out.has)
              clear hS1 hS2
              refine wpAny_of_held (S := fun W => Below w6.heap.size w6 W) _ _ _ _ ?_
              refine wpAnyH_take (i := 0) (oi := { dst := some 106, op := Op.move (Operand.tmp 14), type := 26, pos := "more.go:51", after := #[], guard := none }) (v := .int .i64 0) rfl (by kernel_rfl) (by kernel_rfl) (by kernel_rfl) (fun _ _ _ h => h) (Or.inl ⟨by kernel_rfl, fun W hSW => by go_simp⟩) (Below.refl _ _) ?_
              simp only [Act.put, List.setIfInBounds_toArray, List.set_cons_zero, List.set_cons_succ]
              refine wpAnyH_take (i := 1) (oi := { dst := some 107, op := Op.binOp BinOp.neq 26 (Operand.tmp 106) (Operand.const (Value.int IntKind.i64 0)) 26, type := 4, pos := "more.go:51", after := #[{ on := 0, ground := Ground.data }], guard := none }) (v := .bool false) rfl (by kernel_rfl) (by kernel_rfl) (by kernel_rfl) (fun _ _ _ h => h) (Or.inl ⟨by kernel_rfl, fun W hSW => by go_simp⟩) (Below.refl _ _) ?_
              simp only [Act.put, List.setIfInBounds_toArray, List.set_cons_zero, List.set_cons_succ]
              refine wpAnyH_take (i := 2) (oi := { dst := some 108, op := Op.move (Operand.tmp 107), type := 4, pos := "more.go:51", after := #[{ on := 1, ground := Ground.data }], guard := none }) (v := .bool false) rfl (by kernel_rfl) (by kernel_rfl) (by kernel_rfl) (fun _ _ _ h => h) (Or.inl ⟨by kernel_rfl, fun W hSW => by go_simp⟩) (Below.refl _ _) ?_
              simp only [Act.put, List.setIfInBounds_toArray, List.set_cons_zero, List.set_cons_succ]
              refine wpAnyH_take (i := 3) (oi := { dst := some 109, op := Op.move (Operand.tmp 7), type := 31, pos := "more.go:51", after := #[{ on := 2, ground := Ground.guard }], guard := some (2, false) }) (v := .pointer (some ⟨g1, 0, none⟩)) rfl (by kernel_rfl) (by kernel_rfl) (by kernel_rfl) (fun _ _ _ h => h) (Or.inl ⟨by kernel_rfl, fun W hSW => by go_simp⟩) (Below.refl _ _) ?_
              simp only [Act.put, List.setIfInBounds_toArray, List.set_cons_zero, List.set_cons_succ]
              refine wpAnyH_take (i := 6) (oi := { dst := some 112, op := Op.indexAddr 41 (Operand.tmp 11) (Operand.const (Value.int IntKind.i64 0)), type := 0, pos := "more.go:51", after := #[{ on := 2, ground := Ground.guard }], guard := some (2, false) }) (v := .pointer (some ⟨q, 0, none⟩)) rfl (by kernel_rfl) (by kernel_rfl) (by kernel_rfl) (fun _ _ _ h => h) (Or.inl ⟨by kernel_rfl, fun W hSW => by go_simp⟩) (Below.refl _ _) ?_
              simp only [Act.put, List.setIfInBounds_toArray, List.set_cons_zero, List.set_cons_succ]
              refine wpAnyH_take (i := 7) (oi := { dst := some 113, op := Op.load 9 (Operand.tmp 112), type := 9, pos := "more.go:51", after := #[{ on := 6, ground := Ground.data }, { on := 2, ground := Ground.guard }], guard := some (2, false) }) (v := .string S1) rfl (by kernel_rfl) (by kernel_rfl) (by kernel_rfl) (fun _ _ _ h => h) (Or.inl ⟨by kernel_rfl, fun W hSW => by have hcv : W.cell? ⟨q, 0, none⟩ = some (.string S1) := block_cell (HQ.out W hSW) 0 _ rfl; go_simp⟩) (Below.refl _ _) ?_
              simp only [Act.put, List.setIfInBounds_toArray, List.set_cons_zero, List.set_cons_succ]
              refine wpAnyH_ready (rs := [4]) (by kernel_rfl) (by simp) ?_
              refine AllReadyH.cons (o := { dst := some 110, op := Op.call { callee := Callee.value (Operand.func 11), args := #[Operand.tmp 109], argTypes := #[31] }, type := 28, pos := "more.go:51", after := #[{ on := 3, ground := Ground.data }, { on := 2, ground := Ground.chain }, { on := 2, ground := Ground.guard }], guard := some (2, false) }) rfl (fun K' hK' => ?_) AllReadyH.nil
              go_simp
              go_at_call 11
              refine (two_gets I6.out.two).mono ?_
              rintro E w8 ⟨A8, n8, c8, rfl, H8⟩
              have B8 : Hid (Below w6.heap.size w6 w8) := Lib.hid H8.out.2.2
              refine hK'.out _ _ B8.out (fun _ => wpAnyH_next B8.out ?_)
              clear hK' K'
              have HR8 : Hid (∀ W, Below w8.heap.size w8 W → Oct.Rd W A8 n8 c1) := Lib.hid fun W hb => H8.out.2.1.below hb
              have T8 := Lib.hid H8.out.1.swap
              clear H8
              refine wpAnyH_take (i := 5) (oi := { dst := some 111, op := Op.convert 28 9 (Operand.tmp 110), type := 9, pos := "more.go:51", after := #[{ on := 4, ground := Ground.data }, { on := 2, ground := Ground.guard }], guard := some (2, false) }) (v := .string S1) rfl (by kernel_rfl) (by kernel_rfl) (by kernel_rfl) (fun _ _ _ h => h) (Or.inl ⟨by kernel_rfl, fun W hSW => by have hrun := run_str c8 (HR8.out W hSW); rw [← HS1.out] at hrun; go_simp⟩) (Below.refl _ _) ?_
              simp only [Act.put, List.setIfInBounds_toArray, List.set_cons_zero, List.set_cons_succ]
              refine wpAnyH_take (i := 8) (oi := { dst := some 114, op := Op.binOp BinOp.neq 9 (Operand.tmp 111) (Operand.tmp 113) 9, type := 4, pos := "more.go:51", after := #[{ on := 5, ground := Ground.data }, { on := 7, ground := Ground.data }, { on := 2, ground := Ground.guard }], guard := some (2, false) }) (v := .bool false) rfl (by kernel_rfl) (by kernel_rfl) (by kernel_rfl) (fun _ _ _ h => h) (Or.inl ⟨by kernel_rfl, fun W hSW => by go_simp⟩) (Below.refl _ _) ?_
              simp only [Act.put, List.setIfInBounds_toArray, List.set_cons_zero, List.set_cons_succ]
              refine wpAnyH_take (i := 9) (oi := { dst := some 115, op := Op.pick (Operand.tmp 108) (Operand.const (Value.bool true)) (Operand.tmp 114), type := 4, pos := "more.go:51", after := #[{ on := 2, ground := Ground.data }, { on := 8, ground := Ground.data }], guard := none }) (v := .bool false) rfl (by kernel_rfl) (by kernel_rfl) (by kernel_rfl) (fun _ _ _ h => h) (Or.inl ⟨by kernel_rfl, fun W hSW => by go_simp⟩) (Below.refl _ _) ?_
              simp only [Act.put, List.setIfInBounds_toArray, List.set_cons_zero, List.set_cons_succ]
              refine wpAnyH_take (i := 10) (oi := { dst := some 116, op := Op.move (Operand.tmp 115), type := 4, pos := "more.go:51", after := #[{ on := 9, ground := Ground.data }, { on := 4, ground := Ground.chain }], guard := none }) (v := .bool false) rfl (by kernel_rfl) (by kernel_rfl) (by kernel_rfl) (fun _ _ _ h => h) (Or.inl ⟨by kernel_rfl, fun W hSW => by go_simp⟩) (Below.refl _ _) ?_
              simp only [Act.put, List.setIfInBounds_toArray, List.set_cons_zero, List.set_cons_succ]
              refine wpAnyH_take (i := 11) (oi := { dst := some 117, op := Op.move (Operand.tmp 9), type := 31, pos := "more.go:51", after := #[{ on := 10, ground := Ground.guard }], guard := some (10, false) }) (v := .pointer (some ⟨g2, 0, none⟩)) rfl (by kernel_rfl) (by kernel_rfl) (by kernel_rfl) (fun _ _ _ h => h) (Or.inl ⟨by kernel_rfl, fun W hSW => by go_simp⟩) (Below.refl _ _) ?_
              simp only [Act.put, List.setIfInBounds_toArray, List.set_cons_zero, List.set_cons_succ]
              refine wpAnyH_take (i := 14) (oi := { dst := some 120, op := Op.indexAddr 41 (Operand.tmp 11) (Operand.const (Value.int IntKind.i64 1)), type := 0, pos := "more.go:51", after := #[{ on := 10, ground := Ground.guard }], guard := some (10, false) }) (v := .pointer (some ⟨q, 1, none⟩)) rfl (by kernel_rfl) (by kernel_rfl) (by kernel_rfl) (fun _ _ _ h => h) (Or.inl ⟨by kernel_rfl, fun W hSW => by go_simp⟩) (Below.refl _ _) ?_
              simp only [Act.put, List.setIfInBounds_toArray, List.set_cons_zero, List.set_cons_succ]
              refine wpAnyH_take (i := 15) (oi := { dst := some 121, op := Op.load 9 (Operand.tmp 120), type := 9, pos := "more.go:51", after := #[{ on := 14, ground := Ground.data }, { on := 10, ground := Ground.guard }], guard := some (10, false) }) (v := .string S2) rfl (by kernel_rfl) (by kernel_rfl) (by kernel_rfl) (fun _ _ _ h => h) (Or.inl ⟨by kernel_rfl, fun W hSW => by have hcv : W.cell? ⟨q, 1, none⟩ = some (.string S2) := block_cell (HQ.out W (B8.out.trans (hSW.mono B8.out.size))) 1 _ rfl; go_simp⟩) (Below.refl _ _) ?_
              simp only [Act.put, List.setIfInBounds_toArray, List.set_cons_zero, List.set_cons_succ]
              refine wpAnyH_ready (rs := [12]) (by kernel_rfl) (by simp) ?_
              refine AllReadyH.cons (o := { dst := some 118, op := Op.call { callee := Callee.value (Operand.func 11), args := #[Operand.tmp 117], argTypes := #[31] }, type := 28, pos := "more.go:51", after := #[{ on := 11, ground := Ground.data }, { on := 10, ground := Ground.chain }, { on := 10, ground := Ground.guard }], guard := some (10, false) }) rfl (fun K' hK' => ?_) AllReadyH.nil
              go_simp
              go_at_call 11
              refine (two_gets T8.out).mono ?_
              rintro E w9 ⟨A9, n9, c9, rfl, H9⟩
              have B9 : Hid (Below w8.heap.size w8 w9) := Lib.hid H9.out.2.2
              refine hK'.out _ _ B9.out (fun _ => wpAnyH_next B9.out ?_)
              clear hK' K'
              have HR9 : Hid (∀ W, Below w9.heap.size w9 W → Oct.Rd W A9 n9 c2) := Lib.hid fun W hb => H9.out.2.1.below hb
              clear H9
              refine wpAnyH_take (i := 13) (oi := { dst := some 119, op := Op.convert 28 9 (Operand.tmp 118), type := 9, pos := "more.go:51", after := #[{ on := 12, ground := Ground.data }, { on := 10, ground := Ground.guard }], guard := some (10, false) }) (v := .string S2) rfl (by kernel_rfl) (by kernel_rfl) (by kernel_rfl) (fun _ _ _ h => h) (Or.inl ⟨by kernel_rfl, fun W hSW => by have hrun := run_str c9 (HR9.out W hSW); rw [← HS2.out] at hrun; go_simp⟩) (Below.refl _ _) ?_
              simp only [Act.put, List.setIfInBounds_toArray, List.set_cons_zero, List.set_cons_succ]
              refine wpAnyH_take (i := 16) (oi := { dst := some 122, op := Op.binOp BinOp.neq 9 (Operand.tmp 119) (Operand.tmp 121) 9, type := 4, pos := "more.go:51", after := #[{ on := 13, ground := Ground.data }, { on := 15, ground := Ground.data }, { on := 10, ground := Ground.guard }], guard := some (10, false) }) (v := .bool false) rfl (by kernel_rfl) (by kernel_rfl) (by kernel_rfl) (fun _ _ _ h => h) (Or.inl ⟨by kernel_rfl, fun W hSW => by go_simp⟩) (Below.refl _ _) ?_
              simp only [Act.put, List.setIfInBounds_toArray, List.set_cons_zero, List.set_cons_succ]
              refine wpAnyH_take (i := 17) (oi := { dst := some 123, op := Op.pick (Operand.tmp 116) (Operand.const (Value.bool true)) (Operand.tmp 122), type := 4, pos := "more.go:51", after := #[{ on := 10, ground := Ground.data }, { on := 16, ground := Ground.data }], guard := none }) (v := .bool false) rfl (by kernel_rfl) (by kernel_rfl) (by kernel_rfl) (fun _ _ _ h => h) (Or.inl ⟨by kernel_rfl, fun W hSW => by go_simp⟩) (Below.refl _ _) ?_
              simp only [Act.put, List.setIfInBounds_toArray, List.set_cons_zero, List.set_cons_succ]
              have I9 : Hid (ApAt w d q g1 g2 m (k + 1) c1 c2 e1 e2 f1 f2 s5 w9) := Lib.hid (I6.out.next (B8.out.trans (B9.out.mono B8.out.size)))
              clear I6 B8 B9 HR8 HR9 T8 HQ HS1 HS2
              refine wpAnyH_done (by kernel_rfl) ?_ _
              go_wp2_with fail
              go_roundw
              case measure => simp [intOf]; omega
              case rel => exact ⟨k + 1, by omega, by go_num, c1, c2, e1, e2, f1, f2, s5, I9⟩
          · go_wp2_with (first
              | (refine wpList_load_mid rfl 43 (.tmp 66) rfl b (o + k * 5) rfl C5 _ HXC.out Try.underlying43 rfl (by rw [UC5.out]; exact Try.size43) ?_)
              | (refine wpList_store_all rfl 43 (.tmp 13) (.tmp 67) rfl wr.heap.size Z5 C5 43 (row_new wr Z5 43) (UZ5.out.trans UC5.out.symm) rfl rfl (by rw [UC5.out]; exact Try.size43) OC5.out ?_; intro w2 G2; have D2 := Lib.hid (HI.out.two.var G2.out); have q0 : w2.cell? ⟨wr.heap.size, 0, none⟩ = some (.bool true) := block_cell G2.out.1 0 _ (by rw [HC5.out]; unfold Bsd.cells; first | rfl | (rw [hxo]; rfl) | (rw [hxs]; rfl) | (rw [HL.out]; rfl)); have q2 : w2.cell? ⟨wr.heap.size, 2, none⟩ = some (.slice x.adr l x.room) := block_cell G2.out.1 2 _ (by rw [HC5.out]; unfold Bsd.cells; first | rfl | (rw [hxo]; rfl) | (rw [hxs]; rfl) | (rw [HL.out]; rfl)); have q1 := q0))
            have BU : Hid (∀ wr, Calls Try.prog 17 #[.int .u8 (x.byte.toNat : Int)] wr fun E w' => E = .returned (.agg (u8s (secOf x.byte)).toArray) ∧ Below wr.heap.size wr w') := Lib.hid (bytes_any x.byte)
            have LS := Lib.hid (secOf_length x.byte)
            generalize secOf x.byte = sv at BU LS
            have hat := x.at'.toNat_lt
            obtain ⟨u, hu⟩ : ∃ u, u = x.at'.toNat := ⟨_, rfl⟩
            rw [← hu] at hat
            have HU := Lib.hid hu
            clear hu
            clear q0 q1 q2
            try simp only [Act.put, List.setIfInBounds_toArray, List.set_cons_zero, List.set_cons_succ]
            refine wp_region_any (by kernel_rfl) ?_
            change wpAny _ _ _ _ _ _ _ (w2.drewN 1)
            have DD := Lib.hid (D2.out.next (W' := w2.drewN 1) ⟨rfl, rfl, rfl, Nat.le_refl _, fun _ _ => rfl⟩)
            clear D2
            generalize w2.drewN 1 = wD at DD ⊢
            refine wpAny_of_held (S := fun W => W.heap[wr.heap.size]? = some (.cells C5.toArray 43 (0, 0))) _ _ _ _ ?_
            refine wpAnyH_take (i := 0) (oi := { dst := some 84, op := Op.move (Operand.tmp 5), type := 24, pos := "more.go:43", after := #[], guard := none }) (v := .pointer (some ⟨d, 0, none⟩)) rfl (by kernel_rfl) (by kernel_rfl) (by kernel_rfl) (fun _ _ _ h => h) (Or.inl ⟨by kernel_rfl, fun W hSW => by go_simp⟩) (DD.out.dat.get (q := wr.heap.size) (o := .cells C5.toArray 43 (0, 0)) (by simp)) ?_
            simp only [Act.put, List.setIfInBounds_toArray, List.set_cons_zero, List.set_cons_succ]
            refine wpAnyH_take (i := 1) (oi := { dst := some 85, op := Op.move (Operand.tmp 6), type := 3, pos := "more.go:43", after := #[], guard := none }) (v := .int .i64 (20 + (m : Int))) rfl (by kernel_rfl) (by kernel_rfl) (by kernel_rfl) (fun _ _ _ h => h) (Or.inl ⟨by kernel_rfl, fun W hSW => by go_simp⟩) (DD.out.dat.get (q := wr.heap.size) (o := .cells C5.toArray 43 (0, 0)) (by simp)) ?_
            simp only [Act.put, List.setIfInBounds_toArray, List.set_cons_zero, List.set_cons_succ]
            refine wpAnyH_take (i := 2) (oi := { dst := some 86, op := Op.binOp BinOp.add 3 (Operand.tmp 85) (Operand.const (Value.int IntKind.i64 20)) 3, type := 3, pos := "more.go:43", after := #[{ on := 1, ground := Ground.data }], guard := none }) (v := .int .i64 (40 + (m : Int))) rfl (by kernel_rfl) (by kernel_rfl) (by kernel_rfl) (fun _ _ _ h => h) (Or.inl ⟨by kernel_rfl, fun W hSW => by go_simp; exact ap_sum hm⟩) (DD.out.dat.get (q := wr.heap.size) (o := .cells C5.toArray 43 (0, 0)) (by simp)) ?_
            simp only [Act.put, List.setIfInBounds_toArray, List.set_cons_zero, List.set_cons_succ]
            refine wpAnyH_take (i := 3) (oi := { dst := some 87, op := Op.fieldAddr 43 (Operand.tmp 13) 3, type := 0, pos := "more.go:43", after := #[], guard := none }) (v := .pointer (some ⟨wr.heap.size, 3, none⟩)) rfl (by kernel_rfl) (by kernel_rfl) (by kernel_rfl) (fun _ _ _ h => h) (Or.inl ⟨by kernel_rfl, fun W hSW => by go_simp⟩) (DD.out.dat.get (q := wr.heap.size) (o := .cells C5.toArray 43 (0, 0)) (by simp)) ?_
            simp only [Act.put, List.setIfInBounds_toArray, List.set_cons_zero, List.set_cons_succ]
            refine wpAnyH_take (i := 4) (oi := { dst := some 88, op := Op.load 5 (Operand.tmp 87), type := 5, pos := "more.go:43", after := #[{ on := 3, ground := Ground.data }], guard := none }) (v := .int .u8 (u : Int)) rfl (by kernel_rfl) (by kernel_rfl) (by kernel_rfl) (fun _ _ _ h => h) (Or.inl ⟨by kernel_rfl, fun W hSW => by have hcv : W.cell? ⟨wr.heap.size, 3, none⟩ = some (.int .u8 (u : Int)) := block_cell hSW 3 _ (by rw [HC5.out, HU.out]; rfl); go_simp⟩) (DD.out.dat.get (q := wr.heap.size) (o := .cells C5.toArray 43 (0, 0)) (by simp)) ?_
            simp only [Act.put, List.setIfInBounds_toArray, List.set_cons_zero, List.set_cons_succ]
            refine wpAnyH_take (i := 5) (oi := { dst := some 89, op := Op.convert 5 3 (Operand.tmp 88), type := 3, pos := "more.go:43", after := #[{ on := 4, ground := Ground.data }], guard := none }) (v := .int .i64 (u : Int)) rfl (by kernel_rfl) (by kernel_rfl) (by kernel_rfl) (fun _ _ _ h => h) (Or.inl ⟨by kernel_rfl, fun W hSW => by go_simp; exact ap_wrap hat⟩) (DD.out.dat.get (q := wr.heap.size) (o := .cells C5.toArray 43 (0, 0)) (by simp)) ?_
            simp only [Act.put, List.setIfInBounds_toArray, List.set_cons_zero, List.set_cons_succ]
            refine wpAnyH_take (i := 6) (oi := { dst := some 90, op := Op.binOp BinOp.add 3 (Operand.tmp 86) (Operand.tmp 89) 3, type := 3, pos := "more.go:43", after := #[{ on := 2, ground := Ground.data }, { on := 5, ground := Ground.data }], guard := none }) (v := .int .i64 (40 + (m : Int) + (u : Int))) rfl (by kernel_rfl) (by kernel_rfl) (by kernel_rfl) (fun _ _ _ h => h) (Or.inl ⟨by kernel_rfl, fun W hSW => by go_simp; exact ap_sum2 hm hat⟩) (DD.out.dat.get (q := wr.heap.size) (o := .cells C5.toArray 43 (0, 0)) (by simp)) ?_
            simp only [Act.put, List.setIfInBounds_toArray, List.set_cons_zero, List.set_cons_succ]
            refine wpAnyH_take (i := 7) (oi := { dst := some 91, op := Op.fieldAddr 43 (Operand.tmp 13) 4, type := 0, pos := "more.go:43", after := #[], guard := none }) (v := .pointer (some ⟨wr.heap.size, 4, none⟩)) rfl (by kernel_rfl) (by kernel_rfl) (by kernel_rfl) (fun _ _ _ h => h) (Or.inl ⟨by kernel_rfl, fun W hSW => by go_simp⟩) (DD.out.dat.get (q := wr.heap.size) (o := .cells C5.toArray 43 (0, 0)) (by simp)) ?_
            simp only [Act.put, List.setIfInBounds_toArray, List.set_cons_zero, List.set_cons_succ]
            refine wpAnyH_take (i := 8) (oi := { dst := some 92, op := Op.load 5 (Operand.tmp 91), type := 5, pos := "more.go:43", after := #[{ on := 7, ground := Ground.data }], guard := none }) (v := .int .u8 (x.byte.toNat : Int)) rfl (by kernel_rfl) (by kernel_rfl) (by kernel_rfl) (fun _ _ _ h => h) (Or.inl ⟨by kernel_rfl, fun W hSW => by have hcv : W.cell? ⟨wr.heap.size, 4, none⟩ = some (.int .u8 (x.byte.toNat : Int)) := block_cell hSW 4 _ (by rw [HC5.out]; rfl); go_simp⟩) (DD.out.dat.get (q := wr.heap.size) (o := .cells C5.toArray 43 (0, 0)) (by simp)) ?_
            simp only [Act.put, List.setIfInBounds_toArray, List.set_cons_zero, List.set_cons_succ]
            refine wpAnyH_ready (rs := [9]) (by kernel_rfl) (by simp) ?_
            refine AllReadyH.cons (o := { dst := some 93, op := Op.call { callee := Callee.value (Operand.func 17), args := #[Operand.tmp 92], argTypes := #[5] }, type := 45, pos := "more.go:43", after := #[{ on := 8, ground := Ground.data }], guard := none }) rfl (fun K' hK' => ?_) AllReadyH.nil
            go_simp
            go_at_call 17
            refine (BU.out _).mono ?_
            rintro E wa ⟨rfl, hb⟩
            have Da := Lib.hid (DD.out.next hb)
            clear hb DD
            refine hK'.out _ _ (Da.out.dat.get (q := wr.heap.size) (o := .cells C5.toArray 43 (0, 0)) (by simp)) (fun _ => ?_)
            clear hK' K'
            obtain ⟨r1, r2, r3⟩ := write_beside HI.out.calm (y := 40 + (m : Int) + (u : Int)) (ap_at hm hat) sv
            have HWR := Lib.hid (And.intro r2 r3)
            have HW0 := Lib.hid (two_write Da.out (by omega) (40 + (m : Int) + (u : Int)) sv LS.out)
            rw [r1] at HW0
            clear r1 r2 r3
            generalize (s.write (40 + (m : Int) + (u : Int)) sv).1 = s4 at HWR HW0
            refine wpAnyH_ready (rs := [10]) (by kernel_rfl) (by simp) ?_
            refine AllReadyH.cons (o := { dst := some 94, op := Op.call { callee := Callee.value (Operand.func 16), args := #[Operand.tmp 84, Operand.tmp 90, Operand.tmp 93], argTypes := #[24, 3, 45] }, type := 26, pos := "more.go:43", after := #[{ on := 0, ground := Ground.data }, { on := 6, ground := Ground.data }, { on := 9, ground := Ground.data }, { on := 9, ground := Ground.chain }], guard := none }) rfl (fun K' hK' => ?_) AllReadyH.nil
            go_simp
            go_at_call 16
            refine HW0.out.mono ?_
            rintro E w5 ⟨rfl, H5⟩
            clear HW0 Da
            refine hK'.out _ _ (H5.out.dat.get (q := wr.heap.size) (o := .cells C5.toArray 43 (0, 0)) (by simp)) (fun _ => ?_)
            clear hK' K'
            refine wpAnyH_take (i := 11) (oi := { dst := some 14, op := Op.assign (Operand.tmp 94), type := 26, pos := "more.go:43", after := #[{ on := 10, ground := Ground.data }, { on := 10, ground := Ground.chain }, { on := 0, ground := Ground.phase }, { on := 1, ground := Ground.phase }, { on := 2, ground := Ground.phase }, { on := 3, ground := Ground.phase }, { on := 4, ground := Ground.phase }, { on := 5, ground := Ground.phase }, { on := 6, ground := Ground.phase }, { on := 7, ground := Ground.phase }, { on := 8, ground := Ground.phase }, { on := 9, ground := Ground.phase }, { on := 10, ground := Ground.phase }], guard := none }) (v := .int .i64 0) rfl (by kernel_rfl) (by kernel_rfl) (by kernel_rfl) (fun _ _ _ h => h) (Or.inl ⟨by kernel_rfl, fun W hSW => by go_simp⟩) (H5.out.dat.get (q := wr.heap.size) (o := .cells C5.toArray 43 (0, 0)) (by simp)) ?_
            simp only [Act.put, List.setIfInBounds_toArray, List.set_cons_zero, List.set_cons_succ]
            refine wpAnyH_done (by kernel_rfl) ?_ _
            have HI2 : Hid (ApAt w d q g1 g2 m (k + 1) b1 b2 a1 a2 n1 n2 s4 w5) := Lib.hid (HI.out.wrote (u := u) hm (by omega) (H5.out.sub (fun p hp => .tail _ hp)) HWR.out.1 HWR.out.2)
            clear H5 HWR BU LS HU
            obtain ⟨c1, c2, e1, e2, f1, f2, s5, HI2⟩ : ∃ c1 c2 e1 e2 f1 f2 s5, Hid (ApAt w d q g1 g2 m (k + 1) c1 c2 e1 e2 f1 f2 s5 w5) := ⟨_, _, _, _, _, _, _, HI2⟩
            go_wp2_with fail
            clear HXC HRB HSB HC5 UC5 OC5 HL hll HI
            try simp only [Act.put, List.setIfInBounds_toArray, List.set_cons_zero, List.set_cons_succ]
            refine wp_region_any (by kernel_rfl) ?_
            change wpAny _ _ _ _ _ _ _ (w5.drewN 1)
            have I6 : Hid (ApAt w d q g1 g2 m (k + 1) c1 c2 e1 e2 f1 f2 s5 (w5.drewN 1)) := Lib.hid (HI2.out.next ⟨rfl, rfl, rfl, Nat.le_refl _, fun _ _ => rfl⟩)
            clear HI2
            generalize w5.drewN 1 = w6 at I6 ⊢
            obtain ⟨S1, hS1⟩ : ∃ S, S = Oct.str c1 := ⟨_, rfl⟩
            obtain ⟨S2, hS2⟩ : ∃ S, S = Oct.str c2 := ⟨_, rfl⟩
            have HS1 := Lib.hid hS1
            have HS2 := Lib.hid hS2
            have HQ : Hid (∀ W, Below w6.heap.size w6 W → W.heap[q]? = some (.cells [.string S1, .string S2].toArray 41 (0, 0))) := Lib.hid fun W hb => (hb.block _ (Array.getElem?_eq_some_iff.1 I6.out.has).1).trans (by rw [hS1, hS2]; exact I6.out.has)
            clear hS1 hS2
            refine wpAny_of_held (S := fun W => Below w6.heap.size w6 W) _ _ _ _ ?_
            refine wpAnyH_take (i := 0) (oi := { dst := some 106, op := Op.move (Operand.tmp 14), type := 26, pos := "more.go:51", after := #[], guard := none }) (v := .int .i64 0) rfl (by kernel_rfl) (by kernel_rfl) (by kernel_rfl) (fun _ _ _ h => h) (Or.inl ⟨by kernel_rfl, fun W hSW => by go_simp⟩) (Below.refl _ _) ?_
            simp only [Act.put, List.setIfInBounds_toArray, List.set_cons_zero, List.set_cons_succ]
            refine wpAnyH_take (i := 1) (oi := { dst := some 107, op := Op.binOp BinOp.neq 26 (Operand.tmp 106) (Operand.const (Value.int IntKind.i64 0)) 26, type := 4, pos := "more.go:51", after := #[{ on := 0, ground := Ground.data }], guard := none }) (v := .bool false) rfl (by kernel_rfl) (by kernel_rfl) (by kernel_rfl) (fun _ _ _ h => h) (Or.inl ⟨by kernel_rfl, fun W hSW => by go_simp⟩) (Below.refl _ _) ?_
            simp only [Act.put, List.setIfInBounds_toArray, List.set_cons_zero, List.set_cons_succ]
            refine wpAnyH_take (i := 2) (oi := { dst := some 108, op := Op.move (Operand.tmp 107), type := 4, pos := "more.go:51", after := #[{ on := 1, ground := Ground.data }], guard := none }) (v := .bool false) rfl (by kernel_rfl) (by kernel_rfl) (by kernel_rfl) (fun _ _ _ h => h) (Or.inl ⟨by kernel_rfl, fun W hSW => by go_simp⟩) (Below.refl _ _) ?_
            simp only [Act.put, List.setIfInBounds_toArray, List.set_cons_zero, List.set_cons_succ]
            refine wpAnyH_take (i := 3) (oi := { dst := some 109, op := Op.move (Operand.tmp 7), type := 31, pos := "more.go:51", after := #[{ on := 2, ground := Ground.guard }], guard := some (2, false) }) (v := .pointer (some ⟨g1, 0, none⟩)) rfl (by kernel_rfl) (by kernel_rfl) (by kernel_rfl) (fun _ _ _ h => h) (Or.inl ⟨by kernel_rfl, fun W hSW => by go_simp⟩) (Below.refl _ _) ?_
            simp only [Act.put, List.setIfInBounds_toArray, List.set_cons_zero, List.set_cons_succ]
            refine wpAnyH_take (i := 6) (oi := { dst := some 112, op := Op.indexAddr 41 (Operand.tmp 11) (Operand.const (Value.int IntKind.i64 0)), type := 0, pos := "more.go:51", after := #[{ on := 2, ground := Ground.guard }], guard := some (2, false) }) (v := .pointer (some ⟨q, 0, none⟩)) rfl (by kernel_rfl) (by kernel_rfl) (by kernel_rfl) (fun _ _ _ h => h) (Or.inl ⟨by kernel_rfl, fun W hSW => by go_simp⟩) (Below.refl _ _) ?_
            simp only [Act.put, List.setIfInBounds_toArray, List.set_cons_zero, List.set_cons_succ]
            refine wpAnyH_take (i := 7) (oi := { dst := some 113, op := Op.load 9 (Operand.tmp 112), type := 9, pos := "more.go:51", after := #[{ on := 6, ground := Ground.data }, { on := 2, ground := Ground.guard }], guard := some (2, false) }) (v := .string S1) rfl (by kernel_rfl) (by kernel_rfl) (by kernel_rfl) (fun _ _ _ h => h) (Or.inl ⟨by kernel_rfl, fun W hSW => by have hcv : W.cell? ⟨q, 0, none⟩ = some (.string S1) := block_cell (HQ.out W hSW) 0 _ rfl; go_simp⟩) (Below.refl _ _) ?_
            simp only [Act.put, List.setIfInBounds_toArray, List.set_cons_zero, List.set_cons_succ]
            refine wpAnyH_ready (rs := [4]) (by kernel_rfl) (by simp) ?_
            refine AllReadyH.cons (o := { dst := some 110, op := Op.call { callee := Callee.value (Operand.func 11), args := #[Operand.tmp 109], argTypes := #[31] }, type := 28, pos := "more.go:51", after := #[{ on := 3, ground := Ground.data }, { on := 2, ground := Ground.chain }, { on := 2, ground := Ground.guard }], guard := some (2, false) }) rfl (fun K' hK' => ?_) AllReadyH.nil
            go_simp
            go_at_call 11
            refine (two_gets I6.out.two).mono ?_
            rintro E w8 ⟨A8, n8, c8, rfl, H8⟩
            have B8 : Hid (Below w6.heap.size w6 w8) := Lib.hid H8.out.2.2
            refine hK'.out _ _ B8.out (fun _ => wpAnyH_next B8.out ?_)
            clear hK' K'
            have HR8 : Hid (∀ W, Below w8.heap.size w8 W → Oct.Rd W A8 n8 c1) := Lib.hid fun W hb => H8.out.2.1.below hb
            have T8 := Lib.hid H8.out.1.swap
            clear H8
            refine wpAnyH_take (i := 5) (oi := { dst := some 111, op := Op.convert 28 9 (Operand.tmp 110), type := 9, pos := "more.go:51", after := #[{ on := 4, ground := Ground.data }, { on := 2, ground := Ground.guard }], guard := some (2, false) }) (v := .string S1) rfl (by kernel_rfl) (by kernel_rfl) (by kernel_rfl) (fun _ _ _ h => h) (Or.inl ⟨by kernel_rfl, fun W hSW => by have hrun := run_str c8 (HR8.out W hSW); rw [← HS1.out] at hrun; go_simp⟩) (Below.refl _ _) ?_
            simp only [Act.put, List.setIfInBounds_toArray, List.set_cons_zero, List.set_cons_succ]
            refine wpAnyH_take (i := 8) (oi := { dst := some 114, op := Op.binOp BinOp.neq 9 (Operand.tmp 111) (Operand.tmp 113) 9, type := 4, pos := "more.go:51", after := #[{ on := 5, ground := Ground.data }, { on := 7, ground := Ground.data }, { on := 2, ground := Ground.guard }], guard := some (2, false) }) (v := .bool false) rfl (by kernel_rfl) (by kernel_rfl) (by kernel_rfl) (fun _ _ _ h => h) (Or.inl ⟨by kernel_rfl, fun W hSW => by go_simp⟩) (Below.refl _ _) ?_
            simp only [Act.put, List.setIfInBounds_toArray, List.set_cons_zero, List.set_cons_succ]
            refine wpAnyH_take (i := 9) (oi := { dst := some 115, op := Op.pick (Operand.tmp 108) (Operand.const (Value.bool true)) (Operand.tmp 114), type := 4, pos := "more.go:51", after := #[{ on := 2, ground := Ground.data }, { on := 8, ground := Ground.data }], guard := none }) (v := .bool false) rfl (by kernel_rfl) (by kernel_rfl) (by kernel_rfl) (fun _ _ _ h => h) (Or.inl ⟨by kernel_rfl, fun W hSW => by go_simp⟩) (Below.refl _ _) ?_
            simp only [Act.put, List.setIfInBounds_toArray, List.set_cons_zero, List.set_cons_succ]
            refine wpAnyH_take (i := 10) (oi := { dst := some 116, op := Op.move (Operand.tmp 115), type := 4, pos := "more.go:51", after := #[{ on := 9, ground := Ground.data }, { on := 4, ground := Ground.chain }], guard := none }) (v := .bool false) rfl (by kernel_rfl) (by kernel_rfl) (by kernel_rfl) (fun _ _ _ h => h) (Or.inl ⟨by kernel_rfl, fun W hSW => by go_simp⟩) (Below.refl _ _) ?_
            simp only [Act.put, List.setIfInBounds_toArray, List.set_cons_zero, List.set_cons_succ]
            refine wpAnyH_take (i := 11) (oi := { dst := some 117, op := Op.move (Operand.tmp 9), type := 31, pos := "more.go:51", after := #[{ on := 10, ground := Ground.guard }], guard := some (10, false) }) (v := .pointer (some ⟨g2, 0, none⟩)) rfl (by kernel_rfl) (by kernel_rfl) (by kernel_rfl) (fun _ _ _ h => h) (Or.inl ⟨by kernel_rfl, fun W hSW => by go_simp⟩) (Below.refl _ _) ?_
            simp only [Act.put, List.setIfInBounds_toArray, List.set_cons_zero, List.set_cons_succ]
            refine wpAnyH_take (i := 14) (oi := { dst := some 120, op := Op.indexAddr 41 (Operand.tmp 11) (Operand.const (Value.int IntKind.i64 1)), type := 0, pos := "more.go:51", after := #[{ on := 10, ground := Ground.guard }], guard := some (10, false) }) (v := .pointer (some ⟨q, 1, none⟩)) rfl (by kernel_rfl) (by kernel_rfl) (by kernel_rfl) (fun _ _ _ h => h) (Or.inl ⟨by kernel_rfl, fun W hSW => by go_simp⟩) (Below.refl _ _) ?_
            simp only [Act.put, List.setIfInBounds_toArray, List.set_cons_zero, List.set_cons_succ]
            refine wpAnyH_take (i := 15) (oi := { dst := some 121, op := Op.load 9 (Operand.tmp 120), type := 9, pos := "more.go:51", after := #[{ on := 14, ground := Ground.data }, { on := 10, ground := Ground.guard }], guard := some (10, false) }) (v := .string S2) rfl (by kernel_rfl) (by kernel_rfl) (by kernel_rfl) (fun _ _ _ h => h) (Or.inl ⟨by kernel_rfl, fun W hSW => by have hcv : W.cell? ⟨q, 1, none⟩ = some (.string S2) := block_cell (HQ.out W (B8.out.trans (hSW.mono B8.out.size))) 1 _ rfl; go_simp⟩) (Below.refl _ _) ?_
            simp only [Act.put, List.setIfInBounds_toArray, List.set_cons_zero, List.set_cons_succ]
            refine wpAnyH_ready (rs := [12]) (by kernel_rfl) (by simp) ?_
            refine AllReadyH.cons (o := { dst := some 118, op := Op.call { callee := Callee.value (Operand.func 11), args := #[Operand.tmp 117], argTypes := #[31] }, type := 28, pos := "more.go:51", after := #[{ on := 11, ground := Ground.data }, { on := 10, ground := Ground.chain }, { on := 10, ground := Ground.guard }], guard := some (10, false) }) rfl (fun K' hK' => ?_) AllReadyH.nil
            go_simp
            go_at_call 11
            refine (two_gets T8.out).mono ?_
            rintro E w9 ⟨A9, n9, c9, rfl, H9⟩
            have B9 : Hid (Below w8.heap.size w8 w9) := Lib.hid H9.out.2.2
            refine hK'.out _ _ B9.out (fun _ => wpAnyH_next B9.out ?_)
            clear hK' K'
            have HR9 : Hid (∀ W, Below w9.heap.size w9 W → Oct.Rd W A9 n9 c2) := Lib.hid fun W hb => H9.out.2.1.below hb
            clear H9
            refine wpAnyH_take (i := 13) (oi := { dst := some 119, op := Op.convert 28 9 (Operand.tmp 118), type := 9, pos := "more.go:51", after := #[{ on := 12, ground := Ground.data }, { on := 10, ground := Ground.guard }], guard := some (10, false) }) (v := .string S2) rfl (by kernel_rfl) (by kernel_rfl) (by kernel_rfl) (fun _ _ _ h => h) (Or.inl ⟨by kernel_rfl, fun W hSW => by have hrun := run_str c9 (HR9.out W hSW); rw [← HS2.out] at hrun; go_simp⟩) (Below.refl _ _) ?_
            simp only [Act.put, List.setIfInBounds_toArray, List.set_cons_zero, List.set_cons_succ]
            refine wpAnyH_take (i := 16) (oi := { dst := some 122, op := Op.binOp BinOp.neq 9 (Operand.tmp 119) (Operand.tmp 121) 9, type := 4, pos := "more.go:51", after := #[{ on := 13, ground := Ground.data }, { on := 15, ground := Ground.data }, { on := 10, ground := Ground.guard }], guard := some (10, false) }) (v := .bool false) rfl (by kernel_rfl) (by kernel_rfl) (by kernel_rfl) (fun _ _ _ h => h) (Or.inl ⟨by kernel_rfl, fun W hSW => by go_simp⟩) (Below.refl _ _) ?_
            simp only [Act.put, List.setIfInBounds_toArray, List.set_cons_zero, List.set_cons_succ]
            refine wpAnyH_take (i := 17) (oi := { dst := some 123, op := Op.pick (Operand.tmp 116) (Operand.const (Value.bool true)) (Operand.tmp 122), type := 4, pos := "more.go:51", after := #[{ on := 10, ground := Ground.data }, { on := 16, ground := Ground.data }], guard := none }) (v := .bool false) rfl (by kernel_rfl) (by kernel_rfl) (by kernel_rfl) (fun _ _ _ h => h) (Or.inl ⟨by kernel_rfl, fun W hSW => by go_simp⟩) (Below.refl _ _) ?_
            simp only [Act.put, List.setIfInBounds_toArray, List.set_cons_zero, List.set_cons_succ]
            have I9 : Hid (ApAt w d q g1 g2 m (k + 1) c1 c2 e1 e2 f1 f2 s5 w9) := Lib.hid (I6.out.next (B8.out.trans (B9.out.mono B8.out.size)))
            clear I6 B8 B9 HR8 HR9 T8 HQ HS1 HS2
            refine wpAnyH_done (by kernel_rfl) ?_ _
            go_wp2_with fail
            go_roundw
            case measure => simp [intOf]; omega
            case rel => exact ⟨k + 1, by omega, by go_num, c1, c2, e1, e2, f1, f2, s5, I9⟩
        · go_wp2_with (first
            | (refine wpList_load_mid rfl 43 (.tmp 66) rfl b (o + k * 5) rfl C5 _ HXC.out Try.underlying43 rfl (by rw [UC5.out]; exact Try.size43) ?_)
            | (refine wpList_store_all rfl 43 (.tmp 13) (.tmp 67) rfl wr.heap.size Z5 C5 43 (row_new wr Z5 43) (UZ5.out.trans UC5.out.symm) rfl rfl (by rw [UC5.out]; exact Try.size43) OC5.out ?_; intro w2 G2; have D2 := Lib.hid (HI.out.two.var G2.out); have q2 : w2.cell? ⟨wr.heap.size, 2, none⟩ = some (.slice x.adr l x.room) := block_cell G2.out.1 2 _ (by rw [HC5.out]; unfold Bsd.cells; first | rfl | (rw [hxo]; rfl) | (rw [hxs]; rfl) | (rw [HL.out]; rfl)))
            | (go_at_call 7; refine (HW.out _).mono ?_; rintro E wz ⟨rfl, hbz⟩))
          all_goals (go_ret; exact ⟨rfl, D2.out.dat.below.trans (hbz.mono D2.out.dat.below.size)⟩)
      · obtain rfl : k = n := by omega
        clear HX
        go_wp2_with fail
        refine (cell_open HI.out.two.dat HI.out.calm.1 (x := 0) (by omega) HI.out.one).mono ?_
        rintro E w4 ⟨g3, rfl, O4⟩
        go_wp2_with fail
        refine (two_open O4.out HI.out.calm.1 (x2 := 20 + (m : Int)) (by omega) HI.out.snd).mono ?_
        rintro E w5 ⟨g4, rfl, O5⟩
        clear O4
        go_wp2_with fail
        try simp only [Act.put, List.setIfInBounds_toArray, List.set_cons_zero, List.set_cons_succ]
        refine wp_region_any (by kernel_rfl) ?_
        change wpAny _ _ _ _ _ _ _ (w5.drewN 1)
        have T6 := Lib.hid (O5.out.next (W' := w5.drewN 1) ⟨rfl, rfl, rfl, Nat.le_refl _, fun _ _ => rfl⟩)
        clear O5
        generalize w5.drewN 1 = w6 at T6 ⊢
        obtain ⟨S1, hS1⟩ : ∃ S, S = Oct.str b1 := ⟨_, rfl⟩
        obtain ⟨S2, hS2⟩ : ∃ S, S = Oct.str b2 := ⟨_, rfl⟩
        have HS1 := Lib.hid hS1
        have HS2 := Lib.hid hS2
        have HQ : Hid (∀ W, Below w6.heap.size w6 W → W.heap[q]? = some (.cells [.string S1, .string S2].toArray 41 (0, 0))) := Lib.hid fun W hb => (hb.block _ (T6.out.dat.lt (q := q) (.head _))).trans (by rw [hS1, hS2]; exact T6.out.dat.get (q := q) (.head _))
        clear hS1 hS2 HI
        refine wpAny_of_held (S := fun W => Below w6.heap.size w6 W) _ _ _ _ ?_
        refine wpAnyH_take (i := 0) (oi := { dst := some 135, op := Op.move (Operand.tmp 8), type := 26, pos := "more.go:57", after := #[], guard := none }) (v := .int .i64 0) rfl (by kernel_rfl) (by kernel_rfl) (by kernel_rfl) (fun _ _ _ h => h) (Or.inl ⟨by kernel_rfl, fun W hSW => by go_simp⟩) (Below.refl _ _) ?_
        simp only [Act.put, List.setIfInBounds_toArray, List.set_cons_zero, List.set_cons_succ]
        refine wpAnyH_take (i := 1) (oi := { dst := some 136, op := Op.binOp BinOp.eql 26 (Operand.tmp 135) (Operand.const (Value.int IntKind.i64 0)) 26, type := 4, pos := "more.go:57", after := #[{ on := 0, ground := Ground.data }], guard := none }) (v := .bool true) rfl (by kernel_rfl) (by kernel_rfl) (by kernel_rfl) (fun _ _ _ h => h) (Or.inl ⟨by kernel_rfl, fun W hSW => by go_simp⟩) (Below.refl _ _) ?_
        simp only [Act.put, List.setIfInBounds_toArray, List.set_cons_zero, List.set_cons_succ]
        refine wpAnyH_take (i := 2) (oi := { dst := some 137, op := Op.move (Operand.tmp 136), type := 4, pos := "more.go:57", after := #[{ on := 1, ground := Ground.data }], guard := none }) (v := .bool true) rfl (by kernel_rfl) (by kernel_rfl) (by kernel_rfl) (fun _ _ _ h => h) (Or.inl ⟨by kernel_rfl, fun W hSW => by go_simp⟩) (Below.refl _ _) ?_
        simp only [Act.put, List.setIfInBounds_toArray, List.set_cons_zero, List.set_cons_succ]
        refine wpAnyH_take (i := 3) (oi := { dst := some 138, op := Op.move (Operand.tmp 10), type := 26, pos := "more.go:57", after := #[{ on := 2, ground := Ground.guard }], guard := some (2, true) }) (v := .int .i64 0) rfl (by kernel_rfl) (by kernel_rfl) (by kernel_rfl) (fun _ _ _ h => h) (Or.inl ⟨by kernel_rfl, fun W hSW => by go_simp⟩) (Below.refl _ _) ?_
        simp only [Act.put, List.setIfInBounds_toArray, List.set_cons_zero, List.set_cons_succ]
        refine wpAnyH_take (i := 4) (oi := { dst := some 139, op := Op.binOp BinOp.eql 26 (Operand.tmp 138) (Operand.const (Value.int IntKind.i64 0)) 26, type := 4, pos := "more.go:57", after := #[{ on := 3, ground := Ground.data }, { on := 2, ground := Ground.guard }], guard := some (2, true) }) (v := .bool true) rfl (by kernel_rfl) (by kernel_rfl) (by kernel_rfl) (fun _ _ _ h => h) (Or.inl ⟨by kernel_rfl, fun W hSW => by go_simp⟩) (Below.refl _ _) ?_
        simp only [Act.put, List.setIfInBounds_toArray, List.set_cons_zero, List.set_cons_succ]
        refine wpAnyH_take (i := 5) (oi := { dst := some 140, op := Op.pick (Operand.tmp 137) (Operand.tmp 139) (Operand.const (Value.bool false)), type := 4, pos := "more.go:57", after := #[{ on := 2, ground := Ground.data }, { on := 4, ground := Ground.data }], guard := none }) (v := .bool true) rfl (by kernel_rfl) (by kernel_rfl) (by kernel_rfl) (fun _ _ _ h => h) (Or.inl ⟨by kernel_rfl, fun W hSW => by go_simp⟩) (Below.refl _ _) ?_
        simp only [Act.put, List.setIfInBounds_toArray, List.set_cons_zero, List.set_cons_succ]
        refine wpAnyH_take (i := 6) (oi := { dst := some 141, op := Op.move (Operand.tmp 140), type := 4, pos := "more.go:57", after := #[{ on := 5, ground := Ground.data }, { on := 2, ground := Ground.chain }], guard := none }) (v := .bool true) rfl (by kernel_rfl) (by kernel_rfl) (by kernel_rfl) (fun _ _ _ h => h) (Or.inl ⟨by kernel_rfl, fun W hSW => by go_simp⟩) (Below.refl _ _) ?_
        simp only [Act.put, List.setIfInBounds_toArray, List.set_cons_zero, List.set_cons_succ]
        refine wpAnyH_take (i := 7) (oi := { dst := some 142, op := Op.move (Operand.tmp 7), type := 31, pos := "more.go:57", after := #[{ on := 6, ground := Ground.guard }], guard := some (6, true) }) (v := .pointer (some ⟨g3, 0, none⟩)) rfl (by kernel_rfl) (by kernel_rfl) (by kernel_rfl) (fun _ _ _ h => h) (Or.inl ⟨by kernel_rfl, fun W hSW => by go_simp⟩) (Below.refl _ _) ?_
        simp only [Act.put, List.setIfInBounds_toArray, List.set_cons_zero, List.set_cons_succ]
        refine wpAnyH_take (i := 8) (oi := { dst := some 143, op := Op.binOp BinOp.neq 31 (Operand.tmp 142) (Operand.const (Value.pointer none)) 31, type := 4, pos := "more.go:57", after := #[{ on := 7, ground := Ground.data }, { on := 6, ground := Ground.guard }], guard := some (6, true) }) (v := .bool true) rfl (by kernel_rfl) (by kernel_rfl) (by kernel_rfl) (fun _ _ _ h => h) (Or.inl ⟨by kernel_rfl, fun W hSW => by go_simp⟩) (Below.refl _ _) ?_
        simp only [Act.put, List.setIfInBounds_toArray, List.set_cons_zero, List.set_cons_succ]
        refine wpAnyH_take (i := 9) (oi := { dst := some 144, op := Op.pick (Operand.tmp 141) (Operand.tmp 143) (Operand.const (Value.bool false)), type := 4, pos := "more.go:57", after := #[{ on := 6, ground := Ground.data }, { on := 8, ground := Ground.data }], guard := none }) (v := .bool true) rfl (by kernel_rfl) (by kernel_rfl) (by kernel_rfl) (fun _ _ _ h => h) (Or.inl ⟨by kernel_rfl, fun W hSW => by go_simp⟩) (Below.refl _ _) ?_
        simp only [Act.put, List.setIfInBounds_toArray, List.set_cons_zero, List.set_cons_succ]
        refine wpAnyH_take (i := 10) (oi := { dst := some 145, op := Op.move (Operand.tmp 144), type := 4, pos := "more.go:57", after := #[{ on := 9, ground := Ground.data }, { on := 6, ground := Ground.chain }], guard := none }) (v := .bool true) rfl (by kernel_rfl) (by kernel_rfl) (by kernel_rfl) (fun _ _ _ h => h) (Or.inl ⟨by kernel_rfl, fun W hSW => by go_simp⟩) (Below.refl _ _) ?_
        simp only [Act.put, List.setIfInBounds_toArray, List.set_cons_zero, List.set_cons_succ]
        refine wpAnyH_take (i := 11) (oi := { dst := some 146, op := Op.move (Operand.tmp 9), type := 31, pos := "more.go:57", after := #[{ on := 10, ground := Ground.guard }], guard := some (10, true) }) (v := .pointer (some ⟨g4, 0, none⟩)) rfl (by kernel_rfl) (by kernel_rfl) (by kernel_rfl) (fun _ _ _ h => h) (Or.inl ⟨by kernel_rfl, fun W hSW => by go_simp⟩) (Below.refl _ _) ?_
        simp only [Act.put, List.setIfInBounds_toArray, List.set_cons_zero, List.set_cons_succ]
        refine wpAnyH_take (i := 12) (oi := { dst := some 147, op := Op.binOp BinOp.neq 31 (Operand.tmp 146) (Operand.const (Value.pointer none)) 31, type := 4, pos := "more.go:57", after := #[{ on := 11, ground := Ground.data }, { on := 10, ground := Ground.guard }], guard := some (10, true) }) (v := .bool true) rfl (by kernel_rfl) (by kernel_rfl) (by kernel_rfl) (fun _ _ _ h => h) (Or.inl ⟨by kernel_rfl, fun W hSW => by go_simp⟩) (Below.refl _ _) ?_
        simp only [Act.put, List.setIfInBounds_toArray, List.set_cons_zero, List.set_cons_succ]
        refine wpAnyH_take (i := 13) (oi := { dst := some 148, op := Op.pick (Operand.tmp 145) (Operand.tmp 147) (Operand.const (Value.bool false)), type := 4, pos := "more.go:57", after := #[{ on := 10, ground := Ground.data }, { on := 12, ground := Ground.data }], guard := none }) (v := .bool true) rfl (by kernel_rfl) (by kernel_rfl) (by kernel_rfl) (fun _ _ _ h => h) (Or.inl ⟨by kernel_rfl, fun W hSW => by go_simp⟩) (Below.refl _ _) ?_
        simp only [Act.put, List.setIfInBounds_toArray, List.set_cons_zero, List.set_cons_succ]
        refine wpAnyH_take (i := 14) (oi := { dst := some 149, op := Op.move (Operand.tmp 148), type := 4, pos := "more.go:57", after := #[{ on := 13, ground := Ground.data }, { on := 10, ground := Ground.chain }], guard := none }) (v := .bool true) rfl (by kernel_rfl) (by kernel_rfl) (by kernel_rfl) (fun _ _ _ h => h) (Or.inl ⟨by kernel_rfl, fun W hSW => by go_simp⟩) (Below.refl _ _) ?_
        simp only [Act.put, List.setIfInBounds_toArray, List.set_cons_zero, List.set_cons_succ]
        refine wpAnyH_take (i := 15) (oi := { dst := some 150, op := Op.move (Operand.tmp 7), type := 31, pos := "more.go:57", after := #[{ on := 14, ground := Ground.guard }], guard := some (14, true) }) (v := .pointer (some ⟨g3, 0, none⟩)) rfl (by kernel_rfl) (by kernel_rfl) (by kernel_rfl) (fun _ _ _ h => h) (Or.inl ⟨by kernel_rfl, fun W hSW => by go_simp⟩) (Below.refl _ _) ?_
        simp only [Act.put, List.setIfInBounds_toArray, List.set_cons_zero, List.set_cons_succ]
        refine wpAnyH_take (i := 18) (oi := { dst := some 153, op := Op.indexAddr 41 (Operand.tmp 11) (Operand.const (Value.int IntKind.i64 0)), type := 0, pos := "more.go:57", after := #[{ on := 14, ground := Ground.guard }], guard := some (14, true) }) (v := .pointer (some ⟨q, 0, none⟩)) rfl (by kernel_rfl) (by kernel_rfl) (by kernel_rfl) (fun _ _ _ h => h) (Or.inl ⟨by kernel_rfl, fun W hSW => by go_simp⟩) (Below.refl _ _) ?_
        simp only [Act.put, List.setIfInBounds_toArray, List.set_cons_zero, List.set_cons_succ]
        refine wpAnyH_take (i := 19) (oi := { dst := some 154, op := Op.load 9 (Operand.tmp 153), type := 9, pos := "more.go:57", after := #[{ on := 18, ground := Ground.data }, { on := 14, ground := Ground.guard }], guard := some (14, true) }) (v := .string S1) rfl (by kernel_rfl) (by kernel_rfl) (by kernel_rfl) (fun _ _ _ h => h) (Or.inl ⟨by kernel_rfl, fun W hSW => by have hcv : W.cell? ⟨q, 0, none⟩ = some (.string S1) := block_cell (HQ.out W hSW) 0 _ rfl; go_simp⟩) (Below.refl _ _) ?_
        simp only [Act.put, List.setIfInBounds_toArray, List.set_cons_zero, List.set_cons_succ]
        refine wpAnyH_ready (rs := [16]) (by kernel_rfl) (by simp) ?_
        refine AllReadyH.cons (o := { dst := some 151, op := Op.call { callee := Callee.value (Operand.func 11), args := #[Operand.tmp 150], argTypes := #[31] }, type := 28, pos := "more.go:57", after := #[{ on := 15, ground := Ground.data }, { on := 14, ground := Ground.chain }, { on := 14, ground := Ground.guard }], guard := some (14, true) }) rfl (fun K' hK' => ?_) AllReadyH.nil
        go_simp
        go_at_call 11
        refine (two_gets T6.out).mono ?_
        rintro E w8 ⟨A8, n8, c8, rfl, H8⟩
        have B8 : Hid (Below w6.heap.size w6 w8) := Lib.hid H8.out.2.2
        refine hK'.out _ _ B8.out (fun _ => wpAnyH_next B8.out ?_)
        clear hK' K'
        have HR8 : Hid (∀ W, Below w8.heap.size w8 W → Oct.Rd W A8 n8 b1) := Lib.hid fun W hb => H8.out.2.1.below hb
        have T8 := Lib.hid H8.out.1.swap
        clear H8 T6
        refine wpAnyH_take (i := 17) (oi := { dst := some 152, op := Op.convert 28 9 (Operand.tmp 151), type := 9, pos := "more.go:57", after := #[{ on := 16, ground := Ground.data }, { on := 14, ground := Ground.guard }], guard := some (14, true) }) (v := .string S1) rfl (by kernel_rfl) (by kernel_rfl) (by kernel_rfl) (fun _ _ _ h => h) (Or.inl ⟨by kernel_rfl, fun W hSW => by have hrun := run_str c8 (HR8.out W hSW); rw [← HS1.out] at hrun; go_simp⟩) (Below.refl _ _) ?_
        simp only [Act.put, List.setIfInBounds_toArray, List.set_cons_zero, List.set_cons_succ]
        refine wpAnyH_take (i := 20) (oi := { dst := some 155, op := Op.binOp BinOp.eql 9 (Operand.tmp 152) (Operand.tmp 154) 9, type := 4, pos := "more.go:57", after := #[{ on := 17, ground := Ground.data }, { on := 19, ground := Ground.data }, { on := 14, ground := Ground.guard }], guard := some (14, true) }) (v := .bool true) rfl (by kernel_rfl) (by kernel_rfl) (by kernel_rfl) (fun _ _ _ h => h) (Or.inl ⟨by kernel_rfl, fun W hSW => by go_simp⟩) (Below.refl _ _) ?_
        simp only [Act.put, List.setIfInBounds_toArray, List.set_cons_zero, List.set_cons_succ]
        refine wpAnyH_take (i := 21) (oi := { dst := some 156, op := Op.pick (Operand.tmp 149) (Operand.tmp 155) (Operand.const (Value.bool false)), type := 4, pos := "more.go:57", after := #[{ on := 14, ground := Ground.data }, { on := 20, ground := Ground.data }], guard := none }) (v := .bool true) rfl (by kernel_rfl) (by kernel_rfl) (by kernel_rfl) (fun _ _ _ h => h) (Or.inl ⟨by kernel_rfl, fun W hSW => by go_simp⟩) (Below.refl _ _) ?_
        simp only [Act.put, List.setIfInBounds_toArray, List.set_cons_zero, List.set_cons_succ]
        refine wpAnyH_take (i := 22) (oi := { dst := some 157, op := Op.move (Operand.tmp 156), type := 4, pos := "more.go:57", after := #[{ on := 21, ground := Ground.data }, { on := 16, ground := Ground.chain }], guard := none }) (v := .bool true) rfl (by kernel_rfl) (by kernel_rfl) (by kernel_rfl) (fun _ _ _ h => h) (Or.inl ⟨by kernel_rfl, fun W hSW => by go_simp⟩) (Below.refl _ _) ?_
        simp only [Act.put, List.setIfInBounds_toArray, List.set_cons_zero, List.set_cons_succ]
        refine wpAnyH_take (i := 23) (oi := { dst := some 158, op := Op.move (Operand.tmp 9), type := 31, pos := "more.go:57", after := #[{ on := 22, ground := Ground.guard }], guard := some (22, true) }) (v := .pointer (some ⟨g4, 0, none⟩)) rfl (by kernel_rfl) (by kernel_rfl) (by kernel_rfl) (fun _ _ _ h => h) (Or.inl ⟨by kernel_rfl, fun W hSW => by go_simp⟩) (Below.refl _ _) ?_
        simp only [Act.put, List.setIfInBounds_toArray, List.set_cons_zero, List.set_cons_succ]
        refine wpAnyH_take (i := 26) (oi := { dst := some 161, op := Op.indexAddr 41 (Operand.tmp 11) (Operand.const (Value.int IntKind.i64 1)), type := 0, pos := "more.go:57", after := #[{ on := 22, ground := Ground.guard }], guard := some (22, true) }) (v := .pointer (some ⟨q, 1, none⟩)) rfl (by kernel_rfl) (by kernel_rfl) (by kernel_rfl) (fun _ _ _ h => h) (Or.inl ⟨by kernel_rfl, fun W hSW => by go_simp⟩) (Below.refl _ _) ?_
        simp only [Act.put, List.setIfInBounds_toArray, List.set_cons_zero, List.set_cons_succ]
        refine wpAnyH_take (i := 27) (oi := { dst := some 162, op := Op.load 9 (Operand.tmp 161), type := 9, pos := "more.go:57", after := #[{ on := 26, ground := Ground.data }, { on := 22, ground := Ground.guard }], guard := some (22, true) }) (v := .string S2) rfl (by kernel_rfl) (by kernel_rfl) (by kernel_rfl) (fun _ _ _ h => h) (Or.inl ⟨by kernel_rfl, fun W hSW => by have hcv : W.cell? ⟨q, 1, none⟩ = some (.string S2) := block_cell (HQ.out W (B8.out.trans (hSW.mono B8.out.size))) 1 _ rfl; go_simp⟩) (Below.refl _ _) ?_
        simp only [Act.put, List.setIfInBounds_toArray, List.set_cons_zero, List.set_cons_succ]
        refine wpAnyH_ready (rs := [24]) (by kernel_rfl) (by simp) ?_
        refine AllReadyH.cons (o := { dst := some 159, op := Op.call { callee := Callee.value (Operand.func 11), args := #[Operand.tmp 158], argTypes := #[31] }, type := 28, pos := "more.go:57", after := #[{ on := 23, ground := Ground.data }, { on := 22, ground := Ground.chain }, { on := 22, ground := Ground.guard }], guard := some (22, true) }) rfl (fun K' hK' => ?_) AllReadyH.nil
        go_simp
        go_at_call 11
        refine (two_gets T8.out).mono ?_
        rintro E w9 ⟨A9, n9, c9, rfl, H9⟩
        have B9 : Hid (Below w8.heap.size w8 w9) := Lib.hid H9.out.2.2
        refine hK'.out _ _ B9.out (fun _ => wpAnyH_next B9.out ?_)
        clear hK' K'
        have HR9 : Hid (∀ W, Below w9.heap.size w9 W → Oct.Rd W A9 n9 b2) := Lib.hid fun W hb => H9.out.2.1.below hb
        have B10 : Hid (Below w.heap.size w w9) := Lib.hid H9.out.1.dat.below
        clear H9 T8
        refine wpAnyH_take (i := 25) (oi := { dst := some 160, op := Op.convert 28 9 (Operand.tmp 159), type := 9, pos := "more.go:57", after := #[{ on := 24, ground := Ground.data }, { on := 22, ground := Ground.guard }], guard := some (22, true) }) (v := .string S2) rfl (by kernel_rfl) (by kernel_rfl) (by kernel_rfl) (fun _ _ _ h => h) (Or.inl ⟨by kernel_rfl, fun W hSW => by have hrun := run_str c9 (HR9.out W hSW); rw [← HS2.out] at hrun; go_simp⟩) (Below.refl _ _) ?_
        simp only [Act.put, List.setIfInBounds_toArray, List.set_cons_zero, List.set_cons_succ]
        refine wpAnyH_take (i := 28) (oi := { dst := some 163, op := Op.binOp BinOp.eql 9 (Operand.tmp 160) (Operand.tmp 162) 9, type := 4, pos := "more.go:57", after := #[{ on := 25, ground := Ground.data }, { on := 27, ground := Ground.data }, { on := 22, ground := Ground.guard }], guard := some (22, true) }) (v := .bool true) rfl (by kernel_rfl) (by kernel_rfl) (by kernel_rfl) (fun _ _ _ h => h) (Or.inl ⟨by kernel_rfl, fun W hSW => by go_simp⟩) (Below.refl _ _) ?_
        simp only [Act.put, List.setIfInBounds_toArray, List.set_cons_zero, List.set_cons_succ]
        refine wpAnyH_take (i := 29) (oi := { dst := some 164, op := Op.pick (Operand.tmp 157) (Operand.tmp 163) (Operand.const (Value.bool false)), type := 4, pos := "more.go:57", after := #[{ on := 22, ground := Ground.data }, { on := 28, ground := Ground.data }], guard := none }) (v := .bool true) rfl (by kernel_rfl) (by kernel_rfl) (by kernel_rfl) (fun _ _ _ h => h) (Or.inl ⟨by kernel_rfl, fun W hSW => by go_simp⟩) (Below.refl _ _) ?_
        simp only [Act.put, List.setIfInBounds_toArray, List.set_cons_zero, List.set_cons_succ]
        refine wpAnyH_take (i := 30) (oi := { dst := some 165, op := Op.move (Operand.tmp 164), type := 4, pos := "more.go:57", after := #[{ on := 29, ground := Ground.data }, { on := 24, ground := Ground.chain }], guard := none }) (v := .bool true) rfl (by kernel_rfl) (by kernel_rfl) (by kernel_rfl) (fun _ _ _ h => h) (Or.inl ⟨by kernel_rfl, fun W hSW => by go_simp⟩) (Below.refl _ _) ?_
        simp only [Act.put, List.setIfInBounds_toArray, List.set_cons_zero, List.set_cons_succ]
        refine wpAnyH_ready (rs := [31]) (by kernel_rfl) (by simp) ?_
        refine AllReadyH.cons (o := { dst := some 166, op := Op.call { callee := Callee.value (Operand.func 7), args := #[], argTypes := #[] }, type := 4, pos := "more.go:57", after := #[{ on := 30, ground := Ground.chain }, { on := 30, ground := Ground.guard }], guard := some (30, true) }) rfl (fun K' hK' => ?_) AllReadyH.nil
        go_simp
        go_at_call 7
        refine (HW.out _).mono ?_
        rintro E wz ⟨rfl, hbz⟩
        have BZ := Lib.hid hbz
        refine hK'.out _ _ BZ.out (fun _ => wpAnyH_next BZ.out ?_)
        clear hK' K'
        refine wpAnyH_take (i := 32) (oi := { dst := some 167, op := Op.pick (Operand.tmp 165) (Operand.tmp 166) (Operand.const (Value.bool false)), type := 4, pos := "more.go:57", after := #[{ on := 30, ground := Ground.data }, { on := 31, ground := Ground.data }], guard := none }) (v := .bool true) rfl (by kernel_rfl) (by kernel_rfl) (by kernel_rfl) (fun _ _ _ h => h) (Or.inl ⟨by kernel_rfl, fun W hSW => by go_simp⟩) (Below.refl _ _) ?_
        simp only [Act.put, List.setIfInBounds_toArray, List.set_cons_zero, List.set_cons_succ]
        refine wpAnyH_take (i := 33) (oi := { dst := some 4, op := Op.assign (Operand.tmp 167), type := 4, pos := "more.go:57", after := #[{ on := 32, ground := Ground.data }, { on := 31, ground := Ground.chain }, { on := 0, ground := Ground.phase }, { on := 1, ground := Ground.phase }, { on := 2, ground := Ground.phase }, { on := 3, ground := Ground.phase }, { on := 4, ground := Ground.phase }, { on := 5, ground := Ground.phase }, { on := 6, ground := Ground.phase }, { on := 7, ground := Ground.phase }, { on := 8, ground := Ground.phase }, { on := 9, ground := Ground.phase }, { on := 10, ground := Ground.phase }, { on := 11, ground := Ground.phase }, { on := 12, ground := Ground.phase }, { on := 13, ground := Ground.phase }, { on := 14, ground := Ground.phase }, { on := 15, ground := Ground.phase }, { on := 16, ground := Ground.phase }, { on := 17, ground := Ground.phase }, { on := 18, ground := Ground.phase }, { on := 19, ground := Ground.phase }, { on := 20, ground := Ground.phase }, { on := 21, ground := Ground.phase }, { on := 22, ground := Ground.phase }, { on := 23, ground := Ground.phase }, { on := 24, ground := Ground.phase }, { on := 25, ground := Ground.phase }, { on := 26, ground := Ground.phase }, { on := 27, ground := Ground.phase }, { on := 28, ground := Ground.phase }, { on := 29, ground := Ground.phase }, { on := 30, ground := Ground.phase }, { on := 31, ground := Ground.phase }, { on := 32, ground := Ground.phase }], guard := none }) (v := .bool true) rfl (by kernel_rfl) (by kernel_rfl) (by kernel_rfl) (fun _ _ _ h => h) (Or.inl ⟨by kernel_rfl, fun W hSW => by go_simp⟩) (Below.refl _ _) ?_
        simp only [Act.put, List.setIfInBounds_toArray, List.set_cons_zero, List.set_cons_succ]
        refine wpAnyH_done (by kernel_rfl) ?_ _
        go_wp2_with fail
        go_ret
        exact ⟨rfl, B10.out.trans (BZ.out.mono B10.out.size)⟩
  · have hd : decide (40 < (n : Int)) = true := by simp; omega
    go_enter Try.func5, Try.ntmps5
    go_wp2_with (first | (go_at_call 7; refine (HW.out _).mono ?_; rintro E wz ⟨rfl, hb⟩))
    go_ret
    exact ⟨rfl, hb⟩
end Go.Proofs.Ytiphfeefbiiolaa
