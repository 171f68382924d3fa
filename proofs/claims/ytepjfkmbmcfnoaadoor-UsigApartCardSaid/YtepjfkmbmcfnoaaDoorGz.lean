/-
  What is proved: the walk of UsigApart for whatever comes in. Conditions as stated.
-/
import Derived.Test.YtepjfkmbmcfnoaaDoorGy
namespace Go.Proofs.YtepjfkmbmcfnoaaDoor
open Go.RowKit
set_option maxRecDepth 100000

/-- How many each one gave. -/
def manyOf (ca cb : Nat) : Obj := .cells #[.int .u64 (ca : Int), .int .u64 (cb : Int)] 55 (0, 0)
/-- Behind k turns. -/
structure TuAt (w : World) (d q ua ub ga gb k ca cb : Nat) (bA bB : List UInt8) (aA aB nA nB : Nat) (s : Dk) (W : World) : Prop where
  two : TwoAt w d (40 + 10 * k) s [(q, manyOf ca cb), (ua, usOf ga 1), (ub, usOf gb 2)] 0 ga bA (aA : Int) 20 gb bB (aB : Int) W
  calm : Calm s
  one : CellIs s 0 aA nA bA (2 + k)
  snd : CellIs s 20 aB nB bB (2 + k)
  nA : sealN bA = ca
  nB : sealN bB = cb
  le : ca ≤ k ∧ cb ≤ k

set_option maxHeartbeats 40000000 in
theorem usigApart_by (w : World) (HK : Hid (Sh.KIs w)) (h0 : 0 < w.heap.size) (HW : Hid (∀ W', Below w.heap.size w W' → Calls Tryd.prog 9 #[] W' fun E w' => E = .returned (.bool true) ∧ Below W'.heap.size W' w')) (A : Option Addr) (n c : Nat) (xs : List Trn) (hx : Trns w A n xs) (hs : Sl A n c) :
    Calls Tryd.prog 7 #[.slice A n c] w fun E w' => E = .returned (.bool true) ∧ Below w.heap.size w w' := by
  have HX := Lib.hid hx
  have HR0 := Lib.hid (Below.refl w.heap.size w)
  have hsc := hs.2
  clear hx hs
  by_cases hn : n ≤ 40
  · obtain ⟨Z, hZ⟩ : ∃ Z, Z = u8s noTag := ⟨_, rfl⟩
    have hz : ∀ w, (zeroValue 36).run Tryd.prog w = .ok (.agg Z.toArray) w := by rw [hZ]; exact zero_tag
    have HIZ : Hid ((Tryd.prog.info? 36).map (·.size) = some Z.length) := Lib.hid (by rw [hZ]; exact tag_info rfl)
    have HLZ : Hid (∀ T : List UInt8, T.length = 32 → Z.length = (u8s T).length) := Lib.hid fun T hT => by rw [hZ, u8s_length, u8s_length, hT]; rfl
    clear hZ
    go_enter Tryd.func7, Tryd.ntmps7
    go_wp2_with fail
    refine (dat_new (Below.refl _ w)).mono ?_
    rintro E w1 ⟨d, rfl, h1, -⟩
    have D1 := Lib.hid h1
    clear h1
    go_wp2_with fail
    refine (us_format D1.out new_calm (by omega) (x := 0) (by omega)).mono ?_
    rintro E w2 ⟨rfl, s2, H2⟩
    clear D1
    go_wp2_with fail
    refine (us_format H2.out.1 H2.out.2.1 (by omega) (x := 20) (by omega)).mono ?_
    rintro E w3 ⟨rfl, s3, H3⟩
    have HC3 : Hid (Calm s3 ∧ CellIs s3 0 0 2 [] 2 ∧ CellIs s3 20 0 2 [] 2) := Lib.hid ⟨H3.out.2.1, H2.out.2.2.2.1.congr (fun i hi => by rw [H3.out.2.2.2.2 _ (by omega), if_neg (by omega), if_neg (by omega)]) (Nat.le_refl _) (by omega), H3.out.2.2.2.1⟩
    clear H2
    go_wp2_with fail
    refine (us_new (bs := []) 1 rfl rfl HK.out h0 (cell_open H3.out.1 HC3.out.1.1 (x := 0) (by omega) HC3.out.2.1)).mono ?_
    rintro E w4 ⟨ua, ga, rfl, O4⟩
    clear H3
    go_wp2_with fail
    refine (two_new O4.out (b2 := []) rfl HK.out h0 HC3.out.1.1 (x2 := 20) (by omega) HC3.out.2.2).mono ?_
    rintro E w5 ⟨ub, gb, rfl, O5⟩
    clear O4
    go_wp2_with fail
    have HNQ : Hid (ua ≠ w5.heap.size ∧ ub ≠ w5.heap.size) := Lib.hid ⟨by have := O5.out.dat.lt (q := ua) (.head _); omega, by have := O5.out.dat.lt (q := ub) (.tail _ (.head _)); omega⟩
    have O6 : Hid (TuAt w d w5.heap.size ua ub ga gb 0 0 0 [] [] 0 0 2 2 s3 (w5.alloc (.cells #[.int .u64 0, .int .u64 0] 55))) := Lib.hid ⟨O5.out.lit (manyOf 0 0), HC3.out.1, HC3.out.2.1, HC3.out.2.2, rfl, rfl, ⟨Nat.le_refl _, Nat.le_refl _⟩⟩
    generalize w5.heap.size = q at HNQ O6 ⊢
    clear O5 HC3
    go_loopw [9] (fun v9 wr => ∃ k : Nat, k ≤ n ∧ v9 = .int .i64 (k : Int) ∧ ∃ ca cb bA bB aA aB nA nB s, Hid (TuAt w d q ua ub ga gb k ca cb bA bB aA aB nA nB s wr)) (fun v9 _ => n - (intOf v9).toNat)
    case atStart => exact ⟨0, by omega, rfl, 0, 0, [], [], 0, 0, 2, 2, s3, O6⟩
    case round =>
      clear O6 HR0
      obtain ⟨k, hkn, rfl, ca, cb, bA, bB, aA, aB, nA, nB, s, HD⟩ := hrel
      by_cases hkk : k < n
      · obtain ⟨b, o, rfl, hb0, hc⟩ := HX.out.2 (by omega)
        obtain ⟨x, hq⟩ : ∃ x, xs[k]? = some x := ⟨_, List.getElem?_eq_getElem (by rw [HX.out.1]; exact hkk)⟩
        obtain ⟨hcx, hrb, hsb⟩ := hc k x hq
        have HCS : Hid (∀ W, Below w.heap.size w W → W.cell? ⟨b, o + k * 2, none⟩ = some (.bool x.snd)) := Lib.hid fun W hb => (hb.cell (p := ⟨b, o + k * 2, none⟩) hb0).trans (hcx 0 _ rfl)
        have HCB : Hid (∀ W, Below w.heap.size w W → W.cell? ⟨b, o + k * 2 + 1, none⟩ = some (.slice x.adr x.bs.length x.room)) := Lib.hid fun W hb => (hb.cell (p := ⟨b, o + k * 2 + 1, none⟩) hb0).trans (hcx 1 _ rfl)
        have HRB : Hid (∀ W, Below w.heap.size w W → Oct.Rd W x.adr x.bs.length x.bs) := Lib.hid fun W hb => rd_oct hrb hb
        have HSB : Hid (Oct.Sl x.adr x.bs.length x.room) := Lib.hid hsb
        clear hc hq hcx hrb hsb
        have cs := HCS.out _ HD.out.two.dat.below
        have cb' := HCB.out _ HD.out.two.dat.below
        obtain ⟨m, hm⟩ : ∃ m, m = x.bs.length := ⟨_, rfl⟩
        have HM := Lib.hid hm
        rw [← hm] at HCB HRB HSB cb'
        clear hm
        by_cases hok : m ≤ 1024
        · have hle := HD.out.le
          cases hsnd : x.snd with
          | false =>
            rw [hsnd] at cs
            clear hsnd HCS
            go_wp2_with fail
            refine (two_next HD.out.two 1 (.tail _ (.head _)) HK.out h0 HD.out.calm (by omega) (by omega) HD.out.one (by omega) HRB.out HSB.out hok HM.out.symm ca HD.out.nA (by omega)).mono ?_
            rintro E w7 ⟨rfl, s7, H7⟩
            have hT := Sh.numTag_length 1 (ca + 1) x.bs
            have HCK := Lib.hid (fun (W : World) (hb : Below w.heap.size w W) (r : Int) (y : Nat) => by have h1 := HRB.out W hb; have h2 := HSB.out; rw [HM.out] at h1 h2; exact check_us r y (t := Sh.numTag 1 (ca + 1) x.bs) h1 h2 (by have := HM.out; omega) hT (HK.out.below hb h0) (Nat.lt_of_lt_of_le h0 hb.size))
            have HCA : Hid (chk 1 (ca + 1) x.bs (Sh.numTag 1 (ca + 1) x.bs) = true ∧ chk 0 (ca + 1) x.bs (Sh.numTag 1 (ca + 1) x.bs) = false ∧ chk 1 0 x.bs (Sh.numTag 1 (ca + 1) x.bs) = false) := Lib.hid (by have := HM.out; refine ⟨?_, ?_, ?_⟩ <;> simp [chk, isRep, mayN] <;> omega)
            have HZT := Lib.hid (HLZ.out _ hT)
            generalize Sh.numTag 1 (ca + 1) x.bs = T at hT HZT HCK HCA ⊢
            have HIT : Hid ((Tryd.prog.info? 36).map (·.size) = some (u8s T).length) := Lib.hid (tag_info hT)
            have HOT : Hid (∀ v ∈ u8s T, v.oneCell' = true) := Lib.hid (u8s_one _)
            have HC1 : Hid (∀ W, Below w.heap.size w W → Calls Tryd.prog 14 #[.int .i64 1, .int .u64 ((ca + 1 : Nat) : Int), .slice x.adr m x.room, .agg (u8s T).toArray] W fun E w' => E = .returned (.bool true) ∧ Hid (Below W.heap.size W w')) := Lib.hid fun W hb => by have := HCK.out W hb 1 (ca + 1); rw [HCA.out.1, ← HM.out] at this; exact this
            have HC2 : Hid (∀ W, Below w.heap.size w W → Calls Tryd.prog 14 #[.int .i64 0, .int .u64 ((ca + 1 : Nat) : Int), .slice x.adr m x.room, .agg (u8s T).toArray] W fun E w' => E = .returned (.bool false) ∧ Hid (Below W.heap.size W w')) := Lib.hid fun W hb => by have := HCK.out W hb 0 (ca + 1); rw [HCA.out.2.1, ← HM.out] at this; exact this
            have HC3 : Hid (∀ W, Below w.heap.size w W → Calls Tryd.prog 14 #[.int .i64 1, .int .u64 0, .slice x.adr m x.room, .agg (u8s T).toArray] W fun E w' => E = .returned (.bool false) ∧ Hid (Below W.heap.size W w')) := Lib.hid fun W hb => by have := HCK.out W hb 1 0; rw [HCA.out.2.2, ← HM.out] at this; exact this
            have T7 := Lib.hid (H7.out.1.lit (.cells Z.toArray 36 (0, 0)))
            have hq7 : q < w7.heap.size := H7.out.1.dat.lt (q := q) (.head _)
            have hL7 : Hid (∀ p ∈ [(q, manyOf ca cb), (ua, usOf ga 1), (ub, usOf gb 2)], p.1 ≠ w7.heap.size) := Lib.hid fun p hp => by have := H7.out.1.dat.lt (q := p.1) (o := p.2) hp; omega
            have HA7 : Hid ((w7.alloc (.cells Z.toArray 36)).heap[w7.heap.size]? = some (.cells Z.toArray 36 (0, 0))) := Lib.hid (row_new _ _ _)
            have HO7 : Hid (CellIs s7 20 aB nB bB (2 + (k + 1))) := Lib.hid (HD.out.snd.congr (fun i hi => H7.out.2.2.2 _ (by omega) (by omega)) (by omega) (by omega))
            have HB7 : Hid (Calm s7) := Lib.hid H7.out.2.1
            have HI7 := Lib.hid H7.out.2.2.1
            have hwr : IntKind.u64.wrap ((ca : Int) + 1) = ((ca + 1 : Nat) : Int) := by rw [IntKind.wrap_u64]; omega
            have HQ7 := Lib.hid hq7
            have HLE := Lib.hid hle
            have HNN : Hid (sealN bA = ca ∧ sealN bB = cb) := Lib.hid ⟨HD.out.nA, HD.out.nB⟩
            unfold tagV
            clear hT cs cb' HCK HCA hq7 hle HD
            go_wp2_with (first
              | (refine wpList_store_all rfl 36 (.tmp 13) (.tmp 88) rfl w7.heap.size Z (u8s T) 36 HA7.out HZT.out rfl rfl HIT.out HOT.out ?_; intro w8 G8; have T8 := Lib.hid (T7.out.upd hL7.out G8.out.1 G8.out.2); have hq8 := T8.out.dat.get (q := q) (o := manyOf ca cb) (.tail _ (.head _)); have c0 : w8.cell? ⟨q, 0, none⟩ = some (.int .u64 (ca : Int)) := block_cell (C := [.int .u64 (ca : Int), .int .u64 (cb : Int)]) hq8 0 _ rfl; have c1 : w8.cell? ⟨q, 1, none⟩ = some (.int .u64 (cb : Int)) := block_cell (C := [.int .u64 (ca : Int), .int .u64 (cb : Int)]) hq8 1 _ rfl; have f0 : w8.frozen? ⟨q, 0, none⟩ = false := free_block (C := #[.int .u64 (ca : Int), .int .u64 (cb : Int)]) hq8 0; have HQ8 := Lib.hid hq8; clear hq8))
            have T9 : Hid (TwoAt w d (40 + 10 * k + 10) s7 ((q, manyOf (ca + 1) cb) :: [(w7.heap.size, Obj.cells (u8s T).toArray 36 (0, 0)), (ua, usOf ga 1), (ub, usOf gb 2)]) 0 ga (Oct.be 8 (ca + 1) ++ x.bs) ((1 - aA : Nat) : Int) 20 gb bB (aB : Int) (w8.setCell ⟨q, 0, none⟩ (.int .u64 ((ca : Int) + 1)))) := Lib.hid ((T8.out.sub (L' := (q, manyOf ca cb) :: [(w7.heap.size, Obj.cells (u8s T).toArray 36 (0, 0)), (ua, usOf ga 1), (ub, usOf gb 2)]) (fun p hp => by simp only [List.mem_cons, List.not_mem_nil, or_false] at hp ⊢; rcases hp with rfl | rfl | rfl | rfl <;> simp)).upd (fun p hp => by
              simp only [List.mem_cons, List.not_mem_nil, or_false] at hp
              rcases hp with rfl | rfl | rfl
              · have := HQ7.out; simp only; omega
              · exact HNQ.out.1
              · exact HNQ.out.2) (heap_set (C := [.int .u64 (ca : Int), .int .u64 (cb : Int)]) (k := 0) HQ8.out _) (Oct.grownBy_set _ _ _ _))
            clear T8 T7 hL7 HA7 G8 c0 c1 f0 HQ8 H7 hwr
            generalize w8.setCell ⟨q, 0, none⟩ (.int .u64 ((ca : Int) + 1)) = w9 at T9 ⊢
            try simp only [Act.put]
            refine wp_region_any (by kernel_rfl) ?_
            change wpAny _ _ _ _ _ _ _ (w9.drewN 1)
            have TQ := Lib.hid (T9.out.next (W' := w9.drewN 1) ⟨rfl, rfl, rfl, Nat.le_refl _, fun _ _ => rfl⟩)
            clear T9
            generalize w9.drewN 1 = w10 at TQ ⊢
            have HSX : Hid (∀ W, Below w10.heap.size w10 W → Below w.heap.size w W) := Lib.hid fun W hb => TQ.out.dat.below.trans (hb.mono TQ.out.dat.below.size)
            have HTG : Hid (w10.heap[w7.heap.size]? = some (.cells (u8s T).toArray 36 (0, 0)) ∧ w7.heap.size < w10.heap.size) := Lib.hid ⟨TQ.out.dat.get (.tail _ (.head _)), TQ.out.dat.lt (q := w7.heap.size) (.tail _ (.head _))⟩
            have HMQ : Hid (∀ W, Below w10.heap.size w10 W → W.cell? ⟨q, 0, none⟩ = some (.int .u64 ((ca + 1 : Nat) : Int))) := Lib.hid fun W hb => block_cell (C := [.int .u64 ((ca + 1 : Nat) : Int), .int .u64 ((cb : Nat) : Int)]) ((TQ.out.next hb).dat.get (q := q) (o := manyOf (ca + 1) cb) (.head _)) 0 _ rfl
            have hk1 : IntKind.i64.wrap 1 = 1 := by decide
            have hk2 : IntKind.i64.wrap 2 = 2 := by decide
            refine wpAny_of_held (S := fun W => Below w10.heap.size w10 W) _ _ _ _ ?_
            refine wpAnyH_take (i := 0) (oi := { dst := some 95, op := Op.move (Operand.tmp 14), type := 26, pos := "more.go:44", after := #[], guard := none }) (v := .int .i64 0) rfl (by kernel_rfl) (by kernel_rfl) (by kernel_rfl) (fun _ _ _ h => h) (Or.inl ⟨by kernel_rfl, fun W hSW => by go_simp⟩) (Below.refl _ _) ?_
            try simp only [Act.put, List.setIfInBounds_toArray, List.set_cons_zero, List.set_cons_succ]
            refine wpAnyH_take (i := 1) (oi := { dst := some 96, op := Op.binOp BinOp.neq 26 (Operand.tmp 95) (Operand.const (Value.int IntKind.i64 0)) 26, type := 4, pos := "more.go:44", after := #[{ on := 0, ground := Ground.data }], guard := none }) (v := .bool false) rfl (by kernel_rfl) (by kernel_rfl) (by kernel_rfl) (fun _ _ _ h => h) (Or.inl ⟨by kernel_rfl, fun W hSW => by go_simp⟩) (Below.refl _ _) ?_
            try simp only [Act.put, List.setIfInBounds_toArray, List.set_cons_zero, List.set_cons_succ]
            refine wpAnyH_take (i := 2) (oi := { dst := some 97, op := Op.move (Operand.tmp 96), type := 4, pos := "more.go:44", after := #[{ on := 1, ground := Ground.data }], guard := none }) (v := .bool false) rfl (by kernel_rfl) (by kernel_rfl) (by kernel_rfl) (fun _ _ _ h => h) (Or.inl ⟨by kernel_rfl, fun W hSW => by go_simp⟩) (Below.refl _ _) ?_
            try simp only [Act.put, List.setIfInBounds_toArray, List.set_cons_zero, List.set_cons_succ]
            refine wpAnyH_take (i := 3) (oi := { dst := some 98, op := Op.move (Operand.tmp 12), type := 35, pos := "more.go:44", after := #[{ on := 2, ground := Ground.guard }], guard := some (2, false) }) (v := .int .u64 ((ca + 1 : Nat) : Int)) rfl (by kernel_rfl) (by kernel_rfl) (by kernel_rfl) (fun _ _ _ h => h) (Or.inl ⟨by kernel_rfl, fun W hSW => by go_simp⟩) (Below.refl _ _) ?_
            try simp only [Act.put, List.setIfInBounds_toArray, List.set_cons_zero, List.set_cons_succ]
            refine wpAnyH_take (i := 4) (oi := { dst := some 99, op := Op.move (Operand.tmp 11), type := 3, pos := "more.go:44", after := #[{ on := 2, ground := Ground.guard }], guard := some (2, false) }) (v := .int .i64 0) rfl (by kernel_rfl) (by kernel_rfl) (by kernel_rfl) (fun _ _ _ h => h) (Or.inl ⟨by kernel_rfl, fun W hSW => by go_simp⟩) (Below.refl _ _) ?_
            try simp only [Act.put, List.setIfInBounds_toArray, List.set_cons_zero, List.set_cons_succ]
            refine wpAnyH_take (i := 5) (oi := { dst := some 100, op := Op.indexAddr 55 (Operand.tmp 8) (Operand.tmp 99), type := 0, pos := "more.go:44", after := #[{ on := 4, ground := Ground.data }, { on := 2, ground := Ground.guard }], guard := some (2, false) }) (v := .pointer (some ⟨q, 0, none⟩)) rfl (by kernel_rfl) (by kernel_rfl) (by kernel_rfl) (fun _ _ _ h => h) (Or.inl ⟨by kernel_rfl, fun W hSW => by go_simp⟩) (Below.refl _ _) ?_
            try simp only [Act.put, List.setIfInBounds_toArray, List.set_cons_zero, List.set_cons_succ]
            refine wpAnyH_take (i := 6) (oi := { dst := some 101, op := Op.load 35 (Operand.tmp 100), type := 35, pos := "more.go:44", after := #[{ on := 5, ground := Ground.data }, { on := 2, ground := Ground.guard }], guard := some (2, false) }) (v := .int .u64 ((ca + 1 : Nat) : Int)) rfl (by kernel_rfl) (by kernel_rfl) (by kernel_rfl) (fun _ _ _ h => h) (Or.inl ⟨by kernel_rfl, fun W hSW => by have hcq := HMQ.out W hSW; go_simp⟩) (Below.refl _ _) ?_
            try simp only [Act.put, List.setIfInBounds_toArray, List.set_cons_zero, List.set_cons_succ]
            refine wpAnyH_take (i := 7) (oi := { dst := some 102, op := Op.binOp BinOp.neq 35 (Operand.tmp 98) (Operand.tmp 101) 35, type := 4, pos := "more.go:44", after := #[{ on := 3, ground := Ground.data }, { on := 6, ground := Ground.data }, { on := 2, ground := Ground.guard }], guard := some (2, false) }) (v := .bool false) rfl (by kernel_rfl) (by kernel_rfl) (by kernel_rfl) (fun _ _ _ h => h) (Or.inl ⟨by kernel_rfl, fun W hSW => by go_simp⟩) (Below.refl _ _) ?_
            try simp only [Act.put, List.setIfInBounds_toArray, List.set_cons_zero, List.set_cons_succ]
            refine wpAnyH_take (i := 8) (oi := { dst := some 103, op := Op.pick (Operand.tmp 97) (Operand.const (Value.bool true)) (Operand.tmp 102), type := 4, pos := "more.go:44", after := #[{ on := 2, ground := Ground.data }, { on := 7, ground := Ground.data }], guard := none }) (v := .bool false) rfl (by kernel_rfl) (by kernel_rfl) (by kernel_rfl) (fun _ _ _ h => h) (Or.inl ⟨by kernel_rfl, fun W hSW => by go_simp⟩) (Below.refl _ _) ?_
            try simp only [Act.put, List.setIfInBounds_toArray, List.set_cons_zero, List.set_cons_succ]
            refine wpAnyH_take (i := 9) (oi := { dst := some 104, op := Op.move (Operand.tmp 103), type := 4, pos := "more.go:44", after := #[{ on := 8, ground := Ground.data }, { on := 2, ground := Ground.chain }], guard := none }) (v := .bool false) rfl (by kernel_rfl) (by kernel_rfl) (by kernel_rfl) (fun _ _ _ h => h) (Or.inl ⟨by kernel_rfl, fun W hSW => by go_simp⟩) (Below.refl _ _) ?_
            try simp only [Act.put, List.setIfInBounds_toArray, List.set_cons_zero, List.set_cons_succ]
            refine wpAnyH_take (i := 10) (oi := { dst := some 105, op := Op.move (Operand.tmp 11), type := 3, pos := "more.go:44", after := #[{ on := 9, ground := Ground.guard }], guard := some (9, false) }) (v := .int .i64 0) rfl (by kernel_rfl) (by kernel_rfl) (by kernel_rfl) (fun _ _ _ h => h) (Or.inl ⟨by kernel_rfl, fun W hSW => by go_simp⟩) (Below.refl _ _) ?_
            try simp only [Act.put, List.setIfInBounds_toArray, List.set_cons_zero, List.set_cons_succ]
            refine wpAnyH_take (i := 11) (oi := { dst := some 106, op := Op.binOp BinOp.add 3 (Operand.tmp 105) (Operand.const (Value.int IntKind.i64 1)) 3, type := 3, pos := "more.go:44", after := #[{ on := 10, ground := Ground.data }, { on := 9, ground := Ground.guard }], guard := some (9, false) }) (v := .int .i64 1) rfl (by kernel_rfl) (by kernel_rfl) (by kernel_rfl) (fun _ _ _ h => h) (Or.inl ⟨by kernel_rfl, fun W hSW => by go_simp⟩) (Below.refl _ _) ?_
            try simp only [Act.put, List.setIfInBounds_toArray, List.set_cons_zero, List.set_cons_succ]
            refine wpAnyH_take (i := 12) (oi := { dst := some 107, op := Op.move (Operand.tmp 12), type := 35, pos := "more.go:44", after := #[{ on := 9, ground := Ground.guard }], guard := some (9, false) }) (v := .int .u64 ((ca + 1 : Nat) : Int)) rfl (by kernel_rfl) (by kernel_rfl) (by kernel_rfl) (fun _ _ _ h => h) (Or.inl ⟨by kernel_rfl, fun W hSW => by go_simp⟩) (Below.refl _ _) ?_
            try simp only [Act.put, List.setIfInBounds_toArray, List.set_cons_zero, List.set_cons_succ]
            refine wpAnyH_take (i := 13) (oi := { dst := some 108, op := Op.move (Operand.tmp 0), type := 54, pos := "more.go:44", after := #[{ on := 9, ground := Ground.guard }], guard := some (9, false) }) (v := .slice (some ⟨b, o, none⟩) n c) rfl (by kernel_rfl) (by kernel_rfl) (by kernel_rfl) (fun _ _ _ h => h) (Or.inl ⟨by kernel_rfl, fun W hSW => by go_simp⟩) (Below.refl _ _) ?_
            try simp only [Act.put, List.setIfInBounds_toArray, List.set_cons_zero, List.set_cons_succ]
            refine wpAnyH_take (i := 14) (oi := { dst := some 109, op := Op.move (Operand.tmp 9), type := 3, pos := "more.go:44", after := #[{ on := 9, ground := Ground.guard }], guard := some (9, false) }) (v := .int .i64 (k : Int)) rfl (by kernel_rfl) (by kernel_rfl) (by kernel_rfl) (fun _ _ _ h => h) (Or.inl ⟨by kernel_rfl, fun W hSW => by go_simp⟩) (Below.refl _ _) ?_
            try simp only [Act.put, List.setIfInBounds_toArray, List.set_cons_zero, List.set_cons_succ]
            refine wpAnyH_take (i := 15) (oi := { dst := some 110, op := Op.indexAddr 54 (Operand.tmp 108) (Operand.tmp 109), type := 0, pos := "more.go:44", after := #[{ on := 13, ground := Ground.data }, { on := 14, ground := Ground.data }, { on := 9, ground := Ground.guard }], guard := some (9, false) }) (v := .pointer (some ⟨b, o + k * 2, none⟩)) rfl (by kernel_rfl) (by kernel_rfl) (by kernel_rfl) (fun _ _ _ h => h) (Or.inl ⟨by kernel_rfl, fun W hSW => by go_simp⟩) (Below.refl _ _) ?_
            try simp only [Act.put, List.setIfInBounds_toArray, List.set_cons_zero, List.set_cons_succ]
            refine wpAnyH_take (i := 16) (oi := { dst := some 111, op := Op.fieldAddr 57 (Operand.tmp 110) 1, type := 0, pos := "more.go:44", after := #[{ on := 15, ground := Ground.data }, { on := 9, ground := Ground.guard }], guard := some (9, false) }) (v := .pointer (some ⟨b, o + k * 2 + 1, none⟩)) rfl (by kernel_rfl) (by kernel_rfl) (by kernel_rfl) (fun _ _ _ h => h) (Or.inl ⟨by kernel_rfl, fun W hSW => by go_simp⟩) (Below.refl _ _) ?_
            try simp only [Act.put, List.setIfInBounds_toArray, List.set_cons_zero, List.set_cons_succ]
            refine wpAnyH_take (i := 17) (oi := { dst := some 112, op := Op.load 29 (Operand.tmp 111), type := 29, pos := "more.go:44", after := #[{ on := 16, ground := Ground.data }, { on := 9, ground := Ground.guard }], guard := some (9, false) }) (v := .slice x.adr m x.room) rfl (by kernel_rfl) (by kernel_rfl) (by kernel_rfl) (fun _ _ _ h => h) (Or.inl ⟨by kernel_rfl, fun W hSW => by have hcv := HCB.out W (HSX.out W hSW); go_simp⟩) (Below.refl _ _) ?_
            try simp only [Act.put, List.setIfInBounds_toArray, List.set_cons_zero, List.set_cons_succ]
            refine wpAnyH_take (i := 18) (oi := { dst := some 113, op := Op.load 36 (Operand.tmp 13), type := 36, pos := "more.go:44", after := #[{ on := 9, ground := Ground.guard }], guard := some (9, false) }) (v := .agg (u8s T).toArray) rfl (by kernel_rfl) (by kernel_rfl) (by kernel_rfl) (fun _ _ _ h => h) (Or.inl ⟨by kernel_rfl, fun W hSW => exec_load_mid 36 (.tmp 13) rfl w7.heap.size 0 rfl (u8s T) _ (range_block ((hSW.block _ HTG.out.2).trans HTG.out.1) 0 _ (fun j v hv => by rw [Nat.zero_add]; exact hv)) Tryd.underlying36 rfl HIT.out⟩) (Below.refl _ _) ?_
            try simp only [Act.put, List.setIfInBounds_toArray, List.set_cons_zero, List.set_cons_succ]
            refine wpAnyH_ready (rs := [19]) (by kernel_rfl) (by simp) ?_
            refine AllReadyH.cons (o := { dst := some 114, op := Op.call { callee := Callee.value (Operand.func 14), args := #[Operand.tmp 106, Operand.tmp 107, Operand.tmp 112, Operand.tmp 113], argTypes := #[3, 35, 29, 36] }, type := 4, pos := "more.go:44", after := #[{ on := 11, ground := Ground.data }, { on := 12, ground := Ground.data }, { on := 17, ground := Ground.data }, { on := 18, ground := Ground.data }, { on := 9, ground := Ground.chain }, { on := 9, ground := Ground.guard }], guard := some (9, false) }) rfl (fun K' hK' => ?_) AllReadyH.nil
            go_simp
            go_at_call 14
            refine (HC1.out w10 (HSX.out w10 (Below.refl _ _))).mono ?_
            rintro E w11 ⟨rfl, HBw11⟩
            refine hK'.out _ _ HBw11.out (fun _ => wpAnyH_next HBw11.out ?_)
            clear hK' K'
            try simp only [Act.put, List.setIfInBounds_toArray, List.set_cons_zero, List.set_cons_succ]
            have TQ := Lib.hid (TQ.out.next HBw11.out)
            have HSX : Hid (∀ W, Below w11.heap.size w11 W → Below w.heap.size w W) := Lib.hid fun W hb => HSX.out W (HBw11.out.trans (hb.mono HBw11.out.size))
            have HTG : Hid (w11.heap[w7.heap.size]? = some (.cells (u8s T).toArray 36 (0, 0)) ∧ w7.heap.size < w11.heap.size) := Lib.hid ⟨(HBw11.out.block _ HTG.out.2).trans HTG.out.1, Nat.lt_of_lt_of_le HTG.out.2 HBw11.out.size⟩
            clear HBw11
            refine wpAnyH_take (i := 20) (oi := { dst := some 115, op := Op.unOp UnOp.not 4 (Operand.tmp 114), type := 4, pos := "more.go:44", after := #[{ on := 19, ground := Ground.data }, { on := 9, ground := Ground.guard }], guard := some (9, false) }) (v := .bool false) rfl (by kernel_rfl) (by kernel_rfl) (by kernel_rfl) (fun _ _ _ h => h) (Or.inl ⟨by kernel_rfl, fun W hSW => by go_simp⟩) (Below.refl _ _) ?_
            try simp only [Act.put, List.setIfInBounds_toArray, List.set_cons_zero, List.set_cons_succ]
            refine wpAnyH_take (i := 21) (oi := { dst := some 116, op := Op.pick (Operand.tmp 104) (Operand.const (Value.bool true)) (Operand.tmp 115), type := 4, pos := "more.go:44", after := #[{ on := 9, ground := Ground.data }, { on := 20, ground := Ground.data }], guard := none }) (v := .bool false) rfl (by kernel_rfl) (by kernel_rfl) (by kernel_rfl) (fun _ _ _ h => h) (Or.inl ⟨by kernel_rfl, fun W hSW => by go_simp⟩) (Below.refl _ _) ?_
            try simp only [Act.put, List.setIfInBounds_toArray, List.set_cons_zero, List.set_cons_succ]
            refine wpAnyH_take (i := 22) (oi := { dst := some 117, op := Op.move (Operand.tmp 116), type := 4, pos := "more.go:44", after := #[{ on := 21, ground := Ground.data }, { on := 19, ground := Ground.chain }], guard := none }) (v := .bool false) rfl (by kernel_rfl) (by kernel_rfl) (by kernel_rfl) (fun _ _ _ h => h) (Or.inl ⟨by kernel_rfl, fun W hSW => by go_simp⟩) (Below.refl _ _) ?_
            try simp only [Act.put, List.setIfInBounds_toArray, List.set_cons_zero, List.set_cons_succ]
            refine wpAnyH_take (i := 23) (oi := { dst := some 118, op := Op.move (Operand.tmp 12), type := 35, pos := "more.go:44", after := #[{ on := 22, ground := Ground.guard }], guard := some (22, false) }) (v := .int .u64 ((ca + 1 : Nat) : Int)) rfl (by kernel_rfl) (by kernel_rfl) (by kernel_rfl) (fun _ _ _ h => h) (Or.inl ⟨by kernel_rfl, fun W hSW => by go_simp⟩) (Below.refl _ _) ?_
            try simp only [Act.put, List.setIfInBounds_toArray, List.set_cons_zero, List.set_cons_succ]
            refine wpAnyH_take (i := 24) (oi := { dst := some 119, op := Op.move (Operand.tmp 0), type := 54, pos := "more.go:44", after := #[{ on := 22, ground := Ground.guard }], guard := some (22, false) }) (v := .slice (some ⟨b, o, none⟩) n c) rfl (by kernel_rfl) (by kernel_rfl) (by kernel_rfl) (fun _ _ _ h => h) (Or.inl ⟨by kernel_rfl, fun W hSW => by go_simp⟩) (Below.refl _ _) ?_
            try simp only [Act.put, List.setIfInBounds_toArray, List.set_cons_zero, List.set_cons_succ]
            refine wpAnyH_take (i := 25) (oi := { dst := some 120, op := Op.move (Operand.tmp 9), type := 3, pos := "more.go:44", after := #[{ on := 22, ground := Ground.guard }], guard := some (22, false) }) (v := .int .i64 (k : Int)) rfl (by kernel_rfl) (by kernel_rfl) (by kernel_rfl) (fun _ _ _ h => h) (Or.inl ⟨by kernel_rfl, fun W hSW => by go_simp⟩) (Below.refl _ _) ?_
            try simp only [Act.put, List.setIfInBounds_toArray, List.set_cons_zero, List.set_cons_succ]
            refine wpAnyH_take (i := 26) (oi := { dst := some 121, op := Op.indexAddr 54 (Operand.tmp 119) (Operand.tmp 120), type := 0, pos := "more.go:44", after := #[{ on := 24, ground := Ground.data }, { on := 25, ground := Ground.data }, { on := 22, ground := Ground.guard }], guard := some (22, false) }) (v := .pointer (some ⟨b, o + k * 2, none⟩)) rfl (by kernel_rfl) (by kernel_rfl) (by kernel_rfl) (fun _ _ _ h => h) (Or.inl ⟨by kernel_rfl, fun W hSW => by go_simp⟩) (Below.refl _ _) ?_
            try simp only [Act.put, List.setIfInBounds_toArray, List.set_cons_zero, List.set_cons_succ]
            refine wpAnyH_take (i := 27) (oi := { dst := some 122, op := Op.fieldAddr 57 (Operand.tmp 121) 1, type := 0, pos := "more.go:44", after := #[{ on := 26, ground := Ground.data }, { on := 22, ground := Ground.guard }], guard := some (22, false) }) (v := .pointer (some ⟨b, o + k * 2 + 1, none⟩)) rfl (by kernel_rfl) (by kernel_rfl) (by kernel_rfl) (fun _ _ _ h => h) (Or.inl ⟨by kernel_rfl, fun W hSW => by go_simp⟩) (Below.refl _ _) ?_
            try simp only [Act.put, List.setIfInBounds_toArray, List.set_cons_zero, List.set_cons_succ]
            refine wpAnyH_take (i := 28) (oi := { dst := some 123, op := Op.load 29 (Operand.tmp 122), type := 29, pos := "more.go:44", after := #[{ on := 27, ground := Ground.data }, { on := 22, ground := Ground.guard }], guard := some (22, false) }) (v := .slice x.adr m x.room) rfl (by kernel_rfl) (by kernel_rfl) (by kernel_rfl) (fun _ _ _ h => h) (Or.inl ⟨by kernel_rfl, fun W hSW => by have hcv := HCB.out W (HSX.out W hSW); go_simp⟩) (Below.refl _ _) ?_
            try simp only [Act.put, List.setIfInBounds_toArray, List.set_cons_zero, List.set_cons_succ]
            refine wpAnyH_take (i := 29) (oi := { dst := some 124, op := Op.load 36 (Operand.tmp 13), type := 36, pos := "more.go:44", after := #[{ on := 22, ground := Ground.guard }], guard := some (22, false) }) (v := .agg (u8s T).toArray) rfl (by kernel_rfl) (by kernel_rfl) (by kernel_rfl) (fun _ _ _ h => h) (Or.inl ⟨by kernel_rfl, fun W hSW => exec_load_mid 36 (.tmp 13) rfl w7.heap.size 0 rfl (u8s T) _ (range_block ((hSW.block _ HTG.out.2).trans HTG.out.1) 0 _ (fun j v hv => by rw [Nat.zero_add]; exact hv)) Tryd.underlying36 rfl HIT.out⟩) (Below.refl _ _) ?_
            try simp only [Act.put, List.setIfInBounds_toArray, List.set_cons_zero, List.set_cons_succ]
            refine wpAnyH_ready (rs := [30]) (by kernel_rfl) (by simp) ?_
            refine AllReadyH.cons (o := { dst := some 125, op := Op.call { callee := Callee.value (Operand.func 14), args := #[Operand.const (Value.int IntKind.i64 0), Operand.tmp 118, Operand.tmp 123, Operand.tmp 124], argTypes := #[3, 35, 29, 36] }, type := 4, pos := "more.go:44", after := #[{ on := 23, ground := Ground.data }, { on := 28, ground := Ground.data }, { on := 29, ground := Ground.data }, { on := 22, ground := Ground.chain }, { on := 22, ground := Ground.guard }], guard := some (22, false) }) rfl (fun K' hK' => ?_) AllReadyH.nil
            go_simp
            go_at_call 14
            refine (HC2.out w11 (HSX.out w11 (Below.refl _ _))).mono ?_
            rintro E w12 ⟨rfl, HBw12⟩
            refine hK'.out _ _ HBw12.out (fun _ => wpAnyH_next HBw12.out ?_)
            clear hK' K'
            try simp only [Act.put, List.setIfInBounds_toArray, List.set_cons_zero, List.set_cons_succ]
            have TQ := Lib.hid (TQ.out.next HBw12.out)
            have HSX : Hid (∀ W, Below w12.heap.size w12 W → Below w.heap.size w W) := Lib.hid fun W hb => HSX.out W (HBw12.out.trans (hb.mono HBw12.out.size))
            have HTG : Hid (w12.heap[w7.heap.size]? = some (.cells (u8s T).toArray 36 (0, 0)) ∧ w7.heap.size < w12.heap.size) := Lib.hid ⟨(HBw12.out.block _ HTG.out.2).trans HTG.out.1, Nat.lt_of_lt_of_le HTG.out.2 HBw12.out.size⟩
            clear HBw12
            refine wpAnyH_take (i := 31) (oi := { dst := some 126, op := Op.pick (Operand.tmp 117) (Operand.const (Value.bool true)) (Operand.tmp 125), type := 4, pos := "more.go:44", after := #[{ on := 22, ground := Ground.data }, { on := 30, ground := Ground.data }], guard := none }) (v := .bool false) rfl (by kernel_rfl) (by kernel_rfl) (by kernel_rfl) (fun _ _ _ h => h) (Or.inl ⟨by kernel_rfl, fun W hSW => by go_simp⟩) (Below.refl _ _) ?_
            try simp only [Act.put, List.setIfInBounds_toArray, List.set_cons_zero, List.set_cons_succ]
            refine wpAnyH_take (i := 32) (oi := { dst := some 127, op := Op.move (Operand.tmp 126), type := 4, pos := "more.go:44", after := #[{ on := 31, ground := Ground.data }, { on := 30, ground := Ground.chain }], guard := none }) (v := .bool false) rfl (by kernel_rfl) (by kernel_rfl) (by kernel_rfl) (fun _ _ _ h => h) (Or.inl ⟨by kernel_rfl, fun W hSW => by go_simp⟩) (Below.refl _ _) ?_
            try simp only [Act.put, List.setIfInBounds_toArray, List.set_cons_zero, List.set_cons_succ]
            refine wpAnyH_take (i := 33) (oi := { dst := some 128, op := Op.move (Operand.tmp 11), type := 3, pos := "more.go:44", after := #[{ on := 32, ground := Ground.guard }], guard := some (32, false) }) (v := .int .i64 0) rfl (by kernel_rfl) (by kernel_rfl) (by kernel_rfl) (fun _ _ _ h => h) (Or.inl ⟨by kernel_rfl, fun W hSW => by go_simp⟩) (Below.refl _ _) ?_
            try simp only [Act.put, List.setIfInBounds_toArray, List.set_cons_zero, List.set_cons_succ]
            refine wpAnyH_take (i := 34) (oi := { dst := some 129, op := Op.binOp BinOp.add 3 (Operand.tmp 128) (Operand.const (Value.int IntKind.i64 1)) 3, type := 3, pos := "more.go:44", after := #[{ on := 33, ground := Ground.data }, { on := 32, ground := Ground.guard }], guard := some (32, false) }) (v := .int .i64 1) rfl (by kernel_rfl) (by kernel_rfl) (by kernel_rfl) (fun _ _ _ h => h) (Or.inl ⟨by kernel_rfl, fun W hSW => by go_simp⟩) (Below.refl _ _) ?_
            try simp only [Act.put, List.setIfInBounds_toArray, List.set_cons_zero, List.set_cons_succ]
            refine wpAnyH_take (i := 35) (oi := { dst := some 130, op := Op.move (Operand.tmp 0), type := 54, pos := "more.go:44", after := #[{ on := 32, ground := Ground.guard }], guard := some (32, false) }) (v := .slice (some ⟨b, o, none⟩) n c) rfl (by kernel_rfl) (by kernel_rfl) (by kernel_rfl) (fun _ _ _ h => h) (Or.inl ⟨by kernel_rfl, fun W hSW => by go_simp⟩) (Below.refl _ _) ?_
            try simp only [Act.put, List.setIfInBounds_toArray, List.set_cons_zero, List.set_cons_succ]
            refine wpAnyH_take (i := 36) (oi := { dst := some 131, op := Op.move (Operand.tmp 9), type := 3, pos := "more.go:44", after := #[{ on := 32, ground := Ground.guard }], guard := some (32, false) }) (v := .int .i64 (k : Int)) rfl (by kernel_rfl) (by kernel_rfl) (by kernel_rfl) (fun _ _ _ h => h) (Or.inl ⟨by kernel_rfl, fun W hSW => by go_simp⟩) (Below.refl _ _) ?_
            try simp only [Act.put, List.setIfInBounds_toArray, List.set_cons_zero, List.set_cons_succ]
            refine wpAnyH_take (i := 37) (oi := { dst := some 132, op := Op.indexAddr 54 (Operand.tmp 130) (Operand.tmp 131), type := 0, pos := "more.go:44", after := #[{ on := 35, ground := Ground.data }, { on := 36, ground := Ground.data }, { on := 32, ground := Ground.guard }], guard := some (32, false) }) (v := .pointer (some ⟨b, o + k * 2, none⟩)) rfl (by kernel_rfl) (by kernel_rfl) (by kernel_rfl) (fun _ _ _ h => h) (Or.inl ⟨by kernel_rfl, fun W hSW => by go_simp⟩) (Below.refl _ _) ?_
            try simp only [Act.put, List.setIfInBounds_toArray, List.set_cons_zero, List.set_cons_succ]
            refine wpAnyH_take (i := 38) (oi := { dst := some 133, op := Op.fieldAddr 57 (Operand.tmp 132) 1, type := 0, pos := "more.go:44", after := #[{ on := 37, ground := Ground.data }, { on := 32, ground := Ground.guard }], guard := some (32, false) }) (v := .pointer (some ⟨b, o + k * 2 + 1, none⟩)) rfl (by kernel_rfl) (by kernel_rfl) (by kernel_rfl) (fun _ _ _ h => h) (Or.inl ⟨by kernel_rfl, fun W hSW => by go_simp⟩) (Below.refl _ _) ?_
            try simp only [Act.put, List.setIfInBounds_toArray, List.set_cons_zero, List.set_cons_succ]
            refine wpAnyH_take (i := 39) (oi := { dst := some 134, op := Op.load 29 (Operand.tmp 133), type := 29, pos := "more.go:44", after := #[{ on := 38, ground := Ground.data }, { on := 32, ground := Ground.guard }], guard := some (32, false) }) (v := .slice x.adr m x.room) rfl (by kernel_rfl) (by kernel_rfl) (by kernel_rfl) (fun _ _ _ h => h) (Or.inl ⟨by kernel_rfl, fun W hSW => by have hcv := HCB.out W (HSX.out W hSW); go_simp⟩) (Below.refl _ _) ?_
            try simp only [Act.put, List.setIfInBounds_toArray, List.set_cons_zero, List.set_cons_succ]
            refine wpAnyH_take (i := 40) (oi := { dst := some 135, op := Op.load 36 (Operand.tmp 13), type := 36, pos := "more.go:44", after := #[{ on := 32, ground := Ground.guard }], guard := some (32, false) }) (v := .agg (u8s T).toArray) rfl (by kernel_rfl) (by kernel_rfl) (by kernel_rfl) (fun _ _ _ h => h) (Or.inl ⟨by kernel_rfl, fun W hSW => exec_load_mid 36 (.tmp 13) rfl w7.heap.size 0 rfl (u8s T) _ (range_block ((hSW.block _ HTG.out.2).trans HTG.out.1) 0 _ (fun j v hv => by rw [Nat.zero_add]; exact hv)) Tryd.underlying36 rfl HIT.out⟩) (Below.refl _ _) ?_
            try simp only [Act.put, List.setIfInBounds_toArray, List.set_cons_zero, List.set_cons_succ]
            refine wpAnyH_ready (rs := [41]) (by kernel_rfl) (by simp) ?_
            refine AllReadyH.cons (o := { dst := some 136, op := Op.call { callee := Callee.value (Operand.func 14), args := #[Operand.tmp 129, Operand.const (Value.int IntKind.u64 0), Operand.tmp 134, Operand.tmp 135], argTypes := #[3, 35, 29, 36] }, type := 4, pos := "more.go:44", after := #[{ on := 34, ground := Ground.data }, { on := 39, ground := Ground.data }, { on := 40, ground := Ground.data }, { on := 32, ground := Ground.chain }, { on := 32, ground := Ground.guard }], guard := some (32, false) }) rfl (fun K' hK' => ?_) AllReadyH.nil
            go_simp
            go_at_call 14
            refine (HC3.out w12 (HSX.out w12 (Below.refl _ _))).mono ?_
            rintro E w13 ⟨rfl, HBw13⟩
            refine hK'.out _ _ HBw13.out (fun _ => wpAnyH_next HBw13.out ?_)
            clear hK' K'
            try simp only [Act.put, List.setIfInBounds_toArray, List.set_cons_zero, List.set_cons_succ]
            have TQ := Lib.hid (TQ.out.next HBw13.out)
            have HSX : Hid (∀ W, Below w13.heap.size w13 W → Below w.heap.size w W) := Lib.hid fun W hb => HSX.out W (HBw13.out.trans (hb.mono HBw13.out.size))
            have HTG : Hid (w13.heap[w7.heap.size]? = some (.cells (u8s T).toArray 36 (0, 0)) ∧ w7.heap.size < w13.heap.size) := Lib.hid ⟨(HBw13.out.block _ HTG.out.2).trans HTG.out.1, Nat.lt_of_lt_of_le HTG.out.2 HBw13.out.size⟩
            clear HBw13
            refine wpAnyH_take (i := 42) (oi := { dst := some 137, op := Op.pick (Operand.tmp 127) (Operand.const (Value.bool true)) (Operand.tmp 136), type := 4, pos := "more.go:44", after := #[{ on := 32, ground := Ground.data }, { on := 41, ground := Ground.data }], guard := none }) (v := .bool false) rfl (by kernel_rfl) (by kernel_rfl) (by kernel_rfl) (fun _ _ _ h => h) (Or.inl ⟨by kernel_rfl, fun W hSW => by go_simp⟩) (Below.refl _ _) ?_
            try simp only [Act.put, List.setIfInBounds_toArray, List.set_cons_zero, List.set_cons_succ]
            refine wpAnyH_done (by kernel_rfl) ?_ _
            go_wp2_with fail
            go_roundw
            case measure => simp [intOf]; omega
            case rel => exact ⟨k + 1, by omega, by go_num, ca + 1, cb, Oct.be 8 (ca + 1) ++ x.bs, bB, 1 - aA, aB, _, nB, s7, Lib.hid ⟨TQ.out.sub fun p hp => by simp only [List.mem_cons, List.not_mem_nil, or_false] at hp ⊢; rcases hp with rfl | rfl | rfl <;> simp, HB7.out, HI7.out, HO7.out, (seal_be (ca + 1) x.bs (by have := HLE.out; omega)).1, HNN.out.2, by have := HLE.out; omega⟩⟩
          | true =>
            rw [hsnd] at cs
            clear hsnd HCS
            go_wp2_with fail
            refine (two_next HD.out.two.swap 2 (.tail _ (.tail _ (.head _))) HK.out h0 HD.out.calm (by omega) (by omega) HD.out.snd (by omega) HRB.out HSB.out hok HM.out.symm cb HD.out.nB (by omega)).mono ?_
            rintro E w7 ⟨rfl, s7, H7⟩
            have hT := Sh.numTag_length 2 (cb + 1) x.bs
            have HCK := Lib.hid (fun (W : World) (hb : Below w.heap.size w W) (r : Int) (y : Nat) => by have h1 := HRB.out W hb; have h2 := HSB.out; rw [HM.out] at h1 h2; exact check_us r y (t := Sh.numTag 2 (cb + 1) x.bs) h1 h2 (by have := HM.out; omega) hT (HK.out.below hb h0) (Nat.lt_of_lt_of_le h0 hb.size))
            have HCA : Hid (chk 2 (cb + 1) x.bs (Sh.numTag 2 (cb + 1) x.bs) = true ∧ chk 0 (cb + 1) x.bs (Sh.numTag 2 (cb + 1) x.bs) = false ∧ chk 2 0 x.bs (Sh.numTag 2 (cb + 1) x.bs) = false) := Lib.hid (by have := HM.out; refine ⟨?_, ?_, ?_⟩ <;> simp [chk, isRep, mayN] <;> omega)
            have HZT := Lib.hid (HLZ.out _ hT)
            generalize Sh.numTag 2 (cb + 1) x.bs = T at hT HZT HCK HCA ⊢
            have HIT : Hid ((Tryd.prog.info? 36).map (·.size) = some (u8s T).length) := Lib.hid (tag_info hT)
            have HOT : Hid (∀ v ∈ u8s T, v.oneCell' = true) := Lib.hid (u8s_one _)
            have HC1 : Hid (∀ W, Below w.heap.size w W → Calls Tryd.prog 14 #[.int .i64 2, .int .u64 ((cb + 1 : Nat) : Int), .slice x.adr m x.room, .agg (u8s T).toArray] W fun E w' => E = .returned (.bool true) ∧ Hid (Below W.heap.size W w')) := Lib.hid fun W hb => by have := HCK.out W hb 2 (cb + 1); rw [HCA.out.1, ← HM.out] at this; exact this
            have HC2 : Hid (∀ W, Below w.heap.size w W → Calls Tryd.prog 14 #[.int .i64 0, .int .u64 ((cb + 1 : Nat) : Int), .slice x.adr m x.room, .agg (u8s T).toArray] W fun E w' => E = .returned (.bool false) ∧ Hid (Below W.heap.size W w')) := Lib.hid fun W hb => by have := HCK.out W hb 0 (cb + 1); rw [HCA.out.2.1, ← HM.out] at this; exact this
            have HC3 : Hid (∀ W, Below w.heap.size w W → Calls Tryd.prog 14 #[.int .i64 2, .int .u64 0, .slice x.adr m x.room, .agg (u8s T).toArray] W fun E w' => E = .returned (.bool false) ∧ Hid (Below W.heap.size W w')) := Lib.hid fun W hb => by have := HCK.out W hb 2 0; rw [HCA.out.2.2, ← HM.out] at this; exact this
            have T7 := Lib.hid (H7.out.1.swap.lit (.cells Z.toArray 36 (0, 0)))
            have hq7 : q < w7.heap.size := H7.out.1.dat.lt (q := q) (.head _)
            have hL7 : Hid (∀ p ∈ [(q, manyOf ca cb), (ua, usOf ga 1), (ub, usOf gb 2)], p.1 ≠ w7.heap.size) := Lib.hid fun p hp => by have := H7.out.1.dat.lt (q := p.1) (o := p.2) hp; omega
            have HA7 : Hid ((w7.alloc (.cells Z.toArray 36)).heap[w7.heap.size]? = some (.cells Z.toArray 36 (0, 0))) := Lib.hid (row_new _ _ _)
            have HO7 : Hid (CellIs s7 0 aA nA bA (2 + (k + 1))) := Lib.hid (HD.out.one.congr (fun i hi => H7.out.2.2.2 _ (by omega) (by omega)) (by omega) (by omega))
            have HB7 : Hid (Calm s7) := Lib.hid H7.out.2.1
            have HI7 := Lib.hid H7.out.2.2.1
            have hwr : IntKind.u64.wrap ((cb : Int) + 1) = ((cb + 1 : Nat) : Int) := by rw [IntKind.wrap_u64]; omega
            have HQ7 := Lib.hid hq7
            have HLE := Lib.hid hle
            have HNN : Hid (sealN bA = ca ∧ sealN bB = cb) := Lib.hid ⟨HD.out.nA, HD.out.nB⟩
            unfold tagV
            clear hT cs cb' HCK HCA hq7 hle HD
            go_wp2_with (first
              | (refine wpList_store_all rfl 36 (.tmp 13) (.tmp 88) rfl w7.heap.size Z (u8s T) 36 HA7.out HZT.out rfl rfl HIT.out HOT.out ?_; intro w8 G8; have T8 := Lib.hid (T7.out.upd hL7.out G8.out.1 G8.out.2); have hq8 := T8.out.dat.get (q := q) (o := manyOf ca cb) (.tail _ (.head _)); have c0 : w8.cell? ⟨q, 0, none⟩ = some (.int .u64 (ca : Int)) := block_cell (C := [.int .u64 (ca : Int), .int .u64 (cb : Int)]) hq8 0 _ rfl; have c1 : w8.cell? ⟨q, 1, none⟩ = some (.int .u64 (cb : Int)) := block_cell (C := [.int .u64 (ca : Int), .int .u64 (cb : Int)]) hq8 1 _ rfl; have f0 : w8.frozen? ⟨q, 1, none⟩ = false := free_block (C := #[.int .u64 (ca : Int), .int .u64 (cb : Int)]) hq8 1; have HQ8 := Lib.hid hq8; clear hq8))
            have T9 : Hid (TwoAt w d (40 + 10 * k + 10) s7 ((q, manyOf ca (cb + 1)) :: [(w7.heap.size, Obj.cells (u8s T).toArray 36 (0, 0)), (ua, usOf ga 1), (ub, usOf gb 2)]) 0 ga bA (aA : Int) 20 gb (Oct.be 8 (cb + 1) ++ x.bs) ((1 - aB : Nat) : Int) (w8.setCell ⟨q, 1, none⟩ (.int .u64 ((cb : Int) + 1)))) := Lib.hid ((T8.out.sub (L' := (q, manyOf ca cb) :: [(w7.heap.size, Obj.cells (u8s T).toArray 36 (0, 0)), (ua, usOf ga 1), (ub, usOf gb 2)]) (fun p hp => by simp only [List.mem_cons, List.not_mem_nil, or_false] at hp ⊢; rcases hp with rfl | rfl | rfl | rfl <;> simp)).upd (fun p hp => by
              simp only [List.mem_cons, List.not_mem_nil, or_false] at hp
              rcases hp with rfl | rfl | rfl
              · have := HQ7.out; simp only; omega
              · exact HNQ.out.1
              · exact HNQ.out.2) (heap_set (C := [.int .u64 (ca : Int), .int .u64 (cb : Int)]) (k := 1) HQ8.out _) (Oct.grownBy_set _ _ _ _))
            clear T8 T7 hL7 HA7 G8 c0 c1 f0 HQ8 H7 hwr
            generalize w8.setCell ⟨q, 1, none⟩ (.int .u64 ((cb : Int) + 1)) = w9 at T9 ⊢
            try simp only [Act.put]
            refine wp_region_any (by kernel_rfl) ?_
            change wpAny _ _ _ _ _ _ _ (w9.drewN 1)
            have TQ := Lib.hid (T9.out.next (W' := w9.drewN 1) ⟨rfl, rfl, rfl, Nat.le_refl _, fun _ _ => rfl⟩)
            clear T9
            generalize w9.drewN 1 = w10 at TQ ⊢
            have HSX : Hid (∀ W, Below w10.heap.size w10 W → Below w.heap.size w W) := Lib.hid fun W hb => TQ.out.dat.below.trans (hb.mono TQ.out.dat.below.size)
            have HTG : Hid (w10.heap[w7.heap.size]? = some (.cells (u8s T).toArray 36 (0, 0)) ∧ w7.heap.size < w10.heap.size) := Lib.hid ⟨TQ.out.dat.get (.tail _ (.head _)), TQ.out.dat.lt (q := w7.heap.size) (.tail _ (.head _))⟩
            have HMQ : Hid (∀ W, Below w10.heap.size w10 W → W.cell? ⟨q, 1, none⟩ = some (.int .u64 ((cb + 1 : Nat) : Int))) := Lib.hid fun W hb => block_cell (C := [.int .u64 ((ca : Nat) : Int), .int .u64 ((cb + 1 : Nat) : Int)]) ((TQ.out.next hb).dat.get (q := q) (o := manyOf ca (cb + 1)) (.head _)) 1 _ rfl
            have hk1 : IntKind.i64.wrap 1 = 1 := by decide
            have hk2 : IntKind.i64.wrap 2 = 2 := by decide
            refine wpAny_of_held (S := fun W => Below w10.heap.size w10 W) _ _ _ _ ?_
            refine wpAnyH_take (i := 0) (oi := { dst := some 95, op := Op.move (Operand.tmp 14), type := 26, pos := "more.go:44", after := #[], guard := none }) (v := .int .i64 0) rfl (by kernel_rfl) (by kernel_rfl) (by kernel_rfl) (fun _ _ _ h => h) (Or.inl ⟨by kernel_rfl, fun W hSW => by go_simp⟩) (Below.refl _ _) ?_
            try simp only [Act.put, List.setIfInBounds_toArray, List.set_cons_zero, List.set_cons_succ]
            refine wpAnyH_take (i := 1) (oi := { dst := some 96, op := Op.binOp BinOp.neq 26 (Operand.tmp 95) (Operand.const (Value.int IntKind.i64 0)) 26, type := 4, pos := "more.go:44", after := #[{ on := 0, ground := Ground.data }], guard := none }) (v := .bool false) rfl (by kernel_rfl) (by kernel_rfl) (by kernel_rfl) (fun _ _ _ h => h) (Or.inl ⟨by kernel_rfl, fun W hSW => by go_simp⟩) (Below.refl _ _) ?_
            try simp only [Act.put, List.setIfInBounds_toArray, List.set_cons_zero, List.set_cons_succ]
            refine wpAnyH_take (i := 2) (oi := { dst := some 97, op := Op.move (Operand.tmp 96), type := 4, pos := "more.go:44", after := #[{ on := 1, ground := Ground.data }], guard := none }) (v := .bool false) rfl (by kernel_rfl) (by kernel_rfl) (by kernel_rfl) (fun _ _ _ h => h) (Or.inl ⟨by kernel_rfl, fun W hSW => by go_simp⟩) (Below.refl _ _) ?_
            try simp only [Act.put, List.setIfInBounds_toArray, List.set_cons_zero, List.set_cons_succ]
            refine wpAnyH_take (i := 3) (oi := { dst := some 98, op := Op.move (Operand.tmp 12), type := 35, pos := "more.go:44", after := #[{ on := 2, ground := Ground.guard }], guard := some (2, false) }) (v := .int .u64 ((cb + 1 : Nat) : Int)) rfl (by kernel_rfl) (by kernel_rfl) (by kernel_rfl) (fun _ _ _ h => h) (Or.inl ⟨by kernel_rfl, fun W hSW => by go_simp⟩) (Below.refl _ _) ?_
            try simp only [Act.put, List.setIfInBounds_toArray, List.set_cons_zero, List.set_cons_succ]
            refine wpAnyH_take (i := 4) (oi := { dst := some 99, op := Op.move (Operand.tmp 11), type := 3, pos := "more.go:44", after := #[{ on := 2, ground := Ground.guard }], guard := some (2, false) }) (v := .int .i64 1) rfl (by kernel_rfl) (by kernel_rfl) (by kernel_rfl) (fun _ _ _ h => h) (Or.inl ⟨by kernel_rfl, fun W hSW => by go_simp⟩) (Below.refl _ _) ?_
            try simp only [Act.put, List.setIfInBounds_toArray, List.set_cons_zero, List.set_cons_succ]
            refine wpAnyH_take (i := 5) (oi := { dst := some 100, op := Op.indexAddr 55 (Operand.tmp 8) (Operand.tmp 99), type := 0, pos := "more.go:44", after := #[{ on := 4, ground := Ground.data }, { on := 2, ground := Ground.guard }], guard := some (2, false) }) (v := .pointer (some ⟨q, 1, none⟩)) rfl (by kernel_rfl) (by kernel_rfl) (by kernel_rfl) (fun _ _ _ h => h) (Or.inl ⟨by kernel_rfl, fun W hSW => by go_simp⟩) (Below.refl _ _) ?_
            try simp only [Act.put, List.setIfInBounds_toArray, List.set_cons_zero, List.set_cons_succ]
            refine wpAnyH_take (i := 6) (oi := { dst := some 101, op := Op.load 35 (Operand.tmp 100), type := 35, pos := "more.go:44", after := #[{ on := 5, ground := Ground.data }, { on := 2, ground := Ground.guard }], guard := some (2, false) }) (v := .int .u64 ((cb + 1 : Nat) : Int)) rfl (by kernel_rfl) (by kernel_rfl) (by kernel_rfl) (fun _ _ _ h => h) (Or.inl ⟨by kernel_rfl, fun W hSW => by have hcq := HMQ.out W hSW; go_simp⟩) (Below.refl _ _) ?_
            try simp only [Act.put, List.setIfInBounds_toArray, List.set_cons_zero, List.set_cons_succ]
            refine wpAnyH_take (i := 7) (oi := { dst := some 102, op := Op.binOp BinOp.neq 35 (Operand.tmp 98) (Operand.tmp 101) 35, type := 4, pos := "more.go:44", after := #[{ on := 3, ground := Ground.data }, { on := 6, ground := Ground.data }, { on := 2, ground := Ground.guard }], guard := some (2, false) }) (v := .bool false) rfl (by kernel_rfl) (by kernel_rfl) (by kernel_rfl) (fun _ _ _ h => h) (Or.inl ⟨by kernel_rfl, fun W hSW => by go_simp⟩) (Below.refl _ _) ?_
            try simp only [Act.put, List.setIfInBounds_toArray, List.set_cons_zero, List.set_cons_succ]
            refine wpAnyH_take (i := 8) (oi := { dst := some 103, op := Op.pick (Operand.tmp 97) (Operand.const (Value.bool true)) (Operand.tmp 102), type := 4, pos := "more.go:44", after := #[{ on := 2, ground := Ground.data }, { on := 7, ground := Ground.data }], guard := none }) (v := .bool false) rfl (by kernel_rfl) (by kernel_rfl) (by kernel_rfl) (fun _ _ _ h => h) (Or.inl ⟨by kernel_rfl, fun W hSW => by go_simp⟩) (Below.refl _ _) ?_
            try simp only [Act.put, List.setIfInBounds_toArray, List.set_cons_zero, List.set_cons_succ]
            refine wpAnyH_take (i := 9) (oi := { dst := some 104, op := Op.move (Operand.tmp 103), type := 4, pos := "more.go:44", after := #[{ on := 8, ground := Ground.data }, { on := 2, ground := Ground.chain }], guard := none }) (v := .bool false) rfl (by kernel_rfl) (by kernel_rfl) (by kernel_rfl) (fun _ _ _ h => h) (Or.inl ⟨by kernel_rfl, fun W hSW => by go_simp⟩) (Below.refl _ _) ?_
            try simp only [Act.put, List.setIfInBounds_toArray, List.set_cons_zero, List.set_cons_succ]
            refine wpAnyH_take (i := 10) (oi := { dst := some 105, op := Op.move (Operand.tmp 11), type := 3, pos := "more.go:44", after := #[{ on := 9, ground := Ground.guard }], guard := some (9, false) }) (v := .int .i64 1) rfl (by kernel_rfl) (by kernel_rfl) (by kernel_rfl) (fun _ _ _ h => h) (Or.inl ⟨by kernel_rfl, fun W hSW => by go_simp⟩) (Below.refl _ _) ?_
            try simp only [Act.put, List.setIfInBounds_toArray, List.set_cons_zero, List.set_cons_succ]
            refine wpAnyH_take (i := 11) (oi := { dst := some 106, op := Op.binOp BinOp.add 3 (Operand.tmp 105) (Operand.const (Value.int IntKind.i64 1)) 3, type := 3, pos := "more.go:44", after := #[{ on := 10, ground := Ground.data }, { on := 9, ground := Ground.guard }], guard := some (9, false) }) (v := .int .i64 2) rfl (by kernel_rfl) (by kernel_rfl) (by kernel_rfl) (fun _ _ _ h => h) (Or.inl ⟨by kernel_rfl, fun W hSW => by go_simp⟩) (Below.refl _ _) ?_
            try simp only [Act.put, List.setIfInBounds_toArray, List.set_cons_zero, List.set_cons_succ]
            refine wpAnyH_take (i := 12) (oi := { dst := some 107, op := Op.move (Operand.tmp 12), type := 35, pos := "more.go:44", after := #[{ on := 9, ground := Ground.guard }], guard := some (9, false) }) (v := .int .u64 ((cb + 1 : Nat) : Int)) rfl (by kernel_rfl) (by kernel_rfl) (by kernel_rfl) (fun _ _ _ h => h) (Or.inl ⟨by kernel_rfl, fun W hSW => by go_simp⟩) (Below.refl _ _) ?_
            try simp only [Act.put, List.setIfInBounds_toArray, List.set_cons_zero, List.set_cons_succ]
            refine wpAnyH_take (i := 13) (oi := { dst := some 108, op := Op.move (Operand.tmp 0), type := 54, pos := "more.go:44", after := #[{ on := 9, ground := Ground.guard }], guard := some (9, false) }) (v := .slice (some ⟨b, o, none⟩) n c) rfl (by kernel_rfl) (by kernel_rfl) (by kernel_rfl) (fun _ _ _ h => h) (Or.inl ⟨by kernel_rfl, fun W hSW => by go_simp⟩) (Below.refl _ _) ?_
            try simp only [Act.put, List.setIfInBounds_toArray, List.set_cons_zero, List.set_cons_succ]
            refine wpAnyH_take (i := 14) (oi := { dst := some 109, op := Op.move (Operand.tmp 9), type := 3, pos := "more.go:44", after := #[{ on := 9, ground := Ground.guard }], guard := some (9, false) }) (v := .int .i64 (k : Int)) rfl (by kernel_rfl) (by kernel_rfl) (by kernel_rfl) (fun _ _ _ h => h) (Or.inl ⟨by kernel_rfl, fun W hSW => by go_simp⟩) (Below.refl _ _) ?_
            try simp only [Act.put, List.setIfInBounds_toArray, List.set_cons_zero, List.set_cons_succ]
            refine wpAnyH_take (i := 15) (oi := { dst := some 110, op := Op.indexAddr 54 (Operand.tmp 108) (Operand.tmp 109), type := 0, pos := "more.go:44", after := #[{ on := 13, ground := Ground.data }, { on := 14, ground := Ground.data }, { on := 9, ground := Ground.guard }], guard := some (9, false) }) (v := .pointer (some ⟨b, o + k * 2, none⟩)) rfl (by kernel_rfl) (by kernel_rfl) (by kernel_rfl) (fun _ _ _ h => h) (Or.inl ⟨by kernel_rfl, fun W hSW => by go_simp⟩) (Below.refl _ _) ?_
            try simp only [Act.put, List.setIfInBounds_toArray, List.set_cons_zero, List.set_cons_succ]
            refine wpAnyH_take (i := 16) (oi := { dst := some 111, op := Op.fieldAddr 57 (Operand.tmp 110) 1, type := 0, pos := "more.go:44", after := #[{ on := 15, ground := Ground.data }, { on := 9, ground := Ground.guard }], guard := some (9, false) }) (v := .pointer (some ⟨b, o + k * 2 + 1, none⟩)) rfl (by kernel_rfl) (by kernel_rfl) (by kernel_rfl) (fun _ _ _ h => h) (Or.inl ⟨by kernel_rfl, fun W hSW => by go_simp⟩) (Below.refl _ _) ?_
            try simp only [Act.put, List.setIfInBounds_toArray, List.set_cons_zero, List.set_cons_succ]
            refine wpAnyH_take (i := 17) (oi := { dst := some 112, op := Op.load 29 (Operand.tmp 111), type := 29, pos := "more.go:44", after := #[{ on := 16, ground := Ground.data }, { on := 9, ground := Ground.guard }], guard := some (9, false) }) (v := .slice x.adr m x.room) rfl (by kernel_rfl) (by kernel_rfl) (by kernel_rfl) (fun _ _ _ h => h) (Or.inl ⟨by kernel_rfl, fun W hSW => by have hcv := HCB.out W (HSX.out W hSW); go_simp⟩) (Below.refl _ _) ?_
            try simp only [Act.put, List.setIfInBounds_toArray, List.set_cons_zero, List.set_cons_succ]
            refine wpAnyH_take (i := 18) (oi := { dst := some 113, op := Op.load 36 (Operand.tmp 13), type := 36, pos := "more.go:44", after := #[{ on := 9, ground := Ground.guard }], guard := some (9, false) }) (v := .agg (u8s T).toArray) rfl (by kernel_rfl) (by kernel_rfl) (by kernel_rfl) (fun _ _ _ h => h) (Or.inl ⟨by kernel_rfl, fun W hSW => exec_load_mid 36 (.tmp 13) rfl w7.heap.size 0 rfl (u8s T) _ (range_block ((hSW.block _ HTG.out.2).trans HTG.out.1) 0 _ (fun j v hv => by rw [Nat.zero_add]; exact hv)) Tryd.underlying36 rfl HIT.out⟩) (Below.refl _ _) ?_
            try simp only [Act.put, List.setIfInBounds_toArray, List.set_cons_zero, List.set_cons_succ]
            refine wpAnyH_ready (rs := [19]) (by kernel_rfl) (by simp) ?_
            refine AllReadyH.cons (o := { dst := some 114, op := Op.call { callee := Callee.value (Operand.func 14), args := #[Operand.tmp 106, Operand.tmp 107, Operand.tmp 112, Operand.tmp 113], argTypes := #[3, 35, 29, 36] }, type := 4, pos := "more.go:44", after := #[{ on := 11, ground := Ground.data }, { on := 12, ground := Ground.data }, { on := 17, ground := Ground.data }, { on := 18, ground := Ground.data }, { on := 9, ground := Ground.chain }, { on := 9, ground := Ground.guard }], guard := some (9, false) }) rfl (fun K' hK' => ?_) AllReadyH.nil
            go_simp
            go_at_call 14
            refine (HC1.out w10 (HSX.out w10 (Below.refl _ _))).mono ?_
            rintro E w11 ⟨rfl, HBw11⟩
            refine hK'.out _ _ HBw11.out (fun _ => wpAnyH_next HBw11.out ?_)
            clear hK' K'
            try simp only [Act.put, List.setIfInBounds_toArray, List.set_cons_zero, List.set_cons_succ]
            have TQ := Lib.hid (TQ.out.next HBw11.out)
            have HSX : Hid (∀ W, Below w11.heap.size w11 W → Below w.heap.size w W) := Lib.hid fun W hb => HSX.out W (HBw11.out.trans (hb.mono HBw11.out.size))
            have HTG : Hid (w11.heap[w7.heap.size]? = some (.cells (u8s T).toArray 36 (0, 0)) ∧ w7.heap.size < w11.heap.size) := Lib.hid ⟨(HBw11.out.block _ HTG.out.2).trans HTG.out.1, Nat.lt_of_lt_of_le HTG.out.2 HBw11.out.size⟩
            clear HBw11
            refine wpAnyH_take (i := 20) (oi := { dst := some 115, op := Op.unOp UnOp.not 4 (Operand.tmp 114), type := 4, pos := "more.go:44", after := #[{ on := 19, ground := Ground.data }, { on := 9, ground := Ground.guard }], guard := some (9, false) }) (v := .bool false) rfl (by kernel_rfl) (by kernel_rfl) (by kernel_rfl) (fun _ _ _ h => h) (Or.inl ⟨by kernel_rfl, fun W hSW => by go_simp⟩) (Below.refl _ _) ?_
            try simp only [Act.put, List.setIfInBounds_toArray, List.set_cons_zero, List.set_cons_succ]
            refine wpAnyH_take (i := 21) (oi := { dst := some 116, op := Op.pick (Operand.tmp 104) (Operand.const (Value.bool true)) (Operand.tmp 115), type := 4, pos := "more.go:44", after := #[{ on := 9, ground := Ground.data }, { on := 20, ground := Ground.data }], guard := none }) (v := .bool false) rfl (by kernel_rfl) (by kernel_rfl) (by kernel_rfl) (fun _ _ _ h => h) (Or.inl ⟨by kernel_rfl, fun W hSW => by go_simp⟩) (Below.refl _ _) ?_
            try simp only [Act.put, List.setIfInBounds_toArray, List.set_cons_zero, List.set_cons_succ]
            refine wpAnyH_take (i := 22) (oi := { dst := some 117, op := Op.move (Operand.tmp 116), type := 4, pos := "more.go:44", after := #[{ on := 21, ground := Ground.data }, { on := 19, ground := Ground.chain }], guard := none }) (v := .bool false) rfl (by kernel_rfl) (by kernel_rfl) (by kernel_rfl) (fun _ _ _ h => h) (Or.inl ⟨by kernel_rfl, fun W hSW => by go_simp⟩) (Below.refl _ _) ?_
            try simp only [Act.put, List.setIfInBounds_toArray, List.set_cons_zero, List.set_cons_succ]
            refine wpAnyH_take (i := 23) (oi := { dst := some 118, op := Op.move (Operand.tmp 12), type := 35, pos := "more.go:44", after := #[{ on := 22, ground := Ground.guard }], guard := some (22, false) }) (v := .int .u64 ((cb + 1 : Nat) : Int)) rfl (by kernel_rfl) (by kernel_rfl) (by kernel_rfl) (fun _ _ _ h => h) (Or.inl ⟨by kernel_rfl, fun W hSW => by go_simp⟩) (Below.refl _ _) ?_
            try simp only [Act.put, List.setIfInBounds_toArray, List.set_cons_zero, List.set_cons_succ]
            refine wpAnyH_take (i := 24) (oi := { dst := some 119, op := Op.move (Operand.tmp 0), type := 54, pos := "more.go:44", after := #[{ on := 22, ground := Ground.guard }], guard := some (22, false) }) (v := .slice (some ⟨b, o, none⟩) n c) rfl (by kernel_rfl) (by kernel_rfl) (by kernel_rfl) (fun _ _ _ h => h) (Or.inl ⟨by kernel_rfl, fun W hSW => by go_simp⟩) (Below.refl _ _) ?_
            try simp only [Act.put, List.setIfInBounds_toArray, List.set_cons_zero, List.set_cons_succ]
            refine wpAnyH_take (i := 25) (oi := { dst := some 120, op := Op.move (Operand.tmp 9), type := 3, pos := "more.go:44", after := #[{ on := 22, ground := Ground.guard }], guard := some (22, false) }) (v := .int .i64 (k : Int)) rfl (by kernel_rfl) (by kernel_rfl) (by kernel_rfl) (fun _ _ _ h => h) (Or.inl ⟨by kernel_rfl, fun W hSW => by go_simp⟩) (Below.refl _ _) ?_
            try simp only [Act.put, List.setIfInBounds_toArray, List.set_cons_zero, List.set_cons_succ]
            refine wpAnyH_take (i := 26) (oi := { dst := some 121, op := Op.indexAddr 54 (Operand.tmp 119) (Operand.tmp 120), type := 0, pos := "more.go:44", after := #[{ on := 24, ground := Ground.data }, { on := 25, ground := Ground.data }, { on := 22, ground := Ground.guard }], guard := some (22, false) }) (v := .pointer (some ⟨b, o + k * 2, none⟩)) rfl (by kernel_rfl) (by kernel_rfl) (by kernel_rfl) (fun _ _ _ h => h) (Or.inl ⟨by kernel_rfl, fun W hSW => by go_simp⟩) (Below.refl _ _) ?_
            try simp only [Act.put, List.setIfInBounds_toArray, List.set_cons_zero, List.set_cons_succ]
            refine wpAnyH_take (i := 27) (oi := { dst := some 122, op := Op.fieldAddr 57 (Operand.tmp 121) 1, type := 0, pos := "more.go:44", after := #[{ on := 26, ground := Ground.data }, { on := 22, ground := Ground.guard }], guard := some (22, false) }) (v := .pointer (some ⟨b, o + k * 2 + 1, none⟩)) rfl (by kernel_rfl) (by kernel_rfl) (by kernel_rfl) (fun _ _ _ h => h) (Or.inl ⟨by kernel_rfl, fun W hSW => by go_simp⟩) (Below.refl _ _) ?_
            try simp only [Act.put, List.setIfInBounds_toArray, List.set_cons_zero, List.set_cons_succ]
            refine wpAnyH_take (i := 28) (oi := { dst := some 123, op := Op.load 29 (Operand.tmp 122), type := 29, pos := "more.go:44", after := #[{ on := 27, ground := Ground.data }, { on := 22, ground := Ground.guard }], guard := some (22, false) }) (v := .slice x.adr m x.room) rfl (by kernel_rfl) (by kernel_rfl) (by kernel_rfl) (fun _ _ _ h => h) (Or.inl ⟨by kernel_rfl, fun W hSW => by have hcv := HCB.out W (HSX.out W hSW); go_simp⟩) (Below.refl _ _) ?_
            try simp only [Act.put, List.setIfInBounds_toArray, List.set_cons_zero, List.set_cons_succ]
            refine wpAnyH_take (i := 29) (oi := { dst := some 124, op := Op.load 36 (Operand.tmp 13), type := 36, pos := "more.go:44", after := #[{ on := 22, ground := Ground.guard }], guard := some (22, false) }) (v := .agg (u8s T).toArray) rfl (by kernel_rfl) (by kernel_rfl) (by kernel_rfl) (fun _ _ _ h => h) (Or.inl ⟨by kernel_rfl, fun W hSW => exec_load_mid 36 (.tmp 13) rfl w7.heap.size 0 rfl (u8s T) _ (range_block ((hSW.block _ HTG.out.2).trans HTG.out.1) 0 _ (fun j v hv => by rw [Nat.zero_add]; exact hv)) Tryd.underlying36 rfl HIT.out⟩) (Below.refl _ _) ?_
            try simp only [Act.put, List.setIfInBounds_toArray, List.set_cons_zero, List.set_cons_succ]
            refine wpAnyH_ready (rs := [30]) (by kernel_rfl) (by simp) ?_
            refine AllReadyH.cons (o := { dst := some 125, op := Op.call { callee := Callee.value (Operand.func 14), args := #[Operand.const (Value.int IntKind.i64 0), Operand.tmp 118, Operand.tmp 123, Operand.tmp 124], argTypes := #[3, 35, 29, 36] }, type := 4, pos := "more.go:44", after := #[{ on := 23, ground := Ground.data }, { on := 28, ground := Ground.data }, { on := 29, ground := Ground.data }, { on := 22, ground := Ground.chain }, { on := 22, ground := Ground.guard }], guard := some (22, false) }) rfl (fun K' hK' => ?_) AllReadyH.nil
            go_simp
            go_at_call 14
            refine (HC2.out w11 (HSX.out w11 (Below.refl _ _))).mono ?_
            rintro E w12 ⟨rfl, HBw12⟩
            refine hK'.out _ _ HBw12.out (fun _ => wpAnyH_next HBw12.out ?_)
            clear hK' K'
            try simp only [Act.put, List.setIfInBounds_toArray, List.set_cons_zero, List.set_cons_succ]
            have TQ := Lib.hid (TQ.out.next HBw12.out)
            have HSX : Hid (∀ W, Below w12.heap.size w12 W → Below w.heap.size w W) := Lib.hid fun W hb => HSX.out W (HBw12.out.trans (hb.mono HBw12.out.size))
            have HTG : Hid (w12.heap[w7.heap.size]? = some (.cells (u8s T).toArray 36 (0, 0)) ∧ w7.heap.size < w12.heap.size) := Lib.hid ⟨(HBw12.out.block _ HTG.out.2).trans HTG.out.1, Nat.lt_of_lt_of_le HTG.out.2 HBw12.out.size⟩
            clear HBw12
            refine wpAnyH_take (i := 31) (oi := { dst := some 126, op := Op.pick (Operand.tmp 117) (Operand.const (Value.bool true)) (Operand.tmp 125), type := 4, pos := "more.go:44", after := #[{ on := 22, ground := Ground.data }, { on := 30, ground := Ground.data }], guard := none }) (v := .bool false) rfl (by kernel_rfl) (by kernel_rfl) (by kernel_rfl) (fun _ _ _ h => h) (Or.inl ⟨by kernel_rfl, fun W hSW => by go_simp⟩) (Below.refl _ _) ?_
            try simp only [Act.put, List.setIfInBounds_toArray, List.set_cons_zero, List.set_cons_succ]
            refine wpAnyH_take (i := 32) (oi := { dst := some 127, op := Op.move (Operand.tmp 126), type := 4, pos := "more.go:44", after := #[{ on := 31, ground := Ground.data }, { on := 30, ground := Ground.chain }], guard := none }) (v := .bool false) rfl (by kernel_rfl) (by kernel_rfl) (by kernel_rfl) (fun _ _ _ h => h) (Or.inl ⟨by kernel_rfl, fun W hSW => by go_simp⟩) (Below.refl _ _) ?_
            try simp only [Act.put, List.setIfInBounds_toArray, List.set_cons_zero, List.set_cons_succ]
            refine wpAnyH_take (i := 33) (oi := { dst := some 128, op := Op.move (Operand.tmp 11), type := 3, pos := "more.go:44", after := #[{ on := 32, ground := Ground.guard }], guard := some (32, false) }) (v := .int .i64 1) rfl (by kernel_rfl) (by kernel_rfl) (by kernel_rfl) (fun _ _ _ h => h) (Or.inl ⟨by kernel_rfl, fun W hSW => by go_simp⟩) (Below.refl _ _) ?_
            try simp only [Act.put, List.setIfInBounds_toArray, List.set_cons_zero, List.set_cons_succ]
            refine wpAnyH_take (i := 34) (oi := { dst := some 129, op := Op.binOp BinOp.add 3 (Operand.tmp 128) (Operand.const (Value.int IntKind.i64 1)) 3, type := 3, pos := "more.go:44", after := #[{ on := 33, ground := Ground.data }, { on := 32, ground := Ground.guard }], guard := some (32, false) }) (v := .int .i64 2) rfl (by kernel_rfl) (by kernel_rfl) (by kernel_rfl) (fun _ _ _ h => h) (Or.inl ⟨by kernel_rfl, fun W hSW => by go_simp⟩) (Below.refl _ _) ?_
            try simp only [Act.put, List.setIfInBounds_toArray, List.set_cons_zero, List.set_cons_succ]
            refine wpAnyH_take (i := 35) (oi := { dst := some 130, op := Op.move (Operand.tmp 0), type := 54, pos := "more.go:44", after := #[{ on := 32, ground := Ground.guard }], guard := some (32, false) }) (v := .slice (some ⟨b, o, none⟩) n c) rfl (by kernel_rfl) (by kernel_rfl) (by kernel_rfl) (fun _ _ _ h => h) (Or.inl ⟨by kernel_rfl, fun W hSW => by go_simp⟩) (Below.refl _ _) ?_
            try simp only [Act.put, List.setIfInBounds_toArray, List.set_cons_zero, List.set_cons_succ]
            refine wpAnyH_take (i := 36) (oi := { dst := some 131, op := Op.move (Operand.tmp 9), type := 3, pos := "more.go:44", after := #[{ on := 32, ground := Ground.guard }], guard := some (32, false) }) (v := .int .i64 (k : Int)) rfl (by kernel_rfl) (by kernel_rfl) (by kernel_rfl) (fun _ _ _ h => h) (Or.inl ⟨by kernel_rfl, fun W hSW => by go_simp⟩) (Below.refl _ _) ?_
            try simp only [Act.put, List.setIfInBounds_toArray, List.set_cons_zero, List.set_cons_succ]
            refine wpAnyH_take (i := 37) (oi := { dst := some 132, op := Op.indexAddr 54 (Operand.tmp 130) (Operand.tmp 131), type := 0, pos := "more.go:44", after := #[{ on := 35, ground := Ground.data }, { on := 36, ground := Ground.data }, { on := 32, ground := Ground.guard }], guard := some (32, false) }) (v := .pointer (some ⟨b, o + k * 2, none⟩)) rfl (by kernel_rfl) (by kernel_rfl) (by kernel_rfl) (fun _ _ _ h => h) (Or.inl ⟨by kernel_rfl, fun W hSW => by go_simp⟩) (Below.refl _ _) ?_
            try simp only [Act.put, List.setIfInBounds_toArray, List.set_cons_zero, List.set_cons_succ]
            refine wpAnyH_take (i := 38) (oi := { dst := some 133, op := Op.fieldAddr 57 (Operand.tmp 132) 1, type := 0, pos := "more.go:44", after := #[{ on := 37, ground := Ground.data }, { on := 32, ground := Ground.guard }], guard := some (32, false) }) (v := .pointer (some ⟨b, o + k * 2 + 1, none⟩)) rfl (by kernel_rfl) (by kernel_rfl) (by kernel_rfl) (fun _ _ _ h => h) (Or.inl ⟨by kernel_rfl, fun W hSW => by go_simp⟩) (Below.refl _ _) ?_
            try simp only [Act.put, List.setIfInBounds_toArray, List.set_cons_zero, List.set_cons_succ]
            refine wpAnyH_take (i := 39) (oi := { dst := some 134, op := Op.load 29 (Operand.tmp 133), type := 29, pos := "more.go:44", after := #[{ on := 38, ground := Ground.data }, { on := 32, ground := Ground.guard }], guard := some (32, false) }) (v := .slice x.adr m x.room) rfl (by kernel_rfl) (by kernel_rfl) (by kernel_rfl) (fun _ _ _ h => h) (Or.inl ⟨by kernel_rfl, fun W hSW => by have hcv := HCB.out W (HSX.out W hSW); go_simp⟩) (Below.refl _ _) ?_
            try simp only [Act.put, List.setIfInBounds_toArray, List.set_cons_zero, List.set_cons_succ]
            refine wpAnyH_take (i := 40) (oi := { dst := some 135, op := Op.load 36 (Operand.tmp 13), type := 36, pos := "more.go:44", after := #[{ on := 32, ground := Ground.guard }], guard := some (32, false) }) (v := .agg (u8s T).toArray) rfl (by kernel_rfl) (by kernel_rfl) (by kernel_rfl) (fun _ _ _ h => h) (Or.inl ⟨by kernel_rfl, fun W hSW => exec_load_mid 36 (.tmp 13) rfl w7.heap.size 0 rfl (u8s T) _ (range_block ((hSW.block _ HTG.out.2).trans HTG.out.1) 0 _ (fun j v hv => by rw [Nat.zero_add]; exact hv)) Tryd.underlying36 rfl HIT.out⟩) (Below.refl _ _) ?_
            try simp only [Act.put, List.setIfInBounds_toArray, List.set_cons_zero, List.set_cons_succ]
            refine wpAnyH_ready (rs := [41]) (by kernel_rfl) (by simp) ?_
            refine AllReadyH.cons (o := { dst := some 136, op := Op.call { callee := Callee.value (Operand.func 14), args := #[Operand.tmp 129, Operand.const (Value.int IntKind.u64 0), Operand.tmp 134, Operand.tmp 135], argTypes := #[3, 35, 29, 36] }, type := 4, pos := "more.go:44", after := #[{ on := 34, ground := Ground.data }, { on := 39, ground := Ground.data }, { on := 40, ground := Ground.data }, { on := 32, ground := Ground.chain }, { on := 32, ground := Ground.guard }], guard := some (32, false) }) rfl (fun K' hK' => ?_) AllReadyH.nil
            go_simp
            go_at_call 14
            refine (HC3.out w12 (HSX.out w12 (Below.refl _ _))).mono ?_
            rintro E w13 ⟨rfl, HBw13⟩
            refine hK'.out _ _ HBw13.out (fun _ => wpAnyH_next HBw13.out ?_)
            clear hK' K'
            try simp only [Act.put, List.setIfInBounds_toArray, List.set_cons_zero, List.set_cons_succ]
            have TQ := Lib.hid (TQ.out.next HBw13.out)
            have HSX : Hid (∀ W, Below w13.heap.size w13 W → Below w.heap.size w W) := Lib.hid fun W hb => HSX.out W (HBw13.out.trans (hb.mono HBw13.out.size))
            have HTG : Hid (w13.heap[w7.heap.size]? = some (.cells (u8s T).toArray 36 (0, 0)) ∧ w7.heap.size < w13.heap.size) := Lib.hid ⟨(HBw13.out.block _ HTG.out.2).trans HTG.out.1, Nat.lt_of_lt_of_le HTG.out.2 HBw13.out.size⟩
            clear HBw13
            refine wpAnyH_take (i := 42) (oi := { dst := some 137, op := Op.pick (Operand.tmp 127) (Operand.const (Value.bool true)) (Operand.tmp 136), type := 4, pos := "more.go:44", after := #[{ on := 32, ground := Ground.data }, { on := 41, ground := Ground.data }], guard := none }) (v := .bool false) rfl (by kernel_rfl) (by kernel_rfl) (by kernel_rfl) (fun _ _ _ h => h) (Or.inl ⟨by kernel_rfl, fun W hSW => by go_simp⟩) (Below.refl _ _) ?_
            try simp only [Act.put, List.setIfInBounds_toArray, List.set_cons_zero, List.set_cons_succ]
            refine wpAnyH_done (by kernel_rfl) ?_ _
            go_wp2_with fail
            go_roundw
            case measure => simp [intOf]; omega
            case rel => exact ⟨k + 1, by omega, by go_num, ca, cb + 1, bA, Oct.be 8 (cb + 1) ++ x.bs, aA, 1 - aB, nA, _, s7, Lib.hid ⟨TQ.out.sub fun p hp => by simp only [List.mem_cons, List.not_mem_nil, or_false] at hp ⊢; rcases hp with rfl | rfl | rfl <;> simp, HB7.out, HO7.out, HI7.out, HNN.out.1, (seal_be (cb + 1) x.bs (by have := HLE.out; omega)).1, by have := HLE.out; omega⟩⟩
        · go_wp2_with (first | (go_at_call 9; refine (HW.out _ HD.out.two.dat.below).mono ?_; rintro E wz ⟨rfl, hbz⟩))
          all_goals (go_ret; exact ⟨rfl, HD.out.two.dat.below.trans (hbz.mono HD.out.two.dat.below.size)⟩)
      · obtain rfl : k = n := by omega
        clear hkk hkn
        have HL1 := Lib.hid (two_last HD.out.two 1 (.tail _ (.head _)) HK.out h0 ca HD.out.nA)
        have hLT : ∀ i bs, (lastT i bs).length = 32 := fun i bs => by unfold lastT; split; rfl; exact Sh.numTag_length _ _ _
        have HTA := Lib.hid (hLT 1 bA)
        have HTB := Lib.hid (hLT 2 bB)
        have HL2 : Hid (∀ W, TwoAt w d (40 + 10 * k) s [(q, manyOf ca cb), (ua, usOf ga 1), (ub, usOf gb 2)] 0 ga bA (aA : Int) 20 gb bB (aB : Int) W → Calls Tryd.prog 13 #[.pointer (some ⟨ub, 0, none⟩)] W fun E w' => ∃ A m c, E = .returned (.tuple #[.int .u64 (cb : Int), .slice A m c, tagV (lastT 2 bB)]) ∧ Hid (TwoAt w d (40 + 10 * k) s [(q, manyOf ca cb), (ua, usOf ga 1), (ub, usOf gb 2)] 0 ga bA (aA : Int) 20 gb bB (aB : Int) w')) := Lib.hid fun W h => (two_last h.swap 2 (.tail _ (.tail _ (.head _))) HK.out h0 cb HD.out.nB).mono fun E w' ⟨A, m, c, e, h2⟩ => ⟨A, m, c, e, Lib.hid h2.out.swap⟩
        unfold tagV at HL1 HL2
        generalize lastT 1 bA = TA at HL1 HTA
        generalize lastT 2 bB = TB at HL2 HTB
        clear hLT HD
        have HIA : Hid ((Tryd.prog.info? 36).map (·.size) = some (u8s TA).length) := Lib.hid (tag_info HTA.out)
        have HOA : Hid (∀ v ∈ u8s TA, v.oneCell' = true) := Lib.hid (u8s_one _)
        have HZA := Lib.hid (HLZ.out _ HTA.out)
        have HIB : Hid ((Tryd.prog.info? 36).map (·.size) = some (u8s TB).length) := Lib.hid (tag_info HTB.out)
        have HOB : Hid (∀ v ∈ u8s TB, v.oneCell' = true) := Lib.hid (u8s_one _)
        have HZB := Lib.hid (HLZ.out _ HTB.out)
        go_wp2_with fail
        refine HL1.out.mono ?_
        rintro E w7 ⟨A7, m7, c7, rfl, H7⟩
        clear HL1
        have T7 := Lib.hid (H7.out.lit (.cells Z.toArray 36 (0, 0)))
        have hL7 : Hid (∀ p ∈ [(q, manyOf ca cb), (ua, usOf ga 1), (ub, usOf gb 2)], p.1 ≠ w7.heap.size) := Lib.hid fun p hp => by have := H7.out.dat.lt (q := p.1) (o := p.2) hp; omega
        have HA7 : Hid ((w7.alloc (.cells Z.toArray 36)).heap[w7.heap.size]? = some (.cells Z.toArray 36 (0, 0))) := Lib.hid (row_new _ _ _)
        go_wp2_with (first | (refine wpList_store_all rfl 36 (.tmp 17) (.tmp 143) rfl w7.heap.size Z (u8s TA) 36 HA7.out HZA.out rfl rfl HIA.out HOA.out ?_; intro w8 G8))
        have T8 := Lib.hid ((T7.out.upd hL7.out G8.out.1 G8.out.2).sub (L' := [(q, manyOf ca cb), (ua, usOf ga 1), (ub, usOf gb 2)]) fun p hp => .tail _ hp)
        clear T7 hL7 HA7 G8 H7
        refine (HL2.out w8 T8.out).mono ?_
        rintro E w9 ⟨A9, m9, c9, rfl, H9⟩
        clear HL2 T8
        have T9 := Lib.hid (H9.out.lit (.cells Z.toArray 36 (0, 0)))
        have hL9 : Hid (∀ p ∈ [(q, manyOf ca cb), (ua, usOf ga 1), (ub, usOf gb 2)], p.1 ≠ w9.heap.size) := Lib.hid fun p hp => by have := H9.out.dat.lt (q := p.1) (o := p.2) hp; omega
        have HA9 : Hid ((w9.alloc (.cells Z.toArray 36)).heap[w9.heap.size]? = some (.cells Z.toArray 36 (0, 0))) := Lib.hid (row_new _ _ _)
        go_wp2_with (first | (refine wpList_store_all rfl 36 (.tmp 20) (.tmp 149) rfl w9.heap.size Z (u8s TB) 36 HA9.out HZB.out rfl rfl HIB.out HOB.out ?_; intro w10 G10; have T10 := Lib.hid (T9.out.upd hL9.out G10.out.1 G10.out.2); have hq10 := T10.out.dat.get (q := q) (o := manyOf ca cb) (.tail _ (.head _)); have c0 : w10.cell? ⟨q, 0, none⟩ = some (.int .u64 (ca : Int)) := block_cell (C := [.int .u64 (ca : Int), .int .u64 (cb : Int)]) hq10 0 _ rfl; have c1 : w10.cell? ⟨q, 1, none⟩ = some (.int .u64 (cb : Int)) := block_cell (C := [.int .u64 (ca : Int), .int .u64 (cb : Int)]) hq10 1 _ rfl; have HB10 := Lib.hid T10.out.dat.below; clear hq10))
        refine (HW.out _ HB10.out).mono ?_
        rintro E w11 ⟨rfl, hb11⟩
        go_wp2_with fail
        go_ret
        exact ⟨rfl, HB10.out.trans (hb11.mono HB10.out.size)⟩
  · go_enter Tryd.func7, Tryd.ntmps7
    go_wp2_with (first | (go_at_call 9; refine (HW.out _ HR0.out).mono ?_; rintro E wz ⟨rfl, hb⟩))
    go_ret
    exact ⟨rfl, hb⟩
end Go.Proofs.YtepjfkmbmcfnoaaDoor
