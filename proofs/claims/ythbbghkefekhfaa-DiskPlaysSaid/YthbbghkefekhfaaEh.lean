/-
  What is proved: what the document's On does. Conditions as stated.
-/
import Derived.Test.YthbbghkefekhfaaEg
namespace Go.Proofs.Ythbbghkefekhfaa
open Go.RowKit

theorem fill_l (x : Int) (Z : List Value) (c : Value) (hZ : Z.length = 128) :
    Instr.fill (fun i => (#[(0, 1), (1, 128), (129, 1)] : Array (Nat × Nat))[i]?) (.int .i64 0 :: (Z ++ [c])).toArray [(0, .int .i64 x), (2, .bool true)] = some (.int .i64 x :: (Z ++ [.bool true])).toArray := by
  have m1 := fill_mid [] [.int .i64 0] (Z ++ [c]) [.int .i64 x] rfl
  have m2 := fill_mid (.int .i64 x :: Z) [c] [] [.bool true] rfl
  have e0 : (Value.agg [Value.int .i64 x].toArray).cells = (Value.int .i64 x).cells := rfl
  have e1 : (Value.agg [Value.bool true].toArray).cells = (Value.bool true).cells := rfl
  rw [e0] at m1
  rw [e1] at m2
  rw [fill_cons _ _ 0 _ _ 0 1 rfl rfl (by simp [Value.cells])]
  simp only [List.length_nil, List.nil_append, List.cons_append] at m1
  rw [m1]
  rw [fill_cons _ _ 2 _ _ 129 1 rfl rfl (by simp [Value.cells, hZ])]
  simp only [List.length_cons, hZ, List.cons_append, List.append_nil] at m2
  rw [m2]
  rfl
theorem buildL (x : Int) (w : World) : (Instr.build 68 #[(0, .int .i64 x), (2, .bool true)]).run Try.prog w = .ok (.agg (rcells (x, zeros, true)).toArray) w := by
  refine run_build w 68 _ _ ?_
  have e : ∀ parts, Try.prog.built 68 parts = Instr.fill (fun i => (#[(0, 1), (1, 128), (129, 1)] : Array (Nat × Nat))[i]?) (.int .i64 0 :: (u8s zeros ++ [.bool false])).toArray parts := fun _ => by kernel_rfl
  rw [e]
  exact fill_l x (u8s zeros) _ (by rw [u8s_length]; rfl)
theorem wpList_buildL {w : World} {ops : Array Oper} {rest : List Oper} {o : Oper} {a : Act} {Q : Exit → Act → World → Prop} (hgd : o.guard = none) (x y : Operand) (ho : o.op = .build 68 #[(0, x), (2, y)]) (v : Int) (L : List Value) (hL : L = rcells (v, zeros, true))
    (hx : a.eval x = .int .i64 v) (hy : a.eval y = .bool true) (h : wpList Try.prog ops Q rest (a.put o.dst (.agg L.toArray)) w) : wpList Try.prog ops Q (o :: rest) a w := by
  subst hL
  refine wpList_plain hgd fun K hK => ?_
  unfold Oper.wp execOp
  simp only [ho, List.map_toArray, List.map_cons, List.map_nil, hx, hy, Sem.run_bind, buildL v w, Result.andThen_ok]
  exact hK _ _ h
theorem on_end {wr w' : World} {w1 : World} {S : Nat → Prop} {r T n0 : Nat} {s : Dk} {fz : Int} {V2 : Value} {t : Nat → Nat} {k : Nat} {Sk : Nat → Prop} {V1 : Value} {sl : List (Int × List UInt8 × Bool)} (h : Mid w1 S wr r T n0 s fz V2 t k Sk V1 sl) (hk : k = s.loose.length) (hm : n0 + s.loose.length ≤ T)
    (hw : w' = ((wr.setCell ⟨r, 1, none⟩ (.slice none 0 0)).setCell ⟨r, 2, none⟩ (.bool false)).setCell ⟨r, 3, none⟩ (.int .i64 (-1))) : ∃ S', RefIs w' S' r T (Dk.settle { s with off := false, fuse := none } t) ∧ Own w1 S w' S' := by
  subst hw
  have hS := h.rep.own r (.inl rfl)
  refine ⟨Sk, ⟨-1, V1, .slice none 0 0, sl, ?_⟩, h.own.trans (Own.same (((turns_cell hS _ _).trans (turns_cell hS _ _)).trans (turns_cell hS _ _)))⟩
  have he := h.rep.emptied (w' := ((wr.setCell ⟨r, 1, none⟩ (.slice none 0 0)).setCell ⟨r, 2, none⟩ (.bool false)).setCell ⟨r, 3, none⟩ (.int .i64 (-1))) (T' := T) (off' := false) (fz' := -1) (fuse' := none)
    (fun i _ hi => ((Below.heap_setCell _ _ _ _ hi).trans (Below.heap_setCell _ _ _ _ hi)).trans (Below.heap_setCell _ _ _ _ hi)) (by simp [World.setCell]) (heap_set (k := 3) (heap_set (k := 2) (heap_set (k := 1) h.rep.hd _) _) _) rfl (by omega) (by have := h.short; omega)
  have e : Dk.settle { s with off := false, fuse := none } t = { s.part t k with off := false, fuse := none, loose := [] } := by
    unfold Dk.settle Dk.part
    rw [hk, List.take_length]
  rw [e]
  exact he

set_option maxHeartbeats 4000000 in
set_option maxRecDepth 100000 in
theorem refOn_any {w : World} {S : Nat → Prop} {r T : Nat} {s : Dk} (h : RefIs w S r T s) (hT : T < 100000000) (A : Option Addr) (n c : Nat) (bs : List UInt8) (hr : Rd (fun b => ¬ S b) w A n bs) (hs : Sl A n c) :
    Calls Try.prog 23 #[.pointer (some ⟨r, 0, none⟩), .slice A n c] w fun E w' => E = .returned (.int .i64 (s.on bs).2) ∧ ∃ S', RefIs w' S' r T (s.on bs).1 ∧ Own w S w' S' := by
  have HH := Lib.hid h
  obtain ⟨fz, V1, V2, sl0, h1⟩ := h
  obtain ⟨-, -, c2, -⟩ := h1.cells
  unfold Dk.on
  by_cases ho : s.off = true
  · rw [ho] at c2
    rw [if_pos ho]
    have HO := Lib.hid ho
    obtain ⟨t, ht⟩ : ∃ t : Nat → Nat, t = fun i => (bs.getD i 0).toNat := ⟨_, rfl⟩
    rw [← ht]
    have HTT := Lib.hid ht
    obtain ⟨A2, c2', rfl, hsl⟩ := row_shape h1.row2
    have hsc := hsl.2
    have hpc := hs.2
    have HR := Lib.hid hr
    have HM : Hid (Mid w S w r T sl0.length s fz (.slice A2 s.loose.length c2') t 0 S V1 sl0) := Lib.hid ⟨h1, Nat.le_refl _, Own.same (Turns.refl _ _)⟩
    have HMN := Lib.hid h1.many
    have hn : s.loose.length < 100000000 := by have := h1.many; omega
    obtain ⟨m, hnn⟩ : ∃ m, m = s.loose.length := ⟨_, rfl⟩
    have HNN := Lib.hid hnn
    rw [← hnn] at hn HM hsc
    have hzY : ∃ Y, Y = rcells noW := ⟨_, rfl⟩
    obtain ⟨Y, hY⟩ := hzY
    have hzz : ∀ w, (zeroValue 68).run Try.prog w = .ok (.agg Y.toArray) w := by rw [hY]; exact zero68
    have UY : Hid (Y.length = 130) := Lib.hid (by rw [hY]; rfl)
    clear h1 hsl hnn ht ho hr hs hY HH
    go_enter Try.func23, Try.ntmps23
    go_wp2
    clear c2
    go_loopw [5] (fun v5 wr => ∃ k : Nat, k ≤ m ∧ v5 = .int .i64 (k : Int) ∧ ∃ Sk V1 sl, Hid (Mid w S wr r T sl0.length s fz (.slice A2 m c2') t k Sk V1 sl)) (fun v5 _ => m - (intOf v5).toNat)
    case atStart => exact ⟨0, Nat.zero_le _, rfl, _, _, _, HM⟩
    case round =>
      clear HM
      obtain ⟨k, hkn, rfl, Sk, V1, sl, HM⟩ := hrel
      obtain ⟨-, c1, c2, c3⟩ := HM.out.rep.cells
      by_cases hk : k = m
      · subst hk
        have f1 := free_block HM.out.rep.hd 1
        have f2 := free_block HM.out.rep.hd 2
        have f3 := free_block HM.out.rep.hd 3
        go_wp2
        go_ret
        exact ⟨rfl, on_end HM.out HNN.out HMN.out rfl⟩
      · clear c2 c3
        obtain ⟨p, hp⟩ : ∃ p, s.loose[k]? = some p := ⟨_, List.getElem?_eq_getElem (by have := HNN.out; omega)⟩
        obtain ⟨g, rfl, hrg⟩ := HM.out.rep.soft_at HNN.out (p := p) hp
        have hp128 : (softW p).2.1.length = 128 := HM.out.rep.len p (List.mem_of_getElem? hp)
        have HRG := Lib.hid hrg
        have HP := Lib.hid hp
        have HP128 := Lib.hid hp128
        obtain ⟨W, hW⟩ : ∃ W, W = rcells (softW p) := ⟨_, rfl⟩
        obtain ⟨L, hL⟩ : ∃ L, L = rcells (p.1, zeros, true) := ⟨_, rfl⟩
        have HPL : Hid (W.length = 130) := Lib.hid (by rw [hW]; exact rcells_length hp128)
        have HLL : Hid (L.length = 130) := Lib.hid (by rw [hL]; exact rcells_length rfl)
        have HW1 : Hid (∀ v ∈ W, v.oneCell' = true) := Lib.hid (by rw [hW]; exact rcells_one _)
        have HL1 : Hid (∀ v ∈ L, v.oneCell' = true) := Lib.hid (by rw [hL]; exact rcells_one _)
        rw [← hW] at HRG
        have HW := Lib.hid hW
        have HL := Lib.hid hL
        have HRR : Hid (Rd (fun b => ¬ S b) wr (A) n bs) := Lib.hid (HR.out.turns HM.out.own.1 (fun _ h => h))
        clear hrg hp hp128 hW hL
        by_cases hkp : k < n
        · obtain ⟨b, o, rfl, hb, _, hc⟩ := HRR.out.2 (by omega)
          have hl := HRR.out.1
          have ci := hc k _ (List.getElem?_eq_getElem (by omega))
          have etk : t k = (bs[k]'(by omega)).toNat := by rw [HTT.out]; simp only; rw [List.getD_eq_getElem?_getD, List.getElem?_eq_getElem (by omega)]; rfl
          have HTK := Lib.hid etk
          generalize (bs[k]'(by omega)) = u at ci HTK
          clear hc etk hb hl
          have hu4 : u.toNat % 4 = 0 ∨ u.toNat % 4 = 1 ∨ u.toNat % 4 = 2 ∨ u.toNat % 4 = 3 := by omega
          rcases hu4 with hu | hu | hu | hu
          · have HU := Lib.hid hu
            have hi4 : ((u.toNat : Int)) % 4 = 0 := by omega
            have hi5 : Int.tmod (u.toNat : Int) 4 = 0 := by rw [Int.tmod_eq_emod_of_nonneg (by omega)]; exact hi4
            clear hu
            go_wp2_with (first
              | (refine wpList_load_mid rfl 68 (.tmp 36) rfl g (k * 130) rfl W _ HRG.out Try.underlying68 rfl (by rw [HPL.out]; exact Try.size68) ?_)
              | (refine wpList_store_all rfl 68 (.tmp 7) (.tmp 37) rfl wr.heap.size Y W 68 (row_new wr Y 68) (UY.out.trans HPL.out.symm) rfl rfl (by rw [HPL.out]; exact Try.size68) HW1.out ?_; intro w5 G5; have HB5 : Hid (Below wr.heap.size wr w5) := Lib.hid (below_gb ((Below.refl wr.heap.size wr).alloc (Nat.le_refl _) _) G5.out.2 (Nat.le_refl _) (by simp)); have cx : w5.cell? ⟨wr.heap.size, 0, none⟩ = some (.int .i64 p.1) := block_cell G5.out.1 0 _ (by rw [HW.out]; rfl)))
            go_roundw
            case measure => simp [intOf]; omega
            case rel => exact ⟨k + 1, by omega, by go_num, _, _, _, Lib.hid (HM.out.skip HP.out (by rw [HTK.out]; exact HU.out) HB5.out)⟩
          · have HU := Lib.hid hu
            have hi4 : ((u.toNat : Int)) % 4 = 1 := by omega
            have hi5 : Int.tmod (u.toNat : Int) 4 = 1 := by rw [Int.tmod_eq_emod_of_nonneg (by omega)]; exact hi4
            clear hu
            go_wp2_with (first
              | (refine wpList_load_mid rfl 68 (.tmp 36) rfl g (k * 130) rfl W _ HRG.out Try.underlying68 rfl (by rw [HPL.out]; exact Try.size68) ?_)
              | (refine wpList_store_all rfl 68 (.tmp 7) (.tmp 37) rfl wr.heap.size Y W 68 (row_new wr Y 68) (UY.out.trans HPL.out.symm) rfl rfl (by rw [HPL.out]; exact Try.size68) HW1.out ?_; intro w5 G5; have HB5 : Hid (Below wr.heap.size wr w5) := Lib.hid (below_gb ((Below.refl wr.heap.size wr).alloc (Nat.le_refl _) _) G5.out.2 (Nat.le_refl _) (by simp)); have cx : w5.cell? ⟨wr.heap.size, 0, none⟩ = some (.int .i64 p.1) := block_cell G5.out.1 0 _ (by rw [HW.out]; rfl))
              | (refine wpList_load_mid rfl 68 (.tmp 7) rfl wr.heap.size 0 rfl W _ (range_block G5.out.1 0 _ (fun j v hv => by rw [Nat.zero_add]; exact hv)) Try.underlying68 rfl (by rw [HPL.out]; exact Try.size68) ?_)
              | (go_at_call 34; rw [HW.out]; refine (put_any (HM.out.rep.below HB5.out) (softW p) HP128.out (by omega)).mono ?_; rintro E w7 ⟨rfl, S2, V1', sl', h2, l2, o2⟩; have H2 := Lib.hid h2; have L2 := Lib.hid l2; have O2 := Lib.hid o2; clear h2 l2 o2))
            go_roundw
            case measure => simp [intOf]; omega
            case rel => exact ⟨k + 1, by omega, by go_num, S2, V1', sl', Lib.hid (HM.out.next HP.out (q := (softW p)) (by unfold done; rw [HTK.out, if_neg (by have := HU.out; omega), if_neg (by have := HU.out; omega)]; rfl) H2.out L2.out ((Own.same (Turns.of_below HB5.out)).trans O2.out))⟩
          · have HU := Lib.hid hu
            have hi4 : ((u.toNat : Int)) % 4 = 2 := by omega
            have hi5 : Int.tmod (u.toNat : Int) 4 = 2 := by rw [Int.tmod_eq_emod_of_nonneg (by omega)]; exact hi4
            clear hu
            go_wp2_with (first
              | (refine wpList_load_mid rfl 68 (.tmp 36) rfl g (k * 130) rfl W _ HRG.out Try.underlying68 rfl (by rw [HPL.out]; exact Try.size68) ?_)
              | (refine wpList_store_all rfl 68 (.tmp 7) (.tmp 37) rfl wr.heap.size Y W 68 (row_new wr Y 68) (UY.out.trans HPL.out.symm) rfl rfl (by rw [HPL.out]; exact Try.size68) HW1.out ?_; intro w5 G5; have HB5 : Hid (Below wr.heap.size wr w5) := Lib.hid (below_gb ((Below.refl wr.heap.size wr).alloc (Nat.le_refl _) _) G5.out.2 (Nat.le_refl _) (by simp)); have cx : w5.cell? ⟨wr.heap.size, 0, none⟩ = some (.int .i64 p.1) := block_cell G5.out.1 0 _ (by rw [HW.out]; rfl))
              | (refine wpList_buildL rfl (.tmp 41) (.const (.bool true)) rfl p.1 L HL.out rfl rfl ?_)
              | (refine wpList_store_all rfl 68 (.tmp 7) (.tmp 42) rfl wr.heap.size W L 68 G5.out.1 (HPL.out.trans HLL.out.symm) rfl rfl (by rw [HLL.out]; exact Try.size68) HL1.out ?_; intro w6 G6; have HB6 : Hid (Below wr.heap.size wr w6) := Lib.hid (below_gb HB5.out G6.out.2 (Nat.le_refl _) HB5.out.size))
              | (refine wpList_load_mid rfl 68 (.tmp 7) rfl wr.heap.size 0 rfl L _ (range_block G6.out.1 0 _ (fun j v hv => by rw [Nat.zero_add]; exact hv)) Try.underlying68 rfl (by rw [HLL.out]; exact Try.size68) ?_)
              | (go_at_call 34; rw [HL.out]; refine (put_any (HM.out.rep.below HB6.out) (p.1, zeros, true) rfl (by omega)).mono ?_; rintro E w7 ⟨rfl, S2, V1', sl', h2, l2, o2⟩; have H2 := Lib.hid h2; have L2 := Lib.hid l2; have O2 := Lib.hid o2; clear h2 l2 o2))
            go_roundw
            case measure => simp [intOf]; omega
            case rel => exact ⟨k + 1, by omega, by go_num, S2, V1', sl', Lib.hid (HM.out.next HP.out (q := (p.1, zeros, true)) (by unfold done; rw [HTK.out, if_neg (by have := HU.out; omega), if_pos HU.out]; rfl) H2.out L2.out ((Own.same (Turns.of_below HB6.out)).trans O2.out))⟩
          · have HU := Lib.hid hu
            have hi4 : ((u.toNat : Int)) % 4 = 3 := by omega
            have hi5 : Int.tmod (u.toNat : Int) 4 = 3 := by rw [Int.tmod_eq_emod_of_nonneg (by omega)]; exact hi4
            clear hu
            go_wp2_with (first
              | (refine wpList_load_mid rfl 68 (.tmp 36) rfl g (k * 130) rfl W _ HRG.out Try.underlying68 rfl (by rw [HPL.out]; exact Try.size68) ?_)
              | (refine wpList_store_all rfl 68 (.tmp 7) (.tmp 37) rfl wr.heap.size Y W 68 (row_new wr Y 68) (UY.out.trans HPL.out.symm) rfl rfl (by rw [HPL.out]; exact Try.size68) HW1.out ?_; intro w5 G5; have HB5 : Hid (Below wr.heap.size wr w5) := Lib.hid (below_gb ((Below.refl wr.heap.size wr).alloc (Nat.le_refl _) _) G5.out.2 (Nat.le_refl _) (by simp)); have cx : w5.cell? ⟨wr.heap.size, 0, none⟩ = some (.int .i64 p.1) := block_cell G5.out.1 0 _ (by rw [HW.out]; rfl))
              | (refine wpList_load_mid rfl 68 (.tmp 7) rfl wr.heap.size 0 rfl W _ (range_block G5.out.1 0 _ (fun j v hv => by rw [Nat.zero_add]; exact hv)) Try.underlying68 rfl (by rw [HPL.out]; exact Try.size68) ?_)
              | (go_at_call 34; rw [HW.out]; refine (put_any (HM.out.rep.below HB5.out) (softW p) HP128.out (by omega)).mono ?_; rintro E w7 ⟨rfl, S2, V1', sl', h2, l2, o2⟩; have H2 := Lib.hid h2; have L2 := Lib.hid l2; have O2 := Lib.hid o2; clear h2 l2 o2))
            go_roundw
            case measure => simp [intOf]; omega
            case rel => exact ⟨k + 1, by omega, by go_num, S2, V1', sl', Lib.hid (HM.out.next HP.out (q := (softW p)) (by unfold done; rw [HTK.out, if_neg (by have := HU.out; omega), if_neg (by have := HU.out; omega)]; rfl) H2.out L2.out ((Own.same (Turns.of_below HB5.out)).trans O2.out))⟩
        · have etk : t k % 4 = 0 := by rw [HTT.out]; simp only; rw [List.getD_eq_getElem?_getD, List.getElem?_eq_none (by have := HRR.out.1; omega)]; rfl
          have HTK := Lib.hid etk
          clear etk
          go_wp2_with (first
            | (refine wpList_load_mid rfl 68 (.tmp 36) rfl g (k * 130) rfl W _ HRG.out Try.underlying68 rfl (by rw [HPL.out]; exact Try.size68) ?_)
            | (refine wpList_store_all rfl 68 (.tmp 7) (.tmp 37) rfl wr.heap.size Y W 68 (row_new wr Y 68) (UY.out.trans HPL.out.symm) rfl rfl (by rw [HPL.out]; exact Try.size68) HW1.out ?_; intro w5 G5; have HB5 : Hid (Below wr.heap.size wr w5) := Lib.hid (below_gb ((Below.refl wr.heap.size wr).alloc (Nat.le_refl _) _) G5.out.2 (Nat.le_refl _) (by simp)); have cx : w5.cell? ⟨wr.heap.size, 0, none⟩ = some (.int .i64 p.1) := block_cell G5.out.1 0 _ (by rw [HW.out]; rfl)))
          go_roundw
          case measure => simp [intOf]; omega
          case rel => exact ⟨k + 1, by omega, by go_num, _, _, _, Lib.hid (HM.out.skip HP.out HTK.out HB5.out)⟩
  · have ho' : s.off = false := by simpa using ho
    rw [ho'] at c2
    rw [if_neg ho]
    clear h1 hr hs
    go_enter Try.func23, Try.ntmps23
    go_wp2
    go_ret
    exact ⟨rfl, S, HH.out, Own.same (Turns.refl _ _)⟩
end Go.Proofs.Ythbbghkefekhfaa
