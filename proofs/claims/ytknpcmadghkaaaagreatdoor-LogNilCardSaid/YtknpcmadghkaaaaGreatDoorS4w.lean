/- Laws and walks. -/
import Derived.Test.YtknpcmadghkaaaaGreatDoorS2w
import Derived.Lib.QuietBelow
import Derived.Great.BuildSlice
set_option maxHeartbeats 16000000
set_option maxRecDepth 100000

namespace Go.Proofs.YtknpcmadghkaaaaGreatDoor.Sh
open Go.RowKit
def RfAt (h : List UInt32) (b : List UInt8) (l : List UInt32) (w wr : World) : Prop :=
 Below w.heap.size w wr /\ wr.rangeAt w.heap.size 0 (u32s h) /\ wr.rangeAt (w.heap.size + 1) 0 (u8s b) /\ wr.there (w.heap.size + 1 + 1) 0 8 /\
 wr.rangeAt (w.heap.size + 1 + 1 + 1) 0 (u32s l) /\ wr.there (w.heap.size + 1 + 1 + 1) 0 64 /\ w.heap.size + 1 + 1 + 1 < wr.heap.size
theorem RfAt.drewN {h : List UInt32} {b : List UInt8} {l : List UInt32} {w wr : World} (H : RfAt h b l w wr) (q : Nat) : RfAt h b l w (wr.drewN q) := ⟨below_drewN H.1 q, H.2⟩
theorem RfAt.set {h : List UInt32} {b : List UInt8} {l : List UInt32} {w wr : World} (H : RfAt h b l w wr) (k : Nat) (hk : k < l.length) (x : UInt32) :
  RfAt h b (l.set k x) w (wr.setCell ⟨w.heap.size + 1 + 1 + 1, k, none⟩ (.int .u32 (x.toNat : Int))) := by
 obtain ⟨h1, h2, h3, h4, h5, h6, h7⟩ := H
 refine ⟨h1.setCell (by show w.heap.size <= w.heap.size + 1 + 1 + 1; omega) _, rangeAt_set_other h2 (by omega) _ _, rangeAt_set_other h3 (by omega) _ _, there_set h4 _ _, ?_, there_set h6 _ _, by simpa [World.setCell] using h7⟩
 have := rangeAt_set h5 k (by rw [u32s_length]; exact hk) (u32 x)
 rwa [show (u32s l).set k (u32 x) = u32s (l.set k x) by simp [u32s]] at this
theorem there4 (w : World) (o o' o'' : Obj) (cs : Array Value) (t : TypeId) : ((((w.alloc o).alloc o').alloc o'').alloc (.cells cs t)).there (w.heap.size + 1 + 1 + 1) 0 cs.size := by
 have h := there_new (((w.alloc o).alloc o').alloc o'') cs t
 rwa [show (((w.alloc o).alloc o').alloc o'').heap.size = w.heap.size + 1 + 1 + 1 by simp] at h
theorem range4 (w : World) (o o' o'' : Obj) (cs : List Value) (t : TypeId) : ((((w.alloc o).alloc o').alloc o'').alloc (.cells cs.toArray t)).rangeAt (w.heap.size + 1 + 1 + 1) 0 cs := by
 have h := range_new (((w.alloc o).alloc o').alloc o'') cs t
 rwa [show (((w.alloc o).alloc o').alloc o'').heap.size = w.heap.size + 1 + 1 + 1 by simp] at h
theorem RfAt.start (h : List UInt32) (b : List UInt8) (w : World) :
  RfAt h b (List.replicate 64 0) w ((((w.alloc (.cells (u32s h).toArray 202)).alloc (.cells (u8s b).toArray 204)).alloc (.cells (u32s (List.replicate 8 0)).toArray 202)).alloc (.cells (u32s (List.replicate 64 0)).toArray 216)) :=
 ⟨(((bl.alloc (Nat.le_refl _) _).alloc (by simp) _).alloc (by simp; omega) _).alloc (by simp; omega) _,
  World.rangeAt_alloc (World.rangeAt_alloc (World.rangeAt_alloc (range_new w _ _) _) _) _,
  World.rangeAt_alloc (World.rangeAt_alloc (range_new2 w _ _ _) _) _,
  World.there_alloc (there_last w _ _ _ _) _, range4 w _ _ _ _ _, there4 w _ _ _ _ _, by simp⟩
structure RrAt (h ws ks l : List UInt32) (v kk : Nat) (w wr : World) : Prop where
 bel : Below w.heap.size w wr
 hh : wr.rangeAt w.heap.size 0 (u32s h)
 res : wr.there (w.heap.size + 1 + 1) 0 8
 ww : wr.rangeAt (w.heap.size + 1 + 1 + 1) 0 (u32s ws)
 kc : wr.rangeAt kk 0 (u32s ks)
 vc : wr.rangeAt v 0 (u32s l)
 vt : wr.there v 0 8
 hv : w.heap.size + 1 + 1 + 1 < v
 vk : v < kk
 vl : l.length = 8
theorem RrAt.drewN {h ws ks l : List UInt32} {v kk : Nat} {w wr : World} (H : RrAt h ws ks l v kk w wr) (q : Nat) : RrAt h ws ks l v kk w (wr.drewN q) :=
 ⟨below_drewN H.bel q, H.hh, H.res, H.ww, H.kc, H.vc, H.vt, H.hv, H.vk, H.vl⟩
theorem RrAt.set {h ws ks l : List UInt32} {v kk : Nat} {w wr : World} (H : RrAt h ws ks l v kk w wr) (i : Nat) (hi : i < 8) (x : UInt32) :
  RrAt h ws ks (l.set i x) v kk w (wr.setCell ⟨v, i, none⟩ (.int .u32 (x.toNat : Int))) := by
 have h1 := H.hv
 have h2 := H.vk
 refine ⟨H.bel.setCell (by show w.heap.size <= v; omega) _, rangeAt_set_other H.hh (by omega) _ _, there_set H.res _ _, rangeAt_set_other H.ww (by omega) _ _, rangeAt_set_other H.kc (by omega) _ _, ?_, there_set H.vt _ _, h1, h2, by rw [List.length_set]; exact H.vl⟩
 have := rangeAt_set H.vc i (by rw [u32s_length, H.vl]; exact hi) (u32 x)
 rwa [show (u32s l).set i (u32 x) = u32s (l.set i x) by simp [u32s]] at this
theorem b_notm (a : UInt32) : bits .xor .u32 IntKind.u32.max (a.toNat : Int) = ((~~~a).toNat : Int) := b_not a
theorem a_eq (s : S8) (k w : UInt32) :
  ((s.h.toNat : Int) + bits .xor .u32 (bits .xor .u32 ((rotr s.e 6).toNat : Int) ((rotr s.e 11).toNat : Int)) ((rotr s.e 25).toNat : Int) +
   bits .xor .u32 (bits .and .u32 (s.e.toNat : Int) (s.f.toNat : Int)) (bits .and .u32 (bits .xor .u32 IntKind.u32.max (s.e.toNat : Int)) (s.g.toNat : Int)) + (k.toNat : Int) + (w.toNat : Int) +
   (bits .xor .u32 (bits .xor .u32 ((rotr s.a 2).toNat : Int) ((rotr s.a 13).toNat : Int)) ((rotr s.a 22).toNat : Int) +
   bits .xor .u32 (bits .xor .u32 (bits .and .u32 (s.a.toNat : Int) (s.b.toNat : Int)) (bits .and .u32 (s.a.toNat : Int) (s.c.toNat : Int))) (bits .and .u32 (s.b.toNat : Int) (s.c.toNat : Int)))) % 4294967296 = ((tOf s k w + uOf s).toNat : Int) := by
 simp only [b_xor, b_and, b_notm, tOf, uOf, UInt32.toNat_add]
 omega
theorem d_eq (s : S8) (k w : UInt32) :
  ((s.d.toNat : Int) + ((s.h.toNat : Int) + bits .xor .u32 (bits .xor .u32 ((rotr s.e 6).toNat : Int) ((rotr s.e 11).toNat : Int)) ((rotr s.e 25).toNat : Int) +
   bits .xor .u32 (bits .and .u32 (s.e.toNat : Int) (s.f.toNat : Int)) (bits .and .u32 (bits .xor .u32 IntKind.u32.max (s.e.toNat : Int)) (s.g.toNat : Int)) + (k.toNat : Int) + (w.toNat : Int))) % 4294967296 = ((s.d + tOf s k w).toNat : Int) := by
 simp only [b_xor, b_and, b_notm, tOf, UInt32.toNat_add]
 omega
theorem refBlock_by (h ks : List UInt32) (b : List UInt8) (sc : Nat -> List UInt32) (st : Nat -> S8) (w : World) (hl : h.length = 8) (hb64 : b.length = 64) (hkl : ks.length = 64)
  (sc0 : sc 0 = words b 16) (scn : ∀ n, sc (n + 1) = sc n ++ [nextW (sc n) n]) (scl : ∀ n, (sc n).length = 16 + n)
  (st0 : (st 0).list = h) (stn : ∀ n, st (n + 1) = rnd (ks.getD n 0) ((sc 48).getD n 0) (st n))
  (kc : ∀ w : World, Calls Tryz.prog 162 #[] w fun E w' => E = .returned (.agg (u32s ks).toArray) /\ Below w.heap.size w w') :
  Calls Tryz.prog 147 #[.agg (u32s h).toArray, .agg (u8s b).toArray] w fun E w' => E = .returned (.agg (u32s (List.zipWith (· + ·) (st 64).list h)).toArray) /\ Below w.heap.size w w' := by
 have HL := iq hl
 have HKL := iq hkl
 have SC0 := iq sc0
 have SCN := iq scn
 have SCL := iq scl
 have ST0 := iq st0
 have STN := iq stn
 have KC := iq kc
 have HI8 : Hid ((Tryz.prog.info? 202).map (·.size) = some (u32s h).length) := iq (by rw [u32s_length, hl]; exact Tryz.size202)
 have HIK : Hid ((Tryz.prog.info? 216).map (·.size) = some (u32s ks).length) := iq (by rw [u32s_length, hkl]; exact Tryz.size216)
 have HKL64 : Hid ((u32s ks).length = 64) := iq (by rw [u32s_length, hkl])
 have HL8 : Hid ((u32s h).length = 8) := iq (by rw [u32s_length, hl])
 clear hl hkl sc0 scn scl st0 stn kc
 go_enter Tryz.func147, Tryz.ntmps147
 go_wp2
 go_loopw [6] (fun vi wr => ∃ k : Nat, k <= 16 /\ vi = .int .i64 k /\ Hid (RfAt h b (words b k ++ List.replicate (64 - k) 0) w wr))
  (fun vi _ => 16 - (intOf vi).toNat)
 case atStart => exact ⟨0, by omega, rfl, iq (RfAt.start h b w)⟩
 case round =>
  obtain ⟨k, hk, rfl, HA⟩ := hrel
  by_cases hk16 : k < 16
  ·have h0 := rangeAt_u8 HA.out.2.2.1 (4 * k) (by omega)
   have h1 := rangeAt_u8 HA.out.2.2.1 (4 * k + 1) (by omega)
   have h2 := rangeAt_u8 HA.out.2.2.1 (4 * k + 2) (by omega)
   have h3 := rangeAt_u8 HA.out.2.2.1 (4 * k + 3) (by omega)
   have hs := rangeAt_u32 HA.out.2.2.2.2.1 k (by simp [words_length]; omega)
   have hf := there_cell HA.out.2.2.2.2.2.1 k (by omega)
   obtain ⟨x, hx⟩ : ∃ x, x = wordAt b k := ⟨_, rfl⟩
   have HX := iq (show x = word (b.getD (4 * k) 0) (b.getD (4 * k + 1) 0) (b.getD (4 * k + 2) 0) (b.getD (4 * k + 3) 0) from hx)
   have HX2 := iq hx
   clear hx
   generalize (words b k ++ List.replicate (64 - k) 0).getD k 0 = old at hs
   generalize b.getD (4 * k) 0 = x0 at h0 HX
   generalize b.getD (4 * k + 1) 0 = x1 at h1 HX
   generalize b.getD (4 * k + 2) 0 = x2 at h2 HX
   generalize b.getD (4 * k + 3) 0 = x3 at h3 HX
   go_wp2
   go_region
   go_wp2
   go_roundw
   case measure => simp [intOf]; omega
   case rel =>
    refine ⟨k + 1, by omega, by go_num, iq ?_⟩
    rw [word_eq, <- HX.out]
    have := (HA.out.set k (by simp [words_length]; omega) x).drewN 1
    rw [fill_set _ _ _ 64 k (words_length b k) (by omega), show words b k ++ [x] = words b (k + 1) by rw [HX2.out, words_succ]] at this
    exact this
  ·obtain rfl : k = 16 := by omega
   go_wp2
   go_loopw [7] (fun vi wr => ∃ m : Nat, 16 <= m /\ m <= 64 /\ vi = .int .i64 m /\ Hid (RfAt h b (sc (m - 16) ++ List.replicate (64 - m) 0) w wr))
    (fun vi _ => 64 - (intOf vi).toNat)
   case atStart => exact ⟨16, by omega, by omega, rfl, iq (by rw [show 16 - 16 = 0 from rfl, SC0.out]; exact HA.out)⟩
   case round =>
    clear HA
    obtain ⟨m, hm16, hm, rfl, HA⟩ := hrel
    by_cases hm64 : m < 64
    ·obtain ⟨l, hl⟩ : ∃ l, l = sc (m - 16) := ⟨_, rfl⟩
     have hll : l.length = m := by rw [hl, SCL.out]; omega
     rw [<- hl] at HA
     have hg : ∀ j, j < m -> (l ++ List.replicate (64 - m) 0).getD j 0 = l.getD j 0 := fun j hj => by
      rw [List.getD_eq_getElem?_getD, List.getD_eq_getElem?_getD, List.getElem?_append_left (by omega)]
     have h15 := rangeAt_u32 HA.out.2.2.2.2.1 (m - 15) (by simp [hll]; omega)
     have h2 := rangeAt_u32 HA.out.2.2.2.2.1 (m - 2) (by simp [hll]; omega)
     have h16 := rangeAt_u32 HA.out.2.2.2.2.1 (m - 16) (by simp [hll]; omega)
     have h7 := rangeAt_u32 HA.out.2.2.2.2.1 (m - 7) (by simp [hll]; omega)
     have hs := rangeAt_u32 HA.out.2.2.2.2.1 m (by simp [hll]; omega)
     have hf := there_cell HA.out.2.2.2.2.2.1 m (by omega)
     rw [hg _ (by omega)] at h15 h2 h16 h7
     clear hg
     obtain ⟨x, hx⟩ : ∃ x, x = nextW l (m - 16) := ⟨_, rfl⟩
     have HX := iq (show x = l.getD (m - 16) 0 + s0 (l.getD (m - 15) 0) + l.getD (m - 7) 0 + s1 (l.getD (m - 2) 0) by
      rw [hx, nextW, show m - 16 + 1 = m - 15 by omega, show m - 16 + 9 = m - 7 by omega, show m - 16 + 14 = m - 2 by omega])
     have HX2 := iq hx
     have HLL2 := iq hl
     have HLL := iq hll
     clear hx hl hll
     generalize (l ++ List.replicate (64 - m) 0).getD m 0 = old at hs
     generalize l.getD (m - 15) 0 = x15 at h15 HX
     generalize l.getD (m - 2) 0 = x2 at h2 HX
     generalize l.getD (m - 16) 0 = x16 at h16 HX
     generalize l.getD (m - 7) 0 = x7 at h7 HX
     go_wp2
     go_quiet (first | (go_at_call 161; exact (rot_all _ _ _ (by decide)).mono fun _ _ h => ⟨h.1, _, h.2.symm⟩))
     go_wp2
     go_quiet (first | (go_at_call 161; exact (rot_all _ _ _ (by decide)).mono fun _ _ h => ⟨h.1, _, h.2.symm⟩))
     go_wp2
     go_region
     go_wp2
     go_roundw
     case measure => simp [intOf]; omega
     case rel =>
      refine ⟨m + 1, by omega, by omega, by go_num, iq ?_⟩
      simp only [rotI7, rotI17, rotI18, rotI19, w_eq]
      rw [<- HX.out]
      have e : l ++ [x] = sc (m + 1 - 16) := by rw [show m + 1 - 16 = m - 16 + 1 by omega, SCN.out, <- HLL2.out, HX2.out]
      rw [<- e, <- fill_set l 0 x 64 m HLL.out hm64]
      exact (HA.out.drewN _).set m (by simp [HLL.out]; omega) x
    ·obtain rfl : m = 64 := by omega
     have HW64 : Hid (sc (64 - 16) ++ List.replicate (64 - 64) 0 = sc 48) := iq (by simp)
     rw [HW64.out] at HA
     clear HW64
     obtain ⟨ws, hws⟩ : ∃ ws, ws = sc 48 := ⟨_, rfl⟩
     rw [<- hws] at HA STN
     have hwl : ws.length = 64 := by rw [hws, SCL.out]
     have HWL := iq hwl
     clear hws hwl SC0 SCN SCL
     have HSZ := iq HA.out.2.2.2.2.2.2
     go_wp2_with (first
      | (refine wpList_load_mid rfl 202 (.tmp 2) rfl w.heap.size 0 rfl (u32s h) _ HA.out.2.1 Tryz.underlying202 rfl HI8.out ?_)
      | (refine wpList_store_fresh rfl 202 (.tmp 10) (.tmp 106) rfl (u32s h) rfl rfl HL8.out.symm HI8.out (u32s_one _) ?_; intro w2 G2)
      | (go_at_call 162; refine (KC.out w2).mono ?_; rintro E w3 ⟨rfl, hb3⟩)
      | (refine wpList_store_fresh rfl 216 (.tmp 11) (.tmp 107) rfl (u32s ks) rfl rfl HKL64.out.symm HIK.out (u32s_one _) ?_; intro w4 G4))
     have HR : Hid (RrAt h ws ks (st 0).list wr.heap.size w3.heap.size w w4) := by
      have hA := HSZ.out
      have hB : wr.heap.size < w2.heap.size := G2.out.2.2.2
      have hC := hb3.size
      have hD : w3.heap.size < w4.heap.size := G4.out.2.2.2
      have b2 := HA.out.1.trans (G2.out.1.mono HA.out.1.size)
      have b3 := b2.trans (hb3.mono b2.size)
      have ro : ∀ (g o : Nat) (cs : List Value), g < wr.heap.size -> wr.rangeAt g o cs -> w4.rangeAt g o cs := fun g o cs hg hr =>
       rangeAt_below (rangeAt_below (rangeAt_below hr G2.out.1 hg) hb3 (by omega)) G4.out.1 (by omega)
      refine iq ⟨b3.trans (G4.out.1.mono b3.size), ro _ _ _ (by omega) HA.out.2.1, ?_, ro _ _ _ hA HA.out.2.2.2.2.1, G4.out.2.1, ?_, ?_, hA, by omega, by rw [ST0.out, HL.out]⟩
      ·exact there_below (there_below (there_below HA.out.2.2.2.1 G2.out.1 (by omega)) hb3 (by omega)) G4.out.1 (by omega)
      ·rw [ST0.out]
       exact rangeAt_below (rangeAt_below G2.out.2.1 hb3 hB) G4.out.1 (by omega)
      ·rw [<- HL8.out]
       exact there_below (there_below G2.out.2.2.1 hb3 hB) G4.out.1 (by omega)
     generalize wr.heap.size = v at HR ⊢
     generalize w3.heap.size = kk at HR ⊢
     clear HA HSZ G2 hb3 G4
     go_loopw [12] (fun vi wr => ∃ k : Nat, k <= 64 /\ vi = .int .i64 k /\ Hid (RrAt h ws ks (st k).list v kk w wr)) (fun vi _ => 64 - (intOf vi).toNat)
     case atStart => exact ⟨0, by omega, rfl, HR⟩
     case round =>
      clear HR
      obtain ⟨k, hk, rfl, HA⟩ := hrel
      by_cases hk64 : k < 64
      ·have SN : Hid (st (k + 1) = rnd (ks.getD k 0) (ws.getD k 0) (st k)) := iq (STN.out k)
       have ckk := rangeAt_u32 HA.out.kc k (by rw [HKL.out]; exact hk64)
       have cwk := rangeAt_u32 HA.out.ww k (by rw [HWL.out]; exact hk64)
       generalize st k = sk at HA SN
       generalize ks.getD k 0 = kx at ckk SN
       generalize ws.getD k 0 = wx at cwk SN
       have c0 := rangeAt_u32 HA.out.vc 0 (by rw [HA.out.vl]; omega)
       have c1 := rangeAt_u32 HA.out.vc 1 (by rw [HA.out.vl]; omega)
       have c2 := rangeAt_u32 HA.out.vc 2 (by rw [HA.out.vl]; omega)
       have c3 := rangeAt_u32 HA.out.vc 3 (by rw [HA.out.vl]; omega)
       have c4 := rangeAt_u32 HA.out.vc 4 (by rw [HA.out.vl]; omega)
       have c5 := rangeAt_u32 HA.out.vc 5 (by rw [HA.out.vl]; omega)
       have c6 := rangeAt_u32 HA.out.vc 6 (by rw [HA.out.vl]; omega)
       have c7 := rangeAt_u32 HA.out.vc 7 (by rw [HA.out.vl]; omega)
       change wr.cell? ⟨v, 0, none⟩ = some (.int .u32 (sk.a.toNat : Int)) at c0
       change wr.cell? ⟨v, 1, none⟩ = some (.int .u32 (sk.b.toNat : Int)) at c1
       change wr.cell? ⟨v, 2, none⟩ = some (.int .u32 (sk.c.toNat : Int)) at c2
       change wr.cell? ⟨v, 3, none⟩ = some (.int .u32 (sk.d.toNat : Int)) at c3
       change wr.cell? ⟨v, 4, none⟩ = some (.int .u32 (sk.e.toNat : Int)) at c4
       change wr.cell? ⟨v, 5, none⟩ = some (.int .u32 (sk.f.toNat : Int)) at c5
       change wr.cell? ⟨v, 6, none⟩ = some (.int .u32 (sk.g.toNat : Int)) at c6
       change wr.cell? ⟨v, 7, none⟩ = some (.int .u32 (sk.h.toNat : Int)) at c7
       have f0 := there_cell HA.out.vt 0 (by omega)
       have f1 := there_cell HA.out.vt 1 (by omega)
       have f2 := there_cell HA.out.vt 2 (by omega)
       have f3 := there_cell HA.out.vt 3 (by omega)
       have f4 := there_cell HA.out.vt 4 (by omega)
       have f5 := there_cell HA.out.vt 5 (by omega)
       have f6 := there_cell HA.out.vt 6 (by omega)
       have f7 := there_cell HA.out.vt 7 (by omega)
       go_wp2
       go_quiet (first | (go_at_call 161; exact (rot_all _ _ _ (by decide)).mono fun _ _ h => ⟨h.1, _, h.2.symm⟩))
       go_wp2
       go_quiet (first | (go_at_call 161; exact (rot_all _ _ _ (by decide)).mono fun _ _ h => ⟨h.1, _, h.2.symm⟩))
       go_wp2
       go_roundw
       case measure => simp [intOf]; omega
       case rel =>
        refine ⟨k + 1, by omega, by go_num, iq ?_⟩
        simp only [rotI2, rotI6, rotI11, rotI13, rotI22, rotI25, a_eq, d_eq]
        rw [SN.out]
        exact (((((((((HA.out.drewN _).set 0 (by omega) (tOf sk kx wx + uOf sk)).set 1 (by omega) sk.a).set 2 (by omega) sk.b).set 3 (by omega) sk.c).set 4 (by omega) (sk.d + tOf sk kx wx)).set 5 (by omega) sk.e).set 6 (by omega) sk.f).set 7 (by omega) sk.g)
      ·obtain rfl : k = 64 := by omega
       obtain ⟨ml, hml⟩ : ∃ ml, ml = (st 64).list := ⟨_, rfl⟩
       have HM8 : Hid (ml.length = 8) := iq (by rw [hml]; rfl)
       rw [<- hml] at HA
       have HML := iq hml
       clear hml STN ST0
       go_wp2
       go_loopw [17] (fun vi wr => ∃ j : Nat, j <= 8 /\ vi = .int .i64 j /\ Hid (RrAt h ws ks (sumsTo ml h j) v kk w wr)) (fun vi _ => 8 - (intOf vi).toNat)
       case atStart => exact ⟨0, by omega, rfl, iq (by rw [show sumsTo ml h 0 = ml by simp [sumsTo]]; exact HA.out)⟩
       case round =>
        clear HA
        obtain ⟨j, hj, rfl, HA⟩ := hrel
        by_cases hj8 : j < 8
        ·have cv := rangeAt_u32 HA.out.vc j (by rw [HA.out.vl]; exact hj8)
         have ch := rangeAt_u32 HA.out.hh j (by rw [HL.out]; exact hj8)
         have fv := there_cell HA.out.vt j hj8
         rw [sumsTo_at _ _ _ HM8.out HL.out hj8] at cv
         have HZ : Hid (sumsTo ml h (j + 1) = (sumsTo ml h j).set j (ml.getD j 0 + h.getD j 0)) := iq (sumsTo_set _ _ _ HM8.out HL.out hj8).symm
         generalize ml.getD j 0 = x at cv HZ
         generalize h.getD j 0 = y at ch HZ
         go_wp2
         go_region
         go_wp2
         go_roundw
         case measure => simp [intOf]; omega
         case rel =>
          refine ⟨j + 1, by omega, by go_num, iq ?_⟩
          rw [b_add, HZ.out]
          exact (HA.out.set j hj8 (x + y)).drewN 1
        ·obtain rfl : j = 8 := by omega
         have HZ : Hid (sumsTo ml h 8 = List.zipWith (· + ·) ml h) := iq (by simp [sumsTo, HL.out, HM8.out, List.take_of_length_le, List.drop_of_length_le])
         obtain ⟨z, hz⟩ : ∃ z, z = List.zipWith (· + ·) ml h := ⟨_, rfl⟩
         rw [<- hz] at HZ
         have HZ2 := iq hz
         clear hz
         rw [HZ.out] at HA
         have hz8 : (u32s z).length = 8 := by rw [u32s_length, HA.out.vl]
         have HT : Hid (wr.there (w.heap.size + 1 + 1) 0 (u32s z).length) := iq (by rw [hz8]; exact HA.out.res)
         have HI : Hid ((Tryz.prog.info? 202).map (·.size) = some (u32s z).length) := iq (by rw [hz8]; exact Tryz.size202)
         clear hz8
         go_wp2_with (first
          | (refine wpList_load_mid rfl 202 (.tmp 10) rfl v 0 rfl (u32s z) _ HA.out.vc Tryz.underlying202 rfl HI.out ?_)
          | (refine wpList_store_cells rfl 202 (.tmp 4) (.tmp 203) rfl (w.heap.size + 1 + 1) 0 (u32s z) rfl rfl HT.out HI.out (u32s_one _) ?_))
         exact bodyPost_ret (ret_range (cs := u32s z) rfl rfl (World.rangeAt_setCells_same _ _ _ (u32s z) HT.out) Tryz.underlying202 rfl HI.out) rfl ⟨by rw [HZ2.out, HML.out], below_setCells (by omega) _ _ _ HA.out.bel⟩
open Go.RowKit Go.Sort
theorem Tryz.zero216 : ((Tryz.prog.info? 216).bind (·.zero)).map (·.cells.size) = some (K.map fun x => (x.toNat : Int)).length := by kernel_rfl
theorem k_cells : (K.map fun x => (x.toNat : Int)).map (Value.int .u32) = u32s K := by rw [List.map_map]; rfl
theorem kRef_any (w : World) : Calls Tryz.prog 162 #[] w fun E w' => E = .returned (.agg (u32s K).toArray) /\ Below w.heap.size w w' := by
 have HI : Hid ((Tryz.prog.info? 216).map (·.size) = some (u32s K).length) := iq (by rw [u32s_length]; exact Tryz.size216)
 have HT : Hid ((u32s K).length = 64) := iq (by rw [u32s_length]; rfl)
 go_enter Tryz.func162, Tryz.ntmps162
 go_wp2_with (first
  | (refine wpList_buildFlatArr rfl 216 201 64 _ rfl .u32 (K.map fun x => (x.toNat : Int)) Tryz.underlying216 Tryz.info201 Tryz.zero216 (by kernel_rfl) ?_; rw [k_cells])
  | (refine wpList_store_fresh rfl 216 (.tmp 0) (.tmp 1) rfl (u32s K) rfl rfl HT.out.symm HI.out (u32s_one _) ?_; intro w2 G2))
 exact bodyPost_ret (ret_range rfl rfl G2.out.2.1 Tryz.underlying216 rfl HI.out) rfl ⟨rfl, G2.out.1⟩
theorem zip_comm : ∀ (a b : List UInt32), List.zipWith (· + ·) a b = List.zipWith (· + ·) b a
 | [], b => by cases b <;> rfl
 | _ :: _, [] => rfl
 | x :: a, y :: b => by simp only [List.zipWith_cons_cons, UInt32.add_comm x y, zip_comm a b]
theorem first8_list (h : List UInt32) (hl : h.length = 8) : (first8 h).list = h := by
 match h, hl with
 | [a, b, c, d, e, f, g, h'], _ => rfl
theorem refBlock_any (h : List UInt32) (b : List UInt8) (w : World) (hl : h.length = 8) (hb64 : b.length = 64) :
  Calls Tryz.prog 147 #[.agg (u32s h).toArray, .agg (u8s b).toArray] w fun E w' => E = .returned (.agg (u32s (blockOf h b)).toArray) /\ Below w.heap.size w w' := by
 have := refBlock_by h K b (sched b) (rnds K (sched b 48) (first8 h)) w hl hb64 (by decide) rfl (fun _ => rfl) (sched_length b) (first8_list h hl) (fun _ => rfl) kRef_any
 rw [zip_comm] at this
 exact this
end Go.Proofs.YtknpcmadghkaaaaGreatDoor.Sh
