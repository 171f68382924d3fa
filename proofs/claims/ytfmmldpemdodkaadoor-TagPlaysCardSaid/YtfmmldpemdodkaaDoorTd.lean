/-
  What is proved: what tagOf of tag answers. Conditions as stated.
-/
import Derived.Test.YtfmmldpemdodkaaDoorTc
import Derived.Deep.RegionLaw
namespace Go.Proofs.YtfmmldpemdodkaaDoor
open Go.RowKit

theorem step_store_cells {P : Program} {ops : Array Oper} {o : Oper} {a : Act} {w : World} {K : Act → World → Prop} {Q : Exit → Act → World → Prop} {E : Prop} (hgd : o.guard = none) (ty : TypeId) (x y : Operand) (ho : o.op = .store ty x y)
    (b off : Nat) (cs : List Value) (hx : a.eval x = .pointer (some ⟨b, off, none⟩)) (hy : a.eval y = .agg cs.toArray) (ht : w.there b off cs.length) (hi : (P.info? ty).map (·.size) = some cs.length) (h1 : ∀ v ∈ cs, v.oneCell' = true)
    (h : K (a.put o.dst undef) (w.setCells b off cs)) : if Region.wanted o (yielded ops a.tmps) = true then Oper.wp P o a w K Q else E := by
  have hw : Region.wanted o (yielded ops a.tmps) = true := by simp [Region.wanted, hgd]
  rw [if_pos hw]
  exact wp_store_mid ty x y ho b off cs.toArray hx hy (by simpa using ht) (by simpa using hi) (all_oneCell_toArray h1) (by simpa using h)

/-- What lies in memory when the outer digest is taken. -/
structure TgAt (g5 g6 : Nat) (z d : List UInt8) (w wr : World) : Prop where
  bel : Below w.heap.size w wr
  r5 : wr.rangeAt g5 0 (u8s z)
  r6 : wr.rangeAt g6 0 (u8s d)
  th : wr.there w.heap.size 0 32
  l4 : w.heap.size < wr.heap.size
  l5 : g5 < wr.heap.size
  l6 : g6 < wr.heap.size
theorem TgAt.next {g5 g6 : Nat} {z d : List UInt8} {w wr w' : World} (H : TgAt g5 g6 z d w wr) (hb : Below wr.heap.size wr w') : TgAt g5 g6 z d w w' :=
  ⟨H.bel.trans (hb.mono H.bel.size), rangeAt_below H.r5 hb H.l5, rangeAt_below H.r6 hb H.l6, there_below H.th hb H.l4, Nat.lt_of_lt_of_le H.l4 hb.size, Nat.lt_of_lt_of_le H.l5 hb.size, Nat.lt_of_lt_of_le H.l6 hb.size⟩
theorem TgAt.drewN {g5 g6 : Nat} {z d : List UInt8} {w wr : World} (H : TgAt g5 g6 z d w wr) (q : Nat) : TgAt g5 g6 z d w (wr.drewN q) := ⟨below_drewN H.bel q, H.r5, H.r6, H.th, H.l4, H.l5, H.l6⟩
theorem TgAt.alloc {g5 g6 : Nat} {z d : List UInt8} {w wr : World} (H : TgAt g5 g6 z d w wr) (o : Obj) : TgAt g5 g6 z d w (wr.alloc o) := H.next ((Below.refl _ _).alloc (Nat.le_refl _) _)
/-- A list of one slice. -/
theorem TgAt.one {g5 g6 : Nat} {z d : List UInt8} {w wr : World} (H : TgAt g5 g6 z d w wr) (g : Nat) (hd : d.length = 32) (hg : g < wr.heap.size) (hc : wr.cell? ⟨g, 0, none⟩ = some (.slice (some ⟨g6, 0, none⟩) 32 32)) : Lists wr (some ⟨g, 0, none⟩) 1 [(some ⟨g6, 0, none⟩, 32, d)] := by
  refine ⟨rfl, fun _ => ⟨g, 0, rfl, hg, fun j x hx => ?_⟩⟩
  match j, hx with
  | 0, hx =>
    simp at hx
    subst hx
    simp only [hd]
    exact ⟨hc, Rd.of_range H.r6 H.l6 trivial (fun _ _ h => h) hd, ⟨(fun e => by cases e), Nat.le_refl _, by omega⟩⟩

set_option maxHeartbeats 2000000 in
set_option maxRecDepth 100000 in
theorem tagOf_by (key z zi zo d out : List UInt8) (xs : List (Option Addr × Nat × List UInt8)) (A0 : Option Addr) (c0 : Nat) (A : Option Addr) (n c : Nat) (w : World) (hz : z.length = 64) (hd : d.length = 32) (ho : (u8s out).length = 32)
    (hr : Rd (fun _ => True) w A0 key.length key) (hs : Sl A0 key.length c0) (hx : Lists w A n xs) (hk : KIs w) (h0 : 0 < w.heap.size)
    (F : ∀ (A : Option Addr) (c : Nat) (w : World), Rd (fun _ => True) w A key.length key → Sl A key.length c → KIs w → 0 < w.heap.size → Calls Tryd.prog 30 #[.slice A key.length c] w fun E w' => E = .returned (.agg (u8s z).toArray) ∧ Below w.heap.size w w')
    (M1 : ∀ w : World, Calls Tryd.prog 32 #[.agg (u8s z).toArray, .int .u8 54] w fun E w' => E = .returned (.agg (u8s zi).toArray) ∧ Below w.heap.size w w')
    (M2 : ∀ w : World, Calls Tryd.prog 32 #[.agg (u8s z).toArray, .int .u8 92] w fun E w' => E = .returned (.agg (u8s zo).toArray) ∧ Below w.heap.size w w')
    (D1 : ∀ w : World, Lists w A n xs → KIs w → 0 < w.heap.size → Calls Tryd.prog 31 #[.agg (u8s zi).toArray, .slice A n c] w fun E w' => E = .returned (.agg (u8s d).toArray) ∧ Below w.heap.size w w')
    (D2 : ∀ (g g6 : Nat) (w : World), Lists w (some ⟨g, 0, none⟩) 1 [(some ⟨g6, 0, none⟩, 32, d)] → KIs w → 0 < w.heap.size → Calls Tryd.prog 31 #[.agg (u8s zo).toArray, .slice (some ⟨g, 0, none⟩) 1 1] w fun E w' => E = .returned (.agg (u8s out).toArray) ∧ Below w.heap.size w w') :
    Calls Tryd.prog 20 #[.slice A0 key.length c0, .slice A n c] w fun E w' => E = .returned (.agg (u8s out).toArray) ∧ Below w.heap.size w w' := by
  have HR := Lib.hid hr
  have HS := Lib.hid hs
  have HX := Lib.hid hx
  have HK := Lib.hid hk
  have HD := Lib.hid hd
  have HO := Lib.hid ho
  have FF := Lib.hid F
  have MA := Lib.hid M1
  have MB := Lib.hid M2
  have DA := Lib.hid D1
  have DB := Lib.hid D2
  have HZ64 : Hid ((u8s z).length = 64) := Lib.hid (by rw [u8s_length, hz])
  have HD32 : Hid ((u8s d).length = 32) := Lib.hid (by rw [u8s_length, hd])
  have HI64 : Hid ((Tryd.prog.info? 45).map (·.size) = some (u8s z).length) := Lib.hid (by rw [HZ64.out]; exact Tryd.size45)
  have HID : Hid ((Tryd.prog.info? 25).map (·.size) = some (u8s d).length) := Lib.hid (by rw [HD32.out]; exact Tryd.size25)
  have HIO : Hid ((Tryd.prog.info? 25).map (·.size) = some (u8s out).length) := Lib.hid (by rw [ho]; exact Tryd.size25)
  clear hr hs hx hk hd ho F M1 M2 D1 D2 hz
  have HA0 : Hid (Below w.heap.size w (w.alloc (.cells (List.replicate 32 (Value.int .u8 0)).toArray 25))) := Lib.hid ((Below.refl _ _).alloc (Nat.le_refl _) _)
  go_enter Tryd.func20, Tryd.ntmps20
  go_wp2_with (first
    | (go_at_call 30; refine (FF.out A0 c0 _ (HR.out.below HA0.out (fun _ h _ => h)) HS.out (HK.out.below HA0.out h0) (by simp)).mono ?_; rintro E w1 ⟨rfl, hb1⟩; have HB1 : Hid (Below w.heap.size w w1 ∧ w.heap.size < w1.heap.size ∧ w1.there w.heap.size 0 32) := Lib.hid ⟨HA0.out.trans (hb1.mono (by simp)), by have := hb1.size; simp at this; omega, there_below (there_new w (List.replicate 32 (Value.int .u8 0)).toArray 25) hb1 (by simp)⟩; clear hb1)
    | (go_at_call_of 32 (Value.int .u8 54); refine (MA.out w2).mono ?_; rintro E w3 ⟨rfl, hb3⟩; have HB3 : Hid (Below w1.heap.size w1 w3 ∧ w3.rangeAt w1.heap.size 0 (u8s z) ∧ w1.heap.size < w3.heap.size) := Lib.hid ⟨HB2.out.1.trans (hb3.mono HB2.out.1.size), rangeAt_below HB2.out.2.1 hb3 HB2.out.2.2.2, Nat.lt_of_lt_of_le HB2.out.2.2.2 hb3.size⟩; clear hb3)
    | (go_at_call 31; refine (DA.out w3 (HX.out.below (HB1.out.1.trans (HB3.out.1.mono HB1.out.1.size))) (HK.out.below (HB1.out.1.trans (HB3.out.1.mono HB1.out.1.size)) h0) (by have := HB3.out.2.2; omega)).mono ?_; rintro E w4 ⟨rfl, hb4⟩; have HB4 : Hid (Below w1.heap.size w1 w4 ∧ w4.rangeAt w1.heap.size 0 (u8s z) ∧ w1.heap.size < w4.heap.size) := Lib.hid ⟨HB3.out.1.trans (hb4.mono HB3.out.1.size), rangeAt_below HB3.out.2.1 hb4 HB3.out.2.2, Nat.lt_of_lt_of_le HB3.out.2.2 hb4.size⟩; clear hb4)
    | (refine wpList_load_mid rfl 45 (.tmp 5) rfl w1.heap.size 0 rfl (u8s z) _ HB2.out.2.1 Tryd.underlying45 rfl HI64.out ?_)
    | (refine wpList_store_fresh rfl 45 (.tmp 5) (.tmp 8) rfl (u8s z) rfl rfl (by rw [HZ64.out]; rfl) HI64.out (u8s_one z) ?_; intro w2 HB2)
    | (refine wpList_store_fresh rfl 25 (.tmp 6) (.tmp 12) rfl (u8s d) rfl rfl (by rw [HD32.out]; rfl) HID.out (u8s_one d) ?_; intro w5 HB5))
  have HT5 : Hid (TgAt w1.heap.size w4.heap.size z d w w5) := Lib.hid ⟨(HB1.out.1.trans (HB4.out.1.mono HB1.out.1.size)).trans (HB5.out.1.mono (by have := HB4.out.2.2; have := HB1.out.2.1; omega)), rangeAt_below HB4.out.2.1 HB5.out.1 HB4.out.2.2, HB5.out.2.1, there_below (there_below HB1.out.2.2 HB4.out.1 HB1.out.2.1) HB5.out.1 (by have := HB4.out.2.2; have := HB1.out.2.1; omega), by have := HB4.out.2.2; have := HB1.out.2.1; have := HB5.out.2.2.2; omega, by have := HB4.out.2.2; have := HB5.out.2.2.2; omega, HB5.out.2.2.2⟩
  have HTD : Hid (TgAt w1.heap.size w4.heap.size z d w (w5.drewN 1)) := Lib.hid (HT5.out.drewN 1)
  clear HB1 HB2 HB3 HB4 HB5 HA0 HT5
  refine wp_region_any (by kernel_rfl) ?_
  change wpAny _ _ _ _ _ _ _ (w5.drewN 1)
  refine wpAny_take (i := 2) (v := .slice (some ⟨w4.heap.size, 0, none⟩) 32 32) rfl (by kernel_rfl) (by kernel_rfl) (by kernel_rfl) (fun _ _ _ h => h) (Or.inl ⟨by rfl, fun w => by go_simp⟩) ?_
  simp only [Act.put, List.setIfInBounds_toArray]
  refine wpAny_ready (rs := [0, 3]) (by kernel_rfl) (by simp) ?_
  refine AllReady.cons rfl (fun K hK => ?_) (AllReady.cons rfl (fun K hK => ?_) AllReady.nil)
  · (refine step_load_cells rfl 45 (.tmp 5) rfl w1.heap.size 0 rfl (u8s z) _ HTD.out.r5 Tryd.underlying45 rfl HI64.out ?_; refine hK _ _ ?_; clear hK K; simp only [Act.put])
    refine wpAny_ready (rs := [1, 3]) (by kernel_rfl) (by simp) ?_
    refine AllReady.cons rfl (fun K hK => ?_) (AllReady.cons rfl (fun K hK => ?_) AllReady.nil)
    · (go_simp; go_at_call 32; refine (MB.out _).mono ?_; rintro E w6 ⟨rfl, hb6⟩; have HT6 := Lib.hid (HTD.out.next hb6); clear hb6; refine hK _ _ ?_; clear hK K)
      refine wpAny_ready (rs := [3]) (by kernel_rfl) (by simp) ?_
      refine AllReady.cons rfl (fun K hK => ?_) AllReady.nil
      (go_simp; refine hK _ _ ?_; clear hK K)
      refine wpAny_ready (rs := [4]) (by kernel_rfl) (by simp) ?_
      refine AllReady.cons rfl (fun K hK => ?_) AllReady.nil
      (go_simp; go_at_call 31; refine (DB.out w6.heap.size w4.heap.size _ ((HT6.out.alloc _).one w6.heap.size HD.out (by simp) (cell_of_row _ _ 0 _ _ (0, 0) (heap_alloc_new w6 _))) (HK.out.below (HT6.out.alloc _).bel h0) (by simp)).mono ?_; rintro E w7 ⟨rfl, hb7⟩; have HT7 := Lib.hid ((HT6.out.alloc _).next hb7); clear hb7; have HTH : Hid (w7.there w.heap.size 0 (u8s out).length) := Lib.hid (by rw [HO.out]; exact HT7.out.th); refine hK _ _ ?_; clear hK K)
      refine wpAny_ready (rs := [5]) (by kernel_rfl) (by simp) ?_
      refine AllReady.cons rfl (fun K hK => ?_) AllReady.nil
      (refine step_store_cells rfl 25 (.tmp 4) (.tmp 17) rfl w.heap.size 0 (u8s out) rfl rfl HTH.out HIO.out (u8s_one _) ?_; refine hK _ _ ?_; clear hK K)
      refine wpAny_done (by kernel_rfl) ?_ _
      go_wp2
      exact bodyPost_ret (ret_range (cs := u8s out) rfl rfl (World.rangeAt_setCells_same _ _ _ (u8s out) HTH.out) Tryd.underlying25 rfl HIO.out) rfl ⟨rfl, below_setCells (Nat.le_refl _) _ _ _ HT7.out.bel⟩
    · (go_simp; refine hK _ _ ?_; clear hK K)
      refine wpAny_ready (rs := [1]) (by kernel_rfl) (by simp) ?_
      refine AllReady.cons rfl (fun K hK => ?_) AllReady.nil
      (go_simp; go_at_call 32; refine (MB.out _).mono ?_; rintro E w6 ⟨rfl, hb6⟩; have HT6 := Lib.hid ((HTD.out.alloc _).next hb6); have HC6 : Hid (w6.cell? ⟨w5.heap.size, 0, none⟩ = some (.slice (some ⟨w4.heap.size, 0, none⟩) 32 32) ∧ w5.heap.size < w6.heap.size) := Lib.hid ⟨(hb6.cell (p := ⟨w5.heap.size, 0, none⟩) (by simp)).trans (cell_of_row _ _ 0 _ _ (0, 0) (heap_alloc_new (w5.drewN 1) _)), by have := hb6.size; simp at this; omega⟩; clear hb6; refine hK _ _ ?_; clear hK K)
      refine wpAny_ready (rs := [4]) (by kernel_rfl) (by simp) ?_
      refine AllReady.cons rfl (fun K hK => ?_) AllReady.nil
      (go_simp; go_at_call 31; refine (DB.out w5.heap.size w4.heap.size w6 (HT6.out.one w5.heap.size HD.out HC6.out.2 HC6.out.1) (HK.out.below HT6.out.bel h0) (Nat.lt_of_lt_of_le h0 HT6.out.bel.size)).mono ?_; rintro E w7 ⟨rfl, hb7⟩; have HT7 := Lib.hid (HT6.out.next hb7); clear hb7; have HTH : Hid (w7.there w.heap.size 0 (u8s out).length) := Lib.hid (by rw [HO.out]; exact HT7.out.th); refine hK _ _ ?_; clear hK K)
      refine wpAny_ready (rs := [5]) (by kernel_rfl) (by simp) ?_
      refine AllReady.cons rfl (fun K hK => ?_) AllReady.nil
      (refine step_store_cells rfl 25 (.tmp 4) (.tmp 17) rfl w.heap.size 0 (u8s out) rfl rfl HTH.out HIO.out (u8s_one _) ?_; refine hK _ _ ?_; clear hK K)
      refine wpAny_done (by kernel_rfl) ?_ _
      go_wp2
      exact bodyPost_ret (ret_range (cs := u8s out) rfl rfl (World.rangeAt_setCells_same _ _ _ (u8s out) HTH.out) Tryd.underlying25 rfl HIO.out) rfl ⟨rfl, below_setCells (Nat.le_refl _) _ _ _ HT7.out.bel⟩
  · (go_simp; refine hK _ _ ?_; clear hK K)
    refine wpAny_ready (rs := [0]) (by kernel_rfl) (by simp) ?_
    refine AllReady.cons rfl (fun K hK => ?_) AllReady.nil
    (refine step_load_cells rfl 45 (.tmp 5) rfl w1.heap.size 0 rfl (u8s z) _ (HTD.out.alloc _).r5 Tryd.underlying45 rfl HI64.out ?_; refine hK _ _ ?_; clear hK K; simp only [Act.put])
    refine wpAny_ready (rs := [1]) (by kernel_rfl) (by simp) ?_
    refine AllReady.cons rfl (fun K hK => ?_) AllReady.nil
    (go_simp; go_at_call 32; refine (MB.out _).mono ?_; rintro E w6 ⟨rfl, hb6⟩; have HT6 := Lib.hid ((HTD.out.alloc _).next hb6); have HC6 : Hid (w6.cell? ⟨w5.heap.size, 0, none⟩ = some (.slice (some ⟨w4.heap.size, 0, none⟩) 32 32) ∧ w5.heap.size < w6.heap.size) := Lib.hid ⟨(hb6.cell (p := ⟨w5.heap.size, 0, none⟩) (by simp)).trans (cell_of_row _ _ 0 _ _ (0, 0) (heap_alloc_new (w5.drewN 1) _)), by have := hb6.size; simp at this; omega⟩; clear hb6; refine hK _ _ ?_; clear hK K)
    refine wpAny_ready (rs := [4]) (by kernel_rfl) (by simp) ?_
    refine AllReady.cons rfl (fun K hK => ?_) AllReady.nil
    (go_simp; go_at_call 31; refine (DB.out w5.heap.size w4.heap.size w6 (HT6.out.one w5.heap.size HD.out HC6.out.2 HC6.out.1) (HK.out.below HT6.out.bel h0) (Nat.lt_of_lt_of_le h0 HT6.out.bel.size)).mono ?_; rintro E w7 ⟨rfl, hb7⟩; have HT7 := Lib.hid (HT6.out.next hb7); clear hb7; have HTH : Hid (w7.there w.heap.size 0 (u8s out).length) := Lib.hid (by rw [HO.out]; exact HT7.out.th); refine hK _ _ ?_; clear hK K)
    refine wpAny_ready (rs := [5]) (by kernel_rfl) (by simp) ?_
    refine AllReady.cons rfl (fun K hK => ?_) AllReady.nil
    (refine step_store_cells rfl 25 (.tmp 4) (.tmp 17) rfl w.heap.size 0 (u8s out) rfl rfl HTH.out HIO.out (u8s_one _) ?_; refine hK _ _ ?_; clear hK K)
    refine wpAny_done (by kernel_rfl) ?_ _
    go_wp2
    exact bodyPost_ret (ret_range (cs := u8s out) rfl rfl (World.rangeAt_setCells_same _ _ _ (u8s out) HTH.out) Tryd.underlying25 rfl HIO.out) rfl ⟨rfl, below_setCells (Nat.le_refl _) _ _ _ HT7.out.bel⟩

/-- The tag of parts, one behind the other. -/
theorem tagOf_any (key : List UInt8) (xs : List (Option Addr × Nat × List UInt8)) (A0 : Option Addr) (c0 : Nat) (A : Option Addr) (n c : Nat) (w : World)
    (hr : Rd (fun _ => True) w A0 key.length key) (hs : Sl A0 key.length c0) (hL : key.length < 1000000000000000000) (hx : Lists w A n xs) (hn : n ≤ 1000) (hX : (catOf xs).length < 1000000000000000) (hk : KIs w) (h0 : 0 < w.heap.size) :
    Calls Tryd.prog 20 #[.slice A0 key.length c0, .slice A n c] w fun E w' => E = .returned (.agg (u8s (hmac key (catOf xs))).toArray) ∧ Below w.heap.size w w' :=
  tagOf_by key (filledOf key) (maskOf 0x36 (filledOf key)) (maskOf 0x5c (filledOf key)) (sumOf (maskOf 0x36 (filledOf key) ++ catOf xs)) (hmac key (catOf xs)) xs A0 c0 A n c w (filledOf_length key) (sumOf_length _) (by rw [u8s_length, hmac_length]) hr hs hx hk h0
    (fun A c w hr hs hk h0 => filled_any key A c w hr hs hL hk h0) (fun w => masked_any _ 0x36 w (filledOf_length key)) (fun w => masked_any _ 0x5c w (filledOf_length key))
    (fun w hx hk h0 => dig_any _ xs A n c w (by rw [maskOf_length, filledOf_length]) hx hn hX hk h0)
    (fun g g6 w hx hk h0 => by
      have := dig_any (maskOf 0x5c (filledOf key)) [(some ⟨g6, 0, none⟩, 32, sumOf (maskOf 0x36 (filledOf key) ++ catOf xs))] (some ⟨g, 0, none⟩) 1 1 w (by rw [maskOf_length, filledOf_length]) hx (by omega) (by simp [catOf, sumOf_length]) hk h0
      rw [show catOf [((some ⟨g6, 0, none⟩ : Option Addr), 32, sumOf (maskOf 0x36 (filledOf key) ++ catOf xs))] = sumOf (maskOf 0x36 (filledOf key) ++ catOf xs) by simp [catOf]] at this
      exact this)
end Go.Proofs.YtfmmldpemdodkaaDoor
