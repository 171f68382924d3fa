/- Laws and walks. -/
import Derived.Test.YtknpcmadghkaaaaGreatDoorS6w
import Derived.Deep.RegionLaw
import Derived.Lib.ConvBytes
set_option maxHeartbeats 16000000
set_option maxRecDepth 100000

namespace Go.Proofs.YtknpcmadghkaaaaGreatDoor.Sh
open Go.RowKit
theorem step_store_cells {P : Program} {ops : Array Oper} {o : Oper} {a : Act} {w : World} {K : Act -> World -> Prop} {Q : Exit -> Act -> World -> Prop} {E : Prop} (hgd : o.guard = none) (ty : TypeId) (x y : Operand) (ho : o.op = .store ty x y)
  (b off : Nat) (cs : List Value) (hx : a.eval x = .pointer (some ⟨b, off, none⟩)) (hy : a.eval y = .agg cs.toArray) (ht : w.there b off cs.length) (hi : (P.info? ty).map (·.size) = some cs.length) (h1 : ∀ v ∈ cs, v.oneCell' = true)
  (h : K (a.put o.dst undef) (w.setCells b off cs)) : if Region.wanted o (yielded ops a.tmps) = true then Oper.wp P o a w K Q else E := by
 have hw : Region.wanted o (yielded ops a.tmps) = true := by simp [Region.wanted, hgd]
 rw [if_pos hw]
 exact wp_store_mid ty x y ho b off cs.toArray hx hy (by simpa using ht) (by simpa using hi) (all_oneCell_toArray h1) (by simpa using h)
structure TgAt (g5 g6 : Nat) (z d : List UInt8) (w wr : World) : Prop where
 bel : Below w.heap.size w wr
 r5 : wr.rangeAt g5 0 (u8s z)
 r6 : wr.rangeAt g6 0 (u8s d)
 th : wr.there w.heap.size 0 32
 l4 : w.heap.size < wr.heap.size
 l5 : g5 < wr.heap.size
 l6 : g6 < wr.heap.size
theorem TgAt.next {g5 g6 : Nat} {z d : List UInt8} {w wr w' : World} (H : TgAt g5 g6 z d w wr) (hb : Below wr.heap.size wr w') : TgAt g5 g6 z d w w' :=
 ⟨H.bel.trans (hb.mono H.bel.size), rangeAt_below H.r5 hb H.l5, rangeAt_below H.r6 hb H.l6, there_below H.th hb H.l4, Nat.lt_of_lt_of_le H.l4 hb.size, Nat.lt_of_lt_of_le H.l5 hb.size, Nat.lt_of_lt_of_le H.l6 hb.size⟩
theorem TgAt.drewN {g5 g6 : Nat} {z d : List UInt8} {w wr : World} (H : TgAt g5 g6 z d w wr) (q : Nat) : TgAt g5 g6 z d w (wr.drewN q) := ⟨below_drewN H.bel q, H.r5, H.r6, H.th, H.l4, H.l5, H.l6⟩
theorem TgAt.alloc {g5 g6 : Nat} {z d : List UInt8} {w wr : World} (H : TgAt g5 g6 z d w wr) (o : Obj) : TgAt g5 g6 z d w (wr.alloc o) := H.next (bl.alloc (Nat.le_refl _) _)
theorem TgAt.one {g5 g6 : Nat} {z d : List UInt8} {w wr : World} (H : TgAt g5 g6 z d w wr) (g : Nat) (hd : d.length = 32) (hg : g < wr.heap.size) (hc : wr.cell? ⟨g, 0, none⟩ = some (.slice (some ⟨g6, 0, none⟩) 32 32)) : Lists wr (some ⟨g, 0, none⟩) 1 [(some ⟨g6, 0, none⟩, 32, d)] := by
 refine ⟨rfl, fun _ => ⟨g, 0, rfl, hg, fun j x hx => ?_⟩⟩
 match j, hx with
 | 0, hx =>
  simp at hx
  subst hx
  simp only [hd]
  exact ⟨hc, Rd.of_range H.r6 H.l6 trivial (fun _ _ h => h) hd, ⟨(fun e => by cases e), Nat.le_refl _, by omega⟩⟩
theorem tagOf_by (key z zi zo d out : List UInt8) (xs : List (Option Addr × Nat × List UInt8)) (A0 : Option Addr) (c0 : Nat) (A : Option Addr) (n c : Nat) (w : World) (hz : z.length = 64) (hd : d.length = 32) (ho : (u8s out).length = 32)
  (hr : Rd (fun _ => True) w A0 key.length key) (hs : Sl A0 key.length c0) (hx : Lists w A n xs) (hk : KIs w) (h0 : 0 < w.heap.size)
  (F : ∀ (A : Option Addr) (c : Nat) (w : World), Rd (fun _ => True) w A key.length key -> Sl A key.length c -> KIs w -> 0 < w.heap.size -> Calls Tryz.prog 169 #[.slice A key.length c] w fun E w' => E = .returned (.agg (u8s z).toArray) /\ Below w.heap.size w w')
  (M1 : ∀ w : World, Calls Tryz.prog 171 #[.agg (u8s z).toArray, .int .u8 54] w fun E w' => E = .returned (.agg (u8s zi).toArray) /\ Below w.heap.size w w')
  (M2 : ∀ w : World, Calls Tryz.prog 171 #[.agg (u8s z).toArray, .int .u8 92] w fun E w' => E = .returned (.agg (u8s zo).toArray) /\ Below w.heap.size w w')
  (D1 : ∀ w : World, Lists w A n xs -> KIs w -> 0 < w.heap.size -> Calls Tryz.prog 170 #[.agg (u8s zi).toArray, .slice A n c] w fun E w' => E = .returned (.agg (u8s d).toArray) /\ Below w.heap.size w w')
  (D2 : ∀ (g g6 : Nat) (w : World), Lists w (some ⟨g, 0, none⟩) 1 [(some ⟨g6, 0, none⟩, 32, d)] -> KIs w -> 0 < w.heap.size -> Calls Tryz.prog 170 #[.agg (u8s zo).toArray, .slice (some ⟨g, 0, none⟩) 1 1] w fun E w' => E = .returned (.agg (u8s out).toArray) /\ Below w.heap.size w w') :
  Calls Tryz.prog 163 #[.slice A0 key.length c0, .slice A n c] w fun E w' => E = .returned (.agg (u8s out).toArray) /\ Below w.heap.size w w' := by
 have HR := iq hr
 have HS := iq hs
 have HX := iq hx
 have HK := iq hk
 have HD := iq hd
 have HO := iq ho
 have FF := iq F
 have MA := iq M1
 have MB := iq M2
 have DA := iq D1
 have DB := iq D2
 have HZ64 : Hid ((u8s z).length = 64) := iq (by rw [u8s_length, hz])
 have HD32 : Hid ((u8s d).length = 32) := iq (by rw [u8s_length, hd])
 have HI64 : Hid ((Tryz.prog.info? 204).map (·.size) = some (u8s z).length) := iq (by rw [HZ64.out]; exact Tryz.size204)
 have HID : Hid ((Tryz.prog.info? 30).map (·.size) = some (u8s d).length) := iq (by rw [HD32.out]; exact Tryz.size30)
 have HIO : Hid ((Tryz.prog.info? 30).map (·.size) = some (u8s out).length) := iq (by rw [ho]; exact Tryz.size30)
 clear hr hs hx hk hd ho F M1 M2 D1 D2 hz
 have HA0 : Hid (Below w.heap.size w (w.alloc (.cells (List.replicate 32 (Value.int .u8 0)).toArray 30))) := iq (bl.alloc (Nat.le_refl _) _)
 go_enter Tryz.func163, Tryz.ntmps163
 go_wp2_with (first
  | (go_at_call 169; refine (FF.out A0 c0 _ (HR.out.below HA0.out (fun _ h _ => h)) HS.out (HK.out.below HA0.out h0) (by simp)).mono ?_; rintro E w1 ⟨rfl, hb1⟩; have HB1 : Hid (Below w.heap.size w w1 /\ w.heap.size < w1.heap.size /\ w1.there w.heap.size 0 32) := iq ⟨HA0.out.trans (hb1.mono (by simp)), by have := hb1.size; simp at this; omega, there_below (there_new w (List.replicate 32 (Value.int .u8 0)).toArray 30) hb1 (by simp)⟩; clear hb1)
  | (go_at_call_of 171 (Value.int .u8 54); refine (MA.out w2).mono ?_; rintro E w3 ⟨rfl, hb3⟩; have HB3 : Hid (Below w1.heap.size w1 w3 /\ w3.rangeAt w1.heap.size 0 (u8s z) /\ w1.heap.size < w3.heap.size) := iq ⟨HB2.out.1.trans (hb3.mono HB2.out.1.size), rangeAt_below HB2.out.2.1 hb3 HB2.out.2.2.2, Nat.lt_of_lt_of_le HB2.out.2.2.2 hb3.size⟩; clear hb3)
  | (go_at_call 170; refine (DA.out w3 (HX.out.below (HB1.out.1.trans (HB3.out.1.mono HB1.out.1.size))) (HK.out.below (HB1.out.1.trans (HB3.out.1.mono HB1.out.1.size)) h0) (by have := HB3.out.2.2; omega)).mono ?_; rintro E w4 ⟨rfl, hb4⟩; have HB4 : Hid (Below w1.heap.size w1 w4 /\ w4.rangeAt w1.heap.size 0 (u8s z) /\ w1.heap.size < w4.heap.size) := iq ⟨HB3.out.1.trans (hb4.mono HB3.out.1.size), rangeAt_below HB3.out.2.1 hb4 HB3.out.2.2, Nat.lt_of_lt_of_le HB3.out.2.2 hb4.size⟩; clear hb4)
  | (refine wpList_load_mid rfl 204 (.tmp 5) rfl w1.heap.size 0 rfl (u8s z) _ HB2.out.2.1 Tryz.underlying204 rfl HI64.out ?_)
  | (refine wpList_store_fresh rfl 204 (.tmp 5) (.tmp 8) rfl (u8s z) rfl rfl (by rw [HZ64.out]; rfl) HI64.out (u8s_one z) ?_; intro w2 HB2)
  | (refine wpList_store_fresh rfl 30 (.tmp 6) (.tmp 12) rfl (u8s d) rfl rfl (by rw [HD32.out]; rfl) HID.out (u8s_one d) ?_; intro w5 HB5))
 have HT5 : Hid (TgAt w1.heap.size w4.heap.size z d w w5) := iq ⟨(HB1.out.1.trans (HB4.out.1.mono HB1.out.1.size)).trans (HB5.out.1.mono (by have := HB4.out.2.2; have := HB1.out.2.1; omega)), rangeAt_below HB4.out.2.1 HB5.out.1 HB4.out.2.2, HB5.out.2.1, there_below (there_below HB1.out.2.2 HB4.out.1 HB1.out.2.1) HB5.out.1 (by have := HB4.out.2.2; have := HB1.out.2.1; omega), by have := HB4.out.2.2; have := HB1.out.2.1; have := HB5.out.2.2.2; omega, by have := HB4.out.2.2; have := HB5.out.2.2.2; omega, HB5.out.2.2.2⟩
 have HTD : Hid (TgAt w1.heap.size w4.heap.size z d w (w5.drewN 1)) := iq (HT5.out.drewN 1)
 clear HB1 HB2 HB3 HB4 HB5 HA0 HT5
 refine wp_region_any (by kernel_rfl) ?_
 change wpAny _ _ _ _ _ _ _ (w5.drewN 1)
 refine wpAny_take (i := 2) (v := .slice (some ⟨w4.heap.size, 0, none⟩) 32 32) rfl (by kernel_rfl) (by kernel_rfl) (by kernel_rfl) (fun _ _ _ => id) (Or.inl ⟨by rfl, fun w => by go_simp⟩) ?_
 simp only [Act.put, List.setIfInBounds_toArray]
 refine wpAny_ready (rs := [0, 3]) (by kernel_rfl) (by simp) ?_
 refine AllReady.cons rfl (fun K hK => ?_) (AllReady.cons rfl (fun K hK => ?_) AllReady.nil)
 ·(refine step_load_cells rfl 204 (.tmp 5) rfl w1.heap.size 0 rfl (u8s z) _ HTD.out.r5 Tryz.underlying204 rfl HI64.out ?_; refine hK _ _ ?_; clear hK K; simp only [Act.put])
  refine wpAny_ready (rs := [1, 3]) (by kernel_rfl) (by simp) ?_
  refine AllReady.cons rfl (fun K hK => ?_) (AllReady.cons rfl (fun K hK => ?_) AllReady.nil)
  ·(go_simp; go_at_call 171; refine (MB.out _).mono ?_; rintro E w6 ⟨rfl, hb6⟩; have HT6 := iq (HTD.out.next hb6); clear hb6; refine hK _ _ ?_; clear hK K)
   refine wpAny_ready (rs := [3]) (by kernel_rfl) (by simp) ?_
   refine AllReady.cons rfl (fun K hK => ?_) AllReady.nil
   (go_simp; refine hK _ _ ?_; clear hK K)
   refine wpAny_ready (rs := [4]) (by kernel_rfl) (by simp) ?_
   refine AllReady.cons rfl (fun K hK => ?_) AllReady.nil
   (go_simp; go_at_call 170; refine (DB.out w6.heap.size w4.heap.size _ ((HT6.out.alloc _).one w6.heap.size HD.out (by simp) (cell_of_row _ _ 0 _ _ (0, 0) (heap_alloc_new w6 _))) (HK.out.below (HT6.out.alloc _).bel h0) (by simp)).mono ?_; rintro E w7 ⟨rfl, hb7⟩; have HT7 := iq ((HT6.out.alloc _).next hb7); clear hb7; have HTH : Hid (w7.there w.heap.size 0 (u8s out).length) := iq (by rw [HO.out]; exact HT7.out.th); refine hK _ _ ?_; clear hK K)
   refine wpAny_ready (rs := [5]) (by kernel_rfl) (by simp) ?_
   refine AllReady.cons rfl (fun K hK => ?_) AllReady.nil
   (refine step_store_cells rfl 30 (.tmp 4) (.tmp 17) rfl w.heap.size 0 (u8s out) rfl rfl HTH.out HIO.out (u8s_one _) ?_; refine hK _ _ ?_; clear hK K)
   refine wpAny_done (by kernel_rfl) ?_ _
   go_wp2
   exact bodyPost_ret (ret_range (cs := u8s out) rfl rfl (World.rangeAt_setCells_same _ _ _ (u8s out) HTH.out) Tryz.underlying30 rfl HIO.out) rfl ⟨rfl, below_setCells (Nat.le_refl _) _ _ _ HT7.out.bel⟩
  ·(go_simp; refine hK _ _ ?_; clear hK K)
   refine wpAny_ready (rs := [1]) (by kernel_rfl) (by simp) ?_
   refine AllReady.cons rfl (fun K hK => ?_) AllReady.nil
   (go_simp; go_at_call 171; refine (MB.out _).mono ?_; rintro E w6 ⟨rfl, hb6⟩; have HT6 := iq ((HTD.out.alloc _).next hb6); have HC6 : Hid (w6.cell? ⟨w5.heap.size, 0, none⟩ = some (.slice (some ⟨w4.heap.size, 0, none⟩) 32 32) /\ w5.heap.size < w6.heap.size) := iq ⟨(hb6.cell (p := ⟨w5.heap.size, 0, none⟩) (by simp)).trans (cell_of_row _ _ 0 _ _ (0, 0) (heap_alloc_new (w5.drewN 1) _)), by have := hb6.size; simp at this; omega⟩; clear hb6; refine hK _ _ ?_; clear hK K)
   refine wpAny_ready (rs := [4]) (by kernel_rfl) (by simp) ?_
   refine AllReady.cons rfl (fun K hK => ?_) AllReady.nil
   (go_simp; go_at_call 170; refine (DB.out w5.heap.size w4.heap.size w6 (HT6.out.one w5.heap.size HD.out HC6.out.2 HC6.out.1) (HK.out.below HT6.out.bel h0) (Nat.lt_of_lt_of_le h0 HT6.out.bel.size)).mono ?_; rintro E w7 ⟨rfl, hb7⟩; have HT7 := iq (HT6.out.next hb7); clear hb7; have HTH : Hid (w7.there w.heap.size 0 (u8s out).length) := iq (by rw [HO.out]; exact HT7.out.th); refine hK _ _ ?_; clear hK K)
   refine wpAny_ready (rs := [5]) (by kernel_rfl) (by simp) ?_
   refine AllReady.cons rfl (fun K hK => ?_) AllReady.nil
   (refine step_store_cells rfl 30 (.tmp 4) (.tmp 17) rfl w.heap.size 0 (u8s out) rfl rfl HTH.out HIO.out (u8s_one _) ?_; refine hK _ _ ?_; clear hK K)
   refine wpAny_done (by kernel_rfl) ?_ _
   go_wp2
   exact bodyPost_ret (ret_range (cs := u8s out) rfl rfl (World.rangeAt_setCells_same _ _ _ (u8s out) HTH.out) Tryz.underlying30 rfl HIO.out) rfl ⟨rfl, below_setCells (Nat.le_refl _) _ _ _ HT7.out.bel⟩
 ·(go_simp; refine hK _ _ ?_; clear hK K)
  refine wpAny_ready (rs := [0]) (by kernel_rfl) (by simp) ?_
  refine AllReady.cons rfl (fun K hK => ?_) AllReady.nil
  (refine step_load_cells rfl 204 (.tmp 5) rfl w1.heap.size 0 rfl (u8s z) _ (HTD.out.alloc _).r5 Tryz.underlying204 rfl HI64.out ?_; refine hK _ _ ?_; clear hK K; simp only [Act.put])
  refine wpAny_ready (rs := [1]) (by kernel_rfl) (by simp) ?_
  refine AllReady.cons rfl (fun K hK => ?_) AllReady.nil
  (go_simp; go_at_call 171; refine (MB.out _).mono ?_; rintro E w6 ⟨rfl, hb6⟩; have HT6 := iq ((HTD.out.alloc _).next hb6); have HC6 : Hid (w6.cell? ⟨w5.heap.size, 0, none⟩ = some (.slice (some ⟨w4.heap.size, 0, none⟩) 32 32) /\ w5.heap.size < w6.heap.size) := iq ⟨(hb6.cell (p := ⟨w5.heap.size, 0, none⟩) (by simp)).trans (cell_of_row _ _ 0 _ _ (0, 0) (heap_alloc_new (w5.drewN 1) _)), by have := hb6.size; simp at this; omega⟩; clear hb6; refine hK _ _ ?_; clear hK K)
  refine wpAny_ready (rs := [4]) (by kernel_rfl) (by simp) ?_
  refine AllReady.cons rfl (fun K hK => ?_) AllReady.nil
  (go_simp; go_at_call 170; refine (DB.out w5.heap.size w4.heap.size w6 (HT6.out.one w5.heap.size HD.out HC6.out.2 HC6.out.1) (HK.out.below HT6.out.bel h0) (Nat.lt_of_lt_of_le h0 HT6.out.bel.size)).mono ?_; rintro E w7 ⟨rfl, hb7⟩; have HT7 := iq (HT6.out.next hb7); clear hb7; have HTH : Hid (w7.there w.heap.size 0 (u8s out).length) := iq (by rw [HO.out]; exact HT7.out.th); refine hK _ _ ?_; clear hK K)
  refine wpAny_ready (rs := [5]) (by kernel_rfl) (by simp) ?_
  refine AllReady.cons rfl (fun K hK => ?_) AllReady.nil
  (refine step_store_cells rfl 30 (.tmp 4) (.tmp 17) rfl w.heap.size 0 (u8s out) rfl rfl HTH.out HIO.out (u8s_one _) ?_; refine hK _ _ ?_; clear hK K)
  refine wpAny_done (by kernel_rfl) ?_ _
  go_wp2
  exact bodyPost_ret (ret_range (cs := u8s out) rfl rfl (World.rangeAt_setCells_same _ _ _ (u8s out) HTH.out) Tryz.underlying30 rfl HIO.out) rfl ⟨rfl, below_setCells (Nat.le_refl _) _ _ _ HT7.out.bel⟩
theorem tagOf_any (key : List UInt8) (xs : List (Option Addr × Nat × List UInt8)) (A0 : Option Addr) (c0 : Nat) (A : Option Addr) (n c : Nat) (w : World)
  (hr : Rd (fun _ => True) w A0 key.length key) (hs : Sl A0 key.length c0) (hL : key.length < 1000000000000000000) (hx : Lists w A n xs) (hn : n <= 1000) (hX : (catOf xs).length < 1000000000000000) (hk : KIs w) (h0 : 0 < w.heap.size) :
  Calls Tryz.prog 163 #[.slice A0 key.length c0, .slice A n c] w fun E w' => E = .returned (.agg (u8s (hmac key (catOf xs))).toArray) /\ Below w.heap.size w w' :=
 tagOf_by key (filledOf key) (maskOf 0x36 (filledOf key)) (maskOf 0x5c (filledOf key)) (sumOf (maskOf 0x36 (filledOf key) ++ catOf xs)) (hmac key (catOf xs)) xs A0 c0 A n c w (filledOf_length key) (sumOf_length _) (by rw [u8s_length, hmac_length]) hr hs hx hk h0
  (fun A c w hr hs hk h0 => filled_any key A c w hr hs hL hk h0) (fun w => masked_any _ 0x36 w (filledOf_length key)) (fun w => masked_any _ 0x5c w (filledOf_length key))
  (fun w hx hk h0 => dig_any _ xs A n c w (by rw [maskOf_length, filledOf_length]) hx hn hX hk h0)
  (fun g g6 w hx hk h0 => by
   have := dig_any (maskOf 0x5c (filledOf key)) [(some ⟨g6, 0, none⟩, 32, sumOf (maskOf 0x36 (filledOf key) ++ catOf xs))] (some ⟨g, 0, none⟩) 1 1 w (by rw [maskOf_length, filledOf_length]) hx (by omega) (by simp [catOf, sumOf_length]) hk h0
   rw [show catOf [((some ⟨g6, 0, none⟩ : Option Addr), 32, sumOf (maskOf 0x36 (filledOf key) ++ catOf xs))] = sumOf (maskOf 0x36 (filledOf key) ++ catOf xs) by simp [catOf]] at this
   exact this)
open Go.RowKit
theorem wpList_str {ops : Array Oper} {rest : List Oper} {op : Oper} {a : Act} {w : World} {Q : Exit -> Act -> World -> Prop} (hgd : op.guard = none) (x : Operand) (ho : op.op = .convert 9 23 x)
  (s : ByteArray) (bs : List UInt8) (hs : s.data.toList = bs) (hm : s.size <= 140737488355328) (hx : a.eval x = .string s)
  (h : ∀ c w2, Hid (Below w.heap.size w w2 /\ Rd (fun _ => True) w2 (some ⟨w.heap.size, 0, none⟩) s.size bs /\ Sl (some ⟨w.heap.size, 0, none⟩) s.size c /\ w.heap.size < w2.heap.size) -> wpList Tryz.prog ops Q rest (a.put op.dst (.slice (some ⟨w.heap.size, 0, none⟩) s.size c)) w2) : wpList Tryz.prog ops Q (op :: rest) a w := by
 have hrun := Lib.run_convert_string_bytes (P := Tryz.prog) w 9 23 5 s Tryz.underlying9' Tryz.underlying23 Tryz.underlying5
 have h1 := grownCap_ge w s.size 0 5
 have h2 := grownCap_le_maxLen w s.size 0 5 (by unfold maxLen; omega)
 refine wpList_plain hgd fun K hK => ?_
 unfold Oper.wp execOp
 simp only [ho, hx, Sem.run_bind, Sem.run_pure, Result.andThen_ok, hrun]
 refine hK _ _ (h _ _ (iq ⟨⟨rfl, rfl, rfl, by rw [Lib.bytesWorld_size]; omega, fun k hk => Lib.bytesWorld_at_old w 5 s k hk⟩, ⟨by rw [<- hs]; exact Array.length_toList, fun _ => ⟨_, 0, rfl, by rw [Lib.bytesWorld_size]; omega, trivial, fun j u hu => ?_⟩⟩, ⟨(fun e => by cases e), h1, by unfold maxLen at h2; omega⟩, by rw [Lib.bytesWorld_size]; omega⟩))
 subst hs
 have hj : j < s.size := by have := (List.getElem?_eq_some_iff.1 hu).1; rw [Array.length_toList] at this; exact this
 rw [Nat.zero_add, Lib.bytesWorld_cell w 5 s j hj, List.getD_eq_getElem?_getD, hu]
 rfl
theorem lists_one {P : Nat -> Prop} {w : World} {A : Option Addr} {n c : Nat} {bs : List UInt8} (hr : Rd P w A n bs) (hs : Sl A n c) (t : TypeId) : Lists (w.alloc (.cells #[.slice A n c] t)) (some ⟨w.heap.size, 0, none⟩) 1 [(A, c, bs)] := by
 obtain rfl : bs.length = n := hr.1
 refine ⟨rfl, fun _ => ⟨_, 0, rfl, by simp, fun j x hx => ?_⟩⟩
 match j, hx with
 | 0, hx =>
  simp at hx
  subst hx
  exact ⟨cell_of_row _ _ 0 _ t (0, 0) (heap_alloc_new w _), (hr.below (bl.alloc (Nat.le_refl _) _) (fun _ h _ => h)).mono (fun _ _ _ => trivial), hs⟩
theorem of_by {Pk Pb : Nat -> Prop} (key b out : List UInt8) (A : Option Addr) (c : Nat) (A' : Option Addr) (c' : Nat) (w : World) (ho : (u8s out).length = 32)
  (hr : Rd Pk w A key.length key) (hr' : Rd Pb w A' b.length b) (hs' : Sl A' b.length c') (hk : KIs w) (h0 : 0 < w.heap.size)
  (T : ∀ (g : Nat) (w : World), Rd (fun _ => True) w A key.length key -> Lists w (some ⟨g, 0, none⟩) 1 [(A', c', b)] -> KIs w -> 0 < w.heap.size -> Calls Tryz.prog 163 #[.slice A key.length c, .slice (some ⟨g, 0, none⟩) 1 1] w fun E w' => E = .returned (.agg (u8s out).toArray) /\ Below w.heap.size w w') :
  Calls Tryz.prog 150 #[.slice A key.length c, .slice A' b.length c'] w fun E w' => E = .returned (.agg (u8s out).toArray) /\ Below w.heap.size w w' := by
 have HR := iq hr
 have HR' := iq hr'
 have HS' := iq hs'
 have HK := iq hk
 have HO := iq ho
 have TT := iq T
 have HIO : Hid ((Tryz.prog.info? 30).map (·.size) = some (u8s out).length) := iq (by rw [ho]; exact Tryz.size30)
 clear hr hr' hs' hk ho T
 go_enter Tryz.func150, Tryz.ntmps150
 have HA0 : Hid (Below w.heap.size w (w.alloc (.cells (List.replicate 32 (Value.int .u8 0)).toArray 30))) := iq (bl.alloc (Nat.le_refl _) _)
 have HA1 : Hid (∀ o : Obj, Below w.heap.size w ((w.alloc (.cells (List.replicate 32 (Value.int .u8 0)).toArray 30)).alloc o)) := iq fun o => (bl.alloc (Nat.le_refl _) _).alloc (by simp) _
 go_wp2_with (first
  | (go_at_call 163; refine (TT.out (w.heap.size + 1) _ ((HR.out.below (HA1.out _) (fun _ h _ => h)).mono fun _ _ _ => trivial) (by have := lists_one (HR'.out.below HA0.out (fun _ h _ => h)) HS'.out 23; simpa using this) (HK.out.below (HA1.out _) h0) (by simp)).mono ?_; rintro E w1 ⟨rfl, hb1⟩; have HB1 : Hid (Below w.heap.size w w1) := iq ((HA1.out _).trans (hb1.mono (by simp; omega))); have HT1 : Hid (w1.there w.heap.size 0 (u8s out).length) := iq (by rw [HO.out]; exact there_below (World.there_alloc (there_new w (List.replicate 32 (Value.int .u8 0)).toArray 30) _) hb1 (by simp; omega)); clear hb1)
  | (refine wpList_store_cells rfl 30 (.tmp 4) (.tmp 8) rfl w.heap.size 0 (u8s out) rfl rfl HT1.out HIO.out (u8s_one _) ?_))
 exact bodyPost_ret (ret_range (cs := u8s out) rfl rfl (World.rangeAt_setCells_same _ _ _ (u8s out) HT1.out) Tryz.underlying30 rfl HIO.out) rfl ⟨rfl, below_setCells (Nat.le_refl _) _ _ _ HB1.out⟩
theorem of_any {Pk Pb : Nat -> Prop} (key b : List UInt8) (A : Option Addr) (n c : Nat) (A' : Option Addr) (n' c' : Nat) (w : World)
  (hr : Rd Pk w A n key) (hs : Sl A n c) (hr' : Rd Pb w A' n' b) (hs' : Sl A' n' c') (hL : n < 1000000000000000000) (hL' : n' < 1000000000000000) (hk : KIs w) (h0 : 0 < w.heap.size) :
  Calls Tryz.prog 150 #[.slice A n c, .slice A' n' c'] w fun E w' => E = .returned (.agg (u8s (hmac key b)).toArray) /\ Below w.heap.size w w' := by
 obtain rfl : key.length = n := hr.1
 obtain rfl : b.length = n' := hr'.1
 refine of_by key b (hmac key b) A c A' c' w (by rw [u8s_length, hmac_length]) hr hr' hs' hk h0 fun g w hr hx hk h0 => ?_
 have := tagOf_any key [(A', c', b)] A c (some ⟨g, 0, none⟩) 1 1 w hr hs hL hx (by omega) (by simp [catOf]; omega) hk h0
 rwa [show catOf [(A', c', b)] = b by simp [catOf]] at this
def txtRep : List UInt8 := [114, 97, 116, 99, 104, 101, 116, 32, 114, 101, 112, 108, 105, 99, 97]
def txtCli : List UInt8 := [114, 97, 116, 99, 104, 101, 116, 32, 99, 108, 105, 101, 110, 116]
def keyI (name : List UInt8) (most i : Int) : List UInt8 := if i < 1 \/ most < i then [] else sumOf (name ++ be 8 i.toNat)
def repKey (i : Int) : List UInt8 := keyI txtRep 11 i
def cliKey (i : Int) : List UInt8 := keyI txtCli 8 i
theorem keyOf_no (s : ByteArray) (i most : Int) (w : World) (h : i < 1 \/ most < i) :
  Calls Tryz.prog 164 #[.string s, .int .i64 i, .int .i64 most] w fun E w' => E = .returned (.slice none 0 0) /\ w = w' := by
 by_cases h1 : i < 1
 ·clear h
  go_enter Tryz.func164, Tryz.ntmps164
  go_wp2
  go_ret
  exact ⟨rfl, rfl⟩
 ·have h2 : most < i := by omega
  clear h
  go_enter Tryz.func164, Tryz.ntmps164
  go_wp2
  go_ret
  exact ⟨rfl, rfl⟩
theorem keyOf_by (s : ByteArray) (name d : List UInt8) (i : Nat) (most : Int) (w : World) (hs : s.data.toList = name) (hm : s.size <= 1000) (h1 : 1 <= i) (h2 : (i : Int) <= most) (h3 : most <= 1000000) (hd : d.length = 32) (hk : KIs w) (h0 : 0 < w.heap.size)
  (W8 : ∀ (A : Option Addr) (c : Nat) (w : World), Rd (fun _ => True) w A s.size name -> Calls Tryz.prog 165 #[.slice A s.size c, .int .u64 i] w fun e w' => ∃ g c', e = .returned (.slice (some ⟨g, 0, none⟩) (s.size + 8) c') /\ Hid (Rd (fun _ => True) w' (some ⟨g, 0, none⟩) (s.size + 8) (name ++ be 8 i) /\ Sl (some ⟨g, 0, none⟩) (s.size + 8) c') /\ Below w.heap.size w w')
  (S : ∀ (A : Option Addr) (c : Nat) (w : World), Rd (fun _ => True) w A (s.size + 8) (name ++ be 8 i) -> Sl A (s.size + 8) c -> KIs w -> 0 < w.heap.size -> Calls Tryz.prog 172 #[.slice A (s.size + 8) c] w fun E w' => E = .returned (.agg (u8s d).toArray) /\ Below w.heap.size w w') :
  Calls Tryz.prog 164 #[.string s, .int .i64 i, .int .i64 most] w fun E w' => ∃ g, E = .returned (.slice (some ⟨g, 0, none⟩) 32 32) /\ Hid (Rd (w.heap.size <= ·) w' (some ⟨g, 0, none⟩) 32 d) /\ Below w.heap.size w w' := by
 have HS := iq hs
 have HK := iq hk
 have HD := iq hd
 have WW := iq W8
 have SS := iq S
 have HD32 : Hid ((u8s d).length = 32) := iq (by rw [u8s_length, hd])
 have HID : Hid ((Tryz.prog.info? 30).map (·.size) = some (u8s d).length) := iq (by rw [HD32.out]; exact Tryz.size30)
 clear hs hk hd W8 S
 go_enter Tryz.func164, Tryz.ntmps164
 go_wp2_with (first
  | (refine wpList_str rfl (.tmp 15) rfl s name HS.out (by omega) rfl ?_; intro c1 w1 H1)
  | (go_at_call 165; refine (WW.out _ c1 w1 H1.out.2.1).mono ?_; rintro E w2 ⟨g, c2, rfl, H2, hb2⟩; have HB2 : Hid (Below w.heap.size w w2) := iq (H1.out.1.trans (hb2.mono H1.out.1.size)); clear hb2)
  | (go_at_call 172; refine (SS.out _ c2 w2 H2.out.1 H2.out.2 (HK.out.below HB2.out h0) (Nat.lt_of_lt_of_le h0 HB2.out.size)).mono ?_; rintro E w3 ⟨rfl, hb3⟩; have HB3 : Hid (Below w.heap.size w w3) := iq (HB2.out.trans (hb3.mono HB2.out.size)); clear hb3)
  | (refine wpList_store_fresh rfl 30 (.tmp 7) (.tmp 20) rfl (u8s d) rfl rfl (by rw [HD32.out]; rfl) HID.out (u8s_one d) ?_; intro w4 HB4))
 go_ret
 exact ⟨w3.heap.size, rfl, iq (Rd.of_range HB4.out.2.1 HB4.out.2.2.2 HB3.out.size (fun _ _ h => h) HD.out), HB3.out.trans (HB4.out.1.mono HB3.out.size)⟩
theorem keyOf_yes (s : ByteArray) (name : List UInt8) (i : Nat) (most : Int) (w : World) (hs : s.data.toList = name) (hm : s.size <= 1000) (h1 : 1 <= i) (h2 : (i : Int) <= most) (h3 : most <= 1000000) (hk : KIs w) (h0 : 0 < w.heap.size) :
  Calls Tryz.prog 164 #[.string s, .int .i64 i, .int .i64 most] w fun E w' => ∃ g, E = .returned (.slice (some ⟨g, 0, none⟩) 32 32) /\ Hid (Rd (w.heap.size <= ·) w' (some ⟨g, 0, none⟩) 32 (sumOf (name ++ be 8 i))) /\ Below w.heap.size w w' :=
 keyOf_by s name (sumOf (name ++ be 8 i)) i most w hs hm h1 h2 h3 (sumOf_length _) hk h0
  (fun A c w hr => (word_any A s.size c name i w hr (by omega)).mono fun e w' ⟨g, c', he, ho, hb⟩ => ⟨g, c', he, iq ⟨(Rd.of_own ho).mono fun _ _ _ => trivial, by obtain ⟨A2, c2, e2, h2⟩ := own_shape ho; injection e2 with e3 e4 e5; subst e3 e5; exact h2⟩, hb⟩)
  (fun A c w hr hs hk h0 => by
   have e : (name ++ be 8 i).length = s.size + 8 := hr.1
   have := sum_any (name ++ be 8 i) A c w (by rw [e]; exact hr) (by rw [e]; exact hs) (by rw [e]; omega) hk h0
   rwa [e] at this)
theorem keyOf_any (s : ByteArray) (name : List UInt8) (i most : Int) (w : World) (hs : s.data.toList = name) (hm : s.size <= 1000) (h3 : most <= 1000000) (hk : KIs w) (h0 : 0 < w.heap.size) :
  Calls Tryz.prog 164 #[.string s, .int .i64 i, .int .i64 most] w fun E w' => ∃ A c, E = .returned (.slice A (keyI name most i).length c) /\ Hid (Rd (w.heap.size <= ·) w' A (keyI name most i).length (keyI name most i) /\ Sl A (keyI name most i).length c) /\ Below w.heap.size w w' := by
 by_cases h : i < 1 \/ most < i
 ·have e : keyI name most i = [] := if_pos h
  rw [e]
  exact (keyOf_no s i most w h).mono fun E w' ⟨he, hw⟩ => hw ▸ ⟨none, 0, he, iq ⟨Rd.nil _ _ _, ⟨fun _ => ⟨rfl, rfl⟩, Nat.le_refl _, by simp⟩⟩, Below.refl _ _⟩
 ·obtain ⟨j, rfl⟩ : ∃ j : Nat, i = (j : Int) := ⟨i.toNat, by omega⟩
  have e : keyI name most (j : Int) = sumOf (name ++ be 8 j) := by rw [keyI, if_neg h, Int.toNat_natCast]
  rw [e, sumOf_length]
  exact (keyOf_yes s name j most w hs hm (by omega) (by omega) h3 hk h0).mono fun E w' ⟨g, he, hr, hb⟩ => ⟨_, _, he, iq ⟨hr.out, ⟨(fun e => by cases e), Nat.le_refl _, by omega⟩⟩, hb⟩
theorem client_any (i : Int) (w : World) (hk : KIs w) (h0 : 0 < w.heap.size) :
  Calls Tryz.prog 151 #[.int .i64 i] w fun E w' => ∃ A c, E = .returned (.slice A (cliKey i).length c) /\ Hid (Rd (w.heap.size <= ·) w' A (cliKey i).length (cliKey i) /\ Sl A (cliKey i).length c) /\ Below w.heap.size w w' := by
 have H := fun s hs hm => iq (keyOf_any s txtCli i 8 w hs hm (by omega) hk h0)
 rw [show keyI txtCli 8 i = cliKey i from rfl] at H
 generalize cliKey i = d at H ⊢
 go_enter Tryz.func151, Tryz.ntmps151
 go_wp2_with (go_at_call 164; refine ((H _ rfl (by decide)).out).mono ?_; rintro E w1 ⟨A, c, rfl, h1, hb1⟩)
 go_ret
 exact ⟨A, c, rfl, h1, hb1⟩
open Go.RowKit
def numTag (i : Int) (n : Nat) (b : List UInt8) : List UInt8 := hmac (repKey i) (be 8 n ++ b)
theorem numTag_length (i : Int) (n : Nat) (b : List UInt8) : (numTag i n b).length = 32 := hmac_length _ _
theorem keyI_length (name : List UInt8) (most i : Int) : (keyI name most i).length <= 32 := by
 unfold keyI
 split
 ·simp
 ·rw [sumOf_length]; omega
theorem own_some_shape {w : World} {B n g c : Nat} {xs : List Value} (h : w.ownsRow B 5 1 (.slice (some ⟨g, 0, none⟩) n c) n xs) : Sl (some ⟨g, 0, none⟩) n c := by
 obtain ⟨A2, c2, e2, h2⟩ := own_shape h
 injection e2 with e3 e4 e5
 subst e3 e5
 exact h2
end Go.Proofs.YtknpcmadghkaaaaGreatDoor.Sh
