/- Laws and walks. -/
import Derived.Test.YtllbbcifcbkgeaaGreatDoorH16w
import Derived.Test.YtllbbcifcbkgeaaGreatDoorF13w
import Derived.Test.YtllbbcifcbkgeaaGreatDoorFbw
set_option maxHeartbeats 16000000
set_option maxRecDepth 100000
namespace Go.Proofs.YtllbbcifcbkgeaaGreatDoor.Sh
open Go.RowKit

def bX : MBody := { zeroBody with kind := 3, view := 2 }
def mX2 : MMsg := { zeroMsg with origin := 1, number := 2, deps := v1, body := bX }
def oX2 : MMsg := { mX2 with tag := numTag 1 2 (msgB mX2) }
theorem bX_wf : bX.Wf := ⟨rfl, rfl⟩
theorem mX2_wf : mX2.Wf := ⟨rfl, bX_wf, rfl⟩
theorem oX2_wf : oX2.Wf := ⟨rfl, bX_wf, numTag_length _ _ _⟩
theorem bX_may : bX.may := by
  refine ⟨by kernel_rfl, by decide, ?_⟩
  have e : bodyOwn bX = { zeroBody with kind := 3, view := 2 } := by simp [bodyOwn, bX, zeroBody]
  rw [e]
  exact ⟨rfl, rfl, rfl, rfl, rfl⟩
theorem mX2_may : mX2.may := ⟨by decide, ⟨by decide, rfl, fun x hx => by
  rcases List.mem_cons.1 hx with rfl | hx
  · omega
  · have : x = 0 := List.eq_of_mem_replicate hx; omega⟩, bX_may⟩
theorem oX2_may : oX2.may := mX2_may
theorem oX2_right : oX2.right := ⟨oX2_may, rfl⟩
theorem tag_x2 : tagM mX2 = oX2 := if_pos mX2_may
theorem chk_x2 (a : Option Addr) (c : Nat) : chk 3 [] (oX2.at a c) = 12 := chk_far (m := oX2.at a c) oX2_may (by rfl) oX2_right (show 0 + 1 < 2 by decide)
theorem chk_x1 (a : Option Addr) (c : Nat) : chk 3 [] (oW1.at a c) = 0 := by
  rw [chk_next (m := oW1.at a c) oW1_may (by rfl) oW1_right (by rfl) (by rfl) false (by rfl)]
  rfl
theorem chk_x2b (a a2 : Option Addr) (c c2 : Nat) : chk 3 ([] ++ [(oW1.at a c)]) (oX2.at a2 c2) = 0 := by
  rw [chk_next (m := oX2.at a2 c2) oX2_may (by rfl) oX2_right (by rfl) (by rfl) false (by rfl)]
  rfl
theorem mb_some {W : World} {b : Nat} {mb : Option Nat} {ws : List MMsg} (h : WaitAt W b mb ws) (hn : ws ≠ []) : ∃ k, mb = some k := by
  cases mb with
  | none => exact absurd (WaitAt.nil h) hn
  | some k => exact ⟨k, rfl⟩
theorem put_first {v W : World} {os : List Thing} {b bl n : Nat} {A : Nat → Option Addr} {C : Nat → Nat} {L : List MMsg} (H : Fr v W (waT b none [] :: loT bl n A C L :: os)) (m : MMsg) (hm : m.Wf) (hq : m.body.qs = []) (hp : PkOk m.pk) (hc : chk n L m = 12) :
    Calls Tryz.prog 35 #[.pointer (some ⟨b, 0, none⟩), .pointer (some ⟨bl, 0, none⟩), .agg (msgC m).toArray] W fun E W' => E = .returned (.int .i64 0) ∧ ∃ k A' c', Fr v W' (waT b (some k) [m.at A' c'] :: loT bl n A C L :: os) := by
  refine (put_may H m hm (fun W' _ => prs_w m hq W') (by rw [hq]; decide) hp (by decide) (by rw [hc]; rfl)).mono fun E W' ⟨mb', A', c', e, hf⟩ => ?_
  have e1 : ∀ A c, putW (chk n L m) [] (m.at A c) = (0, [m.at A c]) := fun A c => by rw [hc]; rfl
  rw [← putW_at _ _ m none 0, e1] at e
  rw [e1] at hf
  obtain ⟨k, rfl⟩ := mb_some hf.hd (by simp)
  exact ⟨e, k, A', c', hf⟩
theorem put_second {v W : World} {os : List Thing} {b k bl n : Nat} {A : Nat → Option Addr} {C : Nat → Nat} {L : List MMsg} {t : MMsg} (H : Fr v W (waT b (some k) [t] :: loT bl n A C L :: os)) (m : MMsg) (hm : m.Wf) (hq : m.body.qs = []) (hp : PkOk m.pk) (hc : chk n L m = 0) (ht : t.pk ≠ m.pk) :
    Calls Tryz.prog 35 #[.pointer (some ⟨b, 0, none⟩), .pointer (some ⟨bl, 0, none⟩), .agg (msgC m).toArray] W fun E W' => E = .returned (.int .i64 0) ∧ ∃ k A' c', Fr v W' (waT b (some k) [t, m.at A' c'] :: loT bl n A C L :: os) := by
  refine (put_may H m hm (fun W' _ => prs_w m hq W') (by rw [hq]; decide) hp (show 1 ≤ 1000000 by decide) (by rw [hc]; rfl)).mono fun E W' ⟨mb', A', c', e, hf⟩ => ?_
  have hn : ∀ A c, fW [t] (m.at A c).pk = none := fun A c => fW_none.2 fun x hx => by rw [List.mem_singleton.1 hx]; exact ht
  have hcn : ∀ r, cnN r [t] < 11 := fun r => Nat.lt_of_le_of_lt (cnN_le r [t]) (show 1 < 11 by decide)
  have e1 : ∀ A c, putW (chk n L m) [t] (m.at A c) = (0, [t, m.at A c]) := fun A c => by
    unfold putW
    rw [hc, hn, if_neg (by decide), if_neg (by decide), if_pos (hcn _)]
    rfl
  rw [← putW_at _ _ m none 0, e1] at e
  rw [e1] at hf
  obtain ⟨k, rfl⟩ := mb_some hf.hd (by simp)
  exact ⟨e, k, A', c', hf⟩
theorem mw12 {n : Nat} {L : List MMsg} {m : MMsg} (h : chk n L m = 12) : mwB n L m = true := by rw [mwB, h]; rfl
theorem mw0 {n : Nat} {L : List MMsg} {m : MMsg} (h : chk n L m = 0) : mwB n L m = true := by rw [mwB, h]; rfl
theorem next_no {v W : World} {os : List Thing} {b k bl n : Nat} {A : Nat → Option Addr} {C : Nat → Nat} {L : List MMsg} {t : MMsg} (H : Fr v W (waT b (some k) [t] :: loT bl n A C L :: os)) (hc : chk n L t = 12) :
    Calls Tryz.prog 33 #[.pointer (some ⟨b, 0, none⟩), .pointer (some ⟨bl, 0, none⟩)] W fun E W' => E = .returned (.tuple #[.agg (msgC zeroMsg).toArray, .bool false]) ∧ Fr v W' (waT b (some k) [t] :: loT bl n A C L :: os) := by
  refine (next_some H).mono fun E W' ⟨o, ws', e, hx, hf, _⟩ => ?_
  have ho : o = none := by
    cases o with
    | none => rfl
    | some a =>
      obtain ⟨h1, h2, _⟩ := hx.sel.is a rfl
      rw [List.mem_singleton.1 h1, hc] at h2
      cases h2
  subst ho
  have hp := hx.perm
  rw [List.filter_cons_of_pos (mw12 hc), List.filter_nil] at hp
  have hw := List.perm_singleton.1 hp
  have hz := wdel_none hx.zero
  rw [show fstP none = (0, 0) from rfl, hz, hw] at hf
  exact ⟨e, hf⟩
theorem next_two {v W : World} {os : List Thing} {b k bl n : Nat} {A : Nat → Option Addr} {C : Nat → Nat} {L : List MMsg} {t s : MMsg} (H : Fr v W (waT b (some k) [t, s] :: loT bl n A C L :: os)) (hc : chk n L t = 12) (hs : chk n L s = 0) :
    Calls Tryz.prog 33 #[.pointer (some ⟨b, 0, none⟩), .pointer (some ⟨bl, 0, none⟩)] W fun E W' => E = .returned (.tuple #[.agg (msgC s).toArray, .bool true]) ∧ Fr v W' (waT b (some k) [t] :: loT bl n A C L :: os) := by
  have hdk := WaitAt.dk H.hd
  refine (next_some H).mono fun E W' ⟨o, ws', e, hx, hf, _⟩ => ?_
  have ho : o = some s := by
    cases o with
    | none => exact absurd hs (hx.sel.no rfl s (by simp))
    | some a =>
      obtain ⟨h1, h2, _⟩ := hx.sel.is a rfl
      rcases List.mem_cons.1 h1 with rfl | h1
      · rw [hc] at h2; cases h2
      · rw [List.mem_singleton.1 h1]
  subst ho
  have hp := hx.perm
  rw [List.filter_cons_of_pos (mw12 hc), List.filter_cons_of_pos (mw0 hs), List.filter_nil] at hp
  have hd' : Dk ws' := (hp.pairwise_iff (@fun _ _ h => Ne.symm h)).2 hdk
  have hm : s ∈ ws' := (hx.is hd').1
  have h5 : (wdel ws' s.pk).Perm [t] := (List.perm_cons s).1 ((wdel_perm hd' hm).trans (hp.trans (List.Perm.swap s t [])))
  have hw := List.perm_singleton.1 h5
  rw [show fstP (some s) = s.pk from rfl, hw] at hf
  exact ⟨e, hf⟩
theorem next_last {v W : World} {os : List Thing} {b k bl n : Nat} {A : Nat → Option Addr} {C : Nat → Nat} {L : List MMsg} {t : MMsg} (H : Fr v W (waT b (some k) [t] :: loT bl n A C L :: os)) (hc : chk n L t = 0) :
    Calls Tryz.prog 33 #[.pointer (some ⟨b, 0, none⟩), .pointer (some ⟨bl, 0, none⟩)] W fun E W' => E = .returned (.tuple #[.agg (msgC t).toArray, .bool true]) ∧ Fr v W' (waT b (some k) [] :: loT bl n A C L :: os) := by
  have hdk := WaitAt.dk H.hd
  refine (next_some H).mono fun E W' ⟨o, ws', e, hx, hf, _⟩ => ?_
  have ho : o = some t := by
    cases o with
    | none => exact absurd hc (hx.sel.no rfl t (by simp))
    | some a => rw [List.mem_singleton.1 (hx.sel.is a rfl).1]
  subst ho
  have hp := hx.perm
  rw [List.filter_cons_of_pos (mw0 hc), List.filter_nil] at hp
  have hw := List.perm_singleton.1 hp
  subst hw
  have h6 : wdel [t] t.pk = [] := by rw [wdel, List.filter_cons_of_neg (by simp), List.filter_nil]
  rw [show fstP (some t) = t.pk from rfl, h6] at hf
  exact ⟨e, hf⟩
theorem pk_x1 : PkOk oW1.pk := ⟨rfl, rfl⟩
theorem pk_x2 : PkOk oX2.pk := ⟨rfl, rfl⟩
open Go.RowKit

theorem num_cell {W : World} {x k : Nat} {m : MMsg} {t : TypeId} (h : W.heap[x]? = some (.cells (msgC m).toArray t (0, 0))) (hk : m.number = k) : W.cell? ⟨x, 1, none⟩ = some (.int .u64 (k : Int)) := by
  subst hk
  exact block_cell (C := msgC m) h 1 _ (msgC_01 m).2
theorem wworks_any (w : World) (hk : KIs w) (h0 : 0 < w.heap.size) : Calls Tryz.prog 31 #[] w fun E w' => E = .returned (.bool true) ∧ Below w.heap.size w w' := by
  have hz := zero_msg
  have hzl := msgC_length zeroMsg_wf
  have hzn : ¬ (msgC zeroMsg = []) := fun e => by rw [e] at hzl; cases hzl
  have HT1 : Hid (∀ X W, X = (msgC mW1).toArray → KIs W → 0 < W.heap.size → Calls Tryz.prog 28 #[.agg X] W fun E w' => E = .returned (.agg (msgC oW1).toArray) ∧ Hid (Below W.heap.size W w')) := Lib.hid fun X W hX h1 h2 => by subst hX; have := tagged_any mW1 W mW1_wf (prs_w _ rfl W) (by decide) h1 h2; rw [tag_w1] at this; exact this
  have HT2 : Hid (∀ X W, X = (msgC mX2).toArray → KIs W → 0 < W.heap.size → Calls Tryz.prog 28 #[.agg X] W fun E w' => E = .returned (.agg (msgC oX2).toArray) ∧ Hid (Below W.heap.size W w')) := Lib.hid fun X W hX h1 h2 => by subst hX; have := tagged_any mX2 W mX2_wf (prs_w _ rfl W) (by decide) h1 h2; rw [tag_x2] at this; exact this
  have HW1 := Lib.hid oW1_wf
  have HW2 := Lib.hid oX2_wf
  have HQ1 : Hid (oW1.body.qs = []) := Lib.hid rfl
  have HQ2 : Hid (oX2.body.qs = []) := Lib.hid rfl
  have HP1 := Lib.hid pk_x1
  have HP2 := Lib.hid pk_x2
  have HNe : Hid (∀ A c, (oX2.at A c).pk ≠ oW1.pk) := Lib.hid fun A c e => by have := congrArg Prod.snd e; cases this
  have HK1 := Lib.hid chk_x1
  have HK2 := Lib.hid chk_x2
  have HK3 := Lib.hid chk_x2b
  have HN1 : Hid (oW1.number = 1) := Lib.hid rfl
  have HN2 : Hid (oX2.number = 2) := Lib.hid rfl
  have HK10 : Hid (chk 3 [] oW1 = 0) := Lib.hid chk_w1
  have HK20 : Hid (chk 3 [] oX2 = 12) := Lib.hid (chk_x2 none 0)
  generalize oW1 = o1 at *
  generalize oX2 = o2 at *
  obtain ⟨Z, hZ⟩ : ∃ m, m = msgC zeroMsg := ⟨_, rfl⟩
  rw [← hZ] at hz hzl hzn
  have HZl := Lib.hid hzl
  have HZe := Lib.hid hZ
  clear hZ
  have HLE : Hid (∀ m : MMsg, m.Wf → 0 + (msgC m).length ≤ Z.length ∧ setAll Z 0 (msgC m) = msgC m) := Lib.hid fun m hm => ⟨by rw [msgC_length hm, HZl.out]; omega, setAll_all (by rw [msgC_length hm, HZl.out])⟩
  have HIm := Lib.hid (fun (m : MMsg) (hm : m.Wf) => info_msg hm)
  have H0 := Lib.hid (Fr.start hk h0)
  clear hk h0
  go_enter Tryz.func31, Tryz.ntmps31
  go_wp2_with (go_at_call 15; refine (lnew_any 3 rfl _).mono ?_)
  rintro E w1 ⟨b, rfl, hl, hb, b1⟩
  have H1 : Hid (Fr w w1 [loT b 3 (fun _ => none) (fun _ => 0) []]) := Lib.hid (H0.out.add b1 hl (loT_ok _ _ _ _ _) fun k hk => by rcases hk with rfl | ⟨_, _, e⟩ | ⟨_, e, _⟩ <;> first | exact hb | cases e)
  clear hl hb b1 H0
  obtain ⟨A0, hA0⟩ : ∃ A : Nat → Option Addr, A = fun _ => none := ⟨_, rfl⟩
  obtain ⟨C0, hC0⟩ : ∃ C : Nat → Nat, C = fun _ => 0 := ⟨_, rfl⟩
  rw [← hA0, ← hC0] at H1
  clear hA0 hC0
  go_wp2_with (first | (go_at_call 28; refine (HT1.out _ _ (by rw [HZe.out]; kernel_rfl) H1.out.ksW H1.out.posW).mono ?_; rintro E w3 ⟨rfl, b3⟩; have H3 := Lib.hid ((H1.out.below b3.out).box Z.toArray 52); clear b3 H1) | (refine wpList_store_part rfl 52 (.tmp 3) (.tmp 26) rfl w3.heap.size 0 Z (msgC o1) (msgC o1) 52 H3.out.hd (HLE.out _ HW1.out).1 (HLE.out _ HW1.out).2 rfl rfl (HIm.out _ HW1.out) (one_msgC _) ?_; intro w4 G; have H4 : Hid (Fr w w4 (blkT w3.heap.size (msgC o1).toArray 52 :: [loT b 3 A0 C0 []])) := Lib.hid (H3.out.turn (own_grown G.out.2 rfl) G.out.1 (blkT_ok _ _ _)); clear G H3) | (go_at_call 28; refine (HT2.out _ _ (by rw [HZe.out]; kernel_rfl) H4.out.ksW H4.out.posW).mono ?_; rintro E w5 ⟨rfl, b5⟩; have H5 := Lib.hid ((H4.out.below b5.out).box Z.toArray 52); clear b5 H4) | (refine wpList_store_part rfl 52 (.tmp 4) (.tmp 30) rfl w5.heap.size 0 Z (msgC o2) (msgC o2) 52 H5.out.hd (HLE.out _ HW2.out).1 (HLE.out _ HW2.out).2 rfl rfl (HIm.out _ HW2.out) (one_msgC _) ?_; intro w6 G; have H6 : Hid (Fr w w6 (blkT w5.heap.size (msgC o2).toArray 52 :: [blkT w3.heap.size (msgC o1).toArray 52, loT b 3 A0 C0 []])) := Lib.hid (H5.out.turn (own_grown G.out.2 rfl) G.out.1 (blkT_ok _ _ _)); clear G H5) | (go_at_call 32; refine (wnew_any _).mono ?_; rintro E w7 ⟨rfl, hw7⟩; have H7 := Lib.hid (wait_new H6.out); rw [← hw7] at H7; clear hw7 H6) | (((with_reducible refine wpList_load_midG ?_ 52 (.tmp 4) ?_ w5.heap.size 0 ?_ (msgC o2) _ ?_ Tryz.underlying52 ?_ ?_ ?_); rotate_left; (· rfl); (· rfl); (· exact (range_of H7.out.hd2)); (· rfl); (· exact (HIm.out _ HW2.out)); rotate_left; (· rfl))))
  have H8 : Hid (Fr w w7 (waT w6.heap.size none [] :: loT b 3 A0 C0 [] :: [blkT w5.heap.size (msgC o2).toArray 52, blkT w3.heap.size (msgC o1).toArray 52])) := Lib.hid (H7.out.perm (List.Perm.cons _ (List.perm_middle (a := loT b 3 A0 C0 []) (l₁ := [blkT w5.heap.size (msgC o2).toArray 52, blkT w3.heap.size (msgC o1).toArray 52]) (l₂ := []))))
  clear H7
  refine (put_first H8.out o2 HW2.out HQ2.out HP2.out HK20.out).mono ?_
  rintro E w8 ⟨rfl, k1, A1, c1, h⟩
  have H9 := Lib.hid h
  clear h H8
  have HT := Lib.hid (HK2.out A1 c1)
  have HTw := Lib.hid (MMsg.at_wf HW2.out A1 c1)
  have HTn : Hid ((o2.at A1 c1).number = 2) := Lib.hid HN2.out
  have HTp := Lib.hid (HNe.out A1 c1)
  have HT3 := Lib.hid (fun a c => HK3.out a A1 c c1)
  generalize o2.at A1 c1 = t at *
  go_wp2_with fail
  refine (next_no H9.out HT.out).mono ?_
  rintro E w9 ⟨rfl, h⟩
  have H10 := Lib.hid (h.box Z.toArray 52)
  clear h H9
  rw [← HZe.out]
  go_wp2_with (first | (refine wpList_store_part rfl 52 (.tmp 7) (.tmp 40) rfl w9.heap.size 0 Z Z Z 52 H10.out.hd (by omega) (setAll_all rfl) rfl rfl (by rw [HZl.out]; exact Tryz.is52) (by rw [HZe.out]; exact one_msgC _) ?_; intro w10 G; have H11 : Hid (Fr w w10 (waT w6.heap.size (some k1) [t] :: loT b 3 A0 C0 [] :: [blkT w5.heap.size (msgC o2).toArray 52, blkT w3.heap.size (msgC o1).toArray 52])) := Lib.hid (Fr.pop (o := blkT w9.heap.size Z.toArray 52) (H10.out.turn (own_grown G.out.2 rfl) G.out.1 (blkT_ok _ _ _))); clear G H10) | (((with_reducible refine wpList_load_midG ?_ 52 (.tmp 3) ?_ w3.heap.size 0 ?_ (msgC o1) _ ?_ Tryz.underlying52 ?_ ?_ ?_); rotate_left; (· rfl); (· rfl); (· exact (range_of H11.out.pop.pop.pop.hd)); (· rfl); (· exact (HIm.out _ HW1.out)); rotate_left; (· rfl))))
  refine (put_second H11.out o1 HW1.out HQ1.out HP1.out HK10.out HTp.out).mono ?_
  rintro E w11 ⟨rfl, k2, A2, c2, h⟩
  have H12 := Lib.hid h
  clear h H11
  have HS := Lib.hid (HK1.out A2 c2)
  have HSw := Lib.hid (MMsg.at_wf HW1.out A2 c2)
  have HSn : Hid ((o1.at A2 c2).number = 1) := Lib.hid HN1.out
  have HSq : Hid ((o1.at A2 c2).body.qs = []) := Lib.hid HQ1.out
  have HT4 : Hid (∀ a c, chk 3 [(o1.at A2 c2).at a c] t = 0) := Lib.hid fun a c => HT3.out a c
  generalize o1.at A2 c2 = s at *
  go_wp2_with fail
  refine (next_two H12.out HT.out HS.out).mono ?_
  rintro E w12 ⟨rfl, h⟩
  have H13 := Lib.hid (h.box Z.toArray 52)
  clear h H12
  go_wp2_with (first | (refine wpList_store_part rfl 52 (.tmp 10) (.tmp 50) rfl w12.heap.size 0 Z (msgC s) (msgC s) 52 H13.out.hd (HLE.out _ HSw.out).1 (HLE.out _ HSw.out).2 rfl rfl (HIm.out _ HSw.out) (one_msgC _) ?_; intro w13 G; have H14 : Hid (Fr w w13 (blkT w12.heap.size (msgC s).toArray 52 :: waT w6.heap.size (some k2) [t] :: loT b 3 A0 C0 [] :: [blkT w5.heap.size (msgC o2).toArray 52, blkT w3.heap.size (msgC o1).toArray 52])) := Lib.hid (H13.out.turn (own_grown G.out.2 rfl) G.out.1 (blkT_ok _ _ _)); clear G H13) | (((with_reducible refine wpList_load_midG ?_ 52 (.tmp 10) ?_ w12.heap.size 0 ?_ (msgC s) _ ?_ Tryz.underlying52 ?_ ?_ ?_); rotate_left; (· rfl); (· rfl); (· exact (range_of H14.out.hd)); (· rfl); (· exact (HIm.out _ HSw.out)); rotate_left; (· rfl))))
  have H15 : Hid (Fr w w13 (loT b 3 A0 C0 [] :: blkT w12.heap.size (msgC s).toArray 52 :: waT w6.heap.size (some k2) [t] :: [blkT w5.heap.size (msgC o2).toArray 52, blkT w3.heap.size (msgC o1).toArray 52])) := Lib.hid H14.out.third
  clear H14
  refine (add_fr H15.out s HSw.out (prs_w s HSq.out _) (by rw [HSq.out]; decide) (by decide)).mono ?_
  rintro E w14 ⟨he, _, hz14⟩
  rw [HS.out] at he
  subst he
  obtain ⟨A3, C3, a3, c3, h⟩ := hz14 HS.out
  have H16 := Lib.hid h
  clear h hz14 H15
  have HT5 := Lib.hid (HT4.out a3 c3)
  rw [List.nil_append] at H16
  generalize s.at a3 c3 = s3 at *
  have H17 : Hid (Fr w w14 (waT w6.heap.size (some k2) [t] :: loT b 3 A3 C3 [s3] :: blkT w12.heap.size (msgC s).toArray 52 :: [blkT w5.heap.size (msgC o2).toArray 52, blkT w3.heap.size (msgC o1).toArray 52])) := Lib.hid H16.out.third
  clear H16
  go_wp2_with fail
  refine (next_last H17.out HT5.out).mono ?_
  rintro E w15 ⟨rfl, h⟩
  have H18 := Lib.hid (h.box Z.toArray 52)
  clear h H17
  go_wp2_with (first | (refine wpList_store_part rfl 52 (.tmp 12) (.tmp 59) rfl w15.heap.size 0 Z (msgC t) (msgC t) 52 H18.out.hd (HLE.out _ HTw.out).1 (HLE.out _ HTw.out).2 rfl rfl (HIm.out _ HTw.out) (one_msgC _) ?_; intro w16 G; have H19 : Hid (Fr w w16 (blkT w15.heap.size (msgC t).toArray 52 :: waT w6.heap.size (some k2) [] :: loT b 3 A3 C3 [s3] :: blkT w12.heap.size (msgC s).toArray 52 :: [blkT w5.heap.size (msgC o2).toArray 52, blkT w3.heap.size (msgC o1).toArray 52])) := Lib.hid (H18.out.turn (own_grown G.out.2 rfl) G.out.1 (blkT_ok _ _ _)); have y0 : w16.cell? ⟨w12.heap.size, 1, none⟩ = some (.int .u64 1) := num_cell H19.out.pop.pop.pop.hd HSn.out; have y1 : w16.cell? ⟨w15.heap.size, 1, none⟩ = some (.int .u64 2) := num_cell H19.out.hd HTn.out; clear G H18) | (go_at_call 37; refine (wlen_any H19.out.pop.hd).mono ?_; rintro E w17 ⟨rfl, rfl⟩))
  go_ret
  exact ⟨rfl, H19.out.bel⟩
open Go.RowKit

theorem wnil_walk {w : World} (hk : KIs w) (h0 : 0 < w.heap.size) (m : MMsg) (hm : m.Wf) :
    Calls Tryz.prog 9 #[.agg (msgC m).toArray] w fun E w' => E = .returned (.bool true) ∧ Below w.heap.size w w' := by
  have HW : Hid (∀ W os, Fr w W os → Calls Tryz.prog 31 #[] W fun E w' => E = .returned (.bool true) ∧ Below w.heap.size w w') := Lib.hid fun W os H => (wworks_any W H.ksW H.posW).mono fun E w' h => ⟨h.1, H.bel.trans (h.2.mono H.size)⟩
  have HI := Lib.hid (info_msg hm)
  have H1 := Lib.hid ((Fr.start hk h0).box (msgC m).toArray 52)
  have x56 : (w.alloc (.cells (msgC m).toArray 52)).cell? ⟨w.heap.size, 56, none⟩ = some m.body.qv := block_cell (C := msgC m) H1.out.hd 56 _ (msgC_q m hm)
  rw [MBody.qv] at x56
  obtain ⟨lq, hlq⟩ : ∃ lq, lq = m.body.qs.length := ⟨_, rfl⟩
  rw [← hlq] at x56
  have hz := zero_msg
  have hzl := msgC_length zeroMsg_wf
  have hzn : ¬ (msgC zeroMsg = []) := fun e => by rw [e] at hzl; cases hzl
  have HIz := Lib.hid (info_msg zeroMsg_wf)
  have HOz := Lib.hid (one_msgC zeroMsg)
  have HN1 : Hid (∀ (W : World) v os, Fr w W os → Calls Tryz.prog 33 #[.pointer none, v] W fun E w' => E = .returned (.tuple #[.agg (msgC zeroMsg).toArray, .bool false]) ∧ Below W.heap.size W w') := Lib.hid fun W v os H => wnext_none W H.ksW H.posW v
  have HN2 : Hid (∀ (W : World) b os, Fr w W os → Calls Tryz.prog 33 #[.pointer (some ⟨b, 0, none⟩), .pointer none] W fun E w' => E = .returned (.tuple #[.agg (msgC zeroMsg).toArray, .bool false]) ∧ Below W.heap.size W w') := Lib.hid fun W b os H => wnext_nolore W H.ksW H.posW b
  obtain ⟨Z, hZ⟩ : ∃ Z, Z = msgC zeroMsg := ⟨_, rfl⟩
  rw [← hZ] at hz hzl hzn HN1 HN2 HIz HOz
  have HLE : Hid (0 + Z.length ≤ Z.length ∧ setAll Z 0 Z = Z) := Lib.hid ⟨by omega, setAll_all rfl⟩
  clear hZ hk h0 hm hlq
  by_cases hq : lq > 20
  · have hq' : (lq : Int) > 20 := by omega
    clear hq
    go_enter Tryz.func9, Tryz.ntmps9
    go_wp2_with (go_at_call 31; refine (HW.out _ _ H1.out).mono ?_; rintro E w2 ⟨rfl, h⟩; have h2 := Lib.hid h; clear h)
    go_ret
    exact ⟨rfl, h2.out⟩
  have hq' : ¬ (lq : Int) > 20 := by omega
  clear hq
  go_enter Tryz.func9, Tryz.ntmps9
  go_wp2_with (first | (go_at_call 15; refine (lnew_any 3 rfl _).mono ?_; rintro E w2 ⟨bl, rfl, _, _, b2⟩; have H2 := Lib.hid (H1.out.below b2); clear b2 H1) | (go_at_call 33; refine (HN1.out _ _ _ H2.out).mono ?_; rintro E w3 ⟨rfl, b3⟩; have H3 := Lib.hid ((H2.out.below b3).box Z.toArray 52); clear b3 H2) | (refine wpList_store_part rfl 52 (.tmp 6) (.tmp 24) rfl w3.heap.size 0 Z Z Z 52 H3.out.hd HLE.out.1 HLE.out.2 rfl rfl HIz.out HOz.out ?_; intro w4 G; have H4 : Hid (Fr w w4 [blkT w.heap.size (msgC m).toArray 52]) := Lib.hid (Fr.pop (o := blkT w3.heap.size Z.toArray 52) (H3.out.turn (own_grown G.out.2 rfl) G.out.1 (blkT_ok _ _ _))); clear G H3) | (go_at_call 32; refine (wnew_any _).mono ?_; rintro E w5 ⟨rfl, hw5⟩; have H5 : Hid (Fr w w5 [blkT w.heap.size (msgC m).toArray 52]) := Lib.hid (by rw [hw5]; exact (H4.out.below ((Below.refl _ _).alloc (Nat.le_refl _) _))); clear hw5 H4) | (go_at_call 33; refine (HN2.out _ _ _ H5.out).mono ?_; rintro E w6 ⟨rfl, b6⟩; have H6 := Lib.hid ((H5.out.below b6).box Z.toArray 52); clear b6 H5) | (refine wpList_store_part rfl 52 (.tmp 8) (.tmp 29) rfl w6.heap.size 0 Z Z Z 52 H6.out.hd HLE.out.1 HLE.out.2 rfl rfl HIz.out HOz.out ?_; intro w7 G; have H7 : Hid (Fr w w7 [blkT w.heap.size (msgC m).toArray 52]) := Lib.hid (Fr.pop (o := blkT w6.heap.size Z.toArray 52) (H6.out.turn (own_grown G.out.2 rfl) G.out.1 (blkT_ok _ _ _))); clear G H6))
  obtain ⟨x, hx⟩ : ∃ x, x = w.heap.size := ⟨_, rfl⟩
  rw [← hx] at H7 x56
  rw [← hx]
  clear hx
  refine wp_region_any (by kernel_rfl) ?_
  change wpAny _ _ _ _ _ _ _ (World.drewN _ 1)
  refine held_gen (G := fun W' => wpAny _ _ _ _ _ _ _ W') (fun W' => Fr w W' [blkT x (msgC m).toArray 52]) (H7.out.drewN 1) (fun w8 hw8 => ?_)
  have H8 := Lib.hid hw8
  clear hw8 H7 x56 HW
  refine wpAny_of_held (S := fun W' => W'.rangeAt x 0 (msgC m)) _ _ _ _ ?_
  refine wpAnyH_take (i := 0) (oi := { dst := some 31, op := Op.move (Operand.tmp 5), type := _, pos := _, after := _, guard := none }) (v := .pointer none) rfl (by kernel_rfl) (by kernel_rfl) (by kernel_rfl) (fun _ _ _ h => h) (Or.inl ⟨by kernel_rfl, fun W hSW => by go_simp⟩) ((range_of H8.out.hd)) ?_
  try simp only [Act.put, List.setIfInBounds_toArray, List.set_cons_zero, List.set_cons_succ]
  refine wpAnyH_take (i := 1) (oi := { dst := some 32, op := Op.move (Operand.tmp 3), type := _, pos := _, after := _, guard := none }) (v := .pointer (some ⟨bl, 0, none⟩)) rfl (by kernel_rfl) (by kernel_rfl) (by kernel_rfl) (fun _ _ _ h => h) (Or.inl ⟨by kernel_rfl, fun W hSW => by go_simp⟩) ((range_of H8.out.hd)) ?_
  try simp only [Act.put, List.setIfInBounds_toArray, List.set_cons_zero, List.set_cons_succ]
  refine wpAnyH_take (i := 2) (oi := { dst := some 33, op := Op.load 52 (Operand.tmp 1), type := _, pos := _, after := _, guard := none }) (v := .agg (msgC m).toArray) rfl (by kernel_rfl) (by kernel_rfl) (by kernel_rfl) (fun _ _ _ h => h) (Or.inl ⟨by kernel_rfl, fun W hSW => exec_load_mid 52 (.tmp 1) rfl x 0 rfl (msgC m) _ hSW Tryz.underlying52 rfl HI.out⟩) ((range_of H8.out.hd)) ?_
  try simp only [Act.put, List.setIfInBounds_toArray, List.set_cons_zero, List.set_cons_succ]
  refine wpAnyH_ready (rs := [3]) (by kernel_rfl) (by simp) ?_
  refine AllReadyH.cons (o := { dst := some 34, op := Op.call { callee := Callee.value (Operand.func 35), args := #[Operand.tmp 31, Operand.tmp 32, Operand.tmp 33], argTypes := #[72, 36, 52] }, type := _, pos := _, after := _, guard := none }) rfl (fun K' hK' => ?_) AllReadyH.nil
  go_simp
  go_at_call 35
  refine (wput_none m _ _).mono ?_
  rintro E w9 ⟨rfl, b9⟩
  have H9 := Lib.hid (H8.out.below b9)
  clear b9
  refine hK'.out _ _ (range_of H9.out.hd) (fun _ => ?_)
  clear hK' K' H8
  try simp only [Act.put, List.setIfInBounds_toArray, List.set_cons_zero, List.set_cons_succ]
  refine wpAnyH_take (i := 4) (oi := { dst := some 35, op := Op.binOp BinOp.eql 37 (Operand.tmp 34) (Operand.const (Value.int IntKind.i64 2)) 37, type := _, pos := _, after := _, guard := none }) (v := .bool true) rfl (by kernel_rfl) (by kernel_rfl) (by kernel_rfl) (fun _ _ _ h => h) (Or.inl ⟨by kernel_rfl, fun W hSW => by go_simp⟩) ((range_of H9.out.hd)) ?_
  try simp only [Act.put, List.setIfInBounds_toArray, List.set_cons_zero, List.set_cons_succ]
  refine wpAnyH_take (i := 5) (oi := { dst := some 36, op := Op.move (Operand.tmp 35), type := _, pos := _, after := _, guard := none }) (v := .bool true) rfl (by kernel_rfl) (by kernel_rfl) (by kernel_rfl) (fun _ _ _ h => h) (Or.inl ⟨by kernel_rfl, fun W hSW => by go_simp⟩) ((range_of H9.out.hd)) ?_
  try simp only [Act.put, List.setIfInBounds_toArray, List.set_cons_zero, List.set_cons_succ]
  refine wpAnyH_take (i := 7) (oi := { dst := some 38, op := Op.load 52 (Operand.tmp 1), type := _, pos := _, after := _, guard := some (5, true) }) (v := .agg (msgC m).toArray) rfl (by kernel_rfl) (by kernel_rfl) (by kernel_rfl) (fun _ _ _ h => h) (Or.inl ⟨by kernel_rfl, fun W hSW => exec_load_mid 52 (.tmp 1) rfl x 0 rfl (msgC m) _ hSW Tryz.underlying52 rfl HI.out⟩) ((range_of H9.out.hd)) ?_
  try simp only [Act.put, List.setIfInBounds_toArray, List.set_cons_zero, List.set_cons_succ]
  refine wpAnyH_ready (rs := [6]) (by kernel_rfl) (by simp) ?_
  refine AllReadyH.cons (o := { dst := some 37, op := Op.call { callee := Callee.value (Operand.func 32), args := #[], argTypes := #[] }, type := _, pos := _, after := _, guard := some (5, true) }) rfl (fun K' hK' => ?_) AllReadyH.nil
  go_simp
  go_at_call 32
  refine (wnew_any _).mono ?_
  rintro E w10 ⟨rfl, hw10⟩
  have H10 : Hid (Fr w w10 [blkT x (msgC m).toArray 52]) := Lib.hid (by rw [hw10]; exact (H9.out.below ((Below.refl _ _).alloc (Nat.le_refl _) _)))
  clear hw10
  refine hK'.out _ _ (range_of H10.out.hd) (fun _ => ?_)
  clear hK' K'
  try simp only [Act.put, List.setIfInBounds_toArray, List.set_cons_zero, List.set_cons_succ]
  refine wpAnyH_ready (rs := [8]) (by kernel_rfl) (by simp) ?_
  refine AllReadyH.cons (o := { dst := some 39, op := Op.call { callee := Callee.value (Operand.func 35), args := #[Operand.tmp 37, Operand.const (Value.pointer none), Operand.tmp 38], argTypes := #[72, 36, 52] }, type := _, pos := _, after := _, guard := some (5, true) }) rfl (fun K' hK' => ?_) AllReadyH.nil
  go_simp
  go_at_call 35
  refine (wput_nolore m _ _).mono ?_
  rintro E w11 ⟨rfl, b11⟩
  have H11 := Lib.hid (H10.out.below b11)
  clear b11
  refine hK'.out _ _ (range_of H11.out.hd) (fun _ => ?_)
  clear hK' K' H10
  try simp only [Act.put, List.setIfInBounds_toArray, List.set_cons_zero, List.set_cons_succ]
  refine wpAnyH_take (i := 9) (oi := { dst := some 40, op := Op.binOp BinOp.eql 37 (Operand.tmp 39) (Operand.const (Value.int IntKind.i64 2)) 37, type := _, pos := _, after := _, guard := some (5, true) }) (v := .bool true) rfl (by kernel_rfl) (by kernel_rfl) (by kernel_rfl) (fun _ _ _ h => h) (Or.inl ⟨by kernel_rfl, fun W hSW => by go_simp⟩) ((range_of H11.out.hd)) ?_
  try simp only [Act.put, List.setIfInBounds_toArray, List.set_cons_zero, List.set_cons_succ]
  refine wpAnyH_take (i := 10) (oi := { dst := some 41, op := Op.pick (Operand.tmp 36) (Operand.tmp 40) (Operand.const (Value.bool false)), type := _, pos := _, after := _, guard := none }) (v := .bool true) rfl (by kernel_rfl) (by kernel_rfl) (by kernel_rfl) (fun _ _ _ h => h) (Or.inl ⟨by kernel_rfl, fun W hSW => by go_simp⟩) ((range_of H11.out.hd)) ?_
  try simp only [Act.put, List.setIfInBounds_toArray, List.set_cons_zero, List.set_cons_succ]
  refine wpAnyH_take (i := 11) (oi := { dst := some 42, op := Op.move (Operand.tmp 41), type := _, pos := _, after := _, guard := none }) (v := .bool true) rfl (by kernel_rfl) (by kernel_rfl) (by kernel_rfl) (fun _ _ _ h => h) (Or.inl ⟨by kernel_rfl, fun W hSW => by go_simp⟩) ((range_of H11.out.hd)) ?_
  try simp only [Act.put, List.setIfInBounds_toArray, List.set_cons_zero, List.set_cons_succ]
  refine wpAnyH_take (i := 12) (oi := { dst := some 43, op := Op.move (Operand.tmp 7), type := _, pos := _, after := _, guard := some (11, true) }) (v := .bool false) rfl (by kernel_rfl) (by kernel_rfl) (by kernel_rfl) (fun _ _ _ h => h) (Or.inl ⟨by kernel_rfl, fun W hSW => by go_simp⟩) ((range_of H11.out.hd)) ?_
  try simp only [Act.put, List.setIfInBounds_toArray, List.set_cons_zero, List.set_cons_succ]
  refine wpAnyH_take (i := 13) (oi := { dst := some 44, op := Op.unOp UnOp.not 4 (Operand.tmp 43), type := _, pos := _, after := _, guard := some (11, true) }) (v := .bool true) rfl (by kernel_rfl) (by kernel_rfl) (by kernel_rfl) (fun _ _ _ h => h) (Or.inl ⟨by kernel_rfl, fun W hSW => by go_simp⟩) ((range_of H11.out.hd)) ?_
  try simp only [Act.put, List.setIfInBounds_toArray, List.set_cons_zero, List.set_cons_succ]
  refine wpAnyH_take (i := 14) (oi := { dst := some 45, op := Op.pick (Operand.tmp 42) (Operand.tmp 44) (Operand.const (Value.bool false)), type := _, pos := _, after := _, guard := none }) (v := .bool true) rfl (by kernel_rfl) (by kernel_rfl) (by kernel_rfl) (fun _ _ _ h => h) (Or.inl ⟨by kernel_rfl, fun W hSW => by go_simp⟩) ((range_of H11.out.hd)) ?_
  try simp only [Act.put, List.setIfInBounds_toArray, List.set_cons_zero, List.set_cons_succ]
  refine wpAnyH_take (i := 15) (oi := { dst := some 46, op := Op.move (Operand.tmp 45), type := _, pos := _, after := _, guard := none }) (v := .bool true) rfl (by kernel_rfl) (by kernel_rfl) (by kernel_rfl) (fun _ _ _ h => h) (Or.inl ⟨by kernel_rfl, fun W hSW => by go_simp⟩) ((range_of H11.out.hd)) ?_
  try simp only [Act.put, List.setIfInBounds_toArray, List.set_cons_zero, List.set_cons_succ]
  refine wpAnyH_take (i := 16) (oi := { dst := some 47, op := Op.move (Operand.tmp 9), type := _, pos := _, after := _, guard := some (15, true) }) (v := .bool false) rfl (by kernel_rfl) (by kernel_rfl) (by kernel_rfl) (fun _ _ _ h => h) (Or.inl ⟨by kernel_rfl, fun W hSW => by go_simp⟩) ((range_of H11.out.hd)) ?_
  try simp only [Act.put, List.setIfInBounds_toArray, List.set_cons_zero, List.set_cons_succ]
  refine wpAnyH_take (i := 17) (oi := { dst := some 48, op := Op.unOp UnOp.not 4 (Operand.tmp 47), type := _, pos := _, after := _, guard := some (15, true) }) (v := .bool true) rfl (by kernel_rfl) (by kernel_rfl) (by kernel_rfl) (fun _ _ _ h => h) (Or.inl ⟨by kernel_rfl, fun W hSW => by go_simp⟩) ((range_of H11.out.hd)) ?_
  try simp only [Act.put, List.setIfInBounds_toArray, List.set_cons_zero, List.set_cons_succ]
  refine wpAnyH_take (i := 18) (oi := { dst := some 49, op := Op.pick (Operand.tmp 46) (Operand.tmp 48) (Operand.const (Value.bool false)), type := _, pos := _, after := _, guard := none }) (v := .bool true) rfl (by kernel_rfl) (by kernel_rfl) (by kernel_rfl) (fun _ _ _ h => h) (Or.inl ⟨by kernel_rfl, fun W hSW => by go_simp⟩) ((range_of H11.out.hd)) ?_
  try simp only [Act.put, List.setIfInBounds_toArray, List.set_cons_zero, List.set_cons_succ]
  refine wpAnyH_take (i := 19) (oi := { dst := some 50, op := Op.move (Operand.tmp 49), type := _, pos := _, after := _, guard := none }) (v := .bool true) rfl (by kernel_rfl) (by kernel_rfl) (by kernel_rfl) (fun _ _ _ h => h) (Or.inl ⟨by kernel_rfl, fun W hSW => by go_simp⟩) ((range_of H11.out.hd)) ?_
  try simp only [Act.put, List.setIfInBounds_toArray, List.set_cons_zero, List.set_cons_succ]
  refine wpAnyH_take (i := 20) (oi := { dst := some 51, op := Op.move (Operand.tmp 5), type := _, pos := _, after := _, guard := some (19, true) }) (v := .pointer none) rfl (by kernel_rfl) (by kernel_rfl) (by kernel_rfl) (fun _ _ _ h => h) (Or.inl ⟨by kernel_rfl, fun W hSW => by go_simp⟩) ((range_of H11.out.hd)) ?_
  try simp only [Act.put, List.setIfInBounds_toArray, List.set_cons_zero, List.set_cons_succ]
  refine wpAnyH_ready (rs := [21]) (by kernel_rfl) (by simp) ?_
  refine AllReadyH.cons (o := { dst := some 52, op := Op.call { callee := Callee.value (Operand.func 37), args := #[Operand.tmp 51], argTypes := #[72] }, type := _, pos := _, after := _, guard := some (19, true) }) rfl (fun K' hK' => ?_) AllReadyH.nil
  go_simp
  go_at_call 37
  refine (wlen_none _).mono ?_
  rintro E w12 ⟨rfl, rfl⟩
  refine hK'.out _ _ (range_of H11.out.hd) (fun _ => ?_)
  clear hK' K'
  try simp only [Act.put, List.setIfInBounds_toArray, List.set_cons_zero, List.set_cons_succ]
  refine wpAnyH_take (i := 22) (oi := { dst := some 53, op := Op.binOp BinOp.eql 3 (Operand.tmp 52) (Operand.const (Value.int IntKind.i64 0)) 3, type := _, pos := _, after := _, guard := some (19, true) }) (v := .bool true) rfl (by kernel_rfl) (by kernel_rfl) (by kernel_rfl) (fun _ _ _ h => h) (Or.inl ⟨by kernel_rfl, fun W hSW => by go_simp⟩) ((range_of H11.out.hd)) ?_
  try simp only [Act.put, List.setIfInBounds_toArray, List.set_cons_zero, List.set_cons_succ]
  refine wpAnyH_take (i := 23) (oi := { dst := some 54, op := Op.pick (Operand.tmp 50) (Operand.tmp 53) (Operand.const (Value.bool false)), type := _, pos := _, after := _, guard := none }) (v := .bool true) rfl (by kernel_rfl) (by kernel_rfl) (by kernel_rfl) (fun _ _ _ h => h) (Or.inl ⟨by kernel_rfl, fun W hSW => by go_simp⟩) ((range_of H11.out.hd)) ?_
  try simp only [Act.put, List.setIfInBounds_toArray, List.set_cons_zero, List.set_cons_succ]
  refine wpAnyH_take (i := 24) (oi := { dst := some 55, op := Op.move (Operand.tmp 54), type := _, pos := _, after := _, guard := none }) (v := .bool true) rfl (by kernel_rfl) (by kernel_rfl) (by kernel_rfl) (fun _ _ _ h => h) (Or.inl ⟨by kernel_rfl, fun W hSW => by go_simp⟩) ((range_of H11.out.hd)) ?_
  try simp only [Act.put, List.setIfInBounds_toArray, List.set_cons_zero, List.set_cons_succ]
  refine wpAnyH_ready (rs := [25]) (by kernel_rfl) (by simp) ?_
  refine AllReadyH.cons (o := { dst := some 56, op := Op.call { callee := Callee.value (Operand.func 31), args := #[], argTypes := #[] }, type := _, pos := _, after := _, guard := some (24, true) }) rfl (fun K' hK' => ?_) AllReadyH.nil
  go_simp
  go_at_call 31
  refine (wworks_any _ H11.out.ksW H11.out.posW).mono ?_
  rintro E w13 ⟨rfl, b13⟩
  have H13 := Lib.hid (H11.out.below b13)
  clear b13
  refine hK'.out _ _ (range_of H13.out.hd) (fun _ => ?_)
  clear hK' K'
  try simp only [Act.put, List.setIfInBounds_toArray, List.set_cons_zero, List.set_cons_succ]
  refine wpAnyH_take (i := 26) (oi := { dst := some 57, op := Op.pick (Operand.tmp 55) (Operand.tmp 56) (Operand.const (Value.bool false)), type := _, pos := _, after := _, guard := none }) (v := .bool true) rfl (by kernel_rfl) (by kernel_rfl) (by kernel_rfl) (fun _ _ _ h => h) (Or.inl ⟨by kernel_rfl, fun W hSW => by go_simp⟩) ((range_of H13.out.hd)) ?_
  try simp only [Act.put, List.setIfInBounds_toArray, List.set_cons_zero, List.set_cons_succ]
  refine wpAnyH_take (i := 27) (oi := { dst := some 2, op := Op.assign (Operand.tmp 57), type := _, pos := _, after := _, guard := none }) (v := .bool true) rfl (by kernel_rfl) (by kernel_rfl) (by kernel_rfl) (fun _ _ _ h => h) (Or.inl ⟨by kernel_rfl, fun W hSW => by go_simp⟩) ((range_of H13.out.hd)) ?_
  try simp only [Act.put, List.setIfInBounds_toArray, List.set_cons_zero, List.set_cons_succ]
  refine wpAnyH_done (by kernel_rfl) ?_ _
  go_wp2_with fail
  go_ret
  exact ⟨rfl, H13.out.bel⟩
theorem wnil_in (W : World) (hk : KIs W) (h0 : 0 < W.heap.size) (v : Value) (h : ∃ m : MMsg, v = .agg (msgC m).toArray ∧ m.Wf ∧ Prs W m.body.qa m.body.qs ∧ m.body.req.op.amount < 18446744073709551616) :
    Calls Tryz.prog 9 #[v] W fun E w' => E = .returned (.bool true) ∧ Below W.heap.size W w' := by
  obtain ⟨m, rfl, hm, _, _⟩ := h
  exact wnil_walk hk h0 m hm
end Go.Proofs.YtllbbcifcbkgeaaGreatDoor.Sh
