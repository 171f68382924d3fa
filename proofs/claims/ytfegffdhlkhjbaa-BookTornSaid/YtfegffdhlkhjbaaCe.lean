/-
  What is proved: what write does: a slot's sectors, one behind the other, till one has an error. Conditions as stated.
-/
import Derived.Test.YtfegffdhlkhjbaaCd
import Derived.Shelf.Abstract
namespace Go.Proofs.Ytfegffdhlkhjbaa
open Go.RowKit
set_option maxRecDepth 100000
attribute [local go_sem] Oper.semAt_some

/-- Between two rounds: k sectors are written, and no error has come; the result's cell is nought. -/
def WrAt (w : World) (d T : Nat) (s : Dk) (x : Int) (f : Nat → List UInt8) (q : Nat) (k : Nat) (M : List (Nat × Obj)) (W : World) : Prop :=
  (wrs s x f k).2 = 0 ∧ (∀ p ∈ M, p.1 ≠ q) ∧ Dat w d (T + k) (wrs s x f k).1 ((q, .cells #[.int .i64 0] 26 (0, 0)) :: M) W
/-- A write has had an error: it is the result. -/
def WrEnd (w : World) (d T : Nat) (s : Dk) (x : Int) (f : Nat → List UInt8) (q : Nat) (c : Code) (M : List (Nat × Obj)) (W : World) : Prop :=
  c = .ret ∧ (wrs s x f 10).2 ≠ 0 ∧ (∀ p ∈ M, p.1 ≠ q) ∧ Dat w d (T + 10) (wrs s x f 10).1 ((q, .cells #[.int .i64 (wrs s x f 10).2] 26 (0, 0)) :: M) W
theorem keeps_wrAt {w : World} {d T : Nat} {s : Dk} {x : Int} {f : Nat → List UInt8} {q : Nat} (k : Nat) : Keeps (WrAt w d T s x f q k) := keeps_and (keeps_aside keeps_dat q _)
theorem keeps_wrEnd {w : World} {d T : Nat} {s : Dk} {x : Int} {f : Nat → List UInt8} {q : Nat} (c : Code) : Keeps (WrEnd w d T s x f q c) := keeps_and (keeps_and (keeps_aside keeps_dat q _))

theorem run_cell_i64 {tmps : Array Value} {w : World} {g : Nat} {e : Int} (hp : tmps.getD 8 undef = .pointer (some ⟨g, 0, none⟩)) (hc : w.cell? ⟨g, 0, none⟩ = some (.int .i64 e)) :
    (results Try.f42 tmps).run Try.prog w = .ok (.int .i64 e) w := by
  have hp' : tmps[8]?.getD undef = .pointer (some ⟨g, 0, none⟩) := by simpa using hp
  simp [results, hp', asAddr, go_sem, hc]
/-- On the way out: the mark's block is shut, the result is read. -/
theorem write_leaves {w W : World} {d T : Nat} {s : Dk} {L : List (Nat × Obj)} {D q : Nat} {e : Int} {tmps : Array Value} (hp : tmps.getD 8 undef = .pointer (some ⟨q, 0, none⟩))
    (h : Dat w d T s ((q, .cells #[.int .i64 e] 26 (0, 0)) :: (D, .deferred (some [])) :: L) W) (hq : D ≠ q) (hL : ∀ p ∈ L, p.1 ≠ D) :
    LeavesInM Fence.wide 0 Try.prog Try.f42 tmps (fun E w' => E = .returned (.int .i64 e) ∧ Dat w d T s L w') [{ target := .collected D, args := #[] }] .returning W := by
  have hD : W.heap[D]? = some (.deferred (some [])) := h.get (.tail _ (.head _))
  have h1 : Dat w d T s ((D, .deferred none) :: (q, .cells #[.int .i64 e] 26 (0, 0)) :: L) (W.putObj D (.deferred none)) :=
    (keeps_dat.toKeep.sub (L' := (D, .deferred (some [])) :: (q, .cells #[.int .i64 e] 26 (0, 0)) :: L) h fun p hp => by
      simp only [List.mem_cons] at hp ⊢
      rcases hp with rfl | rfl | hp
      · exact .inr (.inl rfl)
      · exact .inl rfl
      · exact .inr (.inr hp)).upd (fun p hp => by
        rcases List.mem_cons.1 hp with rfl | hp
        · exact fun e => hq e.symm
        · exact hL p hp) (World.putObj_heap_same (Array.getElem?_eq_some_iff.1 hD).1) (grownBy_putObj _ _ _)
  refine ⟨by simp, .inl ⟨D, _, rfl, run_takeDeferred hD, ?_⟩⟩
  exact ⟨_, run_cell_i64 hp (block_cell (C := [.int .i64 e]) (h1.get (q := q) (o := .cells #[.int .i64 e] 26 (0, 0)) (.tail _ (.head _))) 0 _ rfl), rfl, h1.drop.drop⟩

theorem leaves_mono {D : Nat} {tmps : Array Value} {R R' : Ending → World → Prop} {W : World} (h : LeavesInM Fence.wide 0 Try.prog Try.f42 tmps R [{ target := .collected D, args := #[] }] .returning W) (hr : ∀ E w', R E w' → R' E w') :
    LeavesInM Fence.wide 0 Try.prog Try.f42 tmps R' [{ target := .collected D, args := #[] }] .returning W := by
  obtain ⟨h1, h2⟩ := h
  refine ⟨h1, ?_⟩
  rcases h2 with ⟨r, w', e, ht, v, hv, hR⟩ | ⟨_, _, _, _, _, e, _⟩
  · exact .inl ⟨r, w', e, ht, v, hv, hr _ _ hR⟩
  · cases e

set_option maxHeartbeats 4000000 in
theorem slot_write {w wr : World} {d T : Nat} {s : Dk} {L : List (Nat × Obj)} (h : Dat w d T s L wr) (hT : T < 100000000) (at' slot : Int) (hat : 0 ≤ at' ∧ at' ≤ 32748) (hsl : 0 ≤ slot ∧ slot ≤ 1) (count : Nat) (A : Option Addr) (n c : Nat) (bs : List UInt8)
    (hb : Src w L A n bs) (hs : Oct.Sl A n c) (hn : n ≤ 1100) :
    Calls Try.prog 42 #[.agg #[.pointer (some ⟨d, 0, none⟩), .int .i64 at'], .int .i64 slot, .int .u64 (count : Int), .slice A n c] wr fun E w' =>
      E = .returned (.int .i64 (wrs s (at' + slot * 10) (sect count bs) 10).2) ∧ Dat w d (T + 10) (wrs s (at' + slot * 10) (sect count bs) 10).1 L w' := by
  have HD := Lib.hid h
  have HS := Lib.hid hs
  have HB := Lib.hid hb
  have hlen : bs.length = n := (hb.rd h (fun _ h => h)).1
  have HG := Lib.hid (fun g1 g2 => sectors_goes A n c bs count g1 g2 hs hn hlen)
  have HLT : Hid (∀ p ∈ L, p.1 < wr.heap.size) := Lib.hid fun p hp => keeps_dat.toKeep.lt h hp
  clear h hs hb hlen
  refine (callsIn_wide (n := 0)).1 (callsIn_of_wp_marks Try.func42 rfl trivial ?_ rfl)
  simp only [Try.ntmps42, List.size_toArray, List.length_cons, List.length_nil, Nat.reduceAdd, Nat.reduceSub, Array.replicate_succ, Array.replicate_zero, List.push_toArray, List.append_toArray, List.nil_append, List.cons_append]
  refine wpIn_wide.2 ?_
  go_wp2_with (first
    | (go_at_call 58; refine (sectors_any _ _ _ _ _).mono ?_; rintro E w1 ⟨rfl, rfl⟩))
  obtain ⟨q, hq⟩ : ∃ q, q = wr.heap.size := ⟨_, rfl⟩
  have D5 : Dat w d T s ((q + 1 + 1 + 1 + 1, .cells #[.slice A n c] 29 (0, 0)) :: (q + 1 + 1 + 1, .cells #[.int .u64 (count : Int)] 61 (0, 0)) :: (q + 1 + 1, .cells #[.int .i64 0] 26 (0, 0)) :: (q + 1, .cells #[.int .i64 slot] 3 (0, 0)) ::
      (q, .cells #[.pointer (some ⟨d, 0, none⟩), .int .i64 at'] 79 (0, 0)) :: L)
      (((((wr.alloc (.cells #[.pointer (some ⟨d, 0, none⟩), .int .i64 at'] 79)).alloc (.cells #[.int .i64 slot] 3)).alloc (.cells #[.int .i64 0] 26)).alloc (.cells #[.int .u64 (count : Int)] 61)).alloc (.cells #[.slice A n c] 29)) := by
    have := ((((HD.out.alloc (.cells #[.pointer (some ⟨d, 0, none⟩), .int .i64 at'] 79)).alloc (.cells #[.int .i64 slot] 3)).alloc (.cells #[.int .i64 0] 26)).alloc (.cells #[.int .u64 (count : Int)] 61)).alloc (.cells #[.slice A n c] 29)
    simp only [World.size_alloc] at this
    rw [hq]
    exact this
  have HLQ : Hid (∀ p ∈ L, p.1 < q) := Lib.hid (by rw [hq]; exact HLT.out)
  rw [← hq]
  clear hq
  generalize ((((wr.alloc (.cells #[.pointer (some ⟨d, 0, none⟩), .int .i64 at'] 79)).alloc (.cells #[.int .i64 slot] 3)).alloc (.cells #[.int .i64 0] 26)).alloc (.cells #[.int .u64 (count : Int)] 61)).alloc (.cells #[.slice A n c] 29) = w5 at D5 ⊢
  obtain ⟨L5, hL5⟩ : ∃ L5 : List (Nat × Obj), L5 = (q + 1 + 1 + 1 + 1, .cells #[.slice A n c] 29 (0, 0)) :: (q + 1 + 1 + 1, .cells #[.int .u64 (count : Int)] 61 (0, 0)) :: (q + 1, .cells #[.int .i64 slot] 3 (0, 0)) ::
      (q, .cells #[.pointer (some ⟨d, 0, none⟩), .int .i64 at'] 79 (0, 0)) :: L := ⟨_, rfl⟩
  have I0 : WrAt w d T s (at' + slot * 10) (sect count bs) (q + 1 + 1) 0 L5 w5 := by
    refine ⟨rfl, fun p hp => ?_, keeps_dat.toKeep.sub D5 fun p hp => ?_⟩
    · rw [hL5] at hp
      simp only [List.mem_cons] at hp
      rcases hp with rfl | rfl | rfl | rfl | hp
      · simp only; omega
      · simp only; omega
      · simp only; omega
      · simp only; omega
      · have := HLQ.out p hp; omega
    · rw [hL5] at hp
      simp only [List.mem_cons] at hp ⊢
      rcases hp with rfl | rfl | rfl | rfl | rfl | hp <;> simp [*]
  have hm1 : ∀ p ∈ ([(q + 1 + 1 + 1 + 1, .cells #[.slice A n c] 29 (0, 0)), (q + 1 + 1 + 1, .cells #[.int .u64 (count : Int)] 61 (0, 0))] : List (Nat × Obj)), p ∈ L5 := by
    rw [hL5]
    intro p hp
    simp only [List.mem_cons, List.not_mem_nil, or_false] at hp ⊢
    rcases hp with rfl | rfl
    · exact .inl rfl
    · exact .inr (.inl rfl)
  have hm2 : (q, .cells #[.pointer (some ⟨d, 0, none⟩), .int .i64 at'] 79 (0, 0)) ∈ L5 := by rw [hL5]; simp
  have hm3 : (q + 1, .cells #[.int .i64 slot] 3 (0, 0)) ∈ L5 := by rw [hL5]; simp
  have hm4 : ∀ p ∈ L, p ∈ L5 := fun p hp => by rw [hL5]; simp [hp]
  rename_i K0 hK0
  have HK0 := Lib.hid hK0
  have H0 := Lib.hid I0
  have HM1 := Lib.hid hm1
  have HM2 := Lib.hid hm2
  have HM3 := Lib.hid hm3
  have HM4 := Lib.hid hm4
  clear hK0 I0 D5 hm1 hm2 hm3 hm4 hL5 HD HLT HLQ HS
  refine (wpIn_wide (n := 0)).1 ?_
  refine wp_rangeKeeps (L := L5) rfl (enters_of Try.func71 (by kernel_rfl) rfl) (HG.out _ _) HM1.out (fun _ => rfl) (WrAt w d T s (at' + slot * 10) (sect count bs) (q + 1 + 1)) (WrEnd w d T s (at' + slot * 10) (sect count bs) (q + 1 + 1)) keeps_wrAt keeps_wrEnd H0.out
    (fun k M W hM hW => HB.out.rd hW.2.2 (fun p hp => .tail _ (hM p (HM4.out p hp)))) ?round ?done ?stop
  case round =>
    intro l k M W hk hM hW
    have HW := Lib.hid hW
    have HM := Lib.hid hM
    obtain ⟨Z, hZ⟩ : ∃ Z, Z = u8s zeros := ⟨_, rfl⟩
    have hz : ∀ w, (zeroValue 43).run Try.prog w = .ok (.agg Z.toArray) w := by rw [hZ]; exact zero33
    have ZL : Hid (Z.length = 128) := Lib.hid (by rw [hZ, u8s_length]; rfl)
    have SL : Hid ((sect count bs k).length = 128) := Lib.hid (sect_length _ _ _)
    have UL : Hid ((u8s (sect count bs k)).length = 128) := Lib.hid (by rw [u8s_length, sect_length])
    have HN : Hid ((wrs s (at' + slot * 10) (sect count bs) k).1.write (at' + slot * 10 + k) (sect count bs k) = wrs s (at' + slot * 10) (sect count bs) (k + 1)) := Lib.hid (wrs_next hW.1).symm
    clear hW hM hZ
    refine wpIn_seq (region_round (fun _ _ h => h) (by simp) ?_)
    go_wp2
    generalize hsx : sect count bs k = sx at SL UL HN ⊢
    clear hsx
    refine region_round (fun _ _ h => h) (by simp) ?_
    go_wp2_with (first
      | (refine wpList_store_all rfl 43 (.tmp 10) (.tmp 16) rfl W.heap.size Z (u8s sx) 43 (row_new W Z 43) (ZL.out.trans UL.out.symm) rfl rfl (by rw [UL.out]; exact Try.size43) (u8s_one _) ?_; intro w2 G2))
    have B2 : Below W.heap.size W w2 := ((Below.refl _ W).alloc (Nat.le_refl _) _).grown G2.out.2 (by simp) (fun k e => by injection e with e; omega)
    refine ⟨[(W.heap.size, .cells (u8s sx).toArray 43 (0, 0))], (keeps_wrAt k).toKeep.fresh HW.out B2 (Nat.le_refl _) G2.out.1, fun p hp => by simp only [List.mem_singleton] at hp; subst hp; exact Nat.le_refl _, ?_⟩
    clear B2 G2 HW HM hz ZL
    intro M' W2 hM' h2
    generalize hq10 : W.heap.size = q10 at h2 ⊢
    clear hq10
    have HM := Lib.hid hM'
    have H2 := Lib.hid h2
    have c0 : W2.cell? ⟨q, 0, none⟩ = some (.pointer (some ⟨d, 0, none⟩)) := block_cell (C := [.pointer (some ⟨d, 0, none⟩), .int .i64 at']) ((keeps_wrAt k).toKeep.get h2 (List.mem_append_right _ (hM' _ HM2.out))) 0 _ rfl
    have c1 : W2.cell? ⟨q, 1, none⟩ = some (.int .i64 at') := block_cell (C := [.pointer (some ⟨d, 0, none⟩), .int .i64 at']) ((keeps_wrAt k).toKeep.get h2 (List.mem_append_right _ (hM' _ HM2.out))) 1 _ rfl
    have c2 : W2.cell? ⟨q + 1, 0, none⟩ = some (.int .i64 slot) := block_cell (C := [.int .i64 slot]) ((keeps_wrAt k).toKeep.get h2 (List.mem_append_right _ (hM' _ HM3.out))) 0 _ rfl
    have R10 : Hid (W2.rangeAt q10 0 (u8s sx)) := Lib.hid (range_block ((keeps_wrAt k).toKeep.get h2 (.head _)) 0 _ (fun j v hv => by rw [Nat.zero_add]; exact hv))
    clear hM' h2
    refine wpIn_block (wpIn_seq (region_round (fun _ _ h => h) (by simp) ?_))
    go_wp2_with (first
      | (refine wpList_load_mid rfl 43 (.tmp 10) rfl q10 0 rfl (u8s sx) _ R10.out Try.underlying43 rfl (by rw [UL.out]; exact Try.size43) ?_)
      | (go_at_call 21; refine (dat_write H2.out.2.2 (at' + slot * 10 + (k : Int)) sx SL.out (by omega)).mono ?_; rw [HN.out]; rintro E w3 ⟨rfl, h3⟩))
    have H3 := Lib.hid h3
    have HA := Lib.hid H2.out.2.1
    clear h3 c0 c1 c2 R10 H2
    have c8 : w3.cell? ⟨q + 1 + 1, 0, none⟩ = some (.int .i64 0) := block_cell (C := [.int .i64 0]) (H3.out.get (q := q + 1 + 1) (o := .cells #[.int .i64 0] 26 (0, 0)) (.head _)) 0 _ rfl
    have f8 : w3.frozen? ⟨q + 1 + 1, 0, none⟩ = false := free_block (H3.out.get (q := q + 1 + 1) (o := .cells #[.int .i64 0] 26 (0, 0)) (.head _)) 0
    obtain ⟨e1, he1⟩ : ∃ e1, e1 = (wrs s (at' + slot * 10) (sect count bs) (k + 1)).2 := ⟨_, rfl⟩
    rw [← he1]
    have HE := Lib.hid he1
    clear he1
    by_cases he : e1 = 0
    · subst he
      clear c8 f8
      refine wpIn_seq (region_round (fun _ _ h => h) (by simp) ?_)
      go_wp2
      refine wpIn_cond_false rfl (wpIn_skip ?_)
      exact ⟨HE.out.symm, fun p hp => HA.out p (List.mem_append_right _ hp), keeps_dat.toKeep.sub H3.out fun p hp => by
        rcases List.mem_cons.1 hp with rfl | hp
        · exact .head _
        · exact .tail _ (List.mem_append_right _ hp)⟩
    · refine wpIn_seq (region_round (fun _ _ h => h) (by simp) ?_)
      go_wp2
      refine wpIn_cond_true (by simp [go_sem, he]) (wpIn_seq (region_round (fun _ _ h => h) (by simp) ?_))
      go_wp2
      refine wpIn_ret ?_
      have h10 : wrs s (at' + slot * 10) (sect count bs) 10 = wrs s (at' + slot * 10) (sect count bs) (k + 1) := by
        have := wrs_stuck (s := s) (x := at' + slot * 10) (f := sect count bs) (k := k + 1) (by rw [← HE.out]; exact he) (9 - k)
        rwa [show k + 1 + (9 - k) = 10 by omega] at this
      refine ⟨rfl, by rw [h10, ← HE.out]; exact he, fun p hp => HA.out p (List.mem_append_right _ hp), ?_⟩
      rw [h10, ← HE.out]
      refine keeps_dat.toKeep.sub ((H3.out.upd HA.out (o' := .cells #[.int .i64 e1] 26 (0, 0)) (heap_set (C := [.int .i64 0]) (H3.out.get (q := q + 1 + 1) (o := .cells #[.int .i64 0] 26 (0, 0)) (.head _)) _) (Oct.grownBy_set _ _ _ _)).more (by omega)) fun p hp => ?_
      rcases List.mem_cons.1 hp with rfl | hp
      · exact .head _
      · exact .tail _ (List.mem_append_right _ hp)
  case done =>
    intro D W hLD hW
    have g8 := hW.2.2.get (q := q + 1 + 1) (o := .cells #[.int .i64 0] 26 (0, 0)) (.head _)
    have c8 : W.cell? ⟨q + 1 + 1, 0, none⟩ = some (.int .i64 0) := block_cell (C := [.int .i64 0]) g8 0 _ rfl
    have f8 : W.frozen? ⟨q + 1 + 1, 0, none⟩ = false := free_block g8 0
    have HW := Lib.hid hW
    have HG8 := Lib.hid g8
    have HL5 := Lib.hid hLD
    clear hW g8 hLD
    refine HK0.out _ _ ?_
    go_wp2
    have h1 := HW.out.2.2.upd HW.out.2.1 (o' := .cells #[.int .i64 0] 26 (0, 0)) (heap_set (k := 0) (C := [.int .i64 0]) HG8.out (.int .i64 0)) (Oct.grownBy_set _ _ _ _)
    have e0 := HW.out.1
    refine leaves_mono (write_leaves (e := 0) rfl h1 (HW.out.2.1 _ (.head _)) HL5.out) fun E w' hE => ⟨?_, keeps_dat.toKeep.sub hE.2 HM4.out⟩
    rw [e0]
    exact hE.1
  case stop =>
    intro D c0 W hLD hW
    obtain ⟨rfl, -, hA, h1⟩ := hW
    refine wpIn_ret ?_
    refine leaves_mono (write_leaves rfl h1 (hA _ (.head _)) hLD) fun E w' hE => ⟨hE.1, keeps_dat.toKeep.sub hE.2 HM4.out⟩
end Go.Proofs.Ytfegffdhlkhjbaa
