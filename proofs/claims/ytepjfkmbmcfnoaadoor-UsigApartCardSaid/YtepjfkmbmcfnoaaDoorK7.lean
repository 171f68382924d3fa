/-
  What is proved: what write does: a slot's sectors, one behind the other, till one has an error. Conditions as stated.
  What is proved: what a slot's bytes tell (content). Conditions as stated.
-/
import Derived.Test.YtepjfkmbmcfnoaaDoorK6
import Derived.Shelf.Abstract

namespace Go.Proofs.YtepjfkmbmcfnoaaDoor
open Go.RowKit
set_option maxRecDepth 100000
attribute [local go_sem] Oper.semAt_some

/-- Between two rounds: k sectors are written, and no error has come; the result's cell is nought. -/
def WrAt (w : World) (d T : Nat) (s : Dk) (x : Int) (f : Nat → List UInt8) (q : Nat) (k : Nat) (M : List (Nat × Obj)) (W : World) : Prop :=
  (wrs s x f k).2 = 0 ∧ (∀ p ∈ M, p.1 ≠ q) ∧ Dat w d (T + k) (wrs s x f k).1 ((q, .cells #[.int .i64 0] 26 (0, 0)) :: M) W
/-- A write has had an error: it is the result. -/
def WrEnd (w : World) (d T : Nat) (s : Dk) (x : Int) (f : Nat → List UInt8) (q : Nat) (c : Code) (M : List (Nat × Obj)) (W : World) : Prop :=
  c = .ret ∧ (wrs s x f 10).2 ≠ 0 ∧ (∀ p ∈ M, p.1 ≠ q) ∧ Dat w d (T + 10) (wrs s x f 10).1 ((q, .cells #[.int .i64 (wrs s x f 10).2] 26 (0, 0)) :: M) W
theorem keeps_wrAt {w : World} {d T : Nat} {s : Dk} {x : Int} {f : Nat → List UInt8} {q : Nat} (k : Nat) : Keeps (WrAt w d T s x f q k) := keeps_and (keeps_aside keeps_dat q _)
theorem keeps_wrEnd {w : World} {d T : Nat} {s : Dk} {x : Int} {f : Nat → List UInt8} {q : Nat} (c : Code) : Keeps (WrEnd w d T s x f q c) := keeps_and (keeps_and (keeps_aside keeps_dat q _))

theorem run_cell_i64 {tmps : Array Value} {w : World} {g : Nat} {e : Int} (hp : tmps.getD 8 undef = .pointer (some ⟨g, 0, none⟩)) (hc : w.cell? ⟨g, 0, none⟩ = some (.int .i64 e)) :
    (results Tryd.f49 tmps).run Tryd.prog w = .ok (.int .i64 e) w := by
  have hp' : tmps[8]?.getD undef = .pointer (some ⟨g, 0, none⟩) := by simpa using hp
  simp [results, hp', asAddr, go_sem, hc]
/-- On the way out: the mark's block is shut, the result is read. -/
theorem write_leaves {w W : World} {d T : Nat} {s : Dk} {L : List (Nat × Obj)} {D q : Nat} {e : Int} {tmps : Array Value} (hp : tmps.getD 8 undef = .pointer (some ⟨q, 0, none⟩))
    (h : Dat w d T s ((q, .cells #[.int .i64 e] 26 (0, 0)) :: (D, .deferred (some [])) :: L) W) (hq : D ≠ q) (hL : ∀ p ∈ L, p.1 ≠ D) :
    LeavesInM Fence.wide 0 Tryd.prog Tryd.f49 tmps (fun E w' => E = .returned (.int .i64 e) ∧ Dat w d T s L w') [{ target := .collected D, args := #[] }] .returning W := by
  have hD : W.heap[D]? = some (.deferred (some [])) := h.get (.tail _ (.head _))
  have h1 : Dat w d T s ((D, .deferred none) :: (q, .cells #[.int .i64 e] 26 (0, 0)) :: L) (W.putObj D (.deferred none)) :=
    (keeps_dat.toKeep.sub (L' := (D, .deferred (some [])) :: (q, .cells #[.int .i64 e] 26 (0, 0)) :: L) h fun p hp => by
      simp only [List.mem_cons] at hp ⊢
      rcases hp with rfl | rfl | hp
      · exact .inr (.inl rfl)
      · exact .inl rfl
      · exact .inr (.inr hp)).upd (fun p hp => by
        rcases List.mem_cons.1 hp with rfl | hp
        · exact fun e => hq e.symm
        · exact hL p hp) (World.putObj_heap_same (Array.getElem?_eq_some_iff.1 hD).1) (grownBy_putObj _ _ _)
  refine ⟨by simp, .inl ⟨D, _, rfl, run_takeDeferred hD, ?_⟩⟩
  exact ⟨_, run_cell_i64 hp (block_cell (C := [.int .i64 e]) (h1.get (q := q) (o := .cells #[.int .i64 e] 26 (0, 0)) (.tail _ (.head _))) 0 _ rfl), rfl, h1.drop.drop⟩

theorem leaves_mono {D : Nat} {tmps : Array Value} {R R' : Ending → World → Prop} {W : World} (h : LeavesInM Fence.wide 0 Tryd.prog Tryd.f49 tmps R [{ target := .collected D, args := #[] }] .returning W) (hr : ∀ E w', R E w' → R' E w') :
    LeavesInM Fence.wide 0 Tryd.prog Tryd.f49 tmps R' [{ target := .collected D, args := #[] }] .returning W := by
  obtain ⟨h1, h2⟩ := h
  refine ⟨h1, ?_⟩
  rcases h2 with ⟨r, w', e, ht, v, hv, hR⟩ | ⟨_, _, _, _, _, e, _⟩
  · exact .inl ⟨r, w', e, ht, v, hv, hr _ _ hR⟩
  · cases e

set_option maxHeartbeats 4000000 in
theorem slot_write {w wr : World} {d T : Nat} {s : Dk} {L : List (Nat × Obj)} (h : Dat w d T s L wr) (hT : T < 100000000) (at' slot : Int) (hat : 0 ≤ at' ∧ at' ≤ 32748) (hsl : 0 ≤ slot ∧ slot ≤ 1) (count : Nat) (A : Option Addr) (n c : Nat) (bs : List UInt8)
    (hb : Src w L A n bs) (hs : Oct.Sl A n c) (hn : n ≤ 1100) :
    Calls Tryd.prog 49 #[.agg #[.pointer (some ⟨d, 0, none⟩), .int .i64 at'], .int .i64 slot, .int .u64 (count : Int), .slice A n c] wr fun E w' =>
      E = .returned (.int .i64 (wrs s (at' + slot * 10) (sect count bs) 10).2) ∧ Dat w d (T + 10) (wrs s (at' + slot * 10) (sect count bs) 10).1 L w' := by
  have HD := Lib.hid h
  have HS := Lib.hid hs
  have HB := Lib.hid hb
  have hlen : bs.length = n := (hb.rd h (fun _ h => h)).1
  have HG := Lib.hid (fun g1 g2 => sectors_goes A n c bs count g1 g2 hs hn hlen)
  have HLT : Hid (∀ p ∈ L, p.1 < wr.heap.size) := Lib.hid fun p hp => keeps_dat.toKeep.lt h hp
  clear h hs hb hlen
  refine (callsIn_wide (n := 0)).1 (callsIn_of_wp_marks Tryd.func49 rfl trivial ?_ rfl)
  simp only [Tryd.ntmps49, List.size_toArray, List.length_cons, List.length_nil, Nat.reduceAdd, Nat.reduceSub, Array.replicate_succ, Array.replicate_zero, List.push_toArray, List.append_toArray, List.nil_append, List.cons_append]
  refine wpIn_wide.2 ?_
  go_wp2_with (first
    | (go_at_call 69; refine (sectors_any _ _ _ _ _).mono ?_; rintro E w1 ⟨rfl, rfl⟩))
  obtain ⟨q, hq⟩ : ∃ q, q = wr.heap.size := ⟨_, rfl⟩
  have D5 : Dat w d T s ((q + 1 + 1 + 1 + 1, .cells #[.slice A n c] 29 (0, 0)) :: (q + 1 + 1 + 1, .cells #[.int .u64 (count : Int)] 35 (0, 0)) :: (q + 1 + 1, .cells #[.int .i64 0] 26 (0, 0)) :: (q + 1, .cells #[.int .i64 slot] 3 (0, 0)) ::
      (q, .cells #[.pointer (some ⟨d, 0, none⟩), .int .i64 at'] 86 (0, 0)) :: L)
      (((((wr.alloc (.cells #[.pointer (some ⟨d, 0, none⟩), .int .i64 at'] 86)).alloc (.cells #[.int .i64 slot] 3)).alloc (.cells #[.int .i64 0] 26)).alloc (.cells #[.int .u64 (count : Int)] 35)).alloc (.cells #[.slice A n c] 29)) := by
    have := ((((HD.out.alloc (.cells #[.pointer (some ⟨d, 0, none⟩), .int .i64 at'] 86)).alloc (.cells #[.int .i64 slot] 3)).alloc (.cells #[.int .i64 0] 26)).alloc (.cells #[.int .u64 (count : Int)] 35)).alloc (.cells #[.slice A n c] 29)
    simp only [World.size_alloc] at this
    rw [hq]
    exact this
  have HLQ : Hid (∀ p ∈ L, p.1 < q) := Lib.hid (by rw [hq]; exact HLT.out)
  rw [← hq]
  clear hq
  generalize ((((wr.alloc (.cells #[.pointer (some ⟨d, 0, none⟩), .int .i64 at'] 86)).alloc (.cells #[.int .i64 slot] 3)).alloc (.cells #[.int .i64 0] 26)).alloc (.cells #[.int .u64 (count : Int)] 35)).alloc (.cells #[.slice A n c] 29) = w5 at D5 ⊢
  obtain ⟨L5, hL5⟩ : ∃ L5 : List (Nat × Obj), L5 = (q + 1 + 1 + 1 + 1, .cells #[.slice A n c] 29 (0, 0)) :: (q + 1 + 1 + 1, .cells #[.int .u64 (count : Int)] 35 (0, 0)) :: (q + 1, .cells #[.int .i64 slot] 3 (0, 0)) ::
      (q, .cells #[.pointer (some ⟨d, 0, none⟩), .int .i64 at'] 86 (0, 0)) :: L := ⟨_, rfl⟩
  have I0 : WrAt w d T s (at' + slot * 10) (sect count bs) (q + 1 + 1) 0 L5 w5 := by
    refine ⟨rfl, fun p hp => ?_, keeps_dat.toKeep.sub D5 fun p hp => ?_⟩
    · rw [hL5] at hp
      simp only [List.mem_cons] at hp
      rcases hp with rfl | rfl | rfl | rfl | hp
      · simp only; omega
      · simp only; omega
      · simp only; omega
      · simp only; omega
      · have := HLQ.out p hp; omega
    · rw [hL5] at hp
      simp only [List.mem_cons] at hp ⊢
      rcases hp with rfl | rfl | rfl | rfl | rfl | hp <;> simp [*]
  have hm1 : ∀ p ∈ ([(q + 1 + 1 + 1 + 1, .cells #[.slice A n c] 29 (0, 0)), (q + 1 + 1 + 1, .cells #[.int .u64 (count : Int)] 35 (0, 0))] : List (Nat × Obj)), p ∈ L5 := by
    rw [hL5]
    intro p hp
    simp only [List.mem_cons, List.not_mem_nil, or_false] at hp ⊢
    rcases hp with rfl | rfl
    · exact .inl rfl
    · exact .inr (.inl rfl)
  have hm2 : (q, .cells #[.pointer (some ⟨d, 0, none⟩), .int .i64 at'] 86 (0, 0)) ∈ L5 := by rw [hL5]; simp
  have hm3 : (q + 1, .cells #[.int .i64 slot] 3 (0, 0)) ∈ L5 := by rw [hL5]; simp
  have hm4 : ∀ p ∈ L, p ∈ L5 := fun p hp => by rw [hL5]; simp [hp]
  rename_i K0 hK0
  have HK0 := Lib.hid hK0
  have H0 := Lib.hid I0
  have HM1 := Lib.hid hm1
  have HM2 := Lib.hid hm2
  have HM3 := Lib.hid hm3
  have HM4 := Lib.hid hm4
  clear hK0 I0 D5 hm1 hm2 hm3 hm4 hL5 HD HLT HLQ HS
  refine (wpIn_wide (n := 0)).1 ?_
  refine wp_rangeKeeps (L := L5) rfl (enters_of Tryd.func83 (by kernel_rfl) rfl) (HG.out _ _) HM1.out (fun _ => rfl) (WrAt w d T s (at' + slot * 10) (sect count bs) (q + 1 + 1)) (WrEnd w d T s (at' + slot * 10) (sect count bs) (q + 1 + 1)) keeps_wrAt keeps_wrEnd H0.out
    (fun k M W hM hW => HB.out.rd hW.2.2 (fun p hp => .tail _ (hM p (HM4.out p hp)))) ?round ?done ?stop
  case round =>
    intro l k M W hk hM hW
    have HW := Lib.hid hW
    have HM := Lib.hid hM
    obtain ⟨Z, hZ⟩ : ∃ Z, Z = u8s zeros := ⟨_, rfl⟩
    have hz : ∀ w, (zeroValue 61).run Tryd.prog w = .ok (.agg Z.toArray) w := by rw [hZ]; exact zero33
    have ZL : Hid (Z.length = 128) := Lib.hid (by rw [hZ, u8s_length]; rfl)
    have SL : Hid ((sect count bs k).length = 128) := Lib.hid (sect_length _ _ _)
    have UL : Hid ((u8s (sect count bs k)).length = 128) := Lib.hid (by rw [u8s_length, sect_length])
    have HN : Hid ((wrs s (at' + slot * 10) (sect count bs) k).1.write (at' + slot * 10 + k) (sect count bs k) = wrs s (at' + slot * 10) (sect count bs) (k + 1)) := Lib.hid (wrs_next hW.1).symm
    clear hW hM hZ
    refine wpIn_seq (region_round (fun _ _ h => h) (by simp) ?_)
    go_wp2
    generalize hsx : sect count bs k = sx at SL UL HN ⊢
    clear hsx
    refine region_round (fun _ _ h => h) (by simp) ?_
    go_wp2_with (first
      | (refine wpList_store_all rfl 61 (.tmp 10) (.tmp 16) rfl W.heap.size Z (u8s sx) 61 (row_new W Z 61) (ZL.out.trans UL.out.symm) rfl rfl (by rw [UL.out]; exact Tryd.size61) (u8s_one _) ?_; intro w2 G2))
    have B2 : Below W.heap.size W w2 := ((Below.refl _ W).alloc (Nat.le_refl _) _).grown G2.out.2 (by simp) (fun k e => by injection e with e; omega)
    refine ⟨[(W.heap.size, .cells (u8s sx).toArray 61 (0, 0))], (keeps_wrAt k).toKeep.fresh HW.out B2 (Nat.le_refl _) G2.out.1, fun p hp => by simp only [List.mem_singleton] at hp; subst hp; exact Nat.le_refl _, ?_⟩
    clear B2 G2 HW HM hz ZL
    intro M' W2 hM' h2
    generalize hq10 : W.heap.size = q10 at h2 ⊢
    clear hq10
    have HM := Lib.hid hM'
    have H2 := Lib.hid h2
    have c0 : W2.cell? ⟨q, 0, none⟩ = some (.pointer (some ⟨d, 0, none⟩)) := block_cell (C := [.pointer (some ⟨d, 0, none⟩), .int .i64 at']) ((keeps_wrAt k).toKeep.get h2 (List.mem_append_right _ (hM' _ HM2.out))) 0 _ rfl
    have c1 : W2.cell? ⟨q, 1, none⟩ = some (.int .i64 at') := block_cell (C := [.pointer (some ⟨d, 0, none⟩), .int .i64 at']) ((keeps_wrAt k).toKeep.get h2 (List.mem_append_right _ (hM' _ HM2.out))) 1 _ rfl
    have c2 : W2.cell? ⟨q + 1, 0, none⟩ = some (.int .i64 slot) := block_cell (C := [.int .i64 slot]) ((keeps_wrAt k).toKeep.get h2 (List.mem_append_right _ (hM' _ HM3.out))) 0 _ rfl
    have R10 : Hid (W2.rangeAt q10 0 (u8s sx)) := Lib.hid (range_block ((keeps_wrAt k).toKeep.get h2 (.head _)) 0 _ (fun j v hv => by rw [Nat.zero_add]; exact hv))
    clear hM' h2
    refine wpIn_block (wpIn_seq (region_round (fun _ _ h => h) (by simp) ?_))
    go_wp2_with (first
      | (refine wpList_load_mid rfl 61 (.tmp 10) rfl q10 0 rfl (u8s sx) _ R10.out Tryd.underlying61 rfl (by rw [UL.out]; exact Tryd.size61) ?_)
      | (go_at_call 24; refine (dat_write H2.out.2.2 (at' + slot * 10 + (k : Int)) sx SL.out (by omega)).mono ?_; rw [HN.out]; rintro E w3 ⟨rfl, h3⟩))
    have H3 := Lib.hid h3
    have HA := Lib.hid H2.out.2.1
    clear h3 c0 c1 c2 R10 H2
    have c8 : w3.cell? ⟨q + 1 + 1, 0, none⟩ = some (.int .i64 0) := block_cell (C := [.int .i64 0]) (H3.out.get (q := q + 1 + 1) (o := .cells #[.int .i64 0] 26 (0, 0)) (.head _)) 0 _ rfl
    have f8 : w3.frozen? ⟨q + 1 + 1, 0, none⟩ = false := free_block (H3.out.get (q := q + 1 + 1) (o := .cells #[.int .i64 0] 26 (0, 0)) (.head _)) 0
    obtain ⟨e1, he1⟩ : ∃ e1, e1 = (wrs s (at' + slot * 10) (sect count bs) (k + 1)).2 := ⟨_, rfl⟩
    rw [← he1]
    have HE := Lib.hid he1
    clear he1
    by_cases he : e1 = 0
    · subst he
      clear c8 f8
      refine wpIn_seq (region_round (fun _ _ h => h) (by simp) ?_)
      go_wp2
      refine wpIn_cond_false rfl (wpIn_skip ?_)
      exact ⟨HE.out.symm, fun p hp => HA.out p (List.mem_append_right _ hp), keeps_dat.toKeep.sub H3.out fun p hp => by
        rcases List.mem_cons.1 hp with rfl | hp
        · exact .head _
        · exact .tail _ (List.mem_append_right _ hp)⟩
    · refine wpIn_seq (region_round (fun _ _ h => h) (by simp) ?_)
      go_wp2
      refine wpIn_cond_true (by simp [go_sem, he]) (wpIn_seq (region_round (fun _ _ h => h) (by simp) ?_))
      go_wp2
      refine wpIn_ret ?_
      have h10 : wrs s (at' + slot * 10) (sect count bs) 10 = wrs s (at' + slot * 10) (sect count bs) (k + 1) := by
        have := wrs_stuck (s := s) (x := at' + slot * 10) (f := sect count bs) (k := k + 1) (by rw [← HE.out]; exact he) (9 - k)
        rwa [show k + 1 + (9 - k) = 10 by omega] at this
      refine ⟨rfl, by rw [h10, ← HE.out]; exact he, fun p hp => HA.out p (List.mem_append_right _ hp), ?_⟩
      rw [h10, ← HE.out]
      refine keeps_dat.toKeep.sub ((H3.out.upd HA.out (o' := .cells #[.int .i64 e1] 26 (0, 0)) (heap_set (C := [.int .i64 0]) (H3.out.get (q := q + 1 + 1) (o := .cells #[.int .i64 0] 26 (0, 0)) (.head _)) _) (Oct.grownBy_set _ _ _ _)).more (by omega)) fun p hp => ?_
      rcases List.mem_cons.1 hp with rfl | hp
      · exact .head _
      · exact .tail _ (List.mem_append_right _ hp)
  case done =>
    intro D W hLD hW
    have g8 := hW.2.2.get (q := q + 1 + 1) (o := .cells #[.int .i64 0] 26 (0, 0)) (.head _)
    have c8 : W.cell? ⟨q + 1 + 1, 0, none⟩ = some (.int .i64 0) := block_cell (C := [.int .i64 0]) g8 0 _ rfl
    have f8 : W.frozen? ⟨q + 1 + 1, 0, none⟩ = false := free_block g8 0
    have HW := Lib.hid hW
    have HG8 := Lib.hid g8
    have HL5 := Lib.hid hLD
    clear hW g8 hLD
    refine HK0.out _ _ ?_
    go_wp2
    have h1 := HW.out.2.2.upd HW.out.2.1 (o' := .cells #[.int .i64 0] 26 (0, 0)) (heap_set (k := 0) (C := [.int .i64 0]) HG8.out (.int .i64 0)) (Oct.grownBy_set _ _ _ _)
    have e0 := HW.out.1
    refine leaves_mono (write_leaves (e := 0) rfl h1 (HW.out.2.1 _ (.head _)) HL5.out) fun E w' hE => ⟨?_, keeps_dat.toKeep.sub hE.2 HM4.out⟩
    rw [e0]
    exact hE.1
  case stop =>
    intro D c0 W hLD hW
    obtain ⟨rfl, -, hA, h1⟩ := hW
    refine wpIn_ret ?_
    refine leaves_mono (write_leaves rfl h1 (hA _ (.head _)) hLD) fun E w' hE => ⟨hE.1, keeps_dat.toKeep.sub hE.2 HM4.out⟩
end Go.Proofs.YtepjfkmbmcfnoaaDoor

namespace Go.Proofs.YtepjfkmbmcfnoaaDoor
open Go.RowKit
set_option maxRecDepth 100000

/-- What is read has a sector's length. -/
theorem Dat.read_len {w wr : World} {d T : Nat} {s : Dk} {L : List (Nat × Obj)} (h : Dat w d T s L wr) (x : Int) : (s.read x).1.length = 128 := by
  obtain ⟨S, ⟨fused, left, ms, ml, mn, V, gs, gl, gn, h⟩, _⟩ := h
  unfold Dk.read
  split
  · rfl
  · rcases h.newest x with ⟨_, hw⟩ | ⟨j, b, _, hj, hw⟩
    · rw [hw]
      simp only
      rw [h.sure x]
      cases gl x
      · simp only [Bool.false_eq_true, if_false]
        cases hg : gs x with
        | none => rfl
        | some b => exact h.glen x b hg
      · rfl
    · rw [hw]
      exact (h.len _ (List.mem_of_getElem? hj)).1

theorem own_kept {w w' : World} {B e k n : Nat} {v : Value} {xs : List Value} (h : w.ownsRow B e k v n xs) (he : ∀ g, v.ownBlock = some g → w'.heap[g]? = w.heap[g]?) : w'.ownsRow B e k v n xs := by
  refine ⟨h.1, ?_⟩
  rcases h.2 with hn | ⟨g, cap, cur, rfl, hb, hgg, rest⟩
  · exact .inl hn
  · exact .inr ⟨g, cap, cur, rfl, hb, (he g rfl).trans hgg, rest⟩
theorem own_lt {w : World} {B e k n : Nat} {v : Value} {xs : List Value} (h : w.ownsRow B e k v n xs) : ∀ g, v.ownBlock = some g → B ≤ g ∧ g < w.heap.size := by
  intro g hg
  rcases h.2 with ⟨rfl, _⟩ | ⟨g', cap, cur, rfl, hb, hgg, _⟩
  · simp [Value.ownBlock] at hg
  · simp [Value.ownBlock] at hg
    subst hg
    exact ⟨hb, (Array.getElem?_eq_some_iff.1 hgg).1⟩
theorem own_below {w w' : World} {B e k n : Nat} {v : Value} {xs : List Value} (h : w.ownsRow B e k v n xs) (hb : Below w.heap.size w w') : w'.ownsRow B e k v n xs :=
  own_kept h fun g hg => hb.block g (own_lt h g hg).2
theorem own_base {w : World} {B B' e k n : Nat} {v : Value} {xs : List Value} (h : w.ownsRow B e k v n xs) (hB : B' ≤ B) : w.ownsRow B' e k v n xs := by
  refine ⟨h.1, ?_⟩
  rcases h.2 with hn | ⟨g, cap, cur, rfl, hb, rest⟩
  · exact .inl hn
  · exact .inr ⟨g, cap, cur, rfl, Nat.le_trans hB hb, rest⟩
/-- What a fresh block's owner turns lies above. -/
theorem below_gb' {B g : Nat} {w a b : World} (h : Below B w a) (hg : a.grownBy b (some g)) (hB : B ≤ g) (hz : B ≤ a.heap.size) : Below B w b :=
  h.grown hg hz (fun k e => by injection e with e; subst e; exact hB)

/-- All bytes are noughts. -/
def noughts (l : List UInt8) : Bool := l.all (· == 0)
/-- The bytes of which a slot's tell. -/
def contentOf (all : List UInt8) : Option (List UInt8) :=
  if 1100 < Oct.num (all.take 2) then none else if noughts (all.drop (2 + Oct.num (all.take 2))) then some ((all.drop 2).take (Oct.num (all.take 2))) else none

theorem fits_nat {rem : List UInt8} {k : Nat} (h : k ≤ rem.length) : Oct.fits rem false (k : Int) = true := by simp [Oct.fits]; omega
theorem tk_nat {rem : List UInt8} {k : Nat} (h : k ≤ rem.length) : Oct.tkOut rem false (k : Int) = rem.take k ∧ Oct.tkRem rem false (k : Int) = rem.drop k := by
  unfold Oct.tkOut Oct.tkRem
  rw [if_pos (fits_nat h), if_pos (fits_nat h)]
  simp
theorem noughts_take_all {l : List UInt8} {j : Nat} (h : l.length ≤ j) : noughts (l.take j) = noughts l := by rw [List.take_of_length_le h]
theorem noughts_take_succ {l : List UInt8} {j : Nat} {u : UInt8} (h : l[j]? = some u) : noughts (l.take (j + 1)) = (noughts (l.take j) && u == 0) := by
  unfold noughts
  rw [List.take_add_one, h]
  simp
theorem noughts_false {l : List UInt8} {j : Nat} {u : UInt8} (h : l[j]? = some u) (hu : u ≠ 0) : noughts l = false := by
  unfold noughts
  rw [List.all_eq_false]
  exact ⟨u, List.mem_of_getElem? h, by simpa using hu⟩

set_option maxHeartbeats 1000000 in
theorem content_any (A : Option Addr) (n c : Nat) (all : List UInt8) (w : World) (hr : Oct.Rd w A n all) (hs : Oct.Sl A n c) (hn : n = 1200) :
    Calls Tryd.prog 65 #[.slice A n c] w fun E w' => ∃ A' m c', E = .returned (.tuple #[.slice A' m c', .bool (contentOf all).isSome]) ∧ Below w.heap.size w w' ∧ Oct.Sl A' m c' ∧ w'.ownsRow w.heap.size 5 1 (.slice A' m c') m (u8s ((contentOf all).getD [])) := by
  subst hn
  have hl : all.length = 1200 := hr.1
  have HN := Lib.hid (Oct.new_any A 1200 c all w hr hs (by omega))
  obtain ⟨k, hk⟩ : ∃ k, k = Oct.num (all.take 2) := ⟨_, rfl⟩
  have hkb : k < 65536 := by
    have := Oct.num_out_lt all false 2
    rw [(tk_nat (k := 2) (by omega)).1, ← hk] at this
    exact this
  have hct : contentOf all = if 1100 < k then none else if noughts (all.drop (2 + k)) then some ((all.drop 2).take k) else none := by rw [contentOf, hk]
  have hq1 : Oct.tkOut all false 2 = all.take 2 ∧ Oct.tkRem all false 2 = all.drop 2 := tk_nat (k := 2) (by omega)
  have hq2 : Oct.fits all false 2 = true := fits_nat (k := 2) (by omega)
  have HH : Hid (∀ (lo g : Nat) (wx : World), Oct.CutAt wx lo g all false → Calls Tryd.prog 81 #[.pointer (some ⟨g, 0, none⟩)] wx fun E w' => E = .returned (.int .u16 (k : Int)) ∧ Oct.CutAt w' lo g (all.drop 2) false ∧ wx.grownBy w' (some g)) := Lib.hid fun lo g wx h => by
    have := Oct.half_cut g all false wx h
    rw [hq1.1, hq1.2, hq2, ← hk] at this
    exact this
  obtain ⟨ct, hc0⟩ : ∃ ct, ct = contentOf all := ⟨_, rfl⟩
  rw [← hc0] at hct ⊢
  have HC := Lib.hid hct
  clear hct hq1 hq2 hk hc0 hr hs
  by_cases hm : 1100 < k
  · have hc : ct = none := by rw [HC.out, if_pos hm]
    subst hc
    go_enter Tryd.func65, Tryd.ntmps65
    go_wp2_with (first
      | (go_at_call 53; refine HN.out.mono ?_; rintro E w1 ⟨g, rfl, hg, hcut, hb1⟩)
      | (go_at_call 81; refine (HH.out _ _ _ hcut).mono ?_; rintro E w2 ⟨rfl, hcut2, hg2⟩))
    go_ret2
    exact ⟨none, 0, 0, rfl, below_gb' hb1 hg2 hg hb1.size, ⟨fun _ => ⟨rfl, rfl⟩, Nat.le_refl _, by omega⟩, World.ownsRow_nil _ _ _ _⟩
  · have HB : Hid (all.length = 1200) := Lib.hid hl
    obtain ⟨P, hP⟩ : ∃ P, P = (all.drop 2).take k := ⟨_, rfl⟩
    obtain ⟨R, hR⟩ : ∃ R, R = all.drop (2 + k) := ⟨_, rfl⟩
    have hRl : R.length ≤ 1200 := by rw [hR, List.length_drop]; omega
    have hq3 := tk_nat (rem := all.drop 2) (k := k) (by rw [List.length_drop]; omega)
    have hq4 := fits_nat (rem := all.drop 2) (k := k) (by rw [List.length_drop]; omega)
    have HR1 : Hid (∀ (lo g : Nat) (wx : World), Oct.CutAt wx lo g (all.drop 2) false → Calls Tryd.prog 55 #[.pointer (some ⟨g, 0, none⟩), .int .i64 (k : Int)] wx fun E w' => ∃ A' m c', E = .returned (.slice A' m c') ∧
        Hid (m = P.length ∧ w'.ownsRow wx.heap.size 5 1 (.slice A' m c') m (u8s P) ∧ Oct.Sl A' m c') ∧ Oct.CutAt w' lo g R false ∧ wx.grownBy w' (some g)) := Lib.hid fun lo g wx h => by
      have := Oct.raw_cut g (all.drop 2) false (k : Int) wx h
      rw [hq3.1, hq3.2, hq4, List.drop_drop, ← hP, ← hR] at this
      exact this
    have hq5 := tk_nat (rem := R) (k := R.length) (Nat.le_refl _)
    have HR2 : Hid (∀ (lo g : Nat) (wx : World), Oct.CutAt wx lo g R false → Calls Tryd.prog 55 #[.pointer (some ⟨g, 0, none⟩), .int .i64 (R.length : Int)] wx fun E w' => ∃ A' m c', E = .returned (.slice A' m c') ∧
        Hid (m = R.length ∧ w'.ownsRow wx.heap.size 5 1 (.slice A' m c') m (u8s R) ∧ Oct.Sl A' m c') ∧ wx.grownBy w' (some g)) := Lib.hid fun lo g wx h => by
      have := Oct.raw_cut g R false (R.length : Int) wx h
      rw [hq5.1, List.take_length] at this
      exact this.mono fun E w' ⟨A', m, c', h1, h2, h3, h4⟩ => ⟨A', m, c', h1, h2, h4⟩
    have HC2 : Hid (ct = if noughts R then some P else none) := Lib.hid (by rw [HC.out, if_neg hm, hP, hR])
    clear HC hq3 hq4 hq5 hP hR
    go_enter Tryd.func65, Tryd.ntmps65
    go_wp2_with fail
    refine HN.out.mono ?_
    rintro E w1 ⟨g, rfl, hg, hcut, hb1⟩
    have HG := Lib.hid hg
    have HB1 := Lib.hid hb1
    have HCT := Lib.hid hcut
    clear hg hb1 hcut
    go_wp2_with fail
    refine (HH.out _ _ _ HCT.out).mono ?_
    rintro E w2 ⟨rfl, hcut2, hg2⟩
    have HLT := Lib.hid HCT.out.lt
    have HC3 := Lib.hid hcut2
    have HG2 := Lib.hid hg2
    clear hcut2 hg2 HCT
    go_wp2_with fail
    refine (HR1.out _ _ _ HC3.out).mono ?_
    rintro E w3 ⟨A1, m1, c1, rfl, h3, hcut3, hg3⟩
    have HC4 := Lib.hid hcut3
    have HG3 := Lib.hid hg3
    clear hcut3 hg3 HC3
    go_wp2_with fail
    refine (Oct.left_any g R false _ HC4.out).mono ?_
    rintro E w4 ⟨rfl, q, rfl⟩
    go_wp2_with fail
    refine (HR2.out _ _ _ (HC4.out.drewN q)).mono ?_
    rintro E w5 ⟨A2, m2, c2, rfl, h5, hg5⟩
    have HG5 := Lib.hid hg5
    clear hg5
    have hm2 := h5.out.1
    have H5 := Lib.hid (Oct.Rd.of_own h5.out.2.1)
    subst hm2
    have HBW : Hid (Below w.heap.size w w5) := Lib.hid (by
      have h1 := below_gb' HB1.out HG2.out HG.out HB1.out.size
      have h2 := below_gb' h1 HG3.out HG.out h1.size
      exact below_gb' (h2.trans (c := w3.drewN q) ⟨rfl, rfl, rfl, Nat.le_refl _, fun _ _ => rfl⟩) HG5.out HG.out h2.size)
    have HOP : Hid (w5.ownsRow w.heap.size 5 1 (.slice A1 m1 c1) m1 (u8s P)) := Lib.hid (by
      have h1 := HB1.out.size
      have h2 := HG2.out.size
      refine own_kept (own_base h3.out.2.1 (by omega)) fun g' hg' => ?_
      obtain ⟨ha, hb⟩ := own_lt h3.out.2.1 g' hg'
      exact HG5.out.block g' hb (fun e => by injection e with e; have := HLT.out; omega))
    have HS1 := Lib.hid h3.out.2.2
    clear h5 h3 HC4
    go_wp2_with fail
    go_loop [24] (fun i => ∃ j : Nat, j ≤ R.length ∧ i = .int .i64 (j : Int) ∧ Hid (noughts (R.take j) = true)) (fun i => R.length - (intOf i).toNat)
    case atStart => exact ⟨0, Nat.zero_le _, rfl, Lib.hid rfl⟩
    case round =>
      obtain ⟨j, hj, rfl, HJ⟩ := hrel
      by_cases hlt : j < R.length
      · obtain ⟨b, o, rfl, _, hcc⟩ := H5.out.2 (by omega)
        obtain ⟨u, hu⟩ : ∃ u, R[j]? = some u := ⟨_, List.getElem?_eq_getElem hlt⟩
        have hcv := hcc j u hu
        have HU := Lib.hid hu
        clear hcc hu
        by_cases h0 : u = 0
        · subst h0
          go_wp2
          go_round
          case rel => exact ⟨j + 1, by omega, by go_num, Lib.hid (by rw [noughts_take_succ HU.out, HJ.out]; rfl)⟩
          case measure => simp [intOf]; omega
        · have hu0 : ¬ (u.toNat : Int) = 0 := fun e => h0 (UInt8.toNat_inj.1 (by simpa using (by omega : u.toNat = 0)))
          have hc : ct = none := by rw [HC2.out, if_neg (by rw [noughts_false HU.out h0]; simp)]
          subst hc
          go_wp2
          go_ret2
          exact ⟨none, 0, 0, rfl, HBW.out, ⟨fun _ => ⟨rfl, rfl⟩, Nat.le_refl _, by omega⟩, World.ownsRow_nil _ _ _ _⟩
      · obtain rfl : j = R.length := by omega
        have hc : ct = some P := by rw [HC2.out, if_pos (by have := HJ.out; rwa [List.take_length] at this)]
        subst hc
        go_wp2
        go_ret2
        exact ⟨A1, m1, c1, rfl, HBW.out, HS1.out, HOP.out⟩
end Go.Proofs.YtepjfkmbmcfnoaaDoor
