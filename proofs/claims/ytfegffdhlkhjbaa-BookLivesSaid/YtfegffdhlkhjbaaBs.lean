/-
  What is proved: the walk of BookLives for whatever comes in. Conditions as stated.
-/
import Derived.Test.YtfegffdhlkhjbaaBr
namespace Go.Proofs.Ytfegffdhlkhjbaa
open Go.RowKit
set_option maxRecDepth 100000

/-- Behind k rounds. -/
structure LvAt (w : World) (d k : Nat) (L : List (Nat × Obj)) (v : Value) (q : List (Nat × List UInt8)) (a na : Nat) (s : Dk) (W : World) : Prop where
  dat : Dat w d (20 + 13 * k) s L W
  was : Was w L v (recsOf q) W
  calm : Calm s
  book : BookIs s 0 1000 k 0 q a na (2 + k)
  cnt : q.length ≤ k
  fin : endOf (0 + 20) q ≤ 20 + 3 * (k : Int)
theorem life_byte {k : Nat} (hk : k < 200) : (lifeB (k + 1)).length = 8 ∧ ∃ u : UInt8, (lifeB (k + 1))[7]? = some u ∧ (u.toNat : Int) = (k : Int) + 1 := by
  have e : lifeB (k + 1) = Oct.be 8 (k + 1) := by rw [lifeB, if_neg (Nat.succ_ne_zero k)]
  rw [e]
  refine ⟨Oct.be_length 8 _, Oct.beAt 8 (k + 1) 7, by simp [Oct.be, Oct.beTake], ?_⟩
  have := Oct.beAt_toNat 8 (k + 1) 7
  simp only [Nat.pow_zero, Nat.div_one, show 8 - 1 - 7 = 0 from rfl] at this
  omega
theorem rows_in {w W : World} {A : Option Addr} {n : Nat} {rs : List (List UInt8)} (h : Rows (fun b => b < w.heap.size) w A n rs) (hb : Below w.heap.size w W) : Rows (fun b => b < w.heap.size) W A n rs := h.kept fun b hb' _ => ⟨hb', hb.block b hb'⟩

set_option maxHeartbeats 16000000 in
theorem bookLives_by (hW : Works) (A : Option Addr) (n c : Nat) (rs : List (List UInt8)) (w : World) (hx : Rows (fun b => b < w.heap.size) w A n rs) (hs : Sl A n c) :
    Calls Try.prog 7 #[.slice A n c] w fun E w' => E = .returned (.bool true) ∧ Below w.heap.size w w' := by
  have HW := Lib.hid hW
  have HX := Lib.hid hx
  have hsc := hs.2
  clear hW hx hs
  by_cases hn : n ≤ 30
  · go_enter Try.func7, Try.ntmps7
    go_wp2_with fail
    refine (dat_new (Below.refl _ w)).mono ?_
    rintro E w1 ⟨d, rfl, h1, -⟩
    have D1 := Lib.hid h1
    clear h1
    go_wp2_with fail
    refine (book_format D1.out (by omega) (x := 0) 1000 (by omega) (by omega)).mono ?_
    rintro E w2 ⟨rfl, s2, H2⟩
    clear D1
    go_wp2_with fail
    go_loopw [4, 5] (fun v4 v5 wr => ∃ k : Nat, k ≤ n ∧ v5 = .int .i64 (k : Int) ∧ ∃ L q a na s, Hid (LvAt w d k L v4 q a na s wr)) (fun _ v5 _ => n - (intOf v5).toNat)
    case atStart => exact ⟨0, Nat.zero_le _, rfl, [], [], 0, 2, s2, Lib.hid ⟨H2.out.1, Was.nil _ _, H2.out.2.1, H2.out.2.2.2.1, Nat.le_refl _, by decide⟩⟩
    case round =>
      clear H2
      obtain ⟨k, hk, rfl, L, q, a, na, s, HD⟩ := hrel
      by_cases hkk : k < n
      · obtain ⟨r, hr⟩ : ∃ r, rs[k]? = some r := ⟨_, List.getElem?_eq_getElem (by have := HX.out.1; omega)⟩
        obtain ⟨b, o, Aj, cj, rfl, hb0, -, hcr, hrd, hsj⟩ := HX.out.at hr
        have HCR : Hid (∀ W, Below w.heap.size w W → W.cell? ⟨b, o + k, none⟩ = some (.slice Aj r.length cj)) := Lib.hid fun W hb => (hb.cell (p := ⟨b, o + k, none⟩) hb0).trans hcr
        have HRD : Hid (∀ W, Below w.heap.size w W → Rd (fun b => b < w.heap.size) W Aj r.length r) := Lib.hid fun W hb => hrd.kept fun b hb' _ => ⟨hb', hb.block b hb'⟩
        have HSJ := Lib.hid hsj
        obtain ⟨m, hm⟩ : ∃ m, m = r.length := ⟨_, rfl⟩
        rw [← hm] at HCR HRD HSJ
        have HM := Lib.hid hm
        have hmc := HSJ.out.2
        obtain ⟨A4, c4, rfl, hr4, hs4⟩ := HD.out.was.rows HD.out.dat
        have HR4 := Lib.hid hr4
        have HS4 := Lib.hid hs4
        clear hcr hrd hsj hr hm hr4 hs4
        have cb := HCR.out _ HD.out.dat.below
        by_cases hml : m ≤ 300
        · go_wp2_with fail
          refine (book_open HD.out.dat HD.out.calm (by omega) HD.out.book 1000 (by omega) (by omega) (by omega) (by omega) (by omega) (by omega)).mono ?_
          rintro E w3 ⟨g, A3, n3, c3, rfl, s3, LF3, H3⟩
          clear cb
          have HRW : Hid (Rows (Stay w L) w3 A4 (recsOf q).length (recsOf q)) := Lib.hid (HR4.out.go HD.out.dat (H3.out.1.dat.sub (L' := L) fun p hp => .tail _ (List.mem_append_right _ hp)) (fun _ h => h))
          have HSM := Lib.hid (same_b H3.out.1.row HRW.out H3.out.1.sl HS4.out)
          rw [show decide (recsOf q = recsOf q) = true by simp] at HSM
          clear HRW HR4
          go_wp2_with fail
          refine HSM.out.mono ?_
          rintro E w4 ⟨rfl, hb4⟩
          have D4 := Lib.hid (H3.out.1.book.next hb4)
          clear hb4 HSM
          go_wp2_with fail
          refine (cell_open D4.out H3.out.2.1.1 (x := 0) (by omega) H3.out.2.2.2.1.cell).mono ?_
          rintro E w5 ⟨g5, rfl, O5⟩
          clear D4
          obtain ⟨hl8, u, hu, hun⟩ := life_byte (k := k) (by omega)
          have HL8 := Lib.hid hl8
          have HU := Lib.hid hu
          have HUN := Lib.hid hun
          clear hl8 hu hun
          go_wp2_with fail
          refine (cell_get2 O5.out).mono ?_
          rintro E w6 ⟨A6, n6, c6, rfl, H6⟩
          obtain rfl : n6 = 8 := by rw [← H6.out.2.1.1]; exact HL8.out
          clear O5
          go_wp2_with fail
          refine (cell_get2 H6.out.1).mono ?_
          rintro E w7 ⟨A7, n7, c7, rfl, H7⟩
          obtain rfl : n7 = 8 := by rw [← H7.out.2.1.1]; exact HL8.out
          clear H6
          obtain ⟨b7, o7, rfl, -, hc7⟩ := H7.out.2.1.2 (by omega)
          have c77 := hc7 7 u HU.out
          rw [HUN.out] at c77
          have hs7 := H7.out.2.2.1.2
          have hw7 : RowKit.wrap64 ((k : Int) + 1) = (k : Int) + 1 := by unfold RowKit.wrap64; omega
          have D7 := Lib.hid H7.out.1.dat
          clear H7 hc7 HU HUN HL8
          have cb := HCR.out _ D7.out.below
          have hfin := HD.out.fin
          have hcnt := HD.out.cnt
          by_cases hm0 : m = 0
          · subst hm0
            have HN : Hid (LvAt w d (k + 1) L (.slice A4 (recsOf q).length c4) q (1 - a) (topGo s 0 20 + 1) s3 w7) := Lib.hid (by
              have hD : Dat w d (20 + 13 * k + 10) s3 L w7 := D7.out.sub fun p hp => .tail _ (List.mem_append_right _ hp)
              exact ⟨hD.more (by omega), HD.out.was.go HD.out.dat hD, H3.out.2.1, by have := H3.out.2.2.2.1; rwa [Nat.add_assoc] at this, by omega, by omega⟩)
            clear HD H3 D7
            go_wp2_with fail
            exact ⟨⟨k + 1, by omega, by go_num, L, q, _, _, s3, HN⟩, by simp [intOf]; omega⟩
          · have hpn : pagesN m ≤ 3 := by unfold pagesN; omega
            have hm1 : 0 < m := by omega
            have HR7 := Lib.hid (HRD.out _ D7.out.below)
            go_wp2_with fail
            refine (book_append (x := 0) (E := 1000) (q := q) D7.out H3.out.1.ne H3.out.2.1 (by omega) H3.out.2.2.2.1 (by omega) (by omega) (by omega) (by omega) Aj m cj r (rd_rd HR7.out) HSJ.out (by omega) (by omega)).mono ?_
            rintro E w8 ⟨rfl, s8, H8⟩
            have D8 : Hid (Dat w d (20 + 13 * k + 10 + pagesN m) s8 L w8) := Lib.hid (H8.out.1.sub fun p hp => .tail _ (List.mem_append_right _ hp))
            have W8 := Lib.hid (HD.out.was.go HD.out.dat D8.out)
            have R8 := Lib.hid (HRD.out _ D8.out.below)
            have HB8 : Hid (BookIs s8 0 1000 (k + 1) 0 (q ++ [(k + 1, r)]) (1 - a) (topGo s 0 20 + 1) (2 + (k + 1)) ∧ Calm s8) := Lib.hid ⟨by have := H8.out.2.2.2.1; rwa [Nat.add_assoc] at this, H8.out.2.1⟩
            clear HD H3 D7 HR7 H8 cb
            have cb := HCR.out _ D8.out.below
            have hql : (recsOf q).length < 1000000 := by rw [recsOf_length]; omega
            go_wp2_with (first
              | (at_builtin; go_must (refine wpList_was rfl (.tmp 90) (.tmp 95) rfl (.slice A4 (recsOf q).length c4) (recsOf q) Aj m cj r rfl rfl D8.out W8.out R8.out HSJ.out hql ?_); intro A9 c9 w9 L9 H9)
              | fail)
            refine ⟨⟨k + 1, by omega, by go_num, L9, q ++ [(k + 1, r)], _, _, s8, Lib.hid ⟨H9.out.1.more (by omega), ?_, HB8.out.2, HB8.out.1, by simp; omega, ?_⟩⟩, by simp [intOf]; omega⟩
            · rw [recsOf_snoc]
              exact H9.out.2
            · rw [endOf_snoc, ← HM.out]
              omega
        · go_wp2_with (first | (go_at_call 8; refine (HW.out _).mono ?_; rintro E wz ⟨rfl, hbz⟩) | fail)
          go_ret
          exact ⟨rfl, HD.out.dat.below.trans (hbz.mono HD.out.dat.below.size)⟩
      · have HBB := Lib.hid HD.out.dat.below
        clear HD
        go_wp2_with fail
        refine (HW.out _).mono ?_
        rintro E wz ⟨rfl, hbz⟩
        go_wp2_with fail
        go_ret
        exact ⟨rfl, HBB.out.trans (hbz.mono HBB.out.size)⟩
  · go_enter Try.func7, Try.ntmps7
    go_wp2_with (first | (go_at_call 8; refine (HW.out _).mono ?_; rintro E wz ⟨rfl, hb⟩))
    go_ret
    exact ⟨rfl, hb⟩
theorem bookLives_walk (w : World) (A : Option Addr) (n c : Nat) (h : ∃ rs, Rows (fun b => b < w.heap.size) w A n rs ∧ Sl A n c) :
    Calls Try.prog 7 #[.slice A n c] w fun E w' => E = .returned (.bool true) ∧ Below w.heap.size w w' :=
  let ⟨rs, h1, h2⟩ := h; bookLives_by works_any A n c rs w h1 h2
end Go.Proofs.Ytfegffdhlkhjbaa
