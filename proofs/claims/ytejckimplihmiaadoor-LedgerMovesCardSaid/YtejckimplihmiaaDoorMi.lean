/-
  What is proved: LedgerMoves' walk. Conditions as stated.
-/
import Derived.Test.YtejckimplihmiaaDoorMf
import Derived.Test.YtejckimplihmiaaDoorMh
namespace Go.Proofs.YtejckimplihmiaaDoor
open Go.RowKit
set_option maxRecDepth 100000

theorem num_same {xs : List It} {a : ByteArray} {z : Bool} (h : z = (numOf (valK xs a)).isSome) (hz : z = true) : numOf (valK xs a) = some (numV (valK xs a)) := by
  unfold numV
  cases e : numOf (valK xs a) with
  | none => rw [e] at h; rw [h] at hz; cases hz
  | some n => rfl
theorem num_nil {xs : List It} {a : ByteArray} {z : Bool} (h : z = (numOf (valK xs a)).isSome) (hz : z = false) : numOf (valK xs a) = none := by
  cases e : numOf (valK xs a) with
  | none => rfl
  | some n => rw [e] at h; rw [h] at hz; cases hz
theorem dec_nought : dec 0 = ⟨#[48]⟩ := by
  rw [dec, Lib.decDigits_one (by omega)]
  rfl
set_option maxHeartbeats 16000000 in
theorem mov_walk {w : World} (hv : Vars w) (A : Option Addr) (c0 : Nat) (os : List MOp) (a b : ByteArray) (am : Nat) (hA : Ops w A os) (hn : os.length ≤ 9223372036854775807) (ham : am < 18446744073709551616) :
    Calls Tryd.prog 7 #[.slice A os.length c0, .string a, .string b, .int .u64 (am : Int)] w fun E w' => E = .returned (.bool true) ∧ Below w.heap.size w w' := by
  have HW : Hid (∀ W, Below w.heap.size w W → Calls Tryd.prog 9 #[] W fun E w' => E = .returned (.bool true) ∧ Below W.heap.size W w') := Lib.hid fun W hb => works_any (hv.below hb)
  have HF : Hid (∀ W, Below w.heap.size w W → Calls Tryd.prog 8 #[.slice A os.length c0] W fun E w' => (∃ z, E = .returned (.bool z) ∧ (z = true → os.length ≤ 150)) ∧ Below W.heap.size W w') := Lib.hid fun W hb => few_big A c0 os W (hA.below hb)
  have P0 : Hid (Pre w (mvO a b am) (w.alloc (.cells #[.int .u8 5, .string a, .string ⟨#[]⟩, .string ⟨#[]⟩, .string b, .int .u64 (am : Int)] 41))) := Lib.hid (Pre.start w (mvO a b am))
  have HF1 : Hid (∀ W bb, W.heap[bb]? = some (.cells (opC (mvO a b am)).toArray 41 (0, 0)) → Calls Tryd.prog 8 #[.slice (some ⟨bb, 0, none⟩) 1 1] W fun E w' => (∃ z, E = .returned (.bool z)) ∧ Below W.heap.size W w') := Lib.hid fun W bb h => (few_any _ 1 [mvO a b am] W (Ops.one h) (by simp)).mono fun E w' h => ⟨let ⟨z, hz, _⟩ := h.1; ⟨z, hz⟩, h.2⟩
  have HNew : Hid (∀ W, Below w.heap.size w W → Calls Tryd.prog 12 #[] W fun E w' => E = .returned (.pointer (some ⟨W.heap.size, 0, none⟩)) ∧ Sys w' W.heap.size none 0 [] ∧ Below W.heap.size W w') := Lib.hid fun W hb => new_any (hv.below hb)
  have HOps : Hid (∀ j p, os[j]? = some p → ∃ b off, A = some ⟨b, off, none⟩ ∧ ∀ W, Below w.heap.size w W → W.rangeAt b (off + j * 6) (opC p)) := Lib.hid fun j p hp => by
    obtain ⟨b, off, h1, hl, hc⟩ := hA (by have := (List.getElem?_eq_some_iff.1 hp).1; omega)
    exact ⟨b, off, h1, fun W hb k v hv => (hb.cell (p := ⟨b, off + j * 6 + k, none⟩) hl).trans (hc j p hp k v hv)⟩
  have HI : Hid (∀ p : MOp, (Tryd.prog.info? 41).map (·.size) = some (opC p).length) := Lib.hid fun _ => Tryd.is41
  have HSame : Hid (∀ W A1 A2 c1 c2 (x y : List It), Its W A1 x → Its W A2 y → x.length ≤ 1000 → y.length ≤ 1000 → Calls Tryd.prog 17 #[.slice A1 x.length c1, .slice A2 y.length c2] W fun E w' => E = .returned (.bool (decide (x = y))) ∧ Below W.heap.size W w') := Lib.hid fun W A1 A2 c1 c2 x y h1 h2 h3 h4 => same_any A1 A2 c1 c2 x y W h1 h2 (by omega) (by omega)
  have HM : Hid (∀ W, Calls Tryd.prog 13 #[.agg #[.int .u8 5, .string a, .string ⟨#[]⟩, .string ⟨#[]⟩, .string b, .int .u64 (am : Int)]] W fun E w' => E = .returned (.bool (mayOp (mvO a b am))) ∧ Below W.heap.size W w') := Lib.hid fun W => may_any (mvO a b am) W
  obtain ⟨n, hnn⟩ : ∃ n, n = os.length := ⟨_, rfl⟩
  have HL := Lib.hid hnn
  rw [← hnn] at HF hn ⊢
  clear hv hA hnn
  go_enter Tryd.func7, Tryd.ntmps7
  go_wp2_with (go_at_call 8; refine (HF.out _ P0.out.bel).mono ?_)
  rintro E w1 ⟨⟨z, rfl, hz150⟩, b1⟩
  have P1 := Lib.hid (P0.out.next b1)
  clear P0 b1 HF
  cases z with
  | false =>
    clear HF1 HNew HOps HSame hz150 HM
    go_wp2_with (go_at_call 9; refine (HW.out _ P1.out.bel).mono ?_; rintro E w2 ⟨rfl, b2⟩)
    go_ret
    exact ⟨rfl, P1.out.bel.trans (b2.mono P1.out.bel.size)⟩
  | true =>
    have h150 := hz150 rfl
    clear hz150
    by_cases h100 : n ≤ 100
    · have h100a : ¬ ((n : Int) > 100) := by omega
      have h100b : ¬ (100 < (n : Int)) := by omega
      have PB : Hid (∀ W', Below (w1.alloc (.cells #[.int .u8 5, .string a, .string ⟨#[]⟩, .string ⟨#[]⟩, .string b, .int .u64 (am : Int)] 41)).heap.size (w1.alloc (.cells #[.int .u8 5, .string a, .string ⟨#[]⟩, .string ⟨#[]⟩, .string b, .int .u64 (am : Int)] 41)) W' → Pre w (mvO a b am) W') := Lib.hid fun W' hb => (P1.out.alloc _).next hb
      have HB1 : Hid ((w1.alloc (.cells #[.int .u8 5, .string a, .string ⟨#[]⟩, .string ⟨#[]⟩, .string b, .int .u64 (am : Int)] 41)).heap[w1.heap.size]? = some (.cells (opC (mvO a b am)).toArray 41 (0, 0))) := Lib.hid (heap_alloc_new w1 _)
      have k0 : w1.cell? ⟨w.heap.size, 0, none⟩ = some (.int .u8 5) := block_cell (C := opC (mvO a b am)) P1.out.box 0 _ rfl
      have k1 : w1.cell? ⟨w.heap.size, 1, none⟩ = some (.string a) := block_cell (C := opC (mvO a b am)) P1.out.box 1 _ rfl
      have k2 : w1.cell? ⟨w.heap.size, 2, none⟩ = some (.string ⟨#[]⟩) := block_cell (C := opC (mvO a b am)) P1.out.box 2 _ rfl
      have k3 : w1.cell? ⟨w.heap.size, 3, none⟩ = some (.string ⟨#[]⟩) := block_cell (C := opC (mvO a b am)) P1.out.box 3 _ rfl
      have k4 : w1.cell? ⟨w.heap.size, 4, none⟩ = some (.string b) := block_cell (C := opC (mvO a b am)) P1.out.box 4 _ rfl
      have k5 : w1.cell? ⟨w.heap.size, 5, none⟩ = some (.int .u64 (am : Int)) := block_cell (C := opC (mvO a b am)) P1.out.box 5 _ rfl
      go_wp2_with (go_at_call 8; refine (HF1.out _ _ HB1.out).mono ?_)
      rintro E w2 ⟨⟨z, rfl⟩, b2⟩
      have P2 := Lib.hid (PB.out _ b2)
      clear P1 PB HB1 b2 HF1 k0 k1 k2 k3 k4 k5
      cases z with
      | false =>
        clear HNew HOps HSame HM
        go_wp2_with (go_at_call 9; refine (HW.out _ P2.out.bel).mono ?_; rintro E w3 ⟨rfl, b3⟩)
        go_ret
        exact ⟨rfl, P2.out.bel.trans (b3.mono P2.out.bel.size)⟩
      | true =>
        have k0 : w2.cell? ⟨w.heap.size, 0, none⟩ = some (.int .u8 5) := block_cell (C := opC (mvO a b am)) P2.out.box 0 _ rfl
        have k1 : w2.cell? ⟨w.heap.size, 1, none⟩ = some (.string a) := block_cell (C := opC (mvO a b am)) P2.out.box 1 _ rfl
        have k2 : w2.cell? ⟨w.heap.size, 2, none⟩ = some (.string ⟨#[]⟩) := block_cell (C := opC (mvO a b am)) P2.out.box 2 _ rfl
        have k3 : w2.cell? ⟨w.heap.size, 3, none⟩ = some (.string ⟨#[]⟩) := block_cell (C := opC (mvO a b am)) P2.out.box 3 _ rfl
        have k4 : w2.cell? ⟨w.heap.size, 4, none⟩ = some (.string b) := block_cell (C := opC (mvO a b am)) P2.out.box 4 _ rfl
        have k5 : w2.cell? ⟨w.heap.size, 5, none⟩ = some (.int .u64 (am : Int)) := block_cell (C := opC (mvO a b am)) P2.out.box 5 _ rfl
        go_wp2_with (go_at_call 13; refine (HM.out _).mono ?_)
        rintro E wm ⟨rfl, bm⟩
        have Pm := Lib.hid (P2.out.next bm)
        obtain ⟨m, hm⟩ : ∃ m, m = mayOp (mvO a b am) := ⟨_, rfl⟩
        have HMay := Lib.hid hm
        rw [← hm]
        clear hm P2 bm HM k0 k1 k2 k3 k4 k5
        cases m with
        | false =>
          clear HNew HOps HSame
          go_wp2_with (go_at_call 9; refine (HW.out _ Pm.out.bel).mono ?_; rintro E w3 ⟨rfl, b3⟩)
          go_ret
          exact ⟨rfl, Pm.out.bel.trans (b3.mono Pm.out.bel.size)⟩
        | true =>
          go_wp2_with (go_at_call 12; refine (HNew.out _ Pm.out.bel).mono ?_)
          rintro E w3 ⟨rfl, hs3, b3⟩
          have K3 := Lib.hid (Pm.out.ke hs3 b3)
          obtain ⟨g, hg⟩ : ∃ g, g = wm.heap.size := ⟨_, rfl⟩
          rw [← hg] at K3 ⊢
          clear hg hs3 b3 Pm HNew
          go_wp2_with fail
          go_loopw [11] (fun v11 wr => ∃ (j : Nat) (r : Option Nat) (c : Nat) (xs : List It), j ≤ n ∧ v11 = .int .i64 (j : Int) ∧ Hid (Ke w g [(w.heap.size, Obj.cells (opC (mvO a b am)).toArray 41 (0, 0))] [] wr r c xs)) (fun v11 _ => n - (intOf v11).toNat)
          case atStart => exact ⟨0, none, 0, [], by omega, rfl, K3⟩
          case round =>
            clear K3
            obtain ⟨j, r, c, xs, hj, rfl, K⟩ := hrel
            by_cases hjj : j < n
            · obtain ⟨p, hp⟩ : ∃ p, os[j]? = some p := ⟨_, List.getElem?_eq_getElem (by rw [← HL.out]; exact hjj)⟩
              obtain ⟨b', off, rfl, hr⟩ := HOps.out j p hp
              have HR := Lib.hid (hr wr K.out.bel)
              have HP := Lib.hid (HI.out p)
              have HD := Lib.hid (K.out.do p)
              clear hr hp
              go_wp2_with (first
                | ((with_reducible refine wpList_load_midG ?_ 41 (.tmp 67) ?_ b' (off + j * 6) ?_ (opC p) _ ?_ Tryd.underlying41 ?_ ?_ ?_); rotate_left; (· rfl); (· rfl); (· exact HR.out); (· rfl); (· exact HP.out); rotate_left; (· rfl))
                | (go_at_call 15; refine HD.out.mono ?_))
              rintro E w4 ⟨rfl, r4, c4, h4⟩
              have K4 := Lib.hid h4
              clear h4 HD HR K
              go_wp2_with fail
              go_roundw
              case measure => simp [intOf] <;> omega
              case rel => exact ⟨j + 1, r4, c4, _, by omega, by go_num, K4⟩
            · obtain rfl : j = n := by omega
              have hlen : xs.length ≤ 64 := K.out.sys.len
              have HRise := Lib.hid K.out.sys.rise
              go_wp2_with (go_at_call 18; refine (list_any K.out.sys.led (by omega)).mono ?_)
              rintro E w4 ⟨r1, c1, rfl, hR1, hg1, b4⟩
              have K4 := Lib.hid (K.out.push hR1 hg1 b4)
              clear K hR1 hg1 b4 HOps
              go_wp2_with (go_at_call 20; refine (get_law K4.out.sys.led K4.out.sys.rise (by omega) a).mono ?_)
              rintro E w5 ⟨rfl, b5⟩
              have K5 := Lib.hid (K4.out.below b5)
              clear K4 b5
              go_wp2_with (go_at_call 20; refine (get_law K5.out.sys.led K5.out.sys.rise (by omega) b).mono ?_)
              rintro E w6 ⟨rfl, b6⟩
              have K6 := Lib.hid (K5.out.below b6)
              clear K5 b6
              go_wp2_with (go_at_call 22; refine (rnum_any (valK xs a) _ (Nat.le_trans (val_small K6.out.sys.small a) (by omega))).mono ?_)
              rintro E w7 ⟨x1, rfl, hx1, he1, b7⟩
              have K7 := Lib.hid (K6.out.below b7)
              have HX1 := Lib.hid hx1
              have HE1 := Lib.hid he1
              clear K6 b7 hx1 he1
              go_wp2_with (go_at_call 22; refine (rnum_any (valK xs b) _ (Nat.le_trans (val_small K7.out.sys.small b) (by omega))).mono ?_)
              rintro E w8 ⟨x2, rfl, hx2, he2, b8⟩
              have K8 := Lib.hid (K7.out.below b8)
              have HX2 := Lib.hid hx2
              have HE2 := Lib.hid he2
              clear K7 b8 hx2 he2
              have HD : Hid (Calls Tryd.prog 15 #[.pointer (some ⟨g, 0, none⟩), .agg #[.int .u8 5, .string a, .string ⟨#[]⟩, .string ⟨#[]⟩, .string b, .int .u64 (am : Int)]] w8 fun E w' => E = .returned (.agg (repC (doR xs (mvO a b am)).1).toArray) ∧ ∃ r' c', Ke w g [(w.heap.size, Obj.cells (opC (mvO a b am)).toArray 41 (0, 0))] [(r1, c1, xs)] w' r' c' (doR xs (mvO a b am)).2) := Lib.hid (K8.out.do (mvO a b am))
              have k0 : w8.cell? ⟨w.heap.size, 0, none⟩ = some (.int .u8 5) := block_cell (C := opC (mvO a b am)) (K8.out.keep (w.heap.size, Obj.cells (opC (mvO a b am)).toArray 41 (0, 0)) (by simp)).1 0 _ rfl
              have k1 : w8.cell? ⟨w.heap.size, 1, none⟩ = some (.string a) := block_cell (C := opC (mvO a b am)) (K8.out.keep (w.heap.size, Obj.cells (opC (mvO a b am)).toArray 41 (0, 0)) (by simp)).1 1 _ rfl
              have k2 : w8.cell? ⟨w.heap.size, 2, none⟩ = some (.string ⟨#[]⟩) := block_cell (C := opC (mvO a b am)) (K8.out.keep (w.heap.size, Obj.cells (opC (mvO a b am)).toArray 41 (0, 0)) (by simp)).1 2 _ rfl
              have k3 : w8.cell? ⟨w.heap.size, 3, none⟩ = some (.string ⟨#[]⟩) := block_cell (C := opC (mvO a b am)) (K8.out.keep (w.heap.size, Obj.cells (opC (mvO a b am)).toArray 41 (0, 0)) (by simp)).1 3 _ rfl
              have k4 : w8.cell? ⟨w.heap.size, 4, none⟩ = some (.string b) := block_cell (C := opC (mvO a b am)) (K8.out.keep (w.heap.size, Obj.cells (opC (mvO a b am)).toArray 41 (0, 0)) (by simp)).1 4 _ rfl
              have k5 : w8.cell? ⟨w.heap.size, 5, none⟩ = some (.int .u64 (am : Int)) := block_cell (C := opC (mvO a b am)) (K8.out.keep (w.heap.size, Obj.cells (opC (mvO a b am)).toArray 41 (0, 0)) (by simp)).1 5 _ rfl
              go_wp2_with (go_at_call 15; refine HD.out.mono ?_)
              rintro E w9 ⟨rfl, r6, c6, h6⟩
              obtain ⟨q, hq⟩ : ∃ q, q = (doR xs (mvO a b am)).1 := ⟨_, rfl⟩
              obtain ⟨ys, hys⟩ : ∃ ys, ys = (doR xs (mvO a b am)).2 := ⟨_, rfl⟩
              have HQ : Hid (doR xs (mvO a b am) = (q, ys)) := Lib.hid (by rw [hq, hys])
              rw [← hys] at h6
              rw [← hq, show (repC q).toArray = #[.int .i64 (q.1 : Int), .string q.2] from rfl]
              have K10 := Lib.hid (h6.box (.cells #[.int .i64 (q.1 : Int), .string q.2] 43))
              have hly : ys.length ≤ 64 := h6.sys.len
              obtain ⟨B, hB⟩ : ∃ B, B = w9.heap.size := ⟨_, rfl⟩
              rw [← hB] at K10
              clear h6 hq hys HD K8 k0 k1 k2 k3 k4 k5
              go_wp2_with (go_at_call 20; refine (get_law K10.out.sys.led K10.out.sys.rise (by omega) a).mono ?_)
              rintro E w11 ⟨rfl, b11⟩
              have K11 := Lib.hid (K10.out.below b11)
              rw [← hB]
              clear K10 b11 hB
              go_wp2_with (go_at_call 20; refine (get_law K11.out.sys.led K11.out.sys.rise (by omega) b).mono ?_)
              rintro E w12 ⟨rfl, b12⟩
              have K12 := Lib.hid (K11.out.below b12)
              clear K11 b12
              go_wp2_with (go_at_call 22; refine (rnum_any (valK ys a) _ (Nat.le_trans (val_small K12.out.sys.small a) (by omega))).mono ?_)
              rintro E w13 ⟨x3, rfl, hx3, he3, b13⟩
              have K13 := Lib.hid (K12.out.below b13)
              have HX3 := Lib.hid hx3
              have HE3 := Lib.hid he3
              clear K12 b13 hx3 he3
              go_wp2_with (go_at_call 22; refine (rnum_any (valK ys b) _ (Nat.le_trans (val_small K13.out.sys.small b) (by omega))).mono ?_)
              rintro E w14 ⟨x4, rfl, hx4, he4, b14⟩
              have K14 := Lib.hid (K13.out.below b14)
              have HX4 := Lib.hid hx4
              have HE4 := Lib.hid he4
              clear K13 b14 hx4 he4
              have HMay2 := Lib.hid (show mayOp (mvO a b am) = true from HMay.out.symm)
              have HQ2 : Hid (moveR xs (mvO a b am) = (q, ys)) := Lib.hid ((do_mv xs HMay2.out).symm.trans HQ.out)
              obtain ⟨z1, hz1⟩ : ∃ z, z = (numOf (valK xs a)).isSome := ⟨_, rfl⟩
              obtain ⟨z2, hz2⟩ : ∃ z, z = (numOf (valK xs b)).isSome := ⟨_, rfl⟩
              obtain ⟨ha, hha⟩ : ∃ z, z = hasK xs a := ⟨_, rfl⟩
              obtain ⟨hb, hhb⟩ : ∃ z, z = hasK xs b := ⟨_, rfl⟩
              have HZ1 := Lib.hid hz1
              have HZ2 := Lib.hid hz2
              have HA := Lib.hid hha
              have HB := Lib.hid hhb
              rw [← hz1] at HX1 ⊢
              rw [← hz2] at HX2 ⊢
              rw [← hha, ← hhb]
              clear hz1 hz2 hha hhb HQ
              cases ha with
              | false =>
                have hqy : (q, ys) = ((4, ⟨#[]⟩), xs) := HQ2.out.symm.trans (by rw [moveR, if_neg (show ¬ hasK xs (mvO a b am).key = true by show ¬ hasK xs a = true; rw [← HA.out]; simp)]; rfl)
                injection hqy with hq1 hq2
                have hq1' := hq1.symm
                have hq2' := hq2.symm
                clear hq1 hq2 HQ2
                subst hq1'
                subst hq2'
                have d0 : w14.cell? ⟨B, 0, none⟩ = some (.int .i64 4) := block_cell (C := [.int .i64 4, .string ⟨#[]⟩]) (K14.out.keep (B, Obj.cells #[.int .i64 4, .string ⟨#[]⟩] 43 (0, 0)) (by simp)).1 0 _ rfl
                have d1 : w14.cell? ⟨B, 1, none⟩ = some (.string ⟨#[]⟩) := block_cell (C := [.int .i64 4, .string ⟨#[]⟩]) (K14.out.keep (B, Obj.cells #[.int .i64 4, .string ⟨#[]⟩] 43 (0, 0)) (by simp)).1 1 _ rfl
                go_wp2_with (go_at_call 18; refine (list_any K14.out.sys.led (Nat.le_trans K14.out.sys.len (by omega))).mono ?_)
                rintro E w15 ⟨r9, c9, rfl, hR9, hg9, b9⟩
                have K15 := Lib.hid (K14.out.push hR9 hg9 b9)
                clear K14 hR9 hg9 b9
                go_wp2_with (go_at_call 17; refine (HSame.out _ (slA r1) (slA r9) c1 c9 xs xs (K15.out.row (r1, c1, xs) (by simp)).1.its (K15.out.row (r9, c9, xs) (by simp)).1.its (by omega) (by omega)).mono ?_)
                rintro E w16 rfl b16
                have K16 := Lib.hid (K15.out.below b16)
                clear K15 b16
                go_wp2_with (go_at_call 9; refine (HW.out _ K16.out.bel).mono ?_; rintro E wz ⟨rfl, bz⟩)
                go_ret
                exact ⟨rfl, K16.out.bel.trans (bz.mono K16.out.bel.size)⟩
              | true =>
                cases z1 with
                | false =>
                  have hqy : (q, ys) = ((5, ⟨#[]⟩), xs) := HQ2.out.symm.trans (by rw [moveR, if_pos (show hasK xs (mvO a b am).key = true from HA.out.symm), show numOf (valK xs (mvO a b am).key) = none from num_nil HZ1.out rfl]; rfl)
                  injection hqy with hq1 hq2
                  have hq1' := hq1.symm
                  have hq2' := hq2.symm
                  clear hq1 hq2 HQ2
                  subst hq1'
                  subst hq2'
                  have d0 : w14.cell? ⟨B, 0, none⟩ = some (.int .i64 5) := block_cell (C := [.int .i64 5, .string ⟨#[]⟩]) (K14.out.keep (B, Obj.cells #[.int .i64 5, .string ⟨#[]⟩] 43 (0, 0)) (by simp)).1 0 _ rfl
                  have d1 : w14.cell? ⟨B, 1, none⟩ = some (.string ⟨#[]⟩) := block_cell (C := [.int .i64 5, .string ⟨#[]⟩]) (K14.out.keep (B, Obj.cells #[.int .i64 5, .string ⟨#[]⟩] 43 (0, 0)) (by simp)).1 1 _ rfl
                  go_wp2_with (go_at_call 18; refine (list_any K14.out.sys.led (Nat.le_trans K14.out.sys.len (by omega))).mono ?_)
                  rintro E w15 ⟨r9, c9, rfl, hR9, hg9, b9⟩
                  have K15 := Lib.hid (K14.out.push hR9 hg9 b9)
                  clear K14 hR9 hg9 b9
                  go_wp2_with (go_at_call 17; refine (HSame.out _ (slA r1) (slA r9) c1 c9 xs xs (K15.out.row (r1, c1, xs) (by simp)).1.its (K15.out.row (r9, c9, xs) (by simp)).1.its (by omega) (by omega)).mono ?_)
                  rintro E w16 rfl b16
                  have K16 := Lib.hid (K15.out.below b16)
                  clear K15 b16
                  go_wp2_with (go_at_call 9; refine (HW.out _ K16.out.bel).mono ?_; rintro E wz ⟨rfl, bz⟩)
                  go_ret
                  exact ⟨rfl, K16.out.bel.trans (bz.mono K16.out.bel.size)⟩
                | true =>
                  cases hb with
                  | true =>
                    cases z2 with
                    | false =>
                      have hqy : (q, ys) = ((5, ⟨#[]⟩), xs) := HQ2.out.symm.trans (by rw [moveR, if_pos (show hasK xs (mvO a b am).key = true from HA.out.symm), show numOf (valK xs (mvO a b am).key) = some x1 from (by show numOf (valK xs a) = some x1; rw [HX1.out rfl]; exact num_same HZ1.out rfl), show numAt xs (mvO a b am).to = none from (by show numAt xs b = none; rw [numAt, if_pos HB.out.symm, num_nil HZ2.out rfl])]; rfl)
                      injection hqy with hq1 hq2
                      have hq1' := hq1.symm
                      have hq2' := hq2.symm
                      clear hq1 hq2 HQ2
                      subst hq1'
                      subst hq2'
                      have d0 : w14.cell? ⟨B, 0, none⟩ = some (.int .i64 5) := block_cell (C := [.int .i64 5, .string ⟨#[]⟩]) (K14.out.keep (B, Obj.cells #[.int .i64 5, .string ⟨#[]⟩] 43 (0, 0)) (by simp)).1 0 _ rfl
                      have d1 : w14.cell? ⟨B, 1, none⟩ = some (.string ⟨#[]⟩) := block_cell (C := [.int .i64 5, .string ⟨#[]⟩]) (K14.out.keep (B, Obj.cells #[.int .i64 5, .string ⟨#[]⟩] 43 (0, 0)) (by simp)).1 1 _ rfl
                      go_wp2_with (go_at_call 18; refine (list_any K14.out.sys.led (Nat.le_trans K14.out.sys.len (by omega))).mono ?_)
                      rintro E w15 ⟨r9, c9, rfl, hR9, hg9, b9⟩
                      have K15 := Lib.hid (K14.out.push hR9 hg9 b9)
                      clear K14 hR9 hg9 b9
                      go_wp2_with (go_at_call 17; refine (HSame.out _ (slA r1) (slA r9) c1 c9 xs xs (K15.out.row (r1, c1, xs) (by simp)).1.its (K15.out.row (r9, c9, xs) (by simp)).1.its (by omega) (by omega)).mono ?_)
                      rintro E w16 rfl b16
                      have K16 := Lib.hid (K15.out.below b16)
                      clear K15 b16
                      go_wp2_with (go_at_call 9; refine (HW.out _ K16.out.bel).mono ?_; rintro E wz ⟨rfl, bz⟩)
                      go_ret
                      exact ⟨rfl, K16.out.bel.trans (bz.mono K16.out.bel.size)⟩
                    | true =>
                      have h1 : numOf (valK xs a) = some x1 := by rw [HX1.out rfl]; exact num_same HZ1.out rfl
                      have hxt : x1 ≤ topN := (dec_of_num h1).2
                      have h2 : numOf (valK xs b) = some x2 := by rw [HX2.out rfl]; exact num_same HZ2.out rfl
                      have hxt2 : x2 ≤ topN := (dec_of_num h2).2
                      have hmt := (may_mv HMay2.out).2.2.2
                      have htv : topN = 1125899906842624 := rfl
                      by_cases hnA : am ≤ x1
                      · have hnI : (am : Int) ≤ (x1 : Int) := by omega
                        have hnI' : (x1 : Int) ≥ (am : Int) := by omega
                        have hwn : IntKind.u64.wrap ((x2 : Int) + (am : Int)) = ((x2 + am : Nat) : Int) := by rw [IntKind.wrap_u64]; omega
                        by_cases htop : x2 + am ≤ topN
                        · have htI : ((x2 + am : Nat) : Int) ≤ 1125899906842624 := by omega
                          obtain ⟨hK1, hK2, hne, hn1, hn2⟩ := may_mv HMay2.out
                          have hf : fullK xs b = false := full_has HB.out.symm
                          have hqy : (q, ys) = ((0, dec (x1 - am)), mvd xs a b x1 x2 am) := HQ2.out.symm.trans (mv_ok HA.out.symm h1 (by rw [numAt, if_pos HB.out.symm, h2]) hnA htop hf)
                          injection hqy with hq1 hq2
                          have hq1' := hq1.symm
                          have hq2' := hq2.symm
                          clear hq1 hq2 HQ2
                          subst hq1'
                          subst hq2'
                          obtain ⟨ma1, ma2⟩ := mvd_a HRise.out hne x1 x2 am
                          obtain ⟨mb1, mb2⟩ := mvd_b HRise.out a b x1 x2 am
                          have hx3 : x3 = x1 - am := by
                            have := HX3.out (by rw [ma2, num_dec (by omega)]; rfl)
                            rw [this, numV, ma2, num_dec (by omega)]; rfl
                          have hx4 : x4 = x2 + am := by
                            have := HX4.out (by rw [mb2, num_dec (by omega)]; rfl)
                            rw [this, numV, mb2, num_dec (by omega)]; rfl
                          rw [hx3, hx4, ma2, mb1, show (numOf (valK (mvd xs a b x1 x2 am) b)).isSome = true by rw [mb2, num_dec (by omega)]; rfl]
                          have hv1 : ((dec (x1 - am)).toList == (dec (x1 - am)).toList) = true := by simp
                          have hv2 : IntKind.u64.wrap ((x1 : Int) - (am : Int)) = ((x1 - am : Nat) : Int) := by rw [IntKind.wrap_u64]; omega
                          have d0 : w14.cell? ⟨B, 0, none⟩ = some (.int .i64 0) := block_cell (C := [.int .i64 0, .string (dec (x1 - am))]) (K14.out.keep (B, Obj.cells #[.int .i64 0, .string (dec (x1 - am))] 43 (0, 0)) (by simp)).1 0 _ rfl
                          have d1 : w14.cell? ⟨B, 1, none⟩ = some (.string (dec (x1 - am))) := block_cell (C := [.int .i64 0, .string (dec (x1 - am))]) (K14.out.keep (B, Obj.cells #[.int .i64 0, .string (dec (x1 - am))] 43 (0, 0)) (by simp)).1 1 _ rfl
                          have HD := Lib.hid (K14.out.do (mvO b a am))
                          have hbk : doR (mvd xs a b x1 x2 am) (mvO b a am) = ((0, dec x2), mvd (mvd xs a b x1 x2 am) b a (x2 + am) (x1 - am) am) := (do_mv _ (mv_may hK2 hK1 (fun e => hne e.symm) hn1 hn2)).trans (mv_back HRise.out hne hnA hxt htop)
                          rw [hbk] at HD
                          have HD2 : Hid (Calls Tryd.prog 15 #[.pointer (some ⟨g, 0, none⟩), .agg #[.int .u8 5, .string b, .string ⟨#[]⟩, .string ⟨#[]⟩, .string a, .int .u64 (am : Int)]] w14 _) := HD
                          have HK1 := Lib.hid hK1
                          have HK2 := Lib.hid hK2
                          have HNE := Lib.hid hne
                          have HXT := Lib.hid hxt
                          have H1 := Lib.hid h1
                          have HNA := Lib.hid hnA
                          have HMB := Lib.hid mb1
                          have H2 := Lib.hid h2
                          clear hbk HD hx3 hx4 ma1 ma2 mb1 mb2 HX3 HX4 HE3 HE4
                          go_wp2_with (go_at_call 15; refine HD2.out.mono ?_)
                          rintro E w15 ⟨rfl, r15, c15, h15⟩
                          have K15 := Lib.hid h15
                          clear h15 K14 HD2 d0 d1 hv2 hwn
                          have HZ := Lib.hid (back_there HRise.out HNE.out HNA.out HA.out.symm HB.out.symm H1.out H2.out)
                          rw [HZ.out] at K15
                          go_wp2_with (go_at_call 18; refine (list_any K15.out.sys.led (Nat.le_trans K15.out.sys.len (by omega))).mono ?_)
                          rintro E w16 ⟨r9, c9, rfl, hR9, hg9, b9⟩
                          have K16 := Lib.hid (K15.out.push hR9 hg9 b9)
                          clear K15 hR9 hg9 b9
                          go_wp2_with (go_at_call 17; refine (HSame.out _ (slA r1) (slA r9) c1 c9 xs xs (K16.out.row (r1, c1, xs) (by simp)).1.its (K16.out.row (r9, c9, xs) (by simp)).1.its (by omega) (by omega)).mono ?_)
                          rintro E w17 rfl b17
                          have K17 := Lib.hid (K16.out.below b17)
                          clear K16 b17
                          go_wp2_with (go_at_call 9; refine (HW.out _ K17.out.bel).mono ?_; rintro E wz ⟨rfl, bz⟩)
                          go_ret
                          exact ⟨rfl, K17.out.bel.trans (bz.mono K17.out.bel.size)⟩
                        · have htI : ¬ ((x2 + am : Nat) : Int) ≤ 1125899906842624 := by omega
                          have htJ : 1125899906842624 < ((x2 + am : Nat) : Int) := by omega
                          have htK : decide (((x2 + am : Nat) : Int) ≤ 1125899906842624) = false := decide_eq_false htI
                          have hqy : (q, ys) = ((6, ⟨#[]⟩), xs) := HQ2.out.symm.trans (by rw [moveR, if_pos (show hasK xs (mvO a b am).key = true from HA.out.symm), show numOf (valK xs (mvO a b am).key) = some x1 from h1, show numAt xs (mvO a b am).to = some x2 from (by show numAt xs b = _; rw [numAt, if_pos HB.out.symm, h2])]; exact (if_neg (show ¬ x1 < am by omega)).trans (if_pos (show topN < x2 + am by omega)))
                          injection hqy with hq1 hq2
                          have hq1' := hq1.symm
                          have hq2' := hq2.symm
                          clear hq1 hq2 HQ2
                          subst hq1'
                          subst hq2'
                          have d0 : w14.cell? ⟨B, 0, none⟩ = some (.int .i64 6) := block_cell (C := [.int .i64 6, .string ⟨#[]⟩]) (K14.out.keep (B, Obj.cells #[.int .i64 6, .string ⟨#[]⟩] 43 (0, 0)) (by simp)).1 0 _ rfl
                          have d1 : w14.cell? ⟨B, 1, none⟩ = some (.string ⟨#[]⟩) := block_cell (C := [.int .i64 6, .string ⟨#[]⟩]) (K14.out.keep (B, Obj.cells #[.int .i64 6, .string ⟨#[]⟩] 43 (0, 0)) (by simp)).1 1 _ rfl
                          go_wp2_with (go_at_call 18; refine (list_any K14.out.sys.led (Nat.le_trans K14.out.sys.len (by omega))).mono ?_)
                          rintro E w15 ⟨r9, c9, rfl, hR9, hg9, b9⟩
                          have K15 := Lib.hid (K14.out.push hR9 hg9 b9)
                          clear K14 hR9 hg9 b9
                          go_wp2_with (go_at_call 17; refine (HSame.out _ (slA r1) (slA r9) c1 c9 xs xs (K15.out.row (r1, c1, xs) (by simp)).1.its (K15.out.row (r9, c9, xs) (by simp)).1.its (by omega) (by omega)).mono ?_)
                          rintro E w16 rfl b16
                          have K16 := Lib.hid (K15.out.below b16)
                          clear K15 b16
                          go_wp2_with (go_at_call 9; refine (HW.out _ K16.out.bel).mono ?_; rintro E wz ⟨rfl, bz⟩)
                          go_ret
                          exact ⟨rfl, K16.out.bel.trans (bz.mono K16.out.bel.size)⟩
                      · have hnI : ¬ (am : Int) ≤ (x1 : Int) := by omega
                        have hnI' : ¬ (x1 : Int) ≥ (am : Int) := by omega
                        have hqy : (q, ys) = ((14, (valK xs a)), xs) := HQ2.out.symm.trans (by rw [moveR, if_pos (show hasK xs (mvO a b am).key = true from HA.out.symm), show numOf (valK xs (mvO a b am).key) = some x1 from h1, show numAt xs (mvO a b am).to = some x2 from (by show numAt xs b = _; rw [numAt, if_pos HB.out.symm, h2])]; exact if_pos (show x1 < am by omega))
                        injection hqy with hq1 hq2
                        have hq1' := hq1.symm
                        have hq2' := hq2.symm
                        clear hq1 hq2 HQ2
                        subst hq1'
                        subst hq2'
                        have d0 : w14.cell? ⟨B, 0, none⟩ = some (.int .i64 14) := block_cell (C := [.int .i64 14, .string (valK xs a)]) (K14.out.keep (B, Obj.cells #[.int .i64 14, .string (valK xs a)] 43 (0, 0)) (by simp)).1 0 _ rfl
                        have d1 : w14.cell? ⟨B, 1, none⟩ = some (.string (valK xs a)) := block_cell (C := [.int .i64 14, .string (valK xs a)]) (K14.out.keep (B, Obj.cells #[.int .i64 14, .string (valK xs a)] 43 (0, 0)) (by simp)).1 1 _ rfl
                        go_wp2_with (go_at_call 18; refine (list_any K14.out.sys.led (Nat.le_trans K14.out.sys.len (by omega))).mono ?_)
                        rintro E w15 ⟨r9, c9, rfl, hR9, hg9, b9⟩
                        have K15 := Lib.hid (K14.out.push hR9 hg9 b9)
                        clear K14 hR9 hg9 b9
                        go_wp2_with (go_at_call 17; refine (HSame.out _ (slA r1) (slA r9) c1 c9 xs xs (K15.out.row (r1, c1, xs) (by simp)).1.its (K15.out.row (r9, c9, xs) (by simp)).1.its (by omega) (by omega)).mono ?_)
                        rintro E w16 rfl b16
                        have K16 := Lib.hid (K15.out.below b16)
                        clear K15 b16
                        go_wp2_with (go_at_call 9; refine (HW.out _ K16.out.bel).mono ?_; rintro E wz ⟨rfl, bz⟩)
                        go_ret
                        exact ⟨rfl, K16.out.bel.trans (bz.mono K16.out.bel.size)⟩
                  | false =>
                    have h1 : numOf (valK xs a) = some x1 := by rw [HX1.out rfl]; exact num_same HZ1.out rfl
                    have hxt : x1 ≤ topN := (dec_of_num h1).2
                    obtain rfl : x2 = 0 := HE2.out (val_none HB.out.symm)
                    have hz : z2 = false := by rw [HZ2.out, val_none HB.out.symm, num_empty]; rfl
                    subst hz
                    have hmt := (may_mv HMay2.out).2.2.2
                    have htv : topN = 1125899906842624 := rfl
                    by_cases hnA : am ≤ x1
                    · have hnI : (am : Int) ≤ (x1 : Int) := by omega
                      have hnI' : (x1 : Int) ≥ (am : Int) := by omega
                      have hwn : IntKind.u64.wrap (am : Int) = (am : Int) := by rw [IntKind.wrap_u64]; omega
                      by_cases htop : 0 + am ≤ topN
                      · have htI : (am : Int) ≤ 1125899906842624 := by omega
                        by_cases h64 : xs.length < 64
                        · have h64I : (xs.length : Int) < 64 := by omega
                          obtain ⟨hK1, hK2, hne, hn1, hn2⟩ := may_mv HMay2.out
                          have hf : fullK xs b = false := by rw [fullK, ← HB.out]; simp; omega
                          have hqy : (q, ys) = ((0, dec (x1 - am)), mvd xs a b x1 0 am) := HQ2.out.symm.trans (mv_ok HA.out.symm h1 (by rw [numAt, ← HB.out]; rfl) hnA htop hf)
                          injection hqy with hq1 hq2
                          have hq1' := hq1.symm
                          have hq2' := hq2.symm
                          clear hq1 hq2 HQ2
                          subst hq1'
                          subst hq2'
                          obtain ⟨ma1, ma2⟩ := mvd_a HRise.out hne x1 0 am
                          obtain ⟨mb1, mb2⟩ := mvd_b HRise.out a b x1 0 am
                          have hx3 : x3 = x1 - am := by
                            have := HX3.out (by rw [ma2, num_dec (by omega)]; rfl)
                            rw [this, numV, ma2, num_dec (by omega)]; rfl
                          have hx4 : x4 = 0 + am := by
                            have := HX4.out (by rw [mb2, num_dec (by omega)]; rfl)
                            rw [this, numV, mb2, num_dec (by omega)]; rfl
                          rw [hx3, hx4, ma2, mb1, show (numOf (valK (mvd xs a b x1 0 am) b)).isSome = true by rw [mb2, num_dec (by omega)]; rfl]
                          have hv1 : ((dec (x1 - am)).toList == (dec (x1 - am)).toList) = true := by simp
                          have hv2 : IntKind.u64.wrap ((x1 : Int) - (am : Int)) = ((x1 - am : Nat) : Int) := by rw [IntKind.wrap_u64]; omega
                          have d0 : w14.cell? ⟨B, 0, none⟩ = some (.int .i64 0) := block_cell (C := [.int .i64 0, .string (dec (x1 - am))]) (K14.out.keep (B, Obj.cells #[.int .i64 0, .string (dec (x1 - am))] 43 (0, 0)) (by simp)).1 0 _ rfl
                          have d1 : w14.cell? ⟨B, 1, none⟩ = some (.string (dec (x1 - am))) := block_cell (C := [.int .i64 0, .string (dec (x1 - am))]) (K14.out.keep (B, Obj.cells #[.int .i64 0, .string (dec (x1 - am))] 43 (0, 0)) (by simp)).1 1 _ rfl
                          have HD := Lib.hid (K14.out.do (mvO b a am))
                          have hbk : doR (mvd xs a b x1 0 am) (mvO b a am) = ((0, dec 0), mvd (mvd xs a b x1 0 am) b a (0 + am) (x1 - am) am) := (do_mv _ (mv_may hK2 hK1 (fun e => hne e.symm) hn1 hn2)).trans (mv_back HRise.out hne hnA hxt htop)
                          rw [hbk] at HD
                          have HD2 : Hid (Calls Tryd.prog 15 #[.pointer (some ⟨g, 0, none⟩), .agg #[.int .u8 5, .string b, .string ⟨#[]⟩, .string ⟨#[]⟩, .string a, .int .u64 (am : Int)]] w14 _) := HD
                          have HK1 := Lib.hid hK1
                          have HK2 := Lib.hid hK2
                          have HNE := Lib.hid hne
                          have HXT := Lib.hid hxt
                          have H1 := Lib.hid h1
                          have HNA := Lib.hid hnA
                          have HMB := Lib.hid mb1
                          clear hbk HD hx3 hx4 ma1 ma2 mb1 mb2 HX3 HX4 HE3 HE4
                          go_wp2_with (go_at_call 15; refine HD2.out.mono ?_)
                          rintro E w15 ⟨rfl, r15, c15, h15⟩
                          have K15 := Lib.hid h15
                          clear h15 K14 HD2 d0 d1 hv2 hwn
                          obtain ⟨zs, hzs⟩ : ∃ zs, zs = mvd (mvd xs a b x1 0 am) b a (0 + am) (x1 - am) am := ⟨_, rfl⟩
                          have HZ : Hid (hasK zs b = true ∧ valK zs b = dec 0) := Lib.hid (by rw [hzs]; exact (back_facts HRise.out HNE.out HNA.out).2.1)
                          have HZ2 : Hid (delK zs b = xs) := Lib.hid (by rw [hzs]; exact back_new HRise.out HNE.out HNA.out HA.out.symm HB.out.symm H1.out)
                          have HZL := Lib.hid K15.out.sys.len
                          rw [← hzs] at K15 HZL
                          clear hzs
                          go_wp2_with (go_at_call 20; refine (get_law K15.out.sys.led K15.out.sys.rise (Nat.le_trans HZL.out (by omega)) b).mono ?_)
                          rintro E w16 ⟨rfl, b16⟩
                          have K16 := Lib.hid (K15.out.below b16)
                          clear K15 b16
                          rw [HZ.out.2, show dec 0 = ⟨#[48]⟩ from dec_nought]
                          have hv0 : ((⟨#[48]⟩ : ByteArray).toList == (⟨#[48]⟩ : ByteArray).toList) = true := by simp
                          have HD := Lib.hid (K16.out.do (dlO b))
                          rw [do_dl zs (dl_may HK2.out) HZ.out.1, HZ2.out] at HD
                          have HD2 : Hid (Calls Tryd.prog 15 #[.pointer (some ⟨g, 0, none⟩), .agg #[.int .u8 3, .string b, .string ⟨#[]⟩, .string ⟨#[]⟩, .string ⟨#[]⟩, .int .u64 0]] w16 _) := HD
                          clear HD
                          go_wp2_with (go_at_call 15; refine HD2.out.mono ?_)
                          rintro E w17 ⟨rfl, r17, c17, h17⟩
                          have K17 := Lib.hid h17
                          clear h17 K16 HD2
                          go_wp2_with (go_at_call 18; refine (list_any K17.out.sys.led (Nat.le_trans K17.out.sys.len (by omega))).mono ?_)
                          rintro E w18 ⟨r9, c9, rfl, hR9, hg9, b9⟩
                          have K18 := Lib.hid (K17.out.push hR9 hg9 b9)
                          clear K17 hR9 hg9 b9
                          go_wp2_with (go_at_call 17; refine (HSame.out _ (slA r1) (slA r9) c1 c9 xs xs (K18.out.row (r1, c1, xs) (by simp)).1.its (K18.out.row (r9, c9, xs) (by simp)).1.its (by omega) (by omega)).mono ?_)
                          rintro E w19 rfl b19
                          have K19 := Lib.hid (K18.out.below b19)
                          clear K18 b19
                          go_wp2_with (go_at_call 9; refine (HW.out _ K19.out.bel).mono ?_; rintro E wz ⟨rfl, bz⟩)
                          go_ret
                          exact ⟨rfl, K19.out.bel.trans (bz.mono K19.out.bel.size)⟩
                        · have h64I : ¬ (xs.length : Int) < 64 := by omega
                          have h64J : (64 : Int) ≤ (xs.length : Int) := by omega
                          have h64K : decide ((xs.length : Int) < 64) = false := decide_eq_false h64I
                          have hqy : (q, ys) = ((7, ⟨#[]⟩), xs) := HQ2.out.symm.trans (by rw [moveR, if_pos (show hasK xs (mvO a b am).key = true from HA.out.symm), show numOf (valK xs (mvO a b am).key) = some x1 from h1, show numAt xs (mvO a b am).to = some 0 from (by show numAt xs b = _; rw [numAt, ← HB.out]; rfl)]; exact (if_neg (show ¬ x1 < am by omega)).trans ((if_neg (show ¬ topN < 0 + am by omega)).trans (if_pos (show fullK xs b = true by rw [fullK, ← HB.out]; simp; omega))))
                          injection hqy with hq1 hq2
                          have hq1' := hq1.symm
                          have hq2' := hq2.symm
                          clear hq1 hq2 HQ2
                          subst hq1'
                          subst hq2'
                          have d0 : w14.cell? ⟨B, 0, none⟩ = some (.int .i64 7) := block_cell (C := [.int .i64 7, .string ⟨#[]⟩]) (K14.out.keep (B, Obj.cells #[.int .i64 7, .string ⟨#[]⟩] 43 (0, 0)) (by simp)).1 0 _ rfl
                          have d1 : w14.cell? ⟨B, 1, none⟩ = some (.string ⟨#[]⟩) := block_cell (C := [.int .i64 7, .string ⟨#[]⟩]) (K14.out.keep (B, Obj.cells #[.int .i64 7, .string ⟨#[]⟩] 43 (0, 0)) (by simp)).1 1 _ rfl
                          go_wp2_with (go_at_call 18; refine (list_any K14.out.sys.led (Nat.le_trans K14.out.sys.len (by omega))).mono ?_)
                          rintro E w15 ⟨r9, c9, rfl, hR9, hg9, b9⟩
                          have K15 := Lib.hid (K14.out.push hR9 hg9 b9)
                          clear K14 hR9 hg9 b9
                          go_wp2_with (go_at_call 17; refine (HSame.out _ (slA r1) (slA r9) c1 c9 xs xs (K15.out.row (r1, c1, xs) (by simp)).1.its (K15.out.row (r9, c9, xs) (by simp)).1.its (by omega) (by omega)).mono ?_)
                          rintro E w16 rfl b16
                          have K16 := Lib.hid (K15.out.below b16)
                          clear K15 b16
                          go_wp2_with (go_at_call 9; refine (HW.out _ K16.out.bel).mono ?_; rintro E wz ⟨rfl, bz⟩)
                          go_ret
                          exact ⟨rfl, K16.out.bel.trans (bz.mono K16.out.bel.size)⟩
                      · have htI : ¬ (am : Int) ≤ 1125899906842624 := by omega
                        have htJ : 1125899906842624 < (am : Int) := by omega
                        have htK : decide ((am : Int) ≤ 1125899906842624) = false := decide_eq_false htI
                        exact absurd hmt.2 (by omega)
                    · have hnI : ¬ (am : Int) ≤ (x1 : Int) := by omega
                      have hnI' : ¬ (x1 : Int) ≥ (am : Int) := by omega
                      have hqy : (q, ys) = ((14, (valK xs a)), xs) := HQ2.out.symm.trans (by rw [moveR, if_pos (show hasK xs (mvO a b am).key = true from HA.out.symm), show numOf (valK xs (mvO a b am).key) = some x1 from h1, show numAt xs (mvO a b am).to = some 0 from (by show numAt xs b = _; rw [numAt, ← HB.out]; rfl)]; exact if_pos (show x1 < am by omega))
                      injection hqy with hq1 hq2
                      have hq1' := hq1.symm
                      have hq2' := hq2.symm
                      clear hq1 hq2 HQ2
                      subst hq1'
                      subst hq2'
                      have d0 : w14.cell? ⟨B, 0, none⟩ = some (.int .i64 14) := block_cell (C := [.int .i64 14, .string (valK xs a)]) (K14.out.keep (B, Obj.cells #[.int .i64 14, .string (valK xs a)] 43 (0, 0)) (by simp)).1 0 _ rfl
                      have d1 : w14.cell? ⟨B, 1, none⟩ = some (.string (valK xs a)) := block_cell (C := [.int .i64 14, .string (valK xs a)]) (K14.out.keep (B, Obj.cells #[.int .i64 14, .string (valK xs a)] 43 (0, 0)) (by simp)).1 1 _ rfl
                      go_wp2_with (go_at_call 18; refine (list_any K14.out.sys.led (Nat.le_trans K14.out.sys.len (by omega))).mono ?_)
                      rintro E w15 ⟨r9, c9, rfl, hR9, hg9, b9⟩
                      have K15 := Lib.hid (K14.out.push hR9 hg9 b9)
                      clear K14 hR9 hg9 b9
                      go_wp2_with (go_at_call 17; refine (HSame.out _ (slA r1) (slA r9) c1 c9 xs xs (K15.out.row (r1, c1, xs) (by simp)).1.its (K15.out.row (r9, c9, xs) (by simp)).1.its (by omega) (by omega)).mono ?_)
                      rintro E w16 rfl b16
                      have K16 := Lib.hid (K15.out.below b16)
                      clear K15 b16
                      go_wp2_with (go_at_call 9; refine (HW.out _ K16.out.bel).mono ?_; rintro E wz ⟨rfl, bz⟩)
                      go_ret
                      exact ⟨rfl, K16.out.bel.trans (bz.mono K16.out.bel.size)⟩
    · have h100a : (n : Int) > 100 := by omega
      have h100b : (100 < (n : Int)) := by omega
      clear HNew HOps HSame HM
      go_wp2_with (go_at_call 9; refine (HW.out _ P1.out.bel).mono ?_; rintro E w3 ⟨rfl, b3⟩)
      go_ret
      exact ⟨rfl, P1.out.bel.trans (b3.mono P1.out.bel.size)⟩
end Go.Proofs.YtejckimplihmiaaDoor
