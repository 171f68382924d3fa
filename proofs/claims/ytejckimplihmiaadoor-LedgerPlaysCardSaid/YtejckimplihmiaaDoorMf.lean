/-
  What is proved: LedgerEffects' walk. Conditions as stated.
-/
import Derived.Test.YtejckimplihmiaaDoorMe
namespace Go.Proofs.YtejckimplihmiaaDoor
open Go.RowKit
set_option maxRecDepth 100000

theorem Ops.one {W : World} {o : MOp} {b : Nat} (h : W.heap[b]? = some (.cells (opC o).toArray 41 (0, 0))) : Ops W (some ⟨b, 0, none⟩) [o] := fun _ =>
  ⟨b, 0, rfl, (Array.getElem?_eq_some_iff.1 h).1, fun j p hp => by
    obtain ⟨rfl, rfl⟩ : j = 0 ∧ p = o := by
      cases j with
      | zero => exact ⟨rfl, by simpa using hp.symm⟩
      | succ j => simp at hp
    exact range_all h⟩
theorem few_big (A : Option Addr) (c : Nat) (os : List MOp) (w : World) (h : Ops w A os) :
    Calls Tryd.prog 8 #[.slice A os.length c] w fun E w' => (∃ z, E = .returned (.bool z) ∧ (z = true → os.length ≤ 150)) ∧ Below w.heap.size w w' := by
  by_cases h0 : os.length ≤ 140737488355328
  · exact few_any A c os w h h0
  · obtain ⟨n, hnn⟩ : ∃ n, n = os.length := ⟨_, rfl⟩
    rw [← hnn] at h0 ⊢
    have h1 : (n : Int) > 150 := by omega
    have h2 : (150 < (n : Int)) := by omega
    have HB0 := Lib.hid (Below.refl w.heap.size w)
    clear h hnn h0
    go_enter Tryd.func8, Tryd.ntmps8
    go_wp2_with fail
    go_ret
    exact ⟨⟨false, rfl, fun h => by cases h⟩, HB0.out⟩
/-- While the law has made nothing of its own yet but the operation's box. -/
structure Pre (w : World) (o : MOp) (W : World) : Prop where
  bel : Below w.heap.size w W
  box : W.heap[w.heap.size]? = some (.cells (opC o).toArray 41 (0, 0))
theorem Pre.start (w : World) (o : MOp) : Pre w o (w.alloc (.cells (opC o).toArray 41)) := ⟨(Below.refl _ _).alloc (Nat.le_refl _) _, heap_alloc_new w _⟩
theorem Pre.next {w : World} {o : MOp} {W W' : World} (H : Pre w o W) (hb : Below W.heap.size W W') : Pre w o W' :=
  ⟨H.bel.trans (hb.mono H.bel.size), (hb.block _ (Array.getElem?_eq_some_iff.1 H.box).1).trans H.box⟩
theorem Pre.alloc {w : World} {o : MOp} {W : World} (H : Pre w o W) (ob : Obj) : Pre w o (W.alloc ob) := H.next ((Below.refl _ _).alloc (Nat.le_refl _) _)
theorem Pre.ke {w : World} {o : MOp} {W W' : World} (H : Pre w o W) (hs : Sys W' W.heap.size none 0 []) (hb : Below W.heap.size W W') : Ke w W.heap.size [(w.heap.size, .cells (opC o).toArray 41 (0, 0))] [] W' none 0 [] := by
  have hl := (Array.getElem?_eq_some_iff.1 H.box).1
  refine ⟨hs, H.bel.trans (hb.mono H.bel.size), ?_, fun p hp => ?_, fun q hq => by cases hq⟩
  · rintro k (rfl | hk)
    · exact H.bel.size
    · cases hk
  · obtain rfl : p = (w.heap.size, .cells (opC o).toArray 41 (0, 0)) := by simpa using hp
    refine ⟨(hb.block _ hl).trans H.box, ?_⟩
    rintro (e | e)
    · have : w.heap.size = W.heap.size := e
      omega
    · cases e
set_option maxHeartbeats 8000000 in
theorem eff_walk {w : World} (hv : Vars w) (A : Option Addr) (c0 : Nat) (os : List MOp) (o : MOp) (hA : Ops w A os) (hn : os.length ≤ 9223372036854775807) :
    Calls Tryd.prog 6 #[.slice A os.length c0, .agg (opC o).toArray] w fun E w' => E = .returned (.bool true) ∧ Below w.heap.size w w' := by
  have HW : Hid (∀ W, Below w.heap.size w W → Calls Tryd.prog 9 #[] W fun E w' => E = .returned (.bool true) ∧ Below W.heap.size W w') := Lib.hid fun W hb => works_any (hv.below hb)
  have HF : Hid (∀ W, Below w.heap.size w W → Calls Tryd.prog 8 #[.slice A os.length c0] W fun E w' => (∃ z, E = .returned (.bool z) ∧ (z = true → os.length ≤ 150)) ∧ Below W.heap.size W w') := Lib.hid fun W hb => few_big A c0 os W (hA.below hb)
  have HF1 : Hid (∀ W b, W.heap[b]? = some (.cells (opC o).toArray 41 (0, 0)) → Calls Tryd.prog 8 #[.slice (some ⟨b, 0, none⟩) 1 1] W fun E w' => (∃ z, E = .returned (.bool z)) ∧ Below W.heap.size W w') := Lib.hid fun W b h => (few_any _ 1 [o] W (Ops.one h) (by simp)).mono fun E w' h => ⟨let ⟨z, hz, _⟩ := h.1; ⟨z, hz⟩, h.2⟩
  have HNew : Hid (∀ W, Below w.heap.size w W → Calls Tryd.prog 12 #[] W fun E w' => E = .returned (.pointer (some ⟨W.heap.size, 0, none⟩)) ∧ Sys w' W.heap.size none 0 [] ∧ Below W.heap.size W w') := Lib.hid fun W hb => new_any (hv.below hb)
  have HOps : Hid (∀ j p, os[j]? = some p → ∃ b off, A = some ⟨b, off, none⟩ ∧ ∀ W, Below w.heap.size w W → W.rangeAt b (off + j * 6) (opC p)) := Lib.hid fun j p hp => by
    obtain ⟨b, off, h1, hl, hc⟩ := hA (by have := (List.getElem?_eq_some_iff.1 hp).1; omega)
    exact ⟨b, off, h1, fun W hb k v hv => (hb.cell (p := ⟨b, off + j * 6 + k, none⟩) hl).trans (hc j p hp k v hv)⟩
  have HI : Hid (∀ p : MOp, (Tryd.prog.info? 41).map (·.size) = some (opC p).length) := Lib.hid fun _ => Tryd.is41
  have HIo : Hid ((Tryd.prog.info? 41).map (·.size) = some (opC o).length) := Lib.hid Tryd.is41
  have P0 := Lib.hid (Pre.start w o)
  have HSame : Hid (∀ W A1 A2 c1 c2 (x y : List It), Its W A1 x → Its W A2 y → x.length ≤ 1000 → y.length ≤ 1000 → Calls Tryd.prog 17 #[.slice A1 x.length c1, .slice A2 y.length c2] W fun E w' => E = .returned (.bool (decide (x = y))) ∧ Below W.heap.size W w') := Lib.hid fun W A1 A2 c1 c2 x y h1 h2 h3 h4 => same_any A1 A2 c1 c2 x y W h1 h2 (by omega) (by omega)
  obtain ⟨n, hnn⟩ : ∃ n, n = os.length := ⟨_, rfl⟩
  have HL := Lib.hid hnn
  rw [← hnn] at HF hn ⊢
  clear hv hA hnn
  have hol : (opC o).length = 6 := rfl
  have p1 : (opC o)[1]? = some (.string o.key) := rfl
  have p2 : (opC o)[2]? = some (.string o.value) := rfl
  have p3 : (opC o)[3]? = some (.string o.old) := rfl
  have p4 : (opC o)[4]? = some (.string o.to) := rfl
  go_enter Tryd.func6, Tryd.ntmps6
  go_wp2_with (go_at_call 8; refine (HF.out _ P0.out.bel).mono ?_)
  rintro E w1 ⟨⟨z, rfl, hz150⟩, b1⟩
  have P1 := Lib.hid (P0.out.next b1)
  clear P0 b1
  cases z with
  | false =>
    clear HF HF1 HNew HOps HSame hz150
    go_wp2_with (go_at_call 9; refine (HW.out _ P1.out.bel).mono ?_; rintro E w2 ⟨rfl, b2⟩)
    go_ret
    exact ⟨rfl, P1.out.bel.trans (b2.mono P1.out.bel.size)⟩
  | true =>
    have h150 := hz150 rfl
    clear hz150 HF
    have PB : Hid (∀ W', Below (w1.alloc (.cells (opC o).toArray 41)).heap.size (w1.alloc (.cells (opC o).toArray 41)) W' → Pre w o W') := Lib.hid fun W' hb => (P1.out.alloc _).next hb
    have HB1 : Hid ((w1.alloc (.cells (opC o).toArray 41)).heap[w1.heap.size]? = some (.cells (opC o).toArray 41 (0, 0))) := Lib.hid (heap_alloc_new w1 _)
    go_wp2_with (first
      | ((with_reducible refine wpList_load_midG ?_ 41 (.tmp 3) ?_ w.heap.size 0 ?_ (opC o) _ ?_ Tryd.underlying41 ?_ ?_ ?_); rotate_left; (· rfl); (· rfl); (· exact range_all P1.out.box); (· rfl); (· exact HIo.out); rotate_left; (· rfl))
      | (go_at_call 8; refine (HF1.out _ _ HB1.out).mono ?_))
    rintro E w2 ⟨⟨z, rfl⟩, b2⟩
    have P2 := Lib.hid (PB.out _ b2)
    clear P1 PB HB1 b2 HF1
    cases z with
    | false =>
      clear HNew HOps HSame
      go_wp2_with (go_at_call 9; refine (HW.out _ P2.out.bel).mono ?_; rintro E w3 ⟨rfl, b3⟩)
      go_ret
      exact ⟨rfl, P2.out.bel.trans (b3.mono P2.out.bel.size)⟩
    | true =>
      by_cases h100 : n ≤ 100
      · have h100a : ¬ ((n : Int) > 100) := by omega
        have h100b : ¬ (100 < (n : Int)) := by omega
        go_wp2_with (go_at_call 12; refine (HNew.out _ P2.out.bel).mono ?_)
        rintro E w3 ⟨rfl, hs3, b3⟩
        have K3 := Lib.hid (P2.out.ke hs3 b3)
        obtain ⟨g, hg⟩ : ∃ g, g = w2.heap.size := ⟨_, rfl⟩
        rw [← hg] at K3 ⊢
        clear hg hs3 b3 P2 HNew
        go_wp2_with fail
        go_loopw [6] (fun v6 wr => ∃ (j : Nat) (r : Option Nat) (c : Nat) (xs : List It), j ≤ n ∧ v6 = .int .i64 (j : Int) ∧ Hid (Ke w g [(w.heap.size, Obj.cells (opC o).toArray 41 (0, 0))] [] wr r c xs)) (fun v6 _ => n - (intOf v6).toNat)
        case atStart => exact ⟨0, none, 0, [], by omega, rfl, K3⟩
        case round =>
          clear K3
          obtain ⟨j, r, c, xs, hj, rfl, K⟩ := hrel
          by_cases hjj : j < n
          · obtain ⟨p, hp⟩ : ∃ p, os[j]? = some p := ⟨_, List.getElem?_eq_getElem (by rw [← HL.out]; exact hjj)⟩
            obtain ⟨b, off, rfl, hr⟩ := HOps.out j p hp
            have HR := Lib.hid (hr wr K.out.bel)
            have HP := Lib.hid (HI.out p)
            have HD := Lib.hid (K.out.do p)
            clear hr hp
            go_wp2_with (first
              | ((with_reducible refine wpList_load_midG ?_ 41 (.tmp 40) ?_ b (off + j * 6) ?_ (opC p) _ ?_ Tryd.underlying41 ?_ ?_ ?_); rotate_left; (· rfl); (· rfl); (· exact HR.out); (· rfl); (· exact HP.out); rotate_left; (· rfl))
              | (go_at_call 15; refine HD.out.mono ?_))
            rintro E w4 ⟨rfl, r4, c4, h4⟩
            have K4 := Lib.hid h4
            clear h4 HD HR K
            go_wp2_with fail
            go_roundw
            case measure => simp [intOf] <;> omega
            case rel => exact ⟨j + 1, r4, c4, _, by omega, by go_num, K4⟩
          · obtain rfl : j = n := by omega
            have hlen : xs.length ≤ 64 := K.out.sys.len
            go_wp2_with (go_at_call 18; refine (list_any K.out.sys.led (by omega)).mono ?_)
            rintro E w4 ⟨r1, c1, rfl, hR1, hg1, b4⟩
            have K4 := Lib.hid (K.out.push hR1 hg1 b4)
            clear K hR1 hg1 b4 HOps
            have k4 : w4.cell? ⟨w.heap.size, 1, none⟩ = some (.string o.key) := block_cell ((K4.out.keep (w.heap.size, Obj.cells (opC o).toArray 41 (0, 0)) (by simp)).1) 1 _ rfl
            go_wp2_with (go_at_call 20; refine (get_law K4.out.sys.led K4.out.sys.rise (by omega) o.key).mono ?_)
            rintro E w5 ⟨rfl, b5⟩
            have K5 := Lib.hid (K4.out.below b5)
            clear K4 b5 k4
            have HD := Lib.hid (K5.out.do o)
            go_wp2_with (first | ((with_reducible refine wpList_load_midG ?_ 41 (.tmp 3) ?_ w.heap.size 0 ?_ (opC o) _ ?_ Tryd.underlying41 ?_ ?_ ?_); rotate_left; (· rfl); (· rfl); (· exact range_all ((K5.out.keep (w.heap.size, Obj.cells (opC o).toArray 41 (0, 0)) (by simp)).1)); (· rfl); (· exact HIo.out); rotate_left; (· rfl)) | (go_at_call 15; refine HD.out.mono ?_))
            rintro E w6 ⟨rfl, r6, c6, h6⟩
            obtain ⟨q, hq⟩ : ∃ q, q = (doR xs o).1 := ⟨_, rfl⟩
            obtain ⟨ys, hys⟩ : ∃ ys, ys = (doR xs o).2 := ⟨_, rfl⟩
            have HQ : Hid (doR xs o = (q, ys)) := Lib.hid (by rw [hq, hys])
            have HR : Hid (rest ys o.key o.to = rest xs o.key o.to) := Lib.hid (by rw [hys]; exact rest_do xs o)
            have HRise := Lib.hid K5.out.sys.rise
            rw [← hys] at h6
            rw [← hq, show (repC q).toArray = #[.int .i64 (q.1 : Int), .string q.2] from rfl]
            have K6 := Lib.hid (h6.box (.cells #[.int .i64 (q.1 : Int), .string q.2] 43))
            have HLt := Lib.hid (h6.sys.len)
            clear h6 hq hys HD K5
            have hly : ys.length ≤ 64 := HLt.out
            go_wp2_with (go_at_call 18; refine (list_any K6.out.sys.led (by omega)).mono ?_)
            rintro E w7 ⟨r7, c7, rfl, hR7, hg7, b7⟩
            have K7 := Lib.hid (K6.out.push hR7 hg7 b7)
            obtain ⟨B, hB⟩ : ∃ B, B = w6.heap.size := ⟨_, rfl⟩
            rw [← hB] at K7 ⊢
            clear K6 hR7 hg7 b7 hB
            have k7 : w7.cell? ⟨w.heap.size, 1, none⟩ = some (.string o.key) := block_cell ((K7.out.keep (w.heap.size, Obj.cells (opC o).toArray 41 (0, 0)) (by simp)).1) 1 _ rfl
            go_wp2_with (go_at_call 20; refine (get_law K7.out.sys.led K7.out.sys.rise (by omega) o.key).mono ?_)
            rintro E w8 ⟨rfl, b8⟩
            have K8 := Lib.hid (K7.out.below b8)
            clear K7 b8 k7
            obtain ⟨A1, hA1⟩ : ∃ A, A = slA r1 := ⟨_, rfl⟩
            obtain ⟨A7, hA7⟩ : ∃ A, A = slA r7 := ⟨_, rfl⟩
            have HI1 : Hid (∀ W, Below w8.heap.size w8 W → Its W A1 xs) := Lib.hid fun W hb => by rw [hA1]; exact ((K8.out.row (r1, c1, xs) (by simp)).1.its).below hb
            have HI7 : Hid (∀ W, Below w8.heap.size w8 W → Its W A7 ys) := Lib.hid fun W hb => by rw [hA7]; exact ((K8.out.row (r7, c7, ys) (by simp)).1.its).below hb
            rw [← hA1, ← hA7]
            clear hA1 hA7
            have HB8 := Lib.hid (Below.refl w8.heap.size w8)
            go_wp2_with fail
            refine wp_region_any (by kernel_rfl) ?_
            refine held_gen (G := fun W => wpAny _ _ _ _ _ _ _ W) (fun W => Ke w g [(B, Obj.cells #[.int .i64 (q.1 : Int), .string q.2] 43 (0, 0)), (w.heap.size, Obj.cells (opC o).toArray 41 (0, 0))] [(r7, c7, ys), (r1, c1, xs)] W r6 c6 ys ∧ Below w8.heap.size w8 W) ⟨K8.out.drewN 1, below_drewN HB8.out 1⟩ (fun W9 hW9 => ?_)
            have K9 := Lib.hid hW9.1
            have B9 := Lib.hid hW9.2
            clear hW9 K8 HB8
            refine wpAny_of_held (S := fun W => W.heap[w.heap.size]? = some (.cells (opC o).toArray 41 (0, 0))) _ _ _ _ ?_
            refine wpAnyH_take (i := 0) (oi := { dst := some 64, op := Op.move (Operand.tmp 7), type := 22, pos := "more.go:46", after := #[], guard := none }) (v := .slice A1 xs.length c1) rfl (by kernel_rfl) (by kernel_rfl) (by kernel_rfl) (fun _ _ _ h => h) (Or.inl ⟨by kernel_rfl, fun W hSW => by go_simp⟩) ((K9.out.keep (w.heap.size, Obj.cells (opC o).toArray 41 (0, 0)) (by simp)).1) ?_
            try simp only [Act.put, List.setIfInBounds_toArray, List.set_cons_zero, List.set_cons_succ]
            refine wpAnyH_take (i := 1) (oi := { dst := some 65, op := Op.fieldAddr 41 (Operand.tmp 3) 1, type := 0, pos := "more.go:46", after := #[], guard := none }) (v := .pointer (some ⟨w.heap.size, 1, none⟩)) rfl (by kernel_rfl) (by kernel_rfl) (by kernel_rfl) (fun _ _ _ h => h) (Or.inl ⟨by kernel_rfl, fun W hSW => by go_simp⟩) ((K9.out.keep (w.heap.size, Obj.cells (opC o).toArray 41 (0, 0)) (by simp)).1) ?_
            try simp only [Act.put, List.setIfInBounds_toArray, List.set_cons_zero, List.set_cons_succ]
            refine wpAnyH_take (i := 2) (oi := { dst := some 66, op := Op.load 9 (Operand.tmp 65), type := 9, pos := "more.go:46", after := #[{ on := 1, ground := Ground.data }], guard := none }) (v := .string o.key) rfl (by kernel_rfl) (by kernel_rfl) (by kernel_rfl) (fun _ _ _ h => h) (Or.inl ⟨by kernel_rfl, fun W hSW => by have hc := block_cell (k := 1) hSW _ rfl; go_simp⟩) ((K9.out.keep (w.heap.size, Obj.cells (opC o).toArray 41 (0, 0)) (by simp)).1) ?_
            try simp only [Act.put, List.setIfInBounds_toArray, List.set_cons_zero, List.set_cons_succ]
            refine wpAnyH_take (i := 3) (oi := { dst := some 67, op := Op.fieldAddr 41 (Operand.tmp 3) 4, type := 0, pos := "more.go:46", after := #[], guard := none }) (v := .pointer (some ⟨w.heap.size, 4, none⟩)) rfl (by kernel_rfl) (by kernel_rfl) (by kernel_rfl) (fun _ _ _ h => h) (Or.inl ⟨by kernel_rfl, fun W hSW => by go_simp⟩) ((K9.out.keep (w.heap.size, Obj.cells (opC o).toArray 41 (0, 0)) (by simp)).1) ?_
            try simp only [Act.put, List.setIfInBounds_toArray, List.set_cons_zero, List.set_cons_succ]
            refine wpAnyH_take (i := 4) (oi := { dst := some 68, op := Op.load 9 (Operand.tmp 67), type := 9, pos := "more.go:46", after := #[{ on := 3, ground := Ground.data }], guard := none }) (v := .string o.to) rfl (by kernel_rfl) (by kernel_rfl) (by kernel_rfl) (fun _ _ _ h => h) (Or.inl ⟨by kernel_rfl, fun W hSW => by have hc := block_cell (k := 4) hSW _ rfl; go_simp⟩) ((K9.out.keep (w.heap.size, Obj.cells (opC o).toArray 41 (0, 0)) (by simp)).1) ?_
            try simp only [Act.put, List.setIfInBounds_toArray, List.set_cons_zero, List.set_cons_succ]
            refine wpAnyH_take (i := 6) (oi := { dst := some 70, op := Op.move (Operand.tmp 11), type := 22, pos := "more.go:46", after := #[], guard := none }) (v := .slice A7 ys.length c7) rfl (by kernel_rfl) (by kernel_rfl) (by kernel_rfl) (fun _ _ _ h => h) (Or.inl ⟨by kernel_rfl, fun W hSW => by go_simp⟩) ((K9.out.keep (w.heap.size, Obj.cells (opC o).toArray 41 (0, 0)) (by simp)).1) ?_
            try simp only [Act.put, List.setIfInBounds_toArray, List.set_cons_zero, List.set_cons_succ]
            refine wpAnyH_take (i := 7) (oi := { dst := some 71, op := Op.fieldAddr 41 (Operand.tmp 3) 1, type := 0, pos := "more.go:46", after := #[], guard := none }) (v := .pointer (some ⟨w.heap.size, 1, none⟩)) rfl (by kernel_rfl) (by kernel_rfl) (by kernel_rfl) (fun _ _ _ h => h) (Or.inl ⟨by kernel_rfl, fun W hSW => by go_simp⟩) ((K9.out.keep (w.heap.size, Obj.cells (opC o).toArray 41 (0, 0)) (by simp)).1) ?_
            try simp only [Act.put, List.setIfInBounds_toArray, List.set_cons_zero, List.set_cons_succ]
            refine wpAnyH_take (i := 8) (oi := { dst := some 72, op := Op.load 9 (Operand.tmp 71), type := 9, pos := "more.go:46", after := #[{ on := 7, ground := Ground.data }], guard := none }) (v := .string o.key) rfl (by kernel_rfl) (by kernel_rfl) (by kernel_rfl) (fun _ _ _ h => h) (Or.inl ⟨by kernel_rfl, fun W hSW => by have hc := block_cell (k := 1) hSW _ rfl; go_simp⟩) ((K9.out.keep (w.heap.size, Obj.cells (opC o).toArray 41 (0, 0)) (by simp)).1) ?_
            try simp only [Act.put, List.setIfInBounds_toArray, List.set_cons_zero, List.set_cons_succ]
            refine wpAnyH_take (i := 9) (oi := { dst := some 73, op := Op.fieldAddr 41 (Operand.tmp 3) 4, type := 0, pos := "more.go:46", after := #[], guard := none }) (v := .pointer (some ⟨w.heap.size, 4, none⟩)) rfl (by kernel_rfl) (by kernel_rfl) (by kernel_rfl) (fun _ _ _ h => h) (Or.inl ⟨by kernel_rfl, fun W hSW => by go_simp⟩) ((K9.out.keep (w.heap.size, Obj.cells (opC o).toArray 41 (0, 0)) (by simp)).1) ?_
            try simp only [Act.put, List.setIfInBounds_toArray, List.set_cons_zero, List.set_cons_succ]
            refine wpAnyH_take (i := 10) (oi := { dst := some 74, op := Op.load 9 (Operand.tmp 73), type := 9, pos := "more.go:46", after := #[{ on := 9, ground := Ground.data }], guard := none }) (v := .string o.to) rfl (by kernel_rfl) (by kernel_rfl) (by kernel_rfl) (fun _ _ _ h => h) (Or.inl ⟨by kernel_rfl, fun W hSW => by have hc := block_cell (k := 4) hSW _ rfl; go_simp⟩) ((K9.out.keep (w.heap.size, Obj.cells (opC o).toArray 41 (0, 0)) (by simp)).1) ?_
            try simp only [Act.put, List.setIfInBounds_toArray, List.set_cons_zero, List.set_cons_succ]
            refine wpAnyH_ready (rs := [5]) (by kernel_rfl) (by simp) ?_
            refine AllReadyH.cons (o := { dst := some 69, op := Op.call { callee := Callee.value (Operand.func 21), args := #[Operand.tmp 64, Operand.tmp 66, Operand.tmp 68], argTypes := #[22, 9, 9] }, type := 22, pos := "more.go:46", after := #[{ on := 0, ground := Ground.data }, { on := 2, ground := Ground.data }, { on := 4, ground := Ground.data }], guard := none }) rfl (fun K' hK' => ?_) AllReadyH.nil
            go_simp
            go_at_call 21
            refine (others_any A1 c1 xs o.key o.to _ (HI1.out _ B9.out) (by omega)).mono ?_
            rintro E w10 ⟨r10, c10, rfl, hR10, hg10, b10⟩
            have K10 := Lib.hid (K9.out.push hR10 hg10 b10)
            have B10 := Lib.hid (B9.out.trans (b10.mono B9.out.size))
            clear hR10 hg10 b10 K9 B9
            refine hK'.out _ _ (K10.out.keep (w.heap.size, Obj.cells (opC o).toArray 41 (0, 0)) (by simp)).1 (fun _ => ?_)
            clear hK' K'
            try simp only [Act.put, List.setIfInBounds_toArray, List.set_cons_zero, List.set_cons_succ]
            refine wpAnyH_ready (rs := [11]) (by kernel_rfl) (by simp) ?_
            refine AllReadyH.cons (o := { dst := some 75, op := Op.call { callee := Callee.value (Operand.func 21), args := #[Operand.tmp 70, Operand.tmp 72, Operand.tmp 74], argTypes := #[22, 9, 9] }, type := 22, pos := "more.go:46", after := #[{ on := 6, ground := Ground.data }, { on := 8, ground := Ground.data }, { on := 10, ground := Ground.data }, { on := 5, ground := Ground.chain }], guard := none }) rfl (fun K' hK' => ?_) AllReadyH.nil
            go_simp
            go_at_call 21
            refine (others_any A7 c7 ys o.key o.to _ (HI7.out _ B10.out) (by omega)).mono ?_
            rintro E w11 ⟨r11, c11, rfl, hR11, hg11, b11⟩
            have K11 := Lib.hid (K10.out.push hR11 hg11 b11)
            have B11 := Lib.hid (B10.out.trans (b11.mono B10.out.size))
            clear hR11 hg11 b11 K10 B10
            refine hK'.out _ _ (K11.out.keep (w.heap.size, Obj.cells (opC o).toArray 41 (0, 0)) (by simp)).1 (fun _ => ?_)
            clear hK' K'
            try simp only [Act.put, List.setIfInBounds_toArray, List.set_cons_zero, List.set_cons_succ]
            refine wpAnyH_ready (rs := [12]) (by kernel_rfl) (by simp) ?_
            refine AllReadyH.cons (o := { dst := some 76, op := Op.call { callee := Callee.value (Operand.func 17), args := #[Operand.tmp 69, Operand.tmp 75], argTypes := #[22, 22] }, type := 4, pos := "more.go:46", after := #[{ on := 5, ground := Ground.data }, { on := 11, ground := Ground.data }, { on := 11, ground := Ground.chain }], guard := none }) rfl (fun K' hK' => ?_) AllReadyH.nil
            go_simp
            go_at_call 17
            refine (HSame.out _ (slA r10) (slA r11) c10 c11 _ _ (K11.out.row (r10, c10, rest xs o.key o.to) (by simp)).1.its (K11.out.row (r11, c11, rest ys o.key o.to) (by simp)).1.its (Nat.le_trans (List.length_filter_le _ _) (by omega)) (Nat.le_trans (List.length_filter_le _ _) (by omega))).mono ?_
            rw [HR.out]
            rintro E w12 ⟨rfl, b12⟩
            rw [decide_eq_true rfl]
            have K12 := Lib.hid (K11.out.below b12)
            have B12 := Lib.hid (B11.out.trans (b12.mono B11.out.size))
            clear b12 K11 B11
            refine hK'.out _ _ (K12.out.keep (w.heap.size, Obj.cells (opC o).toArray 41 (0, 0)) (by simp)).1 (fun _ => ?_)
            clear hK' K'
            try simp only [Act.put, List.setIfInBounds_toArray, List.set_cons_zero, List.set_cons_succ]
            refine wpAnyH_take (i := 13) (oi := { dst := some 77, op := Op.unOp UnOp.not 4 (Operand.tmp 76), type := 4, pos := "more.go:46", after := #[{ on := 12, ground := Ground.data }], guard := none }) (v := .bool false) rfl (by kernel_rfl) (by kernel_rfl) (by kernel_rfl) (fun _ _ _ h => h) (Or.inl ⟨by kernel_rfl, fun W hSW => by go_simp⟩) ((K12.out.keep (w.heap.size, Obj.cells (opC o).toArray 41 (0, 0)) (by simp)).1) ?_
            try simp only [Act.put, List.setIfInBounds_toArray, List.set_cons_zero, List.set_cons_succ]
            refine wpAnyH_done (by kernel_rfl) ?_ _
            have HM := Lib.hid (fun W => may_any o W)
            go_wp2_with (first | ((with_reducible refine wpList_load_midG ?_ 41 (.tmp 3) ?_ w.heap.size 0 ?_ (opC o) _ ?_ Tryd.underlying41 ?_ ?_ ?_); rotate_left; (· rfl); (· rfl); (· exact range_all ((K12.out.keep (w.heap.size, Obj.cells (opC o).toArray 41 (0, 0)) (by simp)).1)); (· rfl); (· exact HIo.out); rotate_left; (· rfl)) | (go_at_call 13; refine (HM.out _).mono ?_))
            rintro E w13 ⟨rfl, b13⟩
            have K13 := Lib.hid (K12.out.below b13)
            have B13 := Lib.hid (B12.out.trans (b13.mono B12.out.size))
            clear b13 K12 B12 HR HM
            have HSm : Hid (∀ W, Below w8.heap.size w8 W → Calls Tryd.prog 17 #[.slice A1 xs.length c1, .slice A7 ys.length c7] W fun E w' => E = .returned (.bool (decide (xs = ys))) ∧ Below W.heap.size W w') := Lib.hid fun W hb => HSame.out W A1 A7 c1 c7 xs ys (HI1.out W hb) (HI7.out W hb) (by omega) (by omega)
            have HEnd : Hid (∀ W, Below w13.heap.size w13 W → Below w.heap.size w W) := Lib.hid fun W hb => K13.out.bel.trans (hb.mono K13.out.bel.size)
            have HB13 := Lib.hid (Below.refl w13.heap.size w13)
            have hBl : B < w13.heap.size := (Array.getElem?_eq_some_iff.1 (K13.out.keep (B, Obj.cells #[.int .i64 (q.1 : Int), .string q.2] 43 (0, 0)) (by simp)).1).1
            have hNl : w.heap.size < w13.heap.size := (Array.getElem?_eq_some_iff.1 (K13.out.keep (w.heap.size, Obj.cells (opC o).toArray 41 (0, 0)) (by simp)).1).1
            have HRep : Hid (∀ W, Below w13.heap.size w13 W → W.cell? ⟨B, 0, none⟩ = some (.int .i64 (q.1 : Int)) ∧ W.cell? ⟨B, 1, none⟩ = some (.string q.2)) := Lib.hid fun W hb => ⟨block_cell (C := [.int .i64 (q.1 : Int), .string q.2]) ((hb.block _ hBl).trans (K13.out.keep (B, Obj.cells #[.int .i64 (q.1 : Int), .string q.2] 43 (0, 0)) (by simp)).1) 0 _ rfl, block_cell (C := [.int .i64 (q.1 : Int), .string q.2]) ((hb.block _ hBl).trans (K13.out.keep (B, Obj.cells #[.int .i64 (q.1 : Int), .string q.2] 43 (0, 0)) (by simp)).1) 1 _ rfl⟩
            have HOp : Hid (∀ W, Below w13.heap.size w13 W → W.heap[w.heap.size]? = some (.cells (opC o).toArray 41 (0, 0))) := Lib.hid fun W hb => (hb.block _ hNl).trans (K13.out.keep (w.heap.size, Obj.cells (opC o).toArray 41 (0, 0)) (by simp)).1
            clear HI1 HI7 hBl hNl
            have g43 := Tryd.guard43
            obtain ⟨m, hm⟩ : ∃ m, m = mayOp o := ⟨_, rfl⟩
            have HM2 := Lib.hid hm
            rw [← hm]
            clear hm
            cases m with
            | false =>
              have hm := HM2.out.symm
              have hqy : (q, ys) = ((1, ⟨#[]⟩), xs) := HQ.out.symm.trans (by rw [doR, hm]; rfl)
              injection hqy with hq1 hq2
              have hq1' := hq1.symm
              have hq2' := hq2.symm
              clear hq1 hq2 HQ
              subst hq1'
              subst hq2'
              have d0 : w13.cell? ⟨B, 0, none⟩ = some (.int .i64 1) := (HRep.out _ HB13.out).1
              have d1 : w13.cell? ⟨B, 1, none⟩ = some (.string ⟨#[]⟩) := (HRep.out _ HB13.out).2
              have e43 : ∀ w, (Op.equalIn 10000 43 (.agg #[.int .i64 1, .string ⟨#[]⟩]) (.agg #[.int .i64 1, .string ⟨#[]⟩])).run Tryd.prog w = .ok true w := fun w => eq_rep_of (d := 9998) (1, ⟨#[]⟩) (1, ⟨#[]⟩) (by simp) w
              go_wp2_with (go_at_call 17; refine (HSm.out _ B13.out).mono ?_)
              rintro E w14 ⟨rfl, b14⟩
              rw [decide_true]
              have HB14 := Lib.hid (HB13.out.trans (b14.mono HB13.out.size))
              clear b14
              go_wp2_with (go_at_call 9; refine (HW.out _ (HEnd.out _ HB14.out)).mono ?_; rintro E w15 ⟨rfl, b15⟩)
              go_ret
              exact ⟨rfl, (HEnd.out _ HB14.out).trans (b15.mono (HEnd.out _ HB14.out).size)⟩
            | true =>
              have hm := HM2.out.symm
              have hd : doR xs o = if o.kind = 1 then (getR xs o, xs) else if o.kind = 2 then putR xs o else if o.kind = 3 then delR xs o else if o.kind = 4 then swapR xs o else moveR xs o := by rw [doR, hm, if_pos rfl]
              rcases may_kind hm with hk | hk | hk | hk | hk
              · have hd1 : doR xs o = (getR xs o, xs) := hd.trans (by rw [hk]; rfl)
                have k0 : w13.cell? ⟨w.heap.size, 0, none⟩ = some (.int .u8 1) := by
                  have := block_cell (HOp.out _ HB13.out) 0 (.int .u8 (o.kind.toNat : Int)) rfl
                  rw [hk] at this
                  exact this
                obtain ⟨hh, e⟩ : ∃ hh, hh = hasK xs o.key := ⟨_, rfl⟩
                have HE := Lib.hid e
                rw [← e]
                clear e
                cases hh with
                | false =>
                  have hqy : (q, ys) = ((4, ⟨#[]⟩), xs) := HQ.out.symm.trans (hd1.trans (by rw [getR, ← HE.out]; rfl))
                  injection hqy with hq1 hq2
                  have hq1' := hq1.symm
                  have hq2' := hq2.symm
                  clear hq1 hq2 HQ
                  subst hq1'
                  subst hq2'
                  go_wp2_with (go_at_call 17; refine (HSm.out _ B13.out).mono ?_)
                  rintro E w14 ⟨rfl, b14⟩
                  rw [decide_true]
                  have HB14 := Lib.hid (HB13.out.trans (b14.mono HB13.out.size))
                  clear b14
                  have d0 : w14.cell? ⟨B, 0, none⟩ = some (.int .i64 4) := (HRep.out _ HB14.out).1
                  have d1 : w14.cell? ⟨B, 1, none⟩ = some (.string ⟨#[]⟩) := (HRep.out _ HB14.out).2
                  have e43 : ∀ w, (Op.equalIn 10000 43 (.agg #[.int .i64 4, .string ⟨#[]⟩]) (.agg #[.int .i64 4, .string ⟨#[]⟩])).run Tryd.prog w = .ok true w := fun w => eq_rep_of (d := 9998) (4, ⟨#[]⟩) (4, ⟨#[]⟩) (by simp) w
                  go_wp2_with (go_at_call 9; refine (HW.out _ (HEnd.out _ HB14.out)).mono ?_; rintro E w15 ⟨rfl, b15⟩)
                  go_ret
                  exact ⟨rfl, (HEnd.out _ HB14.out).trans (b15.mono (HEnd.out _ HB14.out).size)⟩
                | true =>
                  have hqy : (q, ys) = ((0, valK xs o.key), xs) := HQ.out.symm.trans (hd1.trans (by rw [getR, ← HE.out]; rfl))
                  injection hqy with hq1 hq2
                  have hq1' := hq1.symm
                  have hq2' := hq2.symm
                  clear hq1 hq2 HQ
                  subst hq1'
                  subst hq2'
                  go_wp2_with (go_at_call 17; refine (HSm.out _ B13.out).mono ?_)
                  rintro E w14 ⟨rfl, b14⟩
                  rw [decide_true]
                  have HB14 := Lib.hid (HB13.out.trans (b14.mono HB13.out.size))
                  clear b14
                  have d0 : w14.cell? ⟨B, 0, none⟩ = some (.int .i64 0) := (HRep.out _ HB14.out).1
                  have d1 : w14.cell? ⟨B, 1, none⟩ = some (.string (valK xs o.key)) := (HRep.out _ HB14.out).2
                  have e43 : ∀ w, (Op.equalIn 10000 43 (.agg #[.int .i64 0, .string (valK xs o.key)]) (.agg #[.int .i64 0, .string (valK xs o.key)])).run Tryd.prog w = .ok true w := fun w => eq_rep_of (d := 9998) (0, (valK xs o.key)) (0, (valK xs o.key)) (by simp) w
                  go_wp2_with (go_at_call 9; refine (HW.out _ (HEnd.out _ HB14.out)).mono ?_; rintro E w15 ⟨rfl, b15⟩)
                  go_ret
                  exact ⟨rfl, (HEnd.out _ HB14.out).trans (b15.mono (HEnd.out _ HB14.out).size)⟩
              · have hd1 : doR xs o = putR xs o := hd.trans (by rw [hk]; rfl)
                have k0 : w13.cell? ⟨w.heap.size, 0, none⟩ = some (.int .u8 2) := by
                  have := block_cell (HOp.out _ HB13.out) 0 (.int .u8 (o.kind.toNat : Int)) rfl
                  rw [hk] at this
                  exact this
                have k2 : w13.cell? ⟨w.heap.size, 2, none⟩ = some (.string o.value) := block_cell (HOp.out _ HB13.out) 2 _ rfl
                have hv2 : (o.value.toList == o.value.toList) = true := by simp
                obtain ⟨hh, e⟩ : ∃ hh, hh = hasK xs o.key := ⟨_, rfl⟩
                have HE := Lib.hid e
                rw [← e]
                clear e
                cases hh with
                | false =>
                  by_cases h64 : 64 ≤ xs.length
                  · have h64a : (64 : Int) ≤ (xs.length : Int) := by omega
                    have h64b : (xs.length : Int) ≥ 64 := by omega
                    have hqy : (q, ys) = ((7, ⟨#[]⟩), xs) := HQ.out.symm.trans (hd1.trans (by rw [putR, fullK, ← HE.out, decide_eq_true h64]; rfl))
                    injection hqy with hq1 hq2
                    have hq1' := hq1.symm
                    have hq2' := hq2.symm
                    clear hq1 hq2 HQ
                    subst hq1'
                    subst hq2'
                    have d0 : w13.cell? ⟨B, 0, none⟩ = some (.int .i64 7) := (HRep.out _ HB13.out).1
                    have d1 : w13.cell? ⟨B, 1, none⟩ = some (.string ⟨#[]⟩) := (HRep.out _ HB13.out).2
                    have e43 : ∀ w, (Op.equalIn 10000 43 (.agg #[.int .i64 7, .string ⟨#[]⟩]) (.agg #[.int .i64 7, .string ⟨#[]⟩])).run Tryd.prog w = .ok true w := fun w => eq_rep_of (d := 9998) (7, ⟨#[]⟩) (7, ⟨#[]⟩) (by simp) w
                    go_wp2_with (go_at_call 9; refine (HW.out _ (HEnd.out _ HB13.out)).mono ?_; rintro E w15 ⟨rfl, b15⟩)
                    go_ret
                    exact ⟨rfl, (HEnd.out _ HB13.out).trans (b15.mono (HEnd.out _ HB13.out).size)⟩
                  · have h64a : ¬ (64 : Int) ≤ (xs.length : Int) := by omega
                    have h64b : ¬ (xs.length : Int) ≥ 64 := by omega
                    have hqy : (q, ys) = ((0, ⟨#[]⟩), setK xs o.key o.value) := HQ.out.symm.trans (hd1.trans (by rw [putR, fullK, ← HE.out, decide_eq_false h64]; rfl))
                    injection hqy with hq1 hq2
                    have hq1' := hq1.symm
                    have hq2' := hq2.symm
                    clear hq1 hq2 HQ
                    subst hq1'
                    subst hq2'
                    have hs1 := (has_set HRise.out o.key o.value).2.1
                    have hs2 := (has_set HRise.out o.key o.value).2.2
                    rw [hs1, hs2]
                    have d0 : w13.cell? ⟨B, 0, none⟩ = some (.int .i64 0) := (HRep.out _ HB13.out).1
                    have d1 : w13.cell? ⟨B, 1, none⟩ = some (.string ⟨#[]⟩) := (HRep.out _ HB13.out).2
                    have e43 : ∀ w, (Op.equalIn 10000 43 (.agg #[.int .i64 0, .string ⟨#[]⟩]) (.agg #[.int .i64 0, .string ⟨#[]⟩])).run Tryd.prog w = .ok true w := fun w => eq_rep_of (d := 9998) (0, ⟨#[]⟩) (0, ⟨#[]⟩) (by simp) w
                    go_wp2_with (go_at_call 9; refine (HW.out _ (HEnd.out _ HB13.out)).mono ?_; rintro E w15 ⟨rfl, b15⟩)
                    go_ret
                    exact ⟨rfl, (HEnd.out _ HB13.out).trans (b15.mono (HEnd.out _ HB13.out).size)⟩
                | true =>
                  have hqy : (q, ys) = ((0, ⟨#[]⟩), setK xs o.key o.value) := HQ.out.symm.trans (hd1.trans (by rw [putR, fullK, ← HE.out]; rfl))
                  injection hqy with hq1 hq2
                  have hq1' := hq1.symm
                  have hq2' := hq2.symm
                  clear hq1 hq2 HQ
                  subst hq1'
                  subst hq2'
                  have hs1 := (has_set HRise.out o.key o.value).2.1
                  have hs2 := (has_set HRise.out o.key o.value).2.2
                  rw [hs1, hs2]
                  have d0 : w13.cell? ⟨B, 0, none⟩ = some (.int .i64 0) := (HRep.out _ HB13.out).1
                  have d1 : w13.cell? ⟨B, 1, none⟩ = some (.string ⟨#[]⟩) := (HRep.out _ HB13.out).2
                  have e43 : ∀ w, (Op.equalIn 10000 43 (.agg #[.int .i64 0, .string ⟨#[]⟩]) (.agg #[.int .i64 0, .string ⟨#[]⟩])).run Tryd.prog w = .ok true w := fun w => eq_rep_of (d := 9998) (0, ⟨#[]⟩) (0, ⟨#[]⟩) (by simp) w
                  go_wp2_with (go_at_call 9; refine (HW.out _ (HEnd.out _ HB13.out)).mono ?_; rintro E w15 ⟨rfl, b15⟩)
                  go_ret
                  exact ⟨rfl, (HEnd.out _ HB13.out).trans (b15.mono (HEnd.out _ HB13.out).size)⟩
              · have hd1 : doR xs o = delR xs o := hd.trans (by rw [hk]; rfl)
                have k0 : w13.cell? ⟨w.heap.size, 0, none⟩ = some (.int .u8 3) := by
                  have := block_cell (HOp.out _ HB13.out) 0 (.int .u8 (o.kind.toNat : Int)) rfl
                  rw [hk] at this
                  exact this
                obtain ⟨hh, e⟩ : ∃ hh, hh = hasK xs o.key := ⟨_, rfl⟩
                have HE := Lib.hid e
                clear e
                cases hh with
                | false =>
                  have hqy : (q, ys) = ((4, ⟨#[]⟩), xs) := HQ.out.symm.trans (hd1.trans (by rw [delR, ← HE.out]; rfl))
                  injection hqy with hq1 hq2
                  have hq1' := hq1.symm
                  have hq2' := hq2.symm
                  clear hq1 hq2 HQ
                  subst hq1'
                  subst hq2'
                  rw [← HE.out]
                  have d0 : w13.cell? ⟨B, 0, none⟩ = some (.int .i64 4) := (HRep.out _ HB13.out).1
                  have d1 : w13.cell? ⟨B, 1, none⟩ = some (.string ⟨#[]⟩) := (HRep.out _ HB13.out).2
                  have e43 : ∀ w, (Op.equalIn 10000 43 (.agg #[.int .i64 4, .string ⟨#[]⟩]) (.agg #[.int .i64 4, .string ⟨#[]⟩])).run Tryd.prog w = .ok true w := fun w => eq_rep_of (d := 9998) (4, ⟨#[]⟩) (4, ⟨#[]⟩) (by simp) w
                  go_wp2_with (go_at_call 9; refine (HW.out _ (HEnd.out _ HB13.out)).mono ?_; rintro E w15 ⟨rfl, b15⟩)
                  go_ret
                  exact ⟨rfl, (HEnd.out _ HB13.out).trans (b15.mono (HEnd.out _ HB13.out).size)⟩
                | true =>
                  have hqy : (q, ys) = ((0, valK xs o.key), delK xs o.key) := HQ.out.symm.trans (hd1.trans (by rw [delR, ← HE.out]; rfl))
                  injection hqy with hq1 hq2
                  have hq1' := hq1.symm
                  have hq2' := hq2.symm
                  clear hq1 hq2 HQ
                  subst hq1'
                  subst hq2'
                  rw [has_del HRise.out, ← HE.out]
                  have d0 : w13.cell? ⟨B, 0, none⟩ = some (.int .i64 0) := (HRep.out _ HB13.out).1
                  have d1 : w13.cell? ⟨B, 1, none⟩ = some (.string (valK xs o.key)) := (HRep.out _ HB13.out).2
                  have e43 : ∀ w, (Op.equalIn 10000 43 (.agg #[.int .i64 0, .string (valK xs o.key)]) (.agg #[.int .i64 0, .string (valK xs o.key)])).run Tryd.prog w = .ok true w := fun w => eq_rep_of (d := 9998) (0, (valK xs o.key)) (0, (valK xs o.key)) (by simp) w
                  go_wp2_with (go_at_call 9; refine (HW.out _ (HEnd.out _ HB13.out)).mono ?_; rintro E w15 ⟨rfl, b15⟩)
                  go_ret
                  exact ⟨rfl, (HEnd.out _ HB13.out).trans (b15.mono (HEnd.out _ HB13.out).size)⟩
              · have hd1 : doR xs o = swapR xs o := hd.trans (by rw [hk]; rfl)
                have k0 : w13.cell? ⟨w.heap.size, 0, none⟩ = some (.int .u8 4) := by
                  have := block_cell (HOp.out _ HB13.out) 0 (.int .u8 (o.kind.toNat : Int)) rfl
                  rw [hk] at this
                  exact this
                have k3 : w13.cell? ⟨w.heap.size, 3, none⟩ = some (.string o.old) := block_cell (HOp.out _ HB13.out) 3 _ rfl
                have k2 : w13.cell? ⟨w.heap.size, 2, none⟩ = some (.string o.value) := block_cell (HOp.out _ HB13.out) 2 _ rfl
                have hv2 : (o.value.toList == o.value.toList) = true := by simp
                obtain ⟨hh, e⟩ : ∃ hh, hh = hasK xs o.key := ⟨_, rfl⟩
                have HE := Lib.hid e
                rw [← e]
                clear e
                cases hh with
                | false =>
                  have hqy : (q, ys) = ((4, ⟨#[]⟩), xs) := HQ.out.symm.trans (hd1.trans (by rw [swapR, ← HE.out]; rfl))
                  injection hqy with hq1 hq2
                  have hq1' := hq1.symm
                  have hq2' := hq2.symm
                  clear hq1 hq2 HQ
                  subst hq1'
                  subst hq2'
                  go_wp2_with (go_at_call 17; refine (HSm.out _ B13.out).mono ?_)
                  rintro E w14 ⟨rfl, b14⟩
                  rw [decide_true]
                  have HB14 := Lib.hid (HB13.out.trans (b14.mono HB13.out.size))
                  clear b14
                  have d0 : w14.cell? ⟨B, 0, none⟩ = some (.int .i64 4) := (HRep.out _ HB14.out).1
                  have d1 : w14.cell? ⟨B, 1, none⟩ = some (.string ⟨#[]⟩) := (HRep.out _ HB14.out).2
                  have e43 : ∀ w, (Op.equalIn 10000 43 (.agg #[.int .i64 4, .string ⟨#[]⟩]) (.agg #[.int .i64 4, .string ⟨#[]⟩])).run Tryd.prog w = .ok true w := fun w => eq_rep_of (d := 9998) (4, ⟨#[]⟩) (4, ⟨#[]⟩) (by simp) w
                  go_wp2_with (go_at_call 9; refine (HW.out _ (HEnd.out _ HB14.out)).mono ?_; rintro E w15 ⟨rfl, b15⟩)
                  go_ret
                  exact ⟨rfl, (HEnd.out _ HB14.out).trans (b15.mono (HEnd.out _ HB14.out).size)⟩
                | true =>
                  by_cases ho : valK xs o.key = o.old
                  · have ho' : ((valK xs o.key).toList == o.old.toList) = true := by rw [ho]; simp
                    have hqy : (q, ys) = ((0, ⟨#[]⟩), setK xs o.key o.value) := HQ.out.symm.trans (hd1.trans (by rw [swapR, ← HE.out, if_pos rfl, if_pos ho]; rfl))
                    injection hqy with hq1 hq2
                    have hq1' := hq1.symm
                    have hq2' := hq2.symm
                    clear hq1 hq2 HQ
                    subst hq1'
                    subst hq2'
                    have hs1 := (has_set HRise.out o.key o.value).2.1
                    have hs2 := (has_set HRise.out o.key o.value).2.2
                    rw [hs1, hs2]
                    have d0 : w13.cell? ⟨B, 0, none⟩ = some (.int .i64 0) := (HRep.out _ HB13.out).1
                    have d1 : w13.cell? ⟨B, 1, none⟩ = some (.string ⟨#[]⟩) := (HRep.out _ HB13.out).2
                    have e43 : ∀ w, (Op.equalIn 10000 43 (.agg #[.int .i64 0, .string ⟨#[]⟩]) (.agg #[.int .i64 0, .string ⟨#[]⟩])).run Tryd.prog w = .ok true w := fun w => eq_rep_of (d := 9998) (0, ⟨#[]⟩) (0, ⟨#[]⟩) (by simp) w
                    go_wp2_with (go_at_call 9; refine (HW.out _ (HEnd.out _ HB13.out)).mono ?_; rintro E w15 ⟨rfl, b15⟩)
                    go_ret
                    exact ⟨rfl, (HEnd.out _ HB13.out).trans (b15.mono (HEnd.out _ HB13.out).size)⟩
                  · have ho' : ((valK xs o.key).toList == o.old.toList) = false := by
                      cases h : (valK xs o.key).toList == o.old.toList with
                      | false => rfl
                      | true => exact absurd (toList_inj (by simpa using h)) ho
                    have hqy : (q, ys) = ((15, valK xs o.key), xs) := HQ.out.symm.trans (hd1.trans (by rw [swapR, ← HE.out, if_pos rfl, if_neg ho]))
                    injection hqy with hq1 hq2
                    have hq1' := hq1.symm
                    have hq2' := hq2.symm
                    clear hq1 hq2 HQ
                    subst hq1'
                    subst hq2'
                    go_wp2_with (go_at_call 17; refine (HSm.out _ B13.out).mono ?_)
                    rintro E w14 ⟨rfl, b14⟩
                    rw [decide_true]
                    have HB14 := Lib.hid (HB13.out.trans (b14.mono HB13.out.size))
                    clear b14
                    have d0 : w14.cell? ⟨B, 0, none⟩ = some (.int .i64 15) := (HRep.out _ HB14.out).1
                    have d1 : w14.cell? ⟨B, 1, none⟩ = some (.string (valK xs o.key)) := (HRep.out _ HB14.out).2
                    have e43 : ∀ w, (Op.equalIn 10000 43 (.agg #[.int .i64 15, .string (valK xs o.key)]) (.agg #[.int .i64 15, .string (valK xs o.key)])).run Tryd.prog w = .ok true w := fun w => eq_rep_of (d := 9998) (15, (valK xs o.key)) (15, (valK xs o.key)) (by simp) w
                    go_wp2_with (go_at_call 9; refine (HW.out _ (HEnd.out _ HB14.out)).mono ?_; rintro E w15 ⟨rfl, b15⟩)
                    go_ret
                    exact ⟨rfl, (HEnd.out _ HB14.out).trans (b15.mono (HEnd.out _ HB14.out).size)⟩
              · have k0 : w13.cell? ⟨w.heap.size, 0, none⟩ = some (.int .u8 5) := by
                  have := block_cell (HOp.out _ HB13.out) 0 (.int .u8 (o.kind.toNat : Int)) rfl
                  rw [hk] at this
                  exact this
                go_wp2_with (go_at_call 9; refine (HW.out _ (HEnd.out _ HB13.out)).mono ?_; rintro E w15 ⟨rfl, b15⟩)
                go_ret
                exact ⟨rfl, (HEnd.out _ HB13.out).trans (b15.mono (HEnd.out _ HB13.out).size)⟩
      · have h100a : (n : Int) > 100 := by omega
        have h100b : (100 < (n : Int)) := by omega
        clear HNew HOps HSame
        go_wp2_with (go_at_call 9; refine (HW.out _ P2.out.bel).mono ?_; rintro E w3 ⟨rfl, b3⟩)
        go_ret
        exact ⟨rfl, P2.out.bel.trans (b3.mono P2.out.bel.size)⟩
end Go.Proofs.YtejckimplihmiaaDoor
