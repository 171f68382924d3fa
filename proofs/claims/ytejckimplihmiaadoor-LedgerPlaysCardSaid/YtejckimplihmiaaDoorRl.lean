/-
  What is proved: LedgerPlays' walk. Conditions as stated.
-/
import Derived.Test.YtejckimplihmiaaDoorRk
namespace Go.Proofs.YtejckimplihmiaaDoor
open Go.RowKit
set_option maxRecDepth 100000

theorem rlow {w : World} {g : Nat} {r : Option Nat} {c : Nat} {xs : List It} {g2 : Nat} {r2 : Option Nat} {c2 : Nat} {ys : List It} {W : World} (H : Par w g r c xs g2 r2 c2 ys W) {r9 : Option Nat} (hg : ∀ b, r9 = some b → W.heap.size ≤ b) :
    ∀ b, r9 = some b → w.heap.size ≤ b ∧ ¬ On g r b ∧ ¬ On g2 r2 b := fun b hb => by
  have h := hg b hb
  have hs := H.bel.size
  refine ⟨by omega, fun h1 => ?_, fun h1 => ?_⟩
  · have := H.s1.led.on_lt b h1
    omega
  · have := H.s2.on_lt b h1
    omega
set_option maxHeartbeats 32000000 in
theorem plays_walk {w : World} (hv : Vars w) (A : Option Addr) (c0 : Nat) (xs0 : List It) (hI0 : Its w A xs0) (hA0 : A = none → c0 = 0) (B : Option Addr) (c1 : Nat) (os : List MOp) (hB : Ops w B os) :
    Calls Tryd.prog 3 #[.slice A xs0.length c0, .slice B os.length c1] w fun E w' => E = .returned (.bool true) ∧ Below w.heap.size w w' := by
  have HW : Hid (∀ W, Below w.heap.size w W → Calls Tryd.prog 9 #[] W fun E w' => E = .returned (.bool true) ∧ Below W.heap.size W w') := Lib.hid fun W hb => works_any (hv.below hb)
  have HF := Lib.hid (few_big B c1 os w hB)
  have HB0 := Lib.hid (Below.refl w.heap.size w)
  have HV := Lib.hid hv
  have HNew : Hid (∀ W, Below w.heap.size w W → Calls Tryd.prog 12 #[] W fun E w' => E = .returned (.pointer (some ⟨W.heap.size, 0, none⟩)) ∧ Sys w' W.heap.size none 0 [] ∧ Below W.heap.size W w') := Lib.hid fun W hb => new_any (hv.below hb)
  have HOps : Hid (∀ j p, os[j]? = some p → ∃ b off, B = some ⟨b, off, none⟩ ∧ ∀ W, Below w.heap.size w W → W.rangeAt b (off + j * 6) (opC p)) := Lib.hid fun j p hp => by
    obtain ⟨b, off, h1, hl, hc⟩ := hB (by have := (List.getElem?_eq_some_iff.1 hp).1; omega)
    exact ⟨b, off, h1, fun W hb k v hv => (hb.cell (p := ⟨b, off + j * 6 + k, none⟩) hl).trans (hc j p hp k v hv)⟩
  have HI : Hid (∀ p : MOp, (Tryd.prog.info? 41).map (·.size) = some (opC p).length) := Lib.hid fun _ => Tryd.is41
  have HSame : Hid (∀ W A1 A2 c1 c2 (x y : List It), Its W A1 x → Its W A2 y → x.length ≤ 1000 → y.length ≤ 1000 → Calls Tryd.prog 17 #[.slice A1 x.length c1, .slice A2 y.length c2] W fun E w' => E = .returned (.bool (decide (x = y))) ∧ Below W.heap.size W w') := Lib.hid fun W A1 A2 c1 c2 x y h1 h2 h3 h4 => same_any A1 A2 c1 c2 x y W h1 h2 (by omega) (by omega)
  have HX : Hid (∀ W, Below w.heap.size w W → Its W A xs0) := Lib.hid fun W hb => hI0.below hb
  have HA := Lib.hid hA0
  obtain ⟨n, hnn⟩ : ∃ n, n = os.length := ⟨_, rfl⟩
  have HL := Lib.hid hnn
  rw [← hnn] at HF ⊢
  obtain ⟨m, hmm⟩ : ∃ m, m = xs0.length := ⟨_, rfl⟩
  have HLm := Lib.hid hmm
  rw [← hmm]
  clear hv hI0 hA0 hB hnn hmm
  go_enter Tryd.func3, Tryd.ntmps3
  go_wp2_with (go_at_call 8; refine HF.out.mono ?_)
  rintro E w1 ⟨⟨z, rfl, hz150⟩, b1⟩
  have B1 := Lib.hid (HB0.out.trans (b1.mono HB0.out.size))
  clear HB0 b1 HF
  cases z with
  | false =>
    clear HNew HOps HSame hz150 HX
    go_wp2_with (go_at_call 9; refine (HW.out _ B1.out).mono ?_; rintro E w2 ⟨rfl, b2⟩)
    go_ret
    exact ⟨rfl, B1.out.trans (b2.mono B1.out.size)⟩
  | true =>
    have h150 := hz150 rfl
    clear hz150
    by_cases hm100 : 100 < m
    · have h1 : (m : Int) > 100 := by omega
      have h2 : (100 : Int) < (m : Int) := by omega
      clear HNew HOps HSame HX
      go_wp2_with (go_at_call 9; refine (HW.out _ B1.out).mono ?_; rintro E w2 ⟨rfl, b2⟩)
      go_ret
      exact ⟨rfl, B1.out.trans (b2.mono B1.out.size)⟩
    · have h1 : ¬ ((m : Int) > 100) := by omega
      have h2 : ¬ ((100 : Int) < (m : Int)) := by omega
      have h3 : (m : Int) ≤ 100 := by omega
      go_wp2_with fail
      go_loopw [5] (fun v5 wr => ∃ j : Nat, j ≤ m ∧ v5 = .int .i64 (j : Int) ∧ Hid (Below w.heap.size w wr)) (fun v5 _ => m - (intOf v5).toNat)
      case atStart => exact ⟨0, by omega, rfl, B1⟩
      case round =>
        clear B1
        obtain ⟨j, hj, rfl, HB⟩ := hrel
        by_cases hjj : j < m
        · obtain ⟨b, o, rfl, hbl, hc⟩ := HX.out wr HB.out (by rw [← HLm.out]; omega)
          obtain ⟨p, hp⟩ : ∃ p, xs0[j]? = some p := ⟨_, List.getElem?_eq_getElem (by rw [← HLm.out]; exact hjj)⟩
          have k1 : wr.cell? ⟨b, o + j * 2, none⟩ = some (.string p.1) := (hc j p hp).1
          have k2 : wr.cell? ⟨b, o + j * 2 + 1, none⟩ = some (.string p.2) := (hc j p hp).2
          have hdec : decide ((j : Int) < (m : Int)) = true := decide_eq_true (by omega)
          have hj0 : (0 : Int) ≤ (j : Int) := by omega
          have hjn : (j : Int) < (m : Int) := by omega
          have htn : ((j : Int)).toNat = j := by omega
          have hw1 : IntKind.i64.wrap ((j : Int) + 1) = (j : Int) + 1 := by rw [IntKind.wrap_i64]; omega
          obtain ⟨s1, hs1⟩ : ∃ s, IntKind.i64.wrap ((p.1.size : Int) + (p.2.size : Int)) = s := ⟨_, rfl⟩
          have HB2 : Hid (∀ q, Below w.heap.size w (wr.drewN q)) := Lib.hid fun q => below_drewN HB.out q
          clear hc hp HNew HOps HSame HX
          by_cases hs : 1000 < s1
          · go_wp2_with fail
            go_quiet (fail)
            have HB3 := Lib.hid (HB2.out 1)
            go_wp2_with (go_at_call 9; refine (HW.out _ (HB2.out _)).mono ?_; rintro E w2 ⟨rfl, b2⟩)
            go_ret
            exact ⟨rfl, (HB2.out _).trans (b2.mono (HB2.out _).size)⟩
          · go_wp2_with fail
            go_quiet (fail)
            go_wp2_with fail
            go_roundw
            case measure => simp [intOf] <;> omega
            case rel => exact ⟨j + 1, by omega, by go_num, HB2.out _⟩
        · have hjn : ¬ ((j : Int) < (m : Int)) := by omega
          have hdec : decide ((j : Int) < (m : Int)) = false := decide_eq_false hjn
          have HOm : Hid ((wr.alloc (.cells #[] 27)).ownsRow w.heap.size 27 2 (.slice (some ⟨wr.heap.size, 0, none⟩) 0 0) 0 []) := Lib.hid (World.ownsRow_made wr #[] 0 HB.out.size (Nat.zero_le _) (by simp))
          have HBa : Hid (Below w.heap.size w (wr.alloc (.cells #[] 27))) := Lib.hid (HB.out.alloc HB.out.size _)
          have HXa := Lib.hid (HX.out _ HBa.out)
          have hm1000 : m ≤ 1000 := by omega
          have HOf : Hid (∀ W r c, Below w.heap.size w W → Rw W r c xs0 → Calls Tryd.prog 10 #[.slice (slA r) m c] W fun E w' => OfP W xs0 E w') := Lib.hid fun W r c hb hr => by
            rw [HLm.out]
            exact of_any (HV.out.below hb) hr (by rw [← HLm.out]; exact hm1000)
          clear hjn hj
          go_wp2_with (first | (at_builtin; refine app_its rfl _ _ rfl rfl HOm.out HBa.out rfl HLm.out HXa.out HA.out hm1000 ?_; intro ra ca wa hra _ hba; have HRa := Lib.hid hra; have HBb := Lib.hid hba; clear hra hba) | (go_at_call 10; refine (HOf.out _ _ _ HBb.out HRa.out).mono ?_))
          rintro E w2 ⟨b2, h2⟩
          have HRO : Hid (Calls Tryd.prog 11 #[.slice A m c0] w2 fun E w' => ROfP w2 xs0 E w') := Lib.hid (by rw [HLm.out]; exact rof_any (HX.out _ (HBb.out.trans (b2.mono HBb.out.size))) HA.out (by rw [← HLm.out]; exact hm1000))
          have HB2 := Lib.hid (HBb.out.trans (b2.mono HBb.out.size))
          obtain ⟨zm, hzm⟩ : ∃ zm, zm = mayI ByteArray.empty xs0 := ⟨_, rfl⟩
          have HZm := Lib.hid hzm
          rw [← hzm] at h2
          obtain ⟨hgood, hbad⟩ : (zm = true ∧ m ≤ 64 → ∃ g r c, E = .returned (.tuple #[.pointer (some ⟨g, 0, none⟩), .int .i64 0]) ∧ Sys w2 g r c xs0 ∧ ∀ k, On g r k → wa.heap.size ≤ k) ∧ (¬ (zm = true ∧ m ≤ 64) → ∃ e : Nat, (e = 1 ∨ e = 6) ∧ (zm = false → e = 1) ∧ (zm = true → e = 6) ∧ E = .returned (.tuple #[.pointer none, .int .i64 (e : Int)])) := by
            rw [HLm.out]
            cases zm with
            | false => exact ⟨fun h => absurd h.1 (by simp), fun _ => ⟨1, .inl rfl, fun _ => rfl, fun h => (by cases h), h2⟩⟩
            | true =>
              rw [if_pos rfl] at h2
              by_cases hl : xs0.length ≤ 64
              · rw [if_pos hl] at h2
                exact ⟨fun _ => h2, fun h => absurd ⟨rfl, hl⟩ h⟩
              · rw [if_neg hl] at h2
                exact ⟨fun h => absurd h.2 hl, fun _ => ⟨6, .inr rfl, fun h => (by cases h), fun _ => rfl, h2⟩⟩
          clear h2 b2 hzm
          by_cases hgd : zm = true ∧ m ≤ 64
          · obtain ⟨g, r, c, rfl, hs, ho⟩ := hgood hgd
            clear hgood hbad
            have HSy := Lib.hid hs
            have HOn := Lib.hid ho
            clear hs ho
            go_wp2_with (go_at_call 11; refine HRO.out.mono ?_)
            rintro E w3 ⟨b3, h3⟩
            rw [← HZm.out, if_pos hgd.1, if_pos (show xs0.length ≤ 64 by rw [← HLm.out]; exact hgd.2)] at h3
            obtain ⟨g2, r2, c2, rfl, hr3, ho3⟩ := h3
            have DS : Hid (Par w g r c xs0 g2 r2 c2 xs0 w3) := Lib.hid (par_of HV.out HB2.out HSy.out (fun k hk => Nat.le_trans HBb.out.size (HOn.out k hk)) b3 hr3 ho3)
            clear hr3 ho3 b3 HRO HSy HOn HRa HBb hgd HB HOm HBa HXa HX HB2 HZm
            go_wp2_with fail
            go_loopw [10] (fun v10 wr => ∃ (j : Nat) (r : Option Nat) (c : Nat) (xs : List It) (r2 : Option Nat) (c2 : Nat), j ≤ n ∧ v10 = .int .i64 (j : Int) ∧ Hid (Par w g r c xs g2 r2 c2 xs wr)) (fun v10 _ => n - (intOf v10).toNat)
            case atStart => exact ⟨0, _, _, _, _, _, by omega, rfl, DS⟩
            case round =>
              clear DS
              obtain ⟨j, r, c, xs, r2, c2, hj, rfl, D⟩ := hrel
              by_cases hjj : j < n
              · obtain ⟨p, hp⟩ : ∃ p, os[j]? = some p := ⟨_, List.getElem?_eq_getElem (by rw [← HL.out]; exact hjj)⟩
                obtain ⟨b', off, rfl, hr⟩ := HOps.out j p hp
                have HRg := Lib.hid hr
                have HP := Lib.hid (HI.out p)
                have hdec : decide ((j : Int) < (n : Int)) = true := decide_eq_true (by omega)
                have hj0 : (0 : Int) ≤ (j : Int) := by omega
                have hjn : (j : Int) < (n : Int) := by omega
                have htn : ((j : Int)).toNat = j := by omega
                have hw1 : IntKind.i64.wrap ((j : Int) + 1) = (j : Int) + 1 := by rw [IntKind.wrap_i64]; omega
                have g43 := Tryd.guard43
                have e43 : ∀ w, (Op.equalIn 10000 43 (.agg (repC (doR xs p).1).toArray) (.agg (repC (doR xs p).1).toArray)).run Tryd.prog w = .ok true w := fun w => eq_rep_of (d := 9998) (doR xs p).1 (doR xs p).1 (by simp) w
                have HRi := Lib.hid D.out.s1.rise
                have HLe := Lib.hid D.out.s1.len
                have HSm := Lib.hid D.out.s1.small
                obtain ⟨z, hz⟩ : ∃ z, z = mayOp p := ⟨_, rfl⟩
                have HM13 : Hid (∀ W, Calls Tryd.prog 13 #[.agg (opC p).toArray] W fun E w' => E = .returned (.bool z) ∧ Below W.heap.size W w') := Lib.hid fun W => by rw [hz]; exact may_any p W
                have HM14 : Hid (∀ W, Calls Tryd.prog 14 #[.agg (opC p).toArray] W fun E w' => E = .returned (.bool z) ∧ Below W.heap.size W w') := Lib.hid fun W => by rw [hz]; exact rmay_any p W
                clear hr hp hz
                by_cases h8 : j % 8 = 0
                · have h8a : ((j : Int)).tmod 8 = 0 := by rw [Int.tmod_eq_emod_of_nonneg hj0]; omega
                  clear h8
                  go_wp2_with fail
                  refine wp_region_any (by kernel_rfl) ?_
                  refine held_gen (G := fun W => wpAny _ _ _ _ _ _ _ W) (fun W => Par w g r c xs g2 r2 c2 xs W) (D.out.below (below_drewN (Below.refl _ _) 1)) (fun W9 hW9 => ?_)
                  have D9 := Lib.hid hW9
                  clear hW9 D
                  refine wpAny_of_held (S := fun W => Below w.heap.size w W) _ _ _ _ ?_
                  refine wpAnyH_take (i := 0) (oi := { dst := some 76, op := Op.move (Operand.tmp 1), type := 23, pos := "law.go:55", after := #[], guard := none }) (v := .slice (some ⟨b', off, none⟩) n c1) rfl (by kernel_rfl) (by kernel_rfl) (by kernel_rfl) (fun _ _ _ h => h) (Or.inl ⟨by kernel_rfl, fun W hSW => by go_simp⟩) (D9.out.bel) ?_
                  try simp only [Act.put, List.setIfInBounds_toArray, List.set_cons_zero, List.set_cons_succ]
                  refine wpAnyH_take (i := 1) (oi := { dst := some 77, op := Op.move (Operand.tmp 10), type := 3, pos := "law.go:55", after := #[], guard := none }) (v := .int .i64 (j : Int)) rfl (by kernel_rfl) (by kernel_rfl) (by kernel_rfl) (fun _ _ _ h => h) (Or.inl ⟨by kernel_rfl, fun W hSW => by go_simp⟩) (D9.out.bel) ?_
                  try simp only [Act.put, List.setIfInBounds_toArray, List.set_cons_zero, List.set_cons_succ]
                  refine wpAnyH_take (i := 2) (oi := { dst := some 78, op := Op.indexAddr 23 (Operand.tmp 76) (Operand.tmp 77), type := 0, pos := "law.go:55", after := #[{ on := 0, ground := Ground.data }, { on := 1, ground := Ground.data }], guard := none }) (v := .pointer (some ⟨b', off + j * 6, none⟩)) rfl (by kernel_rfl) (by kernel_rfl) (by kernel_rfl) (fun _ _ _ h => h) (Or.inl ⟨by kernel_rfl, fun W hSW => by go_simp⟩) (D9.out.bel) ?_
                  try simp only [Act.put, List.setIfInBounds_toArray, List.set_cons_zero, List.set_cons_succ]
                  refine wpAnyH_take (i := 3) (oi := { dst := some 79, op := Op.load 41 (Operand.tmp 78), type := 41, pos := "law.go:55", after := #[{ on := 2, ground := Ground.data }], guard := none }) (v := .agg (opC p).toArray) rfl (by kernel_rfl) (by kernel_rfl) (by kernel_rfl) (fun _ _ _ h => h) (Or.inl ⟨by kernel_rfl, fun W hSW => exec_load_mid 41 (.tmp 78) rfl b' (off + j * 6) rfl (opC p) _ (HRg.out W hSW) Tryd.underlying41 rfl (HP.out)⟩) (D9.out.bel) ?_
                  try simp only [Act.put, List.setIfInBounds_toArray, List.set_cons_zero, List.set_cons_succ]
                  refine wpAnyH_take (i := 5) (oi := { dst := some 81, op := Op.move (Operand.tmp 1), type := 23, pos := "law.go:55", after := #[], guard := none }) (v := .slice (some ⟨b', off, none⟩) n c1) rfl (by kernel_rfl) (by kernel_rfl) (by kernel_rfl) (fun _ _ _ h => h) (Or.inl ⟨by kernel_rfl, fun W hSW => by go_simp⟩) (D9.out.bel) ?_
                  try simp only [Act.put, List.setIfInBounds_toArray, List.set_cons_zero, List.set_cons_succ]
                  refine wpAnyH_take (i := 6) (oi := { dst := some 82, op := Op.move (Operand.tmp 10), type := 3, pos := "law.go:55", after := #[], guard := none }) (v := .int .i64 (j : Int)) rfl (by kernel_rfl) (by kernel_rfl) (by kernel_rfl) (fun _ _ _ h => h) (Or.inl ⟨by kernel_rfl, fun W hSW => by go_simp⟩) (D9.out.bel) ?_
                  try simp only [Act.put, List.setIfInBounds_toArray, List.set_cons_zero, List.set_cons_succ]
                  refine wpAnyH_take (i := 7) (oi := { dst := some 83, op := Op.indexAddr 23 (Operand.tmp 81) (Operand.tmp 82), type := 0, pos := "law.go:55", after := #[{ on := 5, ground := Ground.data }, { on := 6, ground := Ground.data }], guard := none }) (v := .pointer (some ⟨b', off + j * 6, none⟩)) rfl (by kernel_rfl) (by kernel_rfl) (by kernel_rfl) (fun _ _ _ h => h) (Or.inl ⟨by kernel_rfl, fun W hSW => by go_simp⟩) (D9.out.bel) ?_
                  try simp only [Act.put, List.setIfInBounds_toArray, List.set_cons_zero, List.set_cons_succ]
                  refine wpAnyH_take (i := 8) (oi := { dst := some 84, op := Op.load 41 (Operand.tmp 83), type := 41, pos := "law.go:55", after := #[{ on := 7, ground := Ground.data }], guard := none }) (v := .agg (opC p).toArray) rfl (by kernel_rfl) (by kernel_rfl) (by kernel_rfl) (fun _ _ _ h => h) (Or.inl ⟨by kernel_rfl, fun W hSW => exec_load_mid 41 (.tmp 83) rfl b' (off + j * 6) rfl (opC p) _ (HRg.out W hSW) Tryd.underlying41 rfl (HP.out)⟩) (D9.out.bel) ?_
                  try simp only [Act.put, List.setIfInBounds_toArray, List.set_cons_zero, List.set_cons_succ]
                  refine wpAnyH_ready (rs := [4]) (by kernel_rfl) (by simp) ?_
                  refine AllReadyH.cons (o := { dst := some 80, op := Op.call { callee := Callee.value (Operand.func 13), args := #[Operand.tmp 79], argTypes := #[41] }, type := 4, pos := "law.go:55", after := #[{ on := 3, ground := Ground.data }], guard := none }) rfl (fun K' hK' => ?_) AllReadyH.nil
                  go_simp
                  go_at_call 13
                  refine (HM13.out _).mono ?_
                  rintro E w10 ⟨rfl, b10⟩
                  have D10 := Lib.hid (D9.out.below b10)
                  clear b10 D9
                  refine hK'.out _ _ D10.out.bel (fun _ => ?_)
                  clear hK' K'
                  try simp only [Act.put, List.setIfInBounds_toArray, List.set_cons_zero, List.set_cons_succ]
                  refine wpAnyH_ready (rs := [9]) (by kernel_rfl) (by simp) ?_
                  refine AllReadyH.cons (o := { dst := some 85, op := Op.call { callee := Callee.value (Operand.func 14), args := #[Operand.tmp 84], argTypes := #[41] }, type := 4, pos := "law.go:55", after := #[{ on := 8, ground := Ground.data }, { on := 4, ground := Ground.chain }], guard := none }) rfl (fun K' hK' => ?_) AllReadyH.nil
                  go_simp
                  go_at_call 14
                  refine (HM14.out _).mono ?_
                  rintro E w11 ⟨rfl, b11⟩
                  have D11 := Lib.hid (D10.out.below b11)
                  clear b11 D10
                  refine hK'.out _ _ D11.out.bel (fun _ => ?_)
                  clear hK' K'
                  try simp only [Act.put, List.setIfInBounds_toArray, List.set_cons_zero, List.set_cons_succ]
                  refine wpAnyH_take (i := 10) (oi := { dst := some 86, op := Op.binOp BinOp.neq 4 (Operand.tmp 80) (Operand.tmp 85) 4, type := 4, pos := "law.go:55", after := #[{ on := 4, ground := Ground.data }, { on := 9, ground := Ground.data }], guard := none }) (v := .bool false) rfl (by kernel_rfl) (by kernel_rfl) (by kernel_rfl) (fun _ _ _ h => h) (Or.inl ⟨by kernel_rfl, fun W hSW => by cases z <;> go_simp⟩) (D11.out.bel) ?_
                  try simp only [Act.put, List.setIfInBounds_toArray, List.set_cons_zero, List.set_cons_succ]
                  refine wpAnyH_take (i := 11) (oi := { dst := some 87, op := Op.move (Operand.tmp 86), type := 4, pos := "law.go:55", after := #[{ on := 10, ground := Ground.data }, { on := 9, ground := Ground.chain }], guard := none }) (v := .bool false) rfl (by kernel_rfl) (by kernel_rfl) (by kernel_rfl) (fun _ _ _ h => h) (Or.inl ⟨by kernel_rfl, fun W hSW => by go_simp⟩) (D11.out.bel) ?_
                  try simp only [Act.put, List.setIfInBounds_toArray, List.set_cons_zero, List.set_cons_succ]
                  refine wpAnyH_take (i := 12) (oi := { dst := some 88, op := Op.move (Operand.tmp 6), type := 28, pos := "law.go:55", after := #[{ on := 11, ground := Ground.guard }], guard := some (11, false) }) (v := .pointer (some ⟨g, 0, none⟩)) rfl (by kernel_rfl) (by kernel_rfl) (by kernel_rfl) (fun _ _ _ h => h) (Or.inl ⟨by kernel_rfl, fun W hSW => by go_simp⟩) (D11.out.bel) ?_
                  try simp only [Act.put, List.setIfInBounds_toArray, List.set_cons_zero, List.set_cons_succ]
                  refine wpAnyH_take (i := 13) (oi := { dst := some 89, op := Op.move (Operand.tmp 1), type := 23, pos := "law.go:55", after := #[{ on := 11, ground := Ground.guard }], guard := some (11, false) }) (v := .slice (some ⟨b', off, none⟩) n c1) rfl (by kernel_rfl) (by kernel_rfl) (by kernel_rfl) (fun _ _ _ h => h) (Or.inl ⟨by kernel_rfl, fun W hSW => by go_simp⟩) (D11.out.bel) ?_
                  try simp only [Act.put, List.setIfInBounds_toArray, List.set_cons_zero, List.set_cons_succ]
                  refine wpAnyH_take (i := 14) (oi := { dst := some 90, op := Op.move (Operand.tmp 10), type := 3, pos := "law.go:55", after := #[{ on := 11, ground := Ground.guard }], guard := some (11, false) }) (v := .int .i64 (j : Int)) rfl (by kernel_rfl) (by kernel_rfl) (by kernel_rfl) (fun _ _ _ h => h) (Or.inl ⟨by kernel_rfl, fun W hSW => by go_simp⟩) (D11.out.bel) ?_
                  try simp only [Act.put, List.setIfInBounds_toArray, List.set_cons_zero, List.set_cons_succ]
                  refine wpAnyH_take (i := 15) (oi := { dst := some 91, op := Op.indexAddr 23 (Operand.tmp 89) (Operand.tmp 90), type := 0, pos := "law.go:55", after := #[{ on := 13, ground := Ground.data }, { on := 14, ground := Ground.data }, { on := 11, ground := Ground.guard }], guard := some (11, false) }) (v := .pointer (some ⟨b', off + j * 6, none⟩)) rfl (by kernel_rfl) (by kernel_rfl) (by kernel_rfl) (fun _ _ _ h => h) (Or.inl ⟨by kernel_rfl, fun W hSW => by go_simp⟩) (D11.out.bel) ?_
                  try simp only [Act.put, List.setIfInBounds_toArray, List.set_cons_zero, List.set_cons_succ]
                  refine wpAnyH_take (i := 16) (oi := { dst := some 92, op := Op.load 41 (Operand.tmp 91), type := 41, pos := "law.go:55", after := #[{ on := 15, ground := Ground.data }, { on := 11, ground := Ground.guard }], guard := some (11, false) }) (v := .agg (opC p).toArray) rfl (by kernel_rfl) (by kernel_rfl) (by kernel_rfl) (fun _ _ _ h => h) (Or.inl ⟨by kernel_rfl, fun W hSW => exec_load_mid 41 (.tmp 91) rfl b' (off + j * 6) rfl (opC p) _ (HRg.out W hSW) Tryd.underlying41 rfl (HP.out)⟩) (D11.out.bel) ?_
                  try simp only [Act.put, List.setIfInBounds_toArray, List.set_cons_zero, List.set_cons_succ]
                  refine wpAnyH_take (i := 18) (oi := { dst := some 94, op := Op.move (Operand.tmp 8), type := 32, pos := "law.go:55", after := #[{ on := 11, ground := Ground.guard }], guard := some (11, false) }) (v := .pointer (some ⟨g2, 0, none⟩)) rfl (by kernel_rfl) (by kernel_rfl) (by kernel_rfl) (fun _ _ _ h => h) (Or.inl ⟨by kernel_rfl, fun W hSW => by go_simp⟩) (D11.out.bel) ?_
                  try simp only [Act.put, List.setIfInBounds_toArray, List.set_cons_zero, List.set_cons_succ]
                  refine wpAnyH_take (i := 19) (oi := { dst := some 95, op := Op.move (Operand.tmp 1), type := 23, pos := "law.go:55", after := #[{ on := 11, ground := Ground.guard }], guard := some (11, false) }) (v := .slice (some ⟨b', off, none⟩) n c1) rfl (by kernel_rfl) (by kernel_rfl) (by kernel_rfl) (fun _ _ _ h => h) (Or.inl ⟨by kernel_rfl, fun W hSW => by go_simp⟩) (D11.out.bel) ?_
                  try simp only [Act.put, List.setIfInBounds_toArray, List.set_cons_zero, List.set_cons_succ]
                  refine wpAnyH_take (i := 20) (oi := { dst := some 96, op := Op.move (Operand.tmp 10), type := 3, pos := "law.go:55", after := #[{ on := 11, ground := Ground.guard }], guard := some (11, false) }) (v := .int .i64 (j : Int)) rfl (by kernel_rfl) (by kernel_rfl) (by kernel_rfl) (fun _ _ _ h => h) (Or.inl ⟨by kernel_rfl, fun W hSW => by go_simp⟩) (D11.out.bel) ?_
                  try simp only [Act.put, List.setIfInBounds_toArray, List.set_cons_zero, List.set_cons_succ]
                  refine wpAnyH_take (i := 21) (oi := { dst := some 97, op := Op.indexAddr 23 (Operand.tmp 95) (Operand.tmp 96), type := 0, pos := "law.go:55", after := #[{ on := 19, ground := Ground.data }, { on := 20, ground := Ground.data }, { on := 11, ground := Ground.guard }], guard := some (11, false) }) (v := .pointer (some ⟨b', off + j * 6, none⟩)) rfl (by kernel_rfl) (by kernel_rfl) (by kernel_rfl) (fun _ _ _ h => h) (Or.inl ⟨by kernel_rfl, fun W hSW => by go_simp⟩) (D11.out.bel) ?_
                  try simp only [Act.put, List.setIfInBounds_toArray, List.set_cons_zero, List.set_cons_succ]
                  refine wpAnyH_take (i := 22) (oi := { dst := some 98, op := Op.load 41 (Operand.tmp 97), type := 41, pos := "law.go:55", after := #[{ on := 21, ground := Ground.data }, { on := 11, ground := Ground.guard }], guard := some (11, false) }) (v := .agg (opC p).toArray) rfl (by kernel_rfl) (by kernel_rfl) (by kernel_rfl) (fun _ _ _ h => h) (Or.inl ⟨by kernel_rfl, fun W hSW => exec_load_mid 41 (.tmp 97) rfl b' (off + j * 6) rfl (opC p) _ (HRg.out W hSW) Tryd.underlying41 rfl (HP.out)⟩) (D11.out.bel) ?_
                  try simp only [Act.put, List.setIfInBounds_toArray, List.set_cons_zero, List.set_cons_succ]
                  refine wpAnyH_ready (rs := [17]) (by kernel_rfl) (by simp) ?_
                  refine AllReadyH.cons (o := { dst := some 93, op := Op.call { callee := Callee.value (Operand.func 15), args := #[Operand.tmp 88, Operand.tmp 92], argTypes := #[28, 41] }, type := 43, pos := "law.go:55", after := #[{ on := 12, ground := Ground.data }, { on := 16, ground := Ground.data }, { on := 11, ground := Ground.chain }, { on := 11, ground := Ground.guard }], guard := some (11, false) }) rfl (fun K' hK' => ?_) AllReadyH.nil
                  go_simp
                  go_at_call 15
                  refine (D11.out.do1 p).mono ?_
                  rintro E w12 ⟨rfl, r12, c12, h12⟩
                  have D12 := Lib.hid h12
                  clear h12 D11
                  refine hK'.out _ _ D12.out.bel (fun _ => ?_)
                  clear hK' K'
                  try simp only [Act.put, List.setIfInBounds_toArray, List.set_cons_zero, List.set_cons_succ]
                  refine wpAnyH_ready (rs := [23]) (by kernel_rfl) (by simp) ?_
                  refine AllReadyH.cons (o := { dst := some 99, op := Op.call { callee := Callee.value (Operand.func 16), args := #[Operand.tmp 94, Operand.tmp 98], argTypes := #[32, 41] }, type := 43, pos := "law.go:55", after := #[{ on := 18, ground := Ground.data }, { on := 22, ground := Ground.data }, { on := 17, ground := Ground.chain }, { on := 11, ground := Ground.guard }], guard := some (11, false) }) rfl (fun K' hK' => ?_) AllReadyH.nil
                  go_simp
                  go_at_call 16
                  refine (D12.out.do2 HRi.out (Nat.le_trans HLe.out (by decide)) HSm.out p).mono ?_
                  rintro E w13 ⟨rfl, r13, c13, h13⟩
                  have D13 := Lib.hid h13
                  clear h13 D12
                  refine hK'.out _ _ D13.out.bel (fun _ => ?_)
                  clear hK' K'
                  try simp only [Act.put, List.setIfInBounds_toArray, List.set_cons_zero, List.set_cons_succ]
                  refine wpAnyH_take (i := 24) (oi := { dst := some 100, op := Op.binOp BinOp.neq 43 (Operand.tmp 93) (Operand.tmp 99) 43, type := 4, pos := "law.go:55", after := #[{ on := 17, ground := Ground.data }, { on := 23, ground := Ground.data }, { on := 11, ground := Ground.guard }], guard := some (11, false) }) (v := .bool false) rfl (by kernel_rfl) (by kernel_rfl) (by kernel_rfl) (fun _ _ _ h => h) (Or.inl ⟨by kernel_rfl, fun W hSW => by go_simp⟩) (D13.out.bel) ?_
                  try simp only [Act.put, List.setIfInBounds_toArray, List.set_cons_zero, List.set_cons_succ]
                  refine wpAnyH_take (i := 25) (oi := { dst := some 101, op := Op.pick (Operand.tmp 87) (Operand.const (Value.bool true)) (Operand.tmp 100), type := 4, pos := "law.go:55", after := #[{ on := 11, ground := Ground.data }, { on := 24, ground := Ground.data }], guard := none }) (v := .bool false) rfl (by kernel_rfl) (by kernel_rfl) (by kernel_rfl) (fun _ _ _ h => h) (Or.inl ⟨by kernel_rfl, fun W hSW => by go_simp⟩) (D13.out.bel) ?_
                  try simp only [Act.put, List.setIfInBounds_toArray, List.set_cons_zero, List.set_cons_succ]
                  refine wpAnyH_take (i := 26) (oi := { dst := some 102, op := Op.move (Operand.tmp 101), type := 4, pos := "law.go:55", after := #[{ on := 25, ground := Ground.data }, { on := 23, ground := Ground.chain }], guard := none }) (v := .bool false) rfl (by kernel_rfl) (by kernel_rfl) (by kernel_rfl) (fun _ _ _ h => h) (Or.inl ⟨by kernel_rfl, fun W hSW => by go_simp⟩) (D13.out.bel) ?_
                  try simp only [Act.put, List.setIfInBounds_toArray, List.set_cons_zero, List.set_cons_succ]
                  refine wpAnyH_take (i := 27) (oi := { dst := some 103, op := Op.move (Operand.tmp 10), type := 3, pos := "law.go:55", after := #[{ on := 26, ground := Ground.guard }], guard := some (26, false) }) (v := .int .i64 (j : Int)) rfl (by kernel_rfl) (by kernel_rfl) (by kernel_rfl) (fun _ _ _ h => h) (Or.inl ⟨by kernel_rfl, fun W hSW => by go_simp⟩) (D13.out.bel) ?_
                  try simp only [Act.put, List.setIfInBounds_toArray, List.set_cons_zero, List.set_cons_succ]
                  refine wpAnyH_take (i := 28) (oi := { dst := some 104, op := Op.binOp BinOp.rem 3 (Operand.tmp 103) (Operand.const (Value.int IntKind.i64 8)) 3, type := 3, pos := "law.go:55", after := #[{ on := 27, ground := Ground.data }, { on := 26, ground := Ground.guard }], guard := some (26, false) }) (v := .int .i64 0) rfl (by kernel_rfl) (by kernel_rfl) (by kernel_rfl) (fun _ _ _ h => h) (Or.inl ⟨by kernel_rfl, fun W hSW => by go_simp⟩) (D13.out.bel) ?_
                  try simp only [Act.put, List.setIfInBounds_toArray, List.set_cons_zero, List.set_cons_succ]
                  refine wpAnyH_take (i := 29) (oi := { dst := some 105, op := Op.binOp BinOp.eql 3 (Operand.tmp 104) (Operand.const (Value.int IntKind.i64 0)) 3, type := 4, pos := "law.go:55", after := #[{ on := 28, ground := Ground.data }, { on := 26, ground := Ground.guard }], guard := some (26, false) }) (v := .bool true) rfl (by kernel_rfl) (by kernel_rfl) (by kernel_rfl) (fun _ _ _ h => h) (Or.inl ⟨by kernel_rfl, fun W hSW => by go_simp⟩) (D13.out.bel) ?_
                  try simp only [Act.put, List.setIfInBounds_toArray, List.set_cons_zero, List.set_cons_succ]
                  refine wpAnyH_take (i := 30) (oi := { dst := some 106, op := Op.move (Operand.tmp 105), type := 4, pos := "law.go:55", after := #[{ on := 29, ground := Ground.data }, { on := 26, ground := Ground.chain }, { on := 26, ground := Ground.guard }], guard := some (26, false) }) (v := .bool true) rfl (by kernel_rfl) (by kernel_rfl) (by kernel_rfl) (fun _ _ _ h => h) (Or.inl ⟨by kernel_rfl, fun W hSW => by go_simp⟩) (D13.out.bel) ?_
                  try simp only [Act.put, List.setIfInBounds_toArray, List.set_cons_zero, List.set_cons_succ]
                  refine wpAnyH_take (i := 31) (oi := { dst := some 107, op := Op.move (Operand.tmp 6), type := 28, pos := "law.go:55", after := #[{ on := 30, ground := Ground.guard }], guard := some (30, true) }) (v := .pointer (some ⟨g, 0, none⟩)) rfl (by kernel_rfl) (by kernel_rfl) (by kernel_rfl) (fun _ _ _ h => h) (Or.inl ⟨by kernel_rfl, fun W hSW => by go_simp⟩) (D13.out.bel) ?_
                  try simp only [Act.put, List.setIfInBounds_toArray, List.set_cons_zero, List.set_cons_succ]
                  refine wpAnyH_take (i := 33) (oi := { dst := some 109, op := Op.move (Operand.tmp 8), type := 32, pos := "law.go:55", after := #[{ on := 30, ground := Ground.guard }], guard := some (30, true) }) (v := .pointer (some ⟨g2, 0, none⟩)) rfl (by kernel_rfl) (by kernel_rfl) (by kernel_rfl) (fun _ _ _ h => h) (Or.inl ⟨by kernel_rfl, fun W hSW => by go_simp⟩) (D13.out.bel) ?_
                  try simp only [Act.put, List.setIfInBounds_toArray, List.set_cons_zero, List.set_cons_succ]
                  refine wpAnyH_take (i := 34) (oi := { dst := some 110, op := Op.nilCheck (Operand.tmp 109), type := 0, pos := "law.go:55", after := #[{ on := 33, ground := Ground.data }, { on := 30, ground := Ground.guard }], guard := some (30, true) }) (v := .pointer (some ⟨g2, 0, none⟩)) rfl (by kernel_rfl) (by kernel_rfl) (by kernel_rfl) (fun _ _ _ h => h) (Or.inl ⟨by kernel_rfl, fun W hSW => by go_simp⟩) (D13.out.bel) ?_
                  try simp only [Act.put, List.setIfInBounds_toArray, List.set_cons_zero, List.set_cons_succ]
                  refine wpAnyH_take (i := 35) (oi := { dst := some 111, op := Op.fieldAddr 37 (Operand.tmp 110) 0, type := 0, pos := "law.go:55", after := #[{ on := 34, ground := Ground.data }, { on := 30, ground := Ground.guard }], guard := some (30, true) }) (v := .pointer (some ⟨g2, 0, none⟩)) rfl (by kernel_rfl) (by kernel_rfl) (by kernel_rfl) (fun _ _ _ h => h) (Or.inl ⟨by kernel_rfl, fun W hSW => by go_simp⟩) (D13.out.bel) ?_
                  try simp only [Act.put, List.setIfInBounds_toArray, List.set_cons_zero, List.set_cons_succ]
                  refine wpAnyH_ready (rs := [32, 36]) (by kernel_rfl) (by simp) ?_
                  refine (AllReadyH.cons (o := { dst := some 108, op := Op.call { callee := Callee.value (Operand.func 18), args := #[Operand.tmp 107], argTypes := #[28] }, type := 22, pos := "law.go:55", after := #[{ on := 31, ground := Ground.data }, { on := 30, ground := Ground.chain }, { on := 30, ground := Ground.guard }], guard := some (30, true) }) rfl (fun K' hK' => ?_) (AllReadyH.cons (o := { dst := some 112, op := Op.load 22 (Operand.tmp 111), type := 22, pos := "law.go:55", after := #[{ on := 35, ground := Ground.data }, { on := 30, ground := Ground.guard }], guard := some (30, true) }) rfl (fun K' hK' => ?_) AllReadyH.nil))
                  · go_simp
                    go_at_call 18
                    refine (list_any D13.out.s1.led (Nat.le_trans D13.out.s1.len (by decide))).mono ?_
                    rintro E w14 ⟨ra, ca, rfl, hRa, _, b14⟩
                    have D14 := Lib.hid (D13.out.below b14)
                    have IA := Lib.hid hRa.its
                    clear hRa b14 D13
                    refine hK'.out _ _ D14.out.bel (fun _ => ?_)
                    clear hK' K'
                    try simp only [Act.put, List.setIfInBounds_toArray, List.set_cons_zero, List.set_cons_succ]
                    refine wpAnyH_ready (rs := [36]) (by kernel_rfl) (by simp) ?_
                    refine AllReadyH.cons (o := { dst := some 112, op := Op.load 22 (Operand.tmp 111), type := 22, pos := "law.go:55", after := #[{ on := 35, ground := Ground.data }, { on := 30, ground := Ground.guard }], guard := some (30, true) }) rfl (fun K' hK' => ?_) AllReadyH.nil
                    have hcr := D14.out.s2.cell
                    go_simp
                    clear hcr
                    refine hK'.out _ _ D14.out.bel (fun _ => ?_)
                    clear hK' K'
                    try simp only [Act.put, List.setIfInBounds_toArray, List.set_cons_zero, List.set_cons_succ]
                    refine wpAnyH_ready (rs := [37]) (by kernel_rfl) (by simp) ?_
                    refine AllReadyH.cons (o := { dst := some 113, op := Op.call { callee := Callee.value (Operand.func 17), args := #[Operand.tmp 108, Operand.tmp 112], argTypes := #[22, 22] }, type := 4, pos := "law.go:55", after := #[{ on := 32, ground := Ground.data }, { on := 36, ground := Ground.data }, { on := 32, ground := Ground.chain }, { on := 30, ground := Ground.guard }], guard := some (30, true) }) rfl (fun K' hK' => ?_) AllReadyH.nil
                    go_simp
                    go_at_call 17
                    refine (HSame.out _ _ _ _ _ (doR xs p).2 (doR xs p).2 IA.out D14.out.s2.row.its (Nat.le_trans D14.out.s1.len (by decide)) (Nat.le_trans D14.out.s1.len (by decide))).mono ?_
                    rintro E w15 ⟨rfl, b15⟩
                    rw [decide_eq_true rfl]
                    have D15 := Lib.hid (D14.out.below b15)
                    clear b15 D14 IA
                    refine hK'.out _ _ D15.out.bel (fun _ => ?_)
                    clear hK' K'
                    try simp only [Act.put, List.setIfInBounds_toArray, List.set_cons_zero, List.set_cons_succ]
                    refine wpAnyH_take (i := 38) (oi := { dst := some 114, op := Op.unOp UnOp.not 4 (Operand.tmp 113), type := 4, pos := "law.go:55", after := #[{ on := 37, ground := Ground.data }, { on := 30, ground := Ground.guard }], guard := some (30, true) }) (v := .bool false) rfl (by kernel_rfl) (by kernel_rfl) (by kernel_rfl) (fun _ _ _ h => h) (Or.inl ⟨by kernel_rfl, fun W hSW => by go_simp⟩) (D15.out.bel) ?_
                    try simp only [Act.put, List.setIfInBounds_toArray, List.set_cons_zero, List.set_cons_succ]
                    refine wpAnyH_take (i := 39) (oi := { dst := some 115, op := Op.pick (Operand.tmp 106) (Operand.tmp 114) (Operand.const (Value.bool false)), type := 4, pos := "law.go:55", after := #[{ on := 30, ground := Ground.data }, { on := 38, ground := Ground.data }, { on := 26, ground := Ground.guard }], guard := some (26, false) }) (v := .bool false) rfl (by kernel_rfl) (by kernel_rfl) (by kernel_rfl) (fun _ _ _ h => h) (Or.inl ⟨by kernel_rfl, fun W hSW => by go_simp⟩) (D15.out.bel) ?_
                    try simp only [Act.put, List.setIfInBounds_toArray, List.set_cons_zero, List.set_cons_succ]
                    refine wpAnyH_take (i := 40) (oi := { dst := some 116, op := Op.pick (Operand.tmp 102) (Operand.const (Value.bool true)) (Operand.tmp 115), type := 4, pos := "law.go:55", after := #[{ on := 26, ground := Ground.data }, { on := 39, ground := Ground.data }], guard := none }) (v := .bool false) rfl (by kernel_rfl) (by kernel_rfl) (by kernel_rfl) (fun _ _ _ h => h) (Or.inl ⟨by kernel_rfl, fun W hSW => by go_simp⟩) (D15.out.bel) ?_
                    try simp only [Act.put, List.setIfInBounds_toArray, List.set_cons_zero, List.set_cons_succ]
                    refine wpAnyH_done (by kernel_rfl) ?_ _
                    go_wp2_with fail
                    go_roundw
                    case measure => simp [intOf] <;> omega
                    case rel => exact ⟨j + 1, r12, c12, _, r13, c13, by omega, by go_num, D15⟩
                  · have hcr := D13.out.s2.cell
                    go_simp
                    clear hcr
                    refine hK'.out _ _ D13.out.bel (fun _ => ?_)
                    clear hK' K'
                    try simp only [Act.put, List.setIfInBounds_toArray, List.set_cons_zero, List.set_cons_succ]
                    refine wpAnyH_ready (rs := [32]) (by kernel_rfl) (by simp) ?_
                    refine AllReadyH.cons (o := { dst := some 108, op := Op.call { callee := Callee.value (Operand.func 18), args := #[Operand.tmp 107], argTypes := #[28] }, type := 22, pos := "law.go:55", after := #[{ on := 31, ground := Ground.data }, { on := 30, ground := Ground.chain }, { on := 30, ground := Ground.guard }], guard := some (30, true) }) rfl (fun K' hK' => ?_) AllReadyH.nil
                    go_simp
                    go_at_call 18
                    refine (list_any D13.out.s1.led (Nat.le_trans D13.out.s1.len (by decide))).mono ?_
                    rintro E w14 ⟨ra, ca, rfl, hRa, _, b14⟩
                    have D14 := Lib.hid (D13.out.below b14)
                    have IA := Lib.hid hRa.its
                    clear hRa b14 D13
                    refine hK'.out _ _ D14.out.bel (fun _ => ?_)
                    clear hK' K'
                    try simp only [Act.put, List.setIfInBounds_toArray, List.set_cons_zero, List.set_cons_succ]
                    refine wpAnyH_ready (rs := [37]) (by kernel_rfl) (by simp) ?_
                    refine AllReadyH.cons (o := { dst := some 113, op := Op.call { callee := Callee.value (Operand.func 17), args := #[Operand.tmp 108, Operand.tmp 112], argTypes := #[22, 22] }, type := 4, pos := "law.go:55", after := #[{ on := 32, ground := Ground.data }, { on := 36, ground := Ground.data }, { on := 32, ground := Ground.chain }, { on := 30, ground := Ground.guard }], guard := some (30, true) }) rfl (fun K' hK' => ?_) AllReadyH.nil
                    go_simp
                    go_at_call 17
                    refine (HSame.out _ _ _ _ _ (doR xs p).2 (doR xs p).2 IA.out D14.out.s2.row.its (Nat.le_trans D14.out.s1.len (by decide)) (Nat.le_trans D14.out.s1.len (by decide))).mono ?_
                    rintro E w15 ⟨rfl, b15⟩
                    rw [decide_eq_true rfl]
                    have D15 := Lib.hid (D14.out.below b15)
                    clear b15 D14 IA
                    refine hK'.out _ _ D15.out.bel (fun _ => ?_)
                    clear hK' K'
                    try simp only [Act.put, List.setIfInBounds_toArray, List.set_cons_zero, List.set_cons_succ]
                    refine wpAnyH_take (i := 38) (oi := { dst := some 114, op := Op.unOp UnOp.not 4 (Operand.tmp 113), type := 4, pos := "law.go:55", after := #[{ on := 37, ground := Ground.data }, { on := 30, ground := Ground.guard }], guard := some (30, true) }) (v := .bool false) rfl (by kernel_rfl) (by kernel_rfl) (by kernel_rfl) (fun _ _ _ h => h) (Or.inl ⟨by kernel_rfl, fun W hSW => by go_simp⟩) (D15.out.bel) ?_
                    try simp only [Act.put, List.setIfInBounds_toArray, List.set_cons_zero, List.set_cons_succ]
                    refine wpAnyH_take (i := 39) (oi := { dst := some 115, op := Op.pick (Operand.tmp 106) (Operand.tmp 114) (Operand.const (Value.bool false)), type := 4, pos := "law.go:55", after := #[{ on := 30, ground := Ground.data }, { on := 38, ground := Ground.data }, { on := 26, ground := Ground.guard }], guard := some (26, false) }) (v := .bool false) rfl (by kernel_rfl) (by kernel_rfl) (by kernel_rfl) (fun _ _ _ h => h) (Or.inl ⟨by kernel_rfl, fun W hSW => by go_simp⟩) (D15.out.bel) ?_
                    try simp only [Act.put, List.setIfInBounds_toArray, List.set_cons_zero, List.set_cons_succ]
                    refine wpAnyH_take (i := 40) (oi := { dst := some 116, op := Op.pick (Operand.tmp 102) (Operand.const (Value.bool true)) (Operand.tmp 115), type := 4, pos := "law.go:55", after := #[{ on := 26, ground := Ground.data }, { on := 39, ground := Ground.data }], guard := none }) (v := .bool false) rfl (by kernel_rfl) (by kernel_rfl) (by kernel_rfl) (fun _ _ _ h => h) (Or.inl ⟨by kernel_rfl, fun W hSW => by go_simp⟩) (D15.out.bel) ?_
                    try simp only [Act.put, List.setIfInBounds_toArray, List.set_cons_zero, List.set_cons_succ]
                    refine wpAnyH_done (by kernel_rfl) ?_ _
                    go_wp2_with fail
                    go_roundw
                    case measure => simp [intOf] <;> omega
                    case rel => exact ⟨j + 1, r12, c12, _, r13, c13, by omega, by go_num, D15⟩
                · have h8a : ¬ ((j : Int)).tmod 8 = 0 := by rw [Int.tmod_eq_emod_of_nonneg hj0]; omega
                  obtain ⟨q8, hq8⟩ : ∃ q8, q8 = ((j : Int)).tmod 8 := ⟨_, rfl⟩
                  have H8 := Lib.hid hq8
                  rw [← hq8] at h8a
                  have hq8' := hq8.symm
                  clear hq8
                  clear h8
                  go_wp2_with fail
                  refine wp_region_any (by kernel_rfl) ?_
                  refine held_gen (G := fun W => wpAny _ _ _ _ _ _ _ W) (fun W => Par w g r c xs g2 r2 c2 xs W) (D.out.below (below_drewN (Below.refl _ _) 1)) (fun W9 hW9 => ?_)
                  have D9 := Lib.hid hW9
                  clear hW9 D
                  refine wpAny_of_held (S := fun W => Below w.heap.size w W) _ _ _ _ ?_
                  refine wpAnyH_take (i := 0) (oi := { dst := some 76, op := Op.move (Operand.tmp 1), type := 23, pos := "law.go:55", after := #[], guard := none }) (v := .slice (some ⟨b', off, none⟩) n c1) rfl (by kernel_rfl) (by kernel_rfl) (by kernel_rfl) (fun _ _ _ h => h) (Or.inl ⟨by kernel_rfl, fun W hSW => by go_simp⟩) (D9.out.bel) ?_
                  try simp only [Act.put, List.setIfInBounds_toArray, List.set_cons_zero, List.set_cons_succ]
                  refine wpAnyH_take (i := 1) (oi := { dst := some 77, op := Op.move (Operand.tmp 10), type := 3, pos := "law.go:55", after := #[], guard := none }) (v := .int .i64 (j : Int)) rfl (by kernel_rfl) (by kernel_rfl) (by kernel_rfl) (fun _ _ _ h => h) (Or.inl ⟨by kernel_rfl, fun W hSW => by go_simp⟩) (D9.out.bel) ?_
                  try simp only [Act.put, List.setIfInBounds_toArray, List.set_cons_zero, List.set_cons_succ]
                  refine wpAnyH_take (i := 2) (oi := { dst := some 78, op := Op.indexAddr 23 (Operand.tmp 76) (Operand.tmp 77), type := 0, pos := "law.go:55", after := #[{ on := 0, ground := Ground.data }, { on := 1, ground := Ground.data }], guard := none }) (v := .pointer (some ⟨b', off + j * 6, none⟩)) rfl (by kernel_rfl) (by kernel_rfl) (by kernel_rfl) (fun _ _ _ h => h) (Or.inl ⟨by kernel_rfl, fun W hSW => by go_simp⟩) (D9.out.bel) ?_
                  try simp only [Act.put, List.setIfInBounds_toArray, List.set_cons_zero, List.set_cons_succ]
                  refine wpAnyH_take (i := 3) (oi := { dst := some 79, op := Op.load 41 (Operand.tmp 78), type := 41, pos := "law.go:55", after := #[{ on := 2, ground := Ground.data }], guard := none }) (v := .agg (opC p).toArray) rfl (by kernel_rfl) (by kernel_rfl) (by kernel_rfl) (fun _ _ _ h => h) (Or.inl ⟨by kernel_rfl, fun W hSW => exec_load_mid 41 (.tmp 78) rfl b' (off + j * 6) rfl (opC p) _ (HRg.out W hSW) Tryd.underlying41 rfl (HP.out)⟩) (D9.out.bel) ?_
                  try simp only [Act.put, List.setIfInBounds_toArray, List.set_cons_zero, List.set_cons_succ]
                  refine wpAnyH_take (i := 5) (oi := { dst := some 81, op := Op.move (Operand.tmp 1), type := 23, pos := "law.go:55", after := #[], guard := none }) (v := .slice (some ⟨b', off, none⟩) n c1) rfl (by kernel_rfl) (by kernel_rfl) (by kernel_rfl) (fun _ _ _ h => h) (Or.inl ⟨by kernel_rfl, fun W hSW => by go_simp⟩) (D9.out.bel) ?_
                  try simp only [Act.put, List.setIfInBounds_toArray, List.set_cons_zero, List.set_cons_succ]
                  refine wpAnyH_take (i := 6) (oi := { dst := some 82, op := Op.move (Operand.tmp 10), type := 3, pos := "law.go:55", after := #[], guard := none }) (v := .int .i64 (j : Int)) rfl (by kernel_rfl) (by kernel_rfl) (by kernel_rfl) (fun _ _ _ h => h) (Or.inl ⟨by kernel_rfl, fun W hSW => by go_simp⟩) (D9.out.bel) ?_
                  try simp only [Act.put, List.setIfInBounds_toArray, List.set_cons_zero, List.set_cons_succ]
                  refine wpAnyH_take (i := 7) (oi := { dst := some 83, op := Op.indexAddr 23 (Operand.tmp 81) (Operand.tmp 82), type := 0, pos := "law.go:55", after := #[{ on := 5, ground := Ground.data }, { on := 6, ground := Ground.data }], guard := none }) (v := .pointer (some ⟨b', off + j * 6, none⟩)) rfl (by kernel_rfl) (by kernel_rfl) (by kernel_rfl) (fun _ _ _ h => h) (Or.inl ⟨by kernel_rfl, fun W hSW => by go_simp⟩) (D9.out.bel) ?_
                  try simp only [Act.put, List.setIfInBounds_toArray, List.set_cons_zero, List.set_cons_succ]
                  refine wpAnyH_take (i := 8) (oi := { dst := some 84, op := Op.load 41 (Operand.tmp 83), type := 41, pos := "law.go:55", after := #[{ on := 7, ground := Ground.data }], guard := none }) (v := .agg (opC p).toArray) rfl (by kernel_rfl) (by kernel_rfl) (by kernel_rfl) (fun _ _ _ h => h) (Or.inl ⟨by kernel_rfl, fun W hSW => exec_load_mid 41 (.tmp 83) rfl b' (off + j * 6) rfl (opC p) _ (HRg.out W hSW) Tryd.underlying41 rfl (HP.out)⟩) (D9.out.bel) ?_
                  try simp only [Act.put, List.setIfInBounds_toArray, List.set_cons_zero, List.set_cons_succ]
                  refine wpAnyH_ready (rs := [4]) (by kernel_rfl) (by simp) ?_
                  refine AllReadyH.cons (o := { dst := some 80, op := Op.call { callee := Callee.value (Operand.func 13), args := #[Operand.tmp 79], argTypes := #[41] }, type := 4, pos := "law.go:55", after := #[{ on := 3, ground := Ground.data }], guard := none }) rfl (fun K' hK' => ?_) AllReadyH.nil
                  go_simp
                  go_at_call 13
                  refine (HM13.out _).mono ?_
                  rintro E w10 ⟨rfl, b10⟩
                  have D10 := Lib.hid (D9.out.below b10)
                  clear b10 D9
                  refine hK'.out _ _ D10.out.bel (fun _ => ?_)
                  clear hK' K'
                  try simp only [Act.put, List.setIfInBounds_toArray, List.set_cons_zero, List.set_cons_succ]
                  refine wpAnyH_ready (rs := [9]) (by kernel_rfl) (by simp) ?_
                  refine AllReadyH.cons (o := { dst := some 85, op := Op.call { callee := Callee.value (Operand.func 14), args := #[Operand.tmp 84], argTypes := #[41] }, type := 4, pos := "law.go:55", after := #[{ on := 8, ground := Ground.data }, { on := 4, ground := Ground.chain }], guard := none }) rfl (fun K' hK' => ?_) AllReadyH.nil
                  go_simp
                  go_at_call 14
                  refine (HM14.out _).mono ?_
                  rintro E w11 ⟨rfl, b11⟩
                  have D11 := Lib.hid (D10.out.below b11)
                  clear b11 D10
                  refine hK'.out _ _ D11.out.bel (fun _ => ?_)
                  clear hK' K'
                  try simp only [Act.put, List.setIfInBounds_toArray, List.set_cons_zero, List.set_cons_succ]
                  refine wpAnyH_take (i := 10) (oi := { dst := some 86, op := Op.binOp BinOp.neq 4 (Operand.tmp 80) (Operand.tmp 85) 4, type := 4, pos := "law.go:55", after := #[{ on := 4, ground := Ground.data }, { on := 9, ground := Ground.data }], guard := none }) (v := .bool false) rfl (by kernel_rfl) (by kernel_rfl) (by kernel_rfl) (fun _ _ _ h => h) (Or.inl ⟨by kernel_rfl, fun W hSW => by cases z <;> go_simp⟩) (D11.out.bel) ?_
                  try simp only [Act.put, List.setIfInBounds_toArray, List.set_cons_zero, List.set_cons_succ]
                  refine wpAnyH_take (i := 11) (oi := { dst := some 87, op := Op.move (Operand.tmp 86), type := 4, pos := "law.go:55", after := #[{ on := 10, ground := Ground.data }, { on := 9, ground := Ground.chain }], guard := none }) (v := .bool false) rfl (by kernel_rfl) (by kernel_rfl) (by kernel_rfl) (fun _ _ _ h => h) (Or.inl ⟨by kernel_rfl, fun W hSW => by go_simp⟩) (D11.out.bel) ?_
                  try simp only [Act.put, List.setIfInBounds_toArray, List.set_cons_zero, List.set_cons_succ]
                  refine wpAnyH_take (i := 12) (oi := { dst := some 88, op := Op.move (Operand.tmp 6), type := 28, pos := "law.go:55", after := #[{ on := 11, ground := Ground.guard }], guard := some (11, false) }) (v := .pointer (some ⟨g, 0, none⟩)) rfl (by kernel_rfl) (by kernel_rfl) (by kernel_rfl) (fun _ _ _ h => h) (Or.inl ⟨by kernel_rfl, fun W hSW => by go_simp⟩) (D11.out.bel) ?_
                  try simp only [Act.put, List.setIfInBounds_toArray, List.set_cons_zero, List.set_cons_succ]
                  refine wpAnyH_take (i := 13) (oi := { dst := some 89, op := Op.move (Operand.tmp 1), type := 23, pos := "law.go:55", after := #[{ on := 11, ground := Ground.guard }], guard := some (11, false) }) (v := .slice (some ⟨b', off, none⟩) n c1) rfl (by kernel_rfl) (by kernel_rfl) (by kernel_rfl) (fun _ _ _ h => h) (Or.inl ⟨by kernel_rfl, fun W hSW => by go_simp⟩) (D11.out.bel) ?_
                  try simp only [Act.put, List.setIfInBounds_toArray, List.set_cons_zero, List.set_cons_succ]
                  refine wpAnyH_take (i := 14) (oi := { dst := some 90, op := Op.move (Operand.tmp 10), type := 3, pos := "law.go:55", after := #[{ on := 11, ground := Ground.guard }], guard := some (11, false) }) (v := .int .i64 (j : Int)) rfl (by kernel_rfl) (by kernel_rfl) (by kernel_rfl) (fun _ _ _ h => h) (Or.inl ⟨by kernel_rfl, fun W hSW => by go_simp⟩) (D11.out.bel) ?_
                  try simp only [Act.put, List.setIfInBounds_toArray, List.set_cons_zero, List.set_cons_succ]
                  refine wpAnyH_take (i := 15) (oi := { dst := some 91, op := Op.indexAddr 23 (Operand.tmp 89) (Operand.tmp 90), type := 0, pos := "law.go:55", after := #[{ on := 13, ground := Ground.data }, { on := 14, ground := Ground.data }, { on := 11, ground := Ground.guard }], guard := some (11, false) }) (v := .pointer (some ⟨b', off + j * 6, none⟩)) rfl (by kernel_rfl) (by kernel_rfl) (by kernel_rfl) (fun _ _ _ h => h) (Or.inl ⟨by kernel_rfl, fun W hSW => by go_simp⟩) (D11.out.bel) ?_
                  try simp only [Act.put, List.setIfInBounds_toArray, List.set_cons_zero, List.set_cons_succ]
                  refine wpAnyH_take (i := 16) (oi := { dst := some 92, op := Op.load 41 (Operand.tmp 91), type := 41, pos := "law.go:55", after := #[{ on := 15, ground := Ground.data }, { on := 11, ground := Ground.guard }], guard := some (11, false) }) (v := .agg (opC p).toArray) rfl (by kernel_rfl) (by kernel_rfl) (by kernel_rfl) (fun _ _ _ h => h) (Or.inl ⟨by kernel_rfl, fun W hSW => exec_load_mid 41 (.tmp 91) rfl b' (off + j * 6) rfl (opC p) _ (HRg.out W hSW) Tryd.underlying41 rfl (HP.out)⟩) (D11.out.bel) ?_
                  try simp only [Act.put, List.setIfInBounds_toArray, List.set_cons_zero, List.set_cons_succ]
                  refine wpAnyH_take (i := 18) (oi := { dst := some 94, op := Op.move (Operand.tmp 8), type := 32, pos := "law.go:55", after := #[{ on := 11, ground := Ground.guard }], guard := some (11, false) }) (v := .pointer (some ⟨g2, 0, none⟩)) rfl (by kernel_rfl) (by kernel_rfl) (by kernel_rfl) (fun _ _ _ h => h) (Or.inl ⟨by kernel_rfl, fun W hSW => by go_simp⟩) (D11.out.bel) ?_
                  try simp only [Act.put, List.setIfInBounds_toArray, List.set_cons_zero, List.set_cons_succ]
                  refine wpAnyH_take (i := 19) (oi := { dst := some 95, op := Op.move (Operand.tmp 1), type := 23, pos := "law.go:55", after := #[{ on := 11, ground := Ground.guard }], guard := some (11, false) }) (v := .slice (some ⟨b', off, none⟩) n c1) rfl (by kernel_rfl) (by kernel_rfl) (by kernel_rfl) (fun _ _ _ h => h) (Or.inl ⟨by kernel_rfl, fun W hSW => by go_simp⟩) (D11.out.bel) ?_
                  try simp only [Act.put, List.setIfInBounds_toArray, List.set_cons_zero, List.set_cons_succ]
                  refine wpAnyH_take (i := 20) (oi := { dst := some 96, op := Op.move (Operand.tmp 10), type := 3, pos := "law.go:55", after := #[{ on := 11, ground := Ground.guard }], guard := some (11, false) }) (v := .int .i64 (j : Int)) rfl (by kernel_rfl) (by kernel_rfl) (by kernel_rfl) (fun _ _ _ h => h) (Or.inl ⟨by kernel_rfl, fun W hSW => by go_simp⟩) (D11.out.bel) ?_
                  try simp only [Act.put, List.setIfInBounds_toArray, List.set_cons_zero, List.set_cons_succ]
                  refine wpAnyH_take (i := 21) (oi := { dst := some 97, op := Op.indexAddr 23 (Operand.tmp 95) (Operand.tmp 96), type := 0, pos := "law.go:55", after := #[{ on := 19, ground := Ground.data }, { on := 20, ground := Ground.data }, { on := 11, ground := Ground.guard }], guard := some (11, false) }) (v := .pointer (some ⟨b', off + j * 6, none⟩)) rfl (by kernel_rfl) (by kernel_rfl) (by kernel_rfl) (fun _ _ _ h => h) (Or.inl ⟨by kernel_rfl, fun W hSW => by go_simp⟩) (D11.out.bel) ?_
                  try simp only [Act.put, List.setIfInBounds_toArray, List.set_cons_zero, List.set_cons_succ]
                  refine wpAnyH_take (i := 22) (oi := { dst := some 98, op := Op.load 41 (Operand.tmp 97), type := 41, pos := "law.go:55", after := #[{ on := 21, ground := Ground.data }, { on := 11, ground := Ground.guard }], guard := some (11, false) }) (v := .agg (opC p).toArray) rfl (by kernel_rfl) (by kernel_rfl) (by kernel_rfl) (fun _ _ _ h => h) (Or.inl ⟨by kernel_rfl, fun W hSW => exec_load_mid 41 (.tmp 97) rfl b' (off + j * 6) rfl (opC p) _ (HRg.out W hSW) Tryd.underlying41 rfl (HP.out)⟩) (D11.out.bel) ?_
                  try simp only [Act.put, List.setIfInBounds_toArray, List.set_cons_zero, List.set_cons_succ]
                  refine wpAnyH_ready (rs := [17]) (by kernel_rfl) (by simp) ?_
                  refine AllReadyH.cons (o := { dst := some 93, op := Op.call { callee := Callee.value (Operand.func 15), args := #[Operand.tmp 88, Operand.tmp 92], argTypes := #[28, 41] }, type := 43, pos := "law.go:55", after := #[{ on := 12, ground := Ground.data }, { on := 16, ground := Ground.data }, { on := 11, ground := Ground.chain }, { on := 11, ground := Ground.guard }], guard := some (11, false) }) rfl (fun K' hK' => ?_) AllReadyH.nil
                  go_simp
                  go_at_call 15
                  refine (D11.out.do1 p).mono ?_
                  rintro E w12 ⟨rfl, r12, c12, h12⟩
                  have D12 := Lib.hid h12
                  clear h12 D11
                  refine hK'.out _ _ D12.out.bel (fun _ => ?_)
                  clear hK' K'
                  try simp only [Act.put, List.setIfInBounds_toArray, List.set_cons_zero, List.set_cons_succ]
                  refine wpAnyH_ready (rs := [23]) (by kernel_rfl) (by simp) ?_
                  refine AllReadyH.cons (o := { dst := some 99, op := Op.call { callee := Callee.value (Operand.func 16), args := #[Operand.tmp 94, Operand.tmp 98], argTypes := #[32, 41] }, type := 43, pos := "law.go:55", after := #[{ on := 18, ground := Ground.data }, { on := 22, ground := Ground.data }, { on := 17, ground := Ground.chain }, { on := 11, ground := Ground.guard }], guard := some (11, false) }) rfl (fun K' hK' => ?_) AllReadyH.nil
                  go_simp
                  go_at_call 16
                  refine (D12.out.do2 HRi.out (Nat.le_trans HLe.out (by decide)) HSm.out p).mono ?_
                  rintro E w13 ⟨rfl, r13, c13, h13⟩
                  have D13 := Lib.hid h13
                  clear h13 D12
                  refine hK'.out _ _ D13.out.bel (fun _ => ?_)
                  clear hK' K'
                  try simp only [Act.put, List.setIfInBounds_toArray, List.set_cons_zero, List.set_cons_succ]
                  refine wpAnyH_take (i := 24) (oi := { dst := some 100, op := Op.binOp BinOp.neq 43 (Operand.tmp 93) (Operand.tmp 99) 43, type := 4, pos := "law.go:55", after := #[{ on := 17, ground := Ground.data }, { on := 23, ground := Ground.data }, { on := 11, ground := Ground.guard }], guard := some (11, false) }) (v := .bool false) rfl (by kernel_rfl) (by kernel_rfl) (by kernel_rfl) (fun _ _ _ h => h) (Or.inl ⟨by kernel_rfl, fun W hSW => by go_simp⟩) (D13.out.bel) ?_
                  try simp only [Act.put, List.setIfInBounds_toArray, List.set_cons_zero, List.set_cons_succ]
                  refine wpAnyH_take (i := 25) (oi := { dst := some 101, op := Op.pick (Operand.tmp 87) (Operand.const (Value.bool true)) (Operand.tmp 100), type := 4, pos := "law.go:55", after := #[{ on := 11, ground := Ground.data }, { on := 24, ground := Ground.data }], guard := none }) (v := .bool false) rfl (by kernel_rfl) (by kernel_rfl) (by kernel_rfl) (fun _ _ _ h => h) (Or.inl ⟨by kernel_rfl, fun W hSW => by go_simp⟩) (D13.out.bel) ?_
                  try simp only [Act.put, List.setIfInBounds_toArray, List.set_cons_zero, List.set_cons_succ]
                  refine wpAnyH_take (i := 26) (oi := { dst := some 102, op := Op.move (Operand.tmp 101), type := 4, pos := "law.go:55", after := #[{ on := 25, ground := Ground.data }, { on := 23, ground := Ground.chain }], guard := none }) (v := .bool false) rfl (by kernel_rfl) (by kernel_rfl) (by kernel_rfl) (fun _ _ _ h => h) (Or.inl ⟨by kernel_rfl, fun W hSW => by go_simp⟩) (D13.out.bel) ?_
                  try simp only [Act.put, List.setIfInBounds_toArray, List.set_cons_zero, List.set_cons_succ]
                  refine wpAnyH_take (i := 27) (oi := { dst := some 103, op := Op.move (Operand.tmp 10), type := 3, pos := "law.go:55", after := #[{ on := 26, ground := Ground.guard }], guard := some (26, false) }) (v := .int .i64 (j : Int)) rfl (by kernel_rfl) (by kernel_rfl) (by kernel_rfl) (fun _ _ _ h => h) (Or.inl ⟨by kernel_rfl, fun W hSW => by go_simp⟩) (D13.out.bel) ?_
                  try simp only [Act.put, List.setIfInBounds_toArray, List.set_cons_zero, List.set_cons_succ]
                  refine wpAnyH_take (i := 28) (oi := { dst := some 104, op := Op.binOp BinOp.rem 3 (Operand.tmp 103) (Operand.const (Value.int IntKind.i64 8)) 3, type := 3, pos := "law.go:55", after := #[{ on := 27, ground := Ground.data }, { on := 26, ground := Ground.guard }], guard := some (26, false) }) (v := .int .i64 q8) rfl (by kernel_rfl) (by kernel_rfl) (by kernel_rfl) (fun _ _ _ h => h) (Or.inl ⟨by kernel_rfl, fun W hSW => by go_simp⟩) (D13.out.bel) ?_
                  try simp only [Act.put, List.setIfInBounds_toArray, List.set_cons_zero, List.set_cons_succ]
                  refine wpAnyH_take (i := 29) (oi := { dst := some 105, op := Op.binOp BinOp.eql 3 (Operand.tmp 104) (Operand.const (Value.int IntKind.i64 0)) 3, type := 4, pos := "law.go:55", after := #[{ on := 28, ground := Ground.data }, { on := 26, ground := Ground.guard }], guard := some (26, false) }) (v := .bool false) rfl (by kernel_rfl) (by kernel_rfl) (by kernel_rfl) (fun _ _ _ h => h) (Or.inl ⟨by kernel_rfl, fun W hSW => by go_simp⟩) (D13.out.bel) ?_
                  try simp only [Act.put, List.setIfInBounds_toArray, List.set_cons_zero, List.set_cons_succ]
                  refine wpAnyH_take (i := 30) (oi := { dst := some 106, op := Op.move (Operand.tmp 105), type := 4, pos := "law.go:55", after := #[{ on := 29, ground := Ground.data }, { on := 26, ground := Ground.chain }, { on := 26, ground := Ground.guard }], guard := some (26, false) }) (v := .bool false) rfl (by kernel_rfl) (by kernel_rfl) (by kernel_rfl) (fun _ _ _ h => h) (Or.inl ⟨by kernel_rfl, fun W hSW => by go_simp⟩) (D13.out.bel) ?_
                  try simp only [Act.put, List.setIfInBounds_toArray, List.set_cons_zero, List.set_cons_succ]
                  refine wpAnyH_take (i := 31) (oi := { dst := some 107, op := Op.move (Operand.tmp 6), type := 28, pos := "law.go:55", after := #[{ on := 30, ground := Ground.guard }], guard := some (30, true) }) (v := undef) rfl (by kernel_rfl) (by kernel_rfl) (by kernel_rfl) (fun _ _ _ h => h) (Or.inr ⟨by kernel_rfl, rfl⟩) (D13.out.bel) ?_
                  try simp only [Act.put, List.setIfInBounds_toArray, List.set_cons_zero, List.set_cons_succ]
                  refine wpAnyH_take (i := 32) (oi := { dst := some 108, op := Op.call { callee := Callee.value (Operand.func 18), args := #[Operand.tmp 107], argTypes := #[28] }, type := 22, pos := "law.go:55", after := #[{ on := 31, ground := Ground.data }, { on := 30, ground := Ground.chain }, { on := 30, ground := Ground.guard }], guard := some (30, true) }) (v := undef) rfl (by kernel_rfl) (by kernel_rfl) (by kernel_rfl) (fun _ _ _ h => h) (Or.inr ⟨by kernel_rfl, rfl⟩) (D13.out.bel) ?_
                  try simp only [Act.put, List.setIfInBounds_toArray, List.set_cons_zero, List.set_cons_succ]
                  refine wpAnyH_take (i := 33) (oi := { dst := some 109, op := Op.move (Operand.tmp 8), type := 32, pos := "law.go:55", after := #[{ on := 30, ground := Ground.guard }], guard := some (30, true) }) (v := undef) rfl (by kernel_rfl) (by kernel_rfl) (by kernel_rfl) (fun _ _ _ h => h) (Or.inr ⟨by kernel_rfl, rfl⟩) (D13.out.bel) ?_
                  try simp only [Act.put, List.setIfInBounds_toArray, List.set_cons_zero, List.set_cons_succ]
                  refine wpAnyH_take (i := 34) (oi := { dst := some 110, op := Op.nilCheck (Operand.tmp 109), type := 0, pos := "law.go:55", after := #[{ on := 33, ground := Ground.data }, { on := 30, ground := Ground.guard }], guard := some (30, true) }) (v := undef) rfl (by kernel_rfl) (by kernel_rfl) (by kernel_rfl) (fun _ _ _ h => h) (Or.inr ⟨by kernel_rfl, rfl⟩) (D13.out.bel) ?_
                  try simp only [Act.put, List.setIfInBounds_toArray, List.set_cons_zero, List.set_cons_succ]
                  refine wpAnyH_take (i := 35) (oi := { dst := some 111, op := Op.fieldAddr 37 (Operand.tmp 110) 0, type := 0, pos := "law.go:55", after := #[{ on := 34, ground := Ground.data }, { on := 30, ground := Ground.guard }], guard := some (30, true) }) (v := undef) rfl (by kernel_rfl) (by kernel_rfl) (by kernel_rfl) (fun _ _ _ h => h) (Or.inr ⟨by kernel_rfl, rfl⟩) (D13.out.bel) ?_
                  try simp only [Act.put, List.setIfInBounds_toArray, List.set_cons_zero, List.set_cons_succ]
                  refine wpAnyH_take (i := 36) (oi := { dst := some 112, op := Op.load 22 (Operand.tmp 111), type := 22, pos := "law.go:55", after := #[{ on := 35, ground := Ground.data }, { on := 30, ground := Ground.guard }], guard := some (30, true) }) (v := undef) rfl (by kernel_rfl) (by kernel_rfl) (by kernel_rfl) (fun _ _ _ h => h) (Or.inr ⟨by kernel_rfl, rfl⟩) (D13.out.bel) ?_
                  try simp only [Act.put, List.setIfInBounds_toArray, List.set_cons_zero, List.set_cons_succ]
                  refine wpAnyH_take (i := 37) (oi := { dst := some 113, op := Op.call { callee := Callee.value (Operand.func 17), args := #[Operand.tmp 108, Operand.tmp 112], argTypes := #[22, 22] }, type := 4, pos := "law.go:55", after := #[{ on := 32, ground := Ground.data }, { on := 36, ground := Ground.data }, { on := 32, ground := Ground.chain }, { on := 30, ground := Ground.guard }], guard := some (30, true) }) (v := undef) rfl (by kernel_rfl) (by kernel_rfl) (by kernel_rfl) (fun _ _ _ h => h) (Or.inr ⟨by kernel_rfl, rfl⟩) (D13.out.bel) ?_
                  try simp only [Act.put, List.setIfInBounds_toArray, List.set_cons_zero, List.set_cons_succ]
                  refine wpAnyH_take (i := 38) (oi := { dst := some 114, op := Op.unOp UnOp.not 4 (Operand.tmp 113), type := 4, pos := "law.go:55", after := #[{ on := 37, ground := Ground.data }, { on := 30, ground := Ground.guard }], guard := some (30, true) }) (v := undef) rfl (by kernel_rfl) (by kernel_rfl) (by kernel_rfl) (fun _ _ _ h => h) (Or.inr ⟨by kernel_rfl, rfl⟩) (D13.out.bel) ?_
                  try simp only [Act.put, List.setIfInBounds_toArray, List.set_cons_zero, List.set_cons_succ]
                  refine wpAnyH_take (i := 39) (oi := { dst := some 115, op := Op.pick (Operand.tmp 106) (Operand.tmp 114) (Operand.const (Value.bool false)), type := 4, pos := "law.go:55", after := #[{ on := 30, ground := Ground.data }, { on := 38, ground := Ground.data }, { on := 26, ground := Ground.guard }], guard := some (26, false) }) (v := .bool false) rfl (by kernel_rfl) (by kernel_rfl) (by kernel_rfl) (fun _ _ _ h => h) (Or.inl ⟨by kernel_rfl, fun W hSW => by go_simp⟩) (D13.out.bel) ?_
                  try simp only [Act.put, List.setIfInBounds_toArray, List.set_cons_zero, List.set_cons_succ]
                  refine wpAnyH_take (i := 40) (oi := { dst := some 116, op := Op.pick (Operand.tmp 102) (Operand.const (Value.bool true)) (Operand.tmp 115), type := 4, pos := "law.go:55", after := #[{ on := 26, ground := Ground.data }, { on := 39, ground := Ground.data }], guard := none }) (v := .bool false) rfl (by kernel_rfl) (by kernel_rfl) (by kernel_rfl) (fun _ _ _ h => h) (Or.inl ⟨by kernel_rfl, fun W hSW => by go_simp⟩) (D13.out.bel) ?_
                  try simp only [Act.put, List.setIfInBounds_toArray, List.set_cons_zero, List.set_cons_succ]
                  refine wpAnyH_done (by kernel_rfl) ?_ _
                  go_wp2_with fail
                  go_roundw
                  case measure => simp [intOf] <;> omega
                  case rel => exact ⟨j + 1, r12, c12, _, r13, c13, by omega, by go_num, D13⟩
              · have hjn : ¬ ((j : Int) < (n : Int)) := by omega
                have hdec : decide ((j : Int) < (n : Int)) = false := decide_eq_false hjn
                go_wp2_with (go_at_call 18; refine (list_any D.out.s1.led (Nat.le_trans D.out.s1.len (by decide))).mono ?_)
                rintro E w20 ⟨r9, c9, rfl, hR9, hg9, b9⟩
                have HFr := Lib.hid (rlow D.out hg9)
                have D20 := Lib.hid (D.out.below b9)
                have hle := D.out.s1.len
                obtain ⟨m9, hm9⟩ : ∃ m9, m9 = xs.length := ⟨_, rfl⟩
                have HM9 := Lib.hid hm9
                rw [← hm9] at hle ⊢
                have HR9 := Lib.hid hR9
                obtain ⟨A9, hA9⟩ : ∃ A9, A9 = slA r9 := ⟨_, rfl⟩
                have HA9 := Lib.hid hA9
                rw [← hA9]
                clear D hR9 hg9 b9 hm9 hA9
                go_wp2_with fail
                go_loopw [12] (fun v12 wr => ∃ (k : Nat) (zs : List It), k ≤ m9 ∧ v12 = .int .i64 (k : Int) ∧ Hid (Par w g r c xs g2 r2 c2 xs wr ∧ zs.length = m9 ∧ Rw wr r9 c9 zs)) (fun v12 _ => m9 - (intOf v12).toNat)
                case atStart => exact ⟨0, xs, by omega, rfl, Lib.hid ⟨D20.out, HM9.out.symm, HR9.out⟩⟩
                case round =>
                  clear D20 HR9
                  obtain ⟨k, zs, hk, rfl, KK⟩ := hrel
                  have D := Lib.hid KK.out.1
                  have HZl := Lib.hid KK.out.2.1
                  have HRw := Lib.hid KK.out.2.2
                  clear KK
                  by_cases hkk : k < m9
                  · obtain ⟨⟨kk, v0⟩, hp⟩ : ∃ p, zs[k]? = some p := ⟨_, List.getElem?_eq_getElem (by rw [HZl.out]; exact hkk)⟩
                    obtain ⟨b, hb⟩ : ∃ b, r9 = some b := by
                      cases r9 with
                      | some b => exact ⟨b, rfl⟩
                      | none =>
                        have h := HRw.out.2
                        rw [h] at hp
                        simp at hp
                    subst hb
                    obtain ⟨hf1, hf2, hf3⟩ := HFr.out b rfl
                    have HN := Lib.hid fun v => (⟨D.out.store hf1 hf2 hf3 (k * 2 + 1) (.string v), by rw [List.length_set]; exact HZl.out, HRw.out.store hp v⟩ : Par w g r c xs g2 r2 c2 xs (wr.setCell ⟨b, k * 2 + 1, none⟩ (.string v)) ∧ (zs.set k (kk, v)).length = m9 ∧ Rw (wr.setCell ⟨b, k * 2 + 1, none⟩ (.string v)) (some b) c9 (zs.set k (kk, v)))
                    have hA : A9 = some ⟨b, 0, none⟩ := HA9.out
                    subst hA
                    obtain ⟨R, hblk, _⟩ := HRw.out.blk
                    have k1 : wr.cell? ⟨b, k * 2 + 1, none⟩ = some (.string v0) := hblk.cell (by rw [List.getElem?_append_left (List.getElem?_eq_some_iff.1 (itC_at hp).2).1]; exact (itC_at hp).2)
                    have f1 : wr.frozen? ⟨b, k * 2 + 1, none⟩ = false := free_block hblk _
                    have hkn : (k : Int) < (m9 : Int) := by omega
                    have hdec2 : decide ((k : Int) < (m9 : Int)) = true := decide_eq_true hkn
                    have hk0 : (0 : Int) ≤ (k : Int) := by omega
                    have hkt : ((k : Int)).toNat = k := by omega
                    have hw2 : IntKind.i64.wrap ((k : Int) + 1) = (k : Int) + 1 := by rw [IntKind.wrap_i64]; omega
                    clear hp hblk hf1 hf2 hf3 D HRw
                    go_wp2_with fail
                    go_roundw
                    case measure => simp [intOf] <;> omega
                    case rel => exact ⟨k + 1, _, by omega, by go_num, Lib.hid (HN.out _)⟩
                  · have hkn : ¬ ((k : Int) < (m9 : Int)) := by omega
                    have hdec2 : decide ((k : Int) < (m9 : Int)) = false := decide_eq_false hkn
                    clear HRw
                    go_wp2_with fail
                    refine wp_region_any (by kernel_rfl) ?_
                    refine held_gen (G := fun W => wpAny _ _ _ _ _ _ _ W) (fun W => Par w g r c xs g2 r2 c2 xs W) (D.out.below (below_drewN (Below.refl _ _) 1)) (fun W9 hW9 => ?_)
                    have D9 := Lib.hid hW9
                    clear hW9 D
                    refine wpAny_of_held (S := fun W => Below w.heap.size w W) _ _ _ _ ?_
                    refine wpAnyH_take (i := 0) (oi := { dst := some 129, op := Op.move (Operand.tmp 6), type := 28, pos := "law.go:63", after := #[], guard := none }) (v := .pointer (some ⟨g, 0, none⟩)) rfl (by kernel_rfl) (by kernel_rfl) (by kernel_rfl) (fun _ _ _ h => h) (Or.inl ⟨by kernel_rfl, fun W hSW => by go_simp⟩) (D9.out.bel) ?_
                    try simp only [Act.put, List.setIfInBounds_toArray, List.set_cons_zero, List.set_cons_succ]
                    refine wpAnyH_take (i := 2) (oi := { dst := some 131, op := Op.move (Operand.tmp 8), type := 32, pos := "law.go:63", after := #[], guard := none }) (v := .pointer (some ⟨g2, 0, none⟩)) rfl (by kernel_rfl) (by kernel_rfl) (by kernel_rfl) (fun _ _ _ h => h) (Or.inl ⟨by kernel_rfl, fun W hSW => by go_simp⟩) (D9.out.bel) ?_
                    try simp only [Act.put, List.setIfInBounds_toArray, List.set_cons_zero, List.set_cons_succ]
                    refine wpAnyH_take (i := 3) (oi := { dst := some 132, op := Op.nilCheck (Operand.tmp 131), type := 0, pos := "law.go:63", after := #[{ on := 2, ground := Ground.data }], guard := none }) (v := .pointer (some ⟨g2, 0, none⟩)) rfl (by kernel_rfl) (by kernel_rfl) (by kernel_rfl) (fun _ _ _ h => h) (Or.inl ⟨by kernel_rfl, fun W hSW => by go_simp⟩) (D9.out.bel) ?_
                    try simp only [Act.put, List.setIfInBounds_toArray, List.set_cons_zero, List.set_cons_succ]
                    refine wpAnyH_take (i := 4) (oi := { dst := some 133, op := Op.fieldAddr 37 (Operand.tmp 132) 0, type := 0, pos := "law.go:63", after := #[{ on := 3, ground := Ground.data }], guard := none }) (v := .pointer (some ⟨g2, 0, none⟩)) rfl (by kernel_rfl) (by kernel_rfl) (by kernel_rfl) (fun _ _ _ h => h) (Or.inl ⟨by kernel_rfl, fun W hSW => by go_simp⟩) (D9.out.bel) ?_
                    try simp only [Act.put, List.setIfInBounds_toArray, List.set_cons_zero, List.set_cons_succ]
                    refine wpAnyH_ready (rs := [1, 5]) (by kernel_rfl) (by simp) ?_
                    refine (AllReadyH.cons (o := { dst := some 130, op := Op.call { callee := Callee.value (Operand.func 18), args := #[Operand.tmp 129], argTypes := #[28] }, type := 22, pos := "law.go:63", after := #[{ on := 0, ground := Ground.data }], guard := none }) rfl (fun K' hK' => ?_) (AllReadyH.cons (o := { dst := some 134, op := Op.load 22 (Operand.tmp 133), type := 22, pos := "law.go:63", after := #[{ on := 4, ground := Ground.data }], guard := none }) rfl (fun K' hK' => ?_) AllReadyH.nil))
                    · go_simp
                      go_at_call 18
                      refine (list_any D9.out.s1.led (Nat.le_trans D9.out.s1.len (by decide))).mono ?_
                      rintro E w21 ⟨ra, ca, rfl, hRa, _, b21⟩
                      have D21 := Lib.hid (D9.out.below b21)
                      have IA := Lib.hid hRa.its
                      clear hRa b21 D9
                      refine hK'.out _ _ D21.out.bel (fun _ => ?_)
                      clear hK' K'
                      try simp only [Act.put, List.setIfInBounds_toArray, List.set_cons_zero, List.set_cons_succ]
                      refine wpAnyH_ready (rs := [5]) (by kernel_rfl) (by simp) ?_
                      refine AllReadyH.cons (o := { dst := some 134, op := Op.load 22 (Operand.tmp 133), type := 22, pos := "law.go:63", after := #[{ on := 4, ground := Ground.data }], guard := none }) rfl (fun K' hK' => ?_) AllReadyH.nil
                      have hcr := D21.out.s2.cell
                      go_simp
                      clear hcr
                      refine hK'.out _ _ D21.out.bel (fun _ => ?_)
                      clear hK' K'
                      try simp only [Act.put, List.setIfInBounds_toArray, List.set_cons_zero, List.set_cons_succ]
                      refine wpAnyH_ready (rs := [6]) (by kernel_rfl) (by simp) ?_
                      refine AllReadyH.cons (o := { dst := some 135, op := Op.call { callee := Callee.value (Operand.func 17), args := #[Operand.tmp 130, Operand.tmp 134], argTypes := #[22, 22] }, type := 4, pos := "law.go:63", after := #[{ on := 1, ground := Ground.data }, { on := 5, ground := Ground.data }, { on := 1, ground := Ground.chain }], guard := none }) rfl (fun K' hK' => ?_) AllReadyH.nil
                      go_simp
                      go_at_call 17
                      refine (HSame.out _ _ _ _ _ xs xs IA.out D21.out.s2.row.its (Nat.le_trans D21.out.s1.len (by decide)) (Nat.le_trans D21.out.s1.len (by decide))).mono ?_
                      rintro E w22 ⟨rfl, b22⟩
                      rw [decide_eq_true rfl]
                      have D22 := Lib.hid (D21.out.below b22)
                      clear b22 D21 IA
                      refine hK'.out _ _ D22.out.bel (fun _ => ?_)
                      clear hK' K'
                      try simp only [Act.put, List.setIfInBounds_toArray, List.set_cons_zero, List.set_cons_succ]
                      refine wpAnyH_take (i := 7) (oi := { dst := some 136, op := Op.move (Operand.tmp 135), type := 4, pos := "law.go:63", after := #[{ on := 6, ground := Ground.data }, { on := 6, ground := Ground.chain }], guard := none }) (v := .bool true) rfl (by kernel_rfl) (by kernel_rfl) (by kernel_rfl) (fun _ _ _ h => h) (Or.inl ⟨by kernel_rfl, fun W hSW => by go_simp⟩) (D22.out.bel) ?_
                      try simp only [Act.put, List.setIfInBounds_toArray, List.set_cons_zero, List.set_cons_succ]
                      refine wpAnyH_ready (rs := [8]) (by kernel_rfl) (by simp) ?_
                      refine AllReadyH.cons (o := { dst := some 137, op := Op.call { callee := Callee.value (Operand.func 9), args := #[], argTypes := #[] }, type := 4, pos := "law.go:63", after := #[{ on := 7, ground := Ground.chain }, { on := 7, ground := Ground.guard }], guard := some (7, true) }) rfl (fun K' hK' => ?_) AllReadyH.nil
                      go_simp
                      go_at_call 9
                      refine (HW.out _ D22.out.bel).mono ?_
                      rintro E w23 ⟨rfl, b23⟩
                      have D23 := Lib.hid (D22.out.below b23)
                      clear b23 D22
                      refine hK'.out _ _ D23.out.bel (fun _ => ?_)
                      clear hK' K'
                      try simp only [Act.put, List.setIfInBounds_toArray, List.set_cons_zero, List.set_cons_succ]
                      refine wpAnyH_take (i := 9) (oi := { dst := some 138, op := Op.pick (Operand.tmp 136) (Operand.tmp 137) (Operand.const (Value.bool false)), type := 4, pos := "law.go:63", after := #[{ on := 7, ground := Ground.data }, { on := 8, ground := Ground.data }], guard := none }) (v := .bool true) rfl (by kernel_rfl) (by kernel_rfl) (by kernel_rfl) (fun _ _ _ h => h) (Or.inl ⟨by kernel_rfl, fun W hSW => by go_simp⟩) (D23.out.bel) ?_
                      try simp only [Act.put, List.setIfInBounds_toArray, List.set_cons_zero, List.set_cons_succ]
                      refine wpAnyH_take (i := 10) (oi := { dst := some 4, op := Op.assign (Operand.tmp 138), type := 4, pos := "law.go:63", after := #[{ on := 9, ground := Ground.data }, { on := 8, ground := Ground.chain }, { on := 0, ground := Ground.phase }, { on := 1, ground := Ground.phase }, { on := 2, ground := Ground.phase }, { on := 3, ground := Ground.phase }, { on := 4, ground := Ground.phase }, { on := 5, ground := Ground.phase }, { on := 6, ground := Ground.phase }, { on := 7, ground := Ground.phase }, { on := 8, ground := Ground.phase }, { on := 9, ground := Ground.phase }], guard := none }) (v := .bool true) rfl (by kernel_rfl) (by kernel_rfl) (by kernel_rfl) (fun _ _ _ h => h) (Or.inl ⟨by kernel_rfl, fun W hSW => by go_simp⟩) (D23.out.bel) ?_
                      try simp only [Act.put, List.setIfInBounds_toArray, List.set_cons_zero, List.set_cons_succ]
                      refine wpAnyH_done (by kernel_rfl) ?_ _
                      go_wp2_with fail
                      go_ret
                      exact ⟨rfl, D23.out.bel⟩
                    · have hcr := D9.out.s2.cell
                      go_simp
                      clear hcr
                      refine hK'.out _ _ D9.out.bel (fun _ => ?_)
                      clear hK' K'
                      try simp only [Act.put, List.setIfInBounds_toArray, List.set_cons_zero, List.set_cons_succ]
                      refine wpAnyH_ready (rs := [1]) (by kernel_rfl) (by simp) ?_
                      refine AllReadyH.cons (o := { dst := some 130, op := Op.call { callee := Callee.value (Operand.func 18), args := #[Operand.tmp 129], argTypes := #[28] }, type := 22, pos := "law.go:63", after := #[{ on := 0, ground := Ground.data }], guard := none }) rfl (fun K' hK' => ?_) AllReadyH.nil
                      go_simp
                      go_at_call 18
                      refine (list_any D9.out.s1.led (Nat.le_trans D9.out.s1.len (by decide))).mono ?_
                      rintro E w21 ⟨ra, ca, rfl, hRa, _, b21⟩
                      have D21 := Lib.hid (D9.out.below b21)
                      have IA := Lib.hid hRa.its
                      clear hRa b21 D9
                      refine hK'.out _ _ D21.out.bel (fun _ => ?_)
                      clear hK' K'
                      try simp only [Act.put, List.setIfInBounds_toArray, List.set_cons_zero, List.set_cons_succ]
                      refine wpAnyH_ready (rs := [6]) (by kernel_rfl) (by simp) ?_
                      refine AllReadyH.cons (o := { dst := some 135, op := Op.call { callee := Callee.value (Operand.func 17), args := #[Operand.tmp 130, Operand.tmp 134], argTypes := #[22, 22] }, type := 4, pos := "law.go:63", after := #[{ on := 1, ground := Ground.data }, { on := 5, ground := Ground.data }, { on := 1, ground := Ground.chain }], guard := none }) rfl (fun K' hK' => ?_) AllReadyH.nil
                      go_simp
                      go_at_call 17
                      refine (HSame.out _ _ _ _ _ xs xs IA.out D21.out.s2.row.its (Nat.le_trans D21.out.s1.len (by decide)) (Nat.le_trans D21.out.s1.len (by decide))).mono ?_
                      rintro E w22 ⟨rfl, b22⟩
                      rw [decide_eq_true rfl]
                      have D22 := Lib.hid (D21.out.below b22)
                      clear b22 D21 IA
                      refine hK'.out _ _ D22.out.bel (fun _ => ?_)
                      clear hK' K'
                      try simp only [Act.put, List.setIfInBounds_toArray, List.set_cons_zero, List.set_cons_succ]
                      refine wpAnyH_take (i := 7) (oi := { dst := some 136, op := Op.move (Operand.tmp 135), type := 4, pos := "law.go:63", after := #[{ on := 6, ground := Ground.data }, { on := 6, ground := Ground.chain }], guard := none }) (v := .bool true) rfl (by kernel_rfl) (by kernel_rfl) (by kernel_rfl) (fun _ _ _ h => h) (Or.inl ⟨by kernel_rfl, fun W hSW => by go_simp⟩) (D22.out.bel) ?_
                      try simp only [Act.put, List.setIfInBounds_toArray, List.set_cons_zero, List.set_cons_succ]
                      refine wpAnyH_ready (rs := [8]) (by kernel_rfl) (by simp) ?_
                      refine AllReadyH.cons (o := { dst := some 137, op := Op.call { callee := Callee.value (Operand.func 9), args := #[], argTypes := #[] }, type := 4, pos := "law.go:63", after := #[{ on := 7, ground := Ground.chain }, { on := 7, ground := Ground.guard }], guard := some (7, true) }) rfl (fun K' hK' => ?_) AllReadyH.nil
                      go_simp
                      go_at_call 9
                      refine (HW.out _ D22.out.bel).mono ?_
                      rintro E w23 ⟨rfl, b23⟩
                      have D23 := Lib.hid (D22.out.below b23)
                      clear b23 D22
                      refine hK'.out _ _ D23.out.bel (fun _ => ?_)
                      clear hK' K'
                      try simp only [Act.put, List.setIfInBounds_toArray, List.set_cons_zero, List.set_cons_succ]
                      refine wpAnyH_take (i := 9) (oi := { dst := some 138, op := Op.pick (Operand.tmp 136) (Operand.tmp 137) (Operand.const (Value.bool false)), type := 4, pos := "law.go:63", after := #[{ on := 7, ground := Ground.data }, { on := 8, ground := Ground.data }], guard := none }) (v := .bool true) rfl (by kernel_rfl) (by kernel_rfl) (by kernel_rfl) (fun _ _ _ h => h) (Or.inl ⟨by kernel_rfl, fun W hSW => by go_simp⟩) (D23.out.bel) ?_
                      try simp only [Act.put, List.setIfInBounds_toArray, List.set_cons_zero, List.set_cons_succ]
                      refine wpAnyH_take (i := 10) (oi := { dst := some 4, op := Op.assign (Operand.tmp 138), type := 4, pos := "law.go:63", after := #[{ on := 9, ground := Ground.data }, { on := 8, ground := Ground.chain }, { on := 0, ground := Ground.phase }, { on := 1, ground := Ground.phase }, { on := 2, ground := Ground.phase }, { on := 3, ground := Ground.phase }, { on := 4, ground := Ground.phase }, { on := 5, ground := Ground.phase }, { on := 6, ground := Ground.phase }, { on := 7, ground := Ground.phase }, { on := 8, ground := Ground.phase }, { on := 9, ground := Ground.phase }], guard := none }) (v := .bool true) rfl (by kernel_rfl) (by kernel_rfl) (by kernel_rfl) (fun _ _ _ h => h) (Or.inl ⟨by kernel_rfl, fun W hSW => by go_simp⟩) (D23.out.bel) ?_
                      try simp only [Act.put, List.setIfInBounds_toArray, List.set_cons_zero, List.set_cons_succ]
                      refine wpAnyH_done (by kernel_rfl) ?_ _
                      go_wp2_with fail
                      go_ret
                      exact ⟨rfl, D23.out.bel⟩
          · obtain ⟨e, he, he1, he6, rfl⟩ := hbad hgd
            clear hgood hbad
            have he0 : ¬ (e : Int) = 0 := by omega
            have he00 : ((e : Int) == 0) = false := by simpa using he0
            have he2 : ¬ e = 0 := by omega
            have he3 : (e == 0) = false := by simpa using he2
            have he4 : (e != 0) = true := by simpa using he2
            have he5 : decide (e = 0) = false := by simpa using he2
            have he6' : ((e : Int) != 0) = true := by simpa using he2
            go_wp2_with (go_at_call 11; refine HRO.out.mono ?_)
            rintro E w3 ⟨b3, h3⟩
            have h3' : E = .returned (.tuple #[.pointer none, .int .i64 (e : Int)]) := by
              rw [← HZm.out] at h3
              cases zm with
              | false => rw [he1 rfl]; exact h3
              | true =>
                rw [if_pos rfl, if_neg (fun h => hgd ⟨rfl, by rw [HLm.out]; exact h⟩)] at h3
                rw [he6 rfl]; exact h3
            subst h3'
            have HB3 := Lib.hid (HB2.out.trans (b3.mono HB2.out.size))
            clear h3 b3 HRO HRa HBb hgd HB HOm HBa HXa HX HB2 he he1 he6
            go_wp2_with (go_at_call 12; refine (HNew.out _ HB3.out).mono ?_)
            rintro E w4 ⟨rfl, hs4, b4⟩
            have HD := Lib.hid (par_new HV.out HB3.out hs4 (Nat.le_refl _) b4)
            obtain ⟨g, hg⟩ : ∃ g, g = w3.heap.size := ⟨_, rfl⟩
            rw [← hg] at HD ⊢
            clear hs4 b4 hg HB3 HNew
            go_wp2_with fail
            obtain ⟨g2, hg2⟩ : ∃ g2, g2 = w4.heap.size := ⟨_, rfl⟩
            rw [← hg2] at HD ⊢
            clear hg2
            have DS := HD
            clear HD
            go_loopw [10] (fun v10 wr => ∃ (j : Nat) (r : Option Nat) (c : Nat) (xs : List It) (r2 : Option Nat) (c2 : Nat), j ≤ n ∧ v10 = .int .i64 (j : Int) ∧ Hid (Par w g r c xs g2 r2 c2 xs wr)) (fun v10 _ => n - (intOf v10).toNat)
            case atStart => exact ⟨0, _, _, _, _, _, by omega, rfl, DS⟩
            case round =>
              clear DS
              obtain ⟨j, r, c, xs, r2, c2, hj, rfl, D⟩ := hrel
              by_cases hjj : j < n
              · obtain ⟨p, hp⟩ : ∃ p, os[j]? = some p := ⟨_, List.getElem?_eq_getElem (by rw [← HL.out]; exact hjj)⟩
                obtain ⟨b', off, rfl, hr⟩ := HOps.out j p hp
                have HRg := Lib.hid hr
                have HP := Lib.hid (HI.out p)
                have hdec : decide ((j : Int) < (n : Int)) = true := decide_eq_true (by omega)
                have hj0 : (0 : Int) ≤ (j : Int) := by omega
                have hjn : (j : Int) < (n : Int) := by omega
                have htn : ((j : Int)).toNat = j := by omega
                have hw1 : IntKind.i64.wrap ((j : Int) + 1) = (j : Int) + 1 := by rw [IntKind.wrap_i64]; omega
                have g43 := Tryd.guard43
                have e43 : ∀ w, (Op.equalIn 10000 43 (.agg (repC (doR xs p).1).toArray) (.agg (repC (doR xs p).1).toArray)).run Tryd.prog w = .ok true w := fun w => eq_rep_of (d := 9998) (doR xs p).1 (doR xs p).1 (by simp) w
                have HRi := Lib.hid D.out.s1.rise
                have HLe := Lib.hid D.out.s1.len
                have HSm := Lib.hid D.out.s1.small
                obtain ⟨z, hz⟩ : ∃ z, z = mayOp p := ⟨_, rfl⟩
                have HM13 : Hid (∀ W, Calls Tryd.prog 13 #[.agg (opC p).toArray] W fun E w' => E = .returned (.bool z) ∧ Below W.heap.size W w') := Lib.hid fun W => by rw [hz]; exact may_any p W
                have HM14 : Hid (∀ W, Calls Tryd.prog 14 #[.agg (opC p).toArray] W fun E w' => E = .returned (.bool z) ∧ Below W.heap.size W w') := Lib.hid fun W => by rw [hz]; exact rmay_any p W
                clear hr hp hz
                by_cases h8 : j % 8 = 0
                · have h8a : ((j : Int)).tmod 8 = 0 := by rw [Int.tmod_eq_emod_of_nonneg hj0]; omega
                  clear h8
                  go_wp2_with fail
                  refine wp_region_any (by kernel_rfl) ?_
                  refine held_gen (G := fun W => wpAny _ _ _ _ _ _ _ W) (fun W => Par w g r c xs g2 r2 c2 xs W) (D.out.below (below_drewN (Below.refl _ _) 1)) (fun W9 hW9 => ?_)
                  have D9 := Lib.hid hW9
                  clear hW9 D
                  refine wpAny_of_held (S := fun W => Below w.heap.size w W) _ _ _ _ ?_
                  refine wpAnyH_take (i := 0) (oi := { dst := some 76, op := Op.move (Operand.tmp 1), type := 23, pos := "law.go:55", after := #[], guard := none }) (v := .slice (some ⟨b', off, none⟩) n c1) rfl (by kernel_rfl) (by kernel_rfl) (by kernel_rfl) (fun _ _ _ h => h) (Or.inl ⟨by kernel_rfl, fun W hSW => by go_simp⟩) (D9.out.bel) ?_
                  try simp only [Act.put, List.setIfInBounds_toArray, List.set_cons_zero, List.set_cons_succ]
                  refine wpAnyH_take (i := 1) (oi := { dst := some 77, op := Op.move (Operand.tmp 10), type := 3, pos := "law.go:55", after := #[], guard := none }) (v := .int .i64 (j : Int)) rfl (by kernel_rfl) (by kernel_rfl) (by kernel_rfl) (fun _ _ _ h => h) (Or.inl ⟨by kernel_rfl, fun W hSW => by go_simp⟩) (D9.out.bel) ?_
                  try simp only [Act.put, List.setIfInBounds_toArray, List.set_cons_zero, List.set_cons_succ]
                  refine wpAnyH_take (i := 2) (oi := { dst := some 78, op := Op.indexAddr 23 (Operand.tmp 76) (Operand.tmp 77), type := 0, pos := "law.go:55", after := #[{ on := 0, ground := Ground.data }, { on := 1, ground := Ground.data }], guard := none }) (v := .pointer (some ⟨b', off + j * 6, none⟩)) rfl (by kernel_rfl) (by kernel_rfl) (by kernel_rfl) (fun _ _ _ h => h) (Or.inl ⟨by kernel_rfl, fun W hSW => by go_simp⟩) (D9.out.bel) ?_
                  try simp only [Act.put, List.setIfInBounds_toArray, List.set_cons_zero, List.set_cons_succ]
                  refine wpAnyH_take (i := 3) (oi := { dst := some 79, op := Op.load 41 (Operand.tmp 78), type := 41, pos := "law.go:55", after := #[{ on := 2, ground := Ground.data }], guard := none }) (v := .agg (opC p).toArray) rfl (by kernel_rfl) (by kernel_rfl) (by kernel_rfl) (fun _ _ _ h => h) (Or.inl ⟨by kernel_rfl, fun W hSW => exec_load_mid 41 (.tmp 78) rfl b' (off + j * 6) rfl (opC p) _ (HRg.out W hSW) Tryd.underlying41 rfl (HP.out)⟩) (D9.out.bel) ?_
                  try simp only [Act.put, List.setIfInBounds_toArray, List.set_cons_zero, List.set_cons_succ]
                  refine wpAnyH_take (i := 5) (oi := { dst := some 81, op := Op.move (Operand.tmp 1), type := 23, pos := "law.go:55", after := #[], guard := none }) (v := .slice (some ⟨b', off, none⟩) n c1) rfl (by kernel_rfl) (by kernel_rfl) (by kernel_rfl) (fun _ _ _ h => h) (Or.inl ⟨by kernel_rfl, fun W hSW => by go_simp⟩) (D9.out.bel) ?_
                  try simp only [Act.put, List.setIfInBounds_toArray, List.set_cons_zero, List.set_cons_succ]
                  refine wpAnyH_take (i := 6) (oi := { dst := some 82, op := Op.move (Operand.tmp 10), type := 3, pos := "law.go:55", after := #[], guard := none }) (v := .int .i64 (j : Int)) rfl (by kernel_rfl) (by kernel_rfl) (by kernel_rfl) (fun _ _ _ h => h) (Or.inl ⟨by kernel_rfl, fun W hSW => by go_simp⟩) (D9.out.bel) ?_
                  try simp only [Act.put, List.setIfInBounds_toArray, List.set_cons_zero, List.set_cons_succ]
                  refine wpAnyH_take (i := 7) (oi := { dst := some 83, op := Op.indexAddr 23 (Operand.tmp 81) (Operand.tmp 82), type := 0, pos := "law.go:55", after := #[{ on := 5, ground := Ground.data }, { on := 6, ground := Ground.data }], guard := none }) (v := .pointer (some ⟨b', off + j * 6, none⟩)) rfl (by kernel_rfl) (by kernel_rfl) (by kernel_rfl) (fun _ _ _ h => h) (Or.inl ⟨by kernel_rfl, fun W hSW => by go_simp⟩) (D9.out.bel) ?_
                  try simp only [Act.put, List.setIfInBounds_toArray, List.set_cons_zero, List.set_cons_succ]
                  refine wpAnyH_take (i := 8) (oi := { dst := some 84, op := Op.load 41 (Operand.tmp 83), type := 41, pos := "law.go:55", after := #[{ on := 7, ground := Ground.data }], guard := none }) (v := .agg (opC p).toArray) rfl (by kernel_rfl) (by kernel_rfl) (by kernel_rfl) (fun _ _ _ h => h) (Or.inl ⟨by kernel_rfl, fun W hSW => exec_load_mid 41 (.tmp 83) rfl b' (off + j * 6) rfl (opC p) _ (HRg.out W hSW) Tryd.underlying41 rfl (HP.out)⟩) (D9.out.bel) ?_
                  try simp only [Act.put, List.setIfInBounds_toArray, List.set_cons_zero, List.set_cons_succ]
                  refine wpAnyH_ready (rs := [4]) (by kernel_rfl) (by simp) ?_
                  refine AllReadyH.cons (o := { dst := some 80, op := Op.call { callee := Callee.value (Operand.func 13), args := #[Operand.tmp 79], argTypes := #[41] }, type := 4, pos := "law.go:55", after := #[{ on := 3, ground := Ground.data }], guard := none }) rfl (fun K' hK' => ?_) AllReadyH.nil
                  go_simp
                  go_at_call 13
                  refine (HM13.out _).mono ?_
                  rintro E w10 ⟨rfl, b10⟩
                  have D10 := Lib.hid (D9.out.below b10)
                  clear b10 D9
                  refine hK'.out _ _ D10.out.bel (fun _ => ?_)
                  clear hK' K'
                  try simp only [Act.put, List.setIfInBounds_toArray, List.set_cons_zero, List.set_cons_succ]
                  refine wpAnyH_ready (rs := [9]) (by kernel_rfl) (by simp) ?_
                  refine AllReadyH.cons (o := { dst := some 85, op := Op.call { callee := Callee.value (Operand.func 14), args := #[Operand.tmp 84], argTypes := #[41] }, type := 4, pos := "law.go:55", after := #[{ on := 8, ground := Ground.data }, { on := 4, ground := Ground.chain }], guard := none }) rfl (fun K' hK' => ?_) AllReadyH.nil
                  go_simp
                  go_at_call 14
                  refine (HM14.out _).mono ?_
                  rintro E w11 ⟨rfl, b11⟩
                  have D11 := Lib.hid (D10.out.below b11)
                  clear b11 D10
                  refine hK'.out _ _ D11.out.bel (fun _ => ?_)
                  clear hK' K'
                  try simp only [Act.put, List.setIfInBounds_toArray, List.set_cons_zero, List.set_cons_succ]
                  refine wpAnyH_take (i := 10) (oi := { dst := some 86, op := Op.binOp BinOp.neq 4 (Operand.tmp 80) (Operand.tmp 85) 4, type := 4, pos := "law.go:55", after := #[{ on := 4, ground := Ground.data }, { on := 9, ground := Ground.data }], guard := none }) (v := .bool false) rfl (by kernel_rfl) (by kernel_rfl) (by kernel_rfl) (fun _ _ _ h => h) (Or.inl ⟨by kernel_rfl, fun W hSW => by cases z <;> go_simp⟩) (D11.out.bel) ?_
                  try simp only [Act.put, List.setIfInBounds_toArray, List.set_cons_zero, List.set_cons_succ]
                  refine wpAnyH_take (i := 11) (oi := { dst := some 87, op := Op.move (Operand.tmp 86), type := 4, pos := "law.go:55", after := #[{ on := 10, ground := Ground.data }, { on := 9, ground := Ground.chain }], guard := none }) (v := .bool false) rfl (by kernel_rfl) (by kernel_rfl) (by kernel_rfl) (fun _ _ _ h => h) (Or.inl ⟨by kernel_rfl, fun W hSW => by go_simp⟩) (D11.out.bel) ?_
                  try simp only [Act.put, List.setIfInBounds_toArray, List.set_cons_zero, List.set_cons_succ]
                  refine wpAnyH_take (i := 12) (oi := { dst := some 88, op := Op.move (Operand.tmp 6), type := 28, pos := "law.go:55", after := #[{ on := 11, ground := Ground.guard }], guard := some (11, false) }) (v := .pointer (some ⟨g, 0, none⟩)) rfl (by kernel_rfl) (by kernel_rfl) (by kernel_rfl) (fun _ _ _ h => h) (Or.inl ⟨by kernel_rfl, fun W hSW => by go_simp⟩) (D11.out.bel) ?_
                  try simp only [Act.put, List.setIfInBounds_toArray, List.set_cons_zero, List.set_cons_succ]
                  refine wpAnyH_take (i := 13) (oi := { dst := some 89, op := Op.move (Operand.tmp 1), type := 23, pos := "law.go:55", after := #[{ on := 11, ground := Ground.guard }], guard := some (11, false) }) (v := .slice (some ⟨b', off, none⟩) n c1) rfl (by kernel_rfl) (by kernel_rfl) (by kernel_rfl) (fun _ _ _ h => h) (Or.inl ⟨by kernel_rfl, fun W hSW => by go_simp⟩) (D11.out.bel) ?_
                  try simp only [Act.put, List.setIfInBounds_toArray, List.set_cons_zero, List.set_cons_succ]
                  refine wpAnyH_take (i := 14) (oi := { dst := some 90, op := Op.move (Operand.tmp 10), type := 3, pos := "law.go:55", after := #[{ on := 11, ground := Ground.guard }], guard := some (11, false) }) (v := .int .i64 (j : Int)) rfl (by kernel_rfl) (by kernel_rfl) (by kernel_rfl) (fun _ _ _ h => h) (Or.inl ⟨by kernel_rfl, fun W hSW => by go_simp⟩) (D11.out.bel) ?_
                  try simp only [Act.put, List.setIfInBounds_toArray, List.set_cons_zero, List.set_cons_succ]
                  refine wpAnyH_take (i := 15) (oi := { dst := some 91, op := Op.indexAddr 23 (Operand.tmp 89) (Operand.tmp 90), type := 0, pos := "law.go:55", after := #[{ on := 13, ground := Ground.data }, { on := 14, ground := Ground.data }, { on := 11, ground := Ground.guard }], guard := some (11, false) }) (v := .pointer (some ⟨b', off + j * 6, none⟩)) rfl (by kernel_rfl) (by kernel_rfl) (by kernel_rfl) (fun _ _ _ h => h) (Or.inl ⟨by kernel_rfl, fun W hSW => by go_simp⟩) (D11.out.bel) ?_
                  try simp only [Act.put, List.setIfInBounds_toArray, List.set_cons_zero, List.set_cons_succ]
                  refine wpAnyH_take (i := 16) (oi := { dst := some 92, op := Op.load 41 (Operand.tmp 91), type := 41, pos := "law.go:55", after := #[{ on := 15, ground := Ground.data }, { on := 11, ground := Ground.guard }], guard := some (11, false) }) (v := .agg (opC p).toArray) rfl (by kernel_rfl) (by kernel_rfl) (by kernel_rfl) (fun _ _ _ h => h) (Or.inl ⟨by kernel_rfl, fun W hSW => exec_load_mid 41 (.tmp 91) rfl b' (off + j * 6) rfl (opC p) _ (HRg.out W hSW) Tryd.underlying41 rfl (HP.out)⟩) (D11.out.bel) ?_
                  try simp only [Act.put, List.setIfInBounds_toArray, List.set_cons_zero, List.set_cons_succ]
                  refine wpAnyH_take (i := 18) (oi := { dst := some 94, op := Op.move (Operand.tmp 8), type := 32, pos := "law.go:55", after := #[{ on := 11, ground := Ground.guard }], guard := some (11, false) }) (v := .pointer (some ⟨g2, 0, none⟩)) rfl (by kernel_rfl) (by kernel_rfl) (by kernel_rfl) (fun _ _ _ h => h) (Or.inl ⟨by kernel_rfl, fun W hSW => by go_simp⟩) (D11.out.bel) ?_
                  try simp only [Act.put, List.setIfInBounds_toArray, List.set_cons_zero, List.set_cons_succ]
                  refine wpAnyH_take (i := 19) (oi := { dst := some 95, op := Op.move (Operand.tmp 1), type := 23, pos := "law.go:55", after := #[{ on := 11, ground := Ground.guard }], guard := some (11, false) }) (v := .slice (some ⟨b', off, none⟩) n c1) rfl (by kernel_rfl) (by kernel_rfl) (by kernel_rfl) (fun _ _ _ h => h) (Or.inl ⟨by kernel_rfl, fun W hSW => by go_simp⟩) (D11.out.bel) ?_
                  try simp only [Act.put, List.setIfInBounds_toArray, List.set_cons_zero, List.set_cons_succ]
                  refine wpAnyH_take (i := 20) (oi := { dst := some 96, op := Op.move (Operand.tmp 10), type := 3, pos := "law.go:55", after := #[{ on := 11, ground := Ground.guard }], guard := some (11, false) }) (v := .int .i64 (j : Int)) rfl (by kernel_rfl) (by kernel_rfl) (by kernel_rfl) (fun _ _ _ h => h) (Or.inl ⟨by kernel_rfl, fun W hSW => by go_simp⟩) (D11.out.bel) ?_
                  try simp only [Act.put, List.setIfInBounds_toArray, List.set_cons_zero, List.set_cons_succ]
                  refine wpAnyH_take (i := 21) (oi := { dst := some 97, op := Op.indexAddr 23 (Operand.tmp 95) (Operand.tmp 96), type := 0, pos := "law.go:55", after := #[{ on := 19, ground := Ground.data }, { on := 20, ground := Ground.data }, { on := 11, ground := Ground.guard }], guard := some (11, false) }) (v := .pointer (some ⟨b', off + j * 6, none⟩)) rfl (by kernel_rfl) (by kernel_rfl) (by kernel_rfl) (fun _ _ _ h => h) (Or.inl ⟨by kernel_rfl, fun W hSW => by go_simp⟩) (D11.out.bel) ?_
                  try simp only [Act.put, List.setIfInBounds_toArray, List.set_cons_zero, List.set_cons_succ]
                  refine wpAnyH_take (i := 22) (oi := { dst := some 98, op := Op.load 41 (Operand.tmp 97), type := 41, pos := "law.go:55", after := #[{ on := 21, ground := Ground.data }, { on := 11, ground := Ground.guard }], guard := some (11, false) }) (v := .agg (opC p).toArray) rfl (by kernel_rfl) (by kernel_rfl) (by kernel_rfl) (fun _ _ _ h => h) (Or.inl ⟨by kernel_rfl, fun W hSW => exec_load_mid 41 (.tmp 97) rfl b' (off + j * 6) rfl (opC p) _ (HRg.out W hSW) Tryd.underlying41 rfl (HP.out)⟩) (D11.out.bel) ?_
                  try simp only [Act.put, List.setIfInBounds_toArray, List.set_cons_zero, List.set_cons_succ]
                  refine wpAnyH_ready (rs := [17]) (by kernel_rfl) (by simp) ?_
                  refine AllReadyH.cons (o := { dst := some 93, op := Op.call { callee := Callee.value (Operand.func 15), args := #[Operand.tmp 88, Operand.tmp 92], argTypes := #[28, 41] }, type := 43, pos := "law.go:55", after := #[{ on := 12, ground := Ground.data }, { on := 16, ground := Ground.data }, { on := 11, ground := Ground.chain }, { on := 11, ground := Ground.guard }], guard := some (11, false) }) rfl (fun K' hK' => ?_) AllReadyH.nil
                  go_simp
                  go_at_call 15
                  refine (D11.out.do1 p).mono ?_
                  rintro E w12 ⟨rfl, r12, c12, h12⟩
                  have D12 := Lib.hid h12
                  clear h12 D11
                  refine hK'.out _ _ D12.out.bel (fun _ => ?_)
                  clear hK' K'
                  try simp only [Act.put, List.setIfInBounds_toArray, List.set_cons_zero, List.set_cons_succ]
                  refine wpAnyH_ready (rs := [23]) (by kernel_rfl) (by simp) ?_
                  refine AllReadyH.cons (o := { dst := some 99, op := Op.call { callee := Callee.value (Operand.func 16), args := #[Operand.tmp 94, Operand.tmp 98], argTypes := #[32, 41] }, type := 43, pos := "law.go:55", after := #[{ on := 18, ground := Ground.data }, { on := 22, ground := Ground.data }, { on := 17, ground := Ground.chain }, { on := 11, ground := Ground.guard }], guard := some (11, false) }) rfl (fun K' hK' => ?_) AllReadyH.nil
                  go_simp
                  go_at_call 16
                  refine (D12.out.do2 HRi.out (Nat.le_trans HLe.out (by decide)) HSm.out p).mono ?_
                  rintro E w13 ⟨rfl, r13, c13, h13⟩
                  have D13 := Lib.hid h13
                  clear h13 D12
                  refine hK'.out _ _ D13.out.bel (fun _ => ?_)
                  clear hK' K'
                  try simp only [Act.put, List.setIfInBounds_toArray, List.set_cons_zero, List.set_cons_succ]
                  refine wpAnyH_take (i := 24) (oi := { dst := some 100, op := Op.binOp BinOp.neq 43 (Operand.tmp 93) (Operand.tmp 99) 43, type := 4, pos := "law.go:55", after := #[{ on := 17, ground := Ground.data }, { on := 23, ground := Ground.data }, { on := 11, ground := Ground.guard }], guard := some (11, false) }) (v := .bool false) rfl (by kernel_rfl) (by kernel_rfl) (by kernel_rfl) (fun _ _ _ h => h) (Or.inl ⟨by kernel_rfl, fun W hSW => by go_simp⟩) (D13.out.bel) ?_
                  try simp only [Act.put, List.setIfInBounds_toArray, List.set_cons_zero, List.set_cons_succ]
                  refine wpAnyH_take (i := 25) (oi := { dst := some 101, op := Op.pick (Operand.tmp 87) (Operand.const (Value.bool true)) (Operand.tmp 100), type := 4, pos := "law.go:55", after := #[{ on := 11, ground := Ground.data }, { on := 24, ground := Ground.data }], guard := none }) (v := .bool false) rfl (by kernel_rfl) (by kernel_rfl) (by kernel_rfl) (fun _ _ _ h => h) (Or.inl ⟨by kernel_rfl, fun W hSW => by go_simp⟩) (D13.out.bel) ?_
                  try simp only [Act.put, List.setIfInBounds_toArray, List.set_cons_zero, List.set_cons_succ]
                  refine wpAnyH_take (i := 26) (oi := { dst := some 102, op := Op.move (Operand.tmp 101), type := 4, pos := "law.go:55", after := #[{ on := 25, ground := Ground.data }, { on := 23, ground := Ground.chain }], guard := none }) (v := .bool false) rfl (by kernel_rfl) (by kernel_rfl) (by kernel_rfl) (fun _ _ _ h => h) (Or.inl ⟨by kernel_rfl, fun W hSW => by go_simp⟩) (D13.out.bel) ?_
                  try simp only [Act.put, List.setIfInBounds_toArray, List.set_cons_zero, List.set_cons_succ]
                  refine wpAnyH_take (i := 27) (oi := { dst := some 103, op := Op.move (Operand.tmp 10), type := 3, pos := "law.go:55", after := #[{ on := 26, ground := Ground.guard }], guard := some (26, false) }) (v := .int .i64 (j : Int)) rfl (by kernel_rfl) (by kernel_rfl) (by kernel_rfl) (fun _ _ _ h => h) (Or.inl ⟨by kernel_rfl, fun W hSW => by go_simp⟩) (D13.out.bel) ?_
                  try simp only [Act.put, List.setIfInBounds_toArray, List.set_cons_zero, List.set_cons_succ]
                  refine wpAnyH_take (i := 28) (oi := { dst := some 104, op := Op.binOp BinOp.rem 3 (Operand.tmp 103) (Operand.const (Value.int IntKind.i64 8)) 3, type := 3, pos := "law.go:55", after := #[{ on := 27, ground := Ground.data }, { on := 26, ground := Ground.guard }], guard := some (26, false) }) (v := .int .i64 0) rfl (by kernel_rfl) (by kernel_rfl) (by kernel_rfl) (fun _ _ _ h => h) (Or.inl ⟨by kernel_rfl, fun W hSW => by go_simp⟩) (D13.out.bel) ?_
                  try simp only [Act.put, List.setIfInBounds_toArray, List.set_cons_zero, List.set_cons_succ]
                  refine wpAnyH_take (i := 29) (oi := { dst := some 105, op := Op.binOp BinOp.eql 3 (Operand.tmp 104) (Operand.const (Value.int IntKind.i64 0)) 3, type := 4, pos := "law.go:55", after := #[{ on := 28, ground := Ground.data }, { on := 26, ground := Ground.guard }], guard := some (26, false) }) (v := .bool true) rfl (by kernel_rfl) (by kernel_rfl) (by kernel_rfl) (fun _ _ _ h => h) (Or.inl ⟨by kernel_rfl, fun W hSW => by go_simp⟩) (D13.out.bel) ?_
                  try simp only [Act.put, List.setIfInBounds_toArray, List.set_cons_zero, List.set_cons_succ]
                  refine wpAnyH_take (i := 30) (oi := { dst := some 106, op := Op.move (Operand.tmp 105), type := 4, pos := "law.go:55", after := #[{ on := 29, ground := Ground.data }, { on := 26, ground := Ground.chain }, { on := 26, ground := Ground.guard }], guard := some (26, false) }) (v := .bool true) rfl (by kernel_rfl) (by kernel_rfl) (by kernel_rfl) (fun _ _ _ h => h) (Or.inl ⟨by kernel_rfl, fun W hSW => by go_simp⟩) (D13.out.bel) ?_
                  try simp only [Act.put, List.setIfInBounds_toArray, List.set_cons_zero, List.set_cons_succ]
                  refine wpAnyH_take (i := 31) (oi := { dst := some 107, op := Op.move (Operand.tmp 6), type := 28, pos := "law.go:55", after := #[{ on := 30, ground := Ground.guard }], guard := some (30, true) }) (v := .pointer (some ⟨g, 0, none⟩)) rfl (by kernel_rfl) (by kernel_rfl) (by kernel_rfl) (fun _ _ _ h => h) (Or.inl ⟨by kernel_rfl, fun W hSW => by go_simp⟩) (D13.out.bel) ?_
                  try simp only [Act.put, List.setIfInBounds_toArray, List.set_cons_zero, List.set_cons_succ]
                  refine wpAnyH_take (i := 33) (oi := { dst := some 109, op := Op.move (Operand.tmp 8), type := 32, pos := "law.go:55", after := #[{ on := 30, ground := Ground.guard }], guard := some (30, true) }) (v := .pointer (some ⟨g2, 0, none⟩)) rfl (by kernel_rfl) (by kernel_rfl) (by kernel_rfl) (fun _ _ _ h => h) (Or.inl ⟨by kernel_rfl, fun W hSW => by go_simp⟩) (D13.out.bel) ?_
                  try simp only [Act.put, List.setIfInBounds_toArray, List.set_cons_zero, List.set_cons_succ]
                  refine wpAnyH_take (i := 34) (oi := { dst := some 110, op := Op.nilCheck (Operand.tmp 109), type := 0, pos := "law.go:55", after := #[{ on := 33, ground := Ground.data }, { on := 30, ground := Ground.guard }], guard := some (30, true) }) (v := .pointer (some ⟨g2, 0, none⟩)) rfl (by kernel_rfl) (by kernel_rfl) (by kernel_rfl) (fun _ _ _ h => h) (Or.inl ⟨by kernel_rfl, fun W hSW => by go_simp⟩) (D13.out.bel) ?_
                  try simp only [Act.put, List.setIfInBounds_toArray, List.set_cons_zero, List.set_cons_succ]
                  refine wpAnyH_take (i := 35) (oi := { dst := some 111, op := Op.fieldAddr 37 (Operand.tmp 110) 0, type := 0, pos := "law.go:55", after := #[{ on := 34, ground := Ground.data }, { on := 30, ground := Ground.guard }], guard := some (30, true) }) (v := .pointer (some ⟨g2, 0, none⟩)) rfl (by kernel_rfl) (by kernel_rfl) (by kernel_rfl) (fun _ _ _ h => h) (Or.inl ⟨by kernel_rfl, fun W hSW => by go_simp⟩) (D13.out.bel) ?_
                  try simp only [Act.put, List.setIfInBounds_toArray, List.set_cons_zero, List.set_cons_succ]
                  refine wpAnyH_ready (rs := [32, 36]) (by kernel_rfl) (by simp) ?_
                  refine (AllReadyH.cons (o := { dst := some 108, op := Op.call { callee := Callee.value (Operand.func 18), args := #[Operand.tmp 107], argTypes := #[28] }, type := 22, pos := "law.go:55", after := #[{ on := 31, ground := Ground.data }, { on := 30, ground := Ground.chain }, { on := 30, ground := Ground.guard }], guard := some (30, true) }) rfl (fun K' hK' => ?_) (AllReadyH.cons (o := { dst := some 112, op := Op.load 22 (Operand.tmp 111), type := 22, pos := "law.go:55", after := #[{ on := 35, ground := Ground.data }, { on := 30, ground := Ground.guard }], guard := some (30, true) }) rfl (fun K' hK' => ?_) AllReadyH.nil))
                  · go_simp
                    go_at_call 18
                    refine (list_any D13.out.s1.led (Nat.le_trans D13.out.s1.len (by decide))).mono ?_
                    rintro E w14 ⟨ra, ca, rfl, hRa, _, b14⟩
                    have D14 := Lib.hid (D13.out.below b14)
                    have IA := Lib.hid hRa.its
                    clear hRa b14 D13
                    refine hK'.out _ _ D14.out.bel (fun _ => ?_)
                    clear hK' K'
                    try simp only [Act.put, List.setIfInBounds_toArray, List.set_cons_zero, List.set_cons_succ]
                    refine wpAnyH_ready (rs := [36]) (by kernel_rfl) (by simp) ?_
                    refine AllReadyH.cons (o := { dst := some 112, op := Op.load 22 (Operand.tmp 111), type := 22, pos := "law.go:55", after := #[{ on := 35, ground := Ground.data }, { on := 30, ground := Ground.guard }], guard := some (30, true) }) rfl (fun K' hK' => ?_) AllReadyH.nil
                    have hcr := D14.out.s2.cell
                    go_simp
                    clear hcr
                    refine hK'.out _ _ D14.out.bel (fun _ => ?_)
                    clear hK' K'
                    try simp only [Act.put, List.setIfInBounds_toArray, List.set_cons_zero, List.set_cons_succ]
                    refine wpAnyH_ready (rs := [37]) (by kernel_rfl) (by simp) ?_
                    refine AllReadyH.cons (o := { dst := some 113, op := Op.call { callee := Callee.value (Operand.func 17), args := #[Operand.tmp 108, Operand.tmp 112], argTypes := #[22, 22] }, type := 4, pos := "law.go:55", after := #[{ on := 32, ground := Ground.data }, { on := 36, ground := Ground.data }, { on := 32, ground := Ground.chain }, { on := 30, ground := Ground.guard }], guard := some (30, true) }) rfl (fun K' hK' => ?_) AllReadyH.nil
                    go_simp
                    go_at_call 17
                    refine (HSame.out _ _ _ _ _ (doR xs p).2 (doR xs p).2 IA.out D14.out.s2.row.its (Nat.le_trans D14.out.s1.len (by decide)) (Nat.le_trans D14.out.s1.len (by decide))).mono ?_
                    rintro E w15 ⟨rfl, b15⟩
                    rw [decide_eq_true rfl]
                    have D15 := Lib.hid (D14.out.below b15)
                    clear b15 D14 IA
                    refine hK'.out _ _ D15.out.bel (fun _ => ?_)
                    clear hK' K'
                    try simp only [Act.put, List.setIfInBounds_toArray, List.set_cons_zero, List.set_cons_succ]
                    refine wpAnyH_take (i := 38) (oi := { dst := some 114, op := Op.unOp UnOp.not 4 (Operand.tmp 113), type := 4, pos := "law.go:55", after := #[{ on := 37, ground := Ground.data }, { on := 30, ground := Ground.guard }], guard := some (30, true) }) (v := .bool false) rfl (by kernel_rfl) (by kernel_rfl) (by kernel_rfl) (fun _ _ _ h => h) (Or.inl ⟨by kernel_rfl, fun W hSW => by go_simp⟩) (D15.out.bel) ?_
                    try simp only [Act.put, List.setIfInBounds_toArray, List.set_cons_zero, List.set_cons_succ]
                    refine wpAnyH_take (i := 39) (oi := { dst := some 115, op := Op.pick (Operand.tmp 106) (Operand.tmp 114) (Operand.const (Value.bool false)), type := 4, pos := "law.go:55", after := #[{ on := 30, ground := Ground.data }, { on := 38, ground := Ground.data }, { on := 26, ground := Ground.guard }], guard := some (26, false) }) (v := .bool false) rfl (by kernel_rfl) (by kernel_rfl) (by kernel_rfl) (fun _ _ _ h => h) (Or.inl ⟨by kernel_rfl, fun W hSW => by go_simp⟩) (D15.out.bel) ?_
                    try simp only [Act.put, List.setIfInBounds_toArray, List.set_cons_zero, List.set_cons_succ]
                    refine wpAnyH_take (i := 40) (oi := { dst := some 116, op := Op.pick (Operand.tmp 102) (Operand.const (Value.bool true)) (Operand.tmp 115), type := 4, pos := "law.go:55", after := #[{ on := 26, ground := Ground.data }, { on := 39, ground := Ground.data }], guard := none }) (v := .bool false) rfl (by kernel_rfl) (by kernel_rfl) (by kernel_rfl) (fun _ _ _ h => h) (Or.inl ⟨by kernel_rfl, fun W hSW => by go_simp⟩) (D15.out.bel) ?_
                    try simp only [Act.put, List.setIfInBounds_toArray, List.set_cons_zero, List.set_cons_succ]
                    refine wpAnyH_done (by kernel_rfl) ?_ _
                    go_wp2_with fail
                    go_roundw
                    case measure => simp [intOf] <;> omega
                    case rel => exact ⟨j + 1, r12, c12, _, r13, c13, by omega, by go_num, D15⟩
                  · have hcr := D13.out.s2.cell
                    go_simp
                    clear hcr
                    refine hK'.out _ _ D13.out.bel (fun _ => ?_)
                    clear hK' K'
                    try simp only [Act.put, List.setIfInBounds_toArray, List.set_cons_zero, List.set_cons_succ]
                    refine wpAnyH_ready (rs := [32]) (by kernel_rfl) (by simp) ?_
                    refine AllReadyH.cons (o := { dst := some 108, op := Op.call { callee := Callee.value (Operand.func 18), args := #[Operand.tmp 107], argTypes := #[28] }, type := 22, pos := "law.go:55", after := #[{ on := 31, ground := Ground.data }, { on := 30, ground := Ground.chain }, { on := 30, ground := Ground.guard }], guard := some (30, true) }) rfl (fun K' hK' => ?_) AllReadyH.nil
                    go_simp
                    go_at_call 18
                    refine (list_any D13.out.s1.led (Nat.le_trans D13.out.s1.len (by decide))).mono ?_
                    rintro E w14 ⟨ra, ca, rfl, hRa, _, b14⟩
                    have D14 := Lib.hid (D13.out.below b14)
                    have IA := Lib.hid hRa.its
                    clear hRa b14 D13
                    refine hK'.out _ _ D14.out.bel (fun _ => ?_)
                    clear hK' K'
                    try simp only [Act.put, List.setIfInBounds_toArray, List.set_cons_zero, List.set_cons_succ]
                    refine wpAnyH_ready (rs := [37]) (by kernel_rfl) (by simp) ?_
                    refine AllReadyH.cons (o := { dst := some 113, op := Op.call { callee := Callee.value (Operand.func 17), args := #[Operand.tmp 108, Operand.tmp 112], argTypes := #[22, 22] }, type := 4, pos := "law.go:55", after := #[{ on := 32, ground := Ground.data }, { on := 36, ground := Ground.data }, { on := 32, ground := Ground.chain }, { on := 30, ground := Ground.guard }], guard := some (30, true) }) rfl (fun K' hK' => ?_) AllReadyH.nil
                    go_simp
                    go_at_call 17
                    refine (HSame.out _ _ _ _ _ (doR xs p).2 (doR xs p).2 IA.out D14.out.s2.row.its (Nat.le_trans D14.out.s1.len (by decide)) (Nat.le_trans D14.out.s1.len (by decide))).mono ?_
                    rintro E w15 ⟨rfl, b15⟩
                    rw [decide_eq_true rfl]
                    have D15 := Lib.hid (D14.out.below b15)
                    clear b15 D14 IA
                    refine hK'.out _ _ D15.out.bel (fun _ => ?_)
                    clear hK' K'
                    try simp only [Act.put, List.setIfInBounds_toArray, List.set_cons_zero, List.set_cons_succ]
                    refine wpAnyH_take (i := 38) (oi := { dst := some 114, op := Op.unOp UnOp.not 4 (Operand.tmp 113), type := 4, pos := "law.go:55", after := #[{ on := 37, ground := Ground.data }, { on := 30, ground := Ground.guard }], guard := some (30, true) }) (v := .bool false) rfl (by kernel_rfl) (by kernel_rfl) (by kernel_rfl) (fun _ _ _ h => h) (Or.inl ⟨by kernel_rfl, fun W hSW => by go_simp⟩) (D15.out.bel) ?_
                    try simp only [Act.put, List.setIfInBounds_toArray, List.set_cons_zero, List.set_cons_succ]
                    refine wpAnyH_take (i := 39) (oi := { dst := some 115, op := Op.pick (Operand.tmp 106) (Operand.tmp 114) (Operand.const (Value.bool false)), type := 4, pos := "law.go:55", after := #[{ on := 30, ground := Ground.data }, { on := 38, ground := Ground.data }, { on := 26, ground := Ground.guard }], guard := some (26, false) }) (v := .bool false) rfl (by kernel_rfl) (by kernel_rfl) (by kernel_rfl) (fun _ _ _ h => h) (Or.inl ⟨by kernel_rfl, fun W hSW => by go_simp⟩) (D15.out.bel) ?_
                    try simp only [Act.put, List.setIfInBounds_toArray, List.set_cons_zero, List.set_cons_succ]
                    refine wpAnyH_take (i := 40) (oi := { dst := some 116, op := Op.pick (Operand.tmp 102) (Operand.const (Value.bool true)) (Operand.tmp 115), type := 4, pos := "law.go:55", after := #[{ on := 26, ground := Ground.data }, { on := 39, ground := Ground.data }], guard := none }) (v := .bool false) rfl (by kernel_rfl) (by kernel_rfl) (by kernel_rfl) (fun _ _ _ h => h) (Or.inl ⟨by kernel_rfl, fun W hSW => by go_simp⟩) (D15.out.bel) ?_
                    try simp only [Act.put, List.setIfInBounds_toArray, List.set_cons_zero, List.set_cons_succ]
                    refine wpAnyH_done (by kernel_rfl) ?_ _
                    go_wp2_with fail
                    go_roundw
                    case measure => simp [intOf] <;> omega
                    case rel => exact ⟨j + 1, r12, c12, _, r13, c13, by omega, by go_num, D15⟩
                · have h8a : ¬ ((j : Int)).tmod 8 = 0 := by rw [Int.tmod_eq_emod_of_nonneg hj0]; omega
                  obtain ⟨q8, hq8⟩ : ∃ q8, q8 = ((j : Int)).tmod 8 := ⟨_, rfl⟩
                  have H8 := Lib.hid hq8
                  rw [← hq8] at h8a
                  have hq8' := hq8.symm
                  clear hq8
                  clear h8
                  go_wp2_with fail
                  refine wp_region_any (by kernel_rfl) ?_
                  refine held_gen (G := fun W => wpAny _ _ _ _ _ _ _ W) (fun W => Par w g r c xs g2 r2 c2 xs W) (D.out.below (below_drewN (Below.refl _ _) 1)) (fun W9 hW9 => ?_)
                  have D9 := Lib.hid hW9
                  clear hW9 D
                  refine wpAny_of_held (S := fun W => Below w.heap.size w W) _ _ _ _ ?_
                  refine wpAnyH_take (i := 0) (oi := { dst := some 76, op := Op.move (Operand.tmp 1), type := 23, pos := "law.go:55", after := #[], guard := none }) (v := .slice (some ⟨b', off, none⟩) n c1) rfl (by kernel_rfl) (by kernel_rfl) (by kernel_rfl) (fun _ _ _ h => h) (Or.inl ⟨by kernel_rfl, fun W hSW => by go_simp⟩) (D9.out.bel) ?_
                  try simp only [Act.put, List.setIfInBounds_toArray, List.set_cons_zero, List.set_cons_succ]
                  refine wpAnyH_take (i := 1) (oi := { dst := some 77, op := Op.move (Operand.tmp 10), type := 3, pos := "law.go:55", after := #[], guard := none }) (v := .int .i64 (j : Int)) rfl (by kernel_rfl) (by kernel_rfl) (by kernel_rfl) (fun _ _ _ h => h) (Or.inl ⟨by kernel_rfl, fun W hSW => by go_simp⟩) (D9.out.bel) ?_
                  try simp only [Act.put, List.setIfInBounds_toArray, List.set_cons_zero, List.set_cons_succ]
                  refine wpAnyH_take (i := 2) (oi := { dst := some 78, op := Op.indexAddr 23 (Operand.tmp 76) (Operand.tmp 77), type := 0, pos := "law.go:55", after := #[{ on := 0, ground := Ground.data }, { on := 1, ground := Ground.data }], guard := none }) (v := .pointer (some ⟨b', off + j * 6, none⟩)) rfl (by kernel_rfl) (by kernel_rfl) (by kernel_rfl) (fun _ _ _ h => h) (Or.inl ⟨by kernel_rfl, fun W hSW => by go_simp⟩) (D9.out.bel) ?_
                  try simp only [Act.put, List.setIfInBounds_toArray, List.set_cons_zero, List.set_cons_succ]
                  refine wpAnyH_take (i := 3) (oi := { dst := some 79, op := Op.load 41 (Operand.tmp 78), type := 41, pos := "law.go:55", after := #[{ on := 2, ground := Ground.data }], guard := none }) (v := .agg (opC p).toArray) rfl (by kernel_rfl) (by kernel_rfl) (by kernel_rfl) (fun _ _ _ h => h) (Or.inl ⟨by kernel_rfl, fun W hSW => exec_load_mid 41 (.tmp 78) rfl b' (off + j * 6) rfl (opC p) _ (HRg.out W hSW) Tryd.underlying41 rfl (HP.out)⟩) (D9.out.bel) ?_
                  try simp only [Act.put, List.setIfInBounds_toArray, List.set_cons_zero, List.set_cons_succ]
                  refine wpAnyH_take (i := 5) (oi := { dst := some 81, op := Op.move (Operand.tmp 1), type := 23, pos := "law.go:55", after := #[], guard := none }) (v := .slice (some ⟨b', off, none⟩) n c1) rfl (by kernel_rfl) (by kernel_rfl) (by kernel_rfl) (fun _ _ _ h => h) (Or.inl ⟨by kernel_rfl, fun W hSW => by go_simp⟩) (D9.out.bel) ?_
                  try simp only [Act.put, List.setIfInBounds_toArray, List.set_cons_zero, List.set_cons_succ]
                  refine wpAnyH_take (i := 6) (oi := { dst := some 82, op := Op.move (Operand.tmp 10), type := 3, pos := "law.go:55", after := #[], guard := none }) (v := .int .i64 (j : Int)) rfl (by kernel_rfl) (by kernel_rfl) (by kernel_rfl) (fun _ _ _ h => h) (Or.inl ⟨by kernel_rfl, fun W hSW => by go_simp⟩) (D9.out.bel) ?_
                  try simp only [Act.put, List.setIfInBounds_toArray, List.set_cons_zero, List.set_cons_succ]
                  refine wpAnyH_take (i := 7) (oi := { dst := some 83, op := Op.indexAddr 23 (Operand.tmp 81) (Operand.tmp 82), type := 0, pos := "law.go:55", after := #[{ on := 5, ground := Ground.data }, { on := 6, ground := Ground.data }], guard := none }) (v := .pointer (some ⟨b', off + j * 6, none⟩)) rfl (by kernel_rfl) (by kernel_rfl) (by kernel_rfl) (fun _ _ _ h => h) (Or.inl ⟨by kernel_rfl, fun W hSW => by go_simp⟩) (D9.out.bel) ?_
                  try simp only [Act.put, List.setIfInBounds_toArray, List.set_cons_zero, List.set_cons_succ]
                  refine wpAnyH_take (i := 8) (oi := { dst := some 84, op := Op.load 41 (Operand.tmp 83), type := 41, pos := "law.go:55", after := #[{ on := 7, ground := Ground.data }], guard := none }) (v := .agg (opC p).toArray) rfl (by kernel_rfl) (by kernel_rfl) (by kernel_rfl) (fun _ _ _ h => h) (Or.inl ⟨by kernel_rfl, fun W hSW => exec_load_mid 41 (.tmp 83) rfl b' (off + j * 6) rfl (opC p) _ (HRg.out W hSW) Tryd.underlying41 rfl (HP.out)⟩) (D9.out.bel) ?_
                  try simp only [Act.put, List.setIfInBounds_toArray, List.set_cons_zero, List.set_cons_succ]
                  refine wpAnyH_ready (rs := [4]) (by kernel_rfl) (by simp) ?_
                  refine AllReadyH.cons (o := { dst := some 80, op := Op.call { callee := Callee.value (Operand.func 13), args := #[Operand.tmp 79], argTypes := #[41] }, type := 4, pos := "law.go:55", after := #[{ on := 3, ground := Ground.data }], guard := none }) rfl (fun K' hK' => ?_) AllReadyH.nil
                  go_simp
                  go_at_call 13
                  refine (HM13.out _).mono ?_
                  rintro E w10 ⟨rfl, b10⟩
                  have D10 := Lib.hid (D9.out.below b10)
                  clear b10 D9
                  refine hK'.out _ _ D10.out.bel (fun _ => ?_)
                  clear hK' K'
                  try simp only [Act.put, List.setIfInBounds_toArray, List.set_cons_zero, List.set_cons_succ]
                  refine wpAnyH_ready (rs := [9]) (by kernel_rfl) (by simp) ?_
                  refine AllReadyH.cons (o := { dst := some 85, op := Op.call { callee := Callee.value (Operand.func 14), args := #[Operand.tmp 84], argTypes := #[41] }, type := 4, pos := "law.go:55", after := #[{ on := 8, ground := Ground.data }, { on := 4, ground := Ground.chain }], guard := none }) rfl (fun K' hK' => ?_) AllReadyH.nil
                  go_simp
                  go_at_call 14
                  refine (HM14.out _).mono ?_
                  rintro E w11 ⟨rfl, b11⟩
                  have D11 := Lib.hid (D10.out.below b11)
                  clear b11 D10
                  refine hK'.out _ _ D11.out.bel (fun _ => ?_)
                  clear hK' K'
                  try simp only [Act.put, List.setIfInBounds_toArray, List.set_cons_zero, List.set_cons_succ]
                  refine wpAnyH_take (i := 10) (oi := { dst := some 86, op := Op.binOp BinOp.neq 4 (Operand.tmp 80) (Operand.tmp 85) 4, type := 4, pos := "law.go:55", after := #[{ on := 4, ground := Ground.data }, { on := 9, ground := Ground.data }], guard := none }) (v := .bool false) rfl (by kernel_rfl) (by kernel_rfl) (by kernel_rfl) (fun _ _ _ h => h) (Or.inl ⟨by kernel_rfl, fun W hSW => by cases z <;> go_simp⟩) (D11.out.bel) ?_
                  try simp only [Act.put, List.setIfInBounds_toArray, List.set_cons_zero, List.set_cons_succ]
                  refine wpAnyH_take (i := 11) (oi := { dst := some 87, op := Op.move (Operand.tmp 86), type := 4, pos := "law.go:55", after := #[{ on := 10, ground := Ground.data }, { on := 9, ground := Ground.chain }], guard := none }) (v := .bool false) rfl (by kernel_rfl) (by kernel_rfl) (by kernel_rfl) (fun _ _ _ h => h) (Or.inl ⟨by kernel_rfl, fun W hSW => by go_simp⟩) (D11.out.bel) ?_
                  try simp only [Act.put, List.setIfInBounds_toArray, List.set_cons_zero, List.set_cons_succ]
                  refine wpAnyH_take (i := 12) (oi := { dst := some 88, op := Op.move (Operand.tmp 6), type := 28, pos := "law.go:55", after := #[{ on := 11, ground := Ground.guard }], guard := some (11, false) }) (v := .pointer (some ⟨g, 0, none⟩)) rfl (by kernel_rfl) (by kernel_rfl) (by kernel_rfl) (fun _ _ _ h => h) (Or.inl ⟨by kernel_rfl, fun W hSW => by go_simp⟩) (D11.out.bel) ?_
                  try simp only [Act.put, List.setIfInBounds_toArray, List.set_cons_zero, List.set_cons_succ]
                  refine wpAnyH_take (i := 13) (oi := { dst := some 89, op := Op.move (Operand.tmp 1), type := 23, pos := "law.go:55", after := #[{ on := 11, ground := Ground.guard }], guard := some (11, false) }) (v := .slice (some ⟨b', off, none⟩) n c1) rfl (by kernel_rfl) (by kernel_rfl) (by kernel_rfl) (fun _ _ _ h => h) (Or.inl ⟨by kernel_rfl, fun W hSW => by go_simp⟩) (D11.out.bel) ?_
                  try simp only [Act.put, List.setIfInBounds_toArray, List.set_cons_zero, List.set_cons_succ]
                  refine wpAnyH_take (i := 14) (oi := { dst := some 90, op := Op.move (Operand.tmp 10), type := 3, pos := "law.go:55", after := #[{ on := 11, ground := Ground.guard }], guard := some (11, false) }) (v := .int .i64 (j : Int)) rfl (by kernel_rfl) (by kernel_rfl) (by kernel_rfl) (fun _ _ _ h => h) (Or.inl ⟨by kernel_rfl, fun W hSW => by go_simp⟩) (D11.out.bel) ?_
                  try simp only [Act.put, List.setIfInBounds_toArray, List.set_cons_zero, List.set_cons_succ]
                  refine wpAnyH_take (i := 15) (oi := { dst := some 91, op := Op.indexAddr 23 (Operand.tmp 89) (Operand.tmp 90), type := 0, pos := "law.go:55", after := #[{ on := 13, ground := Ground.data }, { on := 14, ground := Ground.data }, { on := 11, ground := Ground.guard }], guard := some (11, false) }) (v := .pointer (some ⟨b', off + j * 6, none⟩)) rfl (by kernel_rfl) (by kernel_rfl) (by kernel_rfl) (fun _ _ _ h => h) (Or.inl ⟨by kernel_rfl, fun W hSW => by go_simp⟩) (D11.out.bel) ?_
                  try simp only [Act.put, List.setIfInBounds_toArray, List.set_cons_zero, List.set_cons_succ]
                  refine wpAnyH_take (i := 16) (oi := { dst := some 92, op := Op.load 41 (Operand.tmp 91), type := 41, pos := "law.go:55", after := #[{ on := 15, ground := Ground.data }, { on := 11, ground := Ground.guard }], guard := some (11, false) }) (v := .agg (opC p).toArray) rfl (by kernel_rfl) (by kernel_rfl) (by kernel_rfl) (fun _ _ _ h => h) (Or.inl ⟨by kernel_rfl, fun W hSW => exec_load_mid 41 (.tmp 91) rfl b' (off + j * 6) rfl (opC p) _ (HRg.out W hSW) Tryd.underlying41 rfl (HP.out)⟩) (D11.out.bel) ?_
                  try simp only [Act.put, List.setIfInBounds_toArray, List.set_cons_zero, List.set_cons_succ]
                  refine wpAnyH_take (i := 18) (oi := { dst := some 94, op := Op.move (Operand.tmp 8), type := 32, pos := "law.go:55", after := #[{ on := 11, ground := Ground.guard }], guard := some (11, false) }) (v := .pointer (some ⟨g2, 0, none⟩)) rfl (by kernel_rfl) (by kernel_rfl) (by kernel_rfl) (fun _ _ _ h => h) (Or.inl ⟨by kernel_rfl, fun W hSW => by go_simp⟩) (D11.out.bel) ?_
                  try simp only [Act.put, List.setIfInBounds_toArray, List.set_cons_zero, List.set_cons_succ]
                  refine wpAnyH_take (i := 19) (oi := { dst := some 95, op := Op.move (Operand.tmp 1), type := 23, pos := "law.go:55", after := #[{ on := 11, ground := Ground.guard }], guard := some (11, false) }) (v := .slice (some ⟨b', off, none⟩) n c1) rfl (by kernel_rfl) (by kernel_rfl) (by kernel_rfl) (fun _ _ _ h => h) (Or.inl ⟨by kernel_rfl, fun W hSW => by go_simp⟩) (D11.out.bel) ?_
                  try simp only [Act.put, List.setIfInBounds_toArray, List.set_cons_zero, List.set_cons_succ]
                  refine wpAnyH_take (i := 20) (oi := { dst := some 96, op := Op.move (Operand.tmp 10), type := 3, pos := "law.go:55", after := #[{ on := 11, ground := Ground.guard }], guard := some (11, false) }) (v := .int .i64 (j : Int)) rfl (by kernel_rfl) (by kernel_rfl) (by kernel_rfl) (fun _ _ _ h => h) (Or.inl ⟨by kernel_rfl, fun W hSW => by go_simp⟩) (D11.out.bel) ?_
                  try simp only [Act.put, List.setIfInBounds_toArray, List.set_cons_zero, List.set_cons_succ]
                  refine wpAnyH_take (i := 21) (oi := { dst := some 97, op := Op.indexAddr 23 (Operand.tmp 95) (Operand.tmp 96), type := 0, pos := "law.go:55", after := #[{ on := 19, ground := Ground.data }, { on := 20, ground := Ground.data }, { on := 11, ground := Ground.guard }], guard := some (11, false) }) (v := .pointer (some ⟨b', off + j * 6, none⟩)) rfl (by kernel_rfl) (by kernel_rfl) (by kernel_rfl) (fun _ _ _ h => h) (Or.inl ⟨by kernel_rfl, fun W hSW => by go_simp⟩) (D11.out.bel) ?_
                  try simp only [Act.put, List.setIfInBounds_toArray, List.set_cons_zero, List.set_cons_succ]
                  refine wpAnyH_take (i := 22) (oi := { dst := some 98, op := Op.load 41 (Operand.tmp 97), type := 41, pos := "law.go:55", after := #[{ on := 21, ground := Ground.data }, { on := 11, ground := Ground.guard }], guard := some (11, false) }) (v := .agg (opC p).toArray) rfl (by kernel_rfl) (by kernel_rfl) (by kernel_rfl) (fun _ _ _ h => h) (Or.inl ⟨by kernel_rfl, fun W hSW => exec_load_mid 41 (.tmp 97) rfl b' (off + j * 6) rfl (opC p) _ (HRg.out W hSW) Tryd.underlying41 rfl (HP.out)⟩) (D11.out.bel) ?_
                  try simp only [Act.put, List.setIfInBounds_toArray, List.set_cons_zero, List.set_cons_succ]
                  refine wpAnyH_ready (rs := [17]) (by kernel_rfl) (by simp) ?_
                  refine AllReadyH.cons (o := { dst := some 93, op := Op.call { callee := Callee.value (Operand.func 15), args := #[Operand.tmp 88, Operand.tmp 92], argTypes := #[28, 41] }, type := 43, pos := "law.go:55", after := #[{ on := 12, ground := Ground.data }, { on := 16, ground := Ground.data }, { on := 11, ground := Ground.chain }, { on := 11, ground := Ground.guard }], guard := some (11, false) }) rfl (fun K' hK' => ?_) AllReadyH.nil
                  go_simp
                  go_at_call 15
                  refine (D11.out.do1 p).mono ?_
                  rintro E w12 ⟨rfl, r12, c12, h12⟩
                  have D12 := Lib.hid h12
                  clear h12 D11
                  refine hK'.out _ _ D12.out.bel (fun _ => ?_)
                  clear hK' K'
                  try simp only [Act.put, List.setIfInBounds_toArray, List.set_cons_zero, List.set_cons_succ]
                  refine wpAnyH_ready (rs := [23]) (by kernel_rfl) (by simp) ?_
                  refine AllReadyH.cons (o := { dst := some 99, op := Op.call { callee := Callee.value (Operand.func 16), args := #[Operand.tmp 94, Operand.tmp 98], argTypes := #[32, 41] }, type := 43, pos := "law.go:55", after := #[{ on := 18, ground := Ground.data }, { on := 22, ground := Ground.data }, { on := 17, ground := Ground.chain }, { on := 11, ground := Ground.guard }], guard := some (11, false) }) rfl (fun K' hK' => ?_) AllReadyH.nil
                  go_simp
                  go_at_call 16
                  refine (D12.out.do2 HRi.out (Nat.le_trans HLe.out (by decide)) HSm.out p).mono ?_
                  rintro E w13 ⟨rfl, r13, c13, h13⟩
                  have D13 := Lib.hid h13
                  clear h13 D12
                  refine hK'.out _ _ D13.out.bel (fun _ => ?_)
                  clear hK' K'
                  try simp only [Act.put, List.setIfInBounds_toArray, List.set_cons_zero, List.set_cons_succ]
                  refine wpAnyH_take (i := 24) (oi := { dst := some 100, op := Op.binOp BinOp.neq 43 (Operand.tmp 93) (Operand.tmp 99) 43, type := 4, pos := "law.go:55", after := #[{ on := 17, ground := Ground.data }, { on := 23, ground := Ground.data }, { on := 11, ground := Ground.guard }], guard := some (11, false) }) (v := .bool false) rfl (by kernel_rfl) (by kernel_rfl) (by kernel_rfl) (fun _ _ _ h => h) (Or.inl ⟨by kernel_rfl, fun W hSW => by go_simp⟩) (D13.out.bel) ?_
                  try simp only [Act.put, List.setIfInBounds_toArray, List.set_cons_zero, List.set_cons_succ]
                  refine wpAnyH_take (i := 25) (oi := { dst := some 101, op := Op.pick (Operand.tmp 87) (Operand.const (Value.bool true)) (Operand.tmp 100), type := 4, pos := "law.go:55", after := #[{ on := 11, ground := Ground.data }, { on := 24, ground := Ground.data }], guard := none }) (v := .bool false) rfl (by kernel_rfl) (by kernel_rfl) (by kernel_rfl) (fun _ _ _ h => h) (Or.inl ⟨by kernel_rfl, fun W hSW => by go_simp⟩) (D13.out.bel) ?_
                  try simp only [Act.put, List.setIfInBounds_toArray, List.set_cons_zero, List.set_cons_succ]
                  refine wpAnyH_take (i := 26) (oi := { dst := some 102, op := Op.move (Operand.tmp 101), type := 4, pos := "law.go:55", after := #[{ on := 25, ground := Ground.data }, { on := 23, ground := Ground.chain }], guard := none }) (v := .bool false) rfl (by kernel_rfl) (by kernel_rfl) (by kernel_rfl) (fun _ _ _ h => h) (Or.inl ⟨by kernel_rfl, fun W hSW => by go_simp⟩) (D13.out.bel) ?_
                  try simp only [Act.put, List.setIfInBounds_toArray, List.set_cons_zero, List.set_cons_succ]
                  refine wpAnyH_take (i := 27) (oi := { dst := some 103, op := Op.move (Operand.tmp 10), type := 3, pos := "law.go:55", after := #[{ on := 26, ground := Ground.guard }], guard := some (26, false) }) (v := .int .i64 (j : Int)) rfl (by kernel_rfl) (by kernel_rfl) (by kernel_rfl) (fun _ _ _ h => h) (Or.inl ⟨by kernel_rfl, fun W hSW => by go_simp⟩) (D13.out.bel) ?_
                  try simp only [Act.put, List.setIfInBounds_toArray, List.set_cons_zero, List.set_cons_succ]
                  refine wpAnyH_take (i := 28) (oi := { dst := some 104, op := Op.binOp BinOp.rem 3 (Operand.tmp 103) (Operand.const (Value.int IntKind.i64 8)) 3, type := 3, pos := "law.go:55", after := #[{ on := 27, ground := Ground.data }, { on := 26, ground := Ground.guard }], guard := some (26, false) }) (v := .int .i64 q8) rfl (by kernel_rfl) (by kernel_rfl) (by kernel_rfl) (fun _ _ _ h => h) (Or.inl ⟨by kernel_rfl, fun W hSW => by go_simp⟩) (D13.out.bel) ?_
                  try simp only [Act.put, List.setIfInBounds_toArray, List.set_cons_zero, List.set_cons_succ]
                  refine wpAnyH_take (i := 29) (oi := { dst := some 105, op := Op.binOp BinOp.eql 3 (Operand.tmp 104) (Operand.const (Value.int IntKind.i64 0)) 3, type := 4, pos := "law.go:55", after := #[{ on := 28, ground := Ground.data }, { on := 26, ground := Ground.guard }], guard := some (26, false) }) (v := .bool false) rfl (by kernel_rfl) (by kernel_rfl) (by kernel_rfl) (fun _ _ _ h => h) (Or.inl ⟨by kernel_rfl, fun W hSW => by go_simp⟩) (D13.out.bel) ?_
                  try simp only [Act.put, List.setIfInBounds_toArray, List.set_cons_zero, List.set_cons_succ]
                  refine wpAnyH_take (i := 30) (oi := { dst := some 106, op := Op.move (Operand.tmp 105), type := 4, pos := "law.go:55", after := #[{ on := 29, ground := Ground.data }, { on := 26, ground := Ground.chain }, { on := 26, ground := Ground.guard }], guard := some (26, false) }) (v := .bool false) rfl (by kernel_rfl) (by kernel_rfl) (by kernel_rfl) (fun _ _ _ h => h) (Or.inl ⟨by kernel_rfl, fun W hSW => by go_simp⟩) (D13.out.bel) ?_
                  try simp only [Act.put, List.setIfInBounds_toArray, List.set_cons_zero, List.set_cons_succ]
                  refine wpAnyH_take (i := 31) (oi := { dst := some 107, op := Op.move (Operand.tmp 6), type := 28, pos := "law.go:55", after := #[{ on := 30, ground := Ground.guard }], guard := some (30, true) }) (v := undef) rfl (by kernel_rfl) (by kernel_rfl) (by kernel_rfl) (fun _ _ _ h => h) (Or.inr ⟨by kernel_rfl, rfl⟩) (D13.out.bel) ?_
                  try simp only [Act.put, List.setIfInBounds_toArray, List.set_cons_zero, List.set_cons_succ]
                  refine wpAnyH_take (i := 32) (oi := { dst := some 108, op := Op.call { callee := Callee.value (Operand.func 18), args := #[Operand.tmp 107], argTypes := #[28] }, type := 22, pos := "law.go:55", after := #[{ on := 31, ground := Ground.data }, { on := 30, ground := Ground.chain }, { on := 30, ground := Ground.guard }], guard := some (30, true) }) (v := undef) rfl (by kernel_rfl) (by kernel_rfl) (by kernel_rfl) (fun _ _ _ h => h) (Or.inr ⟨by kernel_rfl, rfl⟩) (D13.out.bel) ?_
                  try simp only [Act.put, List.setIfInBounds_toArray, List.set_cons_zero, List.set_cons_succ]
                  refine wpAnyH_take (i := 33) (oi := { dst := some 109, op := Op.move (Operand.tmp 8), type := 32, pos := "law.go:55", after := #[{ on := 30, ground := Ground.guard }], guard := some (30, true) }) (v := undef) rfl (by kernel_rfl) (by kernel_rfl) (by kernel_rfl) (fun _ _ _ h => h) (Or.inr ⟨by kernel_rfl, rfl⟩) (D13.out.bel) ?_
                  try simp only [Act.put, List.setIfInBounds_toArray, List.set_cons_zero, List.set_cons_succ]
                  refine wpAnyH_take (i := 34) (oi := { dst := some 110, op := Op.nilCheck (Operand.tmp 109), type := 0, pos := "law.go:55", after := #[{ on := 33, ground := Ground.data }, { on := 30, ground := Ground.guard }], guard := some (30, true) }) (v := undef) rfl (by kernel_rfl) (by kernel_rfl) (by kernel_rfl) (fun _ _ _ h => h) (Or.inr ⟨by kernel_rfl, rfl⟩) (D13.out.bel) ?_
                  try simp only [Act.put, List.setIfInBounds_toArray, List.set_cons_zero, List.set_cons_succ]
                  refine wpAnyH_take (i := 35) (oi := { dst := some 111, op := Op.fieldAddr 37 (Operand.tmp 110) 0, type := 0, pos := "law.go:55", after := #[{ on := 34, ground := Ground.data }, { on := 30, ground := Ground.guard }], guard := some (30, true) }) (v := undef) rfl (by kernel_rfl) (by kernel_rfl) (by kernel_rfl) (fun _ _ _ h => h) (Or.inr ⟨by kernel_rfl, rfl⟩) (D13.out.bel) ?_
                  try simp only [Act.put, List.setIfInBounds_toArray, List.set_cons_zero, List.set_cons_succ]
                  refine wpAnyH_take (i := 36) (oi := { dst := some 112, op := Op.load 22 (Operand.tmp 111), type := 22, pos := "law.go:55", after := #[{ on := 35, ground := Ground.data }, { on := 30, ground := Ground.guard }], guard := some (30, true) }) (v := undef) rfl (by kernel_rfl) (by kernel_rfl) (by kernel_rfl) (fun _ _ _ h => h) (Or.inr ⟨by kernel_rfl, rfl⟩) (D13.out.bel) ?_
                  try simp only [Act.put, List.setIfInBounds_toArray, List.set_cons_zero, List.set_cons_succ]
                  refine wpAnyH_take (i := 37) (oi := { dst := some 113, op := Op.call { callee := Callee.value (Operand.func 17), args := #[Operand.tmp 108, Operand.tmp 112], argTypes := #[22, 22] }, type := 4, pos := "law.go:55", after := #[{ on := 32, ground := Ground.data }, { on := 36, ground := Ground.data }, { on := 32, ground := Ground.chain }, { on := 30, ground := Ground.guard }], guard := some (30, true) }) (v := undef) rfl (by kernel_rfl) (by kernel_rfl) (by kernel_rfl) (fun _ _ _ h => h) (Or.inr ⟨by kernel_rfl, rfl⟩) (D13.out.bel) ?_
                  try simp only [Act.put, List.setIfInBounds_toArray, List.set_cons_zero, List.set_cons_succ]
                  refine wpAnyH_take (i := 38) (oi := { dst := some 114, op := Op.unOp UnOp.not 4 (Operand.tmp 113), type := 4, pos := "law.go:55", after := #[{ on := 37, ground := Ground.data }, { on := 30, ground := Ground.guard }], guard := some (30, true) }) (v := undef) rfl (by kernel_rfl) (by kernel_rfl) (by kernel_rfl) (fun _ _ _ h => h) (Or.inr ⟨by kernel_rfl, rfl⟩) (D13.out.bel) ?_
                  try simp only [Act.put, List.setIfInBounds_toArray, List.set_cons_zero, List.set_cons_succ]
                  refine wpAnyH_take (i := 39) (oi := { dst := some 115, op := Op.pick (Operand.tmp 106) (Operand.tmp 114) (Operand.const (Value.bool false)), type := 4, pos := "law.go:55", after := #[{ on := 30, ground := Ground.data }, { on := 38, ground := Ground.data }, { on := 26, ground := Ground.guard }], guard := some (26, false) }) (v := .bool false) rfl (by kernel_rfl) (by kernel_rfl) (by kernel_rfl) (fun _ _ _ h => h) (Or.inl ⟨by kernel_rfl, fun W hSW => by go_simp⟩) (D13.out.bel) ?_
                  try simp only [Act.put, List.setIfInBounds_toArray, List.set_cons_zero, List.set_cons_succ]
                  refine wpAnyH_take (i := 40) (oi := { dst := some 116, op := Op.pick (Operand.tmp 102) (Operand.const (Value.bool true)) (Operand.tmp 115), type := 4, pos := "law.go:55", after := #[{ on := 26, ground := Ground.data }, { on := 39, ground := Ground.data }], guard := none }) (v := .bool false) rfl (by kernel_rfl) (by kernel_rfl) (by kernel_rfl) (fun _ _ _ h => h) (Or.inl ⟨by kernel_rfl, fun W hSW => by go_simp⟩) (D13.out.bel) ?_
                  try simp only [Act.put, List.setIfInBounds_toArray, List.set_cons_zero, List.set_cons_succ]
                  refine wpAnyH_done (by kernel_rfl) ?_ _
                  go_wp2_with fail
                  go_roundw
                  case measure => simp [intOf] <;> omega
                  case rel => exact ⟨j + 1, r12, c12, _, r13, c13, by omega, by go_num, D13⟩
              · have hjn : ¬ ((j : Int) < (n : Int)) := by omega
                have hdec : decide ((j : Int) < (n : Int)) = false := decide_eq_false hjn
                go_wp2_with (go_at_call 18; refine (list_any D.out.s1.led (Nat.le_trans D.out.s1.len (by decide))).mono ?_)
                rintro E w20 ⟨r9, c9, rfl, hR9, hg9, b9⟩
                have HFr := Lib.hid (rlow D.out hg9)
                have D20 := Lib.hid (D.out.below b9)
                have hle := D.out.s1.len
                obtain ⟨m9, hm9⟩ : ∃ m9, m9 = xs.length := ⟨_, rfl⟩
                have HM9 := Lib.hid hm9
                rw [← hm9] at hle ⊢
                have HR9 := Lib.hid hR9
                obtain ⟨A9, hA9⟩ : ∃ A9, A9 = slA r9 := ⟨_, rfl⟩
                have HA9 := Lib.hid hA9
                rw [← hA9]
                clear D hR9 hg9 b9 hm9 hA9
                go_wp2_with fail
                go_loopw [12] (fun v12 wr => ∃ (k : Nat) (zs : List It), k ≤ m9 ∧ v12 = .int .i64 (k : Int) ∧ Hid (Par w g r c xs g2 r2 c2 xs wr ∧ zs.length = m9 ∧ Rw wr r9 c9 zs)) (fun v12 _ => m9 - (intOf v12).toNat)
                case atStart => exact ⟨0, xs, by omega, rfl, Lib.hid ⟨D20.out, HM9.out.symm, HR9.out⟩⟩
                case round =>
                  clear D20 HR9
                  obtain ⟨k, zs, hk, rfl, KK⟩ := hrel
                  have D := Lib.hid KK.out.1
                  have HZl := Lib.hid KK.out.2.1
                  have HRw := Lib.hid KK.out.2.2
                  clear KK
                  by_cases hkk : k < m9
                  · obtain ⟨⟨kk, v0⟩, hp⟩ : ∃ p, zs[k]? = some p := ⟨_, List.getElem?_eq_getElem (by rw [HZl.out]; exact hkk)⟩
                    obtain ⟨b, hb⟩ : ∃ b, r9 = some b := by
                      cases r9 with
                      | some b => exact ⟨b, rfl⟩
                      | none =>
                        have h := HRw.out.2
                        rw [h] at hp
                        simp at hp
                    subst hb
                    obtain ⟨hf1, hf2, hf3⟩ := HFr.out b rfl
                    have HN := Lib.hid fun v => (⟨D.out.store hf1 hf2 hf3 (k * 2 + 1) (.string v), by rw [List.length_set]; exact HZl.out, HRw.out.store hp v⟩ : Par w g r c xs g2 r2 c2 xs (wr.setCell ⟨b, k * 2 + 1, none⟩ (.string v)) ∧ (zs.set k (kk, v)).length = m9 ∧ Rw (wr.setCell ⟨b, k * 2 + 1, none⟩ (.string v)) (some b) c9 (zs.set k (kk, v)))
                    have hA : A9 = some ⟨b, 0, none⟩ := HA9.out
                    subst hA
                    obtain ⟨R, hblk, _⟩ := HRw.out.blk
                    have k1 : wr.cell? ⟨b, k * 2 + 1, none⟩ = some (.string v0) := hblk.cell (by rw [List.getElem?_append_left (List.getElem?_eq_some_iff.1 (itC_at hp).2).1]; exact (itC_at hp).2)
                    have f1 : wr.frozen? ⟨b, k * 2 + 1, none⟩ = false := free_block hblk _
                    have hkn : (k : Int) < (m9 : Int) := by omega
                    have hdec2 : decide ((k : Int) < (m9 : Int)) = true := decide_eq_true hkn
                    have hk0 : (0 : Int) ≤ (k : Int) := by omega
                    have hkt : ((k : Int)).toNat = k := by omega
                    have hw2 : IntKind.i64.wrap ((k : Int) + 1) = (k : Int) + 1 := by rw [IntKind.wrap_i64]; omega
                    clear hp hblk hf1 hf2 hf3 D HRw
                    go_wp2_with fail
                    go_roundw
                    case measure => simp [intOf] <;> omega
                    case rel => exact ⟨k + 1, _, by omega, by go_num, Lib.hid (HN.out _)⟩
                  · have hkn : ¬ ((k : Int) < (m9 : Int)) := by omega
                    have hdec2 : decide ((k : Int) < (m9 : Int)) = false := decide_eq_false hkn
                    clear HRw
                    go_wp2_with fail
                    refine wp_region_any (by kernel_rfl) ?_
                    refine held_gen (G := fun W => wpAny _ _ _ _ _ _ _ W) (fun W => Par w g r c xs g2 r2 c2 xs W) (D.out.below (below_drewN (Below.refl _ _) 1)) (fun W9 hW9 => ?_)
                    have D9 := Lib.hid hW9
                    clear hW9 D
                    refine wpAny_of_held (S := fun W => Below w.heap.size w W) _ _ _ _ ?_
                    refine wpAnyH_take (i := 0) (oi := { dst := some 129, op := Op.move (Operand.tmp 6), type := 28, pos := "law.go:63", after := #[], guard := none }) (v := .pointer (some ⟨g, 0, none⟩)) rfl (by kernel_rfl) (by kernel_rfl) (by kernel_rfl) (fun _ _ _ h => h) (Or.inl ⟨by kernel_rfl, fun W hSW => by go_simp⟩) (D9.out.bel) ?_
                    try simp only [Act.put, List.setIfInBounds_toArray, List.set_cons_zero, List.set_cons_succ]
                    refine wpAnyH_take (i := 2) (oi := { dst := some 131, op := Op.move (Operand.tmp 8), type := 32, pos := "law.go:63", after := #[], guard := none }) (v := .pointer (some ⟨g2, 0, none⟩)) rfl (by kernel_rfl) (by kernel_rfl) (by kernel_rfl) (fun _ _ _ h => h) (Or.inl ⟨by kernel_rfl, fun W hSW => by go_simp⟩) (D9.out.bel) ?_
                    try simp only [Act.put, List.setIfInBounds_toArray, List.set_cons_zero, List.set_cons_succ]
                    refine wpAnyH_take (i := 3) (oi := { dst := some 132, op := Op.nilCheck (Operand.tmp 131), type := 0, pos := "law.go:63", after := #[{ on := 2, ground := Ground.data }], guard := none }) (v := .pointer (some ⟨g2, 0, none⟩)) rfl (by kernel_rfl) (by kernel_rfl) (by kernel_rfl) (fun _ _ _ h => h) (Or.inl ⟨by kernel_rfl, fun W hSW => by go_simp⟩) (D9.out.bel) ?_
                    try simp only [Act.put, List.setIfInBounds_toArray, List.set_cons_zero, List.set_cons_succ]
                    refine wpAnyH_take (i := 4) (oi := { dst := some 133, op := Op.fieldAddr 37 (Operand.tmp 132) 0, type := 0, pos := "law.go:63", after := #[{ on := 3, ground := Ground.data }], guard := none }) (v := .pointer (some ⟨g2, 0, none⟩)) rfl (by kernel_rfl) (by kernel_rfl) (by kernel_rfl) (fun _ _ _ h => h) (Or.inl ⟨by kernel_rfl, fun W hSW => by go_simp⟩) (D9.out.bel) ?_
                    try simp only [Act.put, List.setIfInBounds_toArray, List.set_cons_zero, List.set_cons_succ]
                    refine wpAnyH_ready (rs := [1, 5]) (by kernel_rfl) (by simp) ?_
                    refine (AllReadyH.cons (o := { dst := some 130, op := Op.call { callee := Callee.value (Operand.func 18), args := #[Operand.tmp 129], argTypes := #[28] }, type := 22, pos := "law.go:63", after := #[{ on := 0, ground := Ground.data }], guard := none }) rfl (fun K' hK' => ?_) (AllReadyH.cons (o := { dst := some 134, op := Op.load 22 (Operand.tmp 133), type := 22, pos := "law.go:63", after := #[{ on := 4, ground := Ground.data }], guard := none }) rfl (fun K' hK' => ?_) AllReadyH.nil))
                    · go_simp
                      go_at_call 18
                      refine (list_any D9.out.s1.led (Nat.le_trans D9.out.s1.len (by decide))).mono ?_
                      rintro E w21 ⟨ra, ca, rfl, hRa, _, b21⟩
                      have D21 := Lib.hid (D9.out.below b21)
                      have IA := Lib.hid hRa.its
                      clear hRa b21 D9
                      refine hK'.out _ _ D21.out.bel (fun _ => ?_)
                      clear hK' K'
                      try simp only [Act.put, List.setIfInBounds_toArray, List.set_cons_zero, List.set_cons_succ]
                      refine wpAnyH_ready (rs := [5]) (by kernel_rfl) (by simp) ?_
                      refine AllReadyH.cons (o := { dst := some 134, op := Op.load 22 (Operand.tmp 133), type := 22, pos := "law.go:63", after := #[{ on := 4, ground := Ground.data }], guard := none }) rfl (fun K' hK' => ?_) AllReadyH.nil
                      have hcr := D21.out.s2.cell
                      go_simp
                      clear hcr
                      refine hK'.out _ _ D21.out.bel (fun _ => ?_)
                      clear hK' K'
                      try simp only [Act.put, List.setIfInBounds_toArray, List.set_cons_zero, List.set_cons_succ]
                      refine wpAnyH_ready (rs := [6]) (by kernel_rfl) (by simp) ?_
                      refine AllReadyH.cons (o := { dst := some 135, op := Op.call { callee := Callee.value (Operand.func 17), args := #[Operand.tmp 130, Operand.tmp 134], argTypes := #[22, 22] }, type := 4, pos := "law.go:63", after := #[{ on := 1, ground := Ground.data }, { on := 5, ground := Ground.data }, { on := 1, ground := Ground.chain }], guard := none }) rfl (fun K' hK' => ?_) AllReadyH.nil
                      go_simp
                      go_at_call 17
                      refine (HSame.out _ _ _ _ _ xs xs IA.out D21.out.s2.row.its (Nat.le_trans D21.out.s1.len (by decide)) (Nat.le_trans D21.out.s1.len (by decide))).mono ?_
                      rintro E w22 ⟨rfl, b22⟩
                      rw [decide_eq_true rfl]
                      have D22 := Lib.hid (D21.out.below b22)
                      clear b22 D21 IA
                      refine hK'.out _ _ D22.out.bel (fun _ => ?_)
                      clear hK' K'
                      try simp only [Act.put, List.setIfInBounds_toArray, List.set_cons_zero, List.set_cons_succ]
                      refine wpAnyH_take (i := 7) (oi := { dst := some 136, op := Op.move (Operand.tmp 135), type := 4, pos := "law.go:63", after := #[{ on := 6, ground := Ground.data }, { on := 6, ground := Ground.chain }], guard := none }) (v := .bool true) rfl (by kernel_rfl) (by kernel_rfl) (by kernel_rfl) (fun _ _ _ h => h) (Or.inl ⟨by kernel_rfl, fun W hSW => by go_simp⟩) (D22.out.bel) ?_
                      try simp only [Act.put, List.setIfInBounds_toArray, List.set_cons_zero, List.set_cons_succ]
                      refine wpAnyH_ready (rs := [8]) (by kernel_rfl) (by simp) ?_
                      refine AllReadyH.cons (o := { dst := some 137, op := Op.call { callee := Callee.value (Operand.func 9), args := #[], argTypes := #[] }, type := 4, pos := "law.go:63", after := #[{ on := 7, ground := Ground.chain }, { on := 7, ground := Ground.guard }], guard := some (7, true) }) rfl (fun K' hK' => ?_) AllReadyH.nil
                      go_simp
                      go_at_call 9
                      refine (HW.out _ D22.out.bel).mono ?_
                      rintro E w23 ⟨rfl, b23⟩
                      have D23 := Lib.hid (D22.out.below b23)
                      clear b23 D22
                      refine hK'.out _ _ D23.out.bel (fun _ => ?_)
                      clear hK' K'
                      try simp only [Act.put, List.setIfInBounds_toArray, List.set_cons_zero, List.set_cons_succ]
                      refine wpAnyH_take (i := 9) (oi := { dst := some 138, op := Op.pick (Operand.tmp 136) (Operand.tmp 137) (Operand.const (Value.bool false)), type := 4, pos := "law.go:63", after := #[{ on := 7, ground := Ground.data }, { on := 8, ground := Ground.data }], guard := none }) (v := .bool true) rfl (by kernel_rfl) (by kernel_rfl) (by kernel_rfl) (fun _ _ _ h => h) (Or.inl ⟨by kernel_rfl, fun W hSW => by go_simp⟩) (D23.out.bel) ?_
                      try simp only [Act.put, List.setIfInBounds_toArray, List.set_cons_zero, List.set_cons_succ]
                      refine wpAnyH_take (i := 10) (oi := { dst := some 4, op := Op.assign (Operand.tmp 138), type := 4, pos := "law.go:63", after := #[{ on := 9, ground := Ground.data }, { on := 8, ground := Ground.chain }, { on := 0, ground := Ground.phase }, { on := 1, ground := Ground.phase }, { on := 2, ground := Ground.phase }, { on := 3, ground := Ground.phase }, { on := 4, ground := Ground.phase }, { on := 5, ground := Ground.phase }, { on := 6, ground := Ground.phase }, { on := 7, ground := Ground.phase }, { on := 8, ground := Ground.phase }, { on := 9, ground := Ground.phase }], guard := none }) (v := .bool true) rfl (by kernel_rfl) (by kernel_rfl) (by kernel_rfl) (fun _ _ _ h => h) (Or.inl ⟨by kernel_rfl, fun W hSW => by go_simp⟩) (D23.out.bel) ?_
                      try simp only [Act.put, List.setIfInBounds_toArray, List.set_cons_zero, List.set_cons_succ]
                      refine wpAnyH_done (by kernel_rfl) ?_ _
                      go_wp2_with fail
                      go_ret
                      exact ⟨rfl, D23.out.bel⟩
                    · have hcr := D9.out.s2.cell
                      go_simp
                      clear hcr
                      refine hK'.out _ _ D9.out.bel (fun _ => ?_)
                      clear hK' K'
                      try simp only [Act.put, List.setIfInBounds_toArray, List.set_cons_zero, List.set_cons_succ]
                      refine wpAnyH_ready (rs := [1]) (by kernel_rfl) (by simp) ?_
                      refine AllReadyH.cons (o := { dst := some 130, op := Op.call { callee := Callee.value (Operand.func 18), args := #[Operand.tmp 129], argTypes := #[28] }, type := 22, pos := "law.go:63", after := #[{ on := 0, ground := Ground.data }], guard := none }) rfl (fun K' hK' => ?_) AllReadyH.nil
                      go_simp
                      go_at_call 18
                      refine (list_any D9.out.s1.led (Nat.le_trans D9.out.s1.len (by decide))).mono ?_
                      rintro E w21 ⟨ra, ca, rfl, hRa, _, b21⟩
                      have D21 := Lib.hid (D9.out.below b21)
                      have IA := Lib.hid hRa.its
                      clear hRa b21 D9
                      refine hK'.out _ _ D21.out.bel (fun _ => ?_)
                      clear hK' K'
                      try simp only [Act.put, List.setIfInBounds_toArray, List.set_cons_zero, List.set_cons_succ]
                      refine wpAnyH_ready (rs := [6]) (by kernel_rfl) (by simp) ?_
                      refine AllReadyH.cons (o := { dst := some 135, op := Op.call { callee := Callee.value (Operand.func 17), args := #[Operand.tmp 130, Operand.tmp 134], argTypes := #[22, 22] }, type := 4, pos := "law.go:63", after := #[{ on := 1, ground := Ground.data }, { on := 5, ground := Ground.data }, { on := 1, ground := Ground.chain }], guard := none }) rfl (fun K' hK' => ?_) AllReadyH.nil
                      go_simp
                      go_at_call 17
                      refine (HSame.out _ _ _ _ _ xs xs IA.out D21.out.s2.row.its (Nat.le_trans D21.out.s1.len (by decide)) (Nat.le_trans D21.out.s1.len (by decide))).mono ?_
                      rintro E w22 ⟨rfl, b22⟩
                      rw [decide_eq_true rfl]
                      have D22 := Lib.hid (D21.out.below b22)
                      clear b22 D21 IA
                      refine hK'.out _ _ D22.out.bel (fun _ => ?_)
                      clear hK' K'
                      try simp only [Act.put, List.setIfInBounds_toArray, List.set_cons_zero, List.set_cons_succ]
                      refine wpAnyH_take (i := 7) (oi := { dst := some 136, op := Op.move (Operand.tmp 135), type := 4, pos := "law.go:63", after := #[{ on := 6, ground := Ground.data }, { on := 6, ground := Ground.chain }], guard := none }) (v := .bool true) rfl (by kernel_rfl) (by kernel_rfl) (by kernel_rfl) (fun _ _ _ h => h) (Or.inl ⟨by kernel_rfl, fun W hSW => by go_simp⟩) (D22.out.bel) ?_
                      try simp only [Act.put, List.setIfInBounds_toArray, List.set_cons_zero, List.set_cons_succ]
                      refine wpAnyH_ready (rs := [8]) (by kernel_rfl) (by simp) ?_
                      refine AllReadyH.cons (o := { dst := some 137, op := Op.call { callee := Callee.value (Operand.func 9), args := #[], argTypes := #[] }, type := 4, pos := "law.go:63", after := #[{ on := 7, ground := Ground.chain }, { on := 7, ground := Ground.guard }], guard := some (7, true) }) rfl (fun K' hK' => ?_) AllReadyH.nil
                      go_simp
                      go_at_call 9
                      refine (HW.out _ D22.out.bel).mono ?_
                      rintro E w23 ⟨rfl, b23⟩
                      have D23 := Lib.hid (D22.out.below b23)
                      clear b23 D22
                      refine hK'.out _ _ D23.out.bel (fun _ => ?_)
                      clear hK' K'
                      try simp only [Act.put, List.setIfInBounds_toArray, List.set_cons_zero, List.set_cons_succ]
                      refine wpAnyH_take (i := 9) (oi := { dst := some 138, op := Op.pick (Operand.tmp 136) (Operand.tmp 137) (Operand.const (Value.bool false)), type := 4, pos := "law.go:63", after := #[{ on := 7, ground := Ground.data }, { on := 8, ground := Ground.data }], guard := none }) (v := .bool true) rfl (by kernel_rfl) (by kernel_rfl) (by kernel_rfl) (fun _ _ _ h => h) (Or.inl ⟨by kernel_rfl, fun W hSW => by go_simp⟩) (D23.out.bel) ?_
                      try simp only [Act.put, List.setIfInBounds_toArray, List.set_cons_zero, List.set_cons_succ]
                      refine wpAnyH_take (i := 10) (oi := { dst := some 4, op := Op.assign (Operand.tmp 138), type := 4, pos := "law.go:63", after := #[{ on := 9, ground := Ground.data }, { on := 8, ground := Ground.chain }, { on := 0, ground := Ground.phase }, { on := 1, ground := Ground.phase }, { on := 2, ground := Ground.phase }, { on := 3, ground := Ground.phase }, { on := 4, ground := Ground.phase }, { on := 5, ground := Ground.phase }, { on := 6, ground := Ground.phase }, { on := 7, ground := Ground.phase }, { on := 8, ground := Ground.phase }, { on := 9, ground := Ground.phase }], guard := none }) (v := .bool true) rfl (by kernel_rfl) (by kernel_rfl) (by kernel_rfl) (fun _ _ _ h => h) (Or.inl ⟨by kernel_rfl, fun W hSW => by go_simp⟩) (D23.out.bel) ?_
                      try simp only [Act.put, List.setIfInBounds_toArray, List.set_cons_zero, List.set_cons_succ]
                      refine wpAnyH_done (by kernel_rfl) ?_ _
                      go_wp2_with fail
                      go_ret
                      exact ⟨rfl, D23.out.bel⟩
end Go.Proofs.YtejckimplihmiaaDoor
