/-
  What is proved: the walk of DiskPower for whatever comes in, given that the chapter's examples hold. Conditions as stated.
-/
import Derived.Test.YthbbghkefekhfaaDu
namespace Go.Proofs.Ythbbghkefekhfaa
open Go.RowKit Go.Sort

theorem wrap_small (x : Nat) (h : x < 1000) : IntKind.i64.wrap (x : Int) = (x : Int) := by
  simp [IntKind.wrap, IntKind.signed, IntKind.bits]
  omega
theorem cell_all {w : World} {b o : Nat} {v : Value} (hb : b < w.heap.size) (h : w.cell? ⟨b, o, none⟩ = some v) : ∀ W, Below w.heap.size w W → W.cell? ⟨b, o, none⟩ = some v := fun _ hB => (hB.cell (p := ⟨b, o, none⟩) hb).trans h

set_option maxHeartbeats 8000000 in
set_option maxRecDepth 100000 in
theorem diskPower_by (hW : Works) (A : Option Addr) (n c : Nat) (xs : List (UInt8 × UInt8)) (A2 : Option Addr) (m c2 : Nat) (ys : List (UInt8 × UInt8)) (A3 : Option Addr) (r c3 : Nat) (ps : List UInt8) (w : World)
    (hx : Rp w A n xs) (hs : Sl A n c) (hy : Rp w A2 m ys) (hs2 : Sl A2 m c2) (hp : Rd (fun _ => True) w A3 r ps) (hs3 : Sl A3 r c3) :
    Calls Try.prog 4 #[.slice A n c, .slice A2 m c2, .slice A3 r c3] w fun E w' => E = .returned (.bool true) ∧ Below w.heap.size w w' := by
  have HW := Lib.hid hW
  have HX := Lib.hid hx
  have HY := Lib.hid hy
  have HPS := Lib.hid hp
  have HS3 := Lib.hid hs3
  have hsc := hs.2
  have hsc2 := hs2.2
  clear hW hx hy hp hs hs2
  by_cases hn : 60 < n
  · go_enter Try.func4, Try.ntmps4
    go_wp2_with (first | (go_at_call 9; refine (HW.out w).mono ?_; rintro E wz ⟨rfl, hb⟩))
    go_ret
    exact ⟨rfl, hb⟩
  by_cases hm : 60 < m
  · go_enter Try.func4, Try.ntmps4
    go_wp2_with (first | (go_at_call 9; refine (HW.out w).mono ?_; rintro E wz ⟨rfl, hb⟩))
    go_ret
    exact ⟨rfl, hb⟩
  by_cases hr : 200 < r
  · go_enter Try.func4, Try.ntmps4
    go_wp2_with (first | (go_at_call 9; refine (HW.out w).mono ?_; rintro E wz ⟨rfl, hb⟩))
    go_ret
    exact ⟨rfl, hb⟩
  obtain ⟨Z, hZ⟩ : ∃ b, b = zeros := ⟨_, rfl⟩
  have lZ : Z.length = 128 := by rw [hZ]; rfl
  have UZ : Hid ((u8s Z).length = 128) := Lib.hid (by rw [u8s_length, lZ])
  have HZ := Lib.hid hZ
  have hz : ∀ w, (zeroValue 33).run Try.prog w = .ok (.agg (u8s Z).toArray) w := by rw [hZ]; exact zero33
  have hz49 := zero49
  clear hZ lZ
  go_enter Try.func4, Try.ntmps4
  go_wp2_with fail
  refine (dat_new (Below.refl _ w)).mono ?_
  rintro E w1 ⟨d, rfl, h1, hdw⟩
  have D1 := Lib.hid h1
  clear h1 hdw
  go_wp2_with fail
  have DA := Lib.hid (D1.out.alloc (.cells (flat (rows [])).toArray 49))
  clear D1
  generalize w1.heap.size = q at DA ⊢
  go_loopw [9] (fun v9 wr => ∃ k : Nat, k ≤ n ∧ v9 = .int .i64 k ∧ Hid (Dat w d k (suS (xs.take k)) [(q, .cells (flat (rows (xs.take k))).toArray 49)] wr)) (fun v9 _ => n - (intOf v9).toNat)
  case atStart => exact ⟨0, by omega, rfl, DA⟩
  case round =>
    clear DA
    obtain ⟨k, hkn, rfl, HD⟩ := hrel
    by_cases hkk : k < n
    · obtain ⟨b0, o0, rfl, hb0, hc0⟩ := HX.out.2 (by omega)
      obtain ⟨⟨p1, p2⟩, hu⟩ : ∃ u, xs[k]? = some u := ⟨_, List.getElem?_eq_getElem (by rw [HX.out.1]; exact hkk)⟩
      have HCA := Lib.hid (cell_all hb0 (hc0 k _ hu).1)
      have HCB := Lib.hid (cell_all hb0 (hc0 k _ hu).2)
      have htk : xs.take (k + 1) = xs.take k ++ [(p1, p2)] := by rw [List.take_add_one, hu]; rfl
      have HNX := Lib.hid (show (suS (xs.take k)).write ((p1.toNat % 16 : Nat) : Int) (secOf p2) = ((suS (xs.take (k + 1))), 0) by rw [htk]; exact suS_next _ (p1, p2))
      have HRW := Lib.hid (show (rows (xs.take k)).set (p1.toNat % 16) (secOf p2) = rows (xs.take k ++ [(p1, p2)]) from rows_next (xs.take k) (p1, p2))
      have HTK := Lib.hid htk
      have BU : Hid (∀ wr, Calls Try.prog 15 #[.int .u8 (p2.toNat : Int)] wr fun E w' => E = .returned (.agg (u8s (secOf p2)).toArray) ∧ Below wr.heap.size wr w') := Lib.hid (bytes_any p2)
      have LS := Lib.hid (secOf_length p2)
      generalize secOf p2 = sv at HNX HRW BU LS
      obtain ⟨x16, hx16⟩ : ∃ x, x = p1.toNat % 16 := ⟨_, rfl⟩
      have hx16l : x16 < 16 := by omega
      have hxz : (p1.toNat : Int) % 16 = (x16 : Int) := by omega
      have HTM := Lib.hid (show ((p1.toNat : Int)).tmod 16 = (x16 : Int) by rw [Int.tmod_eq_emod_of_nonneg (by omega)]; exact hxz)
      have HWR := Lib.hid (show IntKind.i64.wrap (x16 : Int) = (x16 : Int) from wrap_small x16 (by omega))
      have HLT := Lib.hid (show ¬ (16 : Int) ≤ (x16 : Int) by omega)
      rw [← hx16] at HNX HRW
      clear hc0 hu htk hx16
      go_wp2_with fail
      try simp only [Act.put, List.setIfInBounds_toArray, List.set_cons_zero, List.set_cons_succ]
      refine wp_region_any (by kernel_rfl) ?_
      change wpAny _ _ _ _ _ _ _ (wr.drewN 1)
      have DD := Lib.hid (HD.out.drewN 1)
      generalize wr.drewN 1 = wD at DD ⊢
      refine wpAny_of_held (S := fun W => Below w.heap.size w W) _ _ _ _ ?_
      refine wpAnyH_take (i := 0) (oi := { dst := some 41, op := Op.move (Operand.tmp 7), type := 25, pos := "law.go:128", after := #[], guard := none }) (v := .pointer (some ⟨d, 0, none⟩)) rfl (by kernel_rfl) (by kernel_rfl) (by kernel_rfl) (fun _ _ _ h => h) (Or.inl ⟨by kernel_rfl, fun W hSW => by go_simp⟩) DD.out.below ?_
      simp only [Act.put, List.setIfInBounds_toArray, List.set_cons_zero, List.set_cons_succ]
      refine wpAnyH_take (i := 1) (oi := { dst := some 42, op := Op.move (Operand.tmp 0), type := 48, pos := "law.go:128", after := #[], guard := none }) (v := .slice (some ⟨b0, o0, none⟩) n c) rfl (by kernel_rfl) (by kernel_rfl) (by kernel_rfl) (fun _ _ _ h => h) (Or.inl ⟨by kernel_rfl, fun W hSW => by go_simp⟩) DD.out.below ?_
      simp only [Act.put, List.setIfInBounds_toArray, List.set_cons_zero, List.set_cons_succ]
      refine wpAnyH_take (i := 2) (oi := { dst := some 43, op := Op.move (Operand.tmp 9), type := 3, pos := "law.go:128", after := #[], guard := none }) (v := .int .i64 (k : Int)) rfl (by kernel_rfl) (by kernel_rfl) (by kernel_rfl) (fun _ _ _ h => h) (Or.inl ⟨by kernel_rfl, fun W hSW => by go_simp⟩) DD.out.below ?_
      simp only [Act.put, List.setIfInBounds_toArray, List.set_cons_zero, List.set_cons_succ]
      refine wpAnyH_take (i := 3) (oi := { dst := some 44, op := Op.indexAddr 48 (Operand.tmp 42) (Operand.tmp 43), type := 0, pos := "law.go:128", after := #[{ on := 1, ground := Ground.data }, { on := 2, ground := Ground.data }], guard := none }) (v := (.pointer (some ⟨b0, o0 + k * 2, none⟩))) rfl (by kernel_rfl) (by kernel_rfl) (by kernel_rfl) (fun _ _ _ h => h) (Or.inl ⟨by kernel_rfl, fun W hSW => by go_simp⟩) DD.out.below ?_
      simp only [Act.put, List.setIfInBounds_toArray, List.set_cons_zero, List.set_cons_succ]
      refine wpAnyH_take (i := 4) (oi := { dst := some 45, op := Op.fieldAddr 51 (Operand.tmp 44) 0, type := 0, pos := "law.go:128", after := #[{ on := 3, ground := Ground.data }], guard := none }) (v := (.pointer (some ⟨b0, o0 + k * 2, none⟩))) rfl (by kernel_rfl) (by kernel_rfl) (by kernel_rfl) (fun _ _ _ h => h) (Or.inl ⟨by kernel_rfl, fun W hSW => by go_simp⟩) DD.out.below ?_
      simp only [Act.put, List.setIfInBounds_toArray, List.set_cons_zero, List.set_cons_succ]
      refine wpAnyH_take (i := 5) (oi := { dst := some 46, op := Op.load 5 (Operand.tmp 45), type := 5, pos := "law.go:128", after := #[{ on := 4, ground := Ground.data }], guard := none }) (v := .int .u8 (p1.toNat : Int)) rfl (by kernel_rfl) (by kernel_rfl) (by kernel_rfl) (fun _ _ _ h => h) (Or.inl ⟨by kernel_rfl, fun W hSW => by have hcv := HCA.out W hSW; go_simp⟩) DD.out.below ?_
      simp only [Act.put, List.setIfInBounds_toArray, List.set_cons_zero, List.set_cons_succ]
      refine wpAnyH_take (i := 6) (oi := { dst := some 47, op := Op.binOp BinOp.rem 5 (Operand.tmp 46) (Operand.const (Value.int IntKind.u8 16)) 5, type := 5, pos := "law.go:128", after := #[{ on := 5, ground := Ground.data }], guard := none }) (v := .int .u8 (x16 : Int)) rfl (by kernel_rfl) (by kernel_rfl) (by kernel_rfl) (fun _ _ _ h => h) (Or.inl ⟨by kernel_rfl, fun W hSW => by have htm := HTM.out; go_simp⟩) DD.out.below ?_
      simp only [Act.put, List.setIfInBounds_toArray, List.set_cons_zero, List.set_cons_succ]
      refine wpAnyH_take (i := 7) (oi := { dst := some 48, op := Op.convert 5 3 (Operand.tmp 47), type := 3, pos := "law.go:128", after := #[{ on := 6, ground := Ground.data }], guard := none }) (v := .int .i64 (x16 : Int)) rfl (by kernel_rfl) (by kernel_rfl) (by kernel_rfl) (fun _ _ _ h => h) (Or.inl ⟨by kernel_rfl, fun W hSW => by have hwr := HWR.out; go_simp⟩) DD.out.below ?_
      simp only [Act.put, List.setIfInBounds_toArray, List.set_cons_zero, List.set_cons_succ]
      refine wpAnyH_take (i := 8) (oi := { dst := some 49, op := Op.move (Operand.tmp 0), type := 48, pos := "law.go:128", after := #[], guard := none }) (v := .slice (some ⟨b0, o0, none⟩) n c) rfl (by kernel_rfl) (by kernel_rfl) (by kernel_rfl) (fun _ _ _ h => h) (Or.inl ⟨by kernel_rfl, fun W hSW => by go_simp⟩) DD.out.below ?_
      simp only [Act.put, List.setIfInBounds_toArray, List.set_cons_zero, List.set_cons_succ]
      refine wpAnyH_take (i := 9) (oi := { dst := some 50, op := Op.move (Operand.tmp 9), type := 3, pos := "law.go:128", after := #[], guard := none }) (v := .int .i64 (k : Int)) rfl (by kernel_rfl) (by kernel_rfl) (by kernel_rfl) (fun _ _ _ h => h) (Or.inl ⟨by kernel_rfl, fun W hSW => by go_simp⟩) DD.out.below ?_
      simp only [Act.put, List.setIfInBounds_toArray, List.set_cons_zero, List.set_cons_succ]
      refine wpAnyH_take (i := 10) (oi := { dst := some 51, op := Op.indexAddr 48 (Operand.tmp 49) (Operand.tmp 50), type := 0, pos := "law.go:128", after := #[{ on := 8, ground := Ground.data }, { on := 9, ground := Ground.data }], guard := none }) (v := (.pointer (some ⟨b0, o0 + k * 2, none⟩))) rfl (by kernel_rfl) (by kernel_rfl) (by kernel_rfl) (fun _ _ _ h => h) (Or.inl ⟨by kernel_rfl, fun W hSW => by go_simp⟩) DD.out.below ?_
      simp only [Act.put, List.setIfInBounds_toArray, List.set_cons_zero, List.set_cons_succ]
      refine wpAnyH_take (i := 11) (oi := { dst := some 52, op := Op.fieldAddr 51 (Operand.tmp 51) 1, type := 0, pos := "law.go:128", after := #[{ on := 10, ground := Ground.data }], guard := none }) (v := (.pointer (some ⟨b0, o0 + k * 2 + 1, none⟩))) rfl (by kernel_rfl) (by kernel_rfl) (by kernel_rfl) (fun _ _ _ h => h) (Or.inl ⟨by kernel_rfl, fun W hSW => by go_simp⟩) DD.out.below ?_
      simp only [Act.put, List.setIfInBounds_toArray, List.set_cons_zero, List.set_cons_succ]
      refine wpAnyH_take (i := 12) (oi := { dst := some 53, op := Op.load 5 (Operand.tmp 52), type := 5, pos := "law.go:128", after := #[{ on := 11, ground := Ground.data }], guard := none }) (v := .int .u8 (p2.toNat : Int)) rfl (by kernel_rfl) (by kernel_rfl) (by kernel_rfl) (fun _ _ _ h => h) (Or.inl ⟨by kernel_rfl, fun W hSW => by have hcv := HCB.out W hSW; go_simp⟩) DD.out.below ?_
      simp only [Act.put, List.setIfInBounds_toArray, List.set_cons_zero, List.set_cons_succ]
      refine wpAnyH_ready (rs := [13]) (by kernel_rfl) (by simp) ?_
      refine AllReadyH.cons (o := { dst := some 54, op := Op.call { callee := Callee.value (Operand.func 15), args := #[Operand.tmp 53], argTypes := #[5] }, type := 33, pos := "law.go:128", after := #[{ on := 12, ground := Ground.data }], guard := none }) rfl (fun K hK => ?_) AllReadyH.nil
      go_simp
      go_at_call 15
      refine (BU.out _).mono ?_
      rintro E w2 ⟨rfl, hb⟩
      have D2 := Lib.hid (DD.out.next hb)
      clear hb DD
      refine hK.out _ _ D2.out.below (fun _ => ?_)
      clear hK K
      refine wpAnyH_ready (rs := [14]) (by kernel_rfl) (by simp) ?_
      refine AllReadyH.cons (o := { dst := some 55, op := Op.call { callee := Callee.value (Operand.func 14), args := #[Operand.tmp 41, Operand.tmp 48, Operand.tmp 54], argTypes := #[25, 3, 33] }, type := 34, pos := "law.go:128", after := #[{ on := 0, ground := Ground.data }, { on := 7, ground := Ground.data }, { on := 13, ground := Ground.data }, { on := 13, ground := Ground.chain }], guard := none }) rfl (fun K hK => ?_) AllReadyH.nil
      go_simp
      go_at_call 14
      refine (stepW D2.out sv LS.out (by omega) (x16 : Int) 0 (by rw [HNX.out]) (s' := suS (xs.take (k + 1))) (by rw [HNX.out])).mono ?_
      rintro E w3 ⟨rfl, hb⟩
      have D3 := Lib.hid hb
      clear hb D2
      refine hK.out _ _ D3.out.below (fun _ => ?_)
      clear hK K
      refine wpAnyH_take (i := 15) (oi := { dst := some 56, op := Op.binOp BinOp.neq 34 (Operand.tmp 55) (Operand.const (Value.int IntKind.i64 0)) 34, type := 4, pos := "law.go:128", after := #[{ on := 14, ground := Ground.data }], guard := none }) (v := .bool false) rfl (by kernel_rfl) (by kernel_rfl) (by kernel_rfl) (fun _ _ _ h => h) (Or.inl ⟨by kernel_rfl, fun W hSW => by go_simp⟩) D3.out.below ?_
      simp only [Act.put, List.setIfInBounds_toArray, List.set_cons_zero, List.set_cons_succ]
      refine wpAnyH_done (by kernel_rfl) ?_ _
      clear HD
      go_wp2_with fail
      try simp only [Act.put, List.setIfInBounds_toArray, List.set_cons_zero, List.set_cons_succ]
      refine wp_region_any (by kernel_rfl) ?_
      change wpAny _ _ _ _ _ _ _ (w3.drewN 1)
      have DD := Lib.hid (D3.out.drewN 1)
      clear D3
      generalize w3.drewN 1 = wD at DD ⊢
      refine wpAny_of_held (S := fun W => Below w.heap.size w W) _ _ _ _ ?_
      refine wpAnyH_take (i := 0) (oi := { dst := some 57, op := Op.move (Operand.tmp 0), type := 48, pos := "law.go:131", after := #[], guard := none }) (v := .slice (some ⟨b0, o0, none⟩) n c) rfl (by kernel_rfl) (by kernel_rfl) (by kernel_rfl) (fun _ _ _ h => h) (Or.inl ⟨by kernel_rfl, fun W hSW => by go_simp⟩) DD.out.below ?_
      simp only [Act.put, List.setIfInBounds_toArray, List.set_cons_zero, List.set_cons_succ]
      refine wpAnyH_take (i := 1) (oi := { dst := some 58, op := Op.move (Operand.tmp 9), type := 3, pos := "law.go:131", after := #[], guard := none }) (v := .int .i64 (k : Int)) rfl (by kernel_rfl) (by kernel_rfl) (by kernel_rfl) (fun _ _ _ h => h) (Or.inl ⟨by kernel_rfl, fun W hSW => by go_simp⟩) DD.out.below ?_
      simp only [Act.put, List.setIfInBounds_toArray, List.set_cons_zero, List.set_cons_succ]
      refine wpAnyH_take (i := 2) (oi := { dst := some 59, op := Op.indexAddr 48 (Operand.tmp 57) (Operand.tmp 58), type := 0, pos := "law.go:131", after := #[{ on := 0, ground := Ground.data }, { on := 1, ground := Ground.data }], guard := none }) (v := (.pointer (some ⟨b0, o0 + k * 2, none⟩))) rfl (by kernel_rfl) (by kernel_rfl) (by kernel_rfl) (fun _ _ _ h => h) (Or.inl ⟨by kernel_rfl, fun W hSW => by go_simp⟩) DD.out.below ?_
      simp only [Act.put, List.setIfInBounds_toArray, List.set_cons_zero, List.set_cons_succ]
      refine wpAnyH_take (i := 3) (oi := { dst := some 60, op := Op.fieldAddr 51 (Operand.tmp 59) 0, type := 0, pos := "law.go:131", after := #[{ on := 2, ground := Ground.data }], guard := none }) (v := (.pointer (some ⟨b0, o0 + k * 2, none⟩))) rfl (by kernel_rfl) (by kernel_rfl) (by kernel_rfl) (fun _ _ _ h => h) (Or.inl ⟨by kernel_rfl, fun W hSW => by go_simp⟩) DD.out.below ?_
      simp only [Act.put, List.setIfInBounds_toArray, List.set_cons_zero, List.set_cons_succ]
      refine wpAnyH_take (i := 4) (oi := { dst := some 61, op := Op.load 5 (Operand.tmp 60), type := 5, pos := "law.go:131", after := #[{ on := 3, ground := Ground.data }], guard := none }) (v := .int .u8 (p1.toNat : Int)) rfl (by kernel_rfl) (by kernel_rfl) (by kernel_rfl) (fun _ _ _ h => h) (Or.inl ⟨by kernel_rfl, fun W hSW => by have hcv := HCA.out W hSW; go_simp⟩) DD.out.below ?_
      simp only [Act.put, List.setIfInBounds_toArray, List.set_cons_zero, List.set_cons_succ]
      refine wpAnyH_take (i := 5) (oi := { dst := some 62, op := Op.binOp BinOp.rem 5 (Operand.tmp 61) (Operand.const (Value.int IntKind.u8 16)) 5, type := 5, pos := "law.go:131", after := #[{ on := 4, ground := Ground.data }], guard := none }) (v := .int .u8 (x16 : Int)) rfl (by kernel_rfl) (by kernel_rfl) (by kernel_rfl) (fun _ _ _ h => h) (Or.inl ⟨by kernel_rfl, fun W hSW => by have htm := HTM.out; go_simp⟩) DD.out.below ?_
      simp only [Act.put, List.setIfInBounds_toArray, List.set_cons_zero, List.set_cons_succ]
      refine wpAnyH_take (i := 6) (oi := { dst := some 63, op := Op.move (Operand.tmp 0), type := 48, pos := "law.go:131", after := #[], guard := none }) (v := .slice (some ⟨b0, o0, none⟩) n c) rfl (by kernel_rfl) (by kernel_rfl) (by kernel_rfl) (fun _ _ _ h => h) (Or.inl ⟨by kernel_rfl, fun W hSW => by go_simp⟩) DD.out.below ?_
      simp only [Act.put, List.setIfInBounds_toArray, List.set_cons_zero, List.set_cons_succ]
      refine wpAnyH_take (i := 7) (oi := { dst := some 64, op := Op.move (Operand.tmp 9), type := 3, pos := "law.go:131", after := #[], guard := none }) (v := .int .i64 (k : Int)) rfl (by kernel_rfl) (by kernel_rfl) (by kernel_rfl) (fun _ _ _ h => h) (Or.inl ⟨by kernel_rfl, fun W hSW => by go_simp⟩) DD.out.below ?_
      simp only [Act.put, List.setIfInBounds_toArray, List.set_cons_zero, List.set_cons_succ]
      refine wpAnyH_take (i := 8) (oi := { dst := some 65, op := Op.indexAddr 48 (Operand.tmp 63) (Operand.tmp 64), type := 0, pos := "law.go:131", after := #[{ on := 6, ground := Ground.data }, { on := 7, ground := Ground.data }], guard := none }) (v := (.pointer (some ⟨b0, o0 + k * 2, none⟩))) rfl (by kernel_rfl) (by kernel_rfl) (by kernel_rfl) (fun _ _ _ h => h) (Or.inl ⟨by kernel_rfl, fun W hSW => by go_simp⟩) DD.out.below ?_
      simp only [Act.put, List.setIfInBounds_toArray, List.set_cons_zero, List.set_cons_succ]
      refine wpAnyH_take (i := 9) (oi := { dst := some 66, op := Op.fieldAddr 51 (Operand.tmp 65) 1, type := 0, pos := "law.go:131", after := #[{ on := 8, ground := Ground.data }], guard := none }) (v := (.pointer (some ⟨b0, o0 + k * 2 + 1, none⟩))) rfl (by kernel_rfl) (by kernel_rfl) (by kernel_rfl) (fun _ _ _ h => h) (Or.inl ⟨by kernel_rfl, fun W hSW => by go_simp⟩) DD.out.below ?_
      simp only [Act.put, List.setIfInBounds_toArray, List.set_cons_zero, List.set_cons_succ]
      refine wpAnyH_take (i := 10) (oi := { dst := some 67, op := Op.load 5 (Operand.tmp 66), type := 5, pos := "law.go:131", after := #[{ on := 9, ground := Ground.data }], guard := none }) (v := .int .u8 (p2.toNat : Int)) rfl (by kernel_rfl) (by kernel_rfl) (by kernel_rfl) (fun _ _ _ h => h) (Or.inl ⟨by kernel_rfl, fun W hSW => by have hcv := HCB.out W hSW; go_simp⟩) DD.out.below ?_
      simp only [Act.put, List.setIfInBounds_toArray, List.set_cons_zero, List.set_cons_succ]
      refine wpAnyH_ready (rs := [11]) (by kernel_rfl) (by simp) ?_
      refine AllReadyH.cons (o := { dst := some 68, op := Op.call { callee := Callee.value (Operand.func 15), args := #[Operand.tmp 67], argTypes := #[5] }, type := 33, pos := "law.go:131", after := #[{ on := 10, ground := Ground.data }], guard := none }) rfl (fun K hK => ?_) AllReadyH.nil
      go_simp
      go_at_call 15
      refine (BU.out _).mono ?_
      rintro E w4 ⟨rfl, hb⟩
      have D4 := Lib.hid (DD.out.next hb)
      clear hb DD
      refine hK.out _ _ D4.out.below (fun _ => ?_)
      clear hK K
      refine wpAnyH_take (i := 12) (oi := { dst := some 69, op := Op.indexAddr 49 (Operand.tmp 8) (Operand.tmp 62), type := 0, pos := "law.go:131", after := #[{ on := 5, ground := Ground.data }, { on := 0, ground := Ground.phase }, { on := 1, ground := Ground.phase }, { on := 2, ground := Ground.phase }, { on := 3, ground := Ground.phase }, { on := 4, ground := Ground.phase }, { on := 5, ground := Ground.phase }, { on := 6, ground := Ground.phase }, { on := 7, ground := Ground.phase }, { on := 8, ground := Ground.phase }, { on := 9, ground := Ground.phase }, { on := 10, ground := Ground.phase }, { on := 11, ground := Ground.phase }], guard := none }) (v := (.pointer (some ⟨q, x16 * 128, none⟩))) rfl (by kernel_rfl) (by kernel_rfl) (by kernel_rfl) (fun _ _ _ h => h) (Or.inl ⟨by kernel_rfl, fun W hSW => by have hlt := HLT.out; go_simp⟩) D4.out.below ?_
      simp only [Act.put, List.setIfInBounds_toArray, List.set_cons_zero, List.set_cons_succ]
      refine wpAnyH_ready (rs := [13]) (by kernel_rfl) (by simp) ?_
      refine AllReadyH.cons (o := { dst := none, op := Op.store 33 (Operand.tmp 69) (Operand.tmp 68), type := 0, pos := "law.go:131", after := #[{ on := 12, ground := Ground.data }, { on := 11, ground := Ground.data }, { on := 11, ground := Ground.chain }, { on := 0, ground := Ground.phase }, { on := 1, ground := Ground.phase }, { on := 2, ground := Ground.phase }, { on := 3, ground := Ground.phase }, { on := 4, ground := Ground.phase }, { on := 5, ground := Ground.phase }, { on := 6, ground := Ground.phase }, { on := 7, ground := Ground.phase }, { on := 8, ground := Ground.phase }, { on := 9, ground := Ground.phase }, { on := 10, ground := Ground.phase }, { on := 11, ground := Ground.phase }], guard := none }) rfl (fun K hK => ?_) AllReadyH.nil
      refine step_store_was rfl (.tmp 69) (.tmp 68) rfl q x16 (rows (xs.take k)) (D4.out.get (q := q) (o := .cells (flat (rows (xs.take k))).toArray 49) (by simp)) (rows_len _) (by rw [rows_length]; exact hx16l) sv LS.out rfl rfl Try.size33 ?_
      intro w5 G5
      have D5 := Lib.hid (D4.out.upd (fun _ hp => by cases hp) G5.out.1 G5.out.2)
      clear G5 D4
      refine hK.out _ _ D5.out.below (fun _ => ?_)
      clear hK K
      refine wpAnyH_done (by kernel_rfl) ?_ _
      go_wp2_with fail
      go_roundw
      case measure => simp [intOf]; omega
      case rel => exact ⟨k + 1, by omega, by go_num, Lib.hid (by have := D5.out; rw [HRW.out, ← HTK.out] at this; exact this)⟩
    · obtain rfl : k = n := by omega
      have htk : xs.take k = xs := List.take_of_length_le (by rw [HX.out.1]; exact Nat.le_refl _)
      rw [htk] at HD
      clear htk
      obtain ⟨O, hO⟩ : ∃ O, O = Obj.cells (flat (rows xs)).toArray 49 := ⟨_, rfl⟩
      rw [← hO] at HD
      have HO := Lib.hid hO
      clear hO hz49
      go_wp2_with fail
      refine (stepY HD.out (by omega) 0 (by rw [suS_sync]) (s' := soS xs []) (by rw [suS_sync])).mono ?_
      rintro E w2 ⟨rfl, hb⟩
      have D2 := Lib.hid hb
      clear hb HD
      go_wp2_with fail
      refine (stepL D2.out 0 rfl).mono ?_
      rintro E _ ⟨rfl, rfl⟩
      go_wp2_with fail
      go_loopw [10] (fun v10 wr => ∃ j : Nat, j ≤ m ∧ v10 = .int .i64 j ∧ Hid (Dat w d (k + j) (soS xs (ys.take j)) [(q, O)] wr)) (fun v10 _ => m - (intOf v10).toNat)
      case atStart => exact ⟨0, by omega, rfl, D2⟩
      case round =>
        clear D2
        obtain ⟨j, hjm, rfl, HD⟩ := hrel
        by_cases hkk : j < m
        · obtain ⟨b0, o0, rfl, hb0, hc0⟩ := HY.out.2 (by omega)
          obtain ⟨⟨p1, p2⟩, hu⟩ : ∃ u, ys[j]? = some u := ⟨_, List.getElem?_eq_getElem (by rw [HY.out.1]; exact hkk)⟩
          have HCA := Lib.hid (cell_all hb0 (hc0 j _ hu).1)
          have HCB := Lib.hid (cell_all hb0 (hc0 j _ hu).2)
          have htk : ys.take (j + 1) = ys.take j ++ [(p1, p2)] := by rw [List.take_add_one, hu]; rfl
          have HNX := Lib.hid (show (soS xs (ys.take j)).write ((p1.toNat % 16 : Nat) : Int) (secOf p2) = ((soS xs (ys.take (j + 1))), 0) by rw [htk]; exact soS_next xs _ (p1, p2))
          have HTK := Lib.hid htk
          have BU : Hid (∀ wr, Calls Try.prog 15 #[.int .u8 (p2.toNat : Int)] wr fun E w' => E = .returned (.agg (u8s (secOf p2)).toArray) ∧ Below wr.heap.size wr w') := Lib.hid (bytes_any p2)
          have LS := Lib.hid (secOf_length p2)
          generalize secOf p2 = sv at HNX BU LS
          obtain ⟨x16, hx16⟩ : ∃ x, x = p1.toNat % 16 := ⟨_, rfl⟩
          have hx16l : x16 < 16 := by omega
          have hxz : (p1.toNat : Int) % 16 = (x16 : Int) := by omega
          have HTM := Lib.hid (show ((p1.toNat : Int)).tmod 16 = (x16 : Int) by rw [Int.tmod_eq_emod_of_nonneg (by omega)]; exact hxz)
          have HWR := Lib.hid (show IntKind.i64.wrap (x16 : Int) = (x16 : Int) from wrap_small x16 (by omega))
          have HLT := Lib.hid (show ¬ (16 : Int) ≤ (x16 : Int) by omega)
          rw [← hx16] at HNX
          clear hc0 hu htk hx16
          go_wp2_with fail
          try simp only [Act.put, List.setIfInBounds_toArray, List.set_cons_zero, List.set_cons_succ]
          refine wp_region_any (by kernel_rfl) ?_
          change wpAny _ _ _ _ _ _ _ (wr.drewN 1)
          have DD := Lib.hid (HD.out.drewN 1)
          generalize wr.drewN 1 = wD at DD ⊢
          refine wpAny_of_held (S := fun W => Below w.heap.size w W) _ _ _ _ ?_
          refine wpAnyH_take (i := 0) (oi := { dst := some 84, op := Op.move (Operand.tmp 7), type := 25, pos := "law.go:137", after := #[], guard := none }) (v := .pointer (some ⟨d, 0, none⟩)) rfl (by kernel_rfl) (by kernel_rfl) (by kernel_rfl) (fun _ _ _ h => h) (Or.inl ⟨by kernel_rfl, fun W hSW => by go_simp⟩) DD.out.below ?_
          simp only [Act.put, List.setIfInBounds_toArray, List.set_cons_zero, List.set_cons_succ]
          refine wpAnyH_take (i := 1) (oi := { dst := some 85, op := Op.move (Operand.tmp 1), type := 48, pos := "law.go:137", after := #[], guard := none }) (v := .slice (some ⟨b0, o0, none⟩) m c2) rfl (by kernel_rfl) (by kernel_rfl) (by kernel_rfl) (fun _ _ _ h => h) (Or.inl ⟨by kernel_rfl, fun W hSW => by go_simp⟩) DD.out.below ?_
          simp only [Act.put, List.setIfInBounds_toArray, List.set_cons_zero, List.set_cons_succ]
          refine wpAnyH_take (i := 2) (oi := { dst := some 86, op := Op.move (Operand.tmp 10), type := 3, pos := "law.go:137", after := #[], guard := none }) (v := .int .i64 (j : Int)) rfl (by kernel_rfl) (by kernel_rfl) (by kernel_rfl) (fun _ _ _ h => h) (Or.inl ⟨by kernel_rfl, fun W hSW => by go_simp⟩) DD.out.below ?_
          simp only [Act.put, List.setIfInBounds_toArray, List.set_cons_zero, List.set_cons_succ]
          refine wpAnyH_take (i := 3) (oi := { dst := some 87, op := Op.indexAddr 48 (Operand.tmp 85) (Operand.tmp 86), type := 0, pos := "law.go:137", after := #[{ on := 1, ground := Ground.data }, { on := 2, ground := Ground.data }], guard := none }) (v := (.pointer (some ⟨b0, o0 + j * 2, none⟩))) rfl (by kernel_rfl) (by kernel_rfl) (by kernel_rfl) (fun _ _ _ h => h) (Or.inl ⟨by kernel_rfl, fun W hSW => by go_simp⟩) DD.out.below ?_
          simp only [Act.put, List.setIfInBounds_toArray, List.set_cons_zero, List.set_cons_succ]
          refine wpAnyH_take (i := 4) (oi := { dst := some 88, op := Op.fieldAddr 51 (Operand.tmp 87) 0, type := 0, pos := "law.go:137", after := #[{ on := 3, ground := Ground.data }], guard := none }) (v := (.pointer (some ⟨b0, o0 + j * 2, none⟩))) rfl (by kernel_rfl) (by kernel_rfl) (by kernel_rfl) (fun _ _ _ h => h) (Or.inl ⟨by kernel_rfl, fun W hSW => by go_simp⟩) DD.out.below ?_
          simp only [Act.put, List.setIfInBounds_toArray, List.set_cons_zero, List.set_cons_succ]
          refine wpAnyH_take (i := 5) (oi := { dst := some 89, op := Op.load 5 (Operand.tmp 88), type := 5, pos := "law.go:137", after := #[{ on := 4, ground := Ground.data }], guard := none }) (v := .int .u8 (p1.toNat : Int)) rfl (by kernel_rfl) (by kernel_rfl) (by kernel_rfl) (fun _ _ _ h => h) (Or.inl ⟨by kernel_rfl, fun W hSW => by have hcv := HCA.out W hSW; go_simp⟩) DD.out.below ?_
          simp only [Act.put, List.setIfInBounds_toArray, List.set_cons_zero, List.set_cons_succ]
          refine wpAnyH_take (i := 6) (oi := { dst := some 90, op := Op.binOp BinOp.rem 5 (Operand.tmp 89) (Operand.const (Value.int IntKind.u8 16)) 5, type := 5, pos := "law.go:137", after := #[{ on := 5, ground := Ground.data }], guard := none }) (v := .int .u8 (x16 : Int)) rfl (by kernel_rfl) (by kernel_rfl) (by kernel_rfl) (fun _ _ _ h => h) (Or.inl ⟨by kernel_rfl, fun W hSW => by have htm := HTM.out; go_simp⟩) DD.out.below ?_
          simp only [Act.put, List.setIfInBounds_toArray, List.set_cons_zero, List.set_cons_succ]
          refine wpAnyH_take (i := 7) (oi := { dst := some 91, op := Op.convert 5 3 (Operand.tmp 90), type := 3, pos := "law.go:137", after := #[{ on := 6, ground := Ground.data }], guard := none }) (v := .int .i64 (x16 : Int)) rfl (by kernel_rfl) (by kernel_rfl) (by kernel_rfl) (fun _ _ _ h => h) (Or.inl ⟨by kernel_rfl, fun W hSW => by have hwr := HWR.out; go_simp⟩) DD.out.below ?_
          simp only [Act.put, List.setIfInBounds_toArray, List.set_cons_zero, List.set_cons_succ]
          refine wpAnyH_take (i := 8) (oi := { dst := some 92, op := Op.move (Operand.tmp 1), type := 48, pos := "law.go:137", after := #[], guard := none }) (v := .slice (some ⟨b0, o0, none⟩) m c2) rfl (by kernel_rfl) (by kernel_rfl) (by kernel_rfl) (fun _ _ _ h => h) (Or.inl ⟨by kernel_rfl, fun W hSW => by go_simp⟩) DD.out.below ?_
          simp only [Act.put, List.setIfInBounds_toArray, List.set_cons_zero, List.set_cons_succ]
          refine wpAnyH_take (i := 9) (oi := { dst := some 93, op := Op.move (Operand.tmp 10), type := 3, pos := "law.go:137", after := #[], guard := none }) (v := .int .i64 (j : Int)) rfl (by kernel_rfl) (by kernel_rfl) (by kernel_rfl) (fun _ _ _ h => h) (Or.inl ⟨by kernel_rfl, fun W hSW => by go_simp⟩) DD.out.below ?_
          simp only [Act.put, List.setIfInBounds_toArray, List.set_cons_zero, List.set_cons_succ]
          refine wpAnyH_take (i := 10) (oi := { dst := some 94, op := Op.indexAddr 48 (Operand.tmp 92) (Operand.tmp 93), type := 0, pos := "law.go:137", after := #[{ on := 8, ground := Ground.data }, { on := 9, ground := Ground.data }], guard := none }) (v := (.pointer (some ⟨b0, o0 + j * 2, none⟩))) rfl (by kernel_rfl) (by kernel_rfl) (by kernel_rfl) (fun _ _ _ h => h) (Or.inl ⟨by kernel_rfl, fun W hSW => by go_simp⟩) DD.out.below ?_
          simp only [Act.put, List.setIfInBounds_toArray, List.set_cons_zero, List.set_cons_succ]
          refine wpAnyH_take (i := 11) (oi := { dst := some 95, op := Op.fieldAddr 51 (Operand.tmp 94) 1, type := 0, pos := "law.go:137", after := #[{ on := 10, ground := Ground.data }], guard := none }) (v := (.pointer (some ⟨b0, o0 + j * 2 + 1, none⟩))) rfl (by kernel_rfl) (by kernel_rfl) (by kernel_rfl) (fun _ _ _ h => h) (Or.inl ⟨by kernel_rfl, fun W hSW => by go_simp⟩) DD.out.below ?_
          simp only [Act.put, List.setIfInBounds_toArray, List.set_cons_zero, List.set_cons_succ]
          refine wpAnyH_take (i := 12) (oi := { dst := some 96, op := Op.load 5 (Operand.tmp 95), type := 5, pos := "law.go:137", after := #[{ on := 11, ground := Ground.data }], guard := none }) (v := .int .u8 (p2.toNat : Int)) rfl (by kernel_rfl) (by kernel_rfl) (by kernel_rfl) (fun _ _ _ h => h) (Or.inl ⟨by kernel_rfl, fun W hSW => by have hcv := HCB.out W hSW; go_simp⟩) DD.out.below ?_
          simp only [Act.put, List.setIfInBounds_toArray, List.set_cons_zero, List.set_cons_succ]
          refine wpAnyH_ready (rs := [13]) (by kernel_rfl) (by simp) ?_
          refine AllReadyH.cons (o := { dst := some 97, op := Op.call { callee := Callee.value (Operand.func 15), args := #[Operand.tmp 96], argTypes := #[5] }, type := 33, pos := "law.go:137", after := #[{ on := 12, ground := Ground.data }], guard := none }) rfl (fun K hK => ?_) AllReadyH.nil
          go_simp
          go_at_call 15
          refine (BU.out _).mono ?_
          rintro E w2 ⟨rfl, hb⟩
          have D2 := Lib.hid (DD.out.next hb)
          clear hb DD
          refine hK.out _ _ D2.out.below (fun _ => ?_)
          clear hK K
          refine wpAnyH_ready (rs := [14]) (by kernel_rfl) (by simp) ?_
          refine AllReadyH.cons (o := { dst := some 98, op := Op.call { callee := Callee.value (Operand.func 14), args := #[Operand.tmp 84, Operand.tmp 91, Operand.tmp 97], argTypes := #[25, 3, 33] }, type := 34, pos := "law.go:137", after := #[{ on := 0, ground := Ground.data }, { on := 7, ground := Ground.data }, { on := 13, ground := Ground.data }, { on := 13, ground := Ground.chain }], guard := none }) rfl (fun K hK => ?_) AllReadyH.nil
          go_simp
          go_at_call 14
          refine (stepW D2.out sv LS.out (by omega) (x16 : Int) 0 (by rw [HNX.out]) (s' := soS xs (ys.take (j + 1))) (by rw [HNX.out])).mono ?_
          rintro E w3 ⟨rfl, hb⟩
          have D3 := Lib.hid hb
          clear hb D2
          refine hK.out _ _ D3.out.below (fun _ => ?_)
          clear hK K
          refine wpAnyH_take (i := 15) (oi := { dst := some 99, op := Op.binOp BinOp.neq 34 (Operand.tmp 98) (Operand.const (Value.int IntKind.i64 0)) 34, type := 4, pos := "law.go:137", after := #[{ on := 14, ground := Ground.data }], guard := none }) (v := .bool false) rfl (by kernel_rfl) (by kernel_rfl) (by kernel_rfl) (fun _ _ _ h => h) (Or.inl ⟨by kernel_rfl, fun W hSW => by go_simp⟩) D3.out.below ?_
          simp only [Act.put, List.setIfInBounds_toArray, List.set_cons_zero, List.set_cons_succ]
          refine wpAnyH_done (by kernel_rfl) ?_ _
          clear HD
          go_wp2_with fail
          go_roundw
          case measure => simp [intOf]; omega
          case rel => exact ⟨j + 1, by omega, by go_num, D3⟩
        · obtain rfl : j = m := by omega
          have hty : ys.take j = ys := List.take_of_length_le (by rw [HY.out.1]; exact Nat.le_refl _)
          rw [hty] at HD
          clear hty
          have HLN := Lib.hid (show (soS xs ys).loose.length = j by show (ys.map pr).length = j; rw [List.length_map, HY.out.1])
          have HR0 := Lib.hid (show (soS xs ys).offed.read 0 = (Z, 8) by rw [HZ.out]; exact soS_read0 xs ys)
          have HON := Lib.hid (soS_on xs ys ps)
          have HEL := Lib.hid (show (enS xs ys ps).loose.length = 0 from rfl)
          have HRD := Lib.hid (fun i hi => enS_read xs ys ps i hi)
          have HFA : Hid (∀ i, fine xs ys (cOf xs ys ps i) i j = true) := Lib.hid (fun i => by have := fine_end xs ys ps i; rw [HY.out.1] at this; exact this)
          generalize enS xs ys ps = sE at HON HEL HRD
          generalize soS xs ys = sS at HD HLN HR0 HON
          generalize hso : sS.offed = sO at HR0 HON
          have HSO := Lib.hid hso
          clear hso
          have hx0 : Hid (I64 0) := Lib.hid (i64_of (by omega))
          go_wp2_with fail
          refine (stepL HD.out j HLN.out).mono ?_
          rintro E _ ⟨rfl, rfl⟩
          go_wp2_with fail
          refine (stepO HD.out (s' := sO) HSO.out).mono ?_
          rintro E w2 ⟨rfl, hb⟩
          have D2 := Lib.hid hb
          clear hb HD
          go_wp2_with fail
          refine (stepR D2.out 0 hx0.out Z 8 HR0.out).mono ?_
          rintro E w3 ⟨rfl, hb, _⟩
          have D3 := Lib.hid hb
          clear hb D2
          go_wp2_with (first
            | (refine wpList_store_all rfl 33 (.tmp 11) (.tmp 110) rfl w3.heap.size (u8s Z) (u8s Z) 33 (row_new w3 (u8s Z) 33) rfl rfl rfl (by rw [UZ.out]; exact Try.size33) (u8s_one _) ?_; intro w4 G4; have D4 := Lib.hid (D3.out.var G4.out).drop; clear G4 D3))
          refine (stepN D4.out (by omega) A3 r c3 ps (rd_in HPS.out D4.out.below) HS3.out 0 (by rw [HON.out]) (s' := sE) (by rw [HON.out])).mono ?_
          rintro E w5 ⟨rfl, hb⟩
          have D5 := Lib.hid hb
          clear hb D4
          go_wp2_with fail
          refine (stepL D5.out 0 HEL.out).mono ?_
          rintro E _ ⟨rfl, rfl⟩
          go_wp2_with fail
          go_loopw [13] (fun v13 wr => ∃ i : Nat, i ≤ 16 ∧ v13 = .int .i64 i ∧ Hid (Dat w d (k + j) sE [(q, O)] wr)) (fun v13 _ => 16 - (intOf v13).toNat)
          case atStart => exact ⟨0, by omega, rfl, D5⟩
          case round =>
            clear D5
            obtain ⟨i, hi, rfl, HD⟩ := hrel
            by_cases hii : i < 16
            · have hrd := HRD.out i hii
              have hrl := HD.out.read_len (i : Int)
              have HFE := Lib.hid (HFA.out i)
              have hIi : Hid (I64 (i : Int)) := Lib.hid (i64_of (by omega))
              rw [hrd] at hrl
              generalize cOf xs ys ps i = cv at hrd hrl HFE
              simp only at hrl
              cases cv
              · obtain ⟨X, hX⟩ : ∃ X, X = zeros := ⟨_, rfl⟩
                have LX : Hid (X.length = 128) := Lib.hid (by rw [hX]; rfl)
                have HRE : Hid (sE.read i = (X, 9)) := Lib.hid (by rw [hX]; exact hrd)
                clear hX
                have UX : Hid ((u8s X).length = 128) := Lib.hid (by rw [u8s_length, LX.out])
                clear hrd hrl
                go_wp2_with fail
                refine (stepR HD.out i hIi.out X 9 HRE.out).mono ?_
                rintro E w4 ⟨rfl, hb, _⟩
                have D4 := Lib.hid hb
                clear hb HD
                go_wp2_with (first
                  | (refine wpList_store_all rfl 33 (.tmp 14) (.tmp 133) rfl w4.heap.size (u8s Z) (u8s X) 33 (row_new w4 (u8s Z) 33) (UZ.out.trans UX.out.symm) rfl rfl (by rw [UX.out]; exact Try.size33) (u8s_one _) ?_; intro w5 G5; have D5 := Lib.hid (D4.out.var G5.out); clear G5 D4))
                generalize w4.heap.size = t14 at D5 ⊢
                try simp only [Act.put, List.setIfInBounds_toArray, List.set_cons_zero, List.set_cons_succ]
                refine wp_region_quiet_lit (by kernel_rfl) (by kernel_rfl) ?_
                go_big_quiet_step (fail)
                go_big_quiet_step (fail)
                go_big_quiet_step (fail)
                go_big_quiet_step (fail)
                go_big_quiet_step (fail)
                go_big_quiet_step (fail)
                go_big_quiet_step (fail)
                go_big_quiet_step (fail)
                go_big_quiet_step (fail)
                go_big_quiet_step (fail)
                refine wpQuiet_nil ?_
                intro _ hw'
                obtain ⟨nq, hw''⟩ := hw'
                subst hw''
                have D6 := Lib.hid (D5.out.drewN nq)
                go_wp2_with fail
                go_loopw [16, 17] (fun v16 v17 wi => ∃ l : Nat, l ≤ j ∧ v17 = .int .i64 l ∧ v16 = .bool (fine xs ys none i l) ∧ Hid (Dat w d (k + j) sE [(t14, .cells (u8s X).toArray 33), (q, O)] wi)) (fun _ v17 _ => j - (intOf v17).toNat)
                case atStart => exact ⟨0, by omega, rfl, by rw [show fine xs ys none i 0 = false by simp [fine]], D6⟩
                case round =>
                  clear D6
                  obtain ⟨l, hlj, rfl, rfl, DI⟩ := hrel
                  by_cases hll : l < j
                  · obtain ⟨b0, o0, rfl, hb0, hc0⟩ := HY.out.2 (by omega)
                    obtain ⟨⟨p1, p2⟩, hu⟩ : ∃ u, ys[l]? = some u := ⟨_, List.getElem?_eq_getElem (by rw [HY.out.1]; exact hll)⟩
                    have HCA := Lib.hid (cell_all hb0 (hc0 l _ hu).1)
                    have HCB := Lib.hid (cell_all hb0 (hc0 l _ hu).2)
                    have BU : Hid (∀ wr, Calls Try.prog 15 #[.int .u8 (p2.toNat : Int)] wr fun E w' => E = .returned (.agg (u8s (secOf p2)).toArray) ∧ Below wr.heap.size wr w') := Lib.hid (bytes_any p2)
                    have LS := Lib.hid (secOf_length p2)
                    have HFN := Lib.hid (fine_next xs ys none i l (p1, p2) hu)
                    obtain ⟨x16, hx16⟩ : ∃ x, x = p1.toNat % 16 := ⟨_, rfl⟩
                    have hx16l : x16 < 16 := by omega
                    have hxz : (p1.toNat : Int) % 16 = (x16 : Int) := by omega
                    have htm : ((p1.toNat : Int)).tmod 16 = (x16 : Int) := by rw [Int.tmod_eq_emod_of_nonneg (by omega)]; exact hxz
                    have hwr : IntKind.i64.wrap (x16 : Int) = (x16 : Int) := wrap_small x16 (by omega)
                    simp only at HFN
                    rw [← hx16] at HFN
                    generalize secOf p2 = sv at HFN BU LS
                    have ca := HCA.out wr DI.out.below
                    clear hc0 hu hx16
                    obtain ⟨fb, hfb⟩ : ∃ fb, fb = fine xs ys none i l := ⟨_, rfl⟩
                    rw [← hfb] at HFN ⊢
                    clear hfb
                    by_cases hxi : x16 = i
                    · subst hxi
                      cases fb
                      · go_wp2_with fail
                        try simp only [Act.put, List.setIfInBounds_toArray, List.set_cons_zero, List.set_cons_succ]
                        refine wp_region_quiet_below (by kernel_rfl) (by kernel_rfl) ?_
                        go_big_quiet_step (fail)
                        go_big_quiet_step (fail)
                        go_big_quiet_step (fail)
                        go_big_quiet_step (fail)
                        go_big_quiet_step (fail)
                        go_big_quiet_step (fail)
                        go_big_quiet_step (fail)
                        go_big_quiet_step (fail)
                        go_big_quiet_step (fail)
                        go_big_quiet_step (fail)
                        go_big_quiet_step (fail)
                        go_big_quiet_step (fail)
                        go_big_quiet_step (fail)
                        go_big_quiet_step (fail)
                        go_big_quiet_step (fail)
                        go_big_quiet_step (fail)
                        go_big_quiet_step (fail)
                        go_big_quiet_step (fail)
                        go_big_quiet_step (fail)
                        go_big_quiet_step (fail)
                        refine wpQuiet_nil ?_
                        intro _ hw'
                        obtain ⟨⟨dq, osq⟩, hw''⟩ := hw'
                        subst hw''
                        have DJ := Lib.hid (DI.out.next (below_regrown wr dq osq))
                        go_wp2_with fail
                        go_roundw
                        case measure => simp [intOf]; omega
                        case rel => exact ⟨l + 1, by omega, by go_num, by rw [HFN.out]; simp [], DJ⟩
                      · go_wp2_with fail
                        try simp only [Act.put, List.setIfInBounds_toArray, List.set_cons_zero, List.set_cons_succ]
                        refine wp_region_quiet_below (by kernel_rfl) (by kernel_rfl) ?_
                        go_big_quiet_step (fail)
                        go_big_quiet_step (fail)
                        go_big_quiet_step (fail)
                        go_big_quiet_step (fail)
                        go_big_quiet_step (fail)
                        go_big_quiet_step (fail)
                        go_big_quiet_step (fail)
                        go_big_quiet_step (fail)
                        go_big_quiet_step (fail)
                        go_big_quiet_step (fail)
                        go_big_quiet_step (fail)
                        go_big_quiet_step (fail)
                        go_big_quiet_step (fail)
                        go_big_quiet_step (fail)
                        go_big_quiet_step (fail)
                        go_big_quiet_step (fail)
                        go_big_quiet_step (fail)
                        go_big_quiet_step (fail)
                        go_big_quiet_step (fail)
                        go_big_quiet_step (fail)
                        refine wpQuiet_nil ?_
                        intro _ hw'
                        obtain ⟨⟨dq, osq⟩, hw''⟩ := hw'
                        subst hw''
                        have DJ := Lib.hid (DI.out.next (below_regrown wr dq osq))
                        go_wp2_with fail
                        go_roundw
                        case measure => simp [intOf]; omega
                        case rel => exact ⟨l + 1, by omega, by go_num, by rw [HFN.out]; simp [], DJ⟩
                    · have hne : ¬ (x16 : Int) = (i : Int) := by omega
                      go_wp2_with fail
                      go_roundw
                      case measure => simp [intOf]; omega
                      case rel => exact ⟨l + 1, by omega, by go_num, by rw [HFN.out]; simp [hxi], DI⟩
                  · obtain rfl : l = j := by omega
                    have hfe : fine xs ys none i l = true := HFE.out
                    rw [hfe]
                    go_wp2_with fail
                    go_roundw
                    case measure => simp [intOf]; omega
                    case rel => exact ⟨i + 1, by omega, by go_num, Lib.hid DI.out.drop⟩
              · rename_i X
                have LX : Hid (X.length = 128) := Lib.hid hrl
                have HRE : Hid (sE.read i = (X, 0)) := Lib.hid hrd
                have UX : Hid ((u8s X).length = 128) := Lib.hid (by rw [u8s_length, LX.out])
                clear hrd hrl
                go_wp2_with fail
                refine (stepR HD.out i hIi.out X 0 HRE.out).mono ?_
                rintro E w4 ⟨rfl, hb, _⟩
                have D4 := Lib.hid hb
                clear hb HD
                go_wp2_with (first
                  | (refine wpList_store_all rfl 33 (.tmp 14) (.tmp 133) rfl w4.heap.size (u8s Z) (u8s X) 33 (row_new w4 (u8s Z) 33) (UZ.out.trans UX.out.symm) rfl rfl (by rw [UX.out]; exact Try.size33) (u8s_one _) ?_; intro w5 G5; have D5 := Lib.hid (D4.out.var G5.out); clear G5 D4))
                generalize w4.heap.size = t14 at D5 ⊢
                try simp only [Act.put, List.setIfInBounds_toArray, List.set_cons_zero, List.set_cons_succ]
                have rX : Hid (∀ W, (∃ n, W = w5.drewN n) → W.rangeAt t14 0 (u8s X)) := Lib.hid (fun W ⟨n, hn⟩ => by subst hn; exact range_block (w := w5.drewN n) (D5.out.get (q := t14) (o := .cells (u8s X).toArray 33) (by simp)) 0 _ (fun j v hv => by rw [Nat.zero_add]; exact hv))
                have rW : Hid (∀ W, (∃ n, W = w5.drewN n) → W.rangeAt q (i * 128) (u8s (wasOf xs i))) := Lib.hid (fun W ⟨n, hn⟩ => by subst hn; exact was_range (w := w5.drewN n) (ws := rows xs) (by have := D5.out.get (q := q) (o := O) (by simp); rw [HO.out] at this; exact this) (rows_len _) i (by rw [rows_length]; exact hii) _ (rows_at _ _ _))
                obtain ⟨V, hV⟩ : ∃ V, V = wasOf xs i := ⟨_, rfl⟩
                have LV : Hid (V.length = 128) := Lib.hid (by rw [hV]; exact wasOf_length _ _)
                have UV : Hid ((u8s V).length = 128) := Lib.hid (by rw [u8s_length, LV.out])
                obtain ⟨q0, hq0⟩ : ∃ q0, q0 = decide (X = V) := ⟨_, rfl⟩
                have hge : ∀ w, (Op.equalIn 10000 33 (.agg (u8s X).toArray) (.agg (u8s V).toArray)).run Try.prog w = .ok q0 w := fun w => by rw [hq0]; exact eq33 X V LX.out LV.out w
                have HF0 : Hid (fine xs ys (some X) i 0 = q0) := Lib.hid (by rw [hq0, hV]; simp [fine])
                rw [← hV] at rW
                have hgd := Try.guard33
                have hi16 : ¬ (16 : Int) ≤ (i : Int) := by omega
                clear hV hq0
                refine wp_region_quiet_lit (by kernel_rfl) (by kernel_rfl) ?_
                go_big_quiet_step (fail)
                go_big_quiet_step (fail)
                go_big_quiet_step (fail)
                refine wpQuiet_load_cellsG 33 (.tmp 14) rfl t14 0 rfl (u8s X) _ rX.out Try.underlying33 rfl (by rw [UX.out]; exact Try.size33) (by kernel_rfl) ?_
                simp only [Act.put, List.setIfInBounds_toArray, List.set_cons_zero, List.set_cons_succ]
                go_big_quiet_step (fail)
                go_big_quiet_step (fail)
                refine wpQuiet_load_cellsG 33 (.tmp 140) rfl q (i * 128) rfl (u8s V) _ rW.out Try.underlying33 rfl (by rw [UV.out]; exact Try.size33) (by kernel_rfl) ?_
                simp only [Act.put, List.setIfInBounds_toArray, List.set_cons_zero, List.set_cons_succ]
                go_big_quiet_step (fail)
                go_big_quiet_step (fail)
                go_big_quiet_step (fail)
                refine wpQuiet_nil ?_
                intro _ hw'
                obtain ⟨nq, hw''⟩ := hw'
                subst hw''
                have D6 := Lib.hid (D5.out.drewN nq)
                clear rX rW hge hi16 LV UV
                go_wp2_with fail
                go_loopw [16, 17] (fun v16 v17 wi => ∃ l : Nat, l ≤ j ∧ v17 = .int .i64 l ∧ v16 = .bool (fine xs ys (some X) i l) ∧ Hid (Dat w d (k + j) sE [(t14, .cells (u8s X).toArray 33), (q, O)] wi)) (fun _ v17 _ => j - (intOf v17).toNat)
                case atStart => exact ⟨0, by omega, rfl, by rw [HF0.out], D6⟩
                case round =>
                  clear D6
                  obtain ⟨l, hlj, rfl, rfl, DI⟩ := hrel
                  by_cases hll : l < j
                  · obtain ⟨b0, o0, rfl, hb0, hc0⟩ := HY.out.2 (by omega)
                    obtain ⟨⟨p1, p2⟩, hu⟩ : ∃ u, ys[l]? = some u := ⟨_, List.getElem?_eq_getElem (by rw [HY.out.1]; exact hll)⟩
                    have HCA := Lib.hid (cell_all hb0 (hc0 l _ hu).1)
                    have HCB := Lib.hid (cell_all hb0 (hc0 l _ hu).2)
                    have BU : Hid (∀ wr, Calls Try.prog 15 #[.int .u8 (p2.toNat : Int)] wr fun E w' => E = .returned (.agg (u8s (secOf p2)).toArray) ∧ Below wr.heap.size wr w') := Lib.hid (bytes_any p2)
                    have LS := Lib.hid (secOf_length p2)
                    have HFN := Lib.hid (fine_next xs ys (some X) i l (p1, p2) hu)
                    obtain ⟨x16, hx16⟩ : ∃ x, x = p1.toNat % 16 := ⟨_, rfl⟩
                    have hx16l : x16 < 16 := by omega
                    have hxz : (p1.toNat : Int) % 16 = (x16 : Int) := by omega
                    have htm : ((p1.toNat : Int)).tmod 16 = (x16 : Int) := by rw [Int.tmod_eq_emod_of_nonneg (by omega)]; exact hxz
                    have hwr : IntKind.i64.wrap (x16 : Int) = (x16 : Int) := wrap_small x16 (by omega)
                    simp only at HFN
                    rw [← hx16] at HFN
                    generalize secOf p2 = sv at HFN BU LS
                    have ca := HCA.out wr DI.out.below
                    clear hc0 hu hx16
                    obtain ⟨fb, hfb⟩ : ∃ fb, fb = fine xs ys (some X) i l := ⟨_, rfl⟩
                    rw [← hfb] at HFN ⊢
                    clear hfb
                    by_cases hxi : x16 = i
                    · subst hxi
                      cases fb
                      · by_cases hsame : X = sv
                        · have HSM := Lib.hid hsame
                          clear hsame
                          go_wp2_with fail
                          try simp only [Act.put, List.setIfInBounds_toArray, List.set_cons_zero, List.set_cons_succ]
                          have cB : Hid (∀ d os, Calls Try.prog 15 #[.int .u8 (p2.toNat : Int)] (grow (redrawn wr d) os) fun e w'' => e = .returned (.agg (u8s sv).toArray) ∧ ∃ p : Regrown, w'' = grow (redrawn wr p.d) p.os) := Lib.hid fun d os => Calls.regrown_of (BU.out _)
                          have g4 := DI.out.get (q := t14) (o := .cells (u8s X).toArray 33) (by simp)
                          have rX : Hid (∀ w', (∃ p : Regrown, w' = grow (redrawn wr p.d) p.os) → w'.rangeAt t14 0 (u8s X)) := Lib.hid fun w' ⟨p, hp⟩ => by rw [hp]; exact range_block (((below_regrown wr p.d p.os).block _ (Array.getElem?_eq_some_iff.1 g4).1).trans g4) 0 _ (fun j v hv => by rw [Nat.zero_add]; exact hv)
                          have rB : Hid (∀ w', (∃ p : Regrown, w' = grow (redrawn wr p.d) p.os) → w'.cell? ⟨b0, o0 + l * 2 + 1, none⟩ = some (.int .u8 (p2.toNat : Int))) := Lib.hid fun w' ⟨p, hp⟩ => by rw [hp]; exact HCB.out _ (DI.out.below.trans ((below_regrown wr p.d p.os).mono DI.out.below.size))
                          clear g4
                          have hgd := Try.guard33
                          have hge : ∀ w, (Op.equalIn 10000 33 (.agg (u8s X).toArray) (.agg (u8s sv).toArray)).run Try.prog w = .ok true w := fun w => by rw [eq33 X sv LX.out LS.out]; congr 1; simp [HSM.out]
                          refine wp_region_quiet_below (by kernel_rfl) (by kernel_rfl) ?_
                          go_big_quiet_step (fail)
                          go_big_quiet_step (fail)
                          go_big_quiet_step (fail)
                          go_big_quiet_step (fail)
                          go_big_quiet_step (fail)
                          refine wpQuiet_load_cellsG 33 (.tmp 14) rfl t14 0 rfl (u8s X) _ rX.out Try.underlying33 rfl (by rw [UX.out]; exact Try.size33) (by kernel_rfl) ?_
                          simp only [Act.put, List.setIfInBounds_toArray, List.set_cons_zero, List.set_cons_succ]
                          go_big_quiet_step (fail)
                          go_big_quiet_step (fail)
                          go_big_quiet_step (fail)
                          go_big_quiet_step (fail)
                          refine wpQuiet_load1 5 (.tmp 168) rfl ⟨b0, o0 + l * 2 + 1, none⟩ rfl (.int .u8 (p2.toNat : Int)) rB.out Try.underlying5 (by kernel_rfl) ?_
                          simp only [Act.put, List.setIfInBounds_toArray, List.set_cons_zero, List.set_cons_succ]
                          go_big_quiet_step (exact cB.out _ _)
                          go_big_quiet_step (fail)
                          go_big_quiet_step (fail)
                          go_big_quiet_step (fail)
                          go_big_quiet_step (fail)
                          go_big_quiet_step (fail)
                          go_big_quiet_step (fail)
                          go_big_quiet_step (fail)
                          go_big_quiet_step (fail)
                          refine wpQuiet_nil ?_
                          intro _ hw'
                          obtain ⟨⟨dq, osq⟩, hw''⟩ := hw'
                          subst hw''
                          have DJ := Lib.hid (DI.out.next (below_regrown wr dq osq))
                          clear rX rB cB hge
                          go_wp2_with fail
                          go_roundw
                          case measure => simp [intOf]; omega
                          case rel => exact ⟨l + 1, by omega, by go_num, by rw [HFN.out]; simp [HSM.out], DJ⟩
                        · go_wp2_with fail
                          try simp only [Act.put, List.setIfInBounds_toArray, List.set_cons_zero, List.set_cons_succ]
                          have cB : Hid (∀ d os, Calls Try.prog 15 #[.int .u8 (p2.toNat : Int)] (grow (redrawn wr d) os) fun e w'' => e = .returned (.agg (u8s sv).toArray) ∧ ∃ p : Regrown, w'' = grow (redrawn wr p.d) p.os) := Lib.hid fun d os => Calls.regrown_of (BU.out _)
                          have g4 := DI.out.get (q := t14) (o := .cells (u8s X).toArray 33) (by simp)
                          have rX : Hid (∀ w', (∃ p : Regrown, w' = grow (redrawn wr p.d) p.os) → w'.rangeAt t14 0 (u8s X)) := Lib.hid fun w' ⟨p, hp⟩ => by rw [hp]; exact range_block (((below_regrown wr p.d p.os).block _ (Array.getElem?_eq_some_iff.1 g4).1).trans g4) 0 _ (fun j v hv => by rw [Nat.zero_add]; exact hv)
                          have rB : Hid (∀ w', (∃ p : Regrown, w' = grow (redrawn wr p.d) p.os) → w'.cell? ⟨b0, o0 + l * 2 + 1, none⟩ = some (.int .u8 (p2.toNat : Int))) := Lib.hid fun w' ⟨p, hp⟩ => by rw [hp]; exact HCB.out _ (DI.out.below.trans ((below_regrown wr p.d p.os).mono DI.out.below.size))
                          clear g4
                          have hgd := Try.guard33
                          have hge : ∀ w, (Op.equalIn 10000 33 (.agg (u8s X).toArray) (.agg (u8s sv).toArray)).run Try.prog w = .ok false w := fun w => by rw [eq33 X sv LX.out LS.out]; congr 1; simp [hsame]
                          refine wp_region_quiet_below (by kernel_rfl) (by kernel_rfl) ?_
                          go_big_quiet_step (fail)
                          go_big_quiet_step (fail)
                          go_big_quiet_step (fail)
                          go_big_quiet_step (fail)
                          go_big_quiet_step (fail)
                          refine wpQuiet_load_cellsG 33 (.tmp 14) rfl t14 0 rfl (u8s X) _ rX.out Try.underlying33 rfl (by rw [UX.out]; exact Try.size33) (by kernel_rfl) ?_
                          simp only [Act.put, List.setIfInBounds_toArray, List.set_cons_zero, List.set_cons_succ]
                          go_big_quiet_step (fail)
                          go_big_quiet_step (fail)
                          go_big_quiet_step (fail)
                          go_big_quiet_step (fail)
                          refine wpQuiet_load1 5 (.tmp 168) rfl ⟨b0, o0 + l * 2 + 1, none⟩ rfl (.int .u8 (p2.toNat : Int)) rB.out Try.underlying5 (by kernel_rfl) ?_
                          simp only [Act.put, List.setIfInBounds_toArray, List.set_cons_zero, List.set_cons_succ]
                          go_big_quiet_step (exact cB.out _ _)
                          go_big_quiet_step (fail)
                          go_big_quiet_step (fail)
                          go_big_quiet_step (fail)
                          go_big_quiet_step (fail)
                          go_big_quiet_step (fail)
                          go_big_quiet_step (fail)
                          go_big_quiet_step (fail)
                          go_big_quiet_step (fail)
                          refine wpQuiet_nil ?_
                          intro _ hw'
                          obtain ⟨⟨dq, osq⟩, hw''⟩ := hw'
                          subst hw''
                          have DJ := Lib.hid (DI.out.next (below_regrown wr dq osq))
                          clear rX rB cB hge
                          go_wp2_with fail
                          go_roundw
                          case measure => simp [intOf]; omega
                          case rel => exact ⟨l + 1, by omega, by go_num, by rw [HFN.out]; simp [hsame], DJ⟩
                      · go_wp2_with fail
                        try simp only [Act.put, List.setIfInBounds_toArray, List.set_cons_zero, List.set_cons_succ]
                        refine wp_region_quiet_below (by kernel_rfl) (by kernel_rfl) ?_
                        go_big_quiet_step (fail)
                        go_big_quiet_step (fail)
                        go_big_quiet_step (fail)
                        go_big_quiet_step (fail)
                        go_big_quiet_step (fail)
                        go_big_quiet_step (fail)
                        go_big_quiet_step (fail)
                        go_big_quiet_step (fail)
                        go_big_quiet_step (fail)
                        go_big_quiet_step (fail)
                        go_big_quiet_step (fail)
                        go_big_quiet_step (fail)
                        go_big_quiet_step (fail)
                        go_big_quiet_step (fail)
                        go_big_quiet_step (fail)
                        go_big_quiet_step (fail)
                        go_big_quiet_step (fail)
                        go_big_quiet_step (fail)
                        go_big_quiet_step (fail)
                        go_big_quiet_step (fail)
                        refine wpQuiet_nil ?_
                        intro _ hw'
                        obtain ⟨⟨dq, osq⟩, hw''⟩ := hw'
                        subst hw''
                        have DJ := Lib.hid (DI.out.next (below_regrown wr dq osq))
                        go_wp2_with fail
                        go_roundw
                        case measure => simp [intOf]; omega
                        case rel => exact ⟨l + 1, by omega, by go_num, by rw [HFN.out]; simp [], DJ⟩
                    · have hne : ¬ (x16 : Int) = (i : Int) := by omega
                      go_wp2_with fail
                      go_roundw
                      case measure => simp [intOf]; omega
                      case rel => exact ⟨l + 1, by omega, by go_num, by rw [HFN.out]; simp [hxi], DI⟩
                  · obtain rfl : l = j := by omega
                    have hfe : fine xs ys (some X) i l = true := HFE.out
                    rw [hfe]
                    go_wp2_with fail
                    go_roundw
                    case measure => simp [intOf]; omega
                    case rel => exact ⟨i + 1, by omega, by go_num, Lib.hid DI.out.drop⟩
            · obtain rfl : i = 16 := by omega
              go_wp2_with fail
              refine (HW.out _).mono ?_
              rintro E w9 ⟨rfl, hb⟩
              go_wp2_with fail
              go_ret
              exact ⟨rfl, HD.out.below.trans (hb.mono HD.out.below.size)⟩
end Go.Proofs.Ythbbghkefekhfaa
