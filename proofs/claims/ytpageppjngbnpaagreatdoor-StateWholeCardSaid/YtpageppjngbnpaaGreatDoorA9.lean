/-
  What is proved: the document's own Do. Conditions as stated.
  What is proved: the document's own Do, Of. Conditions as stated.
  What is proved: the document's own Of. Conditions as stated.
-/
import Derived.Test.YtpageppjngbnpaaGreatDoorA8
import Derived.Laws.AppendOwnNone
import Derived.Test.YtpageppjngbnpaaGreatDoorA6
namespace Go.Proofs.YtpageppjngbnpaaGreatDoor
open Go.RowKit
set_option maxRecDepth 100000

set_option maxHeartbeats 8000000 in
theorem rdo_3 {w : World} {g : Nat} {r : Option Nat} {c : Nat} {xs : List It} (h : RL w g r c xs) (hs : Rise xs) (hn : xs.length ≤ 900) (hsm : ∀ p ∈ xs, p.2.size ≤ 128) (o : MOp) (hm : mayOp o = true) (hk : o.kind = 3) :
    Calls Tryz.prog 52 #[.pointer (some ⟨g, 0, none⟩), .agg (opC o).toArray] w fun E w' => ROpP w g r (doR xs o) E w' := by
  have H0 := Lib.hid (RAt.start h o)
  have HS := Lib.hid hs
  have HSm := Lib.hid hsm
  have HM : Hid (∀ W, Calls Tryz.prog 75 #[.agg (opC o).toArray] W fun E w' => E = .returned (.bool true) ∧ Below W.heap.size W w') := Lib.hid fun W => (rmay_any o W).mono fun E w' h => by rw [hm] at h; exact h
  have HGet : Hid (∀ W, RL W g r c xs → Calls Tryz.prog 76 #[.pointer (some ⟨g, 0, none⟩), .string o.key] W fun E w' => E = .returned (.tuple #[.string (valK xs o.key), .bool (hasK xs o.key)]) ∧ Below W.heap.size W w') := Lib.hid fun W h => rget_any h (by omega) o.key
  have HI : Hid ((Tryz.prog.info? 38).map (·.size) = some (opC o).length) := Lib.hid Tryz.is38
  have hd := do_kind (xs := xs) hm
  have HMay := Lib.hid hm
  clear h hs hsm hm
  go_enter Tryz.func52, Tryz.ntmps52
  go_wp2_with (first
    | ((with_reducible refine wpList_load_midG ?_ 38 (.tmp 3) ?_ w.heap.size 0 ?_ (opC o) _ ?_ Tryz.underlying38 ?_ ?_ ?_); rotate_left; (· rfl); (· rfl); (· exact range_all H0.out.op); (· rfl); (· exact HI.out); rotate_left; (· rfl))
    | (go_at_call 75; refine (HM.out _).mono ?_))
  rintro E w1 ⟨rfl, b1⟩
  have H1 := Lib.hid (H0.out.below b1)
  clear H0 b1 HM
  have k1 : w1.cell? ⟨w.heap.size, 1, none⟩ = some (.string o.key) := H1.out.cell 1 _ rfl
  go_wp2_with (go_at_call 76; refine (HGet.out _ H1.out.led).mono ?_)
  rintro E w2 ⟨rfl, b2⟩
  have H2 := Lib.hid (H1.out.below b2)
  clear H1 b2 HGet k1
  obtain ⟨z, hz⟩ : ∃ z, z = hasK xs o.key := ⟨_, rfl⟩
  have HZ0 := Lib.hid hz
  rw [← hz]
  clear hz
  have k0 : w2.cell? ⟨w.heap.size, 0, none⟩ = some (.int .u8 3) := by
    have := H2.out.cell 0 (.int .u8 (o.kind.toNat : Int)) rfl
    rw [hk] at this
    exact this
  cases z with
  | false =>
    have HE : Hid (doR xs o = (no 4, xs)) := Lib.hid (by rw [hd, hk]; show delR xs o = _; rw [delR, ← HZ0.out]; rfl)
    have HZ := Lib.hid (fun x y => H2.out.fin x y)
    obtain ⟨d0, d1, f0, f1⟩ := H2.out.out
    go_wp2_with fail
    (try simp only [Exit.inBlock, Exit.then]); refine bodyPost_ret (ret_range (g := w.heap.size + 1) rfl rfl (range_all (HZ.out _ _).1) Tryz.underlying33 rfl Tryz.is33) rfl ?_
    exact ⟨by rw [HE.out] <;> rfl, by rw [HE.out]; exact (HZ.out _ _).2⟩
  | true =>
    have HE : Hid (doR xs o = ((0, valK xs o.key), delK xs o.key)) := Lib.hid (by rw [hd, hk]; show delR xs o = _; rw [delR, ← HZ0.out]; rfl)
    clear hd hk
    have k1 : w2.cell? ⟨w.heap.size, 1, none⟩ = some (.string o.key) := H2.out.cell 1 _ rfl
    go_wp2_with (go_at_call 78; refine (rfind_any H2.out.led (by omega) o.key).mono ?_)
    rintro E w3 ⟨rfl, b3⟩
    have H3 := Lib.hid (H2.out.below b3)
    clear H2 b3 k0 k1
    rw [← HZ0.out]
    have hPl := pos_lt_of_has HZ0.out.symm
    cases r with
    | none => rw [H3.out.led.row.2] at hPl; simp at hPl
    | some b =>
      have hc1 := H3.out.led.row.c
      obtain ⟨n, hnn⟩ : ∃ n, n = xs.length := ⟨_, rfl⟩
      have HN := Lib.hid hnn
      rw [← hnn] at hn hPl hc1
      obtain ⟨P, hP⟩ : ∃ P, P = posOf xs o.key := ⟨_, rfl⟩
      have HP := Lib.hid hP
      rw [← hP] at hPl ⊢
      clear hnn hP
      obtain ⟨D, hD⟩ : ∃ D, D = P + 1 := ⟨_, rfl⟩
      have HD := Lib.hid hD
      have hw1 : IntKind.i64.wrap ((P : Int) + 1) = (D : Int) := by rw [IntKind.wrap_i64]; omega
      have hP0 : (0 : Int) ≤ (P : Int) := by omega
      have hPc : (P : Int) ≤ (c : Int) := by omega
      have hPn2 : (P : Int) ≤ (n : Int) := by omega
      have htn : ((P : Int)).toNat = P := by omega
      have q4 : (n : Int) ≤ (c : Int) := by omega
      have q0 : (0 : Int) ≤ (D : Int) := by omega
      have q1 : (D : Int) ≤ (n : Int) := by omega
      have q3 : (D : Int) ≤ (c : Int) := by omega
      have q2 : ((D : Int)).toNat = D := by omega
      have hDn : D ≤ n := by omega
      clear hD
      go_wp2_with fail
      refine wp_region_any (by kernel_rfl) ?_
      refine held_gen (G := fun W => wpAny _ _ _ _ _ _ _ W) (fun W => RAt w g (some b) o W (some b) c xs) (H3.out.below (below_drewN (Below.refl _ _) 1)) (fun W0 hW0 => ?_)
      have H4 := Lib.hid hW0
      clear hW0 H3
      have HL := Lib.hid H4.out.led
      have HCell : Hid (∀ W, Below W0.heap.size W0 W → W.cell? ⟨g, 0, none⟩ = some (.slice (some ⟨b, 0, none⟩) n c)) := Lib.hid fun W hb => by rw [HN.out]; exact (HL.out.below hb).cell
      have HTop : Hid (∀ W, Below W0.heap.size W0 W → W.frozen? ⟨g, 0, none⟩ = false) := Lib.hid fun W hb => free_block (HL.out.below hb).top 0
      have HTl : Hid ((itC (xs.take P)).length = P * 2) := Lib.hid (by rw [itC_length, List.length_take, ← HN.out, Nat.min_eq_left (Nat.le_of_lt hPl)])
      have HT1 := Lib.hid (itC_one (xs.take P))
      have HT : Hid (∀ W, Below W0.heap.size W0 W → ∀ j u, (itC (xs.take P))[j]? = some u → W.cell? ((⟨b, 0, none⟩ : Addr).add j) = some u) := Lib.hid fun W hb j u hu => by
        have := row_cells (HL.out.below hb).row 0 P j u (by simpa using hu)
        simpa using this
      have HO0 : Hid (∀ W : World, W.ownsRow W0.heap.size 83 2 (.slice none 0 0) 0 []) := Lib.hid fun W => World.ownsRow_nil W _ _ _
      have HB0 := Lib.hid (Below.refl W0.heap.size W0)
      refine wpAny_of_held (S := fun _ => True) _ _ _ _ ?_
      by_cases hcD : c = D
      · have hcD2 := hcD.symm
        subst hcD2
        have HDl : Hid ((itC (xs.drop D)).length = 0 * 2) := Lib.hid (by rw [itC_length, List.length_drop, ← HN.out]; omega)
        have HD1 := Lib.hid (itC_one (xs.drop D))
        have HD2 : Hid (∀ W, Below W0.heap.size W0 W → ∀ j u, (itC (xs.drop D))[j]? = some u → W.cell? ((⟨b, 0, none⟩ : Addr).add j) = some u) := Lib.hid fun W hb j u hu => by
          have : xs.drop D = [] := List.drop_eq_nil_of_le (by rw [← HN.out]; omega)
          rw [this] at hu
          simp [itC] at hu
        have HEnd : Hid (∀ v4 W, W.ownsRow W0.heap.size 83 2 v4 (P + 0) (itC (xs.take P) ++ itC (xs.drop D)) → Below W0.heap.size W0 W → ∃ r' c', v4 = .slice (slA r') P c' ∧ ∃ r2 c2, RL (W.setCell ⟨g, 0, none⟩ (.slice (slA r') P c')) g r2 c2 (delK xs o.key) ∧ Own W0 (On g (some b)) (W.setCell ⟨g, 0, none⟩ (.slice (slA r') P c')) (On g r2)) := Lib.hid fun v4 W ho hb => by
          have hs : delK xs o.key = xs.take P ++ xs.drop D := by rw [delK, HD.out, HP.out]
          rw [hs]
          have e1 : (xs.take P ++ xs.drop D).length = P + 0 := by
            rw [List.length_append, List.length_take, List.length_drop, ← HN.out, Nat.min_eq_left (Nat.le_of_lt hPl)]
            omega
          have e2 : itC (xs.take P ++ xs.drop D) = itC (xs.take P) ++ itC (xs.drop D) := itC_app _ _
          rw [← e1, ← e2] at ho
          obtain ⟨r', c', he, _, _⟩ := rw_of_own ho
          rw [show (xs.take P ++ xs.drop D).length = P from e1] at he
          refine ⟨r', c', he, ?_⟩
          rw [← he]
          exact rset_fin HL.out ho hb
        obtain ⟨CT, hCT⟩ : ∃ C, C = itC (xs.take P) := ⟨_, rfl⟩
        obtain ⟨CD, hCD⟩ : ∃ C, C = itC (xs.drop D) := ⟨_, rfl⟩
        rw [← hCT] at HTl HT1 HT HEnd
        rw [← hCD] at HDl HD1 HD2 HEnd
        clear hCT hCD
        refine wpAnyH_take (i := 0) (oi := { dst := some 56, op := Op.move (Operand.tmp 0), type := 45, pos := "ref.go:127", after := #[], guard := none }) (v := .pointer (some ⟨g, 0, none⟩)) rfl (by kernel_rfl) (by kernel_rfl) (by kernel_rfl) (fun _ _ _ h => h) (Or.inl ⟨by kernel_rfl, fun W hSW => by go_simp⟩) (trivial) ?_
        try simp only [Act.put, List.setIfInBounds_toArray, List.set_cons_zero, List.set_cons_succ]
        refine wpAnyH_take (i := 1) (oi := { dst := some 57, op := Op.move (Operand.tmp 9), type := 53, pos := "ref.go:127", after := #[], guard := none }) (v := .slice none 0 0) rfl (by kernel_rfl) (by kernel_rfl) (by kernel_rfl) (fun _ _ _ h => h) (Or.inl ⟨by kernel_rfl, fun W hSW => by go_simp⟩) (trivial) ?_
        try simp only [Act.put, List.setIfInBounds_toArray, List.set_cons_zero, List.set_cons_succ]
        refine wpAnyH_take (i := 2) (oi := { dst := some 58, op := Op.move (Operand.tmp 0), type := 45, pos := "ref.go:127", after := #[], guard := none }) (v := .pointer (some ⟨g, 0, none⟩)) rfl (by kernel_rfl) (by kernel_rfl) (by kernel_rfl) (fun _ _ _ h => h) (Or.inl ⟨by kernel_rfl, fun W hSW => by go_simp⟩) (trivial) ?_
        try simp only [Act.put, List.setIfInBounds_toArray, List.set_cons_zero, List.set_cons_succ]
        refine wpAnyH_take (i := 3) (oi := { dst := some 59, op := Op.nilCheck (Operand.tmp 58), type := 0, pos := "ref.go:127", after := #[{ on := 2, ground := Ground.data }], guard := none }) (v := .pointer (some ⟨g, 0, none⟩)) rfl (by kernel_rfl) (by kernel_rfl) (by kernel_rfl) (fun _ _ _ h => h) (Or.inl ⟨by kernel_rfl, fun W hSW => by go_simp⟩) (trivial) ?_
        try simp only [Act.put, List.setIfInBounds_toArray, List.set_cons_zero, List.set_cons_succ]
        refine wpAnyH_take (i := 4) (oi := { dst := some 60, op := Op.fieldAddr 56 (Operand.tmp 59) 0, type := 0, pos := "ref.go:127", after := #[{ on := 3, ground := Ground.data }], guard := none }) (v := .pointer (some ⟨g, 0, none⟩)) rfl (by kernel_rfl) (by kernel_rfl) (by kernel_rfl) (fun _ _ _ h => h) (Or.inl ⟨by kernel_rfl, fun W hSW => by go_simp⟩) (trivial) ?_
        try simp only [Act.put, List.setIfInBounds_toArray, List.set_cons_zero, List.set_cons_succ]
        refine wpAnyH_take (i := 6) (oi := { dst := some 62, op := Op.move (Operand.tmp 7), type := 3, pos := "ref.go:127", after := #[], guard := none }) (v := .int .i64 (P : Int)) rfl (by kernel_rfl) (by kernel_rfl) (by kernel_rfl) (fun _ _ _ h => h) (Or.inl ⟨by kernel_rfl, fun W hSW => by go_simp⟩) (trivial) ?_
        try simp only [Act.put, List.setIfInBounds_toArray, List.set_cons_zero, List.set_cons_succ]
        refine wpAnyH_take (i := 9) (oi := { dst := some 65, op := Op.move (Operand.tmp 0), type := 45, pos := "ref.go:127", after := #[], guard := none }) (v := .pointer (some ⟨g, 0, none⟩)) rfl (by kernel_rfl) (by kernel_rfl) (by kernel_rfl) (fun _ _ _ h => h) (Or.inl ⟨by kernel_rfl, fun W hSW => by go_simp⟩) (trivial) ?_
        try simp only [Act.put, List.setIfInBounds_toArray, List.set_cons_zero, List.set_cons_succ]
        refine wpAnyH_take (i := 10) (oi := { dst := some 66, op := Op.nilCheck (Operand.tmp 65), type := 0, pos := "ref.go:127", after := #[{ on := 9, ground := Ground.data }], guard := none }) (v := .pointer (some ⟨g, 0, none⟩)) rfl (by kernel_rfl) (by kernel_rfl) (by kernel_rfl) (fun _ _ _ h => h) (Or.inl ⟨by kernel_rfl, fun W hSW => by go_simp⟩) (trivial) ?_
        try simp only [Act.put, List.setIfInBounds_toArray, List.set_cons_zero, List.set_cons_succ]
        refine wpAnyH_take (i := 11) (oi := { dst := some 67, op := Op.fieldAddr 56 (Operand.tmp 66) 0, type := 0, pos := "ref.go:127", after := #[{ on := 10, ground := Ground.data }], guard := none }) (v := .pointer (some ⟨g, 0, none⟩)) rfl (by kernel_rfl) (by kernel_rfl) (by kernel_rfl) (fun _ _ _ h => h) (Or.inl ⟨by kernel_rfl, fun W hSW => by go_simp⟩) (trivial) ?_
        try simp only [Act.put, List.setIfInBounds_toArray, List.set_cons_zero, List.set_cons_succ]
        refine wpAnyH_take (i := 13) (oi := { dst := some 69, op := Op.move (Operand.tmp 7), type := 3, pos := "ref.go:127", after := #[], guard := none }) (v := .int .i64 (P : Int)) rfl (by kernel_rfl) (by kernel_rfl) (by kernel_rfl) (fun _ _ _ h => h) (Or.inl ⟨by kernel_rfl, fun W hSW => by go_simp⟩) (trivial) ?_
        try simp only [Act.put, List.setIfInBounds_toArray, List.set_cons_zero, List.set_cons_succ]
        refine wpAnyH_take (i := 14) (oi := { dst := some 70, op := Op.binOp BinOp.add 3 (Operand.tmp 69) (Operand.const (Value.int IntKind.i64 1)) 3, type := 3, pos := "ref.go:127", after := #[{ on := 13, ground := Ground.data }], guard := none }) (v := .int .i64 (D : Int)) rfl (by kernel_rfl) (by kernel_rfl) (by kernel_rfl) (fun _ _ _ h => h) (Or.inl ⟨by kernel_rfl, fun W hSW => by go_simp⟩) (trivial) ?_
        try simp only [Act.put, List.setIfInBounds_toArray, List.set_cons_zero, List.set_cons_succ]
        refine wpAnyH_ready (rs := [5, 12]) (by kernel_rfl) (by simp) ?_
        refine (AllReadyH.cons (o := { dst := some 61, op := Op.load 53 (Operand.tmp 60), type := 53, pos := "ref.go:127", after := #[{ on := 4, ground := Ground.data }], guard := none }) rfl (fun K' hK' => ?_) (AllReadyH.cons (o := { dst := some 68, op := Op.load 53 (Operand.tmp 67), type := 53, pos := "ref.go:127", after := #[{ on := 11, ground := Ground.data }], guard := none }) rfl (fun K' hK' => ?_) AllReadyH.nil))
        · have hc := HCell.out _ HB0.out
          go_simp
          clear hc
          refine hK'.out _ _ trivial (fun _ => ?_)
          clear hK' K'
          try simp only [Act.put, List.setIfInBounds_toArray, List.set_cons_zero, List.set_cons_succ]
          refine wpAnyH_take (i := 7) (oi := { dst := some 63, op := Op.slice 53 (Operand.tmp 61) none (some (Operand.tmp 62)) none, type := 53, pos := "ref.go:127", after := #[{ on := 5, ground := Ground.data }, { on := 6, ground := Ground.data }], guard := none }) (v := .slice (some ⟨b, 0, none⟩) P D) rfl (by kernel_rfl) (by kernel_rfl) (by kernel_rfl) (fun _ _ _ h => h) (Or.inl ⟨by kernel_rfl, fun W hSW => by go_simp⟩) (trivial) ?_
          try simp only [Act.put, List.setIfInBounds_toArray, List.set_cons_zero, List.set_cons_succ]
          refine wpAnyH_ready (rs := [8, 12]) (by kernel_rfl) (by simp) ?_
          refine (AllReadyH.cons (o := { dst := some 64, op := Op.call { callee := Callee.builtin Builtin.append, args := #[Operand.tmp 57, Operand.tmp 63], argTypes := #[53, 53] }, type := 53, pos := "ref.go:127", after := #[{ on := 1, ground := Ground.data }, { on := 7, ground := Ground.data }], guard := none }) rfl (fun K' hK' => ?_) (AllReadyH.cons (o := { dst := some 68, op := Op.load 53 (Operand.tmp 67), type := 53, pos := "ref.go:127", after := #[{ on := 11, ground := Ground.data }], guard := none }) rfl (fun K' hK' => ?_) AllReadyH.nil))
          · rw [if_pos (by kernel_rfl)]
            refine wp_app (.tmp 57) (.tmp 63) rfl rfl (HO0.out _) HB0.out ⟨b, 0, none⟩ P D CT rfl HTl.out (HT.out _ HB0.out) HT1.out (by omega) ?_
            intro v1 w5 hown hb2
            rw [Nat.zero_add, List.nil_append] at hown
            have HO1 := Lib.hid hown
            have B2 := Lib.hid hb2
            clear hown hb2 HB0
            refine hK'.out _ _ trivial (fun _ => ?_)
            clear hK' K'
            try simp only [Act.put, List.setIfInBounds_toArray, List.set_cons_zero, List.set_cons_succ]
            refine wpAnyH_ready (rs := [12]) (by kernel_rfl) (by simp) ?_
            refine AllReadyH.cons (o := { dst := some 68, op := Op.load 53 (Operand.tmp 67), type := 53, pos := "ref.go:127", after := #[{ on := 11, ground := Ground.data }], guard := none }) rfl (fun K' hK' => ?_) AllReadyH.nil
            have hc := HCell.out _ B2.out
            go_simp
            clear hc
            refine hK'.out _ _ trivial (fun _ => ?_)
            clear hK' K'
            try simp only [Act.put, List.setIfInBounds_toArray, List.set_cons_zero, List.set_cons_succ]
            refine wpAnyH_take (i := 15) (oi := { dst := some 71, op := Op.slice 53 (Operand.tmp 68) (some (Operand.tmp 70)) none none, type := 53, pos := "ref.go:127", after := #[{ on := 12, ground := Ground.data }, { on := 14, ground := Ground.data }], guard := none }) (v := .slice (some ⟨b, 0, none⟩) 0 0) rfl (by kernel_rfl) (by kernel_rfl) (by kernel_rfl) (fun _ _ _ h => h) (Or.inl ⟨by kernel_rfl, fun W hSW => by go_simp⟩) (trivial) ?_
            try simp only [Act.put, List.setIfInBounds_toArray, List.set_cons_zero, List.set_cons_succ]
            refine wpAnyH_ready (rs := [16]) (by kernel_rfl) (by simp) ?_
            refine AllReadyH.cons (o := { dst := some 72, op := Op.call { callee := Callee.builtin Builtin.append, args := #[Operand.tmp 64, Operand.tmp 71], argTypes := #[53, 53] }, type := 53, pos := "ref.go:127", after := #[{ on := 8, ground := Ground.data }, { on := 15, ground := Ground.data }, { on := 8, ground := Ground.chain }], guard := none }) rfl (fun K' hK' => ?_) AllReadyH.nil
            rw [if_pos (by kernel_rfl)]
            refine wp_app (.tmp 64) (.tmp 71) rfl rfl HO1.out B2.out ⟨b, 0, none⟩ 0 0 CD rfl HDl.out (HD2.out _ B2.out) HD1.out (by omega) ?_
            intro v2 w6 hown hb3
            obtain ⟨r7, c7, rfl, r8, c8, hl8, ho8⟩ := HEnd.out v2 w6 hown hb3
            have B3 := Lib.hid hb3
            have cg6 := HCell.out w6 hb3
            have fz6 := HTop.out w6 hb3
            have H8 := Lib.hid (H4.out.next hl8 ho8)
            clear hown hb3 B2 HO1 hl8 ho8
            refine hK'.out _ _ trivial (fun _ => ?_)
            clear hK' K'
            try simp only [Act.put, List.setIfInBounds_toArray, List.set_cons_zero, List.set_cons_succ]
            refine wpAnyH_take (i := 17) (oi := { dst := some 73, op := Op.nilCheck (Operand.tmp 56), type := 0, pos := "ref.go:127", after := #[{ on := 0, ground := Ground.data }, { on := 0, ground := Ground.phase }, { on := 1, ground := Ground.phase }, { on := 2, ground := Ground.phase }, { on := 3, ground := Ground.phase }, { on := 4, ground := Ground.phase }, { on := 5, ground := Ground.phase }, { on := 6, ground := Ground.phase }, { on := 7, ground := Ground.phase }, { on := 8, ground := Ground.phase }, { on := 9, ground := Ground.phase }, { on := 10, ground := Ground.phase }, { on := 11, ground := Ground.phase }, { on := 12, ground := Ground.phase }, { on := 13, ground := Ground.phase }, { on := 14, ground := Ground.phase }, { on := 15, ground := Ground.phase }, { on := 16, ground := Ground.phase }], guard := none }) (v := .pointer (some ⟨g, 0, none⟩)) rfl (by kernel_rfl) (by kernel_rfl) (by kernel_rfl) (fun _ _ _ h => h) (Or.inl ⟨by kernel_rfl, fun W hSW => by go_simp⟩) (trivial) ?_
            try simp only [Act.put, List.setIfInBounds_toArray, List.set_cons_zero, List.set_cons_succ]
            refine wpAnyH_take (i := 18) (oi := { dst := some 74, op := Op.fieldAddr 56 (Operand.tmp 73) 0, type := 0, pos := "ref.go:127", after := #[{ on := 17, ground := Ground.data }, { on := 0, ground := Ground.phase }, { on := 1, ground := Ground.phase }, { on := 2, ground := Ground.phase }, { on := 3, ground := Ground.phase }, { on := 4, ground := Ground.phase }, { on := 5, ground := Ground.phase }, { on := 6, ground := Ground.phase }, { on := 7, ground := Ground.phase }, { on := 8, ground := Ground.phase }, { on := 9, ground := Ground.phase }, { on := 10, ground := Ground.phase }, { on := 11, ground := Ground.phase }, { on := 12, ground := Ground.phase }, { on := 13, ground := Ground.phase }, { on := 14, ground := Ground.phase }, { on := 15, ground := Ground.phase }, { on := 16, ground := Ground.phase }], guard := none }) (v := .pointer (some ⟨g, 0, none⟩)) rfl (by kernel_rfl) (by kernel_rfl) (by kernel_rfl) (fun _ _ _ h => h) (Or.inl ⟨by kernel_rfl, fun W hSW => by go_simp⟩) (trivial) ?_
            try simp only [Act.put, List.setIfInBounds_toArray, List.set_cons_zero, List.set_cons_succ]
            refine wpAnyH_ready (rs := [19]) (by kernel_rfl) (by simp) ?_
            refine AllReadyH.cons (o := { dst := none, op := Op.store 53 (Operand.tmp 74) (Operand.tmp 72), type := 0, pos := "ref.go:127", after := #[{ on := 18, ground := Ground.data }, { on := 16, ground := Ground.data }, { on := 16, ground := Ground.chain }, { on := 0, ground := Ground.phase }, { on := 1, ground := Ground.phase }, { on := 2, ground := Ground.phase }, { on := 3, ground := Ground.phase }, { on := 4, ground := Ground.phase }, { on := 5, ground := Ground.phase }, { on := 6, ground := Ground.phase }, { on := 7, ground := Ground.phase }, { on := 8, ground := Ground.phase }, { on := 9, ground := Ground.phase }, { on := 10, ground := Ground.phase }, { on := 11, ground := Ground.phase }, { on := 12, ground := Ground.phase }, { on := 13, ground := Ground.phase }, { on := 14, ground := Ground.phase }, { on := 15, ground := Ground.phase }, { on := 16, ground := Ground.phase }], guard := none }) rfl (fun K' hK' => ?_) AllReadyH.nil
            go_simp
            refine hK'.out _ _ trivial (fun _ => ?_)
            clear hK' K'
            try simp only [Act.put]
            refine wpAnyH_done (by kernel_rfl) ?_ _
            have HZ := Lib.hid (fun x y => H8.out.fin x y)
            obtain ⟨d0, d1, f0, f1⟩ := H8.out.out
            go_wp2_with fail
            (try simp only [Exit.inBlock, Exit.then]); refine bodyPost_ret (ret_range (g := w.heap.size + 1) rfl rfl (range_all (HZ.out _ _).1) Tryz.underlying33 rfl Tryz.is33) rfl ?_
            exact ⟨by rw [HE.out] <;> rfl, by rw [HE.out]; exact (HZ.out _ _).2⟩
          · have hc := HCell.out _ HB0.out
            go_simp
            clear hc
            refine hK'.out _ _ trivial (fun _ => ?_)
            clear hK' K'
            try simp only [Act.put, List.setIfInBounds_toArray, List.set_cons_zero, List.set_cons_succ]
            refine wpAnyH_take (i := 15) (oi := { dst := some 71, op := Op.slice 53 (Operand.tmp 68) (some (Operand.tmp 70)) none none, type := 53, pos := "ref.go:127", after := #[{ on := 12, ground := Ground.data }, { on := 14, ground := Ground.data }], guard := none }) (v := .slice (some ⟨b, 0, none⟩) 0 0) rfl (by kernel_rfl) (by kernel_rfl) (by kernel_rfl) (fun _ _ _ h => h) (Or.inl ⟨by kernel_rfl, fun W hSW => by go_simp⟩) (trivial) ?_
            try simp only [Act.put, List.setIfInBounds_toArray, List.set_cons_zero, List.set_cons_succ]
            refine wpAnyH_ready (rs := [8]) (by kernel_rfl) (by simp) ?_
            refine AllReadyH.cons (o := { dst := some 64, op := Op.call { callee := Callee.builtin Builtin.append, args := #[Operand.tmp 57, Operand.tmp 63], argTypes := #[53, 53] }, type := 53, pos := "ref.go:127", after := #[{ on := 1, ground := Ground.data }, { on := 7, ground := Ground.data }], guard := none }) rfl (fun K' hK' => ?_) AllReadyH.nil
            rw [if_pos (by kernel_rfl)]
            refine wp_app (.tmp 57) (.tmp 63) rfl rfl (HO0.out _) HB0.out ⟨b, 0, none⟩ P D CT rfl HTl.out (HT.out _ HB0.out) HT1.out (by omega) ?_
            intro v1 w5 hown hb2
            rw [Nat.zero_add, List.nil_append] at hown
            have HO1 := Lib.hid hown
            have B2 := Lib.hid hb2
            clear hown hb2 HB0
            refine hK'.out _ _ trivial (fun _ => ?_)
            clear hK' K'
            try simp only [Act.put, List.setIfInBounds_toArray, List.set_cons_zero, List.set_cons_succ]
            refine wpAnyH_ready (rs := [16]) (by kernel_rfl) (by simp) ?_
            refine AllReadyH.cons (o := { dst := some 72, op := Op.call { callee := Callee.builtin Builtin.append, args := #[Operand.tmp 64, Operand.tmp 71], argTypes := #[53, 53] }, type := 53, pos := "ref.go:127", after := #[{ on := 8, ground := Ground.data }, { on := 15, ground := Ground.data }, { on := 8, ground := Ground.chain }], guard := none }) rfl (fun K' hK' => ?_) AllReadyH.nil
            rw [if_pos (by kernel_rfl)]
            refine wp_app (.tmp 64) (.tmp 71) rfl rfl HO1.out B2.out ⟨b, 0, none⟩ 0 0 CD rfl HDl.out (HD2.out _ B2.out) HD1.out (by omega) ?_
            intro v2 w6 hown hb3
            obtain ⟨r7, c7, rfl, r8, c8, hl8, ho8⟩ := HEnd.out v2 w6 hown hb3
            have B3 := Lib.hid hb3
            have cg6 := HCell.out w6 hb3
            have fz6 := HTop.out w6 hb3
            have H8 := Lib.hid (H4.out.next hl8 ho8)
            clear hown hb3 B2 HO1 hl8 ho8
            refine hK'.out _ _ trivial (fun _ => ?_)
            clear hK' K'
            try simp only [Act.put, List.setIfInBounds_toArray, List.set_cons_zero, List.set_cons_succ]
            refine wpAnyH_take (i := 17) (oi := { dst := some 73, op := Op.nilCheck (Operand.tmp 56), type := 0, pos := "ref.go:127", after := #[{ on := 0, ground := Ground.data }, { on := 0, ground := Ground.phase }, { on := 1, ground := Ground.phase }, { on := 2, ground := Ground.phase }, { on := 3, ground := Ground.phase }, { on := 4, ground := Ground.phase }, { on := 5, ground := Ground.phase }, { on := 6, ground := Ground.phase }, { on := 7, ground := Ground.phase }, { on := 8, ground := Ground.phase }, { on := 9, ground := Ground.phase }, { on := 10, ground := Ground.phase }, { on := 11, ground := Ground.phase }, { on := 12, ground := Ground.phase }, { on := 13, ground := Ground.phase }, { on := 14, ground := Ground.phase }, { on := 15, ground := Ground.phase }, { on := 16, ground := Ground.phase }], guard := none }) (v := .pointer (some ⟨g, 0, none⟩)) rfl (by kernel_rfl) (by kernel_rfl) (by kernel_rfl) (fun _ _ _ h => h) (Or.inl ⟨by kernel_rfl, fun W hSW => by go_simp⟩) (trivial) ?_
            try simp only [Act.put, List.setIfInBounds_toArray, List.set_cons_zero, List.set_cons_succ]
            refine wpAnyH_take (i := 18) (oi := { dst := some 74, op := Op.fieldAddr 56 (Operand.tmp 73) 0, type := 0, pos := "ref.go:127", after := #[{ on := 17, ground := Ground.data }, { on := 0, ground := Ground.phase }, { on := 1, ground := Ground.phase }, { on := 2, ground := Ground.phase }, { on := 3, ground := Ground.phase }, { on := 4, ground := Ground.phase }, { on := 5, ground := Ground.phase }, { on := 6, ground := Ground.phase }, { on := 7, ground := Ground.phase }, { on := 8, ground := Ground.phase }, { on := 9, ground := Ground.phase }, { on := 10, ground := Ground.phase }, { on := 11, ground := Ground.phase }, { on := 12, ground := Ground.phase }, { on := 13, ground := Ground.phase }, { on := 14, ground := Ground.phase }, { on := 15, ground := Ground.phase }, { on := 16, ground := Ground.phase }], guard := none }) (v := .pointer (some ⟨g, 0, none⟩)) rfl (by kernel_rfl) (by kernel_rfl) (by kernel_rfl) (fun _ _ _ h => h) (Or.inl ⟨by kernel_rfl, fun W hSW => by go_simp⟩) (trivial) ?_
            try simp only [Act.put, List.setIfInBounds_toArray, List.set_cons_zero, List.set_cons_succ]
            refine wpAnyH_ready (rs := [19]) (by kernel_rfl) (by simp) ?_
            refine AllReadyH.cons (o := { dst := none, op := Op.store 53 (Operand.tmp 74) (Operand.tmp 72), type := 0, pos := "ref.go:127", after := #[{ on := 18, ground := Ground.data }, { on := 16, ground := Ground.data }, { on := 16, ground := Ground.chain }, { on := 0, ground := Ground.phase }, { on := 1, ground := Ground.phase }, { on := 2, ground := Ground.phase }, { on := 3, ground := Ground.phase }, { on := 4, ground := Ground.phase }, { on := 5, ground := Ground.phase }, { on := 6, ground := Ground.phase }, { on := 7, ground := Ground.phase }, { on := 8, ground := Ground.phase }, { on := 9, ground := Ground.phase }, { on := 10, ground := Ground.phase }, { on := 11, ground := Ground.phase }, { on := 12, ground := Ground.phase }, { on := 13, ground := Ground.phase }, { on := 14, ground := Ground.phase }, { on := 15, ground := Ground.phase }, { on := 16, ground := Ground.phase }], guard := none }) rfl (fun K' hK' => ?_) AllReadyH.nil
            go_simp
            refine hK'.out _ _ trivial (fun _ => ?_)
            clear hK' K'
            try simp only [Act.put]
            refine wpAnyH_done (by kernel_rfl) ?_ _
            have HZ := Lib.hid (fun x y => H8.out.fin x y)
            obtain ⟨d0, d1, f0, f1⟩ := H8.out.out
            go_wp2_with fail
            (try simp only [Exit.inBlock, Exit.then]); refine bodyPost_ret (ret_range (g := w.heap.size + 1) rfl rfl (range_all (HZ.out _ _).1) Tryz.underlying33 rfl Tryz.is33) rfl ?_
            exact ⟨by rw [HE.out] <;> rfl, by rw [HE.out]; exact (HZ.out _ _).2⟩
        · have hc := HCell.out _ HB0.out
          go_simp
          clear hc
          refine hK'.out _ _ trivial (fun _ => ?_)
          clear hK' K'
          try simp only [Act.put, List.setIfInBounds_toArray, List.set_cons_zero, List.set_cons_succ]
          refine wpAnyH_take (i := 15) (oi := { dst := some 71, op := Op.slice 53 (Operand.tmp 68) (some (Operand.tmp 70)) none none, type := 53, pos := "ref.go:127", after := #[{ on := 12, ground := Ground.data }, { on := 14, ground := Ground.data }], guard := none }) (v := .slice (some ⟨b, 0, none⟩) 0 0) rfl (by kernel_rfl) (by kernel_rfl) (by kernel_rfl) (fun _ _ _ h => h) (Or.inl ⟨by kernel_rfl, fun W hSW => by go_simp⟩) (trivial) ?_
          try simp only [Act.put, List.setIfInBounds_toArray, List.set_cons_zero, List.set_cons_succ]
          refine wpAnyH_ready (rs := [5]) (by kernel_rfl) (by simp) ?_
          refine AllReadyH.cons (o := { dst := some 61, op := Op.load 53 (Operand.tmp 60), type := 53, pos := "ref.go:127", after := #[{ on := 4, ground := Ground.data }], guard := none }) rfl (fun K' hK' => ?_) AllReadyH.nil
          have hc := HCell.out _ HB0.out
          go_simp
          clear hc
          refine hK'.out _ _ trivial (fun _ => ?_)
          clear hK' K'
          try simp only [Act.put, List.setIfInBounds_toArray, List.set_cons_zero, List.set_cons_succ]
          refine wpAnyH_take (i := 7) (oi := { dst := some 63, op := Op.slice 53 (Operand.tmp 61) none (some (Operand.tmp 62)) none, type := 53, pos := "ref.go:127", after := #[{ on := 5, ground := Ground.data }, { on := 6, ground := Ground.data }], guard := none }) (v := .slice (some ⟨b, 0, none⟩) P D) rfl (by kernel_rfl) (by kernel_rfl) (by kernel_rfl) (fun _ _ _ h => h) (Or.inl ⟨by kernel_rfl, fun W hSW => by go_simp⟩) (trivial) ?_
          try simp only [Act.put, List.setIfInBounds_toArray, List.set_cons_zero, List.set_cons_succ]
          refine wpAnyH_ready (rs := [8]) (by kernel_rfl) (by simp) ?_
          refine AllReadyH.cons (o := { dst := some 64, op := Op.call { callee := Callee.builtin Builtin.append, args := #[Operand.tmp 57, Operand.tmp 63], argTypes := #[53, 53] }, type := 53, pos := "ref.go:127", after := #[{ on := 1, ground := Ground.data }, { on := 7, ground := Ground.data }], guard := none }) rfl (fun K' hK' => ?_) AllReadyH.nil
          rw [if_pos (by kernel_rfl)]
          refine wp_app (.tmp 57) (.tmp 63) rfl rfl (HO0.out _) HB0.out ⟨b, 0, none⟩ P D CT rfl HTl.out (HT.out _ HB0.out) HT1.out (by omega) ?_
          intro v1 w5 hown hb2
          rw [Nat.zero_add, List.nil_append] at hown
          have HO1 := Lib.hid hown
          have B2 := Lib.hid hb2
          clear hown hb2 HB0
          refine hK'.out _ _ trivial (fun _ => ?_)
          clear hK' K'
          try simp only [Act.put, List.setIfInBounds_toArray, List.set_cons_zero, List.set_cons_succ]
          refine wpAnyH_ready (rs := [16]) (by kernel_rfl) (by simp) ?_
          refine AllReadyH.cons (o := { dst := some 72, op := Op.call { callee := Callee.builtin Builtin.append, args := #[Operand.tmp 64, Operand.tmp 71], argTypes := #[53, 53] }, type := 53, pos := "ref.go:127", after := #[{ on := 8, ground := Ground.data }, { on := 15, ground := Ground.data }, { on := 8, ground := Ground.chain }], guard := none }) rfl (fun K' hK' => ?_) AllReadyH.nil
          rw [if_pos (by kernel_rfl)]
          refine wp_app (.tmp 64) (.tmp 71) rfl rfl HO1.out B2.out ⟨b, 0, none⟩ 0 0 CD rfl HDl.out (HD2.out _ B2.out) HD1.out (by omega) ?_
          intro v2 w6 hown hb3
          obtain ⟨r7, c7, rfl, r8, c8, hl8, ho8⟩ := HEnd.out v2 w6 hown hb3
          have B3 := Lib.hid hb3
          have cg6 := HCell.out w6 hb3
          have fz6 := HTop.out w6 hb3
          have H8 := Lib.hid (H4.out.next hl8 ho8)
          clear hown hb3 B2 HO1 hl8 ho8
          refine hK'.out _ _ trivial (fun _ => ?_)
          clear hK' K'
          try simp only [Act.put, List.setIfInBounds_toArray, List.set_cons_zero, List.set_cons_succ]
          refine wpAnyH_take (i := 17) (oi := { dst := some 73, op := Op.nilCheck (Operand.tmp 56), type := 0, pos := "ref.go:127", after := #[{ on := 0, ground := Ground.data }, { on := 0, ground := Ground.phase }, { on := 1, ground := Ground.phase }, { on := 2, ground := Ground.phase }, { on := 3, ground := Ground.phase }, { on := 4, ground := Ground.phase }, { on := 5, ground := Ground.phase }, { on := 6, ground := Ground.phase }, { on := 7, ground := Ground.phase }, { on := 8, ground := Ground.phase }, { on := 9, ground := Ground.phase }, { on := 10, ground := Ground.phase }, { on := 11, ground := Ground.phase }, { on := 12, ground := Ground.phase }, { on := 13, ground := Ground.phase }, { on := 14, ground := Ground.phase }, { on := 15, ground := Ground.phase }, { on := 16, ground := Ground.phase }], guard := none }) (v := .pointer (some ⟨g, 0, none⟩)) rfl (by kernel_rfl) (by kernel_rfl) (by kernel_rfl) (fun _ _ _ h => h) (Or.inl ⟨by kernel_rfl, fun W hSW => by go_simp⟩) (trivial) ?_
          try simp only [Act.put, List.setIfInBounds_toArray, List.set_cons_zero, List.set_cons_succ]
          refine wpAnyH_take (i := 18) (oi := { dst := some 74, op := Op.fieldAddr 56 (Operand.tmp 73) 0, type := 0, pos := "ref.go:127", after := #[{ on := 17, ground := Ground.data }, { on := 0, ground := Ground.phase }, { on := 1, ground := Ground.phase }, { on := 2, ground := Ground.phase }, { on := 3, ground := Ground.phase }, { on := 4, ground := Ground.phase }, { on := 5, ground := Ground.phase }, { on := 6, ground := Ground.phase }, { on := 7, ground := Ground.phase }, { on := 8, ground := Ground.phase }, { on := 9, ground := Ground.phase }, { on := 10, ground := Ground.phase }, { on := 11, ground := Ground.phase }, { on := 12, ground := Ground.phase }, { on := 13, ground := Ground.phase }, { on := 14, ground := Ground.phase }, { on := 15, ground := Ground.phase }, { on := 16, ground := Ground.phase }], guard := none }) (v := .pointer (some ⟨g, 0, none⟩)) rfl (by kernel_rfl) (by kernel_rfl) (by kernel_rfl) (fun _ _ _ h => h) (Or.inl ⟨by kernel_rfl, fun W hSW => by go_simp⟩) (trivial) ?_
          try simp only [Act.put, List.setIfInBounds_toArray, List.set_cons_zero, List.set_cons_succ]
          refine wpAnyH_ready (rs := [19]) (by kernel_rfl) (by simp) ?_
          refine AllReadyH.cons (o := { dst := none, op := Op.store 53 (Operand.tmp 74) (Operand.tmp 72), type := 0, pos := "ref.go:127", after := #[{ on := 18, ground := Ground.data }, { on := 16, ground := Ground.data }, { on := 16, ground := Ground.chain }, { on := 0, ground := Ground.phase }, { on := 1, ground := Ground.phase }, { on := 2, ground := Ground.phase }, { on := 3, ground := Ground.phase }, { on := 4, ground := Ground.phase }, { on := 5, ground := Ground.phase }, { on := 6, ground := Ground.phase }, { on := 7, ground := Ground.phase }, { on := 8, ground := Ground.phase }, { on := 9, ground := Ground.phase }, { on := 10, ground := Ground.phase }, { on := 11, ground := Ground.phase }, { on := 12, ground := Ground.phase }, { on := 13, ground := Ground.phase }, { on := 14, ground := Ground.phase }, { on := 15, ground := Ground.phase }, { on := 16, ground := Ground.phase }], guard := none }) rfl (fun K' hK' => ?_) AllReadyH.nil
          go_simp
          refine hK'.out _ _ trivial (fun _ => ?_)
          clear hK' K'
          try simp only [Act.put]
          refine wpAnyH_done (by kernel_rfl) ?_ _
          have HZ := Lib.hid (fun x y => H8.out.fin x y)
          obtain ⟨d0, d1, f0, f1⟩ := H8.out.out
          go_wp2_with fail
          (try simp only [Exit.inBlock, Exit.then]); refine bodyPost_ret (ret_range (g := w.heap.size + 1) rfl rfl (range_all (HZ.out _ _).1) Tryz.underlying33 rfl Tryz.is33) rfl ?_
          exact ⟨by rw [HE.out] <;> rfl, by rw [HE.out]; exact (HZ.out _ _).2⟩
      · have HDl : Hid ((itC (xs.drop D)).length = (n - D) * 2) := Lib.hid (by rw [itC_length, List.length_drop, ← HN.out])
        have HD1 := Lib.hid (itC_one (xs.drop D))
        have HD2 : Hid (∀ W, Below W0.heap.size W0 W → ∀ j u, (itC (xs.drop D))[j]? = some u → W.cell? ((⟨b, D * 2, none⟩ : Addr).add j) = some u) := Lib.hid fun W hb j u hu => by
          refine row_cells (HL.out.below hb).row D (n - D) j u ?_
          rw [List.take_of_length_le (by rw [List.length_drop, ← HN.out]; exact Nat.le_refl _)]
          exact hu
        have HEnd : Hid (∀ v4 W, W.ownsRow W0.heap.size 83 2 v4 (P + (n - D)) (itC (xs.take P) ++ itC (xs.drop D)) → Below W0.heap.size W0 W → ∃ r' c', v4 = .slice (slA r') (P + (n - D)) c' ∧ ∃ r2 c2, RL (W.setCell ⟨g, 0, none⟩ (.slice (slA r') (P + (n - D)) c')) g r2 c2 (delK xs o.key) ∧ Own W0 (On g (some b)) (W.setCell ⟨g, 0, none⟩ (.slice (slA r') (P + (n - D)) c')) (On g r2)) := Lib.hid fun v4 W ho hb => by
          have hs : delK xs o.key = xs.take P ++ xs.drop D := by rw [delK, HD.out, HP.out]
          rw [hs]
          have e1 : (xs.take P ++ xs.drop D).length = P + (n - D) := by
            rw [List.length_append, List.length_take, List.length_drop, ← HN.out, Nat.min_eq_left (Nat.le_of_lt hPl)]
          have e2 : itC (xs.take P ++ xs.drop D) = itC (xs.take P) ++ itC (xs.drop D) := itC_app _ _
          rw [← e1, ← e2] at ho
          obtain ⟨r', c', he, _, _⟩ := rw_of_own ho
          rw [show (xs.take P ++ xs.drop D).length = (P + (n - D)) from e1] at he
          refine ⟨r', c', he, ?_⟩
          rw [← he]
          exact rset_fin HL.out ho hb
        obtain ⟨CT, hCT⟩ : ∃ C, C = itC (xs.take P) := ⟨_, rfl⟩
        obtain ⟨CD, hCD⟩ : ∃ C, C = itC (xs.drop D) := ⟨_, rfl⟩
        rw [← hCT] at HTl HT1 HT HEnd
        rw [← hCD] at HDl HD1 HD2 HEnd
        clear hCT hCD
        refine wpAnyH_take (i := 0) (oi := { dst := some 56, op := Op.move (Operand.tmp 0), type := 45, pos := "ref.go:127", after := #[], guard := none }) (v := .pointer (some ⟨g, 0, none⟩)) rfl (by kernel_rfl) (by kernel_rfl) (by kernel_rfl) (fun _ _ _ h => h) (Or.inl ⟨by kernel_rfl, fun W hSW => by go_simp⟩) (trivial) ?_
        try simp only [Act.put, List.setIfInBounds_toArray, List.set_cons_zero, List.set_cons_succ]
        refine wpAnyH_take (i := 1) (oi := { dst := some 57, op := Op.move (Operand.tmp 9), type := 53, pos := "ref.go:127", after := #[], guard := none }) (v := .slice none 0 0) rfl (by kernel_rfl) (by kernel_rfl) (by kernel_rfl) (fun _ _ _ h => h) (Or.inl ⟨by kernel_rfl, fun W hSW => by go_simp⟩) (trivial) ?_
        try simp only [Act.put, List.setIfInBounds_toArray, List.set_cons_zero, List.set_cons_succ]
        refine wpAnyH_take (i := 2) (oi := { dst := some 58, op := Op.move (Operand.tmp 0), type := 45, pos := "ref.go:127", after := #[], guard := none }) (v := .pointer (some ⟨g, 0, none⟩)) rfl (by kernel_rfl) (by kernel_rfl) (by kernel_rfl) (fun _ _ _ h => h) (Or.inl ⟨by kernel_rfl, fun W hSW => by go_simp⟩) (trivial) ?_
        try simp only [Act.put, List.setIfInBounds_toArray, List.set_cons_zero, List.set_cons_succ]
        refine wpAnyH_take (i := 3) (oi := { dst := some 59, op := Op.nilCheck (Operand.tmp 58), type := 0, pos := "ref.go:127", after := #[{ on := 2, ground := Ground.data }], guard := none }) (v := .pointer (some ⟨g, 0, none⟩)) rfl (by kernel_rfl) (by kernel_rfl) (by kernel_rfl) (fun _ _ _ h => h) (Or.inl ⟨by kernel_rfl, fun W hSW => by go_simp⟩) (trivial) ?_
        try simp only [Act.put, List.setIfInBounds_toArray, List.set_cons_zero, List.set_cons_succ]
        refine wpAnyH_take (i := 4) (oi := { dst := some 60, op := Op.fieldAddr 56 (Operand.tmp 59) 0, type := 0, pos := "ref.go:127", after := #[{ on := 3, ground := Ground.data }], guard := none }) (v := .pointer (some ⟨g, 0, none⟩)) rfl (by kernel_rfl) (by kernel_rfl) (by kernel_rfl) (fun _ _ _ h => h) (Or.inl ⟨by kernel_rfl, fun W hSW => by go_simp⟩) (trivial) ?_
        try simp only [Act.put, List.setIfInBounds_toArray, List.set_cons_zero, List.set_cons_succ]
        refine wpAnyH_take (i := 6) (oi := { dst := some 62, op := Op.move (Operand.tmp 7), type := 3, pos := "ref.go:127", after := #[], guard := none }) (v := .int .i64 (P : Int)) rfl (by kernel_rfl) (by kernel_rfl) (by kernel_rfl) (fun _ _ _ h => h) (Or.inl ⟨by kernel_rfl, fun W hSW => by go_simp⟩) (trivial) ?_
        try simp only [Act.put, List.setIfInBounds_toArray, List.set_cons_zero, List.set_cons_succ]
        refine wpAnyH_take (i := 9) (oi := { dst := some 65, op := Op.move (Operand.tmp 0), type := 45, pos := "ref.go:127", after := #[], guard := none }) (v := .pointer (some ⟨g, 0, none⟩)) rfl (by kernel_rfl) (by kernel_rfl) (by kernel_rfl) (fun _ _ _ h => h) (Or.inl ⟨by kernel_rfl, fun W hSW => by go_simp⟩) (trivial) ?_
        try simp only [Act.put, List.setIfInBounds_toArray, List.set_cons_zero, List.set_cons_succ]
        refine wpAnyH_take (i := 10) (oi := { dst := some 66, op := Op.nilCheck (Operand.tmp 65), type := 0, pos := "ref.go:127", after := #[{ on := 9, ground := Ground.data }], guard := none }) (v := .pointer (some ⟨g, 0, none⟩)) rfl (by kernel_rfl) (by kernel_rfl) (by kernel_rfl) (fun _ _ _ h => h) (Or.inl ⟨by kernel_rfl, fun W hSW => by go_simp⟩) (trivial) ?_
        try simp only [Act.put, List.setIfInBounds_toArray, List.set_cons_zero, List.set_cons_succ]
        refine wpAnyH_take (i := 11) (oi := { dst := some 67, op := Op.fieldAddr 56 (Operand.tmp 66) 0, type := 0, pos := "ref.go:127", after := #[{ on := 10, ground := Ground.data }], guard := none }) (v := .pointer (some ⟨g, 0, none⟩)) rfl (by kernel_rfl) (by kernel_rfl) (by kernel_rfl) (fun _ _ _ h => h) (Or.inl ⟨by kernel_rfl, fun W hSW => by go_simp⟩) (trivial) ?_
        try simp only [Act.put, List.setIfInBounds_toArray, List.set_cons_zero, List.set_cons_succ]
        refine wpAnyH_take (i := 13) (oi := { dst := some 69, op := Op.move (Operand.tmp 7), type := 3, pos := "ref.go:127", after := #[], guard := none }) (v := .int .i64 (P : Int)) rfl (by kernel_rfl) (by kernel_rfl) (by kernel_rfl) (fun _ _ _ h => h) (Or.inl ⟨by kernel_rfl, fun W hSW => by go_simp⟩) (trivial) ?_
        try simp only [Act.put, List.setIfInBounds_toArray, List.set_cons_zero, List.set_cons_succ]
        refine wpAnyH_take (i := 14) (oi := { dst := some 70, op := Op.binOp BinOp.add 3 (Operand.tmp 69) (Operand.const (Value.int IntKind.i64 1)) 3, type := 3, pos := "ref.go:127", after := #[{ on := 13, ground := Ground.data }], guard := none }) (v := .int .i64 (D : Int)) rfl (by kernel_rfl) (by kernel_rfl) (by kernel_rfl) (fun _ _ _ h => h) (Or.inl ⟨by kernel_rfl, fun W hSW => by go_simp⟩) (trivial) ?_
        try simp only [Act.put, List.setIfInBounds_toArray, List.set_cons_zero, List.set_cons_succ]
        refine wpAnyH_ready (rs := [5, 12]) (by kernel_rfl) (by simp) ?_
        refine (AllReadyH.cons (o := { dst := some 61, op := Op.load 53 (Operand.tmp 60), type := 53, pos := "ref.go:127", after := #[{ on := 4, ground := Ground.data }], guard := none }) rfl (fun K' hK' => ?_) (AllReadyH.cons (o := { dst := some 68, op := Op.load 53 (Operand.tmp 67), type := 53, pos := "ref.go:127", after := #[{ on := 11, ground := Ground.data }], guard := none }) rfl (fun K' hK' => ?_) AllReadyH.nil))
        · have hc := HCell.out _ HB0.out
          go_simp
          clear hc
          refine hK'.out _ _ trivial (fun _ => ?_)
          clear hK' K'
          try simp only [Act.put, List.setIfInBounds_toArray, List.set_cons_zero, List.set_cons_succ]
          refine wpAnyH_take (i := 7) (oi := { dst := some 63, op := Op.slice 53 (Operand.tmp 61) none (some (Operand.tmp 62)) none, type := 53, pos := "ref.go:127", after := #[{ on := 5, ground := Ground.data }, { on := 6, ground := Ground.data }], guard := none }) (v := .slice (some ⟨b, 0, none⟩) P c) rfl (by kernel_rfl) (by kernel_rfl) (by kernel_rfl) (fun _ _ _ h => h) (Or.inl ⟨by kernel_rfl, fun W hSW => by go_simp⟩) (trivial) ?_
          try simp only [Act.put, List.setIfInBounds_toArray, List.set_cons_zero, List.set_cons_succ]
          refine wpAnyH_ready (rs := [8, 12]) (by kernel_rfl) (by simp) ?_
          refine (AllReadyH.cons (o := { dst := some 64, op := Op.call { callee := Callee.builtin Builtin.append, args := #[Operand.tmp 57, Operand.tmp 63], argTypes := #[53, 53] }, type := 53, pos := "ref.go:127", after := #[{ on := 1, ground := Ground.data }, { on := 7, ground := Ground.data }], guard := none }) rfl (fun K' hK' => ?_) (AllReadyH.cons (o := { dst := some 68, op := Op.load 53 (Operand.tmp 67), type := 53, pos := "ref.go:127", after := #[{ on := 11, ground := Ground.data }], guard := none }) rfl (fun K' hK' => ?_) AllReadyH.nil))
          · rw [if_pos (by kernel_rfl)]
            refine wp_app (.tmp 57) (.tmp 63) rfl rfl (HO0.out _) HB0.out ⟨b, 0, none⟩ P c CT rfl HTl.out (HT.out _ HB0.out) HT1.out (by omega) ?_
            intro v1 w5 hown hb2
            rw [Nat.zero_add, List.nil_append] at hown
            have HO1 := Lib.hid hown
            have B2 := Lib.hid hb2
            clear hown hb2 HB0
            refine hK'.out _ _ trivial (fun _ => ?_)
            clear hK' K'
            try simp only [Act.put, List.setIfInBounds_toArray, List.set_cons_zero, List.set_cons_succ]
            refine wpAnyH_ready (rs := [12]) (by kernel_rfl) (by simp) ?_
            refine AllReadyH.cons (o := { dst := some 68, op := Op.load 53 (Operand.tmp 67), type := 53, pos := "ref.go:127", after := #[{ on := 11, ground := Ground.data }], guard := none }) rfl (fun K' hK' => ?_) AllReadyH.nil
            have hc := HCell.out _ B2.out
            go_simp
            clear hc
            refine hK'.out _ _ trivial (fun _ => ?_)
            clear hK' K'
            try simp only [Act.put, List.setIfInBounds_toArray, List.set_cons_zero, List.set_cons_succ]
            refine wpAnyH_take (i := 15) (oi := { dst := some 71, op := Op.slice 53 (Operand.tmp 68) (some (Operand.tmp 70)) none none, type := 53, pos := "ref.go:127", after := #[{ on := 12, ground := Ground.data }, { on := 14, ground := Ground.data }], guard := none }) (v := .slice (some ⟨b, D * 2, none⟩) (n - D) (c - D)) rfl (by kernel_rfl) (by kernel_rfl) (by kernel_rfl) (fun _ _ _ h => h) (Or.inl ⟨by kernel_rfl, fun W hSW => by go_simp⟩) (trivial) ?_
            try simp only [Act.put, List.setIfInBounds_toArray, List.set_cons_zero, List.set_cons_succ]
            refine wpAnyH_ready (rs := [16]) (by kernel_rfl) (by simp) ?_
            refine AllReadyH.cons (o := { dst := some 72, op := Op.call { callee := Callee.builtin Builtin.append, args := #[Operand.tmp 64, Operand.tmp 71], argTypes := #[53, 53] }, type := 53, pos := "ref.go:127", after := #[{ on := 8, ground := Ground.data }, { on := 15, ground := Ground.data }, { on := 8, ground := Ground.chain }], guard := none }) rfl (fun K' hK' => ?_) AllReadyH.nil
            rw [if_pos (by kernel_rfl)]
            refine wp_app (.tmp 64) (.tmp 71) rfl rfl HO1.out B2.out ⟨b, D * 2, none⟩ (n - D) (c - D) CD rfl HDl.out (HD2.out _ B2.out) HD1.out (by omega) ?_
            intro v2 w6 hown hb3
            obtain ⟨r7, c7, rfl, r8, c8, hl8, ho8⟩ := HEnd.out v2 w6 hown hb3
            have B3 := Lib.hid hb3
            have cg6 := HCell.out w6 hb3
            have fz6 := HTop.out w6 hb3
            have H8 := Lib.hid (H4.out.next hl8 ho8)
            clear hown hb3 B2 HO1 hl8 ho8
            refine hK'.out _ _ trivial (fun _ => ?_)
            clear hK' K'
            try simp only [Act.put, List.setIfInBounds_toArray, List.set_cons_zero, List.set_cons_succ]
            refine wpAnyH_take (i := 17) (oi := { dst := some 73, op := Op.nilCheck (Operand.tmp 56), type := 0, pos := "ref.go:127", after := #[{ on := 0, ground := Ground.data }, { on := 0, ground := Ground.phase }, { on := 1, ground := Ground.phase }, { on := 2, ground := Ground.phase }, { on := 3, ground := Ground.phase }, { on := 4, ground := Ground.phase }, { on := 5, ground := Ground.phase }, { on := 6, ground := Ground.phase }, { on := 7, ground := Ground.phase }, { on := 8, ground := Ground.phase }, { on := 9, ground := Ground.phase }, { on := 10, ground := Ground.phase }, { on := 11, ground := Ground.phase }, { on := 12, ground := Ground.phase }, { on := 13, ground := Ground.phase }, { on := 14, ground := Ground.phase }, { on := 15, ground := Ground.phase }, { on := 16, ground := Ground.phase }], guard := none }) (v := .pointer (some ⟨g, 0, none⟩)) rfl (by kernel_rfl) (by kernel_rfl) (by kernel_rfl) (fun _ _ _ h => h) (Or.inl ⟨by kernel_rfl, fun W hSW => by go_simp⟩) (trivial) ?_
            try simp only [Act.put, List.setIfInBounds_toArray, List.set_cons_zero, List.set_cons_succ]
            refine wpAnyH_take (i := 18) (oi := { dst := some 74, op := Op.fieldAddr 56 (Operand.tmp 73) 0, type := 0, pos := "ref.go:127", after := #[{ on := 17, ground := Ground.data }, { on := 0, ground := Ground.phase }, { on := 1, ground := Ground.phase }, { on := 2, ground := Ground.phase }, { on := 3, ground := Ground.phase }, { on := 4, ground := Ground.phase }, { on := 5, ground := Ground.phase }, { on := 6, ground := Ground.phase }, { on := 7, ground := Ground.phase }, { on := 8, ground := Ground.phase }, { on := 9, ground := Ground.phase }, { on := 10, ground := Ground.phase }, { on := 11, ground := Ground.phase }, { on := 12, ground := Ground.phase }, { on := 13, ground := Ground.phase }, { on := 14, ground := Ground.phase }, { on := 15, ground := Ground.phase }, { on := 16, ground := Ground.phase }], guard := none }) (v := .pointer (some ⟨g, 0, none⟩)) rfl (by kernel_rfl) (by kernel_rfl) (by kernel_rfl) (fun _ _ _ h => h) (Or.inl ⟨by kernel_rfl, fun W hSW => by go_simp⟩) (trivial) ?_
            try simp only [Act.put, List.setIfInBounds_toArray, List.set_cons_zero, List.set_cons_succ]
            refine wpAnyH_ready (rs := [19]) (by kernel_rfl) (by simp) ?_
            refine AllReadyH.cons (o := { dst := none, op := Op.store 53 (Operand.tmp 74) (Operand.tmp 72), type := 0, pos := "ref.go:127", after := #[{ on := 18, ground := Ground.data }, { on := 16, ground := Ground.data }, { on := 16, ground := Ground.chain }, { on := 0, ground := Ground.phase }, { on := 1, ground := Ground.phase }, { on := 2, ground := Ground.phase }, { on := 3, ground := Ground.phase }, { on := 4, ground := Ground.phase }, { on := 5, ground := Ground.phase }, { on := 6, ground := Ground.phase }, { on := 7, ground := Ground.phase }, { on := 8, ground := Ground.phase }, { on := 9, ground := Ground.phase }, { on := 10, ground := Ground.phase }, { on := 11, ground := Ground.phase }, { on := 12, ground := Ground.phase }, { on := 13, ground := Ground.phase }, { on := 14, ground := Ground.phase }, { on := 15, ground := Ground.phase }, { on := 16, ground := Ground.phase }], guard := none }) rfl (fun K' hK' => ?_) AllReadyH.nil
            go_simp
            refine hK'.out _ _ trivial (fun _ => ?_)
            clear hK' K'
            try simp only [Act.put]
            refine wpAnyH_done (by kernel_rfl) ?_ _
            have HZ := Lib.hid (fun x y => H8.out.fin x y)
            obtain ⟨d0, d1, f0, f1⟩ := H8.out.out
            go_wp2_with fail
            (try simp only [Exit.inBlock, Exit.then]); refine bodyPost_ret (ret_range (g := w.heap.size + 1) rfl rfl (range_all (HZ.out _ _).1) Tryz.underlying33 rfl Tryz.is33) rfl ?_
            exact ⟨by rw [HE.out] <;> rfl, by rw [HE.out]; exact (HZ.out _ _).2⟩
          · have hc := HCell.out _ HB0.out
            go_simp
            clear hc
            refine hK'.out _ _ trivial (fun _ => ?_)
            clear hK' K'
            try simp only [Act.put, List.setIfInBounds_toArray, List.set_cons_zero, List.set_cons_succ]
            refine wpAnyH_take (i := 15) (oi := { dst := some 71, op := Op.slice 53 (Operand.tmp 68) (some (Operand.tmp 70)) none none, type := 53, pos := "ref.go:127", after := #[{ on := 12, ground := Ground.data }, { on := 14, ground := Ground.data }], guard := none }) (v := .slice (some ⟨b, D * 2, none⟩) (n - D) (c - D)) rfl (by kernel_rfl) (by kernel_rfl) (by kernel_rfl) (fun _ _ _ h => h) (Or.inl ⟨by kernel_rfl, fun W hSW => by go_simp⟩) (trivial) ?_
            try simp only [Act.put, List.setIfInBounds_toArray, List.set_cons_zero, List.set_cons_succ]
            refine wpAnyH_ready (rs := [8]) (by kernel_rfl) (by simp) ?_
            refine AllReadyH.cons (o := { dst := some 64, op := Op.call { callee := Callee.builtin Builtin.append, args := #[Operand.tmp 57, Operand.tmp 63], argTypes := #[53, 53] }, type := 53, pos := "ref.go:127", after := #[{ on := 1, ground := Ground.data }, { on := 7, ground := Ground.data }], guard := none }) rfl (fun K' hK' => ?_) AllReadyH.nil
            rw [if_pos (by kernel_rfl)]
            refine wp_app (.tmp 57) (.tmp 63) rfl rfl (HO0.out _) HB0.out ⟨b, 0, none⟩ P c CT rfl HTl.out (HT.out _ HB0.out) HT1.out (by omega) ?_
            intro v1 w5 hown hb2
            rw [Nat.zero_add, List.nil_append] at hown
            have HO1 := Lib.hid hown
            have B2 := Lib.hid hb2
            clear hown hb2 HB0
            refine hK'.out _ _ trivial (fun _ => ?_)
            clear hK' K'
            try simp only [Act.put, List.setIfInBounds_toArray, List.set_cons_zero, List.set_cons_succ]
            refine wpAnyH_ready (rs := [16]) (by kernel_rfl) (by simp) ?_
            refine AllReadyH.cons (o := { dst := some 72, op := Op.call { callee := Callee.builtin Builtin.append, args := #[Operand.tmp 64, Operand.tmp 71], argTypes := #[53, 53] }, type := 53, pos := "ref.go:127", after := #[{ on := 8, ground := Ground.data }, { on := 15, ground := Ground.data }, { on := 8, ground := Ground.chain }], guard := none }) rfl (fun K' hK' => ?_) AllReadyH.nil
            rw [if_pos (by kernel_rfl)]
            refine wp_app (.tmp 64) (.tmp 71) rfl rfl HO1.out B2.out ⟨b, D * 2, none⟩ (n - D) (c - D) CD rfl HDl.out (HD2.out _ B2.out) HD1.out (by omega) ?_
            intro v2 w6 hown hb3
            obtain ⟨r7, c7, rfl, r8, c8, hl8, ho8⟩ := HEnd.out v2 w6 hown hb3
            have B3 := Lib.hid hb3
            have cg6 := HCell.out w6 hb3
            have fz6 := HTop.out w6 hb3
            have H8 := Lib.hid (H4.out.next hl8 ho8)
            clear hown hb3 B2 HO1 hl8 ho8
            refine hK'.out _ _ trivial (fun _ => ?_)
            clear hK' K'
            try simp only [Act.put, List.setIfInBounds_toArray, List.set_cons_zero, List.set_cons_succ]
            refine wpAnyH_take (i := 17) (oi := { dst := some 73, op := Op.nilCheck (Operand.tmp 56), type := 0, pos := "ref.go:127", after := #[{ on := 0, ground := Ground.data }, { on := 0, ground := Ground.phase }, { on := 1, ground := Ground.phase }, { on := 2, ground := Ground.phase }, { on := 3, ground := Ground.phase }, { on := 4, ground := Ground.phase }, { on := 5, ground := Ground.phase }, { on := 6, ground := Ground.phase }, { on := 7, ground := Ground.phase }, { on := 8, ground := Ground.phase }, { on := 9, ground := Ground.phase }, { on := 10, ground := Ground.phase }, { on := 11, ground := Ground.phase }, { on := 12, ground := Ground.phase }, { on := 13, ground := Ground.phase }, { on := 14, ground := Ground.phase }, { on := 15, ground := Ground.phase }, { on := 16, ground := Ground.phase }], guard := none }) (v := .pointer (some ⟨g, 0, none⟩)) rfl (by kernel_rfl) (by kernel_rfl) (by kernel_rfl) (fun _ _ _ h => h) (Or.inl ⟨by kernel_rfl, fun W hSW => by go_simp⟩) (trivial) ?_
            try simp only [Act.put, List.setIfInBounds_toArray, List.set_cons_zero, List.set_cons_succ]
            refine wpAnyH_take (i := 18) (oi := { dst := some 74, op := Op.fieldAddr 56 (Operand.tmp 73) 0, type := 0, pos := "ref.go:127", after := #[{ on := 17, ground := Ground.data }, { on := 0, ground := Ground.phase }, { on := 1, ground := Ground.phase }, { on := 2, ground := Ground.phase }, { on := 3, ground := Ground.phase }, { on := 4, ground := Ground.phase }, { on := 5, ground := Ground.phase }, { on := 6, ground := Ground.phase }, { on := 7, ground := Ground.phase }, { on := 8, ground := Ground.phase }, { on := 9, ground := Ground.phase }, { on := 10, ground := Ground.phase }, { on := 11, ground := Ground.phase }, { on := 12, ground := Ground.phase }, { on := 13, ground := Ground.phase }, { on := 14, ground := Ground.phase }, { on := 15, ground := Ground.phase }, { on := 16, ground := Ground.phase }], guard := none }) (v := .pointer (some ⟨g, 0, none⟩)) rfl (by kernel_rfl) (by kernel_rfl) (by kernel_rfl) (fun _ _ _ h => h) (Or.inl ⟨by kernel_rfl, fun W hSW => by go_simp⟩) (trivial) ?_
            try simp only [Act.put, List.setIfInBounds_toArray, List.set_cons_zero, List.set_cons_succ]
            refine wpAnyH_ready (rs := [19]) (by kernel_rfl) (by simp) ?_
            refine AllReadyH.cons (o := { dst := none, op := Op.store 53 (Operand.tmp 74) (Operand.tmp 72), type := 0, pos := "ref.go:127", after := #[{ on := 18, ground := Ground.data }, { on := 16, ground := Ground.data }, { on := 16, ground := Ground.chain }, { on := 0, ground := Ground.phase }, { on := 1, ground := Ground.phase }, { on := 2, ground := Ground.phase }, { on := 3, ground := Ground.phase }, { on := 4, ground := Ground.phase }, { on := 5, ground := Ground.phase }, { on := 6, ground := Ground.phase }, { on := 7, ground := Ground.phase }, { on := 8, ground := Ground.phase }, { on := 9, ground := Ground.phase }, { on := 10, ground := Ground.phase }, { on := 11, ground := Ground.phase }, { on := 12, ground := Ground.phase }, { on := 13, ground := Ground.phase }, { on := 14, ground := Ground.phase }, { on := 15, ground := Ground.phase }, { on := 16, ground := Ground.phase }], guard := none }) rfl (fun K' hK' => ?_) AllReadyH.nil
            go_simp
            refine hK'.out _ _ trivial (fun _ => ?_)
            clear hK' K'
            try simp only [Act.put]
            refine wpAnyH_done (by kernel_rfl) ?_ _
            have HZ := Lib.hid (fun x y => H8.out.fin x y)
            obtain ⟨d0, d1, f0, f1⟩ := H8.out.out
            go_wp2_with fail
            (try simp only [Exit.inBlock, Exit.then]); refine bodyPost_ret (ret_range (g := w.heap.size + 1) rfl rfl (range_all (HZ.out _ _).1) Tryz.underlying33 rfl Tryz.is33) rfl ?_
            exact ⟨by rw [HE.out] <;> rfl, by rw [HE.out]; exact (HZ.out _ _).2⟩
        · have hc := HCell.out _ HB0.out
          go_simp
          clear hc
          refine hK'.out _ _ trivial (fun _ => ?_)
          clear hK' K'
          try simp only [Act.put, List.setIfInBounds_toArray, List.set_cons_zero, List.set_cons_succ]
          refine wpAnyH_take (i := 15) (oi := { dst := some 71, op := Op.slice 53 (Operand.tmp 68) (some (Operand.tmp 70)) none none, type := 53, pos := "ref.go:127", after := #[{ on := 12, ground := Ground.data }, { on := 14, ground := Ground.data }], guard := none }) (v := .slice (some ⟨b, D * 2, none⟩) (n - D) (c - D)) rfl (by kernel_rfl) (by kernel_rfl) (by kernel_rfl) (fun _ _ _ h => h) (Or.inl ⟨by kernel_rfl, fun W hSW => by go_simp⟩) (trivial) ?_
          try simp only [Act.put, List.setIfInBounds_toArray, List.set_cons_zero, List.set_cons_succ]
          refine wpAnyH_ready (rs := [5]) (by kernel_rfl) (by simp) ?_
          refine AllReadyH.cons (o := { dst := some 61, op := Op.load 53 (Operand.tmp 60), type := 53, pos := "ref.go:127", after := #[{ on := 4, ground := Ground.data }], guard := none }) rfl (fun K' hK' => ?_) AllReadyH.nil
          have hc := HCell.out _ HB0.out
          go_simp
          clear hc
          refine hK'.out _ _ trivial (fun _ => ?_)
          clear hK' K'
          try simp only [Act.put, List.setIfInBounds_toArray, List.set_cons_zero, List.set_cons_succ]
          refine wpAnyH_take (i := 7) (oi := { dst := some 63, op := Op.slice 53 (Operand.tmp 61) none (some (Operand.tmp 62)) none, type := 53, pos := "ref.go:127", after := #[{ on := 5, ground := Ground.data }, { on := 6, ground := Ground.data }], guard := none }) (v := .slice (some ⟨b, 0, none⟩) P c) rfl (by kernel_rfl) (by kernel_rfl) (by kernel_rfl) (fun _ _ _ h => h) (Or.inl ⟨by kernel_rfl, fun W hSW => by go_simp⟩) (trivial) ?_
          try simp only [Act.put, List.setIfInBounds_toArray, List.set_cons_zero, List.set_cons_succ]
          refine wpAnyH_ready (rs := [8]) (by kernel_rfl) (by simp) ?_
          refine AllReadyH.cons (o := { dst := some 64, op := Op.call { callee := Callee.builtin Builtin.append, args := #[Operand.tmp 57, Operand.tmp 63], argTypes := #[53, 53] }, type := 53, pos := "ref.go:127", after := #[{ on := 1, ground := Ground.data }, { on := 7, ground := Ground.data }], guard := none }) rfl (fun K' hK' => ?_) AllReadyH.nil
          rw [if_pos (by kernel_rfl)]
          refine wp_app (.tmp 57) (.tmp 63) rfl rfl (HO0.out _) HB0.out ⟨b, 0, none⟩ P c CT rfl HTl.out (HT.out _ HB0.out) HT1.out (by omega) ?_
          intro v1 w5 hown hb2
          rw [Nat.zero_add, List.nil_append] at hown
          have HO1 := Lib.hid hown
          have B2 := Lib.hid hb2
          clear hown hb2 HB0
          refine hK'.out _ _ trivial (fun _ => ?_)
          clear hK' K'
          try simp only [Act.put, List.setIfInBounds_toArray, List.set_cons_zero, List.set_cons_succ]
          refine wpAnyH_ready (rs := [16]) (by kernel_rfl) (by simp) ?_
          refine AllReadyH.cons (o := { dst := some 72, op := Op.call { callee := Callee.builtin Builtin.append, args := #[Operand.tmp 64, Operand.tmp 71], argTypes := #[53, 53] }, type := 53, pos := "ref.go:127", after := #[{ on := 8, ground := Ground.data }, { on := 15, ground := Ground.data }, { on := 8, ground := Ground.chain }], guard := none }) rfl (fun K' hK' => ?_) AllReadyH.nil
          rw [if_pos (by kernel_rfl)]
          refine wp_app (.tmp 64) (.tmp 71) rfl rfl HO1.out B2.out ⟨b, D * 2, none⟩ (n - D) (c - D) CD rfl HDl.out (HD2.out _ B2.out) HD1.out (by omega) ?_
          intro v2 w6 hown hb3
          obtain ⟨r7, c7, rfl, r8, c8, hl8, ho8⟩ := HEnd.out v2 w6 hown hb3
          have B3 := Lib.hid hb3
          have cg6 := HCell.out w6 hb3
          have fz6 := HTop.out w6 hb3
          have H8 := Lib.hid (H4.out.next hl8 ho8)
          clear hown hb3 B2 HO1 hl8 ho8
          refine hK'.out _ _ trivial (fun _ => ?_)
          clear hK' K'
          try simp only [Act.put, List.setIfInBounds_toArray, List.set_cons_zero, List.set_cons_succ]
          refine wpAnyH_take (i := 17) (oi := { dst := some 73, op := Op.nilCheck (Operand.tmp 56), type := 0, pos := "ref.go:127", after := #[{ on := 0, ground := Ground.data }, { on := 0, ground := Ground.phase }, { on := 1, ground := Ground.phase }, { on := 2, ground := Ground.phase }, { on := 3, ground := Ground.phase }, { on := 4, ground := Ground.phase }, { on := 5, ground := Ground.phase }, { on := 6, ground := Ground.phase }, { on := 7, ground := Ground.phase }, { on := 8, ground := Ground.phase }, { on := 9, ground := Ground.phase }, { on := 10, ground := Ground.phase }, { on := 11, ground := Ground.phase }, { on := 12, ground := Ground.phase }, { on := 13, ground := Ground.phase }, { on := 14, ground := Ground.phase }, { on := 15, ground := Ground.phase }, { on := 16, ground := Ground.phase }], guard := none }) (v := .pointer (some ⟨g, 0, none⟩)) rfl (by kernel_rfl) (by kernel_rfl) (by kernel_rfl) (fun _ _ _ h => h) (Or.inl ⟨by kernel_rfl, fun W hSW => by go_simp⟩) (trivial) ?_
          try simp only [Act.put, List.setIfInBounds_toArray, List.set_cons_zero, List.set_cons_succ]
          refine wpAnyH_take (i := 18) (oi := { dst := some 74, op := Op.fieldAddr 56 (Operand.tmp 73) 0, type := 0, pos := "ref.go:127", after := #[{ on := 17, ground := Ground.data }, { on := 0, ground := Ground.phase }, { on := 1, ground := Ground.phase }, { on := 2, ground := Ground.phase }, { on := 3, ground := Ground.phase }, { on := 4, ground := Ground.phase }, { on := 5, ground := Ground.phase }, { on := 6, ground := Ground.phase }, { on := 7, ground := Ground.phase }, { on := 8, ground := Ground.phase }, { on := 9, ground := Ground.phase }, { on := 10, ground := Ground.phase }, { on := 11, ground := Ground.phase }, { on := 12, ground := Ground.phase }, { on := 13, ground := Ground.phase }, { on := 14, ground := Ground.phase }, { on := 15, ground := Ground.phase }, { on := 16, ground := Ground.phase }], guard := none }) (v := .pointer (some ⟨g, 0, none⟩)) rfl (by kernel_rfl) (by kernel_rfl) (by kernel_rfl) (fun _ _ _ h => h) (Or.inl ⟨by kernel_rfl, fun W hSW => by go_simp⟩) (trivial) ?_
          try simp only [Act.put, List.setIfInBounds_toArray, List.set_cons_zero, List.set_cons_succ]
          refine wpAnyH_ready (rs := [19]) (by kernel_rfl) (by simp) ?_
          refine AllReadyH.cons (o := { dst := none, op := Op.store 53 (Operand.tmp 74) (Operand.tmp 72), type := 0, pos := "ref.go:127", after := #[{ on := 18, ground := Ground.data }, { on := 16, ground := Ground.data }, { on := 16, ground := Ground.chain }, { on := 0, ground := Ground.phase }, { on := 1, ground := Ground.phase }, { on := 2, ground := Ground.phase }, { on := 3, ground := Ground.phase }, { on := 4, ground := Ground.phase }, { on := 5, ground := Ground.phase }, { on := 6, ground := Ground.phase }, { on := 7, ground := Ground.phase }, { on := 8, ground := Ground.phase }, { on := 9, ground := Ground.phase }, { on := 10, ground := Ground.phase }, { on := 11, ground := Ground.phase }, { on := 12, ground := Ground.phase }, { on := 13, ground := Ground.phase }, { on := 14, ground := Ground.phase }, { on := 15, ground := Ground.phase }, { on := 16, ground := Ground.phase }], guard := none }) rfl (fun K' hK' => ?_) AllReadyH.nil
          go_simp
          refine hK'.out _ _ trivial (fun _ => ?_)
          clear hK' K'
          try simp only [Act.put]
          refine wpAnyH_done (by kernel_rfl) ?_ _
          have HZ := Lib.hid (fun x y => H8.out.fin x y)
          obtain ⟨d0, d1, f0, f1⟩ := H8.out.out
          go_wp2_with fail
          (try simp only [Exit.inBlock, Exit.then]); refine bodyPost_ret (ret_range (g := w.heap.size + 1) rfl rfl (range_all (HZ.out _ _).1) Tryz.underlying33 rfl Tryz.is33) rfl ?_
          exact ⟨by rw [HE.out] <;> rfl, by rw [HE.out]; exact (HZ.out _ _).2⟩
open Go.RowKit
set_option maxRecDepth 100000

set_option maxHeartbeats 8000000 in
theorem rdo_no {w : World} {g : Nat} {r : Option Nat} {c : Nat} {xs : List It} (h : RL w g r c xs) (o : MOp) (hm : mayOp o = false) :
    Calls Tryz.prog 52 #[.pointer (some ⟨g, 0, none⟩), .agg (opC o).toArray] w fun E w' => ROpP w g r (doR xs o) E w' := by
  have H0 := Lib.hid (RAt.start h o)
  have HM : Hid (∀ W, Calls Tryz.prog 75 #[.agg (opC o).toArray] W fun E w' => E = .returned (.bool false) ∧ Below W.heap.size W w') := Lib.hid fun W => (rmay_any o W).mono fun E w' h => by rw [hm] at h; exact h
  have HI : Hid ((Tryz.prog.info? 38).map (·.size) = some (opC o).length) := Lib.hid Tryz.is38
  have HE : Hid (doR xs o = (no 1, xs)) := Lib.hid (by rw [doR, hm]; rfl)
  clear h hm
  go_enter Tryz.func52, Tryz.ntmps52
  go_wp2_with (first
    | ((with_reducible refine wpList_load_midG ?_ 38 (.tmp 3) ?_ w.heap.size 0 ?_ (opC o) _ ?_ Tryz.underlying38 ?_ ?_ ?_); rotate_left; (· rfl); (· rfl); (· exact range_all H0.out.op); (· rfl); (· exact HI.out); rotate_left; (· rfl))
    | (go_at_call 75; refine (HM.out _).mono ?_))
  rintro E w1 ⟨rfl, b1⟩
  have H1 := Lib.hid (H0.out.below b1)
  clear H0 b1 HM
  have HZ := Lib.hid (fun x y => H1.out.fin x y)
  obtain ⟨d0, d1, f0, f1⟩ := H1.out.out
  go_wp2_with fail
  (try simp only [Exit.inBlock, Exit.then]); refine bodyPost_ret (ret_range (g := w.heap.size + 1) rfl rfl (range_all (HZ.out _ _).1) Tryz.underlying33 rfl Tryz.is33) rfl ?_
  exact ⟨by rw [HE.out] <;> rfl, by rw [HE.out]; exact (HZ.out _ _).2⟩
theorem rdo_any {w : World} {g : Nat} {r : Option Nat} {c : Nat} {xs : List It} (h : RL w g r c xs) (hs : Rise xs) (hn : xs.length ≤ 900) (hsm : ∀ p ∈ xs, p.2.size ≤ 128) (o : MOp) :
    Calls Tryz.prog 52 #[.pointer (some ⟨g, 0, none⟩), .agg (opC o).toArray] w fun E w' => ROpP w g r (doR xs o) E w' := by
  cases hm : mayOp o with
  | false => exact rdo_no h o hm
  | true =>
    rcases may_kind hm with hk | hk | hk | hk | hk
    · exact rdo_1 h hs hn hsm o hm hk
    · exact rdo_2 h hs hn hsm o hm hk
    · exact rdo_3 h hs hn hsm o hm hk
    · exact rdo_4 h hs hn hsm o hm hk
    · exact rdo_5 h hs hn hsm o hm hk

open Go.RowKit
set_option maxRecDepth 100000

theorem its_cell {w : World} {b o : Nat} : ∀ {xs : List It} (_ : ∀ j p, xs[j]? = some p → w.cell? ⟨b, o + j * 2, none⟩ = some (.string p.1) ∧ w.cell? ⟨b, o + j * 2 + 1, none⟩ = some (.string p.2)) (j : Nat) (u : Value), (itC xs)[j]? = some u → w.cell? ⟨b, o + j, none⟩ = some u := fun {xs} h j u hj => by
  obtain ⟨i, e, hie⟩ : ∃ i e, j = i * 2 + e ∧ e < 2 := ⟨j / 2, j % 2, by omega, by omega⟩
  obtain ⟨rfl, he⟩ := hie
  have hl := (List.getElem?_eq_some_iff.1 hj).1
  rw [itC_length] at hl
  obtain ⟨p, hp⟩ : ∃ p, xs[i]? = some p := ⟨_, List.getElem?_eq_getElem (by omega)⟩
  obtain ⟨e1, e2⟩ := itC_at hp
  have ⟨c1, c2⟩ := h i p hp
  rcases Nat.lt_or_ge e 1 with h0 | h0
  · obtain rfl : e = 0 := by omega
    rw [Nat.add_zero] at hj ⊢
    rw [e1] at hj; cases hj; exact c1
  · obtain rfl : e = 1 := by omega
    rw [e2] at hj; cases hj
    rw [← Nat.add_assoc]; exact c2
theorem app_its {w0 w : World} {ops : Array Oper} {rest : List Oper} {o : Oper} {a : Act} {Q : Exit → Act → World → Prop} (hgd : o.guard = none) (s x : Operand)
    (ho : o.op = .call { callee := .builtin .append, args := #[s, x], argTypes := #[53, 53] }) {v : Value} (hs : a.eval s = v) (hown : w.ownsRow w0.heap.size 83 2 v 0 []) (hb : Below w0.heap.size w0 w)
    {A : Option Addr} {n c : Nat} {xs : List It} (hx : a.eval x = .slice A n c) (hn : n = xs.length) (hI : Its w A xs) (hc : A = none → c = 0) (hl : n ≤ 1000)
    (h : ∀ r c' w', Rw w' r c' xs → (∀ b, r = some b → w0.heap.size ≤ b) → Below w0.heap.size w0 w' → wpList Tryz.prog ops Q rest (a.put o.dst (.slice (slA r) n c')) w') : wpList Tryz.prog ops Q (o :: rest) a w := by
  refine wpList_plain hgd fun K hK => ?_
  cases A with
  | none =>
    have hc0 : c = 0 := hc rfl
    have hn0 : xs = [] := by
      rcases Nat.eq_zero_or_pos xs.length with h | h
      · exact List.length_eq_zero_iff.1 h
      · obtain ⟨b, o, hx, _⟩ := hI h
        cases hx
    subst hc0 hn0
    subst hn
    obtain ⟨i0, hi0, _⟩ := info_parts Tryz.info83
    have hrun := run_append_owned_none (P := Tryz.prog) (w := w) w0.heap.size 53 o.type 83 i0 2 Tryz.underlying53 hi0 v 0 [] hown
    have hown2 : w.ownsRow w0.heap.size 83 2 v ([] : List It).length (itC []) := hown
    obtain ⟨r, c', he, hr, hg⟩ := rw_of_own hown2
    unfold Oper.wp
    simp only [List.length_nil] at hx
    simp [execOp, ho, resolve, invoke, builtin, hs, hx, hrun, Result.andThen]
    rw [he]
    exact hK _ _ (h r c' w hr hg hb)
  | some ad =>
    subst hn
    refine wp_app s x ho hs hown hb ad xs.length c (itC xs) hx (itC_length xs) (fun j u hj => ?_) (itC_one xs) (by omega) ?_
    · have hjl := (List.getElem?_eq_some_iff.1 hj).1
      rw [itC_length] at hjl
      obtain ⟨b, o, he, hbl, hcs⟩ := hI (by omega)
      injection he with he
      subst he
      rw [Addr.add_lit]
      exact its_cell hcs j u hj
    · intro v' w' ho' hb'
      rw [Nat.zero_add, List.nil_append] at ho'
      obtain ⟨r, c', rfl, hr, hg⟩ := rw_of_own ho'
      exact hK _ _ (h r c' w' hr hg hb')
def ROfP (w : World) (xs : List It) (E : Ending) (w' : World) : Prop :=
  Below w.heap.size w w' ∧ if mayI ByteArray.empty xs = true then (if xs.length ≤ 64 then ∃ g r c, E = .returned (.tuple #[.pointer (some ⟨g, 0, none⟩), .int .i64 0]) ∧ RL w' g r c xs ∧ ∀ k, On g r k → w.heap.size ≤ k
    else E = .returned (.tuple #[.pointer none, .int .i64 6])) else E = .returned (.tuple #[.pointer none, .int .i64 1])
theorem rl_of {w W : World} {xs : List It} (hb : Below w.heap.size w W) {r : Option Nat} {c : Nat} (hr : Rw W r c xs) (hg : ∀ b, r = some b → w.heap.size ≤ b) :
    RL (W.alloc (.cells #[.slice (slA r) xs.length c] 56)) W.heap.size r c xs ∧ ∀ k, On W.heap.size r k → w.heap.size ≤ k := by
  have hb2 : Below W.heap.size W (W.alloc (.cells #[.slice (slA r) xs.length c] 56)) := (Below.refl _ _).alloc (Nat.le_refl _) _
  refine ⟨⟨heap_alloc_new W _, hr.kept fun b e => hb2.block b (by rw [e] at hr; exact hr.lt)⟩, ?_⟩
  rintro k (rfl | hk)
  · exact hb.size
  · exact hg k hk
end Go.Proofs.YtpageppjngbnpaaGreatDoor
