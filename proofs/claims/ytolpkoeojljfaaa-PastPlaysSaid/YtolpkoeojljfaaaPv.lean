/-
  What is proved: PastPlays' walk. Conditions as stated.
-/
import Derived.Test.YtolpkoeojljfaaaPu
namespace Go.Proofs.Ytolpkoeojljfaaa
open Go.RowKit
set_option maxRecDepth 100000

theorem wpAnyH_mono {P : Program} {md : Region.Mode} {ops : Array Oper} {Q : Exit → Act → World → Prop} {S S' : World → Prop} (hS : ∀ w, S' w → S w) : ∀ (fuel : Nat) (listed : Array Bool) (a : Act) (w : World), wpAnyH P md ops Q S' fuel listed a w → wpAnyH P md ops Q S fuel listed a w
  | 0, _, _, _, h => h
  | fuel + 1, _, _, _, h => ⟨h.1, fun i hi => wpOp_mono (fun a' w' h' => ⟨hS _ h'.1, wpAnyH_mono hS fuel _ a' w' h'.2⟩) (h.2 i hi)⟩
theorem exec_load_mid {P : Program} {o : Oper} {f : Operand → Value} {w : World} (ty : TypeId) (x : Operand) (ho : o.op = .load ty x) (b off : Nat) (hx : f x = .pointer (some ⟨b, off, none⟩)) (cs : List Value) (d : TypeDesc)
    (hc : w.rangeAt b off cs) (hu : P.underlying ty = some d) (hd : d.isRow = true) (hi : (P.info? ty).map (·.size) = some cs.length) : (execOp f o).run P w = .ok (.value (.agg cs.toArray)) w := by
  unfold execOp
  simp only [ho, hx, Instr.loadAt, Instr.sureAddr, Sem.run_bind, Sem.run_pure, Result.andThen_ok, run_loadVar_mid w b off ty cs d hc hu hd hi]
/-- The program's past and the document's, side by side. -/
def Both (W wr : World) (b rb : Nat) (p : MPast) : Prop := ∃ rv mb A c, Fr W wr [paT b rv mb p, rfT rb A c p]
theorem info30 : (Try.prog.info? 30).map (·.size) = some 4 := by kernel_rfl
structure RelP (W wr : World) (b rb j : Nat) (p : MPast) : Prop where
  bo : Both W wr b rb p
  inv : InvP p (1073741824 + j)
theorem Both.bel {W wr : World} {b rb : Nat} {p : MPast} (h : Both W wr b rb p) : Below W.heap.size W wr := let ⟨_, _, _, _, H⟩ := h; H.bel
theorem Both.below {W wr w' : World} {b rb : Nat} {p : MPast} (h : Both W wr b rb p) (hb : Below wr.heap.size wr w') : Both W w' b rb p := let ⟨rv, mb, A, c, H⟩ := h; ⟨rv, mb, A, c, H.below hb⟩
theorem Both.does {W wr : World} {b rb : Nat} {p q : MPast} {X : Bool} {x : MStep} (h : Both W wr b rb p) (hx : x.Wf) (hd : doR p x = (X, q)) :
    Calls Try.prog 10 #[.pointer (some ⟨b, 0, none⟩), .agg (stC x).toArray] wr fun E W' => E = .returned (.bool X) ∧ ∃ rv mb A c, Fr W W' [paT b rv mb q, rfT rb A c p] := by
  obtain ⟨rv, mb, A, c, H⟩ := h
  have h1 := does_any (v := W) (os := [rfT rb A c p]) ⟨rv, mb, H⟩ hx
  rw [hd] at h1
  exact h1.mono fun E W' ⟨e, rv', mb', H'⟩ => ⟨e, rv', mb', A, c, H'⟩
theorem Both.did {W wr : World} {b rb : Nat} {p q : MPast} {X : Bool} {x : MStep} {N : Nat} (h : ∃ rv mb A c, Fr W wr [paT b rv mb q, rfT rb A c p]) (hi : InvP p N) (hN : N < 9223372036854775807) (hx : x.Wf) (hd : doR p x = (X, q)) :
    Calls Try.prog 11 #[.pointer (some ⟨rb, 0, none⟩), .agg (stC x).toArray] wr fun E W' => E = .returned (.bool X) ∧ Both W W' b rb q := by
  obtain ⟨rv, mb, A, c, H⟩ := h
  have h1 := did_any (v := W) (os := [paT b rv mb q]) ⟨A, c, H.swap⟩ hi hN hx
  rw [hd] at h1
  exact h1.mono fun E W' ⟨e, A', c', H'⟩ => ⟨e, rv, mb, A', c', H'.swap⟩
theorem Both.great {W wr : World} {b rb : Nat} {p : MPast} (h : Both W wr b rb p) : Calls Try.prog 12 #[.pointer (some ⟨b, 0, none⟩)] wr fun E w' => E = .returned (.int .u64 (p.great : Int)) ∧ wr = w' := let ⟨_, _, _, _, H⟩ := h; great_any H.hd
theorem Both.voted {W wr : World} {b rb : Nat} {p : MPast} (h : Both W wr b rb p) {x : Nat} (hx : x < 18446744073709551616) : Calls Try.prog 13 #[.pointer (some ⟨b, 0, none⟩), .int .u64 (x : Int)] wr fun E w' => E = .returned (.tuple #[.int .i64 (((vot p.L x).getD 0 : Nat) : Int), .bool (vot p.L x).isSome]) ∧ wr = w' := let ⟨_, _, _, _, H⟩ := h; voted_any H.hd hx
theorem Both.rvoted {W wr : World} {b rb : Nat} {p : MPast} {N : Nat} (h : Both W wr b rb p) (hi : InvP p N) (x : Nat) : Calls Try.prog 14 #[.pointer (some ⟨rb, 0, none⟩), .int .u64 (x : Int)] wr fun E w' => E = .returned (.tuple #[.int .i64 (((vot p.L x).getD 0 : Nat) : Int), .bool (vot p.L x).isSome]) ∧ wr = w' := let ⟨_, _, A, c, H⟩ := h; rvoted_any (v := W) (os := []) ⟨A, c, H.pop⟩ hi x
theorem Both.rcell {W wr : World} {b rb : Nat} {p : MPast} (h : Both W wr b rb p) : wr.cell? ⟨rb, 0, none⟩ = some (.int .u64 (p.great : Int)) := let ⟨_, _, _, _, H⟩ := h; block_cell (RfAt.top H.pop.hd) 0 _ rfl
set_option maxHeartbeats 8000000 in
theorem plays_by (W : World) (A : Option Addr) (c : Nat) (xs : List MStep) (hx : Sts W A xs) (hw : ∀ x ∈ xs, x.Wf) (hn : ¬ xs.length > 200) (V : Nat) (hV : V < 18446744073709551616) :
    Calls Try.prog 3 #[.slice A xs.length c, .int .u64 (V : Int)] W fun E W' => E = .returned (.bool true) ∧ Below W.heap.size W W' := by
  have HN := Lib.hid (new_any (Fr.start W))
  have HW : Hid (∀ W' os, Fr W W' os → Calls Try.prog 7 #[] W' fun E W'' => E = .returned (.bool true) ∧ Below W.heap.size W W'') := Lib.hid fun W' os hf => (works_any hf).mono fun E W'' h => ⟨h.1, h.2.bel⟩
  obtain ⟨n, hnn⟩ : ∃ n, n = xs.length := ⟨_, rfl⟩
  have HNn := Lib.hid hnn
  rw [← hnn] at hn ⊢
  have hn' : ¬ (n : Int) > 200 := by omega
  have HX := Lib.hid hx
  have HWf := Lib.hid hw
  have HVV := Lib.hid hV
  clear hnn hx hw hV
  go_enter Try.func3, Try.ntmps3
  go_wp2_with (first
    | (go_at_call 8; refine HN.out.mono ?_; rintro E w1 ⟨b, rfl, h⟩; obtain ⟨rv0, mb0, hH⟩ := h; have H1 := Lib.hid (rnew_any hH); clear hH)
    | (go_at_call 9; refine H1.out.mono ?_; rintro E w2 ⟨rb, rfl, h⟩; have H2 : Hid (Both W w2 b rb .new) := Lib.hid (by obtain ⟨A', c', hH⟩ := h; exact ⟨rv0, mb0, A', c', hH.swap⟩); clear h))
  go_loopw [7] (fun v7 wr => ∃ (j : Nat) (p : MPast), j ≤ n ∧ v7 = .int .i64 (j : Int) ∧ Hid (RelP W wr b rb j p)) (fun v7 _ => n - (intOf v7).toNat)
  case atStart => exact ⟨0, .new, Nat.zero_le _, rfl, Lib.hid ⟨H2.out, inv_new _⟩⟩
  case round =>
    obtain ⟨j, p, hj, rfl, HR⟩ := hrel
    by_cases hlt : j < n
    · obtain ⟨x, hx⟩ : ∃ x, xs[j]? = some x := ⟨_, List.getElem?_eq_getElem (by have := HNn.out; omega)⟩
      obtain ⟨b0, o0, rfl, hb0, hcell⟩ := HX.out (by have := HNn.out; omega)
      have hxw := HWf.out x (List.mem_of_getElem? hx)
      have hrgA : ∀ W', Below W.heap.size W W' → W'.rangeAt b0 (o0 + j * 4) (stC x) := fun W' hb i u hu => (hb.cell (p := ⟨b0, _, none⟩) hb0).trans (hcell j x hx i u hu)
      obtain ⟨op, xv, xk, xl⟩ := x
      have HRg : Hid (∀ W', Below W.heap.size W W' → W'.rangeAt b0 (o0 + j * 4) [Value.int .u8 (op : Int), .int .u64 (xv : Int), .int .u64 (xk : Int), .int .i64 xl]) := Lib.hid hrgA
      have q3 : wr.cell? ⟨b0, o0 + j * 4 + 3, none⟩ = some (.int .i64 xl) := hrgA wr HR.out.bo.bel 3 _ rfl
      have HWx := Lib.hid hxw
      have HJ : Hid (j ≤ 1000000) := Lib.hid (by omega)
      have HXV : Hid (xv < 18446744073709551616) := Lib.hid hxw.v
      clear hcell hrgA hx hb0 hxw
      by_cases hbig : 1073741824 < xl
      · have HFr : Hid (∃ os, Fr W wr os) := Lib.hid (by obtain ⟨_, _, _, _, hH⟩ := HR.out.bo; exact ⟨_, hH⟩)
        go_wp2_with (go_at_call 7; obtain ⟨os, hf⟩ := HFr.out; refine (HW.out _ _ hf).mono ?_; rintro E w3 ⟨rfl, h⟩; have h2 := Lib.hid h; clear h)
        go_ret
        exact ⟨rfl, h2.out⟩
      have hbig' : decide (1073741824 < xl) = false := decide_eq_false hbig
      have HLo : Hid (xl ≤ 1073741824) := Lib.hid (by omega)
      obtain ⟨X, q, hd⟩ : ∃ X q, doR p ⟨op, xv, xk, xl⟩ = (X, q) := ⟨_, _, rfl⟩
      have Hd := Lib.hid hd
      have HI : Hid (InvP q (1073741824 + (j + 1))) := Lib.hid (by
        have := HR.out.inv.step (x := ⟨op, xv, xk, xl⟩) (by have := HJ.out; omega) (by omega) HLo.out
        rw [hd] at this
        exact this)
      have HD : Hid (∀ W', Both W W' b rb p → Calls Try.prog 10 #[.pointer (some ⟨b, 0, none⟩), .agg #[.int .u8 (op : Int), .int .u64 (xv : Int), .int .u64 (xk : Int), .int .i64 xl]] W' fun E W'' => E = .returned (.bool X) ∧ ∃ rv mb A c, Fr W W'' [paT b rv mb q, rfT rb A c p]) := Lib.hid fun W' hb => by
        have h := hb.does HWx.out hd
        simp only [stC] at h
        exact h
      have HE : Hid (∀ W', (∃ rv mb A c, Fr W W' [paT b rv mb q, rfT rb A c p]) → Calls Try.prog 11 #[.pointer (some ⟨rb, 0, none⟩), .agg #[.int .u8 (op : Int), .int .u64 (xv : Int), .int .u64 (xk : Int), .int .i64 xl]] W' fun E W'' => E = .returned (.bool X) ∧ Both W W'' b rb q) := Lib.hid fun W' hb => by
        have h := Both.did hb HR.out.inv (by have := HJ.out; omega) HWx.out hd
        simp only [stC] at h
        exact h
      clear hd hbig
      go_wp2_with fail
      have hdec : decide ((j : Int) < (n : Int)) = true := decide_eq_true (by omega)
      have hj0 : (0 : Int) ≤ (j : Int) := by omega
      have hjn : (j : Int) < (n : Int) := by omega
      have htn : ((j : Int)).toNat = j := by omega
      refine wp_region_any (by kernel_rfl) ?_
      have H5 := Lib.hid (HR.out.bo.below (below_drewN (Below.refl _ _) 1))
      change wpAny _ _ _ _ _ _ _ (wr.drewN 1)
      generalize wr.drewN 1 = w5 at H5 ⊢
      have E5 := HRg.out _ H5.out.bel
      refine wpAny_of_held (S := fun W' => W'.rangeAt b0 (o0 + j * 4) [Value.int .u8 (op : Int), .int .u64 (xv : Int), .int .u64 (xk : Int), .int .i64 xl]) _ _ _ _ ?_
      refine wpAnyH_take (i := 0) (oi := { dst := some 37, op := Op.move (Operand.tmp 5), type := _, pos := _, after := _, guard := none }) (v := .pointer (some ⟨b, 0, none⟩)) rfl (by kernel_rfl) (by kernel_rfl) (by kernel_rfl) (fun _ _ _ h => h) (Or.inl ⟨by kernel_rfl, fun W hSW => by go_simp⟩) (E5) ?_
      try simp only [Act.put, List.setIfInBounds_toArray, List.set_cons_zero, List.set_cons_succ]
      refine wpAnyH_take (i := 1) (oi := { dst := some 38, op := Op.move (Operand.tmp 0), type := _, pos := _, after := _, guard := none }) (v := .slice (some ⟨b0, o0, none⟩) n c) rfl (by kernel_rfl) (by kernel_rfl) (by kernel_rfl) (fun _ _ _ h => h) (Or.inl ⟨by kernel_rfl, fun W hSW => by go_simp⟩) (E5) ?_
      try simp only [Act.put, List.setIfInBounds_toArray, List.set_cons_zero, List.set_cons_succ]
      refine wpAnyH_take (i := 2) (oi := { dst := some 39, op := Op.move (Operand.tmp 7), type := _, pos := _, after := _, guard := none }) (v := .int .i64 (j : Int)) rfl (by kernel_rfl) (by kernel_rfl) (by kernel_rfl) (fun _ _ _ h => h) (Or.inl ⟨by kernel_rfl, fun W hSW => by go_simp⟩) (E5) ?_
      try simp only [Act.put, List.setIfInBounds_toArray, List.set_cons_zero, List.set_cons_succ]
      refine wpAnyH_take (i := 3) (oi := { dst := some 40, op := Op.indexAddr 22 (Operand.tmp 38) (Operand.tmp 39), type := _, pos := _, after := _, guard := none }) (v := .pointer (some ⟨b0, o0 + j * 4, none⟩)) rfl (by kernel_rfl) (by kernel_rfl) (by kernel_rfl) (fun _ _ _ h => h) (Or.inl ⟨by kernel_rfl, fun W hSW => by go_simp⟩) (E5) ?_
      try simp only [Act.put, List.setIfInBounds_toArray, List.set_cons_zero, List.set_cons_succ]
      refine wpAnyH_take (i := 6) (oi := { dst := some 43, op := Op.move (Operand.tmp 6), type := _, pos := _, after := _, guard := none }) (v := .pointer (some ⟨rb, 0, none⟩)) rfl (by kernel_rfl) (by kernel_rfl) (by kernel_rfl) (fun _ _ _ h => h) (Or.inl ⟨by kernel_rfl, fun W hSW => by go_simp⟩) (E5) ?_
      try simp only [Act.put, List.setIfInBounds_toArray, List.set_cons_zero, List.set_cons_succ]
      refine wpAnyH_take (i := 7) (oi := { dst := some 44, op := Op.move (Operand.tmp 0), type := _, pos := _, after := _, guard := none }) (v := .slice (some ⟨b0, o0, none⟩) n c) rfl (by kernel_rfl) (by kernel_rfl) (by kernel_rfl) (fun _ _ _ h => h) (Or.inl ⟨by kernel_rfl, fun W hSW => by go_simp⟩) (E5) ?_
      try simp only [Act.put, List.setIfInBounds_toArray, List.set_cons_zero, List.set_cons_succ]
      refine wpAnyH_take (i := 8) (oi := { dst := some 45, op := Op.move (Operand.tmp 7), type := _, pos := _, after := _, guard := none }) (v := .int .i64 (j : Int)) rfl (by kernel_rfl) (by kernel_rfl) (by kernel_rfl) (fun _ _ _ h => h) (Or.inl ⟨by kernel_rfl, fun W hSW => by go_simp⟩) (E5) ?_
      try simp only [Act.put, List.setIfInBounds_toArray, List.set_cons_zero, List.set_cons_succ]
      refine wpAnyH_take (i := 9) (oi := { dst := some 46, op := Op.indexAddr 22 (Operand.tmp 44) (Operand.tmp 45), type := _, pos := _, after := _, guard := none }) (v := .pointer (some ⟨b0, o0 + j * 4, none⟩)) rfl (by kernel_rfl) (by kernel_rfl) (by kernel_rfl) (fun _ _ _ h => h) (Or.inl ⟨by kernel_rfl, fun W hSW => by go_simp⟩) (E5) ?_
      try simp only [Act.put, List.setIfInBounds_toArray, List.set_cons_zero, List.set_cons_succ]
      refine wpAnyH_take (i := 4) (oi := { dst := some 41, op := Op.load 30 (Operand.tmp 40), type := _, pos := _, after := _, guard := none }) (v := .agg ([Value.int .u8 (op : Int), .int .u64 (xv : Int), .int .u64 (xk : Int), .int .i64 xl]).toArray) rfl (by kernel_rfl) (by kernel_rfl) (by kernel_rfl) (fun _ _ _ h => h) (Or.inl ⟨by kernel_rfl, fun W hSW => exec_load_mid 30 (.tmp 40) rfl b0 (o0 + j * 4) rfl [Value.int .u8 (op : Int), .int .u64 (xv : Int), .int .u64 (xk : Int), .int .i64 xl] _ hSW Try.underlying30 rfl info30⟩) (E5) ?_
      try simp only [Act.put, List.setIfInBounds_toArray, List.set_cons_zero, List.set_cons_succ]
      refine wpAnyH_take (i := 10) (oi := { dst := some 47, op := Op.load 30 (Operand.tmp 46), type := _, pos := _, after := _, guard := none }) (v := .agg ([Value.int .u8 (op : Int), .int .u64 (xv : Int), .int .u64 (xk : Int), .int .i64 xl]).toArray) rfl (by kernel_rfl) (by kernel_rfl) (by kernel_rfl) (fun _ _ _ h => h) (Or.inl ⟨by kernel_rfl, fun W hSW => exec_load_mid 30 (.tmp 46) rfl b0 (o0 + j * 4) rfl [Value.int .u8 (op : Int), .int .u64 (xv : Int), .int .u64 (xk : Int), .int .i64 xl] _ hSW Try.underlying30 rfl info30⟩) (E5) ?_
      try simp only [Act.put, List.setIfInBounds_toArray, List.set_cons_zero, List.set_cons_succ]
      refine wpAnyH_ready (rs := [5]) (by kernel_rfl) (by simp) ?_
      refine AllReadyH.cons (o := { dst := some 42, op := Op.call { callee := Callee.value (Operand.func 10), args := #[Operand.tmp 37, Operand.tmp 41], argTypes := #[25, 30] }, type := _, pos := _, after := _, guard := none }) rfl (fun K' hK' => ?_) AllReadyH.nil
      go_simp
      go_at_call 10
      refine (HD.out _ H5.out).mono ?_
      rintro E w6 ⟨rfl, h⟩
      have H6 := Lib.hid h
      have E6 : w6.rangeAt b0 (o0 + j * 4) [Value.int .u8 (op : Int), .int .u64 (xv : Int), .int .u64 (xk : Int), .int .i64 xl] := HRg.out _ (by obtain ⟨_, _, _, _, hH⟩ := h; exact hH.bel)
      clear h
      refine hK'.out _ _ E6 (fun _ => ?_)
      clear hK' K'
      try simp only [Act.put, List.setIfInBounds_toArray, List.set_cons_zero, List.set_cons_succ]
      refine wpAnyH_ready (rs := [11]) (by kernel_rfl) (by simp) ?_
      refine AllReadyH.cons (o := { dst := some 48, op := Op.call { callee := Callee.value (Operand.func 11), args := #[Operand.tmp 43, Operand.tmp 47], argTypes := #[27, 30] }, type := _, pos := _, after := _, guard := none }) rfl (fun K' hK' => ?_) AllReadyH.nil
      go_simp
      go_at_call 11
      refine (HE.out _ H6.out).mono ?_
      rintro E w7 ⟨rfl, h⟩
      have H7 := Lib.hid h
      have E7 := HRg.out _ h.bel
      have g7 := h.rcell
      clear h
      refine hK'.out _ _ E7 (fun _ => wpAnyH_mono (S' := fun W' => W'.rangeAt b0 (o0 + j * 4) [Value.int .u8 (op : Int), .int .u64 (xv : Int), .int .u64 (xk : Int), .int .i64 xl] ∧ W'.cell? ⟨rb, 0, none⟩ = some (.int .u64 (q.great : Int))) (fun w h => h.1) _ _ _ _ ?_)
      clear hK' K'
      try simp only [Act.put, List.setIfInBounds_toArray, List.set_cons_zero, List.set_cons_succ]
      refine wpAnyH_take (i := 12) (oi := { dst := some 49, op := Op.binOp BinOp.neq 4 (Operand.tmp 42) (Operand.tmp 48) 4, type := _, pos := _, after := _, guard := none }) (v := .bool false) rfl (by kernel_rfl) (by kernel_rfl) (by kernel_rfl) (fun _ _ _ h => h) (Or.inl ⟨by kernel_rfl, fun W hSW => by go_simp⟩) (⟨E7, g7⟩) ?_
      try simp only [Act.put, List.setIfInBounds_toArray, List.set_cons_zero, List.set_cons_succ]
      refine wpAnyH_take (i := 13) (oi := { dst := some 50, op := Op.move (Operand.tmp 49), type := _, pos := _, after := _, guard := none }) (v := .bool false) rfl (by kernel_rfl) (by kernel_rfl) (by kernel_rfl) (fun _ _ _ h => h) (Or.inl ⟨by kernel_rfl, fun W hSW => by go_simp⟩) (⟨E7, g7⟩) ?_
      try simp only [Act.put, List.setIfInBounds_toArray, List.set_cons_zero, List.set_cons_succ]
      refine wpAnyH_take (i := 14) (oi := { dst := some 51, op := Op.move (Operand.tmp 5), type := _, pos := _, after := _, guard := some (13, false) }) (v := .pointer (some ⟨b, 0, none⟩)) rfl (by kernel_rfl) (by kernel_rfl) (by kernel_rfl) (fun _ _ _ h => h) (Or.inl ⟨by kernel_rfl, fun W hSW => by go_simp⟩) (⟨E7, g7⟩) ?_
      try simp only [Act.put, List.setIfInBounds_toArray, List.set_cons_zero, List.set_cons_succ]
      refine wpAnyH_take (i := 16) (oi := { dst := some 53, op := Op.move (Operand.tmp 6), type := _, pos := _, after := _, guard := some (13, false) }) (v := .pointer (some ⟨rb, 0, none⟩)) rfl (by kernel_rfl) (by kernel_rfl) (by kernel_rfl) (fun _ _ _ h => h) (Or.inl ⟨by kernel_rfl, fun W hSW => by go_simp⟩) (⟨E7, g7⟩) ?_
      try simp only [Act.put, List.setIfInBounds_toArray, List.set_cons_zero, List.set_cons_succ]
      refine wpAnyH_take (i := 17) (oi := { dst := some 54, op := Op.nilCheck (Operand.tmp 53), type := _, pos := _, after := _, guard := some (13, false) }) (v := .pointer (some ⟨rb, 0, none⟩)) rfl (by kernel_rfl) (by kernel_rfl) (by kernel_rfl) (fun _ _ _ h => h) (Or.inl ⟨by kernel_rfl, fun W hSW => by go_simp⟩) (⟨E7, g7⟩) ?_
      try simp only [Act.put, List.setIfInBounds_toArray, List.set_cons_zero, List.set_cons_succ]
      refine wpAnyH_take (i := 18) (oi := { dst := some 55, op := Op.fieldAddr 36 (Operand.tmp 54) 0, type := _, pos := _, after := _, guard := some (13, false) }) (v := .pointer (some ⟨rb, 0, none⟩)) rfl (by kernel_rfl) (by kernel_rfl) (by kernel_rfl) (fun _ _ _ h => h) (Or.inl ⟨by kernel_rfl, fun W hSW => by go_simp⟩) (⟨E7, g7⟩) ?_
      try simp only [Act.put, List.setIfInBounds_toArray, List.set_cons_zero, List.set_cons_succ]
      refine wpAnyH_take (i := 19) (oi := { dst := some 56, op := Op.load 23 (Operand.tmp 55), type := _, pos := _, after := _, guard := some (13, false) }) (v := .int .u64 (q.great : Int)) rfl (by kernel_rfl) (by kernel_rfl) (by kernel_rfl) (fun _ _ _ h => h) (Or.inl ⟨by kernel_rfl, fun W hSW => by have hv := hSW.2; go_simp⟩) (⟨E7, g7⟩) ?_
      try simp only [Act.put, List.setIfInBounds_toArray, List.set_cons_zero, List.set_cons_succ]
      refine wpAnyH_ready (rs := [15]) (by kernel_rfl) (by simp) ?_
      refine AllReadyH.cons (o := { dst := some 52, op := Op.call { callee := Callee.value (Operand.func 12), args := #[Operand.tmp 51], argTypes := #[25] }, type := _, pos := _, after := _, guard := some (13, false) }) rfl (fun K' hK' => ?_) AllReadyH.nil
      go_simp
      go_at_call 12
      refine H7.out.great.mono ?_
      rintro E w8 ⟨rfl, rfl⟩
      refine hK'.out _ _ ⟨E7, g7⟩ (fun _ => ?_)
      clear hK' K'
      try simp only [Act.put, List.setIfInBounds_toArray, List.set_cons_zero, List.set_cons_succ]
      refine wpAnyH_take (i := 20) (oi := { dst := some 57, op := Op.binOp BinOp.neq 23 (Operand.tmp 52) (Operand.tmp 56) 23, type := _, pos := _, after := _, guard := some (13, false) }) (v := .bool false) rfl (by kernel_rfl) (by kernel_rfl) (by kernel_rfl) (fun _ _ _ h => h) (Or.inl ⟨by kernel_rfl, fun W hSW => by go_simp⟩) (⟨E7, g7⟩) ?_
      try simp only [Act.put, List.setIfInBounds_toArray, List.set_cons_zero, List.set_cons_succ]
      refine wpAnyH_take (i := 21) (oi := { dst := some 58, op := Op.pick (Operand.tmp 50) (Operand.const (Value.bool true)) (Operand.tmp 57), type := _, pos := _, after := _, guard := none }) (v := .bool false) rfl (by kernel_rfl) (by kernel_rfl) (by kernel_rfl) (fun _ _ _ h => h) (Or.inl ⟨by kernel_rfl, fun W hSW => by go_simp⟩) (⟨E7, g7⟩) ?_
      try simp only [Act.put, List.setIfInBounds_toArray, List.set_cons_zero, List.set_cons_succ]
      refine wpAnyH_done (by kernel_rfl) ?_ _
      have q1 : w7.cell? ⟨b0, o0 + j * 4 + 1, none⟩ = some (.int .u64 (xv : Int)) := E7 1 _ rfl
      have HV1 := Lib.hid (H7.out.voted HXV.out)
      have HV2 := Lib.hid (H7.out.rvoted HI.out xv)
      generalize (((vot q.L xv).getD 0 : Nat) : Int) = vn at HV1 HV2
      generalize (vot q.L xv).isSome = vs at HV1 HV2
      clear E5 E6 E7 g7 hdec hj0 hjn htn q3
      go_wp2_with (first | (go_at_call 13; refine HV1.out.mono ?_; rintro E w9 ⟨rfl, rfl⟩) | (go_at_call 14; refine HV2.out.mono ?_; rintro E w9 ⟨rfl, rfl⟩))
      go_roundw
      case measure => simp [intOf]; omega
      case rel => exact ⟨j + 1, q, by omega, by go_num, Lib.hid ⟨H7.out, HI.out⟩⟩
    · obtain ⟨rvp, mbp, Ap, cp, hH⟩ := HR.out.bo
      have HP : Hid (PaIs W wr [rfT rb Ap cp p] b p) := Lib.hid ⟨rvp, mbp, hH⟩
      clear hH
      have HEn := Lib.hid (entered_any HP.out)
      obtain ⟨g, m, rfl, hf⟩ := RfAt.facts (show RfAt wr rb Ap cp p from HP.out.fr.hd) HR.out.inv
      obtain ⟨len, hlen⟩ : ∃ len, len = p.L.length := ⟨_, rfl⟩
      have HLen := Lib.hid hlen
      have hl0 : 0 < len := by have := hf.len; omega
      have hl1 : len ≤ 1073741824 := by have := HR.out.inv.ok.len; omega
      have HF3 : Hid (∀ w3 Ae ce, (∃ rv mb, Fr W w3 (nuT 23 .u64 (.slice Ae p.L.length ce) (p.L.map (·.1)) :: paT b rv mb p :: [rfT rb (some ⟨g, 0, none⟩) cp p])) → (∃ ge, Ae = some ⟨ge, 0, none⟩ ∧ ∀ k (q : Nat × Nat), p.L[k]? = some q → w3.cell? ⟨ge, k, none⟩ = some (.int .u64 (q.1 : Int)) ∧ w3.cell? ⟨g, k * 2, none⟩ = some (.int .u64 (q.1 : Int))) ∧ w3.cell? ⟨rb, 1, none⟩ = some (.slice (some ⟨g, 0, none⟩) len cp) ∧ Both W w3 b rb p) := Lib.hid fun w3 Ae ce h => by
        obtain ⟨rv, mb, H⟩ := h
        have hr : RfAt w3 rb (some ⟨g, 0, none⟩) cp p := H.pop.pop.hd
        obtain ⟨A2, c2, e, _, hs, h0⟩ := row_shape H.hd
        injection e with e1 e2 e3
        subst e1
        refine ⟨?_, by rw [hlen]; exact block_cell hr.top 1 _ rfl, ⟨rv, mb, _, cp, H.pop⟩⟩
        cases Ae with
        | none => have := (h0 rfl).1; rw [List.length_map] at this; omega
        | some ad =>
          obtain ⟨ge, e, hg⟩ := hs ad rfl
          refine ⟨ge, by rw [e], fun k q hk => ⟨?_, (rf_cells hr hk).1⟩⟩
          have := hg k (.int .u64 (q.1 : Int)) (nv_get (by rw [List.getElem?_map, hk]; rfl))
          rwa [Nat.zero_add] at this
      rw [← hlen] at HEn HF3
      have hl2 : ((len : Int) != (len : Int)) = false := by simp
      clear hf hlen
      go_wp2_with (go_at_call 15; refine HEn.out.mono ?_; rintro E w3 ⟨Ae, ce, rfl, h⟩; obtain ⟨⟨ge, rfl, hcell⟩, hc1, hbo⟩ := HF3.out _ _ _ h; have HCell := Lib.hid hcell; have HBo := Lib.hid hbo; clear h hcell hbo)
      go_loopw [13] (fun v13 wx => ∃ k : Nat, k ≤ len ∧ v13 = .int .i64 (k : Int) ∧ Hid (∃ q, wx = w3.drewN q)) (fun v13 _ => len - (intOf v13).toNat)
      case atStart => exact ⟨0, Nat.zero_le _, rfl, Lib.hid ⟨0, rfl⟩⟩
      case round =>
        obtain ⟨k, hk, rfl, HQ⟩ := hrel
        obtain ⟨qd, hqd⟩ := HQ.out
        subst hqd
        clear HQ
        by_cases hklt : k < len
        · obtain ⟨q, hq⟩ : ∃ q, p.L[k]? = some q := ⟨_, List.getElem?_eq_getElem (by have := HLen.out; omega)⟩
          obtain ⟨d0, d1⟩ := HCell.out k q hq
          clear hq
          generalize q.1 = a at d0 d1
          have hk0 : (0 : Int) ≤ (k : Int) := by omega
          have hkn : (k : Int) < (len : Int) := by omega
          have hkt : ((k : Int)).toNat = k := by omega
          have hne : ((a : Int) != (a : Int)) = false := by simp
          go_wp2_with fail
          go_quiet (fail)
          go_wp2_with fail
          go_roundw
          case measure => simp [intOf]; omega
          case rel => exact ⟨k + 1, by omega, by go_num, Lib.hid ⟨_, rfl⟩⟩
        · have HB3 := Lib.hid (HBo.out.below (below_drewN (Below.refl _ _) qd))
          have HV1 := Lib.hid (HB3.out.voted HVV.out)
          have HV2 := Lib.hid (HB3.out.rvoted HR.out.inv V)
          generalize (((vot p.L V).getD 0 : Nat) : Int) = vn at HV1 HV2
          generalize (vot p.L V).isSome = vs at HV1 HV2
          have HFr : Hid (∃ os, Fr W (w3.drewN qd) os) := Lib.hid (by obtain ⟨_, _, _, _, hH⟩ := HB3.out; exact ⟨_, hH⟩)
          go_wp2_with (first | (go_at_call 13; refine HV1.out.mono ?_; rintro E w9 ⟨rfl, rfl⟩) | (go_at_call 14; refine HV2.out.mono ?_; rintro E w9 ⟨rfl, rfl⟩) | (go_at_call 7; obtain ⟨os, hf⟩ := HFr.out; refine (HW.out _ _ hf).mono ?_; rintro E w9 ⟨rfl, h⟩; have h2 := Lib.hid h; clear h))
          go_ret
          exact ⟨rfl, h2.out⟩
end Go.Proofs.Ytolpkoeojljfaaa
