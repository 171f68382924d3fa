/-
  What is proved: the document's own move. Conditions as stated.
  What is proved: the document's own Do. Conditions as stated.
-/
import Derived.Test.YtpageppjngbnpaaGreatDoorA7
namespace Go.Proofs.YtpageppjngbnpaaGreatDoor
open Go.RowKit
set_option maxRecDepth 100000

/-- While an operation is done: the ledger, and what the call has boxed. -/
structure RAt (w : World) (g : Nat) (r : Option Nat) (o : MOp) (W : World) (r' : Option Nat) (c' : Nat) (ys : List It) : Prop where
  led : RL W g r' c' ys
  own : Own w (On g r) W (On g r')
  op : W.heap[w.heap.size]? = some (.cells (opC o).toArray 38 (0, 0))
  res : W.heap[w.heap.size + 1]? = some (.cells [.int .i64 0, .string ByteArray.empty].toArray 33 (0, 0))
theorem RAt.start {w : World} {g : Nat} {r : Option Nat} {c : Nat} {xs : List It} (h : RL w g r c xs) (o : MOp) : RAt w g r o ((w.alloc (.cells (opC o).toArray 38)).alloc (.cells [.int .i64 0, .string ByteArray.empty].toArray 33)) r c xs := by
  have hb : Below w.heap.size w ((w.alloc (.cells (opC o).toArray 38)).alloc (.cells [.int .i64 0, .string ByteArray.empty].toArray 33)) := ((Below.refl _ _).alloc (Nat.le_refl _) _).alloc (by simp) _
  exact ⟨h.below hb, Own.same (Turns.of_below hb), one_new w _ _ _, two_new w _ _ _⟩
theorem RAt.apart {w : World} {g : Nat} {r : Option Nat} {o : MOp} {W : World} {r' : Option Nat} {c' : Nat} {ys : List It} (H : RAt w g r o W r' c' ys) {k : Nat} {C : Array Value} {t : TypeId} (hk : W.heap[k]? = some (.cells C t (0, 0))) (h1 : t ≠ 56) (h2 : t ≠ 83) : ¬ On g r' k := by
  rintro (rfl | rfl)
  · have e := H.led.top.symm.trans hk
    injection e with e
    injection e with e1 e2
    exact h1 e2.symm
  · obtain ⟨R, hB, _⟩ := H.led.row.blk
    have e := (show W.heap[k]? = _ from hB).symm.trans hk
    injection e with e
    injection e with e1 e2
    exact h2 e2.symm
theorem RAt.lt {w : World} {g : Nat} {r : Option Nat} {o : MOp} {W : World} {r' : Option Nat} {c' : Nat} {ys : List It} (H : RAt w g r o W r' c' ys) : w.heap.size + 1 < W.heap.size := (Array.getElem?_eq_some_iff.1 H.res).1
theorem RAt.below {w : World} {g : Nat} {r : Option Nat} {o : MOp} {W W' : World} {r' : Option Nat} {c' : Nat} {ys : List It} (H : RAt w g r o W r' c' ys) (hb : Below W.heap.size W W') : RAt w g r o W' r' c' ys :=
  ⟨H.led.below hb, ⟨H.own.1.trans (Turns.of_below hb), H.own.2⟩, (hb.block _ (by have := H.lt; omega)).trans H.op, (hb.block _ H.lt).trans H.res⟩
theorem RAt.next {w : World} {g : Nat} {r : Option Nat} {o : MOp} {W W' : World} {r' r'' : Option Nat} {c' c'' : Nat} {ys zs : List It} (H : RAt w g r o W r' c' ys) (hl : RL W' g r'' c'' zs) (ho : Own W (On g r') W' (On g r'')) : RAt w g r o W' r'' c'' zs :=
  ⟨hl, H.own.trans ho, (ho.1.block _ (by have := H.lt; omega) (H.apart H.op (by decide) (by decide))).trans H.op, (ho.1.block _ H.lt (H.apart H.res (by decide) (by decide))).trans H.res⟩
theorem RAt.cell {w : World} {g : Nat} {r : Option Nat} {o : MOp} {W : World} {r' : Option Nat} {c' : Nat} {ys : List It} (H : RAt w g r o W r' c' ys) (k : Nat) (v : Value) (hv : (opC o)[k]? = some v) : W.cell? ⟨w.heap.size, k, none⟩ = some v := block_cell H.op k v hv
theorem RAt.out {w : World} {g : Nat} {r : Option Nat} {o : MOp} {W : World} {r' : Option Nat} {c' : Nat} {ys : List It} (H : RAt w g r o W r' c' ys) : W.cell? ⟨w.heap.size + 1, 0, none⟩ = some (.int .i64 0) ∧ W.cell? ⟨w.heap.size + 1, 1, none⟩ = some (.string ByteArray.empty) ∧ W.frozen? ⟨w.heap.size + 1, 0, none⟩ = false ∧ W.frozen? ⟨w.heap.size + 1, 1, none⟩ = false :=
  ⟨block_cell H.res 0 _ rfl, block_cell H.res 1 _ rfl, free_block H.res 0, free_block H.res 1⟩
/-- What an operation leaves. -/
def ROpP (w : World) (g : Nat) (r : Option Nat) (q : Rep × List It) (E : Ending) (w' : World) : Prop := E = .returned (.agg (repC q.1).toArray) ∧ ∃ r' c', RL w' g r' c' q.2 ∧ Own w (On g r) w' (On g r')
theorem RAt.fin {w : World} {g : Nat} {r : Option Nat} {o : MOp} {W : World} {r' : Option Nat} {c' : Nat} {ys : List It} (H : RAt w g r o W r' c' ys) (x y : Value) :
    ((W.setCell ⟨w.heap.size + 1, 0, none⟩ x).setCell ⟨w.heap.size + 1, 1, none⟩ y).heap[w.heap.size + 1]? = some (.cells [x, y].toArray 33 (0, 0)) ∧ ∃ r' c', RL ((W.setCell ⟨w.heap.size + 1, 0, none⟩ x).setCell ⟨w.heap.size + 1, 1, none⟩ y) g r' c' ys ∧ Own w (On g r) ((W.setCell ⟨w.heap.size + 1, 0, none⟩ x).setCell ⟨w.heap.size + 1, 1, none⟩ y) (On g r') := by
  have ha := H.apart H.res (by decide) (by decide)
  refine ⟨pair_store H.res x y, r', c', H.led.kept fun k hk => ?_, (H.own.1.setCell (.inr (by omega)) _ _).setCell (.inr (by omega)) _ _, H.own.2⟩
  have hne : k ≠ w.heap.size + 1 := fun e => ha (e ▸ hk)
  rw [Below.heap_setCell _ ⟨w.heap.size + 1, 1, none⟩ _ k hne, Below.heap_setCell _ ⟨w.heap.size + 1, 0, none⟩ _ k hne]
theorem num_some {s : ByteArray} {z : Bool} (h : z = (numOf s).isSome) (hz : z = true) : numOf s = some (numV s) := by
  unfold numV
  cases e : numOf s with
  | none => rw [e] at h; rw [h] at hz; cases hz
  | some n => rfl
theorem num_no2 {s : ByteArray} {z : Bool} (h : z = (numOf s).isSome) (hz : z = false) : numOf s = none := by
  cases e : numOf s with
  | none => rfl
  | some n => rw [e] at h; rw [h] at hz; cases hz
set_option maxHeartbeats 8000000 in
theorem rmove_any {w : World} {g : Nat} {r : Option Nat} {c : Nat} {xs : List It} (h : RL w g r c xs) (hs : Rise xs) (hn : xs.length ≤ 900) (hsm : ∀ p ∈ xs, p.2.size ≤ 128) (o : MOp) (ham : o.amount ≤ topN) (hk : hasK xs o.key = true) :
    Calls Tryz.prog 79 #[.pointer (some ⟨g, 0, none⟩), .agg (opC o).toArray, .string (valK xs o.key)] w fun E w' => ROpP w g r (moveR xs o) E w' := by
  have H0 := Lib.hid (RAt.start h o)
  have HS := Lib.hid hs
  have HSm := Lib.hid hsm
  have HK := Lib.hid hk
  have htv : topN = 1125899906842624 := rfl
  have HNum : Hid (∀ k W, Calls Tryz.prog 92 #[.string (valK xs k)] W fun E w' => NumP (valK xs k) W E w') := Lib.hid fun k W => rnum_any (valK xs k) W (Nat.le_trans (val_small hsm k) (by omega))
  have HGet : Hid (∀ W r' c' (ys : List It), RL W g r' c' ys → ys.length ≤ 1000 → Calls Tryz.prog 76 #[.pointer (some ⟨g, 0, none⟩), .string o.to] W fun E w' => E = .returned (.tuple #[.string (valK ys o.to), .bool (hasK ys o.to)]) ∧ Below W.heap.size W w') := Lib.hid fun W r' c' ys h hn => rget_any h hn o.to
  have HDig := Lib.hid rdigits_any
  clear h hs hsm hk
  go_enter Tryz.func79, Tryz.ntmps79
  go_wp2_with (go_at_call 92; refine (HNum.out o.key _).mono ?_)
  rintro E w1 ⟨x1, rfl, hx1, _, b1⟩
  have H1 := Lib.hid (H0.out.below b1)
  have HX1 := Lib.hid hx1
  clear H0 b1 hx1
  have k4 : w1.cell? ⟨w.heap.size, 4, none⟩ = some (.string o.to) := H1.out.cell 4 _ rfl
  go_wp2_with (go_at_call 76; refine (HGet.out _ _ _ _ H1.out.led (by omega)).mono ?_)
  rintro E w2 ⟨rfl, b2⟩
  have H2 := Lib.hid (H1.out.below b2)
  clear H1 b2 k4
  go_wp2_with (go_at_call 92; refine (HNum.out o.to _).mono ?_)
  rintro E w3 ⟨x2, rfl, hx2, he2, b3⟩
  have H3 := Lib.hid (H2.out.below b3)
  have HX2 := Lib.hid hx2
  have HE2 := Lib.hid he2
  clear H2 b3 hx2 he2
  obtain ⟨z1, hz1⟩ : ∃ z, z = (numOf (valK xs o.key)).isSome := ⟨_, rfl⟩
  obtain ⟨z2, hz2⟩ : ∃ z, z = (numOf (valK xs o.to)).isSome := ⟨_, rfl⟩
  obtain ⟨hb, hhb⟩ : ∃ z, z = hasK xs o.to := ⟨_, rfl⟩
  have HZ1 := Lib.hid hz1
  have HZ2 := Lib.hid hz2
  have HB := Lib.hid hhb
  rw [← hz1] at HX1 ⊢
  rw [← hz2] at HX2 ⊢
  rw [← hhb]
  clear hz1 hz2 hhb
  have k5 : w3.cell? ⟨w.heap.size, 5, none⟩ = some (.int .u64 (o.amount : Int)) := H3.out.cell 5 _ rfl
  cases z1 with
  | false =>
    have HE : Hid (moveR xs o = (no 5, xs)) := Lib.hid (by
      rw [moveR, if_pos HK.out, num_no2 HZ1.out rfl])
    have HZ := Lib.hid (fun x y => H3.out.fin x y)
    obtain ⟨d0, d1, f0, f1⟩ := H3.out.out
    go_wp2_with fail
    (try simp only [Exit.inBlock, Exit.then]); refine bodyPost_ret (ret_range (g := w.heap.size + 1) rfl rfl (range_all (HZ.out _ _).1) Tryz.underlying33 rfl Tryz.is33) rfl ?_
    exact ⟨by rw [HE.out] <;> rfl, by rw [HE.out]; exact (HZ.out _ _).2⟩
  | true =>
    cases hb with
    | true =>
      cases z2 with
      | false =>
        have h1 : numOf (valK xs o.key) = some x1 := by rw [HX1.out rfl]; exact num_some HZ1.out rfl
        have HE : Hid (moveR xs o = (no 5, xs)) := Lib.hid (by
          rw [moveR, if_pos HK.out, h1, show numAt xs o.to = none from (by rw [numAt, if_pos HB.out.symm, num_no2 HZ2.out rfl])])
        have HZ := Lib.hid (fun x y => H3.out.fin x y)
        obtain ⟨d0, d1, f0, f1⟩ := H3.out.out
        go_wp2_with fail
        (try simp only [Exit.inBlock, Exit.then]); refine bodyPost_ret (ret_range (g := w.heap.size + 1) rfl rfl (range_all (HZ.out _ _).1) Tryz.underlying33 rfl Tryz.is33) rfl ?_
        exact ⟨by rw [HE.out] <;> rfl, by rw [HE.out]; exact (HZ.out _ _).2⟩
      | true =>
        have h1 : numOf (valK xs o.key) = some x1 := by rw [HX1.out rfl]; exact num_some HZ1.out rfl
        have hxt : x1 ≤ topN := (dec_of_num h1).2
        have h2 : numOf (valK xs o.to) = some x2 := by rw [HX2.out rfl]; exact num_some HZ2.out rfl
        have hxt2 : x2 ≤ topN := (dec_of_num h2).2
        by_cases hnA : x1 < o.amount
        · have hnI : (x1 : Int) < (o.amount : Int) := by omega
          have HE : Hid (moveR xs o = ((14, valK xs o.key), xs)) := Lib.hid (by
            rw [moveR, if_pos HK.out, h1, show numAt xs o.to = some x2 from (by rw [numAt, if_pos HB.out.symm, h2])]
            exact if_pos (show x1 < o.amount by omega))
          have HZ := Lib.hid (fun x y => H3.out.fin x y)
          obtain ⟨d0, d1, f0, f1⟩ := H3.out.out
          go_wp2_with fail
          (try simp only [Exit.inBlock, Exit.then]); refine bodyPost_ret (ret_range (g := w.heap.size + 1) rfl rfl (range_all (HZ.out _ _).1) Tryz.underlying33 rfl Tryz.is33) rfl ?_
          exact ⟨by rw [HE.out] <;> rfl, by rw [HE.out]; exact (HZ.out _ _).2⟩
        · have hnI : ¬ (x1 : Int) < (o.amount : Int) := by omega
          have hnJ : decide ((x1 : Int) < (o.amount : Int)) = false := decide_eq_false hnI
          have hwn : IntKind.u64.wrap ((x2 : Int) + (o.amount : Int)) = ((x2 + o.amount : Nat) : Int) := by rw [IntKind.wrap_u64]; omega
          by_cases htop : topN < x2 + o.amount
          · have htI : ((x2 + o.amount : Nat) : Int) > 1125899906842624 := by omega
            have htJ : 1125899906842624 < ((x2 + o.amount : Nat) : Int) := by omega
            have HE : Hid (moveR xs o = (no 6, xs)) := Lib.hid (by
              rw [moveR, if_pos HK.out, h1, show numAt xs o.to = some x2 from (by rw [numAt, if_pos HB.out.symm, h2])]
              exact (if_neg (show ¬ x1 < o.amount by omega)).trans (if_pos (show topN < x2 + o.amount by omega)))
            have HZ := Lib.hid (fun x y => H3.out.fin x y)
            obtain ⟨d0, d1, f0, f1⟩ := H3.out.out
            go_wp2_with fail
            (try simp only [Exit.inBlock, Exit.then]); refine bodyPost_ret (ret_range (g := w.heap.size + 1) rfl rfl (range_all (HZ.out _ _).1) Tryz.underlying33 rfl Tryz.is33) rfl ?_
            exact ⟨by rw [HE.out] <;> rfl, by rw [HE.out]; exact (HZ.out _ _).2⟩
          · have htI : ¬ ((x2 + o.amount : Nat) : Int) > 1125899906842624 := by omega
            have htJ : ¬ 1125899906842624 < ((x2 + o.amount : Nat) : Int) := by omega
            have htK : decide (1125899906842624 < ((x2 + o.amount : Nat) : Int)) = false := decide_eq_false htJ
            have hf : fullK xs o.to = false := full_has HB.out.symm
            have HE : Hid (moveR xs o = ((0, dec (x1 - o.amount)), setK (setK xs o.key (dec (x1 - o.amount))) o.to (dec (x2 + o.amount)))) := Lib.hid (by
              rw [moveR, if_pos HK.out, h1, show numAt xs o.to = some x2 from (by rw [numAt, if_pos HB.out.symm, h2])]
              exact (if_neg (show ¬ x1 < o.amount by omega)).trans ((if_neg (show ¬ topN < x2 + o.amount by omega)).trans (if_neg (show ¬ fullK xs o.to = true by rw [hf]; simp))))
            have hws : IntKind.u64.wrap ((x1 : Int) - (o.amount : Int)) = ((x1 - o.amount : Nat) : Int) := by rw [IntKind.wrap_u64]; omega
            have hlen1 : (setK xs o.key (dec (x1 - o.amount))).length ≤ 900 := by rw [length_setK, if_pos HK.out]; exact hn
            have HDd := Lib.hid (HDig.out (x1 - o.amount) (by omega))
            obtain ⟨L1, hL1⟩ : ∃ L, L = dec (x1 - o.amount) := ⟨_, rfl⟩
            rw [← hL1] at HE hlen1 HDd
            obtain ⟨X1, hX1⟩ : ∃ X, X = x1 - o.amount := ⟨_, rfl⟩
            rw [← hX1] at hws HDd
            have hsumlt : x2 + o.amount < 18446744073709551616 := by omega
            clear hL1 hX1
            go_wp2_with (go_at_call 93; refine (HDd.out _).mono ?_)
            rintro E w4 ⟨rfl, b4⟩
            have H4 := Lib.hid (H3.out.below b4)
            clear H3 b4 k5 HDd
            have k1 : w4.cell? ⟨w.heap.size, 1, none⟩ = some (.string o.key) := H4.out.cell 1 _ rfl
            go_wp2_with (go_at_call 77; refine (rset_any H4.out.led (by omega) o.key L1).mono ?_)
            rintro E w5 ⟨rfl, r5, c5, hl5, ho5⟩
            have H5 := Lib.hid (H4.out.next hl5 ho5)
            clear H4 hl5 ho5 k1
            go_wp2_with fail
            refine wp_region_any (by kernel_rfl) ?_
            refine held_gen (G := fun W => wpAny _ _ _ _ _ _ _ W) (fun W => RAt w g r o W r5 c5 (setK xs o.key L1)) (H5.out.below (below_drewN (Below.refl _ _) 1)) (fun W9 hW9 => ?_)
            have H6 := Lib.hid hW9
            clear hW9 H5
            refine wpAny_of_held (S := fun W => W.heap[w.heap.size]? = some (.cells (opC o).toArray 38 (0, 0))) _ _ _ _ ?_
            refine wpAnyH_take (i := 0) (oi := { dst := some 74, op := Op.move (Operand.tmp 0), type := 45, pos := "ref.go:159", after := #[], guard := none }) (v := .pointer (some ⟨g, 0, none⟩)) rfl (by kernel_rfl) (by kernel_rfl) (by kernel_rfl) (fun _ _ _ h => h) (Or.inl ⟨by kernel_rfl, fun W hSW => by go_simp⟩) (H6.out.op) ?_
            try simp only [Act.put, List.setIfInBounds_toArray, List.set_cons_zero, List.set_cons_succ]
            refine wpAnyH_take (i := 1) (oi := { dst := some 75, op := Op.fieldAddr 38 (Operand.tmp 4) 4, type := 0, pos := "ref.go:159", after := #[], guard := none }) (v := .pointer (some ⟨w.heap.size, 4, none⟩)) rfl (by kernel_rfl) (by kernel_rfl) (by kernel_rfl) (fun _ _ _ h => h) (Or.inl ⟨by kernel_rfl, fun W hSW => by go_simp⟩) (H6.out.op) ?_
            try simp only [Act.put, List.setIfInBounds_toArray, List.set_cons_zero, List.set_cons_succ]
            refine wpAnyH_take (i := 2) (oi := { dst := some 76, op := Op.load 9 (Operand.tmp 75), type := 9, pos := "ref.go:159", after := #[{ on := 1, ground := Ground.data }], guard := none }) (v := .string o.to) rfl (by kernel_rfl) (by kernel_rfl) (by kernel_rfl) (fun _ _ _ h => h) (Or.inl ⟨by kernel_rfl, fun W hSW => by have hc := block_cell (k := 4) hSW _ rfl; go_simp⟩) (H6.out.op) ?_
            try simp only [Act.put, List.setIfInBounds_toArray, List.set_cons_zero, List.set_cons_succ]
            refine wpAnyH_take (i := 3) (oi := { dst := some 77, op := Op.move (Operand.tmp 11), type := 36, pos := "ref.go:159", after := #[], guard := none }) (v := .int .u64 (x2 : Int)) rfl (by kernel_rfl) (by kernel_rfl) (by kernel_rfl) (fun _ _ _ h => h) (Or.inl ⟨by kernel_rfl, fun W hSW => by go_simp⟩) (H6.out.op) ?_
            try simp only [Act.put, List.setIfInBounds_toArray, List.set_cons_zero, List.set_cons_succ]
            refine wpAnyH_take (i := 4) (oi := { dst := some 78, op := Op.fieldAddr 38 (Operand.tmp 4) 5, type := 0, pos := "ref.go:159", after := #[], guard := none }) (v := .pointer (some ⟨w.heap.size, 5, none⟩)) rfl (by kernel_rfl) (by kernel_rfl) (by kernel_rfl) (fun _ _ _ h => h) (Or.inl ⟨by kernel_rfl, fun W hSW => by go_simp⟩) (H6.out.op) ?_
            try simp only [Act.put, List.setIfInBounds_toArray, List.set_cons_zero, List.set_cons_succ]
            refine wpAnyH_take (i := 5) (oi := { dst := some 79, op := Op.load 36 (Operand.tmp 78), type := 36, pos := "ref.go:159", after := #[{ on := 4, ground := Ground.data }], guard := none }) (v := .int .u64 (o.amount : Int)) rfl (by kernel_rfl) (by kernel_rfl) (by kernel_rfl) (fun _ _ _ h => h) (Or.inl ⟨by kernel_rfl, fun W hSW => by have hc := block_cell (k := 5) hSW _ rfl; go_simp⟩) (H6.out.op) ?_
            try simp only [Act.put, List.setIfInBounds_toArray, List.set_cons_zero, List.set_cons_succ]
            refine wpAnyH_take (i := 6) (oi := { dst := some 80, op := Op.binOp BinOp.add 36 (Operand.tmp 77) (Operand.tmp 79) 36, type := 36, pos := "ref.go:159", after := #[{ on := 3, ground := Ground.data }, { on := 5, ground := Ground.data }], guard := none }) (v := .int .u64 ((x2 + o.amount : Nat) : Int)) rfl (by kernel_rfl) (by kernel_rfl) (by kernel_rfl) (fun _ _ _ h => h) (Or.inl ⟨by kernel_rfl, fun W hSW => by go_simp⟩) (H6.out.op) ?_
            try simp only [Act.put, List.setIfInBounds_toArray, List.set_cons_zero, List.set_cons_succ]
            refine wpAnyH_ready (rs := [7]) (by kernel_rfl) (by simp) ?_
            refine AllReadyH.cons (o := { dst := some 81, op := Op.call { callee := Callee.value (Operand.func 93), args := #[Operand.tmp 80], argTypes := #[36] }, type := 9, pos := "ref.go:159", after := #[{ on := 6, ground := Ground.data }], guard := none }) rfl (fun K' hK' => ?_) AllReadyH.nil
            go_simp
            go_at_call 93
            refine (HDig.out (x2 + o.amount) (by omega) _).mono ?_
            rintro E w7 ⟨rfl, b7⟩
            have H7 := Lib.hid (H6.out.below b7)
            clear b7 H6
            refine hK'.out _ _ H7.out.op (fun _ => ?_)
            clear hK' K'
            try simp only [Act.put, List.setIfInBounds_toArray, List.set_cons_zero, List.set_cons_succ]
            refine wpAnyH_ready (rs := [8]) (by kernel_rfl) (by simp) ?_
            refine AllReadyH.cons (o := { dst := some 82, op := Op.call { callee := Callee.value (Operand.func 77), args := #[Operand.tmp 74, Operand.tmp 76, Operand.tmp 81], argTypes := #[45, 9, 9] }, type := 0, pos := "ref.go:159", after := #[{ on := 0, ground := Ground.data }, { on := 2, ground := Ground.data }, { on := 7, ground := Ground.data }, { on := 7, ground := Ground.chain }], guard := none }) rfl (fun K' hK' => ?_) AllReadyH.nil
            go_simp
            go_at_call 77
            refine (rset_any H7.out.led (by omega) o.to (dec (x2 + o.amount))).mono ?_
            rintro E w8 ⟨rfl, r8, c8, hl8, ho8⟩
            have H8 := Lib.hid (H7.out.next hl8 ho8)
            clear H7 hl8 ho8
            refine hK'.out _ _ H8.out.op (fun _ => ?_)
            clear hK' K'
            try simp only [Act.put, List.setIfInBounds_toArray, List.set_cons_zero, List.set_cons_succ]
            refine wpAnyH_done (by kernel_rfl) ?_ _
            have HZ := Lib.hid (fun x y => H8.out.fin x y)
            obtain ⟨d0, d1, f0, f1⟩ := H8.out.out
            go_wp2_with fail
            (try simp only [Exit.inBlock, Exit.then]); refine bodyPost_ret (ret_range (g := w.heap.size + 1) rfl rfl (range_all (HZ.out _ _).1) Tryz.underlying33 rfl Tryz.is33) rfl ?_
            exact ⟨by rw [HE.out]; rfl, by rw [HE.out]; exact (HZ.out _ _).2⟩
    | false =>
      have h1 : numOf (valK xs o.key) = some x1 := by rw [HX1.out rfl]; exact num_some HZ1.out rfl
      have hxt : x1 ≤ topN := (dec_of_num h1).2
      obtain rfl : x2 = 0 := HE2.out (val_none HB.out.symm)
      by_cases hnA : x1 < o.amount
      · have hnI : (x1 : Int) < (o.amount : Int) := by omega
        have HE : Hid (moveR xs o = ((14, valK xs o.key), xs)) := Lib.hid (by
          rw [moveR, if_pos HK.out, h1, show numAt xs o.to = some 0 from (by rw [numAt, ← HB.out]; rfl)]
          exact if_pos (show x1 < o.amount by omega))
        have HZ := Lib.hid (fun x y => H3.out.fin x y)
        obtain ⟨d0, d1, f0, f1⟩ := H3.out.out
        go_wp2_with fail
        (try simp only [Exit.inBlock, Exit.then]); refine bodyPost_ret (ret_range (g := w.heap.size + 1) rfl rfl (range_all (HZ.out _ _).1) Tryz.underlying33 rfl Tryz.is33) rfl ?_
        exact ⟨by rw [HE.out] <;> rfl, by rw [HE.out]; exact (HZ.out _ _).2⟩
      · have hnI : ¬ (x1 : Int) < (o.amount : Int) := by omega
        have hnJ : decide ((x1 : Int) < (o.amount : Int)) = false := decide_eq_false hnI
        have hwn : IntKind.u64.wrap (o.amount : Int) = (o.amount : Int) := by rw [IntKind.wrap_u64]; omega
        have htI : ¬ (o.amount : Int) > 1125899906842624 := by omega
        have htJ : ¬ 1125899906842624 < (o.amount : Int) := by omega
        have htK : decide (1125899906842624 < (o.amount : Int)) = false := decide_eq_false htJ
        have cg3 := H3.out.led.cell
        by_cases h64 : 64 ≤ xs.length
        · have h64a : (xs.length : Int) ≥ 64 := by omega
          have h64b : (64 : Int) ≤ (xs.length : Int) := by omega
          have HE : Hid (moveR xs o = (no 7, xs)) := Lib.hid (by
            rw [moveR, if_pos HK.out, h1, show numAt xs o.to = some 0 from (by rw [numAt, ← HB.out]; rfl)]
            exact (if_neg (show ¬ x1 < o.amount by omega)).trans ((if_neg (show ¬ topN < 0 + o.amount by omega)).trans (if_pos (show fullK xs o.to = true by rw [fullK, ← HB.out]; simp; omega))))
          have HZ := Lib.hid (fun x y => H3.out.fin x y)
          obtain ⟨d0, d1, f0, f1⟩ := H3.out.out
          go_wp2_with fail
          (try simp only [Exit.inBlock, Exit.then]); refine bodyPost_ret (ret_range (g := w.heap.size + 1) rfl rfl (range_all (HZ.out _ _).1) Tryz.underlying33 rfl Tryz.is33) rfl ?_
          exact ⟨by rw [HE.out] <;> rfl, by rw [HE.out]; exact (HZ.out _ _).2⟩
        · have h64a : ¬ (xs.length : Int) ≥ 64 := by omega
          have h64b : ¬ (64 : Int) ≤ (xs.length : Int) := by omega
          have h64c : (xs.length : Int) < 64 := by omega
          have hf : fullK xs o.to = false := by rw [fullK, ← HB.out]; simp; omega
          have HE : Hid (moveR xs o = ((0, dec (x1 - o.amount)), setK (setK xs o.key (dec (x1 - o.amount))) o.to (dec (0 + o.amount)))) := Lib.hid (by
            rw [moveR, if_pos HK.out, h1, show numAt xs o.to = some 0 from (by rw [numAt, ← HB.out]; rfl)]
            exact (if_neg (show ¬ x1 < o.amount by omega)).trans ((if_neg (show ¬ topN < 0 + o.amount by omega)).trans (if_neg (show ¬ fullK xs o.to = true by rw [hf]; simp))))
          have hws : IntKind.u64.wrap ((x1 : Int) - (o.amount : Int)) = ((x1 - o.amount : Nat) : Int) := by rw [IntKind.wrap_u64]; omega
          have hlen1 : (setK xs o.key (dec (x1 - o.amount))).length ≤ 900 := by rw [length_setK, if_pos HK.out]; exact hn
          have HDd := Lib.hid (HDig.out (x1 - o.amount) (by omega))
          obtain ⟨L1, hL1⟩ : ∃ L, L = dec (x1 - o.amount) := ⟨_, rfl⟩
          rw [← hL1] at HE hlen1 HDd
          obtain ⟨X1, hX1⟩ : ∃ X, X = x1 - o.amount := ⟨_, rfl⟩
          rw [← hX1] at hws HDd
          have hsumlt : 0 + o.amount < 18446744073709551616 := by omega
          clear hL1 hX1
          go_wp2_with (go_at_call 93; refine (HDd.out _).mono ?_)
          rintro E w4 ⟨rfl, b4⟩
          have H4 := Lib.hid (H3.out.below b4)
          clear H3 b4 k5 HDd
          have k1 : w4.cell? ⟨w.heap.size, 1, none⟩ = some (.string o.key) := H4.out.cell 1 _ rfl
          go_wp2_with (go_at_call 77; refine (rset_any H4.out.led (by omega) o.key L1).mono ?_)
          rintro E w5 ⟨rfl, r5, c5, hl5, ho5⟩
          have H5 := Lib.hid (H4.out.next hl5 ho5)
          clear H4 hl5 ho5 k1
          go_wp2_with fail
          refine wp_region_any (by kernel_rfl) ?_
          refine held_gen (G := fun W => wpAny _ _ _ _ _ _ _ W) (fun W => RAt w g r o W r5 c5 (setK xs o.key L1)) (H5.out.below (below_drewN (Below.refl _ _) 1)) (fun W9 hW9 => ?_)
          have H6 := Lib.hid hW9
          clear hW9 H5
          refine wpAny_of_held (S := fun W => W.heap[w.heap.size]? = some (.cells (opC o).toArray 38 (0, 0))) _ _ _ _ ?_
          refine wpAnyH_take (i := 0) (oi := { dst := some 74, op := Op.move (Operand.tmp 0), type := 45, pos := "ref.go:159", after := #[], guard := none }) (v := .pointer (some ⟨g, 0, none⟩)) rfl (by kernel_rfl) (by kernel_rfl) (by kernel_rfl) (fun _ _ _ h => h) (Or.inl ⟨by kernel_rfl, fun W hSW => by go_simp⟩) (H6.out.op) ?_
          try simp only [Act.put, List.setIfInBounds_toArray, List.set_cons_zero, List.set_cons_succ]
          refine wpAnyH_take (i := 1) (oi := { dst := some 75, op := Op.fieldAddr 38 (Operand.tmp 4) 4, type := 0, pos := "ref.go:159", after := #[], guard := none }) (v := .pointer (some ⟨w.heap.size, 4, none⟩)) rfl (by kernel_rfl) (by kernel_rfl) (by kernel_rfl) (fun _ _ _ h => h) (Or.inl ⟨by kernel_rfl, fun W hSW => by go_simp⟩) (H6.out.op) ?_
          try simp only [Act.put, List.setIfInBounds_toArray, List.set_cons_zero, List.set_cons_succ]
          refine wpAnyH_take (i := 2) (oi := { dst := some 76, op := Op.load 9 (Operand.tmp 75), type := 9, pos := "ref.go:159", after := #[{ on := 1, ground := Ground.data }], guard := none }) (v := .string o.to) rfl (by kernel_rfl) (by kernel_rfl) (by kernel_rfl) (fun _ _ _ h => h) (Or.inl ⟨by kernel_rfl, fun W hSW => by have hc := block_cell (k := 4) hSW _ rfl; go_simp⟩) (H6.out.op) ?_
          try simp only [Act.put, List.setIfInBounds_toArray, List.set_cons_zero, List.set_cons_succ]
          refine wpAnyH_take (i := 3) (oi := { dst := some 77, op := Op.move (Operand.tmp 11), type := 36, pos := "ref.go:159", after := #[], guard := none }) (v := .int .u64 0) rfl (by kernel_rfl) (by kernel_rfl) (by kernel_rfl) (fun _ _ _ h => h) (Or.inl ⟨by kernel_rfl, fun W hSW => by go_simp⟩) (H6.out.op) ?_
          try simp only [Act.put, List.setIfInBounds_toArray, List.set_cons_zero, List.set_cons_succ]
          refine wpAnyH_take (i := 4) (oi := { dst := some 78, op := Op.fieldAddr 38 (Operand.tmp 4) 5, type := 0, pos := "ref.go:159", after := #[], guard := none }) (v := .pointer (some ⟨w.heap.size, 5, none⟩)) rfl (by kernel_rfl) (by kernel_rfl) (by kernel_rfl) (fun _ _ _ h => h) (Or.inl ⟨by kernel_rfl, fun W hSW => by go_simp⟩) (H6.out.op) ?_
          try simp only [Act.put, List.setIfInBounds_toArray, List.set_cons_zero, List.set_cons_succ]
          refine wpAnyH_take (i := 5) (oi := { dst := some 79, op := Op.load 36 (Operand.tmp 78), type := 36, pos := "ref.go:159", after := #[{ on := 4, ground := Ground.data }], guard := none }) (v := .int .u64 (o.amount : Int)) rfl (by kernel_rfl) (by kernel_rfl) (by kernel_rfl) (fun _ _ _ h => h) (Or.inl ⟨by kernel_rfl, fun W hSW => by have hc := block_cell (k := 5) hSW _ rfl; go_simp⟩) (H6.out.op) ?_
          try simp only [Act.put, List.setIfInBounds_toArray, List.set_cons_zero, List.set_cons_succ]
          refine wpAnyH_take (i := 6) (oi := { dst := some 80, op := Op.binOp BinOp.add 36 (Operand.tmp 77) (Operand.tmp 79) 36, type := 36, pos := "ref.go:159", after := #[{ on := 3, ground := Ground.data }, { on := 5, ground := Ground.data }], guard := none }) (v := .int .u64 (o.amount : Int)) rfl (by kernel_rfl) (by kernel_rfl) (by kernel_rfl) (fun _ _ _ h => h) (Or.inl ⟨by kernel_rfl, fun W hSW => by go_simp⟩) (H6.out.op) ?_
          try simp only [Act.put, List.setIfInBounds_toArray, List.set_cons_zero, List.set_cons_succ]
          refine wpAnyH_ready (rs := [7]) (by kernel_rfl) (by simp) ?_
          refine AllReadyH.cons (o := { dst := some 81, op := Op.call { callee := Callee.value (Operand.func 93), args := #[Operand.tmp 80], argTypes := #[36] }, type := 9, pos := "ref.go:159", after := #[{ on := 6, ground := Ground.data }], guard := none }) rfl (fun K' hK' => ?_) AllReadyH.nil
          go_simp
          go_at_call 93
          refine (HDig.out o.amount (by omega) _).mono ?_
          rintro E w7 ⟨rfl, b7⟩
          have H7 := Lib.hid (H6.out.below b7)
          clear b7 H6
          refine hK'.out _ _ H7.out.op (fun _ => ?_)
          clear hK' K'
          try simp only [Act.put, List.setIfInBounds_toArray, List.set_cons_zero, List.set_cons_succ]
          refine wpAnyH_ready (rs := [8]) (by kernel_rfl) (by simp) ?_
          refine AllReadyH.cons (o := { dst := some 82, op := Op.call { callee := Callee.value (Operand.func 77), args := #[Operand.tmp 74, Operand.tmp 76, Operand.tmp 81], argTypes := #[45, 9, 9] }, type := 0, pos := "ref.go:159", after := #[{ on := 0, ground := Ground.data }, { on := 2, ground := Ground.data }, { on := 7, ground := Ground.data }, { on := 7, ground := Ground.chain }], guard := none }) rfl (fun K' hK' => ?_) AllReadyH.nil
          go_simp
          go_at_call 77
          refine (rset_any H7.out.led (by omega) o.to (dec o.amount)).mono ?_
          rintro E w8 ⟨rfl, r8, c8, hl8, ho8⟩
          have H8 := Lib.hid (H7.out.next hl8 ho8)
          clear H7 hl8 ho8
          refine hK'.out _ _ H8.out.op (fun _ => ?_)
          clear hK' K'
          try simp only [Act.put, List.setIfInBounds_toArray, List.set_cons_zero, List.set_cons_succ]
          refine wpAnyH_done (by kernel_rfl) ?_ _
          have HZ := Lib.hid (fun x y => H8.out.fin x y)
          obtain ⟨d0, d1, f0, f1⟩ := H8.out.out
          go_wp2_with fail
          (try simp only [Exit.inBlock, Exit.then]); refine bodyPost_ret (ret_range (g := w.heap.size + 1) rfl rfl (range_all (HZ.out _ _).1) Tryz.underlying33 rfl Tryz.is33) rfl ?_
          exact ⟨by rw [HE.out]; rfl, by rw [HE.out, Nat.zero_add]; exact (HZ.out _ _).2⟩
open Go.RowKit
set_option maxRecDepth 100000

theorem wp_app {w0 w : World} {o : Oper} {a : Act} {K : Act → World → Prop} {Q : Exit → Act → World → Prop} (s x : Operand)
    (ho : o.op = .call { callee := .builtin .append, args := #[s, x], argTypes := #[53, 53] }) {v : Value} {n : Nat} {C : List Value} (hs : a.eval s = v) (hown : w.ownsRow w0.heap.size 83 2 v n C) (hb : Below w0.heap.size w0 w)
    (ad : Addr) (m c : Nat) (news : List Value) (hx : a.eval x = .slice (some ad) m c) (hl : news.length = m * 2) (hnews : ∀ j u, news[j]? = some u → w.cell? (ad.add j) = some u) (h1 : ∀ u ∈ news, u.oneCell' = true) (h63 : n + m ≤ 4000)
    (h : ∀ v' w', w'.ownsRow w0.heap.size 83 2 v' (n + m) (C ++ news) → Below w0.heap.size w0 w' → K (a.put o.dst v') w') : o.wp Tryz.prog a w K Q := by
  obtain ⟨i0, hi0, hz0, hzs, hzb⟩ := info_parts Tryz.info83
  refine wp_append_own w s x 53 ho w0.heap.size 83 i0 _ 2 32 Tryz.underlying53 hi0 hz0 hzs hzb (by simp [Value.cells]) (by omega) v n C hs hown ad m c news hx hl hnews h1 (by unfold maxLen; omega) (by omega) hb.size ?_
  intro v' w' ho' hg _
  exact h v' w' ho' (hb.grown hg hb.size fun k hk => (hown.lt k hk).1)
set_option maxHeartbeats 8000000 in
theorem rdo_1 {w : World} {g : Nat} {r : Option Nat} {c : Nat} {xs : List It} (h : RL w g r c xs) (hs : Rise xs) (hn : xs.length ≤ 900) (hsm : ∀ p ∈ xs, p.2.size ≤ 128) (o : MOp) (hm : mayOp o = true) (hk : o.kind = 1) :
    Calls Tryz.prog 52 #[.pointer (some ⟨g, 0, none⟩), .agg (opC o).toArray] w fun E w' => ROpP w g r (doR xs o) E w' := by
  have H0 := Lib.hid (RAt.start h o)
  have HS := Lib.hid hs
  have HSm := Lib.hid hsm
  have HM : Hid (∀ W, Calls Tryz.prog 75 #[.agg (opC o).toArray] W fun E w' => E = .returned (.bool true) ∧ Below W.heap.size W w') := Lib.hid fun W => (rmay_any o W).mono fun E w' h => by rw [hm] at h; exact h
  have HGet : Hid (∀ W, RL W g r c xs → Calls Tryz.prog 76 #[.pointer (some ⟨g, 0, none⟩), .string o.key] W fun E w' => E = .returned (.tuple #[.string (valK xs o.key), .bool (hasK xs o.key)]) ∧ Below W.heap.size W w') := Lib.hid fun W h => rget_any h (by omega) o.key
  have HI : Hid ((Tryz.prog.info? 38).map (·.size) = some (opC o).length) := Lib.hid Tryz.is38
  have hd := do_kind (xs := xs) hm
  have HMay := Lib.hid hm
  clear h hs hsm hm
  go_enter Tryz.func52, Tryz.ntmps52
  go_wp2_with (first
    | ((with_reducible refine wpList_load_midG ?_ 38 (.tmp 3) ?_ w.heap.size 0 ?_ (opC o) _ ?_ Tryz.underlying38 ?_ ?_ ?_); rotate_left; (· rfl); (· rfl); (· exact range_all H0.out.op); (· rfl); (· exact HI.out); rotate_left; (· rfl))
    | (go_at_call 75; refine (HM.out _).mono ?_))
  rintro E w1 ⟨rfl, b1⟩
  have H1 := Lib.hid (H0.out.below b1)
  clear H0 b1 HM
  have k1 : w1.cell? ⟨w.heap.size, 1, none⟩ = some (.string o.key) := H1.out.cell 1 _ rfl
  go_wp2_with (go_at_call 76; refine (HGet.out _ H1.out.led).mono ?_)
  rintro E w2 ⟨rfl, b2⟩
  have H2 := Lib.hid (H1.out.below b2)
  clear H1 b2 HGet k1
  obtain ⟨z, hz⟩ : ∃ z, z = hasK xs o.key := ⟨_, rfl⟩
  have HZ0 := Lib.hid hz
  rw [← hz]
  clear hz
  have k0 : w2.cell? ⟨w.heap.size, 0, none⟩ = some (.int .u8 1) := by
    have := H2.out.cell 0 (.int .u8 (o.kind.toNat : Int)) rfl
    rw [hk] at this
    exact this
  cases z with
  | false =>
    have HE : Hid (doR xs o = (no 4, xs)) := Lib.hid (by rw [hd, hk]; show (getR xs o, xs) = _; rw [getR, ← HZ0.out]; rfl)
    have HZ := Lib.hid (fun x y => H2.out.fin x y)
    obtain ⟨d0, d1, f0, f1⟩ := H2.out.out
    go_wp2_with fail
    (try simp only [Exit.inBlock, Exit.then]); refine bodyPost_ret (ret_range (g := w.heap.size + 1) rfl rfl (range_all (HZ.out _ _).1) Tryz.underlying33 rfl Tryz.is33) rfl ?_
    exact ⟨by rw [HE.out] <;> rfl, by rw [HE.out]; exact (HZ.out _ _).2⟩
  | true =>
    have HE : Hid (doR xs o = ((0, valK xs o.key), xs)) := Lib.hid (by rw [hd, hk]; show (getR xs o, xs) = _; rw [getR, ← HZ0.out]; rfl)
    have HZ := Lib.hid (fun x y => H2.out.fin x y)
    obtain ⟨d0, d1, f0, f1⟩ := H2.out.out
    go_wp2_with fail
    (try simp only [Exit.inBlock, Exit.then]); refine bodyPost_ret (ret_range (g := w.heap.size + 1) rfl rfl (range_all (HZ.out _ _).1) Tryz.underlying33 rfl Tryz.is33) rfl ?_
    exact ⟨by rw [HE.out] <;> rfl, by rw [HE.out]; exact (HZ.out _ _).2⟩
set_option maxHeartbeats 8000000 in
theorem rdo_2 {w : World} {g : Nat} {r : Option Nat} {c : Nat} {xs : List It} (h : RL w g r c xs) (hs : Rise xs) (hn : xs.length ≤ 900) (hsm : ∀ p ∈ xs, p.2.size ≤ 128) (o : MOp) (hm : mayOp o = true) (hk : o.kind = 2) :
    Calls Tryz.prog 52 #[.pointer (some ⟨g, 0, none⟩), .agg (opC o).toArray] w fun E w' => ROpP w g r (doR xs o) E w' := by
  have H0 := Lib.hid (RAt.start h o)
  have HS := Lib.hid hs
  have HSm := Lib.hid hsm
  have HM : Hid (∀ W, Calls Tryz.prog 75 #[.agg (opC o).toArray] W fun E w' => E = .returned (.bool true) ∧ Below W.heap.size W w') := Lib.hid fun W => (rmay_any o W).mono fun E w' h => by rw [hm] at h; exact h
  have HGet : Hid (∀ W, RL W g r c xs → Calls Tryz.prog 76 #[.pointer (some ⟨g, 0, none⟩), .string o.key] W fun E w' => E = .returned (.tuple #[.string (valK xs o.key), .bool (hasK xs o.key)]) ∧ Below W.heap.size W w') := Lib.hid fun W h => rget_any h (by omega) o.key
  have HI : Hid ((Tryz.prog.info? 38).map (·.size) = some (opC o).length) := Lib.hid Tryz.is38
  have hd := do_kind (xs := xs) hm
  have HMay := Lib.hid hm
  clear h hs hsm hm
  go_enter Tryz.func52, Tryz.ntmps52
  go_wp2_with (first
    | ((with_reducible refine wpList_load_midG ?_ 38 (.tmp 3) ?_ w.heap.size 0 ?_ (opC o) _ ?_ Tryz.underlying38 ?_ ?_ ?_); rotate_left; (· rfl); (· rfl); (· exact range_all H0.out.op); (· rfl); (· exact HI.out); rotate_left; (· rfl))
    | (go_at_call 75; refine (HM.out _).mono ?_))
  rintro E w1 ⟨rfl, b1⟩
  have H1 := Lib.hid (H0.out.below b1)
  clear H0 b1 HM
  have k1 : w1.cell? ⟨w.heap.size, 1, none⟩ = some (.string o.key) := H1.out.cell 1 _ rfl
  go_wp2_with (go_at_call 76; refine (HGet.out _ H1.out.led).mono ?_)
  rintro E w2 ⟨rfl, b2⟩
  have H2 := Lib.hid (H1.out.below b2)
  clear H1 b2 HGet k1
  obtain ⟨z, hz⟩ : ∃ z, z = hasK xs o.key := ⟨_, rfl⟩
  have HZ0 := Lib.hid hz
  rw [← hz]
  clear hz
  have k0 : w2.cell? ⟨w.heap.size, 0, none⟩ = some (.int .u8 2) := by
    have := H2.out.cell 0 (.int .u8 (o.kind.toNat : Int)) rfl
    rw [hk] at this
    exact this
  have cg := H2.out.led.cell
  cases z with
  | false =>
    by_cases h64 : 64 ≤ xs.length
    · have h64a : (xs.length : Int) ≥ 64 := by omega
      have h64b : (64 : Int) ≤ (xs.length : Int) := by omega
      have HE : Hid (doR xs o = (no 7, xs)) := Lib.hid (by rw [hd, hk]; show putR xs o = _; rw [putR, fullK, ← HZ0.out, decide_eq_true h64]; rfl)
      have HZ := Lib.hid (fun x y => H2.out.fin x y)
      obtain ⟨d0, d1, f0, f1⟩ := H2.out.out
      go_wp2_with fail
      (try simp only [Exit.inBlock, Exit.then]); refine bodyPost_ret (ret_range (g := w.heap.size + 1) rfl rfl (range_all (HZ.out _ _).1) Tryz.underlying33 rfl Tryz.is33) rfl ?_
      exact ⟨by rw [HE.out] <;> rfl, by rw [HE.out]; exact (HZ.out _ _).2⟩
    · have h64a : ¬ (xs.length : Int) ≥ 64 := by omega
      have h64b : ¬ (64 : Int) ≤ (xs.length : Int) := by omega
      have h64c : (xs.length : Int) < 64 := by omega
      have HE : Hid (doR xs o = (no 0, setK xs o.key o.value)) := Lib.hid (by rw [hd, hk]; show putR xs o = _; rw [putR, fullK, ← HZ0.out, decide_eq_false h64]; rfl)
      have hlen1 : xs.length ≤ 1000 := by omega
      have k1 : w2.cell? ⟨w.heap.size, 1, none⟩ = some (.string o.key) := H2.out.cell 1 _ rfl
      have k2 : w2.cell? ⟨w.heap.size, 2, none⟩ = some (.string o.value) := H2.out.cell 2 _ rfl
      go_wp2_with (go_at_call 77; refine (rset_any H2.out.led hlen1 o.key o.value).mono ?_)
      rintro E w3 ⟨rfl, r3, c3, hl3, ho3⟩
      have H3 := Lib.hid (H2.out.next hl3 ho3)
      clear H2 hl3 ho3
      have HZ := Lib.hid (fun x y => H3.out.fin x y)
      obtain ⟨d0, d1, f0, f1⟩ := H3.out.out
      go_wp2_with fail
      (try simp only [Exit.inBlock, Exit.then]); refine bodyPost_ret (ret_range (g := w.heap.size + 1) rfl rfl (range_all (HZ.out _ _).1) Tryz.underlying33 rfl Tryz.is33) rfl ?_
      exact ⟨by rw [HE.out] <;> rfl, by rw [HE.out]; exact (HZ.out _ _).2⟩
  | true =>
    have HE : Hid (doR xs o = (no 0, setK xs o.key o.value)) := Lib.hid (by rw [hd, hk]; show putR xs o = _; rw [putR, fullK, ← HZ0.out]; rfl)
    have hlen1 : xs.length ≤ 1000 := by omega
    have k1 : w2.cell? ⟨w.heap.size, 1, none⟩ = some (.string o.key) := H2.out.cell 1 _ rfl
    have k2 : w2.cell? ⟨w.heap.size, 2, none⟩ = some (.string o.value) := H2.out.cell 2 _ rfl
    go_wp2_with (go_at_call 77; refine (rset_any H2.out.led hlen1 o.key o.value).mono ?_)
    rintro E w3 ⟨rfl, r3, c3, hl3, ho3⟩
    have H3 := Lib.hid (H2.out.next hl3 ho3)
    clear H2 hl3 ho3
    have HZ := Lib.hid (fun x y => H3.out.fin x y)
    obtain ⟨d0, d1, f0, f1⟩ := H3.out.out
    go_wp2_with fail
    (try simp only [Exit.inBlock, Exit.then]); refine bodyPost_ret (ret_range (g := w.heap.size + 1) rfl rfl (range_all (HZ.out _ _).1) Tryz.underlying33 rfl Tryz.is33) rfl ?_
    exact ⟨by rw [HE.out] <;> rfl, by rw [HE.out]; exact (HZ.out _ _).2⟩
set_option maxHeartbeats 8000000 in
theorem rdo_4 {w : World} {g : Nat} {r : Option Nat} {c : Nat} {xs : List It} (h : RL w g r c xs) (hs : Rise xs) (hn : xs.length ≤ 900) (hsm : ∀ p ∈ xs, p.2.size ≤ 128) (o : MOp) (hm : mayOp o = true) (hk : o.kind = 4) :
    Calls Tryz.prog 52 #[.pointer (some ⟨g, 0, none⟩), .agg (opC o).toArray] w fun E w' => ROpP w g r (doR xs o) E w' := by
  have H0 := Lib.hid (RAt.start h o)
  have HS := Lib.hid hs
  have HSm := Lib.hid hsm
  have HM : Hid (∀ W, Calls Tryz.prog 75 #[.agg (opC o).toArray] W fun E w' => E = .returned (.bool true) ∧ Below W.heap.size W w') := Lib.hid fun W => (rmay_any o W).mono fun E w' h => by rw [hm] at h; exact h
  have HGet : Hid (∀ W, RL W g r c xs → Calls Tryz.prog 76 #[.pointer (some ⟨g, 0, none⟩), .string o.key] W fun E w' => E = .returned (.tuple #[.string (valK xs o.key), .bool (hasK xs o.key)]) ∧ Below W.heap.size W w') := Lib.hid fun W h => rget_any h (by omega) o.key
  have HI : Hid ((Tryz.prog.info? 38).map (·.size) = some (opC o).length) := Lib.hid Tryz.is38
  have hd := do_kind (xs := xs) hm
  have HMay := Lib.hid hm
  clear h hs hsm hm
  go_enter Tryz.func52, Tryz.ntmps52
  go_wp2_with (first
    | ((with_reducible refine wpList_load_midG ?_ 38 (.tmp 3) ?_ w.heap.size 0 ?_ (opC o) _ ?_ Tryz.underlying38 ?_ ?_ ?_); rotate_left; (· rfl); (· rfl); (· exact range_all H0.out.op); (· rfl); (· exact HI.out); rotate_left; (· rfl))
    | (go_at_call 75; refine (HM.out _).mono ?_))
  rintro E w1 ⟨rfl, b1⟩
  have H1 := Lib.hid (H0.out.below b1)
  clear H0 b1 HM
  have k1 : w1.cell? ⟨w.heap.size, 1, none⟩ = some (.string o.key) := H1.out.cell 1 _ rfl
  go_wp2_with (go_at_call 76; refine (HGet.out _ H1.out.led).mono ?_)
  rintro E w2 ⟨rfl, b2⟩
  have H2 := Lib.hid (H1.out.below b2)
  clear H1 b2 HGet k1
  obtain ⟨z, hz⟩ : ∃ z, z = hasK xs o.key := ⟨_, rfl⟩
  have HZ0 := Lib.hid hz
  rw [← hz]
  clear hz
  have k0 : w2.cell? ⟨w.heap.size, 0, none⟩ = some (.int .u8 4) := by
    have := H2.out.cell 0 (.int .u8 (o.kind.toNat : Int)) rfl
    rw [hk] at this
    exact this
  cases z with
  | false =>
    have HE : Hid (doR xs o = (no 4, xs)) := Lib.hid (by rw [hd, hk]; show swapR xs o = _; rw [swapR, ← HZ0.out]; rfl)
    have HZ := Lib.hid (fun x y => H2.out.fin x y)
    obtain ⟨d0, d1, f0, f1⟩ := H2.out.out
    go_wp2_with fail
    (try simp only [Exit.inBlock, Exit.then]); refine bodyPost_ret (ret_range (g := w.heap.size + 1) rfl rfl (range_all (HZ.out _ _).1) Tryz.underlying33 rfl Tryz.is33) rfl ?_
    exact ⟨by rw [HE.out] <;> rfl, by rw [HE.out]; exact (HZ.out _ _).2⟩
  | true =>
    have k3 : w2.cell? ⟨w.heap.size, 3, none⟩ = some (.string o.old) := H2.out.cell 3 _ rfl
    by_cases ho : valK xs o.key = o.old
    · have ho' : ((valK xs o.key).toList == o.old.toList) = true := by rw [ho]; simp
      have HE : Hid (doR xs o = (no 0, setK xs o.key o.value)) := Lib.hid (by rw [hd, hk]; show swapR xs o = _; rw [swapR, ← HZ0.out, if_pos rfl, if_pos ho])
      have hlen1 : xs.length ≤ 1000 := by omega
      have k1 : w2.cell? ⟨w.heap.size, 1, none⟩ = some (.string o.key) := H2.out.cell 1 _ rfl
      have k2 : w2.cell? ⟨w.heap.size, 2, none⟩ = some (.string o.value) := H2.out.cell 2 _ rfl
      go_wp2_with (go_at_call 77; refine (rset_any H2.out.led hlen1 o.key o.value).mono ?_)
      rintro E w3 ⟨rfl, r3, c3, hl3, ho3⟩
      have H3 := Lib.hid (H2.out.next hl3 ho3)
      clear H2 hl3 ho3
      have HZ := Lib.hid (fun x y => H3.out.fin x y)
      obtain ⟨d0, d1, f0, f1⟩ := H3.out.out
      go_wp2_with fail
      (try simp only [Exit.inBlock, Exit.then]); refine bodyPost_ret (ret_range (g := w.heap.size + 1) rfl rfl (range_all (HZ.out _ _).1) Tryz.underlying33 rfl Tryz.is33) rfl ?_
      exact ⟨by rw [HE.out] <;> rfl, by rw [HE.out]; exact (HZ.out _ _).2⟩
    · have ho' : ((valK xs o.key).toList == o.old.toList) = false := by
        cases h : (valK xs o.key).toList == o.old.toList with
        | false => rfl
        | true => exact absurd (toList_inj (by simpa using h)) ho
      have HE : Hid (doR xs o = ((15, valK xs o.key), xs)) := Lib.hid (by rw [hd, hk]; show swapR xs o = _; rw [swapR, ← HZ0.out, if_pos rfl, if_neg ho])
      have HZ := Lib.hid (fun x y => H2.out.fin x y)
      obtain ⟨d0, d1, f0, f1⟩ := H2.out.out
      go_wp2_with fail
      (try simp only [Exit.inBlock, Exit.then]); refine bodyPost_ret (ret_range (g := w.heap.size + 1) rfl rfl (range_all (HZ.out _ _).1) Tryz.underlying33 rfl Tryz.is33) rfl ?_
      exact ⟨by rw [HE.out] <;> rfl, by rw [HE.out]; exact (HZ.out _ _).2⟩
set_option maxHeartbeats 8000000 in
theorem rdo_5 {w : World} {g : Nat} {r : Option Nat} {c : Nat} {xs : List It} (h : RL w g r c xs) (hs : Rise xs) (hn : xs.length ≤ 900) (hsm : ∀ p ∈ xs, p.2.size ≤ 128) (o : MOp) (hm : mayOp o = true) (hk : o.kind = 5) :
    Calls Tryz.prog 52 #[.pointer (some ⟨g, 0, none⟩), .agg (opC o).toArray] w fun E w' => ROpP w g r (doR xs o) E w' := by
  have H0 := Lib.hid (RAt.start h o)
  have HS := Lib.hid hs
  have HSm := Lib.hid hsm
  have HM : Hid (∀ W, Calls Tryz.prog 75 #[.agg (opC o).toArray] W fun E w' => E = .returned (.bool true) ∧ Below W.heap.size W w') := Lib.hid fun W => (rmay_any o W).mono fun E w' h => by rw [hm] at h; exact h
  have HGet : Hid (∀ W, RL W g r c xs → Calls Tryz.prog 76 #[.pointer (some ⟨g, 0, none⟩), .string o.key] W fun E w' => E = .returned (.tuple #[.string (valK xs o.key), .bool (hasK xs o.key)]) ∧ Below W.heap.size W w') := Lib.hid fun W h => rget_any h (by omega) o.key
  have HI : Hid ((Tryz.prog.info? 38).map (·.size) = some (opC o).length) := Lib.hid Tryz.is38
  have hd := do_kind (xs := xs) hm
  have HMay := Lib.hid hm
  clear h hs hsm hm
  go_enter Tryz.func52, Tryz.ntmps52
  go_wp2_with (first
    | ((with_reducible refine wpList_load_midG ?_ 38 (.tmp 3) ?_ w.heap.size 0 ?_ (opC o) _ ?_ Tryz.underlying38 ?_ ?_ ?_); rotate_left; (· rfl); (· rfl); (· exact range_all H0.out.op); (· rfl); (· exact HI.out); rotate_left; (· rfl))
    | (go_at_call 75; refine (HM.out _).mono ?_))
  rintro E w1 ⟨rfl, b1⟩
  have H1 := Lib.hid (H0.out.below b1)
  clear H0 b1 HM
  have k1 : w1.cell? ⟨w.heap.size, 1, none⟩ = some (.string o.key) := H1.out.cell 1 _ rfl
  go_wp2_with (go_at_call 76; refine (HGet.out _ H1.out.led).mono ?_)
  rintro E w2 ⟨rfl, b2⟩
  have H2 := Lib.hid (H1.out.below b2)
  clear H1 b2 HGet k1
  obtain ⟨z, hz⟩ : ∃ z, z = hasK xs o.key := ⟨_, rfl⟩
  have HZ0 := Lib.hid hz
  rw [← hz]
  clear hz
  have k0 : w2.cell? ⟨w.heap.size, 0, none⟩ = some (.int .u8 5) := by
    have := H2.out.cell 0 (.int .u8 (o.kind.toNat : Int)) rfl
    rw [hk] at this
    exact this
  cases z with
  | false =>
    have HE : Hid (doR xs o = (no 4, xs)) := Lib.hid (by rw [hd, hk]; show moveR xs o = _; rw [moveR, ← HZ0.out]; rfl)
    have HZ := Lib.hid (fun x y => H2.out.fin x y)
    obtain ⟨d0, d1, f0, f1⟩ := H2.out.out
    go_wp2_with fail
    (try simp only [Exit.inBlock, Exit.then]); refine bodyPost_ret (ret_range (g := w.heap.size + 1) rfl rfl (range_all (HZ.out _ _).1) Tryz.underlying33 rfl Tryz.is33) rfl ?_
    exact ⟨by rw [HE.out] <;> rfl, by rw [HE.out]; exact (HZ.out _ _).2⟩
  | true =>
    have ham := (may_val HMay.out).2
    have HMv := Lib.hid (rmove_any H2.out.led HS.out hn HSm.out o ham HZ0.out.symm)
    go_wp2_with (first
      | ((with_reducible refine wpList_load_midG ?_ 38 (.tmp 3) ?_ w.heap.size 0 ?_ (opC o) _ ?_ Tryz.underlying38 ?_ ?_ ?_); rotate_left; (· rfl); (· rfl); (· exact range_all H2.out.op); (· rfl); (· exact HI.out); rotate_left; (· rfl))
      | (go_at_call 79; refine HMv.out.mono ?_))
    rintro E w3 ⟨rfl, r3, c3, hl3, ho3⟩
    have H3 := Lib.hid (H2.out.next hl3 ho3)
    clear H2 hl3 ho3 HMv
    obtain ⟨q, hq⟩ : ∃ q, q = moveR xs o := ⟨_, rfl⟩
    rw [← hq] at H3 ⊢
    obtain ⟨⟨e, s⟩, ys⟩ := q
    rw [show (repC ((e, s), ys).1).toArray = #[.int .i64 (e : Int), .string s] from rfl]
    have HE : Hid (doR xs o = ((e, s), ys)) := Lib.hid (by rw [hd, hk]; exact hq.symm)
    clear hq
    have HZ := Lib.hid (fun x y => H3.out.fin x y)
    obtain ⟨d0, d1, f0, f1⟩ := H3.out.out
    go_wp2_with fail
    (try simp only [Exit.inBlock, Exit.then]); refine bodyPost_ret (ret_range (g := w.heap.size + 1) rfl rfl (range_all (HZ.out _ _).1) Tryz.underlying33 rfl Tryz.is33) rfl ?_
    exact ⟨by rw [HE.out] <;> rfl, by rw [HE.out]; exact (HZ.out _ _).2⟩
end Go.Proofs.YtpageppjngbnpaaGreatDoor
