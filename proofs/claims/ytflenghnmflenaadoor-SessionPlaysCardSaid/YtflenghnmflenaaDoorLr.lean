/-
  What is proved: Do, of a ledger and of none. Conditions as stated.
-/
import Derived.Test.YtflenghnmflenaaDoorLq
namespace Go.Proofs.YtflenghnmflenaaDoor
open Go.RowKit
set_option maxRecDepth 100000

/-- A ledger in a world in which the library's variables lie. -/
structure Sys (w : World) (g : Nat) (r : Option Nat) (c : Nat) (xs : List It) : Prop where
  led : Led w g r c xs
  vars : Vars w
  low : ∀ k, On g r k → 4 ≤ k
  rise : Rise xs
  len : xs.length ≤ 64
  small : ∀ p ∈ xs, p.2.size ≤ 128
theorem val_small {xs : List It} (h : ∀ p ∈ xs, p.2.size ≤ 128) (k : ByteArray) : (valK xs k).size ≤ 128 := by
  unfold valK
  cases hx : xs[posOf xs k]? with
  | none => exact Nat.zero_le _
  | some p =>
    show (if p.1 = k then p.2 else ByteArray.empty).size ≤ 128
    split
    · exact h p (List.mem_of_getElem? hx)
    · exact Nat.zero_le _
theorem dec_size {n : Nat} (h : n < 18446744073709551616) : (dec n).size ≤ 20 := by
  have e : (dec n).size = Lib.nDigits n := by
    have : (dec n).size = (Lib.decDigits n).length := by simp [dec, ByteArray.size]
    rw [this, Lib.decDigits_length]
  rw [e]
  by_cases h0 : 1 ≤ n
  · have := Lib.numDigits_eq n h0 h
    split at this <;> omega
  · have : n = 0 := by omega
    subst this
    rw [Lib.nDigits_small (by omega)]
    omega
theorem may_val {o : MOp} (h : mayOp o = true) : o.value.size ≤ 128 ∧ o.amount ≤ topN := by
  unfold mayOp at h
  rw [Bool.and_eq_true, Bool.and_eq_true, decide_eq_true_eq] at h
  obtain ⟨h1, _, h2, _, _, h5⟩ := h
  unfold ownOp at h1 h2 h5
  dsimp only at h1 h2 h5
  split at h1
  · rename_i e
    rw [if_pos e] at h2 h5
    rw [← h2, ← h5]
    exact ⟨Nat.zero_le _, Nat.zero_le _⟩
  · rename_i e
    rw [if_neg e] at h2 h5
    split at h1
    · rename_i e2
      rw [if_pos e2] at h5
      rw [← h5]
      exact ⟨by simpa [mayV] using h1, Nat.zero_le _⟩
    · rename_i e2
      rw [if_neg e2] at h2 h5
      split at h1
      · rename_i e3
        rw [if_pos e3] at h5
        rw [← h5]
        rw [Bool.and_eq_true] at h1
        exact ⟨by simpa [mayV] using h1.2, Nat.zero_le _⟩
      · rename_i e3
        rw [if_neg e3] at h2 h5
        split at h1
        · rename_i e4
          rw [if_pos e4] at h2
          rw [← h2]
          simp only [Bool.and_eq_true, decide_eq_true_eq] at h1
          exact ⟨Nat.zero_le _, h1.2.2.2⟩
        · cases h1
theorem may_kind {o : MOp} (h : mayOp o = true) : o.kind = 1 ∨ o.kind = 2 ∨ o.kind = 3 ∨ o.kind = 4 ∨ o.kind = 5 := by
  unfold mayOp at h
  rw [Bool.and_eq_true] at h
  have h1 := h.1
  unfold ownOp at h1
  dsimp only at h1
  split at h1
  · rename_i e
    rcases e with e | e
    · exact .inl e
    · exact .inr (.inr (.inl e))
  · split at h1
    · exact .inr (.inl ‹_›)
    · split at h1
      · exact .inr (.inr (.inr (.inl ‹_›)))
      · split at h1
        · exact .inr (.inr (.inr (.inr ‹_›)))
        · cases h1
theorem set_small {xs : List It} (h : ∀ p ∈ xs, p.2.size ≤ 128) {k v : ByteArray} (hv : v.size ≤ 128) : ∀ p ∈ setK xs k v, p.2.size ≤ 128 := fun p hp => by
  rcases mem_set hp with rfl | hp
  · exact hv
  · exact h p hp
theorem do_small {xs : List It} (h : ∀ p ∈ xs, p.2.size ≤ 128) (o : MOp) : ∀ p ∈ (doR xs o).2, p.2.size ≤ 128 := by
  unfold doR
  split
  · rename_i hm
    have hv := (may_val hm).1
    have ha := (may_val hm).2
    have hd : ∀ p ∈ delK xs o.key, p.2.size ≤ 128 := fun p hp => by
      unfold delK at hp
      rcases List.mem_append.1 hp with hp | hp
      · exact h p (List.mem_of_mem_take hp)
      · exact h p (List.mem_of_mem_drop hp)
    unfold putR delR swapR moveR
    unfold topN at ha
    repeat' split
    all_goals first
      | exact h
      | exact set_small h hv
      | exact hd
      | skip
    all_goals
      rename_i a b e1 e2 _ h3 _
      have ha1 : a ≤ topN := (dec_of_num e1).2
      unfold topN at ha1 h3
      exact set_small (set_small h (Nat.le_trans (dec_size (by omega)) (by omega))) (Nat.le_trans (dec_size (by omega)) (by omega))
  · exact h
def DoP (w : World) (g : Nat) (r : Option Nat) (xs : List It) (o : MOp) (E : Ending) (w' : World) : Prop :=
  E = .returned (.agg (repC (doR xs o).1).toArray) ∧ ∃ r' c', Sys w' g r' c' (doR xs o).2 ∧ Own w (On g r) w' (On g r')
theorem Sys.next {w w' : World} {g : Nat} {r r' : Option Nat} {c c' : Nat} {xs : List It} (h : Sys w g r c xs) (o : MOp) (hl : Led w' g r' c' (doR xs o).2) (ho : Own w (On g r) w' (On g r')) : Sys w' g r' c' (doR xs o).2 :=
  ⟨hl, h.vars.kept fun k hk => ho.1.block k (by have := h.vars.low; omega) fun e => by have := h.low k e; omega, fun k hk => by
    rcases ho.2 k hk with e | e
    · exact h.low k e
    · have := h.vars.low; omega, do_rise h.rise o, do_len h.len h.rise o, do_small h.small o⟩
theorem do_core {w : World} {g : Nat} {r : Option Nat} {c : Nat} {xs : List It} (h : Sys w g r c xs) (o : MOp) : Calls Tryd.prog 26 #[.pointer (some ⟨g, 0, none⟩), .agg (opC o).toArray] w fun E w' => OpP w g r (doR xs o) E w' := by
  have hn : xs.length ≤ 900 := Nat.le_trans h.len (by omega)
  cases hm : mayOp o with
  | true =>
    have hle : ∀ {W : World}, At w g r o W r c xs → Led W g r c xs := fun H => H.led
    have d1 : doR xs o = if o.kind = 1 then (getR xs o, xs) else if o.kind = 2 then putR xs o else if o.kind = 3 then delR xs o else if o.kind = 4 then swapR xs o else moveR xs o := by rw [doR, if_pos hm]
    rcases may_kind hm with e | e | e | e | e
    · rw [d1, if_pos e]
      exact do_1 h.led o (by rw [e]; rfl) hm _ fun W H => get_any H.led h.rise hn o
    · rw [d1, if_neg (by rw [e]; decide), if_pos e]
      exact do_2 h.led o (by rw [e]; rfl) hm _ fun W H => put_any H.led h.rise hn o
    · rw [d1, if_neg (by rw [e]; decide), if_neg (by rw [e]; decide), if_pos e]
      exact do_3 h.led o (by rw [e]; rfl) hm _ fun W H => remove_any H.led h.rise hn o
    · rw [d1, if_neg (by rw [e]; decide), if_neg (by rw [e]; decide), if_neg (by rw [e]; decide), if_pos e]
      exact do_4 h.led o (by rw [e]; rfl) hm _ fun W H => swap_any H.led h.rise hn o
    · rw [d1, if_neg (by rw [e]; decide), if_neg (by rw [e]; decide), if_neg (by rw [e]; decide), if_neg (by rw [e]; decide)]
      exact do_5 h.led o (by rw [e]; rfl) hm _ fun W H => move_any H.led h.rise hn o (may_val hm).2 (fun k => Nat.le_trans (val_small h.small k) (by omega)) (H.vars h.vars h.low) h.low
  | false =>
    have hd : doR xs o = (no 1, xs) := by rw [doR, hm]; rfl
    rw [hd]
    have H0 := Lib.hid (At.start h.led o)
    have HM : Hid (∀ W, Calls Tryd.prog 33 #[.agg (opC o).toArray] W fun E w' => E = .returned (.bool false) ∧ Below W.heap.size W w') := Lib.hid fun W => (may_any o W).mono fun E w' h => by rw [hm] at h; exact h
    have HI : Hid ((Tryd.prog.info? 49).map (·.size) = some (opC o).length) := Lib.hid Tryd.is49
    clear hd hm h hn
    go_enter Tryd.func26, Tryd.ntmps26
    go_wp2_with (first
      | ((with_reducible refine wpList_load_midG ?_ 49 (.tmp 3) ?_ w.heap.size 0 ?_ (opC o) _ ?_ Tryd.underlying49 ?_ ?_ ?_); rotate_left; (· rfl); (· rfl); (· exact range_all H0.out.op); (· rfl); (· exact HI.out); rotate_left; (· rfl))
      | (go_at_call 33; refine (HM.out _).mono ?_))
    rintro E w1 ⟨rfl, b1⟩
    have H1 := Lib.hid (H0.out.below b1)
    clear H0 b1
    go_wp2_with (go_at_call 32; refine (refused_any 1 _).mono ?_)
    rintro E w2 ⟨rfl, b2⟩
    have H2 := Lib.hid (H1.out.below b2)
    clear H1 b2
    have HZ := Lib.hid (fun x y => H2.out.fin x y)
    obtain ⟨d0, d1, f0, f1⟩ := H2.out.out
    go_wp2_with fail
    (try simp only [Exit.inBlock, Exit.then]); refine bodyPost_ret (ret_range (g := w.heap.size + 1) rfl rfl (range_all (HZ.out _ _).1) Tryd.underlying32 rfl Tryd.is32) rfl ?_
    exact ⟨rfl, (HZ.out _ _).2⟩
theorem do_any {w : World} {g : Nat} {r : Option Nat} {c : Nat} {xs : List It} (h : Sys w g r c xs) (o : MOp) : Calls Tryd.prog 26 #[.pointer (some ⟨g, 0, none⟩), .agg (opC o).toArray] w fun E w' => DoP w g r xs o E w' :=
  (do_core h o).mono fun _ _ ⟨he, r', c', hl, ho⟩ => ⟨he, r', c', h.next o hl ho, ho⟩
theorem do_nil (o : MOp) (w : World) : Calls Tryd.prog 26 #[.pointer none, .agg (opC o).toArray] w fun E w' => E = .returned (.agg (repC (no 2)).toArray) ∧ Below w.heap.size w w' := by
  have hb : Below w.heap.size w ((w.alloc (.cells (opC o).toArray 49)).alloc (.cells [.int .i64 0, .string ByteArray.empty].toArray 32)) := ((Below.refl _ _).alloc (Nat.le_refl _) _).alloc (by simp) _
  have hr := two_new w (.cells (opC o).toArray 49) [.int .i64 0, .string ByteArray.empty] 32
  have HB : Hid (∀ W, Below ((w.alloc (.cells (opC o).toArray 49)).alloc (.cells [.int .i64 0, .string ByteArray.empty].toArray 32)).heap.size ((w.alloc (.cells (opC o).toArray 49)).alloc (.cells [.int .i64 0, .string ByteArray.empty].toArray 32)) W → W.heap[w.heap.size + 1]? = some (.cells [.int .i64 0, .string ByteArray.empty].toArray 32 (0, 0)) ∧ Below w.heap.size w W) := Lib.hid fun W h => ⟨(h.block _ (by simp)).trans hr, hb.trans (h.mono hb.size)⟩
  clear hb hr
  go_enter Tryd.func26, Tryd.ntmps26
  go_wp2_with (go_at_call 32; refine (refused_any 2 _).mono ?_)
  rintro E w2 ⟨rfl, b2⟩
  obtain ⟨h1, h2⟩ := HB.out w2 b2
  have d0 : w2.cell? ⟨w.heap.size + 1, 0, none⟩ = some (.int .i64 0) := block_cell h1 0 _ rfl
  have d1 : w2.cell? ⟨w.heap.size + 1, 1, none⟩ = some (.string ByteArray.empty) := block_cell h1 1 _ rfl
  have f0 := free_block h1 0
  have f1 := free_block h1 1
  have HZ : Hid (∀ x y, ((w2.setCell ⟨w.heap.size + 1, 0, none⟩ x).setCell ⟨w.heap.size + 1, 1, none⟩ y).heap[w.heap.size + 1]? = some (.cells [x, y].toArray 32 (0, 0)) ∧ Below w.heap.size w ((w2.setCell ⟨w.heap.size + 1, 0, none⟩ x).setCell ⟨w.heap.size + 1, 1, none⟩ y)) :=
    Lib.hid fun x y => ⟨pair_store h1 x y, Turns.below (S := fun _ => False) (((Turns.of_below h2).setCell (.inr (by omega)) _ _).setCell (.inr (by omega)) _ _) (Nat.le_refl _) (fun _ h => h.elim)⟩
  clear h1 h2 b2 HB
  go_wp2_with fail
  (try simp only [Exit.inBlock, Exit.then]); refine bodyPost_ret (ret_range (g := w.heap.size + 1) rfl rfl (range_all (HZ.out _ _).1) Tryd.underlying32 rfl Tryd.is32) rfl ?_
  exact ⟨rfl, (HZ.out _ _).2⟩
end Go.Proofs.YtflenghnmflenaaDoor
