/-
  What is proved: the document's own past: Enter, Prepare, Commit, Voted, New. Conditions as stated.
-/
import Derived.Test.YtolpkoeojljfaaaPr
namespace Go.Proofs.Ytolpkoeojljfaaa
open Go.RowKit
set_option maxRecDepth 100000

theorem still_of_quiet {P : Program} {ops : Array Oper} {w : World} {Q : Act → Prop} : ∀ (l : List Oper) (a : Act), wpQuiet P ops (fun x => x = w) Q l a → wpStill P ops w Q l a
  | [], _, h => h
  | o :: rest, a, h => by
    unfold wpQuiet at h
    unfold wpStill
    split at h
    · rename_i hw
      rw [if_pos hw]
      obtain ⟨v, h1, h2⟩ := h
      have h3 := h1 w rfl
      have h4 := still_of_quiet rest _ h2
      unfold Oper.quietAt at h3
      unfold Oper.still
      generalize (execOp a.eval o).run P w = r at *
      cases r with
      | ok n w' =>
        cases n <;> simp only [Oper.quietUpon] at h3 <;> simp only [Oper.stillUpon]
        case value u => obtain ⟨rfl, rfl⟩ := h3; exact ⟨rfl, h4⟩
        case skip => obtain ⟨rfl, rfl⟩ := h3; exact ⟨rfl, h4⟩
        case enter f args => exact ⟨h3.1, v, h3.2, h4⟩
      | halt => simp only [Oper.quietUpon] at h3
    · rename_i hw
      rw [if_neg hw]
      exact still_of_quiet rest _ h
theorem wp_region_quiet_tail {P : Program} {id : Nat} {Q : Exit → Act → World → Prop} {a : Act} {w : World} {l : List Oper} (n : Nat) (hm : P.follows .mixedOrders = true) (hB : Region.lexTailB .any l.toArray n = true)
    (h : wpQuiet P l.toArray (fun x => x = w.drew) (fun a' => wpList P l.toArray Q (l.drop n) a' w.drew) (l.take n) a) : (Code.region id l.toArray true).wp P Q a w :=
  wp_region_still_tail n hm hB (still_of_quiet _ _ h)
theorem bump_last {p : MPast} {N : Nat} (h : InvP p N) (he : (lst p).1 = p.great) : bump p.L p.great = p.L.dropLast ++ [((lst p).1, (lst p).2 + 1)] := by
  have hr := h.ok.rise
  have hs := h.split
  have e : bump (p.L.dropLast ++ [lst p]) p.great = p.L.dropLast ++ [((lst p).1, (lst p).2 + 1)] := by
    rw [bump, List.map_append]
    congr 1
    · rw [hs, List.map_append] at hr
      have h2 := (List.pairwise_append.1 hr).2.2
      have : ∀ q ∈ p.L.dropLast, (if q.1 = p.great then (q.1, q.2 + 1) else q) = q := fun q hq => by
        have := h2 q.1 (List.mem_map.2 ⟨q, hq, rfl⟩) (lst p).1 (by simp)
        rw [if_neg (by omega)]
      rw [List.map_congr_left this, List.map_id']
    · simp [he]
  rw [← hs] at e
  exact e
theorem rf_bump {v W : World} {os : List Thing} {b g m c : Nat} {p : MPast} {N : Nat} (H : Fr v W (rfT b (some ⟨g, 0, none⟩) c p :: os)) (hi : InvP p N) (hm : m + 1 = p.L.length) (he : (lst p).1 = p.great) :
    Fr v (W.setCell ⟨g, m * 2 + 1, none⟩ (.int .i64 (((lst p).2 + 1 : Nat) : Int))) (rfT b (some ⟨g, 0, none⟩) c p.bump :: os) := by
  have h : RfAt W b (some ⟨g, 0, none⟩) c p := H.hd
  obtain ⟨r1, r2⟩ := h.row.stored (m * 2 + 1) (.int .i64 (((lst p).2 + 1 : Nat) : Int))
  have hbl := bump_length p.L p.great
  have e : (vtC p.L).set (m * 2 + 1) (.int .i64 (((lst p).2 + 1 : Nat) : Int)) = vtC (bump p.L p.great) := by
    rw [bump_last hi he]
    have hs := hi.split
    have hd : p.L.dropLast.length = m := by rw [List.length_dropLast]; omega
    generalize p.L.dropLast = D at hs hd ⊢
    rw [hs, vtC_app, vtC_app, List.set_append_right _ _ (by rw [vtC_length]; omega), vtC_length]
    rw [show m * 2 + 1 - D.length * 2 = 1 by omega]
    rfl
  refine H.turn (o' := rfT b (some ⟨g, 0, none⟩) c p.bump) (Own.same ((Turns.refl _ W).setCell (.inl (.inr rfl)) _ _)) ⟨?_, ?_⟩ (rfT_ok _ _ _ _)
  · show _ = some (Obj.cells [Value.int .u64 (p.great : Int), .slice (some ⟨g, 0, none⟩) (bump p.L p.great).length c].toArray 36 (0, 0))
    rw [hbl]
    exact (Below.heap_setCell W ⟨g, m * 2 + 1, none⟩ _ b (fun x => h.apart g rfl x.symm)).trans h.top
  · show World.ownsRow _ 0 42 2 (.slice (some ⟨g, 0, none⟩) (bump p.L p.great).length c) (bump p.L p.great).length (vtC (bump p.L p.great))
    rw [hbl, ← e]
    exact r1
set_option maxHeartbeats 2000000 in
theorem rprepare_any {v W : World} {os : List Thing} {b : Nat} {p : MPast} {N : Nat} (HP : RfIs v W os b p) (hi : InvP p N) (hN : N < 9223372036854775807) (x : Nat) :
    Calls Try.prog 23 #[.pointer (some ⟨b, 0, none⟩), .int .u64 (x : Int)] W fun E W' => E = .returned (.bool (prp p x).1) ∧ RfIs v W' os b (prp p x).2 := by
  obtain ⟨A, c, H⟩ := HP
  obtain ⟨g, m, rfl, hf⟩ := RfAt.facts (show RfAt W b A c p from H.hd) hi
  have HH : Hid (RfIs v W os b p) := Lib.hid ⟨_, c, H⟩
  have HO := Lib.hid (ropen_any hf x)
  rw [prp_at hi hN]
  by_cases h1 : (lst p).1 = p.great ∧ x = (lst p).1
  · rw [if_pos h1]
    have e : (decide ((lst p).1 = p.great) && decide (x = (lst p).1)) = true := by simp [h1.1, h1.2]
    rw [e] at HO
    have HB : Hid (∀ q, RfIs v ((W.drewN q).drew.setCell ⟨g, m * 2 + 1, none⟩ (.int .i64 (((lst p).2 : Int) + 1))) os b p.bump) := Lib.hid fun q => ⟨_, c, rf_bump ((H.drewN q).drewN 1) hi hf.len h1.1⟩
    have hb := hf.big
    have a1 := hf.c1
    have a2 := hf.d1
    have a3 := hf.fg
    have ht := hi.top.2.2
    generalize (lst p).2 = n at HB a2 ht
    have hm0 : (0 : Int) ≤ (m : Int) := by omega
    have hm1 : (m : Int) < 1073741824 := by omega
    have hi1 : IntKind.i64.wrap ((m : Int) + 1 - 1) = (m : Int) := by rw [IntKind.wrap_i64]; omega
    have hi2 : IntKind.i64.wrap ((n : Int) + 1) = (n : Int) + 1 := by rw [IntKind.wrap_i64]; omega
    clear H hf hi hN ht hb h1 e
    go_enter Try.func23, Try.ntmps23
    go_wp2_with (go_at_call 28; refine HO.out.mono ?_; rintro E w1 ⟨rfl, nq, rfl⟩)
    refine wp_region_quiet_tail 16 (by kernel_rfl) (by kernel_rfl) ?_
    simp only [List.take_succ_cons, List.take_zero, List.drop_succ_cons, List.drop_zero]
    repeat (first
      | go_big_quiet_skip
      | (go_big_quiet_want; go_big_quiet_op; go_big_quiet_on))
    refine wpQuiet_nil ?_
    go_wp2
    go_ret
    exact ⟨rfl, HB.out _⟩
  · rw [if_neg h1]
    have e : (decide ((lst p).1 = p.great) && decide (x = (lst p).1)) = false := by
      rw [Bool.eq_false_iff]; intro hh; simp at hh; exact h1 hh
    rw [e] at HO
    clear H hf e h1 hi hN
    go_enter Try.func23, Try.ntmps23
    go_wp2_with (go_at_call 28; refine HO.out.mono ?_; rintro E w1 ⟨rfl, nq, rfl⟩)
    go_ret
    exact ⟨rfl, HH.out.drewN _⟩
end Go.Proofs.Ytolpkoeojljfaaa
