/-
  What is proved: the document's own past: Voted, New; a step on it. Conditions as stated.
-/
import Derived.Test.YtolpkoeojljfaaaPt
namespace Go.Proofs.Ytolpkoeojljfaaa
open Go.RowKit
set_option maxRecDepth 100000

theorem vot_drop {L : List (Nat × Nat)} {x : Nat} {j : Nat} {q : Nat × Nat} (h : L[j]? = some q) : vot (L.drop j) x = if q.1 = x then some q.2 else vot (L.drop (j + 1)) x := by
  obtain ⟨hj, e⟩ := List.getElem?_eq_some_iff.1 h
  rw [List.drop_eq_getElem_cons hj, e, vot]
theorem rf_cells {W : World} {b g c : Nat} {p : MPast} (h : RfAt W b (some ⟨g, 0, none⟩) c p) {j : Nat} {q : Nat × Nat} (hj : p.L[j]? = some q) : W.cell? ⟨g, j * 2, none⟩ = some (.int .u64 (q.1 : Int)) ∧ W.cell? ⟨g, j * 2 + 1, none⟩ = some (.int .i64 (q.2 : Int)) := by
  obtain ⟨A2, c2, e, _, hs, _⟩ := row_shape h.row
  injection e with e1
  subst e1
  obtain ⟨g', e, hg⟩ := hs _ rfl
  injection e with e
  subst e
  have hv := vtC_at p.L j _ hj
  have h1 := hg _ _ hv.1
  have h2 := hg _ _ hv.2
  rw [Nat.zero_add] at h1 h2
  exact ⟨h1, h2⟩
set_option maxHeartbeats 2000000 in
theorem rvoted_any {v W : World} {os : List Thing} {b : Nat} {p : MPast} {N : Nat} (HP : RfIs v W os b p) (hi : InvP p N) (x : Nat) :
    Calls Try.prog 14 #[.pointer (some ⟨b, 0, none⟩), .int .u64 (x : Int)] W fun E w' => E = .returned (.tuple #[.int .i64 (((vot p.L x).getD 0 : Nat) : Int), .bool (vot p.L x).isSome]) ∧ W = w' := by
  obtain ⟨A, c, H⟩ := HP
  have h0 : RfAt W b A c p := H.hd
  obtain ⟨g, m, rfl, hf⟩ := RfAt.facts h0 hi
  have hl := hi.ok.len
  have hL : ∀ j (q : Nat × Nat), p.L[j]? = some q → W.cell? ⟨g, j * 2, none⟩ = some (.int .u64 (q.1 : Int)) ∧ W.cell? ⟨g, j * 2 + 1, none⟩ = some (.int .i64 (q.2 : Int)) := fun j q hj => rf_cells h0 hj
  have c1 : W.cell? ⟨b, 1, none⟩ = some (.slice (some ⟨g, 0, none⟩) p.L.length c) := block_cell h0.top 1 _ rfl
  clear hf H h0 hi
  generalize p.L = L at *
  have HLL := Lib.hid hL
  obtain ⟨n, hn⟩ : ∃ n, n = L.length := ⟨_, rfl⟩
  have HN := Lib.hid hn
  rw [← hn] at c1 hl
  obtain ⟨R, hR⟩ : ∃ R, R = vot L x := ⟨_, rfl⟩
  have HR := Lib.hid hR
  rw [← hR]
  clear hL hn hR
  go_enter Try.func14, Try.ntmps14
  go_wp2_with fail
  go_loop [6] (fun v6 => ∃ j : Nat, j ≤ n ∧ v6 = .int .i64 (j : Int) ∧ Hid (vot (L.drop j) x = R)) (fun v6 => n - (intOf v6).toNat)
  case atStart => exact ⟨0, Nat.zero_le _, rfl, Lib.hid (by rw [List.drop_zero]; exact HR.out.symm)⟩
  case round =>
    obtain ⟨j, hj, rfl, HV⟩ := hrel
    by_cases hlt : j < n
    · obtain ⟨q, hq⟩ : ∃ q, L[j]? = some q := ⟨_, List.getElem?_eq_getElem (by have := HN.out; omega)⟩
      obtain ⟨d0, d1⟩ := HLL.out j q hq
      have hd := vot_drop (x := x) hq
      by_cases e : q.1 = x
      · rw [if_pos e] at hd
        have HF : Hid (R = some q.2) := Lib.hid (HV.out.symm.trans hd)
        have k1 : ((q.1 : Int) == (x : Int)) = true := by simp; omega
        clear hq hd e
        generalize q.1 = a at *
        generalize q.2 = z at *
        go_wp2
        refine bodyPost_ret (results_tmp2 rfl _ _ _) rfl ⟨?_, rfl⟩
        rw [HF.out]
        rfl
      · rw [if_neg e] at hd
        have HF : Hid (vot (L.drop (j + 1)) x = R) := Lib.hid (hd.symm.trans HV.out)
        have k1 : ((q.1 : Int) == (x : Int)) = false := by simp; omega
        clear hq hd e
        generalize q.1 = a at *
        generalize q.2 = z at *
        go_wp2
        go_round
        case measure => simp [intOf]; omega
        case rel => exact ⟨j + 1, by omega, by go_num, HF⟩
    · have HF : Hid (R = none) := Lib.hid (by have := HV.out; rw [List.drop_of_length_le (by have := HN.out; omega)] at this; exact this.symm)
      go_wp2
      refine bodyPost_ret (results_tmp2 rfl _ _ _) rfl ⟨?_, rfl⟩
      rw [HF.out]
      rfl
theorem rf_made {v W : World} {os : List Thing} (H : Fr v W os) : RfIs v ((W.alloc (.cells #[.int .u64 0, .int .i64 0] 42)).alloc (.cells #[.int .u64 0, .slice (some ⟨W.heap.size, 0, none⟩) 1 1] 36)) os (W.heap.size + 1) .new := by
  refine ⟨some ⟨W.heap.size, 0, none⟩, 1, H.add (((Below.refl _ _).alloc (Nat.le_refl _) _).alloc (by simp) _) (o := rfT (W.heap.size + 1) (some ⟨W.heap.size, 0, none⟩) 1 .new) ⟨?_, ?_⟩ (rfT_ok _ _ _ _) fun k hk => ?_⟩
  · have := heap_alloc_new (W.alloc (.cells #[.int .u64 0, .int .i64 0] 42)) (.cells #[.int .u64 0, .slice (some ⟨W.heap.size, 0, none⟩) 1 1] 36)
    rw [show (W.alloc (.cells #[.int .u64 0, .int .i64 0] 42)).heap.size = W.heap.size + 1 by simp] at this
    exact this
  · have h1 := World.ownsRow_lit (e := 42) (size := 2) (base := 0) W #[.int .u64 0, .int .i64 0] 1 (Nat.zero_le _) (by decide) rfl
    refine ownsRow_kept (W := W.alloc (.cells #[.int .u64 0, .int .i64 0] 42)) h1 fun k hk => ?_
    injection hk with hk
    exact heap_alloc_old _ _ (by rw [← hk]; simp)
  · rcases hk with rfl | hk
    · omega
    · have hk' : W.heap.size = k := Option.some.inj hk
      omega
theorem rnew_any {v W : World} {os : List Thing} (H : Fr v W os) : Calls Try.prog 9 #[] W fun E W' => ∃ b, E = .returned (.pointer (some ⟨b, 0, none⟩)) ∧ RfIs v W' os b .new := by
  have H1 := Lib.hid (rf_made H)
  clear H
  go_enter Try.func9, Try.ntmps9
  go_wp2
  go_ret
  exact ⟨_, rfl, H1.out⟩
theorem RfIs.alloc {v W : World} {os : List Thing} {b : Nat} {p : MPast} (h : RfIs v W os b p) (o : Obj) : RfIs v (W.alloc o) os b p := h.below ((Below.refl _ _).alloc (Nat.le_refl _) _)
set_option maxHeartbeats 1000000 in
theorem did_any {v W : World} {os : List Thing} {b : Nat} {p : MPast} {N : Nat} (HP : RfIs v W os b p) (hi : InvP p N) (hN : N < 9223372036854775807) {x : MStep} (hx : x.Wf) :
    Calls Try.prog 11 #[.pointer (some ⟨b, 0, none⟩), .agg (stC x).toArray] W fun E W' => E = .returned (.bool (doR p x).1) ∧ RfIs v W' os b (doR p x).2 := by
  have HB := HP.alloc (.cells (stC x).toArray 30)
  have K0 := Lib.hid (rchange_any HB hx.v)
  have K1 := Lib.hid (renter_any HB hi x.v x.long)
  have K2 := Lib.hid (rprepare_any HB hi hN x.v)
  have K3 := Lib.hid (rcommit_any HB hi hN x.v x.k hx.hi)
  obtain ⟨op, xv, xk, xl⟩ := x
  have hop : op < 256 := hx.op
  unfold doR
  simp only [stC] at K0 K1 K2 K3 ⊢
  clear HP HB hx hi hN
  by_cases h0 : op % 4 = 0
  · rw [if_pos h0]
    have e0 : ((op : Int) % 4 == 0) = true := by simp; omega
    go_enter Try.func11, Try.ntmps11
    go_wp2_with (go_at_call 21; refine K0.out.mono ?_; rintro E w1 ⟨rfl, h⟩; have h' := Lib.hid h; clear h)
    go_ret
    exact ⟨rfl, h'.out⟩
  · rw [if_neg h0]
    have e0 : ((op : Int) % 4 == 0) = false := by simp; omega
    by_cases h1 : op % 4 = 1
    · rw [if_pos h1]
      have e1 : ((op : Int) % 4 == 1) = true := by simp; omega
      go_enter Try.func11, Try.ntmps11
      go_wp2_with (go_at_call 22; refine K1.out.mono ?_; rintro E w1 ⟨rfl, h⟩; have h' := Lib.hid h; clear h)
      go_ret
      exact ⟨rfl, h'.out⟩
    · rw [if_neg h1]
      have e1 : ((op : Int) % 4 == 1) = false := by simp; omega
      by_cases h2 : op % 4 = 2
      · rw [if_pos h2]
        have e2 : ((op : Int) % 4 == 2) = true := by simp; omega
        go_enter Try.func11, Try.ntmps11
        go_wp2_with (go_at_call 23; refine K2.out.mono ?_; rintro E w1 ⟨rfl, h⟩; have h' := Lib.hid h; clear h)
        go_ret
        exact ⟨rfl, h'.out⟩
      · rw [if_neg h2]
        have e2 : ((op : Int) % 4 == 2) = false := by simp; omega
        go_enter Try.func11, Try.ntmps11
        go_wp2_with (go_at_call 24; refine K3.out.mono ?_; rintro E w1 ⟨rfl, h⟩; have h' := Lib.hid h; clear h)
        go_ret
        exact ⟨rfl, h'.out⟩
end Go.Proofs.Ytolpkoeojljfaaa
