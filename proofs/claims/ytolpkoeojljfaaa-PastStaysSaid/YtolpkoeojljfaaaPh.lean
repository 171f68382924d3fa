/-
  What is proved: Commit, Entered; of no past. Conditions as stated.
-/
import Derived.Test.YtolpkoeojljfaaaPg
namespace Go.Proofs.Ytolpkoeojljfaaa
open Go.RowKit
set_option maxRecDepth 100000

def cmt (p : MPast) (x k : Nat) (most : Int) : Bool × MPast := if opn p x = true ∧ k = (vot p.L x).getD 0 + 1 ∧ (((vot p.L x).getD 0 : Nat) : Int) < most then (true, p.bump) else (false, p)
theorem wrap_conv (n : Nat) (h : n ≤ 9223372036854775807) : IntKind.u64.wrap (n : Int) = (n : Int) ∧ IntKind.u64.wrap ((n : Int) + 1) = (n : Int) + 1 := by
  constructor <;> (rw [IntKind.wrap_u64]; omega)
set_option maxHeartbeats 1000000 in
theorem Commit_any {v W : World} {os : List Thing} {b : Nat} {p : MPast} (HP : PaIs v W os b p) {x k : Nat} (hx : x < 18446744073709551616) {most : Int} (hm : most ≤ 9223372036854775807) :
    Calls Try.prog 16 #[.pointer (some ⟨b, 0, none⟩), .int .u64 (x : Int), .int .u64 (k : Int), .int .i64 most] W fun E W' => E = .returned (.bool (cmt p x k most).1) ∧ PaIs v W' os b (cmt p x k most).2 := by
  obtain ⟨rv, mb, H⟩ := HP
  have h : PastAt W b rv mb p := H.hd
  have HH : Hid (PaIs v W os b p) := Lib.hid ⟨rv, mb, H⟩
  have HO := Lib.hid (open_any h hx)
  cases ho : opn p x with
  | false =>
    rw [cmt, if_neg (by rw [ho]; simp)]
    rw [ho] at HO
    generalize (((vot p.L x).getD 0 : Nat) : Int) = n at HO
    clear H h ho hx hm
    go_enter Try.func16, Try.ntmps16
    go_wp2_with (go_at_call 26; refine HO.out.mono ?_; rintro E w1 ⟨rfl, nq, rfl⟩)
    go_ret
    exact ⟨rfl, HH.out.drewN _⟩
  | true =>
    obtain ⟨e1, n, e2⟩ := opn_true ho
    rw [ho, e2] at HO
    simp only [Option.getD_some] at HO
    have hle : n ≤ 9223372036854775807 := (h.ok.le _ (vot_mem e2)).2
    obtain ⟨hw1, hw2⟩ := wrap_conv n hle
    by_cases h1 : k = n + 1
    · by_cases h2 : (n : Int) < most
      · rw [cmt, if_pos ⟨ho, by rw [e2]; exact h1, by rw [e2]; exact h2⟩]
        have hlt : n < 9223372036854775807 := by omega
        rw [e1] at e2
        have HB : Hid (∀ q, ∃ W', (Instr.mapUpdate 50 (.map mb) (.int .u64 (p.great : Int)) (.int .i64 ((n : Int) + 1))).run Try.prog (W.drewN q) = .ok () W' ∧ PaIs v W' os b p.bump) := Lib.hid fun q => pa_bump (H.drewN q) e2 hlt
        have HC : Hid (∀ q, (W.drewN q).cell? ⟨b, 1, none⟩ = some (.map mb)) := Lib.hid fun q => (PastAt.cells (H.drewN q).hd).2.1
        subst e1
        have hk : ((k : Int) != (n : Int) + 1) = false := by simp; omega
        have hk2 : ((k : Int) == (n : Int) + 1) = true := by simp; omega
        have hd : decide (most ≤ (n : Int)) = false := decide_eq_false (by omega)
        have hw : IntKind.i64.wrap ((n : Int) + 1) = (n : Int) + 1 := by rw [IntKind.wrap_i64]; omega
        have hn0 : (0 : Int) ≤ (n : Int) := by omega
        have hn1 : (n : Int) < 9223372036854775807 := by omega
        clear H h ho e2 hlt hle h1 h2 hx hm
        generalize (n : Int) = m at *
        generalize (k : Int) = k' at *
        go_enter Try.func16, Try.ntmps16
        go_wp2_with (first
          | (go_at_call 26; refine HO.out.mono ?_; rintro E w1 ⟨rfl, nq, rfl⟩; obtain ⟨W', r1, h1⟩ := HB.out nq; have H1 := Lib.hid h1; have c1 := HC.out nq; clear h1)
          | ((with_reducible refine wpList_mapUpd ?_ (.tmp 34) (.tmp 35) (.tmp 37) 50 ?_ _ _ _ ?_ ?_ ?_ _ (by assumption) ?_); (· rfl); (· rfl); (· rfl); (· rfl); (· rfl)))
        go_ret
        exact ⟨rfl, H1.out⟩
      · rw [cmt, if_neg (by rw [e2]; intro hh; exact h2 hh.2.2)]
        have hk : ((k : Int) != (n : Int) + 1) = false := by simp; omega
        have hk2 : ((k : Int) == (n : Int) + 1) = true := by simp; omega
        have hd : decide (most ≤ (n : Int)) = true := decide_eq_true (by omega)
        clear H h ho e1 e2 hle h1 h2 hx hm
        generalize (n : Int) = m at *
        generalize (k : Int) = k' at *
        go_enter Try.func16, Try.ntmps16
        go_wp2_with (go_at_call 26; refine HO.out.mono ?_; rintro E w1 ⟨rfl, nq, rfl⟩)
        go_ret
        exact ⟨rfl, HH.out.drewN _⟩
    · rw [cmt, if_neg (by rw [e2]; intro hh; exact h1 hh.2.1)]
      have hk : ((k : Int) != (n : Int) + 1) = true := by simp; omega
      have hk2 : ((k : Int) == (n : Int) + 1) = false := by simp; omega
      clear H h ho e1 e2 hle h1 hx hm
      generalize (n : Int) = m at *
      generalize (k : Int) = k' at *
      go_enter Try.func16, Try.ntmps16
      go_wp2_with (go_at_call 26; refine HO.out.mono ?_; rintro E w1 ⟨rfl, nq, rfl⟩)
      go_ret
      exact ⟨rfl, HH.out.drewN _⟩
theorem open_nil (W : World) (x : Int) : Calls Try.prog 26 #[.pointer none, .int .u64 x] W fun E W' => E = .returned (.tuple #[.int .i64 0, .bool false]) ∧ ∃ n, W' = W.drewN n := by
  go_enter Try.func26, Try.ntmps26
  go_wp2_with (go_at_call 13; refine (voted_nil _ _).mono ?_; rintro E w1 ⟨rfl, rfl⟩)
  go_quiet (fail)
  go_wp2_with fail
  exact bodyPost_ret (results_tmp2 rfl _ _ _) rfl ⟨rfl, _, rfl⟩
theorem Commit_nil (W : World) (x k m : Int) : Calls Try.prog 16 #[.pointer none, .int .u64 x, .int .u64 k, .int .i64 m] W fun E W' => E = .returned (.bool false) ∧ ∃ n, W' = W.drewN n := by
  have HO := Lib.hid (open_nil W x)
  go_enter Try.func16, Try.ntmps16
  go_wp2_with (go_at_call 26; refine HO.out.mono ?_; rintro E w1 ⟨rfl, nq, rfl⟩)
  go_ret
  exact ⟨rfl, _, rfl⟩
/-! ### all views that were entered -/
theorem clone_some (g : Nat) (n c : Nat) (l : List Nat) {v W : World} {os : List Thing} (H : Fr v W os) (hr : ∀ j u, (nv .u64 l)[j]? = some u → W.cell? ((⟨g, 0, none⟩ : Addr).add j) = some u) (hn : n = l.length) (hm : n ≤ 2000000000) :
    Calls Try.prog 25 #[.slice (some ⟨g, 0, none⟩) n c] W fun E W' => ∃ A' c', E = .returned (.slice A' n c') ∧ Fr v W' (nuT 23 .u64 (.slice A' n c') l :: os) := by
  have hq0 := fun wx : World => Lib.run_eql_slice_nil (P := Try.prog) wx 39 23 (some ⟨g, 0, none⟩) n c 0 0 Try.underlying39
  obtain ⟨i0, hi, hz0, hz1, hz2⟩ := info_parts Try.inf23
  have HC : Hid (∀ W', Below W.heap.size W W' → ∀ j u, (nv .u64 l)[j]? = some u → W'.cell? ((⟨g, 0, none⟩ : Addr).add j) = some u) := Lib.hid fun W' hb j u hu => by
    have h1 := hr j u hu
    rw [Addr.add_lit] at h1 ⊢
    exact (hb.cell (p := ⟨g, 0 + j, none⟩) (World.block_lt_of_cell? W _ h1)).trans h1
  have HL : Hid ((nv .u64 l).length = n * 1) := Lib.hid (by rw [nv_length, hn, Nat.mul_one])
  have HO := Lib.hid (nv_one .u64 l)
  have HN := Lib.hid hn
  have HF := Lib.hid H
  clear hr hn H
  go_enter Try.func25, Try.ntmps25
  go_wp2_with (at_builtin; go_must (refine wpList_append_own _ rfl (.tmp 5) (.tmp 6) 39 rfl W.heap.size 23 i0 (.int .u64 0) 1 8 Try.underlying39 hi hz0 hz1 hz2 rfl (by decide) _ 0 [] rfl (World.ownsRow_lit W #[] 0 (Nat.le_refl _) (Nat.zero_le _) rfl) ⟨g, 0, none⟩ n c (nv .u64 l) rfl HL.out (HC.out _ ((Below.refl _ _).alloc (Nat.le_refl _) _)) HO.out (by unfold maxLen; omega) (by omega) (by simp) ?_); intro v' w2 hv2 hg2 hnil2; obtain ⟨A2, c2, rfl, hsl⟩ := row_shape hv2; rw [Nat.zero_add, List.nil_append] at hv2)
  go_ret
  refine ⟨A2, c2, rfl, ?_⟩
  have hb : Below W.heap.size W w2 := ((Below.refl _ _).alloc (Nat.le_refl _) _).grown hg2 (by simp) (fun k hk => by cases hk; exact Nat.le_refl _)
  have hr0 := HN.out
  subst hr0
  refine HF.out.add hb (o := nuT 23 .u64 (.slice A2 l.length c2) l) ?_ (nuT_ok _ _ _ _) ?_
  · rcases hv2 with ⟨x1, x2⟩
    refine ⟨x1, ?_⟩
    rcases x2 with x2 | ⟨g2, cap, cur, y1, y2, y3⟩
    · exact .inl x2
    · exact .inr ⟨g2, cap, cur, y1, Nat.zero_le _, y3⟩
  · intro k hk
    rcases hv2.2 with ⟨x1, _⟩ | ⟨g2, cap, cur, y1, y2, y3⟩
    · have hk' : (Value.slice A2 l.length c2).ownBlock = some k := hk
      rw [x1] at hk'; cases hk'
    · have hk' : (Value.slice A2 l.length c2).ownBlock = some k := hk
      rw [y1] at hk'; injection hk' with hk'; rw [← hk']; exact y2
theorem entered_any {v W : World} {os : List Thing} {b : Nat} {p : MPast} (HP : PaIs v W os b p) :
    Calls Try.prog 15 #[.pointer (some ⟨b, 0, none⟩)] W fun E W' => ∃ A c, E = .returned (.slice A p.L.length c) ∧ ∃ rv mb, Fr v W' (nuT 23 .u64 (.slice A p.L.length c) (p.L.map (·.1)) :: paT b rv mb p :: os) := by
  obtain ⟨rv, mb, H⟩ := HP
  have h : PastAt W b rv mb p := H.hd
  obtain ⟨A, c, rfl, hc, hs, h0⟩ := row_shape h.row
  obtain ⟨c0, _⟩ := h.cells
  have hok := h.ok.len
  have HF := Lib.hid H
  cases A with
  | none =>
    obtain ⟨e1, e2⟩ := h0 rfl
    have e3 : p.L = [] := List.length_eq_zero_iff.1 e1
    have HE := Lib.hid e3
    rw [e1, e2] at c0
    rw [e1]
    have HC : Hid (∀ W', Calls Try.prog 25 #[.slice none 0 0] W' fun E w' => E = .returned (.slice none 0 0) ∧ W' = w') := Lib.hid fun W' => by
      have hq0 := fun wx : World => Lib.run_eql_slice_nil (P := Try.prog) wx 39 23 none 0 0 0 0 Try.underlying39
      go_enter Try.func25, Try.ntmps25
      go_wp2
      go_ret
      exact ⟨rfl, rfl⟩
    clear H h hs h0 e1 e2 e3 hc hok
    go_enter Try.func15, Try.ntmps15
    go_wp2_with (go_at_call 25; refine (HC.out _).mono ?_; rintro E w1 ⟨rfl, rfl⟩)
    go_ret
    refine ⟨none, 0, rfl, .slice none p.L.length c, mb, ?_⟩
    have h5 := nu_nil HF.out 23 .u64
    have h6 : p.L.map (·.1) = [] := by rw [HE.out]; rfl
    rw [h6]
    exact h5
  | some ad =>
    obtain ⟨g, e, hg⟩ := hs ad rfl
    subst e
    have hr : ∀ j u, (nv .u64 (p.L.map (·.1)))[j]? = some u → W.cell? ((⟨g, 0, none⟩ : Addr).add j) = some u := fun j u hj => by
      rw [add_at]
      have := hg j u hj
      rwa [Nat.zero_add] at this
    have HC := Lib.hid (clone_some g p.L.length c (p.L.map (·.1)) H hr (by simp) (by omega))
    clear H h hs h0 hc hok hr hg
    go_enter Try.func15, Try.ntmps15
    go_wp2_with (go_at_call 25; refine HC.out.mono ?_; rintro E w1 ⟨A', c', rfl, h⟩; have h' := Lib.hid h; clear h)
    go_ret
    exact ⟨A', c', rfl, _, _, h'.out⟩
theorem entered_nil (W : World) : Calls Try.prog 15 #[.pointer none] W fun E W' => E = .returned (.slice none 0 0) ∧ W = W' := by
  go_enter Try.func15, Try.ntmps15
  go_wp2
  go_ret
  exact ⟨rfl, rfl⟩
end Go.Proofs.Ytolpkoeojljfaaa
