/-
  What is proved: New, Enter, Prepare, Commit, Entered. Conditions as stated.
-/
import Derived.Test.YtolpkoeojljfaaaPf
namespace Go.Proofs.Ytolpkoeojljfaaa
open Go.RowKit
set_option maxRecDepth 100000

/-- A past, wherever it lies. -/
def PaIs (v W : World) (os : List Thing) (b : Nat) (p : MPast) : Prop := ∃ rv mb, Fr v W (paT b rv mb p :: os)
theorem enter_any {v W : World} {os : List Thing} {b : Nat} {rv : Value} {mb : Option Nat} {p : MPast} (H : Fr v W (paT b rv mb p :: os)) {x n : Nat} (hx : x < 1073741824) (hg : p.great ≤ x) (hn : n ≤ 9223372036854775807) (hv : vot p.L x = none) :
    Calls Try.prog 19 #[.pointer (some ⟨b, 0, none⟩), .int .u64 (x : Int), .int .i64 (n : Int)] W fun E W' => E = .returned (.tuple #[]) ∧ PaIs v W' os b (p.add x n) := by
  cases mb with
  | none => exact (enter_none H hx hg hn hv).mono fun E W' ⟨e, rv', k, h⟩ => ⟨e, rv', some k, h⟩
  | some k => exact (enter_some H hx hg hn hv).mono fun E W' ⟨e, rv', h⟩ => ⟨e, rv', some k, h⟩
def MPast.new : MPast := ⟨[(0, 0)], 0⟩
theorem pa_empty {v W : World} {os : List Thing} (H : Fr v W os) : Fr v (W.alloc (.cells (paC (.slice none 0 0) none 0).toArray 52)) (paT W.heap.size (.slice none 0 0) none ⟨[], 0⟩ :: os) :=
  H.add ((Below.refl _ _).alloc (Nat.le_refl _) _) (o := paT W.heap.size (.slice none 0 0) none ⟨[], 0⟩)
    ⟨heap_alloc_new W _, World.ownsRow_nil _ _ _ _, .inl ⟨rfl, rfl⟩, ⟨List.Pairwise.nil, fun _ h => (by cases h), by decide⟩⟩ (paT_ok _ _ _ _)
    fun k hk => by rcases hk with rfl | hk | hk <;> first | exact Nat.le_refl _ | cases hk
theorem new_any {v W : World} {os : List Thing} (H : Fr v W os) : Calls Try.prog 8 #[] W fun E W' => ∃ b, E = .returned (.pointer (some ⟨b, 0, none⟩)) ∧ PaIs v W' os b .new := by
  have h1 := enter_any (pa_empty H) (x := 0) (n := 0) (by decide) (Nat.le_refl _) (by decide) rfl
  have H1 : Hid (Calls Try.prog 19 #[.pointer (some ⟨W.heap.size, 0, none⟩), .int .u64 0, .int .i64 0] (W.alloc (.cells #[.slice none 0 0, .map none, .int .u64 0] 52)) fun E W' => E = .returned (.tuple #[]) ∧ PaIs v W' os W.heap.size .new) := Lib.hid h1
  clear h1 H
  go_enter Try.func8, Try.ntmps8
  go_wp2_with (go_at_call 19; refine H1.out.mono ?_; rintro E w1 ⟨rfl, h⟩; have h' := Lib.hid h; clear h)
  go_ret
  exact ⟨_, rfl, h'.out⟩
def ent (p : MPast) (x : Nat) (long : Int) : Bool × MPast := if (p.great ≤ x ∧ x < 1073741824) ∧ 0 ≤ long ∧ vot p.L x = none then (true, p.add x long.toNat) else (false, p)
theorem Enter_any {v W : World} {os : List Thing} {b : Nat} {p : MPast} (HP : PaIs v W os b p) {x : Nat} (hx : x < 18446744073709551616) {long : Int} (hl : long ≤ 9223372036854775807) :
    Calls Try.prog 18 #[.pointer (some ⟨b, 0, none⟩), .int .u64 (x : Int), .int .i64 long] W fun E W' => E = .returned (.bool (ent p x long).1) ∧ PaIs v W' os b (ent p x long).2 := by
  obtain ⟨rv, mb, H⟩ := HP
  have h : PastAt W b rv mb p := H.hd
  obtain ⟨_, c1, c2⟩ := h.cells
  have HH : Hid (PaIs v W os b p) := Lib.hid ⟨rv, mb, H⟩
  have HL := Lib.hid (h.look hx)
  by_cases h1 : p.great ≤ x
  · by_cases h2 : x < 1073741824
    · by_cases h3 : 0 ≤ long
      · cases h4 : vot p.L x with
        | none =>
          rw [ent, if_pos ⟨⟨h1, h2⟩, h3, h4⟩]
          obtain ⟨n, rfl⟩ : ∃ n : Nat, long = (n : Int) := ⟨long.toNat, by omega⟩
          rw [Int.toNat_natCast]
          have H2 := Lib.hid (enter_any H (x := x) (n := n) h2 h1 (by omega) h4)
          rw [h4] at HL
          have k1 : decide (x < p.great) = false := decide_eq_false (by omega)
          have k2 : decide (1073741824 ≤ (x : Int)) = false := decide_eq_false (by omega)
          have k3 : decide ((n : Int) < 0) = false := decide_eq_false (by omega)
          clear H h h4 hx hl h1 h2 h3
          go_enter Try.func18, Try.ntmps18
          go_wp2_with (first
            | ((with_reducible refine wpList_look2 ?_ (.tmp 31) (.tmp 32) 50 ?_ (.map mb) (.int .u64 (x : Int)) _ ?_ ?_ HL.out ?_); (· rfl); (· rfl); (· rfl); (· rfl))
            | (go_at_call 19; refine H2.out.mono ?_; rintro E w1 ⟨rfl, h⟩; have h' := Lib.hid h; clear h))
          go_ret
          exact ⟨rfl, h'.out⟩
        | some m =>
          rw [ent, if_neg (by rw [h4]; simp)]
          rw [h4] at HL
          have k1 : decide (x < p.great) = false := decide_eq_false (by omega)
          have k2 : decide (1073741824 ≤ (x : Int)) = false := decide_eq_false (by omega)
          have k3 : decide (long < 0) = false := decide_eq_false (by omega)
          clear H h h4 hx hl h1 h2 h3
          go_enter Try.func18, Try.ntmps18
          go_wp2_with (first
            | ((with_reducible refine wpList_look2 ?_ (.tmp 31) (.tmp 32) 50 ?_ (.map mb) (.int .u64 (x : Int)) _ ?_ ?_ HL.out ?_); (· rfl); (· rfl); (· rfl); (· rfl)))
          go_ret
          exact ⟨rfl, HH.out⟩
      · rw [ent, if_neg (by omega)]
        have k1 : decide (x < p.great) = false := decide_eq_false (by omega)
        have k2 : decide (1073741824 ≤ (x : Int)) = false := decide_eq_false (by omega)
        have k3 : decide (long < 0) = true := decide_eq_true (by omega)
        clear H h hx hl h1 h2 h3
        go_enter Try.func18, Try.ntmps18
        go_wp2
        go_ret
        exact ⟨rfl, HH.out⟩
    · rw [ent, if_neg (by omega)]
      have k1 : decide (x < p.great) = false := decide_eq_false (by omega)
      have k2 : decide (1073741824 ≤ (x : Int)) = true := decide_eq_true (by omega)
      clear H h hx hl h1 h2
      go_enter Try.func18, Try.ntmps18
      go_wp2
      go_ret
      exact ⟨rfl, HH.out⟩
  · rw [ent, if_neg (by omega)]
    clear H h hx hl
    go_enter Try.func18, Try.ntmps18
    go_wp2
    go_ret
    exact ⟨rfl, HH.out⟩
theorem Enter_nil (W : World) (x l : Int) : Calls Try.prog 18 #[.pointer none, .int .u64 x, .int .i64 l] W fun E W' => E = .returned (.bool false) ∧ W = W' := by
  go_enter Try.func18, Try.ntmps18
  go_wp2
  go_ret
  exact ⟨rfl, rfl⟩
/-- One more is voted. -/
theorem vP_bump {p : MPast} {n : Nat} (h : vot p.L p.great = some n) : upd (vP p.L) (p.great : Int) (some (.int .i64 ((n + 1 : Nat) : Int))) = vP p.bump.L := by
  funext y
  show _ = vP (bump p.L p.great) y
  by_cases e : y = (p.great : Int)
  · subst e
    rw [upd_same, vP_nat, vot_bump, if_pos rfl, h]; rfl
  · rw [upd_other _ _ e, vP, vP]
    by_cases h0 : 0 ≤ y
    · rw [if_pos h0, if_pos h0, vot_bump, if_neg (by omega)]
    · rw [if_neg h0, if_neg h0]
theorem pa_bump {v W : World} {os : List Thing} {b : Nat} {rv : Value} {mb : Option Nat} {p : MPast} (H : Fr v W (paT b rv mb p :: os)) {n : Nat} (h : vot p.L p.great = some n) (hn : n < 9223372036854775807) :
    ∃ W', (Instr.mapUpdate 50 (.map mb) (.int .u64 (p.great : Int)) (.int .i64 ((n + 1 : Nat) : Int))).run Try.prog W = .ok () W' ∧ PaIs v W' os b p.bump := by
  have hp : PastAt W b rv mb p := H.hd
  have hok := hp.ok
  rcases hp.mp with ⟨_, e⟩ | ⟨k, e, _⟩
  · rw [e] at h; cases h
  · subst e
    obtain ⟨W', r1, h1⟩ := md_put (md_of H) (by have := hok.len; omega) (x := p.great) (by have := hok.top; omega) (.int .i64 ((n + 1 : Nat) : Int))
    refine ⟨W', r1, rv, some k, ?_⟩
    have hz : ((vP p.L) (p.great : Int)).isSome = true := by rw [vP_nat, h]; rfl
    rw [hz, vP_bump h] at h1
    refine pa_of (p := p.bump) (f := vP p.bump.L) ?_ rfl (hok.bump h hn)
    have e1 : (p.bump.L.map (·.1)) = p.L.map (·.1) := bump_fst _ _
    have e2 : p.bump.L.length = p.L.length := bump_length _ _
    rw [e1, e2]
    exact h1
def prp (p : MPast) (x : Nat) : Bool × MPast := if opn p x = true ∧ vot p.L x ≠ some 9223372036854775807 then (true, p.bump) else (false, p)
theorem PaIs.drewN {v W : World} {os : List Thing} {b : Nat} {p : MPast} (h : PaIs v W os b p) (n : Nat) : PaIs v (W.drewN n) os b p := let ⟨rv, mb, H⟩ := h; ⟨rv, mb, H.drewN n⟩
theorem opn_true {p : MPast} {x : Nat} (h : opn p x = true) : x = p.great ∧ ∃ n, vot p.L x = some n := by
  simp only [opn, Bool.and_eq_true, decide_eq_true_eq] at h
  exact ⟨h.2, Option.isSome_iff_exists.1 h.1⟩
set_option maxHeartbeats 1000000 in
theorem Prepare_any {v W : World} {os : List Thing} {b : Nat} {p : MPast} (HP : PaIs v W os b p) {x : Nat} (hx : x < 18446744073709551616) :
    Calls Try.prog 20 #[.pointer (some ⟨b, 0, none⟩), .int .u64 (x : Int)] W fun E W' => E = .returned (.bool (prp p x).1) ∧ PaIs v W' os b (prp p x).2 := by
  obtain ⟨rv, mb, H⟩ := HP
  have h : PastAt W b rv mb p := H.hd
  have HH : Hid (PaIs v W os b p) := Lib.hid ⟨rv, mb, H⟩
  have HO := Lib.hid (open_any h hx)
  cases ho : opn p x with
  | false =>
    rw [prp, if_neg (by rw [ho]; simp)]
    rw [ho] at HO
    generalize (((vot p.L x).getD 0 : Nat) : Int) = n at HO
    clear H h ho
    go_enter Try.func20, Try.ntmps20
    go_wp2_with (go_at_call 26; refine HO.out.mono ?_; rintro E w1 ⟨rfl, nq, rfl⟩)
    go_ret
    exact ⟨rfl, HH.out.drewN _⟩
  | true =>
    obtain ⟨e1, n, e2⟩ := opn_true ho
    rw [ho, e2] at HO
    simp only [Option.getD_some] at HO
    have hle : n ≤ 9223372036854775807 := (h.ok.le _ (vot_mem e2)).2
    by_cases hm : n = 9223372036854775807
    · rw [prp, if_neg (by rw [e2, hm]; simp)]
      subst hm
      clear H h ho e1 e2
      go_enter Try.func20, Try.ntmps20
      go_wp2_with (go_at_call 26; refine HO.out.mono ?_; rintro E w1 ⟨rfl, nq, rfl⟩)
      go_ret
      exact ⟨rfl, HH.out.drewN _⟩
    · rw [prp, if_pos ⟨ho, by rw [e2]; simpa using hm⟩]
      have hlt : n < 9223372036854775807 := by omega
      rw [e1] at e2
      have HB : Hid (∀ q, ∃ W', (Instr.mapUpdate 50 (.map mb) (.int .u64 (p.great : Int)) (.int .i64 ((n : Int) + 1))).run Try.prog (W.drewN q) = .ok () W' ∧ PaIs v W' os b p.bump) := Lib.hid fun q => pa_bump (H.drewN q) e2 hlt
      have HC : Hid (∀ q, (W.drewN q).cell? ⟨b, 1, none⟩ = some (.map mb)) := Lib.hid fun q => (PastAt.cells (H.drewN q).hd).2.1
      subst e1
      have hne : ((n : Int) == 9223372036854775807) = false := by simp; omega
      have hw : IntKind.i64.wrap ((n : Int) + 1) = (n : Int) + 1 := by rw [IntKind.wrap_i64]; omega
      have hn0 : (0 : Int) ≤ (n : Int) := by omega
      have hn1 : (n : Int) < 9223372036854775807 := by omega
      clear H h ho e2 hm hlt hle
      generalize (n : Int) = m at *
      go_enter Try.func20, Try.ntmps20
      go_wp2_with (first
        | (go_at_call 26; refine HO.out.mono ?_; rintro E w1 ⟨rfl, nq, rfl⟩; obtain ⟨W', r1, h1⟩ := HB.out nq; have H1 := Lib.hid h1; have c1 := HC.out nq; clear h1)
        | ((with_reducible refine wpList_mapUpd ?_ (.tmp 22) (.tmp 23) (.tmp 25) 50 ?_ _ _ _ ?_ ?_ ?_ _ (by assumption) ?_); (· rfl); (· rfl); (· rfl); (· rfl); (· rfl)))
      go_ret
      exact ⟨rfl, H1.out⟩
theorem Prepare_nil (W : World) (x : Int) : Calls Try.prog 20 #[.pointer none, .int .u64 x] W fun E W' => E = .returned (.bool false) ∧ ∃ n, W' = W.drewN n := by
  have HO : Hid (Calls Try.prog 26 #[.pointer none, .int .u64 x] W fun E W' => E = .returned (.tuple #[.int .i64 0, .bool false]) ∧ ∃ n, W' = W.drewN n) := Lib.hid (by
    go_enter Try.func26, Try.ntmps26
    go_wp2_with (go_at_call 13; refine (voted_nil _ _).mono ?_; rintro E w1 ⟨rfl, rfl⟩)
    go_quiet (fail)
    go_wp2_with fail
    exact bodyPost_ret (results_tmp2 rfl _ _ _) rfl ⟨rfl, _, rfl⟩)
  go_enter Try.func20, Try.ntmps20
  go_wp2_with (go_at_call 26; refine HO.out.mono ?_; rintro E w1 ⟨rfl, nq, rfl⟩)
  go_ret
  exact ⟨rfl, _, rfl⟩
end Go.Proofs.Ytolpkoeojljfaaa
