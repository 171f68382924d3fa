/-
  What is proved: the document's own past in memory, and the calls that only look at it. Conditions as stated.
-/
import Derived.Test.YtolpkoeojljfaaaPl
import Derived.Laws.OwnMore
namespace Go.Proofs.Ytolpkoeojljfaaa
open Go.RowKit
set_option maxRecDepth 100000

def vtC (L : List (Nat × Nat)) : List Value := L.flatMap fun q => [.int .u64 (q.1 : Int), .int .i64 (q.2 : Int)]
theorem vtC_length (L : List (Nat × Nat)) : (vtC L).length = L.length * 2 := by
  induction L with
  | nil => rfl
  | cons q r ih =>
    have e : vtC (q :: r) = .int .u64 (q.1 : Int) :: .int .i64 (q.2 : Int) :: vtC r := rfl
    rw [e, List.length_cons, List.length_cons, List.length_cons, ih]
    omega
theorem vtC_app (L R : List (Nat × Nat)) : vtC (L ++ R) = vtC L ++ vtC R := by simp [vtC]
theorem vtC_at (L : List (Nat × Nat)) (i : Nat) (q : Nat × Nat) (h : L[i]? = some q) : (vtC L)[i * 2]? = some (.int .u64 (q.1 : Int)) ∧ (vtC L)[i * 2 + 1]? = some (.int .i64 (q.2 : Int)) := by
  induction L generalizing i with
  | nil => cases h
  | cons a r ih =>
    have e : vtC (a :: r) = .int .u64 (a.1 : Int) :: .int .i64 (a.2 : Int) :: vtC r := rfl
    rw [e]
    cases i with
    | zero => simp at h; subst h; exact ⟨rfl, rfl⟩
    | succ i =>
      have := ih i (by simpa using h)
      rw [show (i + 1) * 2 = i * 2 + 2 by omega]
      exact this
structure RfAt (W : World) (b : Nat) (A : Option Addr) (c : Nat) (p : MPast) : Prop where
  top : W.heap[b]? = some (.cells [Value.int .u64 (p.great : Int), .slice A p.L.length c].toArray 36 (0, 0))
  row : W.ownsRow 0 42 2 (.slice A p.L.length c) p.L.length (vtC p.L)
def OnR (b : Nat) (A : Option Addr) (k : Nat) : Prop := k = b ∨ (Value.slice A 0 0).ownBlock = some k
theorem own_slice (A : Option Addr) (n c n' c' : Nat) : (Value.slice A n c).ownBlock = (Value.slice A n' c').ownBlock := by cases A <;> rfl
def rfT (b : Nat) (A : Option Addr) (c : Nat) (p : MPast) : Thing := ⟨fun W => RfAt W b A c p, OnR b A⟩
theorem rfT_ok (b : Nat) (A : Option Addr) (c : Nat) (p : MPast) : (rfT b A c p).Ok := by
  refine ⟨fun W W' (h : RfAt W b A c p) hk => ⟨(hk b (.inl rfl)).trans h.top, ownsRow_kept h.row fun k e => hk k (.inr ((own_slice A _ _ _ _).trans e))⟩, fun W (h : RfAt W b A c p) k hk => ?_⟩
  rcases hk with rfl | hk
  · exact (Array.getElem?_eq_some_iff.1 h.top).1
  · exact ownsRow_lt h.row k ((own_slice A _ _ _ _).trans hk)
theorem RfAt.apart {W : World} {b : Nat} {A : Option Addr} {c : Nat} {p : MPast} (h : RfAt W b A c p) : ∀ k, (Value.slice A 0 0).ownBlock = some k → k ≠ b := by
  intro k e x
  obtain ⟨C, h4⟩ := ownsRow_block h.row k ((own_slice A _ _ _ _).trans e)
  have := h.top
  rw [← x, h4] at this
  simp at this
def RfIs (v W : World) (os : List Thing) (b : Nat) (p : MPast) : Prop := ∃ A c, Fr v W (rfT b A c p :: os)
theorem RfIs.below {v W W' : World} {os : List Thing} {b : Nat} {p : MPast} (h : RfIs v W os b p) (hb : Below W.heap.size W W') : RfIs v W' os b p := let ⟨rv, mb, H⟩ := h; ⟨rv, mb, H.below hb⟩
theorem RfIs.drewN {v W : World} {os : List Thing} {b : Nat} {p : MPast} (h : RfIs v W os b p) (n : Nat) : RfIs v (W.drewN n) os b p := let ⟨rv, mb, H⟩ := h; ⟨rv, mb, H.drewN n⟩
/-- What a walk wants of it. -/
structure RfF (W : World) (b g m c : Nat) (p : MPast) : Prop where
  c0 : W.cell? ⟨b, 0, none⟩ = some (.int .u64 (p.great : Int))
  c1 : W.cell? ⟨b, 1, none⟩ = some (.slice (some ⟨g, 0, none⟩) (m + 1) c)
  d0 : W.cell? ⟨g, m * 2, none⟩ = some (.int .u64 ((lst p).1 : Int))
  d1 : W.cell? ⟨g, m * 2 + 1, none⟩ = some (.int .i64 ((lst p).2 : Int))
  f0 : W.frozen? ⟨b, 0, none⟩ = false
  f1 : W.frozen? ⟨b, 1, none⟩ = false
  fg : W.frozen? ⟨g, m * 2 + 1, none⟩ = false
  len : m + 1 = p.L.length
  big : m < 1073741824
theorem InvP.at {p : MPast} {N m : Nat} (h : InvP p N) (hm : m + 1 = p.L.length) : p.L[m]? = some (lst p) := by
  rw [h.split, List.getElem?_append_right (by rw [List.length_dropLast]; omega), List.length_dropLast]
  have : m - (p.L.length - 1) = 0 := by omega
  rw [this]; rfl
theorem RfAt.facts {W : World} {b : Nat} {A : Option Addr} {c : Nat} {p : MPast} {N : Nat} (h : RfAt W b A c p) (hi : InvP p N) : ∃ g m, A = some ⟨g, 0, none⟩ ∧ RfF W b g m c p := by
  have hl : 0 < p.L.length := List.length_pos_iff.2 hi.ne
  obtain ⟨m, hm⟩ : ∃ m, m + 1 = p.L.length := ⟨p.L.length - 1, by omega⟩
  obtain ⟨A2, c2, e, _, hs, h0⟩ := row_shape h.row
  injection e with e1 e2 e3
  subst e1
  cases A with
  | none => have := (h0 rfl).1; omega
  | some ad =>
    obtain ⟨g, e, hg⟩ := hs ad rfl
    subst e
    obtain ⟨C, hC⟩ := ownsRow_block h.row g rfl
    have hv := vtC_at p.L m _ (hi.at hm)
    have h1 := hg (m * 2) _ hv.1
    have h2 := hg (m * 2 + 1) _ hv.2
    rw [Nat.zero_add] at h1 h2
    refine ⟨g, m, rfl, block_cell h.top 0 _ rfl, ?_, h1, h2, free_block h.top 0, free_block h.top 1, free_block hC _, hm, by have := hi.ok.len; omega⟩
    rw [hm]
    exact block_cell h.top 1 _ rfl
theorem RfIs.facts {v W : World} {os : List Thing} {b : Nat} {p : MPast} {N : Nat} (h : RfIs v W os b p) (hi : InvP p N) : ∃ g m c, RfF W b g m c p := by
  obtain ⟨A, c, H⟩ := h
  obtain ⟨g, m, _, hf⟩ := RfAt.facts (show RfAt W b A c p from H.hd) hi
  exact ⟨g, m, c, hf⟩
theorem rlast_any {W : World} {b g m c : Nat} {p : MPast} (h : RfF W b g m c p) : Calls Try.prog 27 #[.pointer (some ⟨b, 0, none⟩)] W fun E W' => E = .returned (.int .u64 ((lst p).1 : Int)) ∧ ∃ n, W' = W.drewN n := by
  obtain ⟨c0, c1, d0, d1, f0, f1, fg, hl, hb⟩ := h
  generalize (lst p).1 = l at d0 ⊢
  have hm0 : (0 : Int) ≤ (m : Int) := by omega
  have hm1 : (m : Int) < 1073741824 := by omega
  have hi1 : IntKind.i64.wrap ((m : Int) + 1 - 1) = (m : Int) := by rw [IntKind.wrap_i64]; omega
  clear hl hb c0 d1 f0 f1 fg
  go_enter Try.func27, Try.ntmps27
  go_wp2_with fail
  go_quiet (fail)
  go_wp2_with fail
  go_ret
  exact ⟨rfl, _, rfl⟩
end Go.Proofs.Ytolpkoeojljfaaa
