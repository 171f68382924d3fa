/-
  What is proved: plain facts on a book: its records, what an Open and an Append that nothing disturbs leave. Conditions as stated.
-/
import Derived.Test.YtfegffdhlkhjbaaBn
namespace Go.Proofs.Ytfegffdhlkhjbaa
open Go.RowKit
set_option maxRecDepth 100000

/-- Records stand one behind the other, each with its life; the first has the number n. -/
def Stand (s : Dk) : Int → Nat → List (Nat × List UInt8) → Prop
  | _, _, [] => True
  | y, n, p :: q => RecIs s y p.1 n p.2 ∧ Stand s (y + pagesN p.2.length) (n + 1) q
def endOf : Int → List (Nat × List UInt8) → Int
  | y, [] => y
  | y, p :: q => endOf (y + pagesN p.2.length) q
def lastL : Nat → List (Nat × List UInt8) → Nat
  | a, [] => a
  | _, p :: q => lastL p.1 q
def Rising : Nat → Nat → List (Nat × List UInt8) → Prop
  | _, _, [] => True
  | a, M, p :: q => a ≤ p.1 ∧ p.1 ≤ M ∧ p.2.length ≤ 4096 ∧ Rising p.1 M q
def recsOf (q : List (Nat × List UInt8)) : List (List UInt8) := q.map (·.2)
theorem recsOf_snoc (q : List (Nat × List UInt8)) (l : Nat) (r : List UInt8) : recsOf (q ++ [(l, r)]) = recsOf q ++ [r] := by simp [recsOf]
theorem recsOf_length (q : List (Nat × List UInt8)) : (recsOf q).length = q.length := by simp [recsOf]
theorem endOf_ge : ∀ (q : List (Nat × List UInt8)) (y : Int), y + q.length ≤ endOf y q
  | [], y => by simp [endOf]
  | p :: q, y => by
    have h1 := endOf_ge q (y + pagesN p.2.length)
    have h2 := pagesN_pos p.2.length
    rw [endOf, List.length_cons]
    omega
theorem endOf_snoc (l : Nat) (r : List UInt8) : ∀ (q : List (Nat × List UInt8)) (y : Int), endOf y (q ++ [(l, r)]) = endOf y q + pagesN r.length
  | [], y => rfl
  | p :: q, y => by rw [List.cons_append, endOf, endOf_snoc l r q, endOf]
theorem lastL_snoc (l : Nat) (r : List UInt8) : ∀ (q : List (Nat × List UInt8)) (a : Nat), lastL a (q ++ [(l, r)]) = l
  | [], _ => rfl
  | p :: q, _ => by rw [List.cons_append, lastL, lastL_snoc l r q]
theorem lastL_le : ∀ {q : List (Nat × List UInt8)} {a M : Nat}, Rising a M q → a ≤ M → a ≤ lastL a q ∧ lastL a q ≤ M
  | [], _, _, _, h => ⟨Nat.le_refl _, h⟩
  | p :: q, a, M, h, _ => by
    obtain ⟨h1, h2, _, h4⟩ := h
    have := lastL_le h4 h2
    rw [lastL]
    omega
theorem rising_snoc {l M : Nat} {r : List UInt8} (hl : l ≤ M) (hr : r.length ≤ 4096) : ∀ {q : List (Nat × List UInt8)} {a : Nat}, Rising a M q → lastL a q ≤ l → Rising a M (q ++ [(l, r)])
  | [], _, _, h => ⟨h, hl, hr, trivial⟩
  | _ :: _, _, ⟨h1, h2, h3, h4⟩, h => ⟨h1, h2, h3, rising_snoc hl hr h4 h⟩
theorem rising_more {M M' : Nat} (hM : M ≤ M') : ∀ {q : List (Nat × List UInt8)} {a : Nat}, Rising a M q → Rising a M' q
  | [], _, _ => trivial
  | _ :: _, _, ⟨h1, h2, h3, h4⟩ => ⟨h1, Nat.le_trans h2 hM, h3, rising_more hM h4⟩
theorem stand_snoc {s : Dk} {l : Nat} {r : List UInt8} : ∀ {q : List (Nat × List UInt8)} {y : Int} {n : Nat}, Stand s y n q → RecIs s (endOf y q) l (n + q.length) r → Stand s y n (q ++ [(l, r)])
  | [], _, _, _, h => ⟨h, trivial⟩
  | p :: q, y, n, ⟨h1, h2⟩, h => ⟨h1, stand_snoc h2 (by rw [show n + 1 + q.length = n + (p :: q).length by rw [List.length_cons]; omega]; exact h)⟩
theorem stand_congr {s s' : Dk} : ∀ {q : List (Nat × List UInt8)} {y : Int} {n : Nat}, Stand s y n q → (∀ z, y ≤ z → z < endOf y q → s'.read z = s.read z) → Stand s' y n q
  | [], _, _, _, _ => trivial
  | p :: q, y, n, ⟨h1, h2⟩, h => by
    have hg := endOf_ge q (y + pagesN p.2.length)
    rw [endOf] at h
    exact ⟨fun k hk => by rw [h _ (by omega) (by omega)]; exact h1 k hk, stand_congr h2 fun z hz1 hz2 => h z (by omega) hz2⟩
/-- What is read where records stand. -/
theorem goRec_stand {s : Dk} {E : Int} {M : Nat} (hM : M < 18446744073709551616) : ∀ (q : List (Nat × List UInt8)) (y : Int) (a f : Nat) (rs : List (List UInt8)), Stand s y (rs.length + 1) q → Rising a M q → endOf y q ≤ E → rs.length + q.length < 1000000000 →
    nextAt s E M (endOf y q) (rs.length + q.length) (lastL a q) = none → q.length ≤ f → goRec s E M f y a rs = (endOf y q, rs ++ recsOf q)
  | [], y, a, f, rs, _, _, _, _, hno, _ => by
    rw [goRec_none (by simpa [endOf, lastL] using hno)]
    simp [endOf, recsOf]
  | p :: q, y, a, f, rs, ⟨h1, h2⟩, ⟨h3, h4, h5, h6⟩, hE, hc, hno, hf => by
    rw [List.length_cons] at hc hf hno
    obtain ⟨f', rfl⟩ : ∃ f', f = f' + 1 := ⟨f - 1, by omega⟩
    have hg := endOf_ge q (y + pagesN p.2.length)
    rw [endOf] at hE hno ⊢
    rw [lastL] at hno
    rw [goRec_some (nextAt_is h1 (by omega) (by omega) h5 (by omega) h3 h4)]
    simp only
    have e : (rs ++ [p.2]).length = rs.length + 1 := by simp
    rw [goRec_stand hM q (y + pagesN p.2.length) p.1 f' (rs ++ [p.2]) (by rw [e]; exact h2) h6 hE (by rw [e]; omega) (by rw [e, show rs.length + 1 + q.length = rs.length + (q.length + 1) by omega]; exact hno) (by omega)]
    simp [recsOf]
/-- Behind the last page there is none. -/
theorem nextAt_end {s : Dk} {E : Int} {M cnt a : Nat} : nextAt s E M E cnt a = none := by
  unfold nextAt
  split
  · rfl
  · rw [Option.map_eq_none_iff]
    unfold recAt
    split
    · rfl
    · rename_i h
      have h0 : (headAt s E).2.2.2 = 0 := by omega
      rw [h0]
      rfl
theorem nextAt_low {s : Dk} {E y : Int} {M cnt a : Nat} (h : (headAt s y).1 < a) : nextAt s E M y cnt a = none := by
  unfold nextAt
  rw [if_pos (.inl h)]
theorem nextAt_high {s : Dk} {E y : Int} {M cnt a : Nat} (h : M < (headAt s y).1) : nextAt s E M y cnt a = none := by
  unfold nextAt
  rw [if_pos (.inr h)]

def lifeB (M : Nat) : List UInt8 := if M = 0 then [] else Oct.be 8 M
theorem lifeB_num {M : Nat} (h : M < 18446744073709551616) : Oct.num (lifeB M) = M := by
  unfold lifeB
  split
  · rename_i h0; rw [h0]; rfl
  · exact num_be 8 M h
theorem lifeB_ok (M : Nat) : ¬ lifeBad (lifeB M) := by
  unfold lifeBad lifeB
  split
  · simp
  · simp [Oct.be_length]
theorem lifeB_len (M : Nat) : (lifeB M).length ≤ 8 := by
  unfold lifeB
  split
  · simp
  · simp [Oct.be_length]

/-- A book stands from x to E: its life is M; its records, each with its life; no page behind tells of a life above K, but of one that none has. -/
structure BookIs (s : Dk) (x E : Int) (M K : Nat) (q : List (Nat × List UInt8)) (a na C : Nat) : Prop where
  cell : CellIs s x a na (lifeB M) C
  stand : Stand s (x + 20) 1 q
  rise : Rising 1 M q
  fit : endOf (x + 20) q ≤ E
  stop : ∀ M', M ≤ M' → M' < 1000000 → nextAt s E M' (endOf (x + 20) q) q.length (lastL 1 q) = none
  low : ∀ z, endOf (x + 20) q ≤ z → z < E → (headAt s z).1 ≤ K ∨ 1000000 ≤ (headAt s z).1
  many : q.length < 1000000
  life : M < 1000000
theorem BookIs.readAll {s : Dk} {x E : Int} {M K a na C M' : Nat} {q : List (Nat × List UInt8)} (h : BookIs s x E M K q a na C) (hM : M ≤ M') (hM' : M' < 1000000) : readAll s (x + 20) E M' = (endOf (x + 20) q, recsOf q) := by
  have hg := endOf_ge q (x + 20)
  have hf := h.fit
  have hm := h.many
  have := goRec_stand (by omega) q (x + 20) 1 ((E - (x + 20)).toNat + 1) [] h.stand (rising_more hM h.rise) h.fit (by simp; omega) (by simpa using h.stop M' hM hM') (by omega)
  simpa [Go.Proofs.Ytfegffdhlkhjbaa.readAll] using this
theorem headAt_congr {s s' : Dk} {z : Int} (h : s'.read z = s.read z) : headAt s' z = headAt s z ∧ partAt s' z = partAt s z := by
  unfold headAt partAt
  rw [h]
  exact ⟨rfl, rfl⟩
theorem recGo_congr {s s' : Dk} {y : Int} {l n p : Nat} : ∀ k, (∀ i : Nat, i < k → s'.read (y + i) = s.read (y + i)) → recGo s' y l n p k = recGo s y l n p k
  | 0, _ => rfl
  | k + 1, h => by
    obtain ⟨h1, h2⟩ := headAt_congr (h k (by omega))
    rw [recGo, recGo, recGo_congr k (fun i hi => h i (by omega)), h1, h2]
theorem nextAt_congr {s s' : Dk} {E y : Int} {M cnt a : Nat} (hy : y ≤ E) (h : ∀ z, y ≤ z → z < E → s'.read z = s.read z) : nextAt s' E M y cnt a = nextAt s E M y cnt a := by
  by_cases hE : y = E
  · subst hE
    rw [nextAt_end, nextAt_end]
  · have h0 := (headAt_congr (h y (by omega) (by omega))).1
    unfold nextAt
    rw [h0]
    split
    · rfl
    · congr 1
      unfold recAt
      split
      · rfl
      · rename_i hp
        rw [recGo_congr _ fun i hi => h _ (by omega) (by omega)]
/-- The cell is put anew. -/
theorem BookIs.reopen {s s' : Dk} {x E : Int} {M K a na C a' na' C' M2 : Nat} {q : List (Nat × List UInt8)} (h : BookIs s x E M K q a na C) (hc : CellIs s' x a' na' (lifeB M2) C') (hM : M ≤ M2) (hM2 : M2 < 1000000) (hr : ∀ z, x + 20 ≤ z → z < E → s'.read z = s.read z) : BookIs s' x E M2 K q a' na' C' := by
  have hg := endOf_ge q (x + 20)
  have hf := h.fit
  refine ⟨hc, stand_congr h.stand fun z h1 h2 => hr z h1 (by omega), rising_more hM h.rise, h.fit, fun M' hM' hM3 => ?_, fun z h1 h2 => ?_, h.many, hM2⟩
  · rw [nextAt_congr h.fit fun z h1 h2 => hr z (by omega) h2]
    exact h.stop M' (by omega) hM3
  · rw [(headAt_congr (hr z (by omega) h2)).1]
    exact h.low z h1 h2
/-- One more record, of the book's own life. -/
theorem BookIs.snoc {s s' : Dk} {x E : Int} {M K a na C : Nat} {q : List (Nat × List UInt8)} (h : BookIs s x E M K q a na C) (hK : K < M) (r : List UInt8) (hr : r.length ≤ 4096) (hE : endOf (x + 20) q + pagesN r.length ≤ E) (hE2 : E ≤ 32768) (hx : 0 ≤ x) (hq : q.length + 1 < 1000000)
    (hread : ∀ z, 0 ≤ z ∧ z < 32768 → s'.read z = if endOf (x + 20) q ≤ z ∧ z < endOf (x + 20) q + pagesN r.length then (pageF M (q.length + 1) r (z - endOf (x + 20) q).toNat, 0) else s.read z) : BookIs s' x E M K (q ++ [(M, r)]) a na C := by
  have hg := endOf_ge q (x + 20)
  have hf := h.fit
  have hl := h.life
  have hL := lastL_le h.rise (by omega)
  refine ⟨h.cell.congr (fun i hi => by rw [hread _ (by omega), if_neg (by omega)]) (Nat.le_refl _) h.cell.small, stand_snoc (stand_congr h.stand fun z h1 h2 => by rw [hread z (by omega), if_neg (by omega)]) fun k hk => ?_, rising_snoc (Nat.le_refl _) hr h.rise hL.2, by rw [endOf_snoc]; exact hE, fun M' hM' hM3 => ?_, fun z h1 h2 => ?_, by simpa using hq, hl⟩
  · rw [hread _ (by omega), if_pos (by omega), show (endOf (x + 20) q + (k : Int) - endOf (x + 20) q).toNat = k by omega, pageF, Nat.add_comm 1]
  · rw [endOf_snoc, lastL_snoc]
    by_cases he : endOf (x + 20) q + pagesN r.length = E
    · rw [he]
      exact nextAt_end
    · have hh := (headAt_congr (s := s) (s' := s') (z := endOf (x + 20) q + pagesN r.length) (by rw [hread _ (by omega), if_neg (by omega)])).1
      rcases h.low (endOf (x + 20) q + pagesN r.length) (by omega) (by omega) with h3 | h3
      · exact nextAt_low (by rw [hh]; omega)
      · exact nextAt_high (by rw [hh]; omega)
  · rw [endOf_snoc] at h1
    rw [(headAt_congr (s := s) (s' := s') (by rw [hread _ (by omega), if_neg (by omega)])).1]
    exact h.low z (by omega) h2

theorem wrs_okN {s : Dk} {x : Int} {f : Nat → List UInt8} {N : Nat} (ho : s.off = false) (hf : s.fuse = none) (hx : 0 ≤ x ∧ x + N ≤ 32768) : ∀ k, k ≤ N → wrs s x f k = ({ s with loose := s.loose ++ (List.range k).map fun (i : Nat) => (x + (i : Int), f i) }, 0)
  | 0, _ => by simp [wrs]
  | k + 1, hk => by
    have ih := wrs_okN (f := f) ho hf hx k (by omega)
    rw [wrs_next (by rw [ih]), ih]
    simp only
    rw [write_ok (s := { s with loose := s.loose ++ (List.range k).map fun (i : Nat) => (x + (i : Int), f i) }) ho hf (by omega), List.range_succ, List.map_append, List.append_assoc]
    rfl
/-- An Append that nothing disturbs. -/
theorem append_ok {s : Dk} {y : Int} {l n : Nat} {r : List UInt8} (ho : s.off = false) (hf : s.fuse = none) (hy : 0 ≤ y ∧ y + pagesN r.length ≤ 32768) :
    ∃ s', appendD s y l n r = (s', 0) ∧ s'.off = false ∧ s'.fuse = none ∧ s'.loose = [] ∧ ∀ z, 0 ≤ z ∧ z < 32768 → s'.read z = if y ≤ z ∧ z < y + pagesN r.length then (pageF l n r (z - y).toNat, 0) else s.read z := by
  obtain ⟨f, hff⟩ : ∃ f, f = pageF l n r := ⟨_, rfl⟩
  have hw := wrs_okN (f := f) ho hf hy (pagesN r.length) (Nat.le_refl _)
  obtain ⟨h1, h2, h3, h4, h5, _⟩ := sync_ok (s := { s with loose := s.loose ++ (List.range (pagesN r.length)).map fun (i : Nat) => (y + (i : Int), f i) }) ho hf
  refine ⟨(Dk.sync { s with loose := s.loose ++ (List.range (pagesN r.length)).map fun (i : Nat) => (y + (i : Int), f i) }).1, ?_, h2, h3, h4, fun z hz => ?_⟩
  · rw [appendD, ← hff, hw, if_neg (by simp)]
    exact Prod.ext rfl h1
  · rw [h5 z hz, read_on (s := { s with loose := s.loose ++ (List.range (pagesN r.length)).map fun (i : Nat) => (y + (i : Int), f i) }) ho hz, read_on ho hz]
    simp only [lastW_append, lastW_slot]
    rw [← hff]
    by_cases h : y ≤ z ∧ z < y + pagesN r.length
    · rw [if_pos h, if_pos h]
    · rw [if_neg h, if_neg h]

section
variable {w wr : World} {d T : Nat} {s : Dk} {L : List (Nat × Obj)} {x E : Int} {M K a na C g : Nat} {q : List (Nat × List UInt8)}
/-- Open, on a disk that is calm. -/
theorem book_open (h : Dat w d T s L wr) (hc : Calm s) (hT : T < 10000000) (hB : BookIs s x E M K q a na C) (size : Int) (hsz : E = x + size) (hx : 0 ≤ x) (h20 : 20 < size) (hE : E ≤ 32768) (hM : M + 1 < 1000000) (hC : C + 1 < 4611686018427387904) :
    Calls Try.prog 12 #[.pointer (some ⟨d, 0, none⟩), .int .i64 x, .int .i64 size] wr fun E0 w' => ∃ g A n c, E0 = .returned (.tuple #[.pointer (some ⟨g, 0, none⟩), .slice A n c, .int .i64 0]) ∧ ∃ s' LF, Hid (Opened w d (T + 10) s' L g (M + 1) (endOf (x + 20) q) E (recsOf q) A n c LF w' ∧ Calm s' ∧ s'.loose = [] ∧
      BookIs s' x E (M + 1) K q (1 - a) (topGo s x 20 + 1) (C + 1) ∧ ∀ z, 0 ≤ z ∧ z < 32768 → ¬ (x ≤ z ∧ z < x + 20) → s'.read z = s.read z) := by
  have ha := hB.cell.slot
  have hlen := lifeB_len (M + 1)
  obtain ⟨t1, t2⟩ := hB.cell.top_le
  obtain ⟨s', k1, k2, k3, k4, k5⟩ := renew_ok (s := s) (at' := x) (slot := 1 - (a : Int)) (bs := lifeB (M + 1)) hc.1 hc.2 (by omega)
  have e1 : x + (1 - (a : Int)) * 10 = x + ((1 - a : Nat) : Int) * 10 := by omega
  obtain ⟨i1, -⟩ := hB.cell.put (s' := s') (by omega) hC (lifeB (M + 1)) (by omega) (fun y hy => by rw [k5 y hy, e1])
  have hB' := hB.reopen (s' := s') i1 (Nat.le_succ _) hM fun z h1 h2 => by rw [k5 z (by omega), if_neg (by omega)]
  have hlb : lifeB (M + 1) = Oct.be 8 (M + 1) := by rw [lifeB, if_neg (Nat.succ_ne_zero M)]
  have hra := hB'.readAll (Nat.le_refl _) (by omega)
  have hop := open_b (wo := wr) h hc.1 hT x size (by simp [bookBad]; omega) (lifeB M) (a : Int) 0 na (M + 1) (hB.cell.open) (by have := hB.cell.small; omega) (by have := hB.cell.pos; omega) (lifeB_ok M) (by rw [lifeB_num (by omega), IntKind.wrap_u64]; omega) (by rw [← hlb]; exact k1)
  refine hop.mono fun E0 w' hE0 => ?_
  rcases hE0 with ⟨h0, _⟩ | ⟨_, g, A, n, c, h1, LF, h2⟩
  · exact absurd rfl h0
  · rw [← hsz, hra] at h2
    exact ⟨g, A, n, c, h1, s', LF, Lib.hid ⟨h2.out, ⟨k2, k3⟩, k4, hB', fun z hz hn => by rw [k5 z hz, if_neg (by omega)]⟩⟩
/-- Append, on a disk that is calm. -/
theorem book_append (h : Dat w d T s ((g, bookOf d M (q.length : Int) (endOf (x + 20) q) E false) :: L) wr) (hne : ∀ p ∈ L, p.1 ≠ g) (hc : Calm s) (hT : T < 10000000) (hB : BookIs s x E M K q a na C) (hK : K < M) (hx : 0 ≤ x) (hE : E ≤ 32768) (hq : q.length + 1 < 1000000)
    (A : Option Addr) (n cc : Nat) (r : List UInt8) (hr : Oct.Rd wr A n r) (hs : Oct.Sl A n cc) (hn : n ≤ 4096) (hf : endOf (x + 20) q + pagesN n ≤ E) :
    Calls Try.prog 14 #[.pointer (some ⟨g, 0, none⟩), .slice A n cc] wr fun E0 w' => E0 = .returned (.int .i64 0) ∧ ∃ s', Hid (Dat w d (T + pagesN n) s' ((g, bookOf d M ((q ++ [(M, r)]).length : Int) (endOf (x + 20) (q ++ [(M, r)])) E false) :: L) w' ∧ Calm s' ∧ s'.loose = [] ∧
      BookIs s' x E M K (q ++ [(M, r)]) a na C ∧ ∀ z, 0 ≤ z ∧ z < 32768 → ¬ (endOf (x + 20) q ≤ z ∧ z < endOf (x + 20) q + pagesN n) → s'.read z = s.read z) := by
  have hg := endOf_ge q (x + 20)
  have hl := hr.1
  rw [← hl] at hf
  obtain ⟨s', k1, k2, k3, k4, k5⟩ := append_ok (s := s) (y := endOf (x + 20) q) (l := M) (n := q.length + 1) (r := r) hc.1 hc.2 (by omega)
  have hB' := hB.snoc (s' := s') hK r (by omega) hf hE hx hq k5
  refine (append_go h hne hT A n cc r hr hs hn (by omega) (by rw [← hl]; exact hf) hE (by omega) k1).mono fun E0 w' ⟨h1, h2⟩ => ⟨h1, s', ?_⟩
  rcases h2.out with ⟨h0, _⟩ | ⟨_, h3⟩
  · exact absurd rfl h0
  · refine Lib.hid ⟨?_, ⟨k2, k3⟩, k4, hB', fun z hz hn => by rw [k5 z hz, if_neg (by rw [hl]; exact hn)]⟩
    rw [endOf_snoc, hl, List.length_append]
    exact h3
end
/-- A new book, on a disk whose pages are noughts. -/
theorem book_new {s3 : Dk} {x E : Int} (hx : 0 ≤ x ∧ x + 20 ≤ E) (hc : CellIs s3 x 0 2 [] 2) (hr : ∀ z, x + 20 ≤ z → z < E → s3.read z = (zeros, 0)) : BookIs s3 x E 0 0 [] 0 2 2 := by
  have hh : ∀ z, x + 20 ≤ z → z < E → (headAt s3 z).1 = 0 := fun z h1 h2 => by
    unfold headAt
    rw [hr z h1 h2, if_neg (by simp)]
    decide
  refine ⟨hc, trivial, trivial, by simp only [endOf]; omega, fun M' _ _ => ?_, fun z h1 h2 => .inl (by rw [hh z h1 h2]; exact Nat.le_refl _), by simp, by omega⟩
  simp only [endOf, lastL]
  by_cases he : x + 20 = E
  · rw [he]
    exact nextAt_end
  · exact nextAt_low (by rw [hh _ (by omega) (by omega)]; omega)
end Go.Proofs.Ytfegffdhlkhjbaa
