/-
  What is proved: Open and Append with a fuse; a slice of crashes that came in reads as such. Conditions as stated.
-/
import Derived.Test.YtfegffdhlkhjbaaBu
namespace Go.Proofs.Ytfegffdhlkhjbaa
open Go.RowKit
set_option maxRecDepth 100000

/-- Wherever the power goes now, and whatever is picked: the records are there, behind them the last one or nothing. -/
def Rdy (s : Dk) (E : Int) (q : List (Nat × List UInt8)) (last : Option (List UInt8)) (Mb Cb : Nat) : Prop :=
  ∀ picks, ∃ s2 M2 K2 q2 a na C, s.offed.on picks = (s2, 0) ∧ Calm s2 ∧ s2.loose = [] ∧ BookIs s2 0 E M2 K2 q2 a na C ∧ K2 ≤ M2 ∧ M2 ≤ Mb ∧ C ≤ Cb ∧ (q2 = q ∨ ∃ l r, last = some r ∧ q2 = q ++ [(l, r)])
theorem BookIs.rdy {s : Dk} {E : Int} {M K a na C Mb Cb : Nat} {q : List (Nat × List UInt8)} (h : BookIs s 0 E M K q a na C) (hE : E ≤ 32768) (ho : s.off = false) (hl : s.loose = []) (hK : K ≤ M) (hM : M ≤ Mb) (hC : C ≤ Cb) : Rdy s E q none Mb Cb := fun picks => by
  obtain ⟨s2, h1, h2, h3, h4⟩ := on_end (s' := s) (x := 0) (f := fun _ => []) (j := 0) (by rw [hl]; rfl) picks
  have hs : ∀ y, s2.sure y = s.sure y := fun y => by
    rcases h4 y with h | ⟨i, hi, _⟩
    · exact h
    · omega
  have hr : ∀ y, 0 ≤ y ∧ y < 32768 → s2.read y = s.read y := fun y hy => read_same ho hl h2.1 h3 hy (hs y)
  have hg := endOf_ge q (0 + 20)
  have hf := h.fit
  exact ⟨s2, M, K, q, a, na, C, h1, h2, h3, h.reopen (h.cell.congr (fun i hi => hr _ (by omega)) (Nat.le_refl _) h.cell.small) (Nat.le_refl _) h.life fun z h1 h2 => hr z (by omega), hK, hM, hC, .inl rfl⟩

section
variable {w wr : World} {d T : Nat} {s : Dk} {L : List (Nat × Obj)} {E : Int} {M K a na C g : Nat} {q : List (Nat × List UInt8)}
/-- Open, with the power going anywhere. -/
theorem book_open_fused (h : Dat w d T s L wr) (ho : s.off = false) (hl : s.loose = []) (hT : T < 10000000) (hB : BookIs s 0 E M K q a na C) (hKM : K ≤ M) (h20 : 20 < E) (hE : E ≤ 32768) (hM : M + 1 < 1000000) (hC : C + 1 < 4611686018427387904) :
    Calls Try.prog 12 #[.pointer (some ⟨d, 0, none⟩), .int .i64 0, .int .i64 E] wr fun E0 w' =>
      (E0 = .returned (.tuple #[.pointer none, .slice none 0 0, .int .i64 8]) ∧ ∃ s', Hid (Dat w d (T + 10) s' L w' ∧ Rdy s' E q none (M + 1) (C + 1))) ∨
      (∃ g A n c, E0 = .returned (.tuple #[.pointer (some ⟨g, 0, none⟩), .slice A n c, .int .i64 0]) ∧ ∃ s' LF, Hid (Opened w d (T + 10) s' L g (M + 1) (endOf (0 + 20) q) E (recsOf q) A n c LF w' ∧ s'.off = false ∧ s'.loose = [] ∧ ∃ a' na', BookIs s' 0 E (M + 1) K q a' na' (C + 1))) := by
  have ha := hB.cell.slot
  have hlen := lifeB_len (M + 1)
  obtain ⟨t1, t2⟩ := hB.cell.top_le
  have hg := endOf_ge q (0 + 20)
  have hf := hB.fit
  obtain ⟨s', e, k1, k2⟩ := put_end (s := s) (x := 0 + (1 - (a : Int)) * 10) (f := sect (topGo s 0 20 + 1) (lifeB (M + 1))) (N := 10) ho hl (by omega)
  have k1' : renewD s 0 (1 - (a : Int)) (lifeB (M + 1)) = (s', e) := k1
  have e1 : (0 : Int) + (1 - (a : Int)) * 10 = 0 + ((1 - a : Nat) : Int) * 10 := by omega
  have hlb : lifeB (M + 1) = Oct.be 8 (M + 1) := by rw [lifeB, if_neg (Nat.succ_ne_zero M)]
  have hop := open_b (wo := wr) h ho hT 0 E (by simp [bookBad]; omega) (lifeB M) (a : Int) e na (M + 1) (hB.cell.open) (by have := hB.cell.small; omega) (by have := hB.cell.pos; omega) (lifeB_ok M) (by rw [lifeB_num (by have := hB.life; omega), IntKind.wrap_u64]; omega) (by rw [← hlb]; exact k1')
  rcases k2 with ⟨rfl, k3, k4, k5⟩ | ⟨rfl, k3, j, hj, k4⟩
  · -- the power has stayed
    have hread : ∀ y, 0 ≤ y ∧ y < 32768 → s'.read y = if 0 + ((1 - a : Nat) : Int) * 10 ≤ y ∧ y < 0 + ((1 - a : Nat) : Int) * 10 + 10 then (sect (topGo s 0 20 + 1) (lifeB (M + 1)) (y - (0 + ((1 - a : Nat) : Int) * 10)).toNat, 0) else s.read y := fun y hy => by
      rw [read_sure k3 k4 hy, k5, e1]
      by_cases hr : 0 + ((1 - a : Nat) : Int) * 10 ≤ y ∧ y < 0 + ((1 - a : Nat) : Int) * 10 + 10
      · rw [if_pos hr, if_pos (by omega)]
      · rw [if_neg hr, if_neg (by omega), read_sure ho hl hy]
    obtain ⟨i1, -⟩ := hB.cell.put (s' := s') (by omega) hC (lifeB (M + 1)) (by omega) hread
    have hB' := hB.reopen (s' := s') i1 (Nat.le_succ _) hM fun z h1 h2 => by rw [hread z (by omega), if_neg (by omega)]
    have hra := hB'.readAll (Nat.le_refl _) (by omega)
    refine hop.mono fun E0 w' hE0 => .inr ?_
    rcases hE0 with ⟨h0, _⟩ | ⟨_, g, A, n, c, h1, LF, h2⟩
    · exact absurd rfl h0
    · rw [show (0 : Int) + E = E by omega, hra] at h2
      exact ⟨g, A, n, c, h1, s', LF, Lib.hid ⟨h2.out, k3, k4, _, _, hB'⟩⟩
  · refine hop.mono fun E0 w' hE0 => .inl ?_
    rcases hE0 with ⟨_, h1, h2⟩ | ⟨h0, _⟩
    · refine ⟨h1, s', Lib.hid ⟨h2.out, fun picks => ?_⟩⟩
      obtain ⟨s2, c1, c2, c3, c4⟩ := on_end (s' := s') k4 picks
      rw [k3] at c4
      have hbec : Became s s2 (0 + ((1 - a : Nat) : Int) * 10) (sect (topGo s 0 20 + 1) (lifeB (M + 1))) := fun y => (c4 y).imp id fun ⟨i, hi, hy, hz⟩ => ⟨i, by omega, by omega, hz⟩
      have hr2 : ∀ z, (0 : Int) + 20 ≤ z → z < E → s2.read z = s.read z := fun z h1 h2 => by
        refine read_same ho hl c2.1 c3 (by omega) ?_
        rcases c4 z with h | ⟨i, hi, hz, _⟩
        · exact h
        · omega
      rcases hB.cell.crash (by omega) hC (lifeB (M + 1)) (by omega) ho hl c2.1 c3 hbec with hcell | ⟨hcell, _⟩
      · exact ⟨s2, M + 1, K, q, _, _, C + 1, c1, c2, c3, hB.reopen hcell (Nat.le_succ _) hM hr2, by omega, Nat.le_refl _, Nat.le_refl _, .inl rfl⟩
      · exact ⟨s2, M, K, q, _, _, C + 1, c1, c2, c3, hB.reopen hcell (Nat.le_refl _) (by omega) hr2, hKM, by omega, Nat.le_refl _, .inl rfl⟩
    · exact absurd h0 (by decide)
/-- Append, with the power going anywhere. -/
theorem book_append_fused (h : Dat w d T s ((g, bookOf d M (q.length : Int) (endOf (0 + 20) q) E false) :: L) wr) (hne : ∀ p ∈ L, p.1 ≠ g) (ho : s.off = false) (hl : s.loose = []) (hT : T < 10000000) (hB : BookIs s 0 E M K q a na C) (hK : K < M) (hE : E ≤ 32768) (hq : q.length + 1 < 1000000)
    (A : Option Addr) (n cc : Nat) (r : List UInt8) (hr : Oct.Rd wr A n r) (hs : Oct.Sl A n cc) (hn : n ≤ 4096) (hf : endOf (0 + 20) q + pagesN n ≤ E) :
    Calls Try.prog 14 #[.pointer (some ⟨g, 0, none⟩), .slice A n cc] wr fun E0 w' =>
      (E0 = .returned (.int .i64 0) ∧ ∃ s', Hid (Dat w d (T + pagesN n) s' ((g, bookOf d M ((q ++ [(M, r)]).length : Int) (endOf (0 + 20) (q ++ [(M, r)])) E false) :: L) w' ∧ s'.off = false ∧ s'.loose = [] ∧ BookIs s' 0 E M K (q ++ [(M, r)]) a na C)) ∨
      (E0 = .returned (.int .i64 8) ∧ ∃ s', Hid (Dat w d (T + pagesN n) s' ((g, bookOf d M (q.length : Int) (endOf (0 + 20) q) E true) :: L) w' ∧ Rdy s' E q (some r) M C)) := by
  have hg := endOf_ge q (0 + 20)
  have hlr := hr.1
  rw [← hlr] at hf
  obtain ⟨s', e, k1, k2⟩ := put_end (s := s) (x := endOf (0 + 20) q) (f := pageF M (q.length + 1) r) (N := pagesN r.length) ho hl (by omega)
  have k1' : appendD s (endOf (0 + 20) q) M (q.length + 1) r = (s', e) := k1
  refine (append_go h hne hT A n cc r hr hs hn (by omega) (by rw [← hlr]; exact hf) hE (by omega) k1').mono fun E0 w' ⟨h1, h2⟩ => ?_
  rcases k2 with ⟨rfl, k3, k4, k5⟩ | ⟨rfl, k3, j, hj, k4⟩
  · have hread : ∀ z, 0 ≤ z ∧ z < 32768 → s'.read z = if endOf (0 + 20) q ≤ z ∧ z < endOf (0 + 20) q + pagesN r.length then (pageF M (q.length + 1) r (z - endOf (0 + 20) q).toNat, 0) else s.read z := fun z hz => by
      rw [read_sure k3 k4 hz, k5]
      by_cases hr : endOf (0 + 20) q ≤ z ∧ z < endOf (0 + 20) q + pagesN r.length
      · rw [if_pos hr, if_pos hr]
      · rw [if_neg hr, if_neg hr, read_sure ho hl hz]
    have hB' := hB.snoc (s' := s') hK r (by omega) hf hE (by omega) hq hread
    refine .inl ⟨h1, s', ?_⟩
    rcases h2.out with ⟨h0, _⟩ | ⟨_, h3⟩
    · exact absurd rfl h0
    · refine Lib.hid ⟨?_, k3, k4, hB'⟩
      rw [endOf_snoc, hlr, List.length_append]
      exact h3
  · refine .inr ⟨h1, s', ?_⟩
    rcases h2.out with ⟨_, h3⟩ | ⟨h0, _⟩
    · refine Lib.hid ⟨h3, fun picks => ?_⟩
      obtain ⟨s2, c1, c2, c3, c4⟩ := on_end (s' := s') k4 picks
      rw [k3] at c4
      rcases hB.torn hK ho hl c2.1 c3 r (by omega) hf hE (by omega) hq (fun z => (c4 z).imp id fun ⟨i, hi, hz⟩ => ⟨i, by omega, hz⟩) with hb | hb
      · exact ⟨s2, M, M, q, a, na, C, c1, c2, c3, hb, Nat.le_refl _, Nat.le_refl _, Nat.le_refl _, .inl rfl⟩
      · exact ⟨s2, M, K, _, a, na, C, c1, c2, c3, hb, by omega, Nat.le_refl _, Nat.le_refl _, .inr ⟨M, r, rfl, rfl⟩⟩
    · exact absurd h0 (by decide)
end

open Go.ChangeShapes Go.WideShapes Go.Deep
theorem add_plain2 (b o i j : Nat) : (((⟨b, o, none⟩ : Addr).add i).add j) = ⟨b, o + i + j, none⟩ := by rw [Addr.add_lit, Addr.add_lit]
/-- A crash of the law's: the records, the number, the picks (where they lie, what they are). -/
structure Crs where
  adr : Option Addr
  room : Nat
  ls : List (List UInt8)
  num : UInt8
  padr : Option Addr
  proom : Nat
  picks : List UInt8
instance : Inhabited Crs := ⟨⟨none, 0, [], 0, none, 0, []⟩⟩
def Crs.cells (x : Crs) : List Value := [.slice x.adr x.ls.length x.room, .int .u8 (x.num.toNat : Int), .slice x.padr x.picks.length x.proom]
def Crs.ok (w : World) (x : Crs) : Prop := Rows (fun b => b < w.heap.size) w x.adr x.ls.length x.ls ∧ Sl x.adr x.ls.length x.room ∧ Rd (fun _ => True) w x.padr x.picks.length x.picks ∧ Sl x.padr x.picks.length x.proom
def Crss (w : World) (A : Option Addr) (n : Nat) (xs : List Crs) : Prop :=
  xs.length = n ∧ (0 < n → ∃ b o, A = some ⟨b, o, none⟩ ∧ b < w.heap.size ∧ ∀ (j : Nat) (x : Crs), xs[j]? = some x → w.rangeAt b (o + j * 3) x.cells ∧ x.ok w)
theorem Try.cells31 : Try.prog.cellsOf 31 = 3 := by kernel_rfl
theorem Try.cells28 : Try.prog.cellsOf 28 = 1 := by kernel_rfl
theorem Try.cellsN5 : Try.prog.cellsOf 5 = 1 := by kernel_rfl
theorem crash_of {H : Type} {enc : TypeId × Value → H} {W : World} {base : Nat} {spare : Nat → Bool} {held : Bool} {n : Nat} {cs : List Value} {y : DataW H × List MemPlace}
    (h : DataW.trod enc Try.prog W base spare held n 31 cs = some y) : ∃ x : Crs, cs = x.cells ∧ x.ok W := by
  obtain ⟨ys, m, _, _, hlen, hys, hf⟩ := DataW.trod_struct Try.underlying31 h
  rw [Try.cells31] at hlen
  obtain ⟨c0, c1, c2, rfl⟩ : ∃ c0 c1 c2, cs = [c0, c1, c2] := by
    match cs, hlen with
    | [c0, c1, c2], _ => exact ⟨c0, c1, c2, rfl⟩
  have hy3 : ys.length = 3 := hys
  have e0 : DataW.trod enc Try.prog W base spare held m 28 (([c0, c1, c2].drop 0).take (Try.prog.cellsOf 28)) = ys[0]? := hf 0 _ rfl
  have e1 : DataW.trod enc Try.prog W base spare held m 5 (([c0, c1, c2].drop 1).take (Try.prog.cellsOf 5)) = ys[1]? := hf 1 _ rfl
  have e2 : DataW.trod enc Try.prog W base spare held m 29 (([c0, c1, c2].drop 2).take (Try.prog.cellsOf 29)) = ys[2]? := hf 2 _ rfl
  rw [Try.cells28, List.getElem?_eq_getElem (by omega)] at e0
  rw [Try.cells29, List.getElem?_eq_getElem (by omega)] at e2
  rw [Try.cellsN5, List.getElem?_eq_getElem (by omega)] at e1
  obtain ⟨k, h1, _, w1⟩ := DataW.trod_int Try.underlying5 e1
  simp only [List.drop_zero, List.drop_succ_cons, List.take_succ_cons, List.take_zero, List.cons.injEq, and_true] at h1 e0 e2
  subst h1
  obtain ⟨A0, n0, k0, rfl⟩ : ∃ A' n' c', c0 = .slice A' n' c' := by
    rcases open_slice1 Try.underlying28 Try.cells29 e0 with ⟨hcs, _⟩ | ⟨a, len, cap, m, k, V, D, Pl, hcs, _⟩
    · exact ⟨_, _, _, List.head_eq_of_cons_eq hcs⟩
    · exact ⟨_, _, _, List.head_eq_of_cons_eq hcs⟩
  obtain ⟨A2, n2, k2, rfl⟩ : ∃ A' n' c', c2 = .slice A' n' c' := by
    rcases open_ints Try.underlying29 Try.underlying5 (by kernel_rfl) e2 with ⟨hcs, _⟩ | ⟨x, l, cap, zs, hcs, _⟩
    · exact ⟨_, _, _, List.head_eq_of_cons_eq hcs⟩
    · exact ⟨_, _, _, List.head_eq_of_cons_eq hcs⟩
  obtain ⟨ls, hr, hs⟩ := rows_of (A := A0) (n := n0) (c := k0) ⟨_, e0⟩
  obtain ⟨ps, hr2, hs2⟩ := bytes_of (A := A2) (n := n2) (c := k2) ⟨_, e2⟩
  obtain rfl : ls.length = n0 := hr.1
  obtain rfl : ps.length = n2 := hr2.1
  exact ⟨⟨A0, k0, ls, UInt8.ofNat k.toNat, A2, k2, ps⟩, by unfold Crs.cells; rw [← u8_of w1], hr, hs, hr2, hs2⟩
theorem crashes_of {H : Type} {enc : TypeId × Value → H} {W : World} {base : Nat} {spare : Nat → Bool} {held : Bool} {A : Option Addr} {n c : Nat} {d : DataW H} {p : List MemPlace}
    (h : DataW.Trod enc Try.prog W base spare held 22 (.slice A n c) d p) : ∃ xs, Crss W A n xs ∧ Sl A n c := by
  obtain ⟨fuel, hf⟩ := h
  rcases open_slice Try.underlying22 hf with ⟨hcs, _⟩ | ⟨a, len, cap, m, k, D, Pl, hcs, _, hlc, hcm, hm, _, hx⟩
  · simp [Value.cells] at hcs
    obtain ⟨rfl, rfl, rfl⟩ := hcs
    exact ⟨[], ⟨rfl, fun h => absurd h (by omega)⟩, ⟨fun _ => ⟨rfl, rfl⟩, Nat.le_refl _, by omega⟩⟩
  · simp [Value.cells] at hcs
    obtain ⟨rfl, rfl, rfl⟩ := hcs
    rw [Try.cells31] at hx
    have hnm : n ≤ m := by rw [hm]; split <;> omega
    have hx' : ∀ i, i < n → ∃ x : Crs, (∀ j v, x.cells[j]? = some v → W.cell? ((a.add (i * 3)).add j) = some v) ∧ x.ok W := by
      intro i hi
      obtain ⟨cs', hc, ht⟩ := hx i (by omega)
      obtain ⟨hl, _, hcell⟩ := World.cells?_some hc
      obtain ⟨x, rfl, hok⟩ := crash_of ht
      refine ⟨x, fun j v hv => ?_, hok⟩
      have hj : j < 3 := (List.getElem?_eq_some_iff.1 hv).1
      rw [hcell j hj]
      exact hv
    obtain ⟨F, hF⟩ := choose_lt (α := Crs) (p := fun i x => (∀ j v, x.cells[j]? = some v → W.cell? ((a.add (i * 3)).add j) = some v) ∧ x.ok W) hx'
    refine ⟨(List.range n).map F, ⟨by simp, fun hp => ?_⟩, ⟨(fun h => by cases h), hlc, by unfold maxLen at hcm; omega⟩⟩
    obtain ⟨b, off, spot⟩ := a
    have h00 := (hF 0 hp).1 0 _ rfl
    have hspot : spot = none := by simpa [Addr.add] using World.cell?_spot h00
    subst hspot
    refine ⟨b, off, rfl, ?_, fun j u hu => ?_⟩
    · rw [add_plain2] at h00
      exact World.block_lt_of_cell? W _ h00
    · rw [List.getElem?_map] at hu
      obtain ⟨z, hz1, rfl⟩ := Option.map_eq_some_iff.1 hu
      obtain ⟨hj, rfl⟩ := List.getElem?_eq_some_iff.1 hz1
      simp at hj
      obtain ⟨h1, h2⟩ := hF j hj
      simp
      refine ⟨fun i v hv => ?_, h2⟩
      have := h1 i v hv
      rwa [add_plain2] at this
end Go.Proofs.Ytfegffdhlkhjbaa
