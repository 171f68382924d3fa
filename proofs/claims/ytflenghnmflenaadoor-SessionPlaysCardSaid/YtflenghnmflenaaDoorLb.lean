/-
  What is proved: items in memory; the place of a key by halves; whether a key, a value, an operation may be. Conditions as stated.
-/
import Derived.Test.YtflenghnmflenaaDoorLa
namespace Go.Proofs.YtflenghnmflenaaDoor
open Go.RowKit
set_option maxRecDepth 100000

/-! ### items in memory -/
def itC (xs : List It) : List Value := xs.flatMap fun p => [Value.string p.1, Value.string p.2]
theorem itC_length : ∀ xs : List It, (itC xs).length = xs.length * 2
  | [] => rfl
  | p :: r => by
    have := itC_length r
    simp only [itC, List.flatMap_cons, List.length_append, List.length_cons, List.length_nil] at this ⊢
    omega
theorem itC_one (xs : List It) : ∀ v ∈ itC xs, v.oneCell' = true := by
  intro v hv
  simp only [itC, List.mem_flatMap] at hv
  obtain ⟨p, _, hp⟩ := hv
  simp at hp
  rcases hp with rfl | rfl <;> rfl
theorem itC_app (a b : List It) : itC (a ++ b) = itC a ++ itC b := by simp [itC]
theorem itC_cons (p : It) (r : List It) : itC (p :: r) = Value.string p.1 :: Value.string p.2 :: itC r := by simp [itC]
theorem itC_take : ∀ (xs : List It) (i : Nat), (itC xs).take (i * 2) = itC (xs.take i)
  | [], i => by simp [itC]
  | p :: r, 0 => by simp [itC]
  | p :: r, i + 1 => by
    rw [show (i + 1) * 2 = i * 2 + 1 + 1 by omega, itC_cons, List.take_succ_cons, List.take_succ_cons, itC_take r i, List.take_succ_cons, itC_cons]
theorem itC_drop : ∀ (xs : List It) (i : Nat), (itC xs).drop (i * 2) = itC (xs.drop i)
  | [], i => by simp [itC]
  | p :: r, 0 => by simp [itC]
  | p :: r, i + 1 => by
    rw [show (i + 1) * 2 = i * 2 + 1 + 1 by omega, itC_cons, List.drop_succ_cons, List.drop_succ_cons, itC_drop r i, List.drop_succ_cons]
theorem itC_at : ∀ {xs : List It} {j : Nat} {p : It}, xs[j]? = some p → (itC xs)[j * 2]? = some (.string p.1) ∧ (itC xs)[j * 2 + 1]? = some (.string p.2)
  | [], j, p, h => by simp at h
  | q :: r, 0, p, h => by
    obtain rfl : q = p := by simpa using h
    rw [itC_cons]
    exact ⟨rfl, rfl⟩
  | q :: r, j + 1, p, h => by
    rw [show (j + 1) * 2 = j * 2 + 1 + 1 by omega, itC_cons]
    exact itC_at (xs := r) (by simpa using h)

/-- At the address lie the items, one behind the other. -/
def Its (w : World) (A : Option Addr) (xs : List It) : Prop :=
  0 < xs.length → ∃ b o, A = some ⟨b, o, none⟩ ∧ b < w.heap.size ∧ ∀ j p, xs[j]? = some p → w.cell? ⟨b, o + j * 2, none⟩ = some (.string p.1) ∧ w.cell? ⟨b, o + j * 2 + 1, none⟩ = some (.string p.2)
theorem Its.below {w w' : World} {A : Option Addr} {xs : List It} (h : Its w A xs) (hb : Below w.heap.size w w') : Its w' A xs := fun hn =>
  let ⟨b, o, hA, hl, hc⟩ := h hn
  ⟨b, o, hA, Nat.lt_of_lt_of_le hl hb.size, fun j p hp => ⟨(hb.cell (p := ⟨b, o + j * 2, none⟩) hl).trans (hc j p hp).1, (hb.cell (p := ⟨b, o + j * 2 + 1, none⟩) hl).trans (hc j p hp).2⟩⟩
theorem Its.nil (w : World) (A : Option Addr) : Its w A [] := fun h => absurd h (by simp)

/-- A row of items of the call's own, or none. -/
def Rw (w : World) (r : Option Nat) (c : Nat) (xs : List It) : Prop :=
  match r with
  | none => c = 0 ∧ xs = []
  | some b => xs.length ≤ c ∧ c ≤ 9223372036854775807 ∧ ∃ R : List Value, w.heap[b]? = some (.cells (itC xs ++ R).toArray 64 (0, 0)) ∧ xs.length * 2 + R.length = c * 2
def slA (r : Option Nat) : Option Addr := r.map fun b => ⟨b, 0, none⟩
theorem Rw.its {w : World} {r : Option Nat} {c : Nat} {xs : List It} (h : Rw w r c xs) : Its w (slA r) xs := by
  intro hn
  cases r with
  | none => rw [h.2] at hn; simp at hn
  | some b =>
    obtain ⟨_, _, R, hb, _⟩ := h
    have hlt : b < w.heap.size := (Array.getElem?_eq_some_iff.1 hb).1
    refine ⟨b, 0, rfl, hlt, fun j p hp => ?_⟩
    have hc : ∀ k v, (itC xs)[k]? = some v → w.cell? ⟨b, k, none⟩ = some v := fun k v hv => by
      have hk : k < (itC xs).length := (List.getElem?_eq_some_iff.1 hv).1
      rw [cell_of_row w b k _ _ _ hb]
      simp [List.getElem?_append_left hk, hv]
    rw [Nat.zero_add]
    exact ⟨hc _ _ (itC_at hp).1, hc _ _ (itC_at hp).2⟩
theorem Rw.kept {w w' : World} {r : Option Nat} {c : Nat} {xs : List It} (h : Rw w r c xs) (hk : ∀ b, r = some b → w'.heap[b]? = w.heap[b]?) : Rw w' r c xs := by
  cases r with
  | none => exact h
  | some b =>
    obtain ⟨h1, h2, R, hb, h3⟩ := h
    exact ⟨h1, h2, R, (hk b rfl).trans hb, h3⟩
theorem Rw.lt {w : World} {b c : Nat} {xs : List It} (h : Rw w (some b) c xs) : b < w.heap.size := by
  obtain ⟨_, _, R, hb, _⟩ := h
  exact (Array.getElem?_eq_some_iff.1 hb).1
theorem Rw.c {w : World} {r : Option Nat} {c : Nat} {xs : List It} (h : Rw w r c xs) : xs.length ≤ c ∧ c ≤ 9223372036854775807 := by
  cases r with
  | none => rw [h.2, h.1]; exact ⟨Nat.le_refl _, by omega⟩
  | some b => exact ⟨h.1, h.2.1⟩

/-- A ledger: its block, its row's, its items. -/
structure Led (w : World) (g : Nat) (r : Option Nat) (c : Nat) (xs : List It) : Prop where
  top : w.heap[g]? = some (.cells #[.slice (slA r) xs.length c] 75 (0, 0))
  row : Rw w r c xs
/-- What it stands on. -/
def On (g : Nat) (r : Option Nat) (k : Nat) : Prop := k = g ∨ r = some k
theorem Led.lt {w : World} {g : Nat} {r : Option Nat} {c : Nat} {xs : List It} (h : Led w g r c xs) : g < w.heap.size := (Array.getElem?_eq_some_iff.1 h.top).1
theorem Led.on_lt {w : World} {g : Nat} {r : Option Nat} {c : Nat} {xs : List It} (h : Led w g r c xs) : ∀ k, On g r k → k < w.heap.size := by
  rintro k (rfl | rfl)
  · exact h.lt
  · exact h.row.lt
theorem Led.cell {w : World} {g : Nat} {r : Option Nat} {c : Nat} {xs : List It} (h : Led w g r c xs) : w.cell? ⟨g, 0, none⟩ = some (.slice (slA r) xs.length c) := by
  rw [cell_of_row w g 0 _ _ _ h.top]
  rfl
theorem Led.kept {w w' : World} {g : Nat} {r : Option Nat} {c : Nat} {xs : List It} (h : Led w g r c xs) (hk : ∀ k, On g r k → w'.heap[k]? = w.heap[k]?) : Led w' g r c xs :=
  ⟨(hk g (.inl rfl)).trans h.top, h.row.kept fun b e => hk b (.inr e)⟩
theorem Led.below {w w' : World} {g : Nat} {r : Option Nat} {c : Nat} {xs : List It} (h : Led w g r c xs) (hb : Below w.heap.size w w') : Led w' g r c xs :=
  h.kept fun k hk => hb.block k (h.on_lt k hk)
theorem Led.apart {w : World} {g : Nat} {r : Option Nat} {c : Nat} {xs : List It} (h : Led w g r c xs) : r ≠ some g := by
  rintro rfl
  obtain ⟨_, _, R, hb, _⟩ := h.row
  have := h.top.symm.trans hb
  simp at this

/-! ### the place of a key -/
theorem Tryd.e73 (args : Array Value) (w : World) (a b : ByteArray) (h : args = #[.string a, .string b]) : (callFunc 73 args).run Tryd.prog w = .ok (.value (.int .i64 (Lib.compareBytes a.data.toList b.data.toList))) w := by
  subst h
  rw [run_callFunc_extern Tryd.func73 (by kernel_rfl) (by kernel_rfl) (by kernel_rfl) (e := Extern.BytealgCompare.compare) (by kernel_rfl), Lib.run_compareString]
  rfl
theorem compare_any (a b : ByteArray) (w : World) : Calls Tryd.prog 63 #[.string a, .string b] w fun E w' => E = .returned (.int .i64 (Lib.compareBytes a.data.toList b.data.toList)) ∧ w = w' := by
  have H : ∀ w, (callFunc 73 #[.string a, .string b]).run Tryd.prog w = .ok (.value (.int .i64 (Lib.compareBytes a.data.toList b.data.toList))) w := fun w => Tryd.e73 _ w a b rfl
  go_enter Tryd.func63, Tryd.ntmps63
  go_wp2
  go_ret
  exact ⟨rfl, rfl⟩
theorem ord_any (p : It) (k : ByteArray) (w : World) : Calls Tryd.prog 62 #[.agg #[.string p.1, .string p.2], .string k] w fun E w' => E = .returned (.int .i64 (Lib.compareBytes p.1.data.toList k.data.toList)) ∧ Below w.heap.size w w' := by
  have HB : Hid (Below w.heap.size w (w.alloc (.cells #[.string p.1, .string p.2] 64))) := Lib.hid ((Below.refl _ _).alloc (Nat.le_refl _) _)
  go_enter Tryd.func62, Tryd.ntmps62
  go_wp2_with (go_at_call 63; refine (compare_any _ _ _).mono ?_; rintro E w' ⟨rfl, rfl⟩)
  go_ret
  exact ⟨rfl, HB⟩

theorem cmp_neg (p : ByteArray) (k : ByteArray) : (Lib.compareBytes p.data.toList k.data.toList < 0) ↔ klt p k = true := by
  rw [klt, ByteArray.toList_eq, ByteArray.toList_eq, ← cmp_lt, decide_eq_true_eq]
theorem cmp_eq0 (p : ByteArray) (k : ByteArray) : (Lib.compareBytes p.data.toList k.data.toList = 0) ↔ p = k := by
  rw [cmp_zero]
  exact ⟨fun h => ByteArray.ext (Array.toList_inj.1 h), fun h => by rw [h]⟩

set_option maxHeartbeats 4000000 in
theorem half_any (A : Option Addr) (c : Nat) (xs : List It) (k : ByteArray) (w : World) (hx : Its w A xs) (hs : Rise xs) (hn : xs.length ≤ 4611686018427387904) :
    Calls Tryd.prog 61 #[.slice A xs.length c, .string k, .func (.func 62) #[] #[]] w fun E w' => E = .returned (.tuple #[.int .i64 (posOf xs k : Int), .bool (hasK xs k)]) ∧ Below w.heap.size w w' := by
  have HX := Lib.hid hx
  have HS := Lib.hid hs
  obtain ⟨n, hnn⟩ : ∃ n, n = xs.length := ⟨_, rfl⟩
  have HL := Lib.hid hnn
  rw [← hnn] at hn ⊢
  clear hx hs hnn
  have HB0 := Lib.hid (Below.refl w.heap.size w)
  obtain ⟨q, hq⟩ : ∃ q, q = posOf xs k := ⟨_, rfl⟩
  obtain ⟨z, hz⟩ : ∃ z, z = hasK xs k := ⟨_, rfl⟩
  have HQ := Lib.hid hq
  have HZ := Lib.hid hz
  rw [← hq, ← hz]
  clear hq hz
  go_enter Tryd.func61, Tryd.ntmps61
  go_wp2_with fail
  go_loopw [9, 10] (fun v9 v10 wr => ∃ lo hi : Nat, v9 = .int .i64 (lo : Int) ∧ v10 = .int .i64 (hi : Int) ∧ lo ≤ hi ∧ hi ≤ n ∧ Hid (Below w.heap.size w wr ∧ (∀ j p, j < lo → xs[j]? = some p → klt p.1 k = true) ∧ ∀ j p, hi ≤ j → xs[j]? = some p → klt p.1 k = false)) (fun v9 v10 _ => (intOf v10).toNat - (intOf v9).toNat)
  case atStart => exact ⟨0, n, rfl, rfl, Nat.zero_le _, Nat.le_refl _, Lib.hid ⟨HB0.out, fun j p hj => absurd hj (Nat.not_lt_zero _), fun j p hj hp => absurd (List.getElem?_eq_some_iff.1 hp).1 (by rw [← HL.out]; omega)⟩⟩
  case round =>
    obtain ⟨lo, hi, rfl, rfl, hlh, hin, HR⟩ := hrel
    by_cases hlt : lo < hi
    · obtain ⟨m, hm⟩ : ∃ m, m = (lo + hi) / 2 := ⟨_, rfl⟩
      have hm1 : lo ≤ m := by omega
      have hm2 : m < hi := by omega
      have hmi : ((lo : Int) + (hi : Int)) / 2 = (m : Int) := by omega
      obtain ⟨b, o, rfl, hbl, hc⟩ := HX.out (by rw [← HL.out]; omega)
      obtain ⟨p, hp⟩ : ∃ p, xs[m]? = some p := ⟨_, List.getElem?_eq_getElem (by rw [← HL.out]; omega)⟩
      have c0 : wr.cell? ⟨b, o + m * 2, none⟩ = some (.string p.1) := (HR.out.1.cell (p := ⟨b, o + m * 2, none⟩) hbl).trans (hc m p hp).1
      have c1 : wr.cell? ⟨b, o + m * 2 + 1, none⟩ = some (.string p.2) := (HR.out.1.cell (p := ⟨b, o + m * 2 + 1, none⟩) hbl).trans (hc m p hp).2
      have HP := Lib.hid hp
      have HC := Lib.hid (fun W => ord_any p k W)
      have HK := Lib.hid (cmp_neg p.1 k)
      clear hc hp
      obtain ⟨x, y⟩ := p
      dsimp only at c0 c1 HC HK
      obtain ⟨u, hu⟩ : ∃ u, u = Lib.compareBytes x.data.toList k.data.toList := ⟨_, rfl⟩
      rw [← hu] at HC HK
      clear hu
      have HM := Lib.hid hm
      clear hm
      by_cases hu : u < 0
      · go_wp2_with (go_at_call 62; refine (HC.out _).mono ?_; rintro E w1 ⟨rfl, b1⟩)
        go_roundw
        case measure => simp [intOf] <;> omega
        case rel =>
          refine ⟨m + 1, hi, by go_num, rfl, by omega, hin, Lib.hid ⟨HR.out.1.trans (b1.mono HR.out.1.size), fun j p hj hp => ?_, HR.out.2.2⟩⟩
          rcases Nat.lt_or_eq_of_le (Nat.le_of_lt_succ hj) with h | rfl
          · exact klt_trans (rise_lt HS.out h hp HP.out) (HK.out.1 hu)
          · rw [HP.out] at hp; cases hp; exact HK.out.1 hu
      · go_wp2_with (go_at_call 62; refine (HC.out _).mono ?_; rintro E w1 ⟨rfl, b1⟩)
        go_roundw
        case measure => simp [intOf] <;> omega
        case rel =>
          refine ⟨lo, m, rfl, by go_num, by omega, by omega, Lib.hid ⟨HR.out.1.trans (b1.mono HR.out.1.size), HR.out.2.1, fun j p hj hp => ?_⟩⟩
          have h0 : klt x k = false := by cases h : klt x k with | false => rfl | true => exact absurd (HK.out.2 h) (by omega)
          rcases Nat.lt_or_eq_of_le hj with h | rfl
          · cases h' : klt p.1 k with
            | false => rfl
            | true => have := klt_trans (rise_lt HS.out h HP.out hp) h'; rw [h0] at this; cases this
          · rw [HP.out] at hp; cases hp; exact h0
    · obtain rfl : lo = hi := by omega
      have HE : Hid (q = lo) := Lib.hid (by rw [HQ.out]; exact (pos_unique (by rw [← HL.out]; exact hin) HR.out.2.1 (fun p hp => HR.out.2.2 lo p (Nat.le_refl _) hp)).symm)
      obtain rfl := HE.out
      by_cases hj : q < n
      · obtain ⟨b, o, rfl, hbl, hc⟩ := HX.out (by rw [← HL.out]; omega)
        obtain ⟨p, hp⟩ : ∃ p, xs[q]? = some p := ⟨_, List.getElem?_eq_getElem (by rw [← HL.out]; omega)⟩
        have c0 : wr.cell? ⟨b, o + q * 2, none⟩ = some (.string p.1) := (HR.out.1.cell (p := ⟨b, o + q * 2, none⟩) hbl).trans (hc q p hp).1
        have c1 : wr.cell? ⟨b, o + q * 2 + 1, none⟩ = some (.string p.2) := (HR.out.1.cell (p := ⟨b, o + q * 2 + 1, none⟩) hbl).trans (hc q p hp).2
        have HC := Lib.hid (fun W => ord_any p k W)
        have HK := Lib.hid (cmp_eq0 p.1 k)
        have HZ2 : Hid (z = decide (p.1 = k)) := Lib.hid (by rw [HZ.out, hasK, ← HQ.out, hp])
        clear hc hp
        obtain ⟨x, y⟩ := p
        dsimp only at c0 c1 HC HK HZ2
        obtain ⟨u, hu⟩ : ∃ u, u = Lib.compareBytes x.data.toList k.data.toList := ⟨_, rfl⟩
        rw [← hu] at HC HK
        clear hu
        by_cases hu : u = 0
        · have hu' : (u == 0) = true := by simpa using hu
          go_wp2_with (go_at_call 62; refine (HC.out _).mono ?_; rintro E w1 ⟨rfl, b1⟩)
          go_ret2
          refine ⟨?_, HR.out.1.trans (b1.mono HR.out.1.size)⟩
          rw [HZ2.out, decide_eq_true (HK.out.1 hu)]
          first | rfl | simp [hu]
        · have hu' : (u == 0) = false := by simpa using hu
          go_wp2_with (go_at_call 62; refine (HC.out _).mono ?_; rintro E w1 ⟨rfl, b1⟩)
          go_ret2
          refine ⟨?_, HR.out.1.trans (b1.mono HR.out.1.size)⟩
          rw [HZ2.out, decide_eq_false (fun h => hu (HK.out.2 h))]
          first | rfl | simp [hu]
      · have HZ2 : Hid (z = false) := Lib.hid (by rw [HZ.out, hasK, ← HQ.out, List.getElem?_eq_none (by rw [← HL.out]; omega)])
        go_wp2_with fail
        go_ret2
        rw [HZ2.out]
        exact ⟨rfl, HR.out.1⟩

theorem find_any {w : World} {g : Nat} {r : Option Nat} {c : Nat} {xs : List It} (h : Led w g r c xs) (hs : Rise xs) (hn : xs.length ≤ 4611686018427387904) (k : ByteArray) :
    Calls Tryd.prog 55 #[.pointer (some ⟨g, 0, none⟩), .string k] w fun E w' => E = .returned (.tuple #[.int .i64 (posOf xs k : Int), .bool (hasK xs k)]) ∧ Below w.heap.size w w' := by
  have c0 := h.cell
  have HC := Lib.hid (half_any (slA r) c xs k w h.row.its hs hn)
  obtain ⟨q, hq⟩ : ∃ q, q = posOf xs k := ⟨_, rfl⟩
  obtain ⟨z, hz⟩ : ∃ z, z = hasK xs k := ⟨_, rfl⟩
  rw [← hq, ← hz] at HC ⊢
  obtain ⟨A, hA⟩ : ∃ A, A = slA r := ⟨_, rfl⟩
  obtain ⟨n, hnn⟩ : ∃ n, n = xs.length := ⟨_, rfl⟩
  rw [← hA, ← hnn] at c0 HC
  clear hq hz hA hnn h hs hn
  go_enter Tryd.func55, Tryd.ntmps55
  go_wp2_with (go_at_call 61; refine HC.out.mono ?_; rintro E w1 ⟨rfl, b1⟩)
  go_ret2
  exact ⟨rfl, b1⟩
theorem value_any {w : World} {g : Nat} {r : Option Nat} {c : Nat} {xs : List It} (h : Led w g r c xs) (hs : Rise xs) (hn : xs.length ≤ 4611686018427387904) (k : ByteArray) :
    Calls Tryd.prog 52 #[.pointer (some ⟨g, 0, none⟩), .string k] w fun E w' => E = .returned (.tuple #[.string (valK xs k), .bool (hasK xs k)]) ∧ Below w.heap.size w w' := by
  have HC := Lib.hid (find_any h hs hn k)
  have HH := Lib.hid h
  obtain ⟨q, hq⟩ : ∃ q, q = posOf xs k := ⟨_, rfl⟩
  obtain ⟨z, hz⟩ : ∃ z, z = hasK xs k := ⟨_, rfl⟩
  obtain ⟨v, hv⟩ : ∃ v, v = valK xs k := ⟨_, rfl⟩
  have HV := Lib.hid hv
  have HQ := Lib.hid hq
  have HZ := Lib.hid hz
  rw [← hq, ← hz] at HC
  rw [← hz, ← hv]
  clear hv hq hz h
  cases z with
  | false =>
    have HE : Hid (v = ByteArray.empty) := Lib.hid (by rw [HV.out]; exact val_none HZ.out.symm)
    rw [HE.out]
    go_enter Tryd.func52, Tryd.ntmps52
    go_wp2_with (go_at_call 55; refine HC.out.mono ?_; rintro E w1 ⟨rfl, b1⟩)
    go_ret2
    exact ⟨rfl, b1⟩
  | true =>
    go_enter Tryd.func52, Tryd.ntmps52
    go_wp2_with (go_at_call 55; refine HC.out.mono ?_)
    rintro E w1 ⟨rfl, b1⟩
    have hL := HH.out.below b1
    have hm := mem_of_has HZ.out.symm
    have hql : q < xs.length := by rw [HQ.out]; exact pos_lt_of_has HZ.out.symm
    obtain ⟨b, o, hA, hbl, hc⟩ := hL.row.its (by omega)
    have c0 := hL.cell
    have c1 : w1.cell? ⟨b, o + q * 2 + 1, none⟩ = some (.string v) := by rw [HQ.out, HV.out]; exact (hc _ _ hm).2
    rw [hA] at c0
    obtain ⟨n, hnn⟩ : ∃ n, n = xs.length := ⟨_, rfl⟩
    rw [← hnn] at c0 hql
    clear hc hnn hL hm hA
    go_wp2_with fail
    go_ret2
    exact ⟨rfl, b1⟩
theorem full_any {w : World} {g : Nat} {r : Option Nat} {c : Nat} {xs : List It} (h : Led w g r c xs) (hs : Rise xs) (hn : xs.length ≤ 4611686018427387904) (k : ByteArray) :
    Calls Tryd.prog 53 #[.pointer (some ⟨g, 0, none⟩), .string k] w fun E w' => E = .returned (.bool (fullK xs k)) ∧ Below w.heap.size w w' := by
  have HC := Lib.hid (find_any h hs hn k)
  have HH := Lib.hid h
  obtain ⟨q, hq⟩ : ∃ q, q = posOf xs k := ⟨_, rfl⟩
  obtain ⟨z, hz⟩ : ∃ z, z = hasK xs k := ⟨_, rfl⟩
  obtain ⟨f, hf⟩ : ∃ f, f = fullK xs k := ⟨_, rfl⟩
  have HF : Hid (f = (!z && decide (64 ≤ xs.length))) := Lib.hid (by rw [hf, hz]; rfl)
  rw [← hq, ← hz] at HC
  rw [← hf]
  clear hf hq hz h
  go_enter Tryd.func53, Tryd.ntmps53
  go_wp2_with (go_at_call 55; refine HC.out.mono ?_)
  rintro E w1 ⟨rfl, b1⟩
  have c0 := (HH.out.below b1).cell
  obtain ⟨A, hA⟩ : ∃ A, A = slA r := ⟨_, rfl⟩
  obtain ⟨n, hnn⟩ : ∃ n, n = xs.length := ⟨_, rfl⟩
  rw [← hA, ← hnn] at c0
  rw [← hnn] at HF
  have HN := Lib.hid hnn
  clear hA hnn
  cases z with
  | false =>
    go_wp2_with fail
    go_ret
    rw [HF.out]
    refine ⟨?_, b1⟩
    first | rfl | (simp; done) | (simp; omega)
  | true =>
    go_wp2_with fail
    go_ret
    rw [HF.out]
    exact ⟨rfl, b1⟩
end Go.Proofs.YtflenghnmflenaaDoor
