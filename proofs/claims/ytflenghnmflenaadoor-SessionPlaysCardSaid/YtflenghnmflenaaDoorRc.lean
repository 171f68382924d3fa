/-
  What is proved: the document's own ledger: a key's place, its value. Conditions as stated.
-/
import Derived.Test.YtflenghnmflenaaDoorMn
namespace Go.Proofs.YtflenghnmflenaaDoor
open Go.RowKit
set_option maxRecDepth 100000

/-- The document's own ledger: its block, its row's, its items. -/
structure RL (w : World) (g : Nat) (r : Option Nat) (c : Nat) (xs : List It) : Prop where
  top : w.heap[g]? = some (.cells #[.slice (slA r) xs.length c] 45 (0, 0))
  row : Rw w r c xs
theorem RL.lt {w : World} {g : Nat} {r : Option Nat} {c : Nat} {xs : List It} (h : RL w g r c xs) : g < w.heap.size := (Array.getElem?_eq_some_iff.1 h.top).1
theorem RL.on_lt {w : World} {g : Nat} {r : Option Nat} {c : Nat} {xs : List It} (h : RL w g r c xs) : ∀ k, On g r k → k < w.heap.size := by
  rintro k (rfl | rfl)
  · exact h.lt
  · exact h.row.lt
theorem RL.cell {w : World} {g : Nat} {r : Option Nat} {c : Nat} {xs : List It} (h : RL w g r c xs) : w.cell? ⟨g, 0, none⟩ = some (.slice (slA r) xs.length c) := by
  rw [cell_of_row w g 0 _ _ _ h.top]
  rfl
theorem RL.kept {w w' : World} {g : Nat} {r : Option Nat} {c : Nat} {xs : List It} (h : RL w g r c xs) (hk : ∀ k, On g r k → w'.heap[k]? = w.heap[k]?) : RL w' g r c xs :=
  ⟨(hk g (.inl rfl)).trans h.top, h.row.kept fun b e => hk b (.inr e)⟩
theorem RL.below {w w' : World} {g : Nat} {r : Option Nat} {c : Nat} {xs : List It} (h : RL w g r c xs) (hb : Below w.heap.size w w') : RL w' g r c xs :=
  h.kept fun k hk => hb.block k (h.on_lt k hk)
theorem find_at {xs : List It} {k : ByteArray} {j : Nat} (hj : j ≤ xs.length) (h : ∀ i p, i < j → xs[i]? = some p → klt p.1 k = true) (h2 : ∀ p, xs[j]? = some p → klt p.1 k = false) : j = posOf xs k := pos_unique hj h h2
theorem has_end {xs : List It} {k : ByteArray} (h : xs.length = posOf xs k) : hasK xs k = false := by
  unfold hasK
  rw [← h]
  simp
theorem has_here {xs : List It} {k : ByteArray} {j : Nat} {p : It} (h : j = posOf xs k) (hp : xs[j]? = some p) : hasK xs k = decide (p.1 = k) := by
  unfold hasK
  rw [← h, hp]
set_option maxHeartbeats 8000000 in
theorem rfind_any {w : World} {g : Nat} {r : Option Nat} {c : Nat} {xs : List It} (h : RL w g r c xs) (hn : xs.length ≤ 1000) (k : ByteArray) :
    Calls Tryd.prog 38 #[.pointer (some ⟨g, 0, none⟩), .string k] w fun E w' => E = .returned (.tuple #[.int .i64 (posOf xs k : Int), .bool (hasK xs k)]) ∧ Below w.heap.size w w' := by
  have HL := Lib.hid h
  obtain ⟨n, hnn⟩ : ∃ n, n = xs.length := ⟨_, rfl⟩
  have HN := Lib.hid hnn
  obtain ⟨A, hA⟩ : ∃ A, A = slA r := ⟨_, rfl⟩
  have HI : Hid (∀ W, Below w.heap.size w W → Its W A xs) := Lib.hid fun W hb => by rw [hA]; exact h.row.its.below hb
  have HC : Hid (∀ W, Below w.heap.size w W → W.cell? ⟨g, 0, none⟩ = some (.slice A n c)) := Lib.hid fun W hb => by rw [hA, hnn]; exact (h.below hb).cell
  obtain ⟨P, hP⟩ : ∃ P, P = posOf xs k := ⟨_, rfl⟩
  have HP := Lib.hid hP
  obtain ⟨z, hz⟩ : ∃ z, z = hasK xs k := ⟨_, rfl⟩
  have HZ := Lib.hid hz
  rw [← hP, ← hz]
  rw [← hnn] at hn
  have HB0 := Lib.hid (Below.refl w.heap.size w)
  clear h hnn hA hP hz
  go_enter Tryd.func38, Tryd.ntmps38
  go_wp2_with fail
  go_loopw [6] (fun v6 wr => ∃ j : Nat, j ≤ n ∧ v6 = .int .i64 (j : Int) ∧ Hid (Below w.heap.size w wr ∧ ∀ i p, i < j → xs[i]? = some p → klt p.1 k = true)) (fun v6 _ => n - (intOf v6).toNat)
  case atStart => exact ⟨0, by omega, rfl, Lib.hid ⟨HB0.out, fun i p hi => absurd hi (Nat.not_lt_zero _)⟩⟩
  case round =>
    obtain ⟨j, hj, rfl, HR⟩ := hrel
    have cg := HC.out wr HR.out.1
    have hj0 : (0 : Int) ≤ (j : Int) := by omega
    have htn : ((j : Int)).toNat = j := by omega
    by_cases hjj : j < n
    · obtain ⟨b, o, rfl, hbl, hc⟩ := HI.out wr HR.out.1 (by rw [← HN.out]; omega)
      obtain ⟨p, hp⟩ : ∃ p, xs[j]? = some p := ⟨_, List.getElem?_eq_getElem (by rw [← HN.out]; exact hjj)⟩
      have c0 : wr.cell? ⟨b, o + j * 2, none⟩ = some (.string p.1) := (hc j p hp).1
      have hjn : (j : Int) < (n : Int) := by omega
      have hdec : decide ((j : Int) < (n : Int)) = true := decide_eq_true hjn
      cases hk : Op.bytesLess p.1.toList k.toList with
      | true =>
        have HE : Hid (∀ i q, i < j + 1 → xs[i]? = some q → klt q.1 k = true) := Lib.hid fun i q hi hq => by
          rcases Nat.lt_or_eq_of_le (Nat.le_of_lt_succ hi) with h | rfl
          · exact HR.out.2 i q h hq
          · rw [hp] at hq; cases hq; exact hk
        clear hc hp
        go_wp2_with fail
        go_roundw
        case measure => simp [intOf] <;> omega
        case rel => exact ⟨j + 1, by omega, by go_num, Lib.hid ⟨HR.out.1, HE.out⟩⟩
      | false =>
        have hjP : j = P := (find_at (by rw [← HN.out]; exact hj) HR.out.2 (fun q hq => by rw [hp] at hq; cases hq; exact hk)).trans HP.out.symm
        have HJ := Lib.hid hjP
        have HB := Lib.hid HR.out.1
        have hzz : z = decide (p.1 = k) := HZ.out.trans (has_here (hjP.trans HP.out) hp)
        have HB2 : Hid (∀ q, Below w.heap.size w (wr.drewN q)) := Lib.hid fun q => below_drewN HB.out q
        by_cases he : p.1 = k
        · have he' : (p.1.toList == k.toList) = true := by rw [he]; simp
          have HF : Hid (z = true) := Lib.hid (by rw [hzz, decide_eq_true he])
          clear hc hp hzz hjP he
          go_wp2_with fail
          go_quiet (fail)
          go_wp2_with fail
          go_ret2
          rw [HF.out, ← HJ.out]
          exact ⟨rfl, HB2.out _⟩
        · have he' : (p.1.toList == k.toList) = false := by
            cases h : p.1.toList == k.toList with
            | false => rfl
            | true => exact absurd (toList_inj (by simpa using h)) he
          have HF : Hid (z = false) := Lib.hid (by rw [hzz, decide_eq_false he])
          clear hc hp hzz hjP he
          go_wp2_with fail
          go_quiet (fail)
          go_wp2_with fail
          go_ret2
          rw [HF.out, ← HJ.out]
          exact ⟨rfl, HB2.out _⟩
    · have hjn : ¬ ((j : Int) < (n : Int)) := by omega
      have hdec : decide ((j : Int) < (n : Int)) = false := decide_eq_false hjn
      have hjL : j = xs.length := by rw [← HN.out]; omega
      have hjP : j = P := (find_at (by omega) HR.out.2 (fun q hq => by rw [hjL] at hq; simp at hq)).trans HP.out.symm
      have HJ := Lib.hid hjP
      have HF : Hid (z = false) := Lib.hid (by rw [HZ.out]; exact has_end (by rw [← hjL, hjP, HP.out]))
      have HB2 : Hid (∀ q, Below w.heap.size w (wr.drewN q)) := Lib.hid fun q => below_drewN HR.out.1 q
      clear hjL hjP
      go_wp2_with fail
      go_quiet (fail)
      go_wp2_with fail
      go_ret2
      rw [HF.out, ← HJ.out]
      exact ⟨rfl, HB2.out _⟩
set_option maxHeartbeats 4000000 in
theorem rget_any {w : World} {g : Nat} {r : Option Nat} {c : Nat} {xs : List It} (h : RL w g r c xs) (hn : xs.length ≤ 1000) (k : ByteArray) :
    Calls Tryd.prog 36 #[.pointer (some ⟨g, 0, none⟩), .string k] w fun E w' => E = .returned (.tuple #[.string (valK xs k), .bool (hasK xs k)]) ∧ Below w.heap.size w w' := by
  have HF := Lib.hid (rfind_any h hn k)
  have HL := Lib.hid h
  obtain ⟨z, hz⟩ : ∃ z, z = hasK xs k := ⟨_, rfl⟩
  have HZ := Lib.hid hz
  rw [← hz] at HF ⊢
  clear h hz
  cases z with
  | false =>
    rw [val_none HZ.out.symm]
    go_enter Tryd.func36, Tryd.ntmps36
    go_wp2_with (go_at_call 38; refine HF.out.mono ?_; rintro E w1 ⟨rfl, b1⟩)
    go_ret2
    exact ⟨rfl, b1⟩
  | true =>
    go_enter Tryd.func36, Tryd.ntmps36
    go_wp2_with (go_at_call 38; refine HF.out.mono ?_)
    rintro E w1 ⟨rfl, b1⟩
    have hp := mem_of_has HZ.out.symm
    have hlt := pos_lt_of_has HZ.out.symm
    obtain ⟨b, o, hA, hbl, hc⟩ := (HL.out.row.its.below b1) (by omega)
    have cg : w1.cell? ⟨g, 0, none⟩ = some (.slice (slA r) xs.length c) := (HL.out.below b1).cell
    rw [hA] at cg
    have c1 : w1.cell? ⟨b, o + posOf xs k * 2 + 1, none⟩ = some (.string (valK xs k)) := (hc _ _ hp).2
    have HB := Lib.hid b1
    obtain ⟨P, hP⟩ : ∃ P, P = posOf xs k := ⟨_, rfl⟩
    rw [← hP] at c1 hlt ⊢
    obtain ⟨n, hnn⟩ : ∃ n, n = xs.length := ⟨_, rfl⟩
    rw [← hnn] at cg hlt hn
    have hj0 : (0 : Int) ≤ (P : Int) := by omega
    have htn : ((P : Int)).toNat = P := by omega
    have hjn : (P : Int) < (n : Int) := by omega
    have hdec : decide ((P : Int) < (n : Int)) = true := decide_eq_true hjn
    clear hp hc hA hbl b1 hP hnn HF
    go_wp2_with fail
    go_ret2
    exact ⟨rfl, HB.out⟩
end Go.Proofs.YtflenghnmflenaaDoor
