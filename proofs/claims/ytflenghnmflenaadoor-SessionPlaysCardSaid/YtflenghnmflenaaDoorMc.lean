/-
  What is proved: the number that a value is, by the document's own answers. Conditions as stated.
-/
import Derived.Test.YtflenghnmflenaaDoorMb
import Derived.Test.YtflenghnmflenaaDoorLl
import Derived.Lib.AtoiErr
namespace Go.Proofs.YtflenghnmflenaaDoor
open Go.RowKit
set_option maxRecDepth 100000

theorem bsize (s : ByteArray) : s.size = s.data.toList.length := by
  show s.data.size = _
  rw [Array.length_toList]
theorem num_short {s : ByteArray} (hl : s.data.toList.length ≤ 18) : numOf s = match Lib.decNat s.data.toList with | some n => if n ≤ topN ∧ dec n = s then some n else none | none => none := by
  unfold numOf
  rw [Lib.parseUintB_64, Lib.parseMag_short _ hl]
  cases Lib.decNat s.data.toList <;> rfl
theorem nDigits_le : ∀ (k n : Nat), n < 10 ^ (k + 1) → Lib.nDigits n ≤ k + 1
  | 0, n, h => by rw [Lib.nDigits_small (by simpa using h)]; omega
  | k + 1, n, h => by
    by_cases h10 : n < 10
    · rw [Lib.nDigits_small h10]; omega
    · rw [Lib.nDigits_big h10]
      have := nDigits_le k (n / 10) (by rw [Nat.pow_succ] at h; omega)
      omega
theorem num_long {s : ByteArray} (hl : 16 < s.size) : numOf s = none := by
  cases h : numOf s with
  | none => rfl
  | some n =>
    exfalso
    obtain ⟨h1, h2⟩ := dec_of_num h
    have h3 : (dec n).size = Lib.nDigits n := by rw [dec, size_mk, Lib.decDigits_length]
    have h4 := nDigits_le 15 n (by unfold topN at h2; omega)
    rw [h1] at h3
    omega
def NumP (s : ByteArray) (w : World) (E : Ending) (w' : World) : Prop := ∃ x : Nat, E = .returned (.tuple #[.int .u64 (x : Int), .bool (numOf s).isSome]) ∧ ((numOf s).isSome = true → x = numV s) ∧ (s = ByteArray.empty → x = 0) ∧ Below w.heap.size w w'
theorem index_str (s : ByteArray) (j : Nat) (b : UInt8) (h : s.data.toList[j]? = some b) (w : World) : (Instr.index 9 (.string s) (.int .i64 (j : Int))).run Tryd.prog w = .ok (.int .u8 (b.toNat : Int)) w := by
  have hj : j < s.data.toList.length := (List.getElem?_eq_some_iff.1 h).1
  have hj' : j < s.size := by rw [bsize]; exact hj
  have hb : s[j]? = some b := by
    rw [getElem?_pos s j hj']
    congr 1
    obtain ⟨_, e⟩ := List.getElem?_eq_some_iff.1 h
    rw [← e]
    rfl
  simp [Instr.index, asIntOf, run_underlying Tryd.underlying9, hb]
set_option maxHeartbeats 4000000 in
theorem rnum_any (s : ByteArray) (w : World) (hsz : s.size ≤ 140737488355328) : Calls Tryd.prog 50 #[.string s] w fun E w' => NumP s w E w' := by
  have HB0 := Lib.hid (Below.refl w.heap.size w)
  have HS := Lib.hid hsz
  have hle := bsize s
  by_cases h0 : s.size = 0
  · have hs : s = ByteArray.empty := by
      apply ByteArray.ext
      apply Array.toList_inj.1
      exact List.eq_nil_of_length_eq_zero (by omega)
    have hF : NumP s w (.returned (.tuple #[.int .u64 0, .bool false])) w := ⟨0, by rw [hs, num_empty]; rfl, (fun h => by rw [hs, num_empty] at h; cases h), fun _ => rfl, HB0.out⟩
    have HF := Lib.hid hF
    have h1 : (s.size : Int) < 1 := by omega
    clear hF hs hle h0
    go_enter Tryd.func50, Tryd.ntmps50
    go_wp2_with fail
    go_ret2
    exact HF.out
  · have h1 : ¬ ((s.size : Int) < 1) := by omega
    have hne : s ≠ ByteArray.empty := fun e => h0 (by rw [e]; rfl)
    by_cases h16 : 16 < s.size
    · have hF : NumP s w (.returned (.tuple #[.int .u64 0, .bool false])) w := ⟨0, by rw [num_long h16]; rfl, (fun h => by rw [num_long h16] at h; cases h), fun _ => rfl, HB0.out⟩
      have HF := Lib.hid hF
      have h2 : (16 < (s.size : Int)) := by omega
      clear hF hle h0 hne h16
      go_enter Tryd.func50, Tryd.ntmps50
      go_wp2_with fail
      go_ret2
      exact HF.out
    · have h2 : ¬ (16 < (s.size : Int)) := by omega
      obtain ⟨n, hn⟩ : ∃ n, n = s.size := ⟨_, rfl⟩
      obtain ⟨l, hl⟩ : ∃ l, l = s.data.toList := ⟨_, rfl⟩
      have hln : l.length = n := by rw [hl, hn, hle]
      have HIx : Hid (∀ (j : Nat) (b : UInt8) (W : World), l[j]? = some b → (Instr.index 9 (.string s) (.int .i64 (j : Int))).run Tryd.prog W = .ok (.int .u8 (b.toNat : Int)) W) := Lib.hid fun j b W h => index_str s j b (by rw [← hl]; exact h) W
      have HNo : Hid (Lib.decFrom 0 l = none → ∀ x : Nat, x = 0 → NumP s w (.returned (.tuple #[.int .u64 (x : Int), .bool false])) w) := Lib.hid fun h x hx => by
        have e : numOf s = none := by
          rw [num_short (by rw [← hl]; omega), ← hl]
          have hd : Lib.decNat l = none := by
            unfold Lib.decNat
            split
            · rfl
            · exact h
          rw [hd]
        exact ⟨x, by rw [e]; rfl, (fun h => by rw [e] at h; cases h), fun _ => hx, HB0.out⟩
      have HYes : Hid (∀ x, Lib.decFrom 0 l = some x → x < 1000000000000000000 ∧ (numOf s = if x ≤ topN ∧ dec x = s then some x else none)) := Lib.hid fun x h => by
        refine ⟨Lib.decFrom_lt18 h (by omega), ?_⟩
        rw [num_short (by rw [← hl]; omega), ← hl]
        have hd : Lib.decNat l = some x := by
          unfold Lib.decNat
          rw [if_neg (by cases l with | nil => simp at hln; omega | cons _ _ => simp)]
          exact h
        rw [hd]
      have HD := Lib.hid (fun N hN W => rdigits_any N hN W)
      have HNE := Lib.hid hne
      rw [← hn] at h1 h2 h16
      have HL := Lib.hid hln
      have HNs := Lib.hid hn
      have hnn : n ≤ 16 := by omega
      clear hl hn hln hle h0 hne h16
      go_enter Tryd.func50, Tryd.ntmps50
      rw [HNs.out] at h1 h2
      go_wp2_with fail
      go_loop [4, 5] (fun v4 v5 => ∃ j acc : Nat, j ≤ n ∧ v5 = .int .i64 (j : Int) ∧ v4 = .int .u64 (acc : Int) ∧ Hid (Lib.decFrom 0 (l.take j) = some acc)) (fun _ v5 => n - (intOf v5).toNat)
      case atStart => exact ⟨0, 0, by omega, rfl, rfl, Lib.hid (by simp [Lib.decFrom])⟩
      case round =>
        obtain ⟨j, acc, hj, rfl, rfl, HR⟩ := hrel
        by_cases hjj : j < n
        · obtain ⟨b, hb⟩ : ∃ b, l[j]? = some b := ⟨_, List.getElem?_eq_getElem (by rw [HL.out]; exact hjj)⟩
          have hix := HIx.out j b w hb
          have hacc : acc < 1000000000000000000 := Lib.decFrom_lt18 HR.out (by rw [List.length_take]; omega)
          have hjs : (j : Int) < (s.size : Int) := by rw [← HNs.out]; omega
          cases hd : Lib.digitVal b with
          | none =>
            have hF := HNo.out (by
              cases hz : Lib.decFrom 0 l with
              | none => rfl
              | some z =>
                obtain ⟨d, hd'⟩ := Lib.digit_of_decFrom l 0 z hz j b hb
                rw [hd] at hd'; cases hd') 0 rfl
            have HF := Lib.hid hF
            rcases Lib.digitVal_none hd with h | h
            · have h' : (b.toNat : Int) < 48 := by omega
              clear hF hd hb hacc
              go_wp2_with fail
              go_ret2
              exact HF.out
            · have h' : ¬ ((b.toNat : Int) < 48) := by omega
              have h'' : (57 < (b.toNat : Int)) := by omega
              clear hF hd hb hacc
              go_wp2_with fail
              go_ret2
              exact HF.out
          | some d =>
            obtain ⟨e1, e2, e3⟩ := Lib.digitVal_eq hd
            have HX := Lib.hid (Lib.decFrom_take l j 0 acc b d HR.out hb hd)
            have h' : ¬ ((b.toNat : Int) < 48) := by omega
            have h'' : ¬ (57 < (b.toNat : Int)) := by omega
            have hw1 : IntKind.u8.wrap ((b.toNat : Int) - 48) = (d : Int) := by rw [IntKind.wrap_u8]; omega
            have hw2 : IntKind.u64.wrap (d : Int) = (d : Int) := by rw [IntKind.wrap_u64]; omega
            have hw3 : IntKind.u64.wrap (10 * (acc : Int)) = 10 * (acc : Int) := by rw [IntKind.wrap_u64]; omega
            have hw4 : IntKind.u64.wrap (10 * (acc : Int) + (d : Int)) = ((acc * 10 + d : Nat) : Int) := by rw [IntKind.wrap_u64]; omega
            clear hd hb hacc e1 e2 e3
            go_wp2_with fail
            go_round
            case measure => simp [intOf] <;> omega
            case rel => exact ⟨j + 1, acc * 10 + d, by omega, by go_num, rfl, HX⟩
        · obtain rfl : j = n := by omega
          have hR : Lib.decFrom 0 l = some acc := by
            have := HR.out
            rwa [List.take_of_length_le (by rw [HL.out]; exact Nat.le_refl _)] at this
          obtain ⟨ha, hO⟩ := HYes.out acc hR
          have hjs : ¬ ((j : Int) < (s.size : Int)) := by rw [← HNs.out]; omega
          have HO := Lib.hid hO
          have HDD := Lib.hid (HD.out acc (by omega) w)
          clear hR hO
          by_cases ht : acc ≤ topN
          · have ht' : (acc : Int) ≤ 1125899906842624 := by unfold topN at ht; omega
            have ht'' : ¬ (1125899906842624 < (acc : Int)) := by omega
            obtain ⟨q, hq⟩ : ∃ q, q = dec acc := ⟨_, rfl⟩
            rw [← hq] at HDD HO
            clear hq
            by_cases he : q = s
            · have he' : (q.toList == s.toList) = true := by rw [he]; simp
              have HO2 : Hid (numOf s = some acc) := Lib.hid (by rw [HO.out, if_pos ⟨ht, he⟩])
              clear he ht HO
              go_wp2_with (go_at_call 51; refine HDD.out.mono ?_; rintro E w1 ⟨rfl, hb⟩)
              go_ret2
              exact ⟨acc, by rw [HO2.out]; rfl, fun _ => by rw [numV, HO2.out]; rfl, fun e => absurd e HNE.out, hb⟩
            · have he' : (q.toList == s.toList) = false := by
                cases h : q.toList == s.toList with
                | false => rfl
                | true => exact absurd (toList_inj (by simpa using h)) he
              have HO2 : Hid (numOf s = none) := Lib.hid (by rw [HO.out, if_neg (fun h => he h.2)])
              clear he ht HO
              go_wp2_with (go_at_call 51; refine HDD.out.mono ?_; rintro E w1 ⟨rfl, hb⟩)
              go_ret2
              exact ⟨acc, by rw [HO2.out]; rfl, (fun h => by rw [HO2.out] at h; cases h), fun e => absurd e HNE.out, hb⟩
          · have ht' : ¬ ((acc : Int) ≤ 1125899906842624) := by unfold topN at ht; omega
            have ht'' : (1125899906842624 < (acc : Int)) := by omega
            have HO2 : Hid (numOf s = none) := Lib.hid (by rw [HO.out, if_neg (fun h => ht h.1)])
            clear ht HO HDD
            go_wp2_with fail
            go_ret2
            exact ⟨acc, by rw [HO2.out]; rfl, (fun h => by rw [HO2.out] at h; cases h), fun e => absurd e HNE.out, HB0.out⟩
end Go.Proofs.YtflenghnmflenaaDoor
