/-
  What is proved: the number that a value is, and that of a key. Conditions as stated.
-/
import Derived.Test.YtflenghnmflenaaDoorLk
namespace Go.Proofs.YtflenghnmflenaaDoor
open Go.RowKit
set_option maxRecDepth 100000

def numV (s : ByteArray) : Nat := (numOf s).getD 0
theorem num_ok {s : ByteArray} {n : Nat} (h : Lib.parseUintB 64 s.data.toList = .ok n) : numOf s = if n ≤ topN ∧ dec n = s then some n else none := by
  unfold numOf
  rw [h]
theorem num_no {s : ByteArray} (h : ∀ n, Lib.parseUintB 64 s.data.toList ≠ .ok n) : numOf s = none := by
  unfold numOf
  split
  · exact absurd ‹_› (h _)
  · rfl
set_option maxHeartbeats 2000000 in
theorem number_any (s : ByteArray) (hs : s.size ≤ 1000000) {w : World} (hv : Vars w) :
    Calls Tryd.prog 57 #[.string s] w fun E w' => E = .returned (.tuple #[.int .u64 (numV s : Int), .bool (numOf s).isSome]) ∧ Below w.heap.size w w' := by
  have HB0 := Lib.hid (Below.refl w.heap.size w)
  cases hp : Lib.parseUintB 64 s.data.toList with
  | ok n =>
    have hn64 : n < 18446744073709551616 := by have := Lib.parseUintB_le hp; omega
    have HP := Lib.hid (Tryd.strconv_ParseUint_10_at64_ok s (by omega) n hp w)
    have HX : Hid (∀ W, (W = w ∨ W = Lib.bytesWorld w 5 s) → Below w.heap.size w W) := Lib.hid fun W h => by
      rcases h with rfl | rfl
      · exact HB0.out
      · exact Lib.bytesWorld_below _ _ _
    have HD : Hid (∀ W, Below w.heap.size w W → Calls Tryd.prog 59 #[.int .u64 (n : Int)] W fun E w' => E = .returned (.string (dec n)) ∧ Below W.heap.size W w') := Lib.hid fun W h => digits_any n hn64 (hv.below h)
    have HO := Lib.hid (num_ok hp)
    obtain ⟨d, hd⟩ : ∃ d, d = dec n := ⟨_, rfl⟩
    rw [← hd] at HD HO
    clear hp hd hn64
    by_cases h1 : n ≤ topN
    · have h1' : ¬ ((n : Int) > 1125899906842624) := by unfold topN at h1; omega
      have h1'' : ¬ (1125899906842624 < (n : Int)) := by unfold topN at h1; omega
      by_cases h2 : d = s
      · have h2' : (d.toList == s.toList) = true := by rw [h2]; simp
        have HE : Hid (numV s = n ∧ (numOf s).isSome = true) := Lib.hid (by rw [numV, HO.out, if_pos ⟨h1, h2⟩]; exact ⟨rfl, rfl⟩)
        rw [HE.out.1, HE.out.2]
        clear h2 HE HO h1
        go_enter Tryd.func57, Tryd.ntmps57
        go_wp2_with (first
          | (go_at_call 64; refine HP.out.mono ?_; rintro E w1 ⟨rfl, hw⟩)
          | (go_at_call 59; refine (HD.out _ (HX.out _ hw)).mono ?_; rintro E w2 ⟨rfl, b2⟩))
        go_ret2
        exact ⟨rfl, (HX.out _ hw).trans (b2.mono (HX.out _ hw).size)⟩
      · have h2' : (d.toList == s.toList) = false := by
          cases h : d.toList == s.toList with
          | false => rfl
          | true => exact absurd (toList_inj (by simpa using h)) h2
        have HE : Hid (numV s = 0 ∧ (numOf s).isSome = false) := Lib.hid (by rw [numV, HO.out, if_neg (fun h => h2 h.2)]; exact ⟨rfl, rfl⟩)
        rw [HE.out.1, HE.out.2]
        clear h2 HE HO h1
        go_enter Tryd.func57, Tryd.ntmps57
        go_wp2_with (first
          | (go_at_call 64; refine HP.out.mono ?_; rintro E w1 ⟨rfl, hw⟩)
          | (go_at_call 59; refine (HD.out _ (HX.out _ hw)).mono ?_; rintro E w2 ⟨rfl, b2⟩))
        go_ret2
        exact ⟨rfl, (HX.out _ hw).trans (b2.mono (HX.out _ hw).size)⟩
    · have h1' : (1125899906842624 < (n : Int)) := by unfold topN at h1; omega
      have HE : Hid (numV s = 0 ∧ (numOf s).isSome = false) := Lib.hid (by rw [numV, HO.out, if_neg (fun h => h1 h.1)]; exact ⟨rfl, rfl⟩)
      rw [HE.out.1, HE.out.2]
      clear HE HO h1 HD
      go_enter Tryd.func57, Tryd.ntmps57
      go_wp2_with (go_at_call 64; refine HP.out.mono ?_; rintro E w1 ⟨rfl, hw⟩)
      go_ret2
      exact ⟨rfl, HX.out _ hw⟩
  | range =>
    obtain ⟨tp, p, hvar⟩ := hv.rng
    have HP := Lib.hid (Tryd.strconv_ParseUint_10_at64_range_var s (by omega) hp tp p w hvar)
    have hO := num_no (s := s) (fun n h => by rw [hp] at h; cases h)
    have HE : Hid (numV s = 0 ∧ (numOf s).isSome = false) := Lib.hid (by rw [numV, hO]; exact ⟨rfl, rfl⟩)
    rw [HE.out.1, HE.out.2]
    clear HE hO hp hvar
    go_enter Tryd.func57, Tryd.ntmps57
    go_wp2_with (go_at_call 64; refine HP.out.mono ?_; rintro E w1 ⟨N, rfl, _, _, hb⟩)
    go_ret2
    exact ⟨rfl, hb⟩
  | _ =>
    obtain ⟨tp, p, hvar⟩ := hv.syn
    have HP := Lib.hid (Tryd.strconv_ParseUint_10_at64_bad_var s (by omega) (fun n h => by rw [hp] at h; cases h) (fun h => by rw [hp] at h; cases h) tp p w hvar)
    have hO := num_no (s := s) (fun n h => by rw [hp] at h; cases h)
    have HE : Hid (numV s = 0 ∧ (numOf s).isSome = false) := Lib.hid (by rw [numV, hO]; exact ⟨rfl, rfl⟩)
    rw [HE.out.1, HE.out.2]
    clear HE hO hp hvar
    go_enter Tryd.func57, Tryd.ntmps57
    go_wp2_with (go_at_call 64; refine HP.out.mono ?_; rintro E w1 ⟨N, rfl, _, _, hb⟩)
    go_ret2
    exact ⟨rfl, hb⟩
theorem numberAt_any {w : World} {g : Nat} {r : Option Nat} {c : Nat} {xs : List It} (h : Led w g r c xs) (hs : Rise xs) (hn : xs.length ≤ 4611686018427387904) (k : ByteArray) (hk : (valK xs k).size ≤ 1000000) (hv : Vars w) :
    Calls Tryd.prog 58 #[.pointer (some ⟨g, 0, none⟩), .string k] w fun E w' => E = .returned (.tuple #[.int .u64 ((numAt xs k).getD 0 : Nat), .bool (numAt xs k).isSome]) ∧ Below w.heap.size w w' := by
  have HC := Lib.hid (value_any h hs hn k)
  have HN : Hid (∀ W, Below w.heap.size w W → Calls Tryd.prog 57 #[.string (valK xs k)] W fun E w' => E = .returned (.tuple #[.int .u64 (numV (valK xs k) : Int), .bool (numOf (valK xs k)).isSome]) ∧ Below W.heap.size W w') := Lib.hid fun W hb => number_any _ hk (hv.below hb)
  have HE : Hid (numAt xs k = if hasK xs k then numOf (valK xs k) else some 0) := Lib.hid rfl
  obtain ⟨z, hz⟩ : ∃ z, z = hasK xs k := ⟨_, rfl⟩
  obtain ⟨v, hv⟩ : ∃ v, v = valK xs k := ⟨_, rfl⟩
  obtain ⟨a, ha⟩ : ∃ a, a = numAt xs k := ⟨_, rfl⟩
  rw [← hz, ← hv] at HC
  rw [← hv] at HN
  rw [← hz, ← hv, ← ha] at HE
  rw [← ha]
  clear hz hv ha h hs hn hk
  cases z with
  | false =>
    have HE2 : Hid (a = some 0) := Lib.hid HE.out
    rw [HE2.out]
    go_enter Tryd.func58, Tryd.ntmps58
    go_wp2_with (go_at_call 52; refine HC.out.mono ?_; rintro E w1 ⟨rfl, b1⟩)
    go_ret2
    exact ⟨rfl, b1⟩
  | true =>
    have HE2 : Hid (a = numOf v) := Lib.hid HE.out
    rw [HE2.out]
    go_enter Tryd.func58, Tryd.ntmps58
    go_wp2_with (first
      | (go_at_call 52; refine HC.out.mono ?_; rintro E w1 ⟨rfl, b1⟩)
      | (go_at_call 57; refine (HN.out _ b1).mono ?_; rintro E w2 ⟨rfl, b2⟩))
    go_ret2
    exact ⟨rfl, b1.trans (b2.mono b1.size)⟩
end Go.Proofs.YtflenghnmflenaaDoor
