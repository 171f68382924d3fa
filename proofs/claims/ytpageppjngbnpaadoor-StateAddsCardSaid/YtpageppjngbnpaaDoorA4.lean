/-
  What is proved: a number's digits, and the number of digits, by the program. Conditions as stated.
  What is proved: the number that a value is, and that of a key. Conditions as stated.
  What is proved: a key has a value. Conditions as stated.
  What is proved: what each kind of operation does. Conditions as stated.
  What is proved: a key is taken away. Conditions as stated.
  What is proved: an amount is moved. Conditions as stated.
-/
import Derived.Test.YtpageppjngbnpaaDoorA1
import Derived.Test.YtpageppjngbnpaaDoorSh
import Derived.Lib.ItoaMem
import Derived.BigCall
import Derived.BigGuard
import Derived.Test.YtpageppjngbnpaaDoorA3
import Derived.Test.YtpageppjngbnpaaDoorA2
namespace Go.Proofs.YtpageppjngbnpaaDoor
open Go.RowKit
set_option maxRecDepth 100000

/-- The library's variables hold what its text lays there. -/
structure Vars (w : World) : Prop where
  syn : ∃ tp p, w.var? Tryd.prog "strconv.ErrSyntax" = some #[.iface tp p]
  rng : ∃ tp p, w.var? Tryd.prog "strconv.ErrRange" = some #[.iface tp p]
  tab : Lib.TabIs Tryd.prog w "internal/strconv.uint64pow10" .u64 Lib.pow10Tab
theorem Tryd.g1 : Tryd.prog.globalNamed "strconv.ErrSyntax" = some 1 := by kernel_rfl
theorem Tryd.g2 : Tryd.prog.globalNamed "strconv.ErrRange" = some 2 := by kernel_rfl
theorem Tryd.g3 : Tryd.prog.globalNamed "internal/strconv.uint64pow10" = some 3 := by kernel_rfl
theorem var_kept {w w' : World} {n : String} {g : Nat} (hg : Tryd.prog.globalNamed n = some g) (h : w'.heap[g]? = w.heap[g]?) : w'.var? Tryd.prog n = w.var? Tryd.prog n := by
  simp [World.var?, hg, h]
theorem Vars.kept {w w' : World} (h : Vars w) (hk : ∀ k, k < 4 → w'.heap[k]? = w.heap[k]?) : Vars w' := by
  obtain ⟨⟨t1, p1, h1⟩, ⟨t2, p2, h2⟩, h3⟩ := h
  refine ⟨⟨t1, p1, (var_kept Tryd.g1 (hk 1 (by omega))).trans h1⟩, ⟨t2, p2, (var_kept Tryd.g2 (hk 2 (by omega))).trans h2⟩, ?_⟩
  unfold Lib.TabIs at h3 ⊢
  exact (var_kept Tryd.g3 (hk 3 (by omega))).trans h3
theorem Vars.low {w : World} (h : Vars w) : 4 ≤ w.heap.size := by
  have h3 := h.tab
  unfold Lib.TabIs at h3
  have hlt : 3 < w.heap.size := by
    rcases Nat.lt_or_ge 3 w.heap.size with h' | h'
    · exact h'
    · simp [World.var?, Tryd.g3, Array.getElem?_eq_none h'] at h3
  omega
theorem Vars.below {w w' : World} (h : Vars w) (hb : Below w.heap.size w w') : Vars w' := h.kept fun k hk => hb.block k (by have := h.low; omega)

theorem holds_zero0 (w : World) (T : TypeId) (nd : Nat) (hs : nd ≤ 24) : Sort.Holds (fun (b : UInt8) => Value.int .u8 (b.toNat : Int)) (w.alloc (.cells Lib.zeros24 T)) w.heap.size 0 (Array.replicate nd (0 : UInt8)) := fun j hj => by
  have hj' : j < nd := by simpa using hj
  refine ⟨?_, World.frozen?_alloc_new _ _ _ _⟩
  rw [World.cell?_alloc_new, Nat.zero_add, Lib.zeros24_at _ (by omega), getElem!_pos _ j hj]
  simp
theorem put_below {w W : World} {d : Array UInt8} (h : Below w.heap.size w W) (g : Nat) (hg : w.heap.size ≤ g) : Below w.heap.size w (Sort.putRow (fun (b : UInt8) => Value.int .u8 (b.toNat : Int)) W g 0 d) :=
  ⟨h.os, h.tape, h.output, by simpa [Sort.putRow, Sort.mapBlock] using h.size, fun k hk => by
    rw [← h.block k hk]
    simp [Sort.putRow, Sort.mapBlock, Array.getElem?_modify, show g ≠ k by omega]⟩
set_option maxHeartbeats 4000000 in
theorem digits_in (u : Nat) (hu : u < 18446744073709551616) (w : World) (htab : Lib.TabIs Tryd.prog w "internal/strconv.uint64pow10" .u64 Lib.pow10Tab) :
    Calls Tryd.prog 71 #[.int .u64 (u : Int), .int .i64 10] w fun E w' => E = .returned (.string (dec u)) ∧ Below w.heap.size w w' := by
  by_cases hs : u < 100
  · have hs' : ¬ ((100 : Int) ≤ (u : Int)) := by omega
    have hs2 : (u : Int) < 100 := by omega
    have hw : IntKind.i64.wrap (u : Int) = (u : Int) := by rw [IntKind.wrap_i64]; omega
    have HB := Lib.hid (Below.refl w.heap.size w)
    go_enter Tryd.func71, Tryd.ntmps71
    go_wp2_with (go_at_call 80; refine (Tryd.internal_strconv_small u hs _).mono ?_; rintro E w' ⟨rfl, rfl⟩)
    go_ret
    exact ⟨rfl, HB.out⟩
  · have hs2 : ¬ ((u : Int) < 100) := by omega
    have hu1 : 1 ≤ u := by omega
    have hnd20 : Lib.nDigits u ≤ 20 := by have := Lib.numDigits_eq u hu1 hu; split at this <;> omega
    have hal : Tryd.prog.arrayLen 126 = 24 := by kernel_rfl
    obtain ⟨nd, hnd⟩ : ∃ nd, nd = Lib.nDigits u := ⟨_, rfl⟩
    have hb3 : nd ≤ 24 := by omega
    have hsl : ∀ W, (Instr.sliceAt 126 (.pointer (some ⟨w.heap.size, 0, none⟩)) none (some (.int .i64 (nd : Int))) none).run Tryd.prog W = .ok (.slice (some ⟨w.heap.size, 0, none⟩) nd 24) W := fun W => by
      rw [run_sliceAt_array_h W 126 ⟨w.heap.size, 0, none⟩ (by simp [Program.arrayLen, Program.elem, Tryd.underlying126]) .i64 (nd : Int) (by omega) (by rw [hal]; omega)]
      go_simp
    have hH0 := holds_zero0 w 126 nd hb3
    have hfmt := Tryd.internal_strconv_formatBase10 w.heap.size 0 24 u (Array.replicate nd 0) (w.alloc (.cells Lib.zeros24 126)) hH0 (by rw [Array.size_replicate, hnd]; exact Lib.lt_pow_nDigits u) hu (by rw [Array.size_replicate]; omega)
    rw [Array.size_replicate] at hfmt
    have HH0 := Lib.hid hH0
    have HN := Lib.hid (Tryd.internal_strconv_numDigits u hu1 hu)
    rw [← hnd] at HN
    have HND := Lib.hid hnd
    have HB : Hid (Below w.heap.size w (w.alloc (.cells Lib.zeros24 126))) := Lib.hid ((Below.refl _ _).alloc (Nat.le_refl _) _)
    have HT := Lib.hid (Lib.tabIs_alloc htab (.cells Lib.zeros24 126))
    clear hH0 hal htab hnd hnd20
    go_enter Tryd.func71, Tryd.ntmps71
    go_wp2_with (go_at_call 81; refine (HN.out _ HT.out).mono ?_; rintro E w' ⟨rfl, rfl⟩)
    go_at_call 82
    refine hfmt.mono ?_
    rintro E w' ⟨rfl, k, v', dk, rfl, hF⟩
    have hcv : (convert 38 9 (.slice (some ⟨w.heap.size, 0, none⟩) nd 24)).run Tryd.prog ((Sort.putRow (fun (b : UInt8) => Value.int .u8 (b.toNat : Int)) (w.alloc (.cells Lib.zeros24 126)) w.heap.size 0 dk).drewN k) = .ok (.string (dec u)) ((Sort.putRow (fun (b : UInt8) => Value.int .u8 (b.toNat : Int)) (w.alloc (.cells Lib.zeros24 126)) w.heap.size 0 dk).drewN k) := by
      have h := run_convert_bytes_back (P := Tryd.prog) ((Sort.putRow (fun (b : UInt8) => Value.int .u8 (b.toNat : Int)) (w.alloc (.cells Lib.zeros24 126)) w.heap.size 0 dk).drewN k) 38 9 5 ⟨w.heap.size, 0, none⟩ 24 (Lib.decDigits u) Tryd.underlying38 Tryd.underlying5 Tryd.underlying9 (fun j hj => by
        rw [HND.out] at hF
        rw [Lib.add_plain, Lib.row_is_numeral hF j hj, World.cell?_drewN]
        exact Sort.cell?_putRow (fun (b : UInt8) => Value.int .u8 (b.toNat : Int)) _ w.heap.size 0 _ dk HH0.out (by rw [hF.size, Array.size_replicate, HND.out]) j (by rw [hF.size]; rw [Lib.decDigits_length] at hj; exact hj))
      rw [Lib.decDigits_length, ← HND.out] at h
      exact h
    have HB2 := Lib.hid (below_drewN (put_below (d := dk) HB.out w.heap.size (Nat.le_refl _)) k)
    clear hF
    go_wp2
    go_ret
    exact ⟨rfl, HB2.out⟩
theorem digits_any (u : Nat) (hu : u < 18446744073709551616) {w : World} (hv : Vars w) : Calls Tryd.prog 59 #[.int .u64 (u : Int)] w fun E w' => E = .returned (.string (dec u)) ∧ Below w.heap.size w w' := by
  have HI := Lib.hid (digits_in u hu w hv.tab)
  have h55 : Calls Tryd.prog 65 #[.int .u64 (u : Int), .int .i64 10] w fun E w' => E = .returned (.string (dec u)) ∧ Below w.heap.size w w' := by
    go_enter Tryd.func65, Tryd.ntmps65
    go_wp2_with (go_at_call 71; refine HI.out.mono ?_; rintro E w' ⟨rfl, hb⟩)
    go_ret
    exact ⟨rfl, hb⟩
  have HJ := Lib.hid h55
  clear h55
  go_enter Tryd.func59, Tryd.ntmps59
  go_wp2_with (go_at_call 65; refine HJ.out.mono ?_; rintro E w' ⟨rfl, hb⟩)
  go_ret
  exact ⟨rfl, hb⟩
open Go.RowKit
set_option maxRecDepth 100000

def numV (s : ByteArray) : Nat := (numOf s).getD 0
theorem num_ok {s : ByteArray} {n : Nat} (h : Lib.parseUintB 64 s.data.toList = .ok n) : numOf s = if n ≤ topN ∧ dec n = s then some n else none := by
  unfold numOf
  rw [h]
theorem num_no {s : ByteArray} (h : ∀ n, Lib.parseUintB 64 s.data.toList ≠ .ok n) : numOf s = none := by
  unfold numOf
  split
  · exact absurd ‹_› (h _)
  · rfl
set_option maxHeartbeats 2000000 in
theorem number_any (s : ByteArray) (hs : s.size ≤ 1000000) {w : World} (hv : Vars w) :
    Calls Tryd.prog 57 #[.string s] w fun E w' => E = .returned (.tuple #[.int .u64 (numV s : Int), .bool (numOf s).isSome]) ∧ Below w.heap.size w w' := by
  have HB0 := Lib.hid (Below.refl w.heap.size w)
  cases hp : Lib.parseUintB 64 s.data.toList with
  | ok n =>
    have hn64 : n < 18446744073709551616 := by have := Lib.parseUintB_le hp; omega
    have HP := Lib.hid (Tryd.strconv_ParseUint_10_at64_ok s (by omega) n hp w)
    have HX : Hid (∀ W, (W = w ∨ W = Lib.bytesWorld w 5 s) → Below w.heap.size w W) := Lib.hid fun W h => by
      rcases h with rfl | rfl
      · exact HB0.out
      · exact Lib.bytesWorld_below _ _ _
    have HD : Hid (∀ W, Below w.heap.size w W → Calls Tryd.prog 59 #[.int .u64 (n : Int)] W fun E w' => E = .returned (.string (dec n)) ∧ Below W.heap.size W w') := Lib.hid fun W h => digits_any n hn64 (hv.below h)
    have HO := Lib.hid (num_ok hp)
    obtain ⟨d, hd⟩ : ∃ d, d = dec n := ⟨_, rfl⟩
    rw [← hd] at HD HO
    clear hp hd hn64
    by_cases h1 : n ≤ topN
    · have h1' : ¬ ((n : Int) > 1125899906842624) := by unfold topN at h1; omega
      have h1'' : ¬ (1125899906842624 < (n : Int)) := by unfold topN at h1; omega
      by_cases h2 : d = s
      · have h2' : (d.toList == s.toList) = true := by rw [h2]; simp
        have HE : Hid (numV s = n ∧ (numOf s).isSome = true) := Lib.hid (by rw [numV, HO.out, if_pos ⟨h1, h2⟩]; exact ⟨rfl, rfl⟩)
        rw [HE.out.1, HE.out.2]
        clear h2 HE HO h1
        go_enter Tryd.func57, Tryd.ntmps57
        go_wp2_with (first
          | (go_at_call 64; refine HP.out.mono ?_; rintro E w1 ⟨rfl, hw⟩)
          | (go_at_call 59; refine (HD.out _ (HX.out _ hw)).mono ?_; rintro E w2 ⟨rfl, b2⟩))
        go_ret2
        exact ⟨rfl, (HX.out _ hw).trans (b2.mono (HX.out _ hw).size)⟩
      · have h2' : (d.toList == s.toList) = false := by
          cases h : d.toList == s.toList with
          | false => rfl
          | true => exact absurd (toList_inj (by simpa using h)) h2
        have HE : Hid (numV s = 0 ∧ (numOf s).isSome = false) := Lib.hid (by rw [numV, HO.out, if_neg (fun h => h2 h.2)]; exact ⟨rfl, rfl⟩)
        rw [HE.out.1, HE.out.2]
        clear h2 HE HO h1
        go_enter Tryd.func57, Tryd.ntmps57
        go_wp2_with (first
          | (go_at_call 64; refine HP.out.mono ?_; rintro E w1 ⟨rfl, hw⟩)
          | (go_at_call 59; refine (HD.out _ (HX.out _ hw)).mono ?_; rintro E w2 ⟨rfl, b2⟩))
        go_ret2
        exact ⟨rfl, (HX.out _ hw).trans (b2.mono (HX.out _ hw).size)⟩
    · have h1' : (1125899906842624 < (n : Int)) := by unfold topN at h1; omega
      have HE : Hid (numV s = 0 ∧ (numOf s).isSome = false) := Lib.hid (by rw [numV, HO.out, if_neg (fun h => h1 h.1)]; exact ⟨rfl, rfl⟩)
      rw [HE.out.1, HE.out.2]
      clear HE HO h1 HD
      go_enter Tryd.func57, Tryd.ntmps57
      go_wp2_with (go_at_call 64; refine HP.out.mono ?_; rintro E w1 ⟨rfl, hw⟩)
      go_ret2
      exact ⟨rfl, HX.out _ hw⟩
  | range =>
    obtain ⟨tp, p, hvar⟩ := hv.rng
    have HP := Lib.hid (Tryd.strconv_ParseUint_10_at64_range_var s (by omega) hp tp p w hvar)
    have hO := num_no (s := s) (fun n h => by rw [hp] at h; cases h)
    have HE : Hid (numV s = 0 ∧ (numOf s).isSome = false) := Lib.hid (by rw [numV, hO]; exact ⟨rfl, rfl⟩)
    rw [HE.out.1, HE.out.2]
    clear HE hO hp hvar
    go_enter Tryd.func57, Tryd.ntmps57
    go_wp2_with (go_at_call 64; refine HP.out.mono ?_; rintro E w1 ⟨N, rfl, _, _, hb⟩)
    go_ret2
    exact ⟨rfl, hb⟩
  | _ =>
    obtain ⟨tp, p, hvar⟩ := hv.syn
    have HP := Lib.hid (Tryd.strconv_ParseUint_10_at64_bad_var s (by omega) (fun n h => by rw [hp] at h; cases h) (fun h => by rw [hp] at h; cases h) tp p w hvar)
    have hO := num_no (s := s) (fun n h => by rw [hp] at h; cases h)
    have HE : Hid (numV s = 0 ∧ (numOf s).isSome = false) := Lib.hid (by rw [numV, hO]; exact ⟨rfl, rfl⟩)
    rw [HE.out.1, HE.out.2]
    clear HE hO hp hvar
    go_enter Tryd.func57, Tryd.ntmps57
    go_wp2_with (go_at_call 64; refine HP.out.mono ?_; rintro E w1 ⟨N, rfl, _, _, hb⟩)
    go_ret2
    exact ⟨rfl, hb⟩
theorem numberAt_any {w : World} {g : Nat} {r : Option Nat} {c : Nat} {xs : List It} (h : Led w g r c xs) (hs : Rise xs) (hn : xs.length ≤ 4611686018427387904) (k : ByteArray) (hk : (valK xs k).size ≤ 1000000) (hv : Vars w) :
    Calls Tryd.prog 58 #[.pointer (some ⟨g, 0, none⟩), .string k] w fun E w' => E = .returned (.tuple #[.int .u64 ((numAt xs k).getD 0 : Nat), .bool (numAt xs k).isSome]) ∧ Below w.heap.size w w' := by
  have HC := Lib.hid (value_any h hs hn k)
  have HN : Hid (∀ W, Below w.heap.size w W → Calls Tryd.prog 57 #[.string (valK xs k)] W fun E w' => E = .returned (.tuple #[.int .u64 (numV (valK xs k) : Int), .bool (numOf (valK xs k)).isSome]) ∧ Below W.heap.size W w') := Lib.hid fun W hb => number_any _ hk (hv.below hb)
  have HE : Hid (numAt xs k = if hasK xs k then numOf (valK xs k) else some 0) := Lib.hid rfl
  obtain ⟨z, hz⟩ : ∃ z, z = hasK xs k := ⟨_, rfl⟩
  obtain ⟨v, hv⟩ : ∃ v, v = valK xs k := ⟨_, rfl⟩
  obtain ⟨a, ha⟩ : ∃ a, a = numAt xs k := ⟨_, rfl⟩
  rw [← hz, ← hv] at HC
  rw [← hv] at HN
  rw [← hz, ← hv, ← ha] at HE
  rw [← ha]
  clear hz hv ha h hs hn hk
  cases z with
  | false =>
    have HE2 : Hid (a = some 0) := Lib.hid HE.out
    rw [HE2.out]
    go_enter Tryd.func58, Tryd.ntmps58
    go_wp2_with (go_at_call 52; refine HC.out.mono ?_; rintro E w1 ⟨rfl, b1⟩)
    go_ret2
    exact ⟨rfl, b1⟩
  | true =>
    have HE2 : Hid (a = numOf v) := Lib.hid HE.out
    rw [HE2.out]
    go_enter Tryd.func58, Tryd.ntmps58
    go_wp2_with (first
      | (go_at_call 52; refine HC.out.mono ?_; rintro E w1 ⟨rfl, b1⟩)
      | (go_at_call 57; refine (HN.out _ b1).mono ?_; rintro E w2 ⟨rfl, b2⟩))
    go_ret2
    exact ⟨rfl, b1.trans (b2.mono b1.size)⟩
open Go.RowKit
set_option maxRecDepth 100000

theorem Blk.store {w : World} {b : Nat} {C : List Value} (h : Blk w b C) (j : Nat) (v : Value) : Blk (w.setCell ⟨b, j, none⟩ v) b (C.set j v) := by
  show (w.setCell ⟨b, j, none⟩ v).heap[b]? = _
  simp [World.setCell, Array.getElem?_modify, show w.heap[b]? = _ from h]
theorem itC_set : ∀ (xs : List It) (i : Nat) (k v v0 : ByteArray), xs[i]? = some (k, v0) → (itC xs).set (i * 2 + 1) (.string v) = itC (xs.set i (k, v))
  | [], i, k, v, v0, h => by simp at h
  | p :: r, 0, k, v, v0, h => by
    obtain rfl : p = (k, v0) := by simpa using h
    rw [itC_cons]
    simp [itC]
  | p :: r, i + 1, k, v, v0, h => by
    rw [show (i + 1) * 2 + 1 = i * 2 + 1 + 1 + 1 by omega, itC_cons, List.set_cons_succ, List.set_cons_succ, itC_set r i k v v0 (by simpa using h), List.set_cons_succ, itC_cons]
theorem Rw.store {w : World} {b c : Nat} {xs : List It} (h : Rw w (some b) c xs) {i : Nat} {k v0 : ByteArray} (hi : xs[i]? = some (k, v0)) (v : ByteArray) : Rw (w.setCell ⟨b, i * 2 + 1, none⟩ (.string v)) (some b) c (xs.set i (k, v)) := by
  obtain ⟨R, hB, hl⟩ := h.blk
  have hil : i < xs.length := (List.getElem?_eq_some_iff.1 hi).1
  have hs := hB.store (i * 2 + 1) (.string v)
  rw [List.set_append_left _ _ (by rw [itC_length]; omega), itC_set xs i k v v0 hi] at hs
  exact ⟨by simpa using h.1, h.2.1, R, hs, by simpa using hl⟩
theorem set_has {xs : List It} {k v : ByteArray} (h : hasK xs k = true) : xs.set (posOf xs k) (k, v) = setK xs k v := by
  have hl := pos_lt_of_has h
  rw [setK, h, if_pos rfl, List.set_eq_take_append_cons_drop, if_pos hl]
theorem set_not {xs : List It} {k v : ByteArray} (h : hasK xs k = false) : (xs.take (posOf xs k) ++ (k, ByteArray.empty) :: xs.drop (posOf xs k)).set (posOf xs k) (k, v) = setK xs k v := by
  have hl := posOf_le xs k
  rw [setK, h, List.set_append_right _ _ (by simp [Nat.min_eq_left hl])]
  simp [Nat.min_eq_left hl]
def SetP (w : World) (g : Nat) (r : Option Nat) (ys : List It) (w' : World) : Prop := ∃ r' c', Led w' g r' c' ys ∧ Own w (On g r) w' (On g r')
theorem top_store {w : World} {g : Nat} {v0 : Value} (h : w.heap[g]? = some (.cells #[v0] 73 (0, 0))) (v : Value) : (w.setCell ⟨g, 0, none⟩ v).heap[g]? = some (.cells #[v] 73 (0, 0)) := by
  simp [World.setCell, Array.getElem?_modify, h]
set_option maxHeartbeats 4000000 in
theorem set_any {w : World} {g : Nat} {r : Option Nat} {c : Nat} {xs : List It} (h : Led w g r c xs) (hs : Rise xs) (hn : xs.length ≤ 1000) (k v : ByteArray) :
    Calls Tryd.prog 54 #[.pointer (some ⟨g, 0, none⟩), .string k, .string v] w fun E w' => E = .returned (.tuple #[]) ∧ SetP w g r (setK xs k v) w' := by
  have HC := Lib.hid (find_any h hs (by omega) k)
  have HL := Lib.hid h
  have hgr := h.apart
  cases hz : hasK xs k with
  | true =>
    have hm := mem_of_has hz
    have hpl := pos_lt_of_has hz
    cases r with
    | none => have := h.row.2; rw [this] at hpl; simp at hpl
    | some b =>
      rw [hz] at HC
      have HF : Hid (∀ W, Below w.heap.size w W → SetP w g (some b) (setK xs k v) (W.setCell ⟨b, posOf xs k * 2 + 1, none⟩ (.string v))) := Lib.hid fun W hW => by
        have hL := h.below hW
        have hlen : (setK xs k v).length = xs.length := by rw [length_setK, if_pos hz]
        refine ⟨some b, c, ⟨?_, ?_⟩, Own.same (((Turns.of_below hW : Turns (On g (some b)) w W)).setCell (.inl (.inr rfl)) _ _)⟩
        · rw [hlen]
          exact (Below.heap_setCell W ⟨b, _, none⟩ _ g (fun e => hgr (by rw [e]))).trans hL.top
        · rw [← set_has hz]
          exact hL.row.store hm v
      obtain ⟨q, hq⟩ : ∃ q, q = posOf xs k := ⟨_, rfl⟩
      have HQ : Hid (∀ W, Below w.heap.size w W → W.cell? ⟨g, 0, none⟩ = some (.slice (some ⟨b, 0, none⟩) xs.length c) ∧ W.cell? ⟨b, q * 2 + 1, none⟩ = some (.string (valK xs k)) ∧ W.frozen? ⟨b, q * 2 + 1, none⟩ = false) := Lib.hid fun W hW => by
        have hL := h.below hW
        obtain ⟨b', o', hA, _, hc⟩ := hL.row.its (by omega)
        obtain ⟨R, hB, _⟩ := hL.row.blk
        injection hA with hA
        injection hA with h1 h2 h3
        subst h1 h2
        have := (hc _ _ hm).2
        rw [Nat.zero_add, ← hq] at this
        exact ⟨hL.cell, this, hB.free _⟩
      have hql : q < xs.length := by rw [hq]; exact hpl
      rw [← hq] at HC HF
      obtain ⟨n, hnn⟩ : ∃ n, n = xs.length := ⟨_, rfl⟩
      rw [← hnn] at HQ hql
      clear hq hm hz hpl hs hn h hnn HL
      go_enter Tryd.func54, Tryd.ntmps54
      go_wp2_with (go_at_call 55; refine HC.out.mono ?_)
      rintro E w1 ⟨rfl, b1⟩
      obtain ⟨c0, c1, f1⟩ := HQ.out w1 b1
      go_wp2_with fail
      go_end0
      exact ⟨rfl, HF.out w1 b1⟩
  | false =>
    have hpl := posOf_le xs k
    rw [hz] at HC
    obtain ⟨ys, hys⟩ : ∃ ys, ys = xs.take (posOf xs k) ++ (k, ByteArray.empty) :: xs.drop (posOf xs k) := ⟨_, rfl⟩
    have hyl : ys.length = xs.length + 1 := by rw [hys]; simp; omega
    have hyq : ys[posOf xs k]? = some (k, ByteArray.empty) := by rw [hys, List.getElem?_append_right (by simp [Nat.min_eq_left hpl])]; simp [Nat.min_eq_left hpl]
    have HI : Hid (∀ W, Below w.heap.size w W → Calls Tryd.prog 60 #[.slice (slA r) xs.length c, .int .i64 (posOf xs k : Int), .slice (some ⟨W.heap.size, 0, none⟩) 1 1] (W.alloc (.cells #[.string k, .string ⟨#[]⟩] 81)) fun E w' => InsP (W.alloc (.cells #[.string k, .string ⟨#[]⟩] 81)) r ys E w') := Lib.hid fun W hW => by
      have hL := h.below hW
      have hA := hL.below ((Below.refl W.heap.size W).alloc (Nat.le_refl _) (.cells #[.string k, .string ⟨#[]⟩] 81))
      rw [hys]
      exact insert_any hA.row hn (p := (k, ByteArray.empty)) (heap_alloc_new W _) (fun e => by have := hL.on_lt W.heap.size (.inr e); omega) hpl
    have HF : Hid (∀ W w2 r' c', Below w.heap.size w W → Rw w2 (some r') c' ys → Own (W.alloc (.cells #[.string k, .string ⟨#[]⟩] 81)) (fun j => r = some j) w2 (fun j => some r' = some j) →
        w2.cell? ⟨g, 0, none⟩ = some (.slice (slA r) xs.length c) ∧ w2.frozen? ⟨g, 0, none⟩ = false ∧ ¬ (g = r') ∧ w2.cell? ⟨r', posOf xs k * 2 + 1, none⟩ = some (.string ByteArray.empty) ∧ w2.frozen? ⟨r', posOf xs k * 2 + 1, none⟩ = false ∧
        SetP w g r (setK xs k v) ((w2.setCell ⟨g, 0, none⟩ (.slice (some ⟨r', 0, none⟩) ys.length c')).setCell ⟨r', posOf xs k * 2 + 1, none⟩ (.string v))) := Lib.hid fun W w2 r' c' hW hR hO => by
      have hL := h.below hW
      have hA := hL.below ((Below.refl W.heap.size W).alloc (Nat.le_refl _) (.cells #[.string k, .string ⟨#[]⟩] 81))
      have hgg : r' ≠ g := by
        rintro rfl
        rcases hO.2 r' rfl with e | e
        · exact hgr e
        · have := hA.lt; omega
      have htop : w2.heap[g]? = some (.cells #[.slice (slA r) xs.length c] 73 (0, 0)) := (hO.1.block g hA.lt hgr).trans hA.top
      obtain ⟨R, hB, _⟩ := hR.blk
      obtain ⟨b', o', hA', _, hc⟩ := hR.its (by omega)
      injection hA' with hA'
      injection hA' with e1 e2 e3
      subst e1 e2
      have hcell := (hc _ _ hyq).2
      rw [Nat.zero_add] at hcell
      refine ⟨by rw [cell_of_row w2 g 0 _ _ _ htop]; rfl, free_block htop 0, fun e => hgg e.symm, hcell, hB.free _, some r', c', ⟨?_, ?_⟩, ?_, ?_⟩
      · have hlen : (setK xs k v).length = ys.length := by rw [length_setK, hz, if_neg (by simp), hyl]
        rw [hlen]
        exact (Below.heap_setCell _ ⟨r', _, none⟩ _ g (fun e => hgg e.symm)).trans (top_store htop _)
      · have hR3 : Rw (w2.setCell ⟨g, 0, none⟩ (.slice (some ⟨r', 0, none⟩) ys.length c')) (some r') c' ys := hR.kept fun b e => by
          injection e with e
          subst e
          exact Below.heap_setCell _ ⟨g, 0, none⟩ _ r' hgg
        have h4 := hR3.store hyq v
        have e4 := set_not (v := v) hz
        rw [← hys] at e4
        rw [e4] at h4
        exact h4
      · have hT1 : Turns (On g r) w W := Turns.of_below hW
        have hT2 : Turns (On g r) w w2 := (hT1.alloc _).step hO.1 (fun j hj => .inl (.inr hj))
        refine (hT2.setCell (.inl (.inl rfl)) _ _).setCell ?_ _ _
        rcases hO.2 r' rfl with e | e
        · exact .inl (.inr e)
        · exact .inr (Nat.le_trans hW.size (Nat.le_trans (by simp) e))
      · rintro j (rfl | hj)
        · exact .inl (.inl rfl)
        · rcases hO.2 j hj with e | e
          · exact .inl (.inr e)
          · exact .inr (Nat.le_trans hW.size (Nat.le_trans (by simp) e))
    have HC0 : Hid (∀ W, Below w.heap.size w W → W.cell? ⟨g, 0, none⟩ = some (.slice (slA r) xs.length c)) := Lib.hid fun W hW => (h.below hW).cell
    obtain ⟨q, hq⟩ : ∃ q, q = posOf xs k := ⟨_, rfl⟩
    have hqy : q < ys.length := by rw [hq, hyl]; omega
    have hy0 : ¬ (ys = []) := fun e => by rw [e] at hyl; simp at hyl
    rw [← hq] at HC HF HI
    obtain ⟨n, hnn⟩ : ∃ n, n = xs.length := ⟨_, rfl⟩
    obtain ⟨A, hA⟩ : ∃ A, A = slA r := ⟨_, rfl⟩
    rw [← hnn, ← hA] at HI HF HC0
    have HY := Lib.hid hy0
    obtain ⟨m, hm⟩ : ∃ m, m = ys.length := ⟨_, rfl⟩
    have HM := Lib.hid hm
    rw [← hm] at HF hqy
    clear hq hz hpl hs hn h hnn hA hys hyl hyq hy0 HL hm
    go_enter Tryd.func54, Tryd.ntmps54
    go_wp2_with (go_at_call 55; refine HC.out.mono ?_)
    rintro E w1 ⟨rfl, b1⟩
    have c0 := HC0.out w1 b1
    go_wp2_with (go_at_call 60; refine (HI.out w1 b1).mono ?_)
    rintro E w2 ⟨r', c', rfl, hR, hO⟩
    cases r' with
    | none => exact absurd hR.2 HY.out
    | some b' =>
      obtain ⟨d0, f0, hne, d1, f1, hS⟩ := HF.out w1 w2 b' c' b1 hR hO
      have hne' : ¬ (b' = g) := fun e => hne e.symm
      have HS := Lib.hid hS
      rw [← HM.out, show slA (some b') = some ⟨b', 0, none⟩ from rfl]
      clear hS hR hO c0
      go_wp2_with fail
      go_end0
      exact ⟨rfl, HS.out⟩
open Go.RowKit
set_option maxRecDepth 100000

/-- While an operation is done: the ledger, and what the call has boxed. -/
structure At (w : World) (g : Nat) (r : Option Nat) (o : MOp) (W : World) (r' : Option Nat) (c' : Nat) (ys : List It) : Prop where
  led : Led W g r' c' ys
  own : Own w (On g r) W (On g r')
  op : W.heap[w.heap.size]? = some (.cells (opC o).toArray 34 (0, 0))
  res : W.heap[w.heap.size + 1]? = some (.cells [.int .i64 0, .string ByteArray.empty].toArray 29 (0, 0))
theorem At.start {w : World} {g : Nat} {r : Option Nat} {c : Nat} {xs : List It} (h : Led w g r c xs) (o : MOp) : At w g r o ((w.alloc (.cells (opC o).toArray 34)).alloc (.cells [.int .i64 0, .string ByteArray.empty].toArray 29)) r c xs := by
  have hb : Below w.heap.size w ((w.alloc (.cells (opC o).toArray 34)).alloc (.cells [.int .i64 0, .string ByteArray.empty].toArray 29)) := ((Below.refl _ _).alloc (Nat.le_refl _) _).alloc (by simp) _
  exact ⟨h.below hb, Own.same (Turns.of_below hb), one_new w _ _ _, two_new w _ _ _⟩
theorem At.apart {w : World} {g : Nat} {r : Option Nat} {o : MOp} {W : World} {r' : Option Nat} {c' : Nat} {ys : List It} (H : At w g r o W r' c' ys) {k : Nat} {C : Array Value} {t : TypeId} (hk : W.heap[k]? = some (.cells C t (0, 0))) (h1 : t ≠ 73) (h2 : t ≠ 81) : ¬ On g r' k := by
  rintro (rfl | rfl)
  · have e := H.led.top.symm.trans hk
    injection e with e
    injection e with e1 e2
    exact h1 e2.symm
  · obtain ⟨R, hB, _⟩ := H.led.row.blk
    have e := (show W.heap[k]? = _ from hB).symm.trans hk
    injection e with e
    injection e with e1 e2
    exact h2 e2.symm
theorem At.lt {w : World} {g : Nat} {r : Option Nat} {o : MOp} {W : World} {r' : Option Nat} {c' : Nat} {ys : List It} (H : At w g r o W r' c' ys) : w.heap.size + 1 < W.heap.size := (Array.getElem?_eq_some_iff.1 H.res).1
theorem At.below {w : World} {g : Nat} {r : Option Nat} {o : MOp} {W W' : World} {r' : Option Nat} {c' : Nat} {ys : List It} (H : At w g r o W r' c' ys) (hb : Below W.heap.size W W') : At w g r o W' r' c' ys :=
  ⟨H.led.below hb, ⟨H.own.1.trans (Turns.of_below hb), H.own.2⟩, (hb.block _ (by have := H.lt; omega)).trans H.op, (hb.block _ H.lt).trans H.res⟩
theorem At.next {w : World} {g : Nat} {r : Option Nat} {o : MOp} {W W' : World} {r' r'' : Option Nat} {c' c'' : Nat} {ys zs : List It} (H : At w g r o W r' c' ys) (hl : Led W' g r'' c'' zs) (ho : Own W (On g r') W' (On g r'')) : At w g r o W' r'' c'' zs :=
  ⟨hl, H.own.trans ho, (ho.1.block _ (by have := H.lt; omega) (H.apart H.op (by decide) (by decide))).trans H.op, (ho.1.block _ H.lt (H.apart H.res (by decide) (by decide))).trans H.res⟩
theorem At.cell {w : World} {g : Nat} {r : Option Nat} {o : MOp} {W : World} {r' : Option Nat} {c' : Nat} {ys : List It} (H : At w g r o W r' c' ys) (k : Nat) (v : Value) (hv : (opC o)[k]? = some v) : W.cell? ⟨w.heap.size, k, none⟩ = some v := block_cell H.op k v hv
theorem At.out {w : World} {g : Nat} {r : Option Nat} {o : MOp} {W : World} {r' : Option Nat} {c' : Nat} {ys : List It} (H : At w g r o W r' c' ys) : W.cell? ⟨w.heap.size + 1, 0, none⟩ = some (.int .i64 0) ∧ W.cell? ⟨w.heap.size + 1, 1, none⟩ = some (.string ByteArray.empty) ∧ W.frozen? ⟨w.heap.size + 1, 0, none⟩ = false ∧ W.frozen? ⟨w.heap.size + 1, 1, none⟩ = false :=
  ⟨block_cell H.res 0 _ rfl, block_cell H.res 1 _ rfl, free_block H.res 0, free_block H.res 1⟩
theorem heap_set {w : World} {g k : Nat} {C : List Value} {t : TypeId} (h : w.heap[g]? = some (.cells C.toArray t (0, 0))) (v : Value) : (w.setCell ⟨g, k, none⟩ v).heap[g]? = some (.cells (C.set k v).toArray t (0, 0)) := by
  simp [World.setCell, Array.getElem?_modify, h]
theorem pair_store {w : World} {g : Nat} {a b : Value} {t : TypeId} (h : w.heap[g]? = some (.cells [a, b].toArray t (0, 0))) (x y : Value) : ((w.setCell ⟨g, 0, none⟩ x).setCell ⟨g, 1, none⟩ y).heap[g]? = some (.cells [x, y].toArray t (0, 0)) :=
  heap_set (heap_set h x) y
/-- What an operation leaves. -/
def OpP (w : World) (g : Nat) (r : Option Nat) (q : Rep × List It) (E : Ending) (w' : World) : Prop := E = .returned (.agg (repC q.1).toArray) ∧ ∃ r' c', Led w' g r' c' q.2 ∧ Own w (On g r) w' (On g r')
theorem At.fin {w : World} {g : Nat} {r : Option Nat} {o : MOp} {W : World} {r' : Option Nat} {c' : Nat} {ys : List It} (H : At w g r o W r' c' ys) (x y : Value) :
    ((W.setCell ⟨w.heap.size + 1, 0, none⟩ x).setCell ⟨w.heap.size + 1, 1, none⟩ y).heap[w.heap.size + 1]? = some (.cells [x, y].toArray 29 (0, 0)) ∧ ∃ r' c', Led ((W.setCell ⟨w.heap.size + 1, 0, none⟩ x).setCell ⟨w.heap.size + 1, 1, none⟩ y) g r' c' ys ∧ Own w (On g r) ((W.setCell ⟨w.heap.size + 1, 0, none⟩ x).setCell ⟨w.heap.size + 1, 1, none⟩ y) (On g r') := by
  have ha := H.apart H.res (by decide) (by decide)
  refine ⟨pair_store H.res x y, r', c', H.led.kept fun k hk => ?_, (H.own.1.setCell (.inr (by omega)) _ _).setCell (.inr (by omega)) _ _, H.own.2⟩
  have hne : k ≠ w.heap.size + 1 := fun e => ha (e ▸ hk)
  rw [Below.heap_setCell _ ⟨w.heap.size + 1, 1, none⟩ _ k hne, Below.heap_setCell _ ⟨w.heap.size + 1, 0, none⟩ _ k hne]
set_option maxHeartbeats 4000000 in
theorem get_any {w : World} {g : Nat} {r : Option Nat} {c : Nat} {xs : List It} (h : Led w g r c xs) (hs : Rise xs) (hn : xs.length ≤ 900) (o : MOp) :
    Calls Tryd.prog 47 #[.pointer (some ⟨g, 0, none⟩), .agg (opC o).toArray] w fun E w' => OpP w g r (getR xs o, xs) E w' := by
  have H0 := Lib.hid (At.start h o)
  have HS := Lib.hid hs
  have HN := Lib.hid hn
  have HV : Hid (∀ W, At w g r o W r c xs → Calls Tryd.prog 52 #[.pointer (some ⟨g, 0, none⟩), .string o.key] W fun E w' => E = .returned (.tuple #[.string (valK xs o.key), .bool (hasK xs o.key)]) ∧ Below W.heap.size W w') := Lib.hid fun W H => value_any H.led HS.out (by have := HN.out; omega) o.key
  have HE : Hid (getR xs o = if hasK xs o.key then (0, valK xs o.key) else no 4) := Lib.hid rfl
  obtain ⟨z, hz⟩ : ∃ z, z = hasK xs o.key := ⟨_, rfl⟩
  obtain ⟨v, hv⟩ : ∃ v, v = valK xs o.key := ⟨_, rfl⟩
  rw [← hz, ← hv] at HV HE
  have p1 : (opC o)[1]? = some (.string o.key) := rfl
  clear hz hv h hs hn
  go_enter Tryd.func47, Tryd.ntmps47
  go_wp2_with (go_at_call 52; refine (HV.out _ H0.out).mono ?_)
  rintro E w1 ⟨rfl, b1⟩
  have H1 := Lib.hid (H0.out.below b1)
  clear H0 HV b1
  cases z with
  | true =>
    have HZ := Lib.hid (fun x y => H1.out.fin x y)
    obtain ⟨d0, d1, f0, f1⟩ := H1.out.out
    go_wp2_with fail
    (try simp only [Exit.inBlock, Exit.then]); refine bodyPost_ret (ret_range (g := w.heap.size + 1) rfl rfl (range_all (HZ.out _ _).1) Tryd.underlying29 rfl Tryd.is29) rfl ?_
    exact ⟨by rw [HE.out]; rfl, (HZ.out _ _).2⟩
  | false =>
    go_wp2_with (go_at_call 39; refine (refused_any 4 _).mono ?_)
    rintro E w2 ⟨rfl, b2⟩
    have H2 := Lib.hid (H1.out.below b2)
    clear H1 b2
    have HZ := Lib.hid (fun x y => H2.out.fin x y)
    obtain ⟨d0, d1, f0, f1⟩ := H2.out.out
    go_wp2_with fail
    (try simp only [Exit.inBlock, Exit.then]); refine bodyPost_ret (ret_range (g := w.heap.size + 1) rfl rfl (range_all (HZ.out _ _).1) Tryd.underlying29 rfl Tryd.is29) rfl ?_
    exact ⟨by rw [HE.out]; rfl, (HZ.out _ _).2⟩
set_option maxHeartbeats 4000000 in
theorem put_any {w : World} {g : Nat} {r : Option Nat} {c : Nat} {xs : List It} (h : Led w g r c xs) (hs : Rise xs) (hn : xs.length ≤ 900) (o : MOp) :
    Calls Tryd.prog 48 #[.pointer (some ⟨g, 0, none⟩), .agg (opC o).toArray] w fun E w' => OpP w g r (putR xs o) E w' := by
  have H0 := Lib.hid (At.start h o)
  have HS := Lib.hid hs
  have HN := Lib.hid hn
  have HV : Hid (∀ W, At w g r o W r c xs → Calls Tryd.prog 53 #[.pointer (some ⟨g, 0, none⟩), .string o.key] W fun E w' => E = .returned (.bool (fullK xs o.key)) ∧ Below W.heap.size W w') := Lib.hid fun W H => full_any H.led HS.out (by have := HN.out; omega) o.key
  have HT : Hid (∀ W, At w g r o W r c xs → Calls Tryd.prog 54 #[.pointer (some ⟨g, 0, none⟩), .string o.key, .string o.value] W fun E w' => E = .returned (.tuple #[]) ∧ SetP W g r (setK xs o.key o.value) w') := Lib.hid fun W H => set_any H.led HS.out (by have := HN.out; omega) o.key o.value
  have HE : Hid (putR xs o = if fullK xs o.key then (no 7, xs) else (no 0, setK xs o.key o.value)) := Lib.hid rfl
  obtain ⟨z, hz⟩ : ∃ z, z = fullK xs o.key := ⟨_, rfl⟩
  rw [← hz] at HV HE
  have p1 : (opC o)[1]? = some (.string o.key) := rfl
  have p2 : (opC o)[2]? = some (.string o.value) := rfl
  clear hz h hs hn
  go_enter Tryd.func48, Tryd.ntmps48
  go_wp2_with (go_at_call 53; refine (HV.out _ H0.out).mono ?_)
  rintro E w1 ⟨rfl, b1⟩
  have H1 := Lib.hid (H0.out.below b1)
  clear H0 HV b1
  cases z with
  | true =>
    have HE2 : Hid (putR xs o = (no 7, xs)) := Lib.hid HE.out
    go_wp2_with (go_at_call 39; refine (refused_any 7 _).mono ?_)
    rintro E w2 ⟨rfl, b2⟩
    have H2 := Lib.hid (H1.out.below b2)
    clear H1 b2
    have HZ := Lib.hid (fun x y => H2.out.fin x y)
    obtain ⟨d0, d1, f0, f1⟩ := H2.out.out
    go_wp2_with fail
    (try simp only [Exit.inBlock, Exit.then]); refine bodyPost_ret (ret_range (g := w.heap.size + 1) rfl rfl (range_all (HZ.out _ _).1) Tryd.underlying29 rfl Tryd.is29) rfl ?_
    show OpP w g r _ _ _
    rw [HE2.out]
    exact ⟨rfl, (HZ.out _ _).2⟩
  | false =>
    have HE2 : Hid (putR xs o = (no 0, setK xs o.key o.value)) := Lib.hid HE.out
    have k1_1 : w1.cell? ⟨w.heap.size, 1, none⟩ = some (.string o.key) := H1.out.cell 1 _ rfl
    have k1_2 : w1.cell? ⟨w.heap.size, 2, none⟩ = some (.string o.value) := H1.out.cell 2 _ rfl
    go_wp2_with (go_at_call 54; refine (HT.out _ H1.out).mono ?_)
    rintro E w2 ⟨rfl, r2, c2, l2, q2⟩
    have H2 := Lib.hid (H1.out.next l2 q2)
    clear H1 l2 q2 k1_1 k1_2
    have HZ := Lib.hid (fun x y => H2.out.fin x y)
    obtain ⟨d0, d1, f0, f1⟩ := H2.out.out
    go_wp2_with fail
    (try simp only [Exit.inBlock, Exit.then]); refine bodyPost_ret (ret_range (g := w.heap.size + 1) rfl rfl (range_all (HZ.out _ _).1) Tryd.underlying29 rfl Tryd.is29) rfl ?_
    show OpP w g r _ _ _
    rw [HE2.out]
    exact ⟨rfl, (HZ.out _ _).2⟩
set_option maxHeartbeats 4000000 in
theorem swap_any {w : World} {g : Nat} {r : Option Nat} {c : Nat} {xs : List It} (h : Led w g r c xs) (hs : Rise xs) (hn : xs.length ≤ 900) (o : MOp) :
    Calls Tryd.prog 50 #[.pointer (some ⟨g, 0, none⟩), .agg (opC o).toArray] w fun E w' => OpP w g r (swapR xs o) E w' := by
  have H0 := Lib.hid (At.start h o)
  have HS := Lib.hid hs
  have HN := Lib.hid hn
  have HV : Hid (∀ W, At w g r o W r c xs → Calls Tryd.prog 52 #[.pointer (some ⟨g, 0, none⟩), .string o.key] W fun E w' => E = .returned (.tuple #[.string (valK xs o.key), .bool (hasK xs o.key)]) ∧ Below W.heap.size W w') := Lib.hid fun W H => value_any H.led HS.out (by have := HN.out; omega) o.key
  have HT : Hid (∀ W, At w g r o W r c xs → Calls Tryd.prog 54 #[.pointer (some ⟨g, 0, none⟩), .string o.key, .string o.value] W fun E w' => E = .returned (.tuple #[]) ∧ SetP W g r (setK xs o.key o.value) w') := Lib.hid fun W H => set_any H.led HS.out (by have := HN.out; omega) o.key o.value
  have HE : Hid (swapR xs o = if hasK xs o.key then (if valK xs o.key = o.old then (no 0, setK xs o.key o.value) else ((15, valK xs o.key), xs)) else (no 4, xs)) := Lib.hid rfl
  obtain ⟨z, hz⟩ : ∃ z, z = hasK xs o.key := ⟨_, rfl⟩
  obtain ⟨v, hv⟩ : ∃ v, v = valK xs o.key := ⟨_, rfl⟩
  rw [← hz, ← hv] at HV HE
  have p1 : (opC o)[1]? = some (.string o.key) := rfl
  have p2 : (opC o)[2]? = some (.string o.value) := rfl
  have p3 : (opC o)[3]? = some (.string o.old) := rfl
  clear hz hv h hs hn
  go_enter Tryd.func50, Tryd.ntmps50
  go_wp2_with (go_at_call 52; refine (HV.out _ H0.out).mono ?_)
  rintro E w1 ⟨rfl, b1⟩
  have H1 := Lib.hid (H0.out.below b1)
  clear H0 HV b1
  cases z with
  | false =>
    have HE2 : Hid (swapR xs o = (no 4, xs)) := Lib.hid HE.out
    go_wp2_with (go_at_call 39; refine (refused_any 4 _).mono ?_)
    rintro E w2 ⟨rfl, b2⟩
    have H2 := Lib.hid (H1.out.below b2)
    clear H1 b2
    have HZ := Lib.hid (fun x y => H2.out.fin x y)
    obtain ⟨d0, d1, f0, f1⟩ := H2.out.out
    go_wp2_with fail
    (try simp only [Exit.inBlock, Exit.then]); refine bodyPost_ret (ret_range (g := w.heap.size + 1) rfl rfl (range_all (HZ.out _ _).1) Tryd.underlying29 rfl Tryd.is29) rfl ?_
    show OpP w g r _ _ _
    rw [HE2.out]
    exact ⟨rfl, (HZ.out _ _).2⟩
  | true =>
    have k1_1 : w1.cell? ⟨w.heap.size, 1, none⟩ = some (.string o.key) := H1.out.cell 1 _ rfl
    have k1_2 : w1.cell? ⟨w.heap.size, 2, none⟩ = some (.string o.value) := H1.out.cell 2 _ rfl
    have k1_3 : w1.cell? ⟨w.heap.size, 3, none⟩ = some (.string o.old) := H1.out.cell 3 _ rfl
    by_cases hvo : v = o.old
    · have hvo' : (v.toList == o.old.toList) = true := by rw [hvo]; simp
      have HE2 : Hid (swapR xs o = (no 0, setK xs o.key o.value)) := Lib.hid (by rw [HE.out, if_pos hvo]; rfl)
      clear hvo
      go_wp2_with (go_at_call 54; refine (HT.out _ H1.out).mono ?_)
      rintro E w2 ⟨rfl, r2, c2, l2, q2⟩
      have H2 := Lib.hid (H1.out.next l2 q2)
      clear H1 l2 q2 k1_1 k1_2 k1_3
      have HZ := Lib.hid (fun x y => H2.out.fin x y)
      obtain ⟨d0, d1, f0, f1⟩ := H2.out.out
      go_wp2_with fail
      (try simp only [Exit.inBlock, Exit.then]); refine bodyPost_ret (ret_range (g := w.heap.size + 1) rfl rfl (range_all (HZ.out _ _).1) Tryd.underlying29 rfl Tryd.is29) rfl ?_
      show OpP w g r _ _ _
      rw [HE2.out]
      exact ⟨rfl, (HZ.out _ _).2⟩
    · have hvo' : (v.toList == o.old.toList) = false := by
        cases h : v.toList == o.old.toList with
        | false => rfl
        | true => exact absurd (toList_inj (by simpa using h)) hvo
      have HE2 : Hid (swapR xs o = ((15, v), xs)) := Lib.hid (by rw [HE.out, if_neg hvo]; rfl)
      clear hvo
      have HZ := Lib.hid (fun x y => H1.out.fin x y)
      obtain ⟨d0, d1, f0, f1⟩ := H1.out.out
      go_wp2_with fail
      (try simp only [Exit.inBlock, Exit.then]); refine bodyPost_ret (ret_range (g := w.heap.size + 1) rfl rfl (range_all (HZ.out _ _).1) Tryd.underlying29 rfl Tryd.is29) rfl ?_
      show OpP w g r _ _ _
      rw [HE2.out]
      exact ⟨rfl, (HZ.out _ _).2⟩
open Go.RowKit
set_option maxRecDepth 100000

set_option maxHeartbeats 4000000 in
theorem remove_any {w : World} {g : Nat} {r : Option Nat} {c : Nat} {xs : List It} (h : Led w g r c xs) (hs : Rise xs) (hn : xs.length ≤ 900) (o : MOp) :
    Calls Tryd.prog 49 #[.pointer (some ⟨g, 0, none⟩), .agg (opC o).toArray] w fun E w' => OpP w g r (delR xs o) E w' := by
  have H0 := Lib.hid (At.start h o)
  have HS := Lib.hid hs
  have HN := Lib.hid hn
  have HV : Hid (∀ W, At w g r o W r c xs → Calls Tryd.prog 55 #[.pointer (some ⟨g, 0, none⟩), .string o.key] W fun E w' => E = .returned (.tuple #[.int .i64 (posOf xs o.key : Int), .bool (hasK xs o.key)]) ∧ Below W.heap.size W w') := Lib.hid fun W H => find_any H.led HS.out (by have := HN.out; omega) o.key
  have HE : Hid (delR xs o = if hasK xs o.key then ((0, valK xs o.key), delK xs o.key) else (no 4, xs)) := Lib.hid rfl
  cases hz : hasK xs o.key with
  | false =>
    rw [hz] at HV HE
    have HE2 : Hid (delR xs o = (no 4, xs)) := Lib.hid HE.out
    obtain ⟨q, hq⟩ : ∃ q, q = posOf xs o.key := ⟨_, rfl⟩
    rw [← hq] at HV
    have p1 : (opC o)[1]? = some (.string o.key) := rfl
    clear hq hz h hs hn HE
    go_enter Tryd.func49, Tryd.ntmps49
    go_wp2_with (go_at_call 55; refine (HV.out _ H0.out).mono ?_)
    rintro E w1 ⟨rfl, b1⟩
    have H1 := Lib.hid (H0.out.below b1)
    clear H0 HV b1
    go_wp2_with (go_at_call 39; refine (refused_any 4 _).mono ?_)
    rintro E w2 ⟨rfl, b2⟩
    have H2 := Lib.hid (H1.out.below b2)
    clear H1 b2
    have HZ := Lib.hid (fun x y => H2.out.fin x y)
    obtain ⟨d0, d1, f0, f1⟩ := H2.out.out
    go_wp2_with fail
    (try simp only [Exit.inBlock, Exit.then]); refine bodyPost_ret (ret_range (g := w.heap.size + 1) rfl rfl (range_all (HZ.out _ _).1) Tryd.underlying29 rfl Tryd.is29) rfl ?_
    show OpP w g r _ _ _
    rw [HE2.out]
    exact ⟨rfl, (HZ.out _ _).2⟩
  | true =>
    rw [hz] at HV HE
    have HE2 : Hid (delR xs o = ((0, valK xs o.key), delK xs o.key)) := Lib.hid HE.out
    have hm := mem_of_has hz
    have hpl := pos_lt_of_has hz
    have hgr := h.apart
    cases r with
    | none => have := h.row.2; rw [this] at hpl; simp at hpl
    | some b =>
      have HD : Hid (∀ W, At w g (some b) o W (some b) c xs → Calls Tryd.prog 56 #[.slice (some ⟨b, 0, none⟩) xs.length c, .int .i64 (posOf xs o.key : Int), .int .i64 ((posOf xs o.key : Int) + 1)] W fun E w' => DelP W b c (delK xs o.key) E w') := Lib.hid fun W H => delete_any H.led.row (by have := HN.out; omega) hpl
      have HQ : Hid (∀ W, At w g (some b) o W (some b) c xs → W.cell? ⟨g, 0, none⟩ = some (.slice (some ⟨b, 0, none⟩) xs.length c) ∧ W.cell? ⟨b, posOf xs o.key * 2 + 1, none⟩ = some (.string (valK xs o.key))) := Lib.hid fun W H => by
        obtain ⟨b', o', hA, _, hc⟩ := H.led.row.its (by omega)
        injection hA with hA
        injection hA with h1 h2 h3
        subst h1 h2
        have := (hc _ _ hm).2
        rw [Nat.zero_add] at this
        exact ⟨H.led.cell, this⟩
      have HF : Hid (∀ W w2, At w g (some b) o W (some b) c xs → Rw w2 (some b) c (delK xs o.key) → Turns (fun k => some b = some k) W w2 → w2.cell? ⟨g, 0, none⟩ = some (.slice (some ⟨b, 0, none⟩) xs.length c) ∧ w2.frozen? ⟨g, 0, none⟩ = false ∧ ¬ (w.heap.size + 1 = g) ∧
          (w2.cell? ⟨w.heap.size + 1, 0, none⟩ = some (.int .i64 0) ∧ w2.cell? ⟨w.heap.size + 1, 1, none⟩ = some (.string ByteArray.empty) ∧ w2.frozen? ⟨w.heap.size + 1, 0, none⟩ = false ∧ w2.frozen? ⟨w.heap.size + 1, 1, none⟩ = false) ∧
          At w g (some b) o (w2.setCell ⟨g, 0, none⟩ (.slice (some ⟨b, 0, none⟩) (delK xs o.key).length c)) (some b) c (delK xs o.key)) := Lib.hid fun W w2 H hR hT => by
        have htop : w2.heap[g]? = some (.cells #[.slice (some ⟨b, 0, none⟩) xs.length c] 73 (0, 0)) := (hT.block g H.led.lt (fun e => hgr e)).trans H.led.top
        have hgb : b ≠ g := fun e => hgr (by rw [e])
        have hT2 : Turns (On g (some b)) W w2 := hT.mono fun k e => .inr e
        have hres : w2.heap[w.heap.size + 1]? = _ := (hT2.block _ H.lt (H.apart H.res (by decide) (by decide))).trans H.res
        refine ⟨by rw [cell_of_row w2 g 0 _ _ _ htop]; rfl, free_block htop 0, fun e => H.apart H.res (by decide) (by decide) (.inl e), ⟨block_cell hres 0 _ rfl, block_cell hres 1 _ rfl, free_block hres 0, free_block hres 1⟩, ?_⟩
        exact H.next ⟨top_store htop _, hR.kept fun k e => Below.heap_setCell _ ⟨g, 0, none⟩ _ k (by injection e with e; rw [← e]; exact hgb)⟩ (Own.same (hT2.setCell (.inl (.inl rfl)) _ _))
      obtain ⟨q, hq⟩ : ∃ q, q = posOf xs o.key := ⟨_, rfl⟩
      obtain ⟨v, hv⟩ : ∃ v, v = valK xs o.key := ⟨_, rfl⟩
      obtain ⟨ys, hys⟩ : ∃ ys, ys = delK xs o.key := ⟨_, rfl⟩
      obtain ⟨n, hnn⟩ : ∃ n, n = xs.length := ⟨_, rfl⟩
      obtain ⟨m, hmm⟩ : ∃ m, m = ys.length := ⟨_, rfl⟩
      rw [← hq] at HV HD HQ hpl
      rw [← hv] at HQ HE2
      rw [← hys] at HD HF HE2
      rw [← hnn] at HD HQ HF hpl
      rw [← hmm] at HF
      have HM := Lib.hid hmm
      have hpl' : (q : Int) < (n : Int) := by omega
      have hw : IntKind.i64.wrap ((q : Int) + 1) = (q : Int) + 1 := by rw [IntKind.wrap_i64]; have := hn; omega
      have p1 : (opC o)[1]? = some (.string o.key) := rfl
      clear hq hv hys hnn hmm hz hm h hs hn HE hgr
      go_enter Tryd.func49, Tryd.ntmps49
      go_wp2_with (go_at_call 55; refine (HV.out _ H0.out).mono ?_)
      rintro E w1 ⟨rfl, b1⟩
      have H1 := Lib.hid (H0.out.below b1)
      clear H0 HV b1
      obtain ⟨c0, c1⟩ := HQ.out w1 H1.out
      go_wp2_with (go_at_call 56; refine (HD.out _ H1.out).mono ?_)
      rintro E w2 ⟨rfl, hR, hT⟩
      obtain ⟨c2, f2, hne, ⟨d0, d1, f0, f1⟩, hA⟩ := HF.out w1 w2 H1.out hR hT
      have hne' : ¬ (g = w.heap.size + 1) := fun e => hne e.symm
      have HZ := Lib.hid (fun x y => hA.fin x y)
      rw [← HM.out]
      clear H1 hR hT hA c0 c1 HQ HD HF
      go_wp2_with fail
      (try simp only [Exit.inBlock, Exit.then]); refine bodyPost_ret (ret_range (g := w.heap.size + 1) rfl rfl (range_all (HZ.out _ _).1) Tryd.underlying29 rfl Tryd.is29) rfl ?_
      show OpP w g _ _ _ _
      rw [HE2.out]
      exact ⟨rfl, (HZ.out _ _).2⟩
open Go.RowKit
set_option maxRecDepth 100000

theorem At.vars {w : World} {g : Nat} {r : Option Nat} {o : MOp} {W : World} {r' : Option Nat} {c' : Nat} {ys : List It} (H : At w g r o W r' c' ys) (hv : Vars w) (hl : ∀ k, On g r k → 4 ≤ k) : Vars W :=
  hv.kept fun k hk => H.own.1.block k (by have := hv.low; omega) fun e => by have := hl k e; omega
theorem At.drew {w : World} {g : Nat} {r : Option Nat} {o : MOp} {W : World} {r' : Option Nat} {c' : Nat} {ys : List It} (H : At w g r o W r' c' ys) : At w g r o W.drew r' c' ys :=
  ⟨⟨H.led.top, H.led.row.kept fun _ _ => rfl⟩, ⟨H.own.1.drewN 1, H.own.2⟩, H.op, H.res⟩
theorem mv_no {xs : List It} {o : MOp} (h : hasK xs o.key = false) : moveR xs o = (no 4, xs) := by rw [moveR, h]; rfl
theorem mv_bad {xs : List It} {o : MOp} (h : hasK xs o.key = true) (hb : (numOf (valK xs o.key)).isSome = false ∨ (numAt xs o.to).isSome = false) : moveR xs o = (no 5, xs) := by
  rw [moveR, h, if_pos rfl]
  cases h1 : numOf (valK xs o.key) with
  | none => rfl
  | some a =>
    cases h2 : numAt xs o.to with
    | none => rfl
    | some b => rw [h1, h2] at hb; simp at hb
theorem mv_good {xs : List It} {o : MOp} (h : hasK xs o.key = true) (h1 : (numOf (valK xs o.key)).isSome = true) (h2 : (numAt xs o.to).isSome = true) :
    moveR xs o = (if numV (valK xs o.key) < o.amount then ((14, valK xs o.key), xs) else if 1125899906842624 < (numAt xs o.to).getD 0 + o.amount then (no 6, xs) else if fullK xs o.to then (no 7, xs)
      else ((0, dec (numV (valK xs o.key) - o.amount)), setK (setK xs o.key (dec (numV (valK xs o.key) - o.amount))) o.to (dec ((numAt xs o.to).getD 0 + o.amount)))) := by
  obtain ⟨a, ha⟩ := Option.isSome_iff_exists.1 h1
  obtain ⟨b, hb⟩ := Option.isSome_iff_exists.1 h2
  simp only [moveR, h, if_true, numV, ha, hb, Option.getD_some, topN]
  rfl
theorem num_le {s : ByteArray} : numV s ≤ topN := by
  unfold numV
  cases h : numOf s with
  | none => exact Nat.zero_le _
  | some n => exact (dec_of_num h).2
theorem at_le (xs : List It) (k : ByteArray) : (numAt xs k).getD 0 ≤ topN := by
  unfold numAt
  split
  · exact num_le
  · exact Nat.zero_le _
set_option maxHeartbeats 4000000 in
theorem move_any {w : World} {g : Nat} {r : Option Nat} {c : Nat} {xs : List It} (h : Led w g r c xs) (hs : Rise xs) (hn : xs.length ≤ 900) (o : MOp) (ha : o.amount ≤ topN) (hsm : ∀ k, (valK xs k).size ≤ 1000000) (hv : Vars w) (hlo : ∀ k, On g r k → 4 ≤ k) :
    Calls Tryd.prog 51 #[.pointer (some ⟨g, 0, none⟩), .agg (opC o).toArray] w fun E w' => OpP w g r (moveR xs o) E w' := by
  have H0 := Lib.hid (At.start h o)
  have HS := Lib.hid hs
  have HN := Lib.hid hn
  have HVr : Hid (∀ W r' c' ys, At w g r o W r' c' ys → Vars W) := Lib.hid fun W r' c' ys H => H.vars hv hlo
  have HV : Hid (∀ W, At w g r o W r c xs → Calls Tryd.prog 52 #[.pointer (some ⟨g, 0, none⟩), .string o.key] W fun E w' => E = .returned (.tuple #[.string (valK xs o.key), .bool (hasK xs o.key)]) ∧ Below W.heap.size W w') := Lib.hid fun W H => value_any H.led HS.out (by have := HN.out; omega) o.key
  have HA : Hid (∀ W, At w g r o W r c xs → Calls Tryd.prog 57 #[.string (valK xs o.key)] W fun E w' => E = .returned (.tuple #[.int .u64 (numV (valK xs o.key) : Int), .bool (numOf (valK xs o.key)).isSome]) ∧ Below W.heap.size W w') := Lib.hid fun W H => number_any _ (hsm _) (HVr.out _ _ _ _ H)
  have HB : Hid (∀ W, At w g r o W r c xs → Calls Tryd.prog 58 #[.pointer (some ⟨g, 0, none⟩), .string o.to] W fun E w' => E = .returned (.tuple #[.int .u64 ((numAt xs o.to).getD 0 : Nat), .bool (numAt xs o.to).isSome]) ∧ Below W.heap.size W w') := Lib.hid fun W H => numberAt_any H.led HS.out (by have := HN.out; omega) o.to (hsm _) (HVr.out _ _ _ _ H)
  have HFu : Hid (∀ W, At w g r o W r c xs → Calls Tryd.prog 53 #[.pointer (some ⟨g, 0, none⟩), .string o.to] W fun E w' => E = .returned (.bool (fullK xs o.to)) ∧ Below W.heap.size W w') := Lib.hid fun W H => full_any H.led HS.out (by have := HN.out; omega) o.to
  have HDg : Hid (∀ W r' c' ys u, At w g r o W r' c' ys → u < 18446744073709551616 → Calls Tryd.prog 59 #[.int .u64 ((u : Nat) : Int)] W fun E w' => E = .returned (.string (dec u)) ∧ Below W.heap.size W w') := Lib.hid fun W r' c' ys u H hu => digits_any u hu (HVr.out _ _ _ _ H)
  have HT1 : Hid (∀ W s, At w g r o W r c xs → Calls Tryd.prog 54 #[.pointer (some ⟨g, 0, none⟩), .string o.key, .string s] W fun E w' => E = .returned (.tuple #[]) ∧ SetP W g r (setK xs o.key s) w') := Lib.hid fun W s H => set_any H.led HS.out (by have := HN.out; omega) o.key s
  have HT2 : Hid (∀ W r' c' s t, At w g r o W r' c' (setK xs o.key s) → Calls Tryd.prog 54 #[.pointer (some ⟨g, 0, none⟩), .string o.to, .string t] W fun E w' => E = .returned (.tuple #[]) ∧ SetP W g r' (setK (setK xs o.key s) o.to t) w') := Lib.hid fun W r' c' s t H => set_any H.led (rise_set HS.out _ _) (by rw [length_setK]; have := HN.out; split <;> omega) o.to t
  have E0 := Lib.hid (mv_no (xs := xs) (o := o))
  have E1 := Lib.hid (mv_bad (xs := xs) (o := o))
  have E2 := Lib.hid (mv_good (xs := xs) (o := o))
  have hA1 := num_le (s := valK xs o.key)
  have hB1 := at_le xs o.to
  obtain ⟨z, hz⟩ : ∃ z, z = hasK xs o.key := ⟨_, rfl⟩
  obtain ⟨v, hvv⟩ : ∃ v, v = valK xs o.key := ⟨_, rfl⟩
  obtain ⟨ab, hab⟩ : ∃ ab, ab = (numOf v).isSome := ⟨_, rfl⟩
  obtain ⟨A, hA⟩ : ∃ A, A = numV v := ⟨_, rfl⟩
  obtain ⟨bb, hbb⟩ : ∃ bb, bb = (numAt xs o.to).isSome := ⟨_, rfl⟩
  obtain ⟨B, hB⟩ : ∃ B, B = (numAt xs o.to).getD 0 := ⟨_, rfl⟩
  obtain ⟨fu, hfu⟩ : ∃ fu, fu = fullK xs o.to := ⟨_, rfl⟩
  rw [← hz, ← hvv] at HV
  rw [← hvv, ← hA, ← hab] at HA
  rw [← hB, ← hbb] at HB
  rw [← hfu] at HFu
  rw [← hz] at E0
  rw [← hz, ← hvv, ← hab, ← hbb] at E1
  rw [← hz, ← hvv, ← hab, ← hbb, ← hA, ← hB, ← hfu] at E2
  rw [← hvv, ← hA] at hA1
  rw [← hB] at hB1
  unfold topN at ha hA1 hB1
  have p1 : (opC o)[1]? = some (.string o.key) := rfl
  have p4 : (opC o)[4]? = some (.string o.to) := rfl
  have p5 : (opC o)[5]? = some (.int .u64 (o.amount : Int)) := rfl
  clear hz hvv hab hA hbb hB hfu h hs hn hsm hv hlo
  go_enter Tryd.func51, Tryd.ntmps51
  go_wp2_with (go_at_call 52; refine (HV.out _ H0.out).mono ?_)
  rintro E w1 ⟨rfl, b1⟩
  have H1 := Lib.hid (H0.out.below b1)
  clear H0 HV b1
  go_wp2_with (go_at_call 57; refine (HA.out _ H1.out).mono ?_)
  rintro E w2 ⟨rfl, b2⟩
  have H2 := Lib.hid (H1.out.below b2)
  clear H1 HA b2
  have k2_4 : w2.cell? ⟨w.heap.size, 4, none⟩ = some (.string o.to) := H2.out.cell 4 _ rfl
  go_wp2_with (go_at_call 58; refine (HB.out _ H2.out).mono ?_)
  rintro E w3 ⟨rfl, b3⟩
  have H3 := Lib.hid (H2.out.below b3)
  clear H2 HB b3 k2_4
  cases z with
  | false =>
    have HE2 := Lib.hid (E0.out rfl)
    clear HVr HFu HDg HT1 HT2 E0 E1 E2
    go_wp2_with (go_at_call 39; refine (refused_any 4 _).mono ?_)
    rintro E w4 ⟨rfl, b4⟩
    have H4 := Lib.hid (H3.out.below b4)
    clear H3 b4
    have HZ := Lib.hid (fun x y => H4.out.fin x y)
    obtain ⟨d0, d1, f0, f1⟩ := H4.out.out
    go_wp2_with fail
    (try simp only [Exit.inBlock, Exit.then]); refine bodyPost_ret (ret_range (g := w.heap.size + 1) rfl rfl (range_all (HZ.out _ _).1) Tryd.underlying29 rfl Tryd.is29) rfl ?_
    show OpP w g r _ _ _
    rw [HE2.out]
    exact ⟨rfl, (HZ.out _ _).2⟩
  | true =>
    cases ab with
    | false =>
      have HE2 := Lib.hid (E1.out rfl (.inl rfl))
      clear HVr HFu HDg HT1 HT2 E0 E1 E2
      go_wp2_with (go_at_call 39; refine (refused_any 5 _).mono ?_)
      rintro E w4 ⟨rfl, b4⟩
      have H4 := Lib.hid (H3.out.below b4)
      clear H3 b4
      have HZ := Lib.hid (fun x y => H4.out.fin x y)
      obtain ⟨d0, d1, f0, f1⟩ := H4.out.out
      go_wp2_with fail
      (try simp only [Exit.inBlock, Exit.then]); refine bodyPost_ret (ret_range (g := w.heap.size + 1) rfl rfl (range_all (HZ.out _ _).1) Tryd.underlying29 rfl Tryd.is29) rfl ?_
      show OpP w g r _ _ _
      rw [HE2.out]
      exact ⟨rfl, (HZ.out _ _).2⟩
    | true =>
      cases bb with
      | false =>
        have HE2 := Lib.hid (E1.out rfl (.inr rfl))
        clear HVr HFu HDg HT1 HT2 E0 E1 E2
        go_wp2_with (go_at_call 39; refine (refused_any 5 _).mono ?_)
        rintro E w4 ⟨rfl, b4⟩
        have H4 := Lib.hid (H3.out.below b4)
        clear H3 b4
        have HZ := Lib.hid (fun x y => H4.out.fin x y)
        obtain ⟨d0, d1, f0, f1⟩ := H4.out.out
        go_wp2_with fail
        (try simp only [Exit.inBlock, Exit.then]); refine bodyPost_ret (ret_range (g := w.heap.size + 1) rfl rfl (range_all (HZ.out _ _).1) Tryd.underlying29 rfl Tryd.is29) rfl ?_
        show OpP w g r _ _ _
        rw [HE2.out]
        exact ⟨rfl, (HZ.out _ _).2⟩
      | true =>
        have HG := Lib.hid (E2.out rfl rfl rfl)
        clear E0 E1 E2
        have k3_1 : w3.cell? ⟨w.heap.size, 1, none⟩ = some (.string o.key) := H3.out.cell 1 _ rfl
        have k3_4 : w3.cell? ⟨w.heap.size, 4, none⟩ = some (.string o.to) := H3.out.cell 4 _ rfl
        have k3_5 : w3.cell? ⟨w.heap.size, 5, none⟩ = some (.int .u64 (o.amount : Int)) := H3.out.cell 5 _ rfl
        by_cases h1 : A < o.amount
        · have h1' : (A : Int) < (o.amount : Int) := by omega
          have HE2 : Hid (moveR xs o = ((14, v), xs)) := Lib.hid (by rw [HG.out, if_pos h1])
          clear HVr HFu HDg HT1 HT2 HG h1
          have HZ := Lib.hid (fun x y => H3.out.fin x y)
          obtain ⟨d0, d1, f0, f1⟩ := H3.out.out
          go_wp2_with fail
          (try simp only [Exit.inBlock, Exit.then]); refine bodyPost_ret (ret_range (g := w.heap.size + 1) rfl rfl (range_all (HZ.out _ _).1) Tryd.underlying29 rfl Tryd.is29) rfl ?_
          show OpP w g r _ _ _
          rw [HE2.out]
          exact ⟨rfl, (HZ.out _ _).2⟩
        · have h1' : ¬ ((A : Int) < (o.amount : Int)) := by omega
          have hwa : IntKind.u64.wrap ((B : Int) + (o.amount : Int)) = (B : Int) + (o.amount : Int) := by rw [IntKind.wrap_u64]; omega
          by_cases h2 : 1125899906842624 < B + o.amount
          · have h2' : (1125899906842624 : Int) < (B : Int) + (o.amount : Int) := by omega
            have HE2 : Hid (moveR xs o = (no 6, xs)) := Lib.hid (by rw [HG.out, if_neg h1, if_pos h2])
            clear HVr HFu HDg HT1 HT2 HG h1 h2
            go_wp2_with (go_at_call 39; refine (refused_any 6 _).mono ?_)
            rintro E w4 ⟨rfl, b4⟩
            have H4 := Lib.hid (H3.out.below b4)
            clear H3 b4
            have HZ := Lib.hid (fun x y => H4.out.fin x y)
            obtain ⟨d0, d1, f0, f1⟩ := H4.out.out
            go_wp2_with fail
            (try simp only [Exit.inBlock, Exit.then]); refine bodyPost_ret (ret_range (g := w.heap.size + 1) rfl rfl (range_all (HZ.out _ _).1) Tryd.underlying29 rfl Tryd.is29) rfl ?_
            show OpP w g r _ _ _
            rw [HE2.out]
            exact ⟨rfl, (HZ.out _ _).2⟩
          · have h2' : ¬ ((1125899906842624 : Int) < (B : Int) + (o.amount : Int)) := by omega
            go_wp2_with (go_at_call 53; refine (HFu.out _ H3.out).mono ?_)
            rintro E w4 ⟨rfl, b4⟩
            have H4 := Lib.hid (H3.out.below b4)
            clear H3 b4 k3_1 k3_4 k3_5 HFu
            cases fu with
            | true =>
              have HE2 : Hid (moveR xs o = (no 7, xs)) := Lib.hid (by rw [HG.out, if_neg h1, if_neg h2]; rfl)
              clear HVr HDg HT1 HT2 HG h1 h2
              go_wp2_with (go_at_call 39; refine (refused_any 7 _).mono ?_)
              rintro E w5 ⟨rfl, b5⟩
              have H5 := Lib.hid (H4.out.below b5)
              clear H4 b5
              have HZ := Lib.hid (fun x y => H5.out.fin x y)
              obtain ⟨d0, d1, f0, f1⟩ := H5.out.out
              go_wp2_with fail
              (try simp only [Exit.inBlock, Exit.then]); refine bodyPost_ret (ret_range (g := w.heap.size + 1) rfl rfl (range_all (HZ.out _ _).1) Tryd.underlying29 rfl Tryd.is29) rfl ?_
              show OpP w g r _ _ _
              rw [HE2.out]
              exact ⟨rfl, (HZ.out _ _).2⟩
            | false =>
              have HE2 : Hid (moveR xs o = ((0, dec (A - o.amount)), setK (setK xs o.key (dec (A - o.amount))) o.to (dec (B + o.amount)))) := Lib.hid (by rw [HG.out, if_neg h1, if_neg h2]; rfl)
              obtain ⟨L, hL⟩ : ∃ L, L = A - o.amount := ⟨_, rfl⟩
              obtain ⟨M, hM⟩ : ∃ M, M = B + o.amount := ⟨_, rfl⟩
              have hLi : (A : Int) - (o.amount : Int) = (L : Int) := by omega
              have hMi : (B : Int) + (o.amount : Int) = (M : Int) := by omega
              have hwl : IntKind.u64.wrap (L : Int) = (L : Int) := by rw [IntKind.wrap_u64]; omega
              have HDL : Hid (∀ W r' c' ys, At w g r o W r' c' ys → Calls Tryd.prog 59 #[.int .u64 (L : Int)] W fun E w' => E = .returned (.string (dec L)) ∧ Below W.heap.size W w') := Lib.hid fun W r' c' ys H => HDg.out W r' c' ys L H (by omega)
              have HDM : Hid (∀ W r' c' ys, At w g r o W r' c' ys → Calls Tryd.prog 59 #[.int .u64 (M : Int)] W fun E w' => E = .returned (.string (dec M)) ∧ Below W.heap.size W w') := Lib.hid fun W r' c' ys H => HDg.out W r' c' ys M H (by omega)
              rw [← hL, ← hM] at HE2
              rw [hMi] at hwa h2'
              have hwm : IntKind.u64.wrap (M : Int) = (M : Int) := hwa
              obtain ⟨sl, hsl⟩ : ∃ sl, sl = dec L := ⟨_, rfl⟩
              obtain ⟨sm, hsm⟩ : ∃ sm, sm = dec M := ⟨_, rfl⟩
              rw [← hsl] at HDL HE2
              rw [← hsm] at HDM HE2
              have k4_1 : w4.cell? ⟨w.heap.size, 1, none⟩ = some (.string o.key) := H4.out.cell 1 _ rfl
              have k4_4 : w4.cell? ⟨w.heap.size, 4, none⟩ = some (.string o.to) := H4.out.cell 4 _ rfl
              have k4_5 : w4.cell? ⟨w.heap.size, 5, none⟩ = some (.int .u64 (o.amount : Int)) := H4.out.cell 5 _ rfl
              clear hsl hsm HG h1 h2 hL hM HDg HVr hwa
              go_wp2_with (go_at_call 59; refine (HDL.out _ _ _ _ H4.out).mono ?_)
              rintro E w5 ⟨rfl, b5⟩
              have H5 := Lib.hid (H4.out.below b5)
              clear H4 b5 k4_1 k4_4 k4_5
              have k5_1 : w5.cell? ⟨w.heap.size, 1, none⟩ = some (.string o.key) := H5.out.cell 1 _ rfl
              go_wp2_with (go_at_call 54; refine (HT1.out _ _ H5.out).mono ?_)
              rintro E w6 ⟨rfl, r6, c6, l6, q6⟩
              have H6 := Lib.hid (H5.out.next l6 q6)
              clear H5 l6 q6 k5_1
              have k6_4 : w6.cell? ⟨w.heap.size, 4, none⟩ = some (.string o.to) := H6.out.cell 4 _ rfl
              have k6_5 : w6.cell? ⟨w.heap.size, 5, none⟩ = some (.int .u64 (o.amount : Int)) := H6.out.cell 5 _ rfl
              go_wp2_with fail
              go_region_with (first
                | (go_at_call 59; go_must (refine (HDM.out _ _ _ _ H6.out.drew).mono ?_); rintro E w7 ⟨rfl, b7⟩; have H7 := Lib.hid (H6.out.drew.below b7); clear H6 b7; have k7_4 : w7.cell? ⟨w.heap.size, 4, none⟩ = some (.string o.to) := H7.out.cell 4 _ rfl; have k7_5 : w7.cell? ⟨w.heap.size, 5, none⟩ = some (.int .u64 (o.amount : Int)) := H7.out.cell 5 _ rfl)
                | (go_at_call 54; go_must (refine (HT2.out _ _ _ _ _ H7.out).mono ?_); rintro E w8 ⟨rfl, r8, c8, l8, q8⟩; have H8 := Lib.hid (H7.out.next l8 q8); clear H7 l8 q8))
              all_goals
                have HZ := Lib.hid (fun x y => H8.out.fin x y)
                obtain ⟨d0, d1, f0, f1⟩ := H8.out.out
                go_wp2_with fail
                (try simp only [Exit.inBlock, Exit.then]); refine bodyPost_ret (ret_range (g := w.heap.size + 1) rfl rfl (range_all (HZ.out _ _).1) Tryd.underlying29 rfl Tryd.is29) rfl ?_
                show OpP w g r _ _ _
                rw [HE2.out]
                exact ⟨rfl, (HZ.out _ _).2⟩
end Go.Proofs.YtpageppjngbnpaaDoor
