/-
  What is proved: a number's digits, and the number of digits, by the program. Conditions as stated.
-/
import Derived.Test.YtflenghnmflenaaDoorLb
import Derived.Test.YtflenghnmflenaaDoorLc
import Derived.Test.YtflenghnmflenaaDoorSh
import Derived.Lib.ItoaMem
import Derived.BigCall
import Derived.BigGuard
namespace Go.Proofs.YtflenghnmflenaaDoor
open Go.RowKit
set_option maxRecDepth 100000

/-- The library's variables hold what its text lays there. -/
structure Vars (w : World) : Prop where
  syn : ∃ tp p, w.var? Tryd.prog "strconv.ErrSyntax" = some #[.iface tp p]
  rng : ∃ tp p, w.var? Tryd.prog "strconv.ErrRange" = some #[.iface tp p]
  tab : Lib.TabIs Tryd.prog w "internal/strconv.uint64pow10" .u64 Lib.pow10Tab
theorem Tryd.g1 : Tryd.prog.globalNamed "strconv.ErrSyntax" = some 1 := by kernel_rfl
theorem Tryd.g2 : Tryd.prog.globalNamed "strconv.ErrRange" = some 2 := by kernel_rfl
theorem Tryd.g3 : Tryd.prog.globalNamed "internal/strconv.uint64pow10" = some 3 := by kernel_rfl
theorem var_kept {w w' : World} {n : String} {g : Nat} (hg : Tryd.prog.globalNamed n = some g) (h : w'.heap[g]? = w.heap[g]?) : w'.var? Tryd.prog n = w.var? Tryd.prog n := by
  simp [World.var?, hg, h]
theorem Vars.kept {w w' : World} (h : Vars w) (hk : ∀ k, k < 4 → w'.heap[k]? = w.heap[k]?) : Vars w' := by
  obtain ⟨⟨t1, p1, h1⟩, ⟨t2, p2, h2⟩, h3⟩ := h
  refine ⟨⟨t1, p1, (var_kept Tryd.g1 (hk 1 (by omega))).trans h1⟩, ⟨t2, p2, (var_kept Tryd.g2 (hk 2 (by omega))).trans h2⟩, ?_⟩
  unfold Lib.TabIs at h3 ⊢
  exact (var_kept Tryd.g3 (hk 3 (by omega))).trans h3
theorem Vars.low {w : World} (h : Vars w) : 4 ≤ w.heap.size := by
  have h3 := h.tab
  unfold Lib.TabIs at h3
  have hlt : 3 < w.heap.size := by
    rcases Nat.lt_or_ge 3 w.heap.size with h' | h'
    · exact h'
    · simp [World.var?, Tryd.g3, Array.getElem?_eq_none h'] at h3
  omega
theorem Vars.below {w w' : World} (h : Vars w) (hb : Below w.heap.size w w') : Vars w' := h.kept fun k hk => hb.block k (by have := h.low; omega)

theorem holds_zero0 (w : World) (T : TypeId) (nd : Nat) (hs : nd ≤ 24) : Sort.Holds (fun (b : UInt8) => Value.int .u8 (b.toNat : Int)) (w.alloc (.cells Lib.zeros24 T)) w.heap.size 0 (Array.replicate nd (0 : UInt8)) := fun j hj => by
  have hj' : j < nd := by simpa using hj
  refine ⟨?_, World.frozen?_alloc_new _ _ _ _⟩
  rw [World.cell?_alloc_new, Nat.zero_add, Lib.zeros24_at _ (by omega), getElem!_pos _ j hj]
  simp
theorem put_below {w W : World} {d : Array UInt8} (h : Below w.heap.size w W) (g : Nat) (hg : w.heap.size ≤ g) : Below w.heap.size w (Sort.putRow (fun (b : UInt8) => Value.int .u8 (b.toNat : Int)) W g 0 d) :=
  ⟨h.os, h.tape, h.output, by simpa [Sort.putRow, Sort.mapBlock] using h.size, fun k hk => by
    rw [← h.block k hk]
    simp [Sort.putRow, Sort.mapBlock, Array.getElem?_modify, show g ≠ k by omega]⟩
set_option maxHeartbeats 4000000 in
theorem digits_in (u : Nat) (hu : u < 18446744073709551616) (w : World) (htab : Lib.TabIs Tryd.prog w "internal/strconv.uint64pow10" .u64 Lib.pow10Tab) :
    Calls Tryd.prog 71 #[.int .u64 (u : Int), .int .i64 10] w fun E w' => E = .returned (.string (dec u)) ∧ Below w.heap.size w w' := by
  by_cases hs : u < 100
  · have hs' : ¬ ((100 : Int) ≤ (u : Int)) := by omega
    have hs2 : (u : Int) < 100 := by omega
    have hw : IntKind.i64.wrap (u : Int) = (u : Int) := by rw [IntKind.wrap_i64]; omega
    have HB := Lib.hid (Below.refl w.heap.size w)
    go_enter Tryd.func71, Tryd.ntmps71
    go_wp2_with (go_at_call 80; refine (Tryd.internal_strconv_small u hs _).mono ?_; rintro E w' ⟨rfl, rfl⟩)
    go_ret
    exact ⟨rfl, HB.out⟩
  · have hs2 : ¬ ((u : Int) < 100) := by omega
    have hu1 : 1 ≤ u := by omega
    have hnd20 : Lib.nDigits u ≤ 20 := by have := Lib.numDigits_eq u hu1 hu; split at this <;> omega
    have hal : Tryd.prog.arrayLen 120 = 24 := by kernel_rfl
    obtain ⟨nd, hnd⟩ : ∃ nd, nd = Lib.nDigits u := ⟨_, rfl⟩
    have hb3 : nd ≤ 24 := by omega
    have hsl : ∀ W, (Instr.sliceAt 120 (.pointer (some ⟨w.heap.size, 0, none⟩)) none (some (.int .i64 (nd : Int))) none).run Tryd.prog W = .ok (.slice (some ⟨w.heap.size, 0, none⟩) nd 24) W := fun W => by
      rw [run_sliceAt_array_h W 120 ⟨w.heap.size, 0, none⟩ (by simp [Program.arrayLen, Program.elem, Tryd.underlying120]) .i64 (nd : Int) (by omega) (by rw [hal]; omega)]
      go_simp
    have hH0 := holds_zero0 w 120 nd hb3
    have hfmt := Tryd.internal_strconv_formatBase10 w.heap.size 0 24 u (Array.replicate nd 0) (w.alloc (.cells Lib.zeros24 120)) hH0 (by rw [Array.size_replicate, hnd]; exact Lib.lt_pow_nDigits u) hu (by rw [Array.size_replicate]; omega)
    rw [Array.size_replicate] at hfmt
    have HH0 := Lib.hid hH0
    have HN := Lib.hid (Tryd.internal_strconv_numDigits u hu1 hu)
    rw [← hnd] at HN
    have HND := Lib.hid hnd
    have HB : Hid (Below w.heap.size w (w.alloc (.cells Lib.zeros24 120))) := Lib.hid ((Below.refl _ _).alloc (Nat.le_refl _) _)
    have HT := Lib.hid (Lib.tabIs_alloc htab (.cells Lib.zeros24 120))
    clear hH0 hal htab hnd hnd20
    go_enter Tryd.func71, Tryd.ntmps71
    go_wp2_with (go_at_call 81; refine (HN.out _ HT.out).mono ?_; rintro E w' ⟨rfl, rfl⟩)
    go_at_call 82
    refine hfmt.mono ?_
    rintro E w' ⟨rfl, k, v', dk, rfl, hF⟩
    have hcv : (convert 62 9 (.slice (some ⟨w.heap.size, 0, none⟩) nd 24)).run Tryd.prog ((Sort.putRow (fun (b : UInt8) => Value.int .u8 (b.toNat : Int)) (w.alloc (.cells Lib.zeros24 120)) w.heap.size 0 dk).drewN k) = .ok (.string (dec u)) ((Sort.putRow (fun (b : UInt8) => Value.int .u8 (b.toNat : Int)) (w.alloc (.cells Lib.zeros24 120)) w.heap.size 0 dk).drewN k) := by
      have h := run_convert_bytes_back (P := Tryd.prog) ((Sort.putRow (fun (b : UInt8) => Value.int .u8 (b.toNat : Int)) (w.alloc (.cells Lib.zeros24 120)) w.heap.size 0 dk).drewN k) 62 9 5 ⟨w.heap.size, 0, none⟩ 24 (Lib.decDigits u) Tryd.underlying62 Tryd.underlying5 Tryd.underlying9 (fun j hj => by
        rw [HND.out] at hF
        rw [Lib.add_plain, Lib.row_is_numeral hF j hj, World.cell?_drewN]
        exact Sort.cell?_putRow (fun (b : UInt8) => Value.int .u8 (b.toNat : Int)) _ w.heap.size 0 _ dk HH0.out (by rw [hF.size, Array.size_replicate, HND.out]) j (by rw [hF.size]; rw [Lib.decDigits_length] at hj; exact hj))
      rw [Lib.decDigits_length, ← HND.out] at h
      exact h
    have HB2 := Lib.hid (below_drewN (put_below (d := dk) HB.out w.heap.size (Nat.le_refl _)) k)
    clear hF
    go_wp2
    go_ret
    exact ⟨rfl, HB2.out⟩
theorem digits_any (u : Nat) (hu : u < 18446744073709551616) {w : World} (hv : Vars w) : Calls Tryd.prog 59 #[.int .u64 (u : Int)] w fun E w' => E = .returned (.string (dec u)) ∧ Below w.heap.size w w' := by
  have HI := Lib.hid (digits_in u hu w hv.tab)
  have h55 : Calls Tryd.prog 65 #[.int .u64 (u : Int), .int .i64 10] w fun E w' => E = .returned (.string (dec u)) ∧ Below w.heap.size w w' := by
    go_enter Tryd.func65, Tryd.ntmps65
    go_wp2_with (go_at_call 71; refine HI.out.mono ?_; rintro E w' ⟨rfl, hb⟩)
    go_ret
    exact ⟨rfl, hb⟩
  have HJ := Lib.hid h55
  clear h55
  go_enter Tryd.func59, Tryd.ntmps59
  go_wp2_with (go_at_call 65; refine HJ.out.mono ?_; rintro E w' ⟨rfl, hb⟩)
  go_ret
  exact ⟨rfl, hb⟩
end Go.Proofs.YtflenghnmflenaaDoor
