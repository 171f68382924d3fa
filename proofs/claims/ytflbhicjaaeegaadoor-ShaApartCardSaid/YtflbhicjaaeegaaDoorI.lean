/-
  What is proved: what Sum answers, and what is done of no hash. Conditions as stated.
-/
import Derived.Test.YtflbhicjaaeegaaDoorH
import Derived.ChangeKeysEq
namespace Go.Proofs.YtflbhicjaaeegaaDoor
open Go.RowKit

theorem Tryd.cells5 : Tryd.prog.cellsOf 5 = 1 := by kernel_rfl
theorem Tryd.cells22 : Tryd.prog.cellsOf 22 = 1 := by kernel_rfl
theorem Tryd.guard29 : Tryd.prog.eqGuardType Tryd.prog.depth 29 = false := by kernel_rfl
theorem Tryd.guard23 : Tryd.prog.eqGuardType Tryd.prog.depth 23 = false := by kernel_rfl
theorem Tryd.has5 : (Tryd.prog.info? 5).isSome = true := by kernel_rfl
theorem Tryd.has22 : (Tryd.prog.info? 22).isSome = true := by kernel_rfl

theorem run_part_int {P : Program} {e : TypeId} {kd : IntKind} (he : P.underlying e = some (.int kd)) {xs : Array Value} {i : Nat} {v : Value} (hv : xs[i]? = some v) (w : World) : (part e xs i).run P w = .ok v w := by
  have hagg : (isAgg e).run P w = .ok false w := by
    unfold isAgg
    rw [Sem.run_bind, run_underlying he w]
    rfl
  simp [part, hagg, hv]
theorem eqItems_same {P : Program} {d : Nat} {e : TypeId} {kd : IntKind} (he : P.underlying e = some (.int kd)) (xs : Array Value) (w : World) :
    ∀ is : List Nat, (∀ i ∈ is, ∃ k z, xs[i]? = some (.int k z)) → (Op.eqItems (d + 1) e 1 xs xs is).run P w = .ok true w
  | [], _ => by simp [Op.eqItems]
  | i :: is, h => by
    obtain ⟨k, z, hz⟩ := h i (by simp)
    have := eqItems_same (d := d) he xs w is fun j hj => h j (by simp [hj])
    simp [Op.eqItems, run_part_int he hz, run_equalIn_int w d e k kd z z he, this]
theorem eq_same {P : Program} {t e : TypeId} {kd : IntKind} {n : Nat} (hu : P.underlying t = some (.array n e)) (he : P.underlying e = some (.int kd)) (hs : (P.info? e).isSome = true) (hc : P.cellsOf e = 1) (xs : Array Value)
    (h : ∀ i, i < n → ∃ k z, xs[i]? = some (.int k z)) (w : World) : (Op.equalIn 10000 t (.agg xs) (.agg xs)).run P w = .ok true w := by
  obtain ⟨i, hi⟩ := Option.isSome_iff_exists.1 hs
  rw [show 10000 = 9999 + 1 from rfl, run_equalIn_array w 9999 xs xs hu hi, hc]
  exact eqItems_same (d := 9998) he xs w _ fun i hi => h i (by simpa using hi)
theorem eq_bytes (l : List UInt8) (hl : l.length = 32) (w : World) : (Op.equalIn 10000 29 (.agg (u8s l).toArray) (.agg (u8s l).toArray)).run Tryd.prog w = .ok true w :=
  eq_same Tryd.underlying29 Tryd.underlying5 Tryd.has5 Tryd.cells5 _ (fun i hi => ⟨.u8, ((l.getD i 0).toNat : Int), by simpa using u8s_at l i (by omega)⟩) w
theorem eq_nums (l : List UInt32) (hl : l.length = 8) (w : World) : (Op.equalIn 10000 23 (.agg (u32s l).toArray) (.agg (u32s l).toArray)).run Tryd.prog w = .ok true w :=
  eq_same Tryd.underlying23 Tryd.underlying22 Tryd.has22 Tryd.cells22 _ (fun i hi => ⟨.u32, ((l.getD i 0).toNat : Int), by simpa using u32s_at l i (by omega)⟩) w

/-- What is read lies where there is something. -/
theorem Rd.inn {P : Nat → Prop} {w : World} {A : Option Addr} {n : Nat} {bs : List UInt8} (h : Rd P w A n bs) : Rd (· < w.heap.size) w A n bs :=
  ⟨h.1, fun hn => let ⟨b, o, e, hb, _, hc⟩ := h.2 hn; ⟨b, o, e, hb, hb, hc⟩⟩

set_option maxHeartbeats 400000 in
theorem sum_by (bs out : List UInt8) (A : Option Addr) (c : Nat) (w : World) (hr : Rd (fun _ => True) w A bs.length bs) (hs : Sl A bs.length c) (hL : bs.length < 1000000000000000000) (hk : KIs w) (h0 : 0 < w.heap.size)
    (hol : (u8s out).length = 32) (hS : ∀ (g : Nat) (w : World), HashIs w g bs bs.length → KIs w → 0 < w.heap.size → Calls Tryd.prog 16 #[.pointer (some ⟨g, 0, none⟩)] w fun E w' => E = .returned (.agg (u8s out).toArray) ∧ Below w.heap.size w w') :
    Calls Tryd.prog 12 #[.slice A bs.length c] w fun E w' => E = .returned (.agg (u8s out).toArray) ∧ Below w.heap.size w w' := by
  have HK := Lib.hid hk
  have HR := Lib.hid hr
  have HSL := Lib.hid hs
  have HS := Lib.hid hS
  have HOL := Lib.hid hol
  have HIO : Hid ((Tryd.prog.info? 29).map (·.size) = some (u8s out).length) := Lib.hid (by rw [hol]; exact Tryd.size29)
  have HW : Hid (∀ (g : Nat) (w1 : World), HashIs w1 g [] 0 → Below w.heap.size w w1 → w.heap.size ≤ g → Calls Tryd.prog 15 #[.pointer (some ⟨g, 0, none⟩), .slice A bs.length c] w1 fun E w' => E = .returned (.tuple #[]) ∧ HashIs w' g bs bs.length ∧ w1.grownBy w' (some g)) := Lib.hid fun g w1 h1 hb hg => by
    have := write_any g [] bs A c w1 h1 ((hr.inn).below hb (fun _ _ h => h) |>.mono fun b _ (h : b < w.heap.size) => by show b ≠ g; omega) hs (by simp; omega) (hk.below hb h0) (by omega)
    simpa using this
  clear hk hr hs hS hol
  go_enter Tryd.func12, Tryd.ntmps12
  go_wp2_with (first
    | (go_at_call 14; refine (new_any _).mono ?_; rintro E w1 ⟨g, rfl, hg, hh1, hb1⟩; have HB1 := Lib.hid hb1; have HH1 := Lib.hid hh1; have HG := Lib.hid hg; clear hb1 hh1 hg; have hb2 : Hid (Below w.heap.size w w1) := Lib.hid (((Below.refl _ _).alloc (Nat.le_refl _) _).trans (HB1.out.mono (by simp))); have hgs : Hid (w.heap.size < g) := Lib.hid (by have := HG.out; simp at this; omega); have ht1 : Hid (w1.there w.heap.size 0 32) := Lib.hid (there_below (there_new w _ _) HB1.out (by simp)))
    | (go_at_call 15; refine (HW.out g w1 HH1.out hb2.out (Nat.le_of_lt hgs.out)).mono ?_; rintro E w2 ⟨rfl, hh2, hg2⟩; have HH2 := Lib.hid hh2; have HG2 := Lib.hid hg2; clear hh2 hg2; have hb3 : Hid (Below w.heap.size w w2) := Lib.hid (hb2.out.grown HG2.out hb2.out.size (fun k hk => by cases hk; exact Nat.le_of_lt hgs.out)))
    | (go_at_call 16; refine (HS.out g w2 HH2.out (HK.out.below hb3.out h0) (Nat.lt_of_lt_of_le h0 hb3.out.size)).mono ?_; rintro E w3 ⟨rfl, hb4⟩; have HB4 := Lib.hid hb4; clear hb4; have HT : Hid (w3.there w.heap.size 0 (u8s out).length) := Lib.hid (by rw [HOL.out]; exact there_below (there_grown ht1.out HG2.out (by have := hgs.out; omega)) HB4.out (by have := hgs.out; have := HH2.out.lt; omega)))
    | (refine wpList_store_cells rfl 29 (.tmp 2) (.tmp 9) rfl w.heap.size 0 (u8s out) rfl rfl HT.out HIO.out (u8s_one _) ?_))
  exact bodyPost_ret (ret_range (cs := u8s out) rfl rfl (World.rangeAt_setCells_same _ _ _ (u8s out) HT.out) Tryd.underlying29 rfl HIO.out) rfl ⟨rfl, below_setCells (Nat.le_refl _) _ _ _ (hb3.out.trans (HB4.out.mono hb3.out.size))⟩

theorem sumOf_length (bs : List UInt8) : (sumOf bs).length = 32 := by rw [sumOf, digestOf_length, absorb_length]
theorem sum_any (bs : List UInt8) (A : Option Addr) (c : Nat) (w : World) (hr : Rd (fun _ => True) w A bs.length bs) (hs : Sl A bs.length c) (hL : bs.length < 1000000000000000000) (hk : KIs w) (h0 : 0 < w.heap.size) :
    Calls Tryd.prog 12 #[.slice A bs.length c] w fun E w' => E = .returned (.agg (u8s (sumOf bs)).toArray) ∧ Below w.heap.size w w' :=
  sum_by bs (sumOf bs) A c w hr hs hL hk h0 (by rw [u8s_length, sumOf_length]) fun g w hh hk h0 => hashSum_any g bs w hh hL hk h0

theorem nilWrite_any (A : Option Addr) (n c : Nat) (w : World) : Calls Tryd.prog 15 #[.pointer none, .slice A n c] w fun E w' => E = .returned (.tuple #[]) ∧ w = w' := by
  go_enter Tryd.func15, Tryd.ntmps15
  go_wp2
  exact bodyPost_ret (results_none rfl _ _ _) rfl ⟨rfl, rfl⟩

theorem nilSum_by (out : List UInt8) (w : World) (hk : KIs w) (h0 : 0 < w.heap.size) (hol : (u8s out).length = 32)
    (hS : ∀ w : World, KIs w → 0 < w.heap.size → Calls Tryd.prog 12 #[.slice none 0 0] w fun E w' => E = .returned (.agg (u8s out).toArray) ∧ Below w.heap.size w w') :
    Calls Tryd.prog 16 #[.pointer none] w fun E w' => E = .returned (.agg (u8s out).toArray) ∧ Below w.heap.size w w' := by
  have HS := Lib.hid hS
  have HK := Lib.hid hk
  have HOL := Lib.hid hol
  have HIO : Hid ((Tryd.prog.info? 29).map (·.size) = some (u8s out).length) := Lib.hid (by rw [hol]; exact Tryd.size29)
  clear hS hk hol
  go_enter Tryd.func16, Tryd.ntmps16
  go_wp2_with (first
    | (go_at_call 12; refine (HS.out _ (HK.out.below ((Below.refl _ _).alloc (Nat.le_refl _) _) h0) (by simp)).mono ?_; rintro E w1 ⟨rfl, hb1⟩; have HB1 := Lib.hid hb1; clear hb1; have HT : Hid (w1.there w.heap.size 0 (u8s out).length) := Lib.hid (by rw [HOL.out]; exact there_below (there_new w _ _) HB1.out (by simp)))
    | (refine wpList_store_cells rfl 29 (.tmp 2) (.tmp 8) rfl w.heap.size 0 (u8s out) rfl rfl HT.out HIO.out (u8s_one _) ?_))
  exact bodyPost_ret (ret_range (cs := u8s out) rfl rfl (World.rangeAt_setCells_same _ _ _ (u8s out) HT.out) Tryd.underlying29 rfl HIO.out) rfl ⟨rfl, below_setCells (Nat.le_refl _) _ _ _ (((Below.refl _ _).alloc (Nat.le_refl _) _).trans (HB1.out.mono (by simp)))⟩
end Go.Proofs.YtflbhicjaaeegaaDoor
