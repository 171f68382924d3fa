/-
  What is proved: what digest, first and padding answer. Conditions as stated.
-/
import Derived.Test.YtflbhicjaaeegaaDoorD
namespace Go.Proofs.YtflbhicjaaeegaaDoor
open Go.RowKit

theorem u8s_length (l : List UInt8) : (u8s l).length = l.length := by simp [u8s]
theorem u8s_one (l : List UInt8) : ∀ v ∈ u8s l, v.oneCell' = true := by
  intro v hv
  simp only [u8s, List.mem_map] at hv
  obtain ⟨x, _, rfl⟩ := hv
  rfl
theorem u8s_set (l : List UInt8) (k : Nat) (x : UInt8) : (u8s l).set k (.int .u8 (x.toNat : Int)) = u8s (l.set k x) := by simp [u8s]

theorem u32s_at (l : List UInt32) (k : Nat) (hk : k < l.length) : (u32s l)[k]? = some (.int .u32 ((l.getD k 0).toNat : Int)) := by
  simp [u32s, u32, List.getD_eq_getElem?_getD, List.getElem?_eq_getElem hk]
theorem u8s_at (l : List UInt8) (k : Nat) (hk : k < l.length) : (u8s l)[k]? = some (.int .u8 ((l.getD k 0).toNat : Int)) := by
  simp [u8s, List.getD_eq_getElem?_getD, List.getElem?_eq_getElem hk]
theorem digestOf_length (l : List UInt32) : (digestOf l).length = 4 * l.length := by
  induction l with
  | nil => rfl
  | cons x r ih => rw [digestOf, List.flatMap_cons, List.length_append]; show 4 + (digestOf r).length = _; rw [ih, List.length_cons]; omega
theorem digestOf_take (l : List UInt32) (k : Nat) (hk : k < l.length) : digestOf (l.take (k + 1)) = digestOf (l.take k) ++ four (l.getD k 0) := by
  rw [List.take_add_one, digestOf, List.flatMap_append, List.getElem?_eq_getElem hk]
  simp [List.getD_eq_getElem?_getD, hk, digestOf]

/-- A number's four bytes into noughts. -/
theorem set4 (d : List UInt8) (k : Nat) (hd : d.length = 4 * k) (hk : k < 8) (a b c e : UInt8) :
    ((((d ++ List.replicate (32 - 4 * k) 0).set (4 * k) a).set (4 * k + 1) b).set (4 * k + 2) c).set (4 * k + 3) e = (d ++ [a, b, c, e]) ++ List.replicate (32 - 4 * (k + 1)) 0 := by
  rw [show 32 - 4 * k = (32 - 4 * (k + 1)) + 1 + 1 + 1 + 1 by omega]
  simp only [List.replicate_succ]
  rw [← hd]
  simp

/-- An array of the call's own, and the one that is handed out. -/
def ArAt (w wr : World) (g r n : Nat) (l : List UInt8) : Prop :=
  Below w.heap.size w wr ∧ w.heap.size ≤ g ∧ w.heap.size ≤ r ∧ wr.rangeAt g 0 (u8s l) ∧ wr.there g 0 n ∧ wr.there r 0 n ∧ l.length = n
theorem ArAt.set {w wr : World} {g r n : Nat} {l : List UInt8} (H : ArAt w wr g r n l) (i : Nat) (hi : i < n) (x : UInt8) :
    ArAt w (wr.setCell ⟨g, i, none⟩ (.int .u8 (x.toNat : Int))) g r n (l.set i x) := by
  obtain ⟨h1, h2, h3, h4, h5, h6, h7⟩ := H
  refine ⟨h1.setCell h2 _, h2, h3, ?_, there_set h5 _ _, there_set h6 _ _, by rw [List.length_set]; exact h7⟩
  have := rangeAt_set h4 i (by rw [u8s_length, h7]; exact hi) (.int .u8 (x.toNat : Int))
  rwa [u8s_set] at this
theorem ArAt.drewN {w wr : World} {g r n : Nat} {l : List UInt8} (H : ArAt w wr g r n l) (q : Nat) : ArAt w (wr.drewN q) g r n l := ⟨below_drewN H.1 q, H.2⟩
theorem ArAt.cell {w wr : World} {g r n : Nat} {l : List UInt8} (H : ArAt w wr g r n l) (i : Nat) (hi : i < n) : ∃ old : Int, wr.cell? ⟨g, i, none⟩ = some (.int .u8 old) :=
  ⟨_, rangeAt_u8 H.2.2.2.1 i (by rw [H.2.2.2.2.2.2]; exact hi)⟩
theorem ArAt.free {w wr : World} {g r n : Nat} {l : List UInt8} (H : ArAt w wr g r n l) (i : Nat) (hi : i < n) : wr.frozen? ⟨g, i, none⟩ = false := there_cell H.2.2.2.2.1 i hi

theorem by24 (x : UInt32) : (x.toNat : Int) / (16777216 : Int) % (256 : Int) = (((x >>> 24).toUInt8).toNat : Int) := by
  rw [UInt32.toNat_toUInt8, UInt32.toNat_shiftRight, show ((24 : UInt32).toNat % 32) = 24 from rfl, Nat.shiftRight_eq_div_pow]; omega
theorem by16 (x : UInt32) : (x.toNat : Int) / (65536 : Int) % (256 : Int) = (((x >>> 16).toUInt8).toNat : Int) := by
  rw [UInt32.toNat_toUInt8, UInt32.toNat_shiftRight, show ((16 : UInt32).toNat % 32) = 16 from rfl, Nat.shiftRight_eq_div_pow]; omega
theorem by8 (x : UInt32) : (x.toNat : Int) / (256 : Int) % (256 : Int) = (((x >>> 8).toUInt8).toNat : Int) := by
  rw [UInt32.toNat_toUInt8, UInt32.toNat_shiftRight, show ((8 : UInt32).toNat % 32) = 8 from rfl, Nat.shiftRight_eq_div_pow]; omega
theorem by0 (x : UInt32) : (x.toNat : Int) % (256 : Int) = ((x.toUInt8).toNat : Int) := by
  rw [UInt32.toNat_toUInt8]; omega

set_option maxHeartbeats 400000 in
set_option maxRecDepth 100000 in
theorem digest_any (l : List UInt32) (w : World) (hl : l.length = 8) :
    Calls Tryd.prog 27 #[.agg (u32s l).toArray] w fun E w' => E = .returned (.agg (u8s (digestOf l)).toArray) ∧ Below w.heap.size w w' := by
  have HL := Lib.hid hl
  have HI : Hid ((Tryd.prog.info? 23).map (·.size) = some (u32s l).length) := Lib.hid (by rw [u32s_length, hl]; exact Tryd.size23)
  clear hl
  go_enter Tryd.func27, Tryd.ntmps27
  go_wp2_with (first
    | (refine wpList_load_mid rfl 23 (.tmp 1) rfl w.heap.size 0 rfl (u32s l) _ (World.rangeAt_alloc (World.rangeAt_alloc (range_new w _ _) _) _) Tryd.underlying23 rfl HI.out ?_))
  go_loopw [7] (fun vi wr => ∃ k : Nat, k ≤ 8 ∧ vi = .int .i64 k ∧ Hid (ArAt w wr (w.heap.size + 1 + 1) (w.heap.size + 1) 32 (digestOf (l.take k) ++ List.replicate (32 - 4 * k) 0))) (fun vi _ => 8 - (intOf vi).toNat)
  case atStart =>
    refine ⟨0, by omega, rfl, Lib.hid ⟨(((Below.refl _ _).alloc (Nat.le_refl _) _).alloc (by simp) _).alloc (by simp; omega) _, by omega, by omega, ?_, there_last w _ _ _ _, World.there_alloc (there_new2 w _ _ _) _, rfl⟩⟩
    exact range_last w _ _ (u8s (List.replicate 32 0)) _
  case round =>
    obtain ⟨k, hk, rfl, HA⟩ := hrel
    by_cases hk8 : k < 8
    · obtain ⟨o0, c0⟩ := HA.out.cell (4 * k) (by omega)
      obtain ⟨o1, c1⟩ := HA.out.cell (4 * k + 1) (by omega)
      obtain ⟨o2, c2⟩ := HA.out.cell (4 * k + 2) (by omega)
      obtain ⟨o3, c3⟩ := HA.out.cell (4 * k + 3) (by omega)
      have f0 := HA.out.free (4 * k) (by omega)
      have f1 := HA.out.free (4 * k + 1) (by omega)
      have f2 := HA.out.free (4 * k + 2) (by omega)
      have f3 := HA.out.free (4 * k + 3) (by omega)
      have HMK : Hid ((u32s l)[k]? = some (.int .u32 ((l.getD k 0).toNat : Int))) := Lib.hid (u32s_at l k (by rw [HL.out]; exact hk8))
      have HT : Hid (digestOf (l.take (k + 1)) = digestOf (l.take k) ++ four (l.getD k 0)) := Lib.hid (digestOf_take l k (by rw [HL.out]; exact hk8))
      have HD : Hid ((digestOf (l.take k)).length = 4 * k) := Lib.hid (by rw [digestOf_length, List.length_take, HL.out]; omega)
      generalize l.getD k 0 = x at HMK HT
      go_wp2_with (first
        | (refine wpList_index_cells rfl 23 (.tmp 6) (.tmp 7) rfl rfl rfl Tryd.underlying23 Tryd.underlying22 Tryd.info22 hk8 HMK.out ?_))
      go_roundw
      case measure => simp [intOf]; omega
      case rel =>
        refine ⟨k + 1, by omega, by go_num, Lib.hid ?_⟩
        rw [by24, by16, by8, by0]
        have := (((HA.out.set (4 * k) (by omega) (x >>> 24).toUInt8).set (4 * k + 1) (by omega) (x >>> 16).toUInt8).set (4 * k + 2) (by omega) (x >>> 8).toUInt8).set (4 * k + 3) (by omega) x.toUInt8
        rw [set4 _ k HD.out hk8] at this
        rw [HT.out]
        exact this
    · obtain rfl : k = 8 := by omega
      have HE : Hid (digestOf (l.take 8) ++ List.replicate (32 - 4 * 8) 0 = digestOf l) := Lib.hid (by rw [List.take_of_length_le (by rw [HL.out]; exact Nat.le_refl _)]; simp)
      rw [HE.out] at HA
      obtain ⟨z, hz⟩ : ∃ z, z = digestOf l := ⟨_, rfl⟩
      rw [← hz] at HA
      have HZ := Lib.hid hz
      clear hz HE
      have HR : Hid (wr.rangeAt (w.heap.size + 1 + 1) 0 (u8s z)) := Lib.hid HA.out.2.2.2.1
      have hz8 : (u8s z).length = 32 := by rw [u8s_length, HA.out.2.2.2.2.2.2]
      have HT : Hid (wr.there (w.heap.size + 1) 0 (u8s z).length) := Lib.hid (by rw [hz8]; exact HA.out.2.2.2.2.2.1)
      have HI8 : Hid ((Tryd.prog.info? 29).map (·.size) = some (u8s z).length) := Lib.hid (by rw [hz8]; exact Tryd.size29)
      clear hz8
      go_wp2_with (first
        | (refine wpList_load_mid rfl 29 (.tmp 3) rfl (w.heap.size + 1 + 1) 0 rfl (u8s z) _ HR.out Tryd.underlying29 rfl HI8.out ?_)
        | (refine wpList_store_cells rfl 29 (.tmp 2) (.tmp 38) rfl (w.heap.size + 1) 0 (u8s z) rfl rfl HT.out HI8.out (u8s_one _) ?_))
      exact bodyPost_ret (ret_range (cs := u8s z) rfl rfl (World.rangeAt_setCells_same _ _ _ (u8s z) HT.out) Tryd.underlying29 rfl HI8.out) rfl ⟨by rw [HZ.out], below_setCells (by omega) _ _ _ HA.out.1⟩

theorem Tryd.zero53 : (Tryd.prog.info? 53).map (fun i => (i.zero, i.size)) = some (some (.agg (Array.replicate 72 (.int .u8 0))), 72) := by kernel_rfl

/-- The padding, as far as so many bytes of the length. -/
def padTo (n k : Nat) : List UInt8 := 128 :: (List.replicate ((119 - n % 64) % 64) 0 ++ lenBytes n k)
theorem padTo_length (n k : Nat) : (padTo n k).length = 1 + (119 - n % 64) % 64 + k := by simp [padTo, lenBytes]; omega
theorem padTo_succ (n k : Nat) : padTo n (k + 1) = padTo n k ++ [UInt8.ofNat (8 * n / 2 ^ (56 - 8 * k))] := by simp [padTo, lenBytes, List.range_succ]

theorem len_byte (n k : Nat) : 8 * (n : Int) / (2 : Int) ^ (56 - 8 * k) % (256 : Int) = ((UInt8.ofNat (8 * n / 2 ^ (56 - 8 * k))).toNat : Int) := by
  rw [UInt8.toNat_ofNat']
  simp only [Int.natCast_emod, Int.natCast_ediv, Int.natCast_pow, Int.natCast_mul]
  rfl

/-- What a tuple's first result in a cell reads as. -/
theorem ret_range2 {P : Program} {fn : Func} {p u : Tmp} {ty : TypeId} (h : fn.results = #[.cell p ty, .tmp u]) {tmps : Array Value} {w : World} {g : Nat} {cs : List Value} {d : TypeDesc} {v : Value}
    (hp : tmps.getD p undef = .pointer (some ⟨g, 0, none⟩)) (hu' : tmps.getD u undef = v) (hc : w.rangeAt g 0 cs) (hu : P.underlying ty = some d) (hd : d.isRow = true) (hi : (P.info? ty).map (·.size) = some cs.length) :
    (results fn tmps).run P w = .ok (.tuple #[.agg cs.toArray, v]) w := by
  have hp' : tmps[p]?.getD undef = .pointer (some ⟨g, 0, none⟩) := by simpa using hp
  have hu'' : tmps[u]?.getD undef = v := by simpa using hu'
  simp [results, h, hp', hu'', asAddr, run_loadVar_mid w g 0 ty cs d hc hu hd hi]

set_option maxHeartbeats 400000 in
set_option maxRecDepth 100000 in
theorem padding_any (n : Nat) (w : World) (hn : n < 1152921504606846976) :
    Calls Tryd.prog 26 #[.int .u64 (n : Int)] w fun E w' => E = .returned (.tuple #[.agg (u8s (padOf n ++ List.replicate (72 - (padOf n).length) 0)).toArray, .int .i64 ((padOf n).length : Int)]) ∧ Below w.heap.size w w' := by
  obtain ⟨hz, _⟩ := zero_of_info Tryd.zero53
  go_enter Tryd.func26, Tryd.ntmps26
  go_wp2
  obtain ⟨m, hm⟩ : ∃ m, m = 1 + (119 - n % 64) % 64 := ⟨_, rfl⟩
  have hm64 : m ≤ 64 := by omega
  have em : (1 : Int) + (119 - (n : Int)) % 64 = (m : Int) := by omega
  rw [em]
  have HM := Lib.hid hm
  clear hm em hz
  go_loopw [14] (fun vi wr => ∃ k : Nat, k ≤ 8 ∧ vi = .int .i64 k ∧ Hid (ArAt w wr (w.heap.size + 1) w.heap.size 72 (padTo n k ++ List.replicate (72 - (m + k)) 0))) (fun vi _ => 8 - (intOf vi).toNat)
  case atStart =>
    refine ⟨0, by omega, rfl, Lib.hid ?_⟩
    have e : padTo n 0 ++ List.replicate (72 - (m + 0)) 0 = 128 :: List.replicate 71 0 := by
      rw [padTo, lenBytes, HM.out]
      simp only [List.range_zero, List.map_nil, List.append_nil, List.cons_append, List.replicate_append_replicate]
      congr 2
      omega
    rw [e]
    refine ⟨((Below.refl _ _).alloc (Nat.le_refl _) _).alloc (by simp) _, by omega, by omega, ?_, there_new2 w _ _ _, World.there_alloc (there_new w _ _) _, rfl⟩
    exact range_new2 w _ (u8s (128 :: List.replicate 71 0)) _
  case round =>
    obtain ⟨k, hk, rfl, HA⟩ := hrel
    by_cases hk8 : k < 8
    · obtain ⟨o0, c0⟩ := HA.out.cell (m + k) (by omega)
      have f0 := HA.out.free (m + k) (by omega)
      go_wp2
      go_roundw
      case measure => simp [intOf]; omega
      case rel =>
        refine ⟨k + 1, by omega, by go_num, Lib.hid ?_⟩
        rw [len_byte]
        have := HA.out.set (m + k) (by omega) (UInt8.ofNat (8 * n / 2 ^ (56 - 8 * k)))
        rw [fill_set _ _ _ 72 (m + k) (by rw [padTo_length, HM.out]) (by omega), ← padTo_succ] at this
        exact this
    · obtain rfl : k = 8 := by omega
      have HE : Hid (padTo n 8 ++ List.replicate (72 - (m + 8)) 0 = padOf n ++ List.replicate (72 - (padOf n).length) 0) := Lib.hid (by
        rw [show padOf n = padTo n 8 from rfl, padTo_length, HM.out])
      have HN : Hid (m + 8 = (padOf n).length) := Lib.hid (by rw [show padOf n = padTo n 8 from rfl, padTo_length, HM.out])
      rw [HE.out] at HA
      obtain ⟨z, hz⟩ : ∃ z, z = padOf n ++ List.replicate (72 - (padOf n).length) 0 := ⟨_, rfl⟩
      rw [← hz] at HA
      have HZ := Lib.hid hz
      clear hz HE
      have HR : Hid (wr.rangeAt (w.heap.size + 1) 0 (u8s z)) := Lib.hid HA.out.2.2.2.1
      have hz8 : (u8s z).length = 72 := by rw [u8s_length, HA.out.2.2.2.2.2.2]
      have HT : Hid (wr.there w.heap.size 0 (u8s z).length) := Lib.hid (by rw [hz8]; exact HA.out.2.2.2.2.2.1)
      have HI8 : Hid ((Tryd.prog.info? 53).map (·.size) = some (u8s z).length) := Lib.hid (by rw [hz8]; exact Tryd.size53)
      clear hz8
      go_wp2_with (first
        | (refine wpList_load_mid rfl 53 (.tmp 4) rfl (w.heap.size + 1) 0 rfl (u8s z) _ HR.out Tryd.underlying53 rfl HI8.out ?_)
        | (refine wpList_store_cells rfl 53 (.tmp 2) (.tmp 29) rfl w.heap.size 0 (u8s z) rfl rfl HT.out HI8.out (u8s_one _) ?_))
      exact bodyPost_ret (ret_range2 (cs := u8s z) rfl rfl rfl (World.rangeAt_setCells_same _ _ _ (u8s z) HT.out) Tryd.underlying53 rfl HI8.out) rfl ⟨by rw [HZ.out, ← HN.out]; rfl, below_setCells (Nat.le_refl _) _ _ _ HA.out.1⟩
end Go.Proofs.YtflbhicjaaeegaaDoor
