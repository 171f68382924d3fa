/-
  What is proved: what masked, filled and Same of tag answer. Conditions as stated.
-/
import Derived.Test.YtfmmldpemdodkaaDoorOc
import Derived.Test.YtfmmldpemdodkaaDoorY
namespace Go.Proofs.YtfmmldpemdodkaaDoor
open Go.RowKit

/-- Each byte xor the mask. -/
def maskOf (m : UInt8) (k : List UInt8) : List UInt8 := k.map (· ^^^ m)
/-- A key, or its digest if it is too long. -/
def shortOf (k : List UInt8) : List UInt8 := if 64 < k.length then sumOf k else k
def filledOf (k : List UInt8) : List UInt8 := shortOf k ++ List.replicate (64 - (shortOf k).length) 0
def hmac (k b : List UInt8) : List UInt8 := sumOf (maskOf 0x5c (filledOf k) ++ sumOf (maskOf 0x36 (filledOf k) ++ b))

theorem maskOf_length (m : UInt8) (k : List UInt8) : (maskOf m k).length = k.length := by simp [maskOf]
theorem shortOf_length (k : List UInt8) : (shortOf k).length ≤ 64 := by
  unfold shortOf
  split
  · rw [sumOf_length]; omega
  · omega
theorem filledOf_length (k : List UInt8) : (filledOf k).length = 64 := by
  have := shortOf_length k
  simp [filledOf]
  omega
theorem hmac_length (k b : List UInt8) : (hmac k b).length = 32 := sumOf_length _

theorem b8_xor (a b : UInt8) : bits .xor .u8 (a.toNat : Int) (b.toNat : Int) = ((a ^^^ b).toNat : Int) := by
  rw [u8_xor_nat _ _ a.toNat_lt b.toNat_lt, UInt8.toNat_xor]
theorem b8_or (a b : UInt8) : bits .or .u8 (a.toNat : Int) (b.toNat : Int) = ((a ||| b).toNat : Int) := by
  rw [u8_or_nat _ _ a.toNat_lt b.toNat_lt, UInt8.toNat_or]

theorem mask_set (m : UInt8) (k : List UInt8) (j : Nat) (h : j < k.length) : (maskOf m (k.take j) ++ k.drop j).set j (k.getD j 0 ^^^ m) = maskOf m (k.take (j + 1)) ++ k.drop (j + 1) := by
  have e : (maskOf m (k.take j)).length = j := by rw [maskOf_length, List.length_take]; omega
  rw [List.set_append_right _ _ (by omega), e, Nat.sub_self, List.drop_eq_getElem_cons h, List.set_cons_zero, List.take_add_one, List.getElem?_eq_getElem h]
  simp only [maskOf, List.map_append, Option.toList_some, List.map_cons, List.map_nil, List.append_assoc, List.cons_append, List.nil_append, List.getD_eq_getElem?_getD, List.getElem?_eq_getElem h, Option.getD_some]
theorem mask_at (m : UInt8) (k : List UInt8) (j : Nat) (h : j < k.length) : (maskOf m (k.take j) ++ k.drop j).getD j 0 = k.getD j 0 := by
  have e : (maskOf m (k.take j)).length = j := by rw [maskOf_length, List.length_take]; omega
  rw [List.getD_eq_getElem?_getD, List.getElem?_append_right (by omega), e, Nat.sub_self, List.getElem?_drop, Nat.add_zero, List.getD_eq_getElem?_getD]

set_option maxHeartbeats 400000 in
theorem masked_any (k : List UInt8) (m : UInt8) (w : World) (hk : k.length = 64) :
    Calls Tryd.prog 32 #[.agg (u8s k).toArray, .int .u8 (m.toNat : Int)] w fun E w' => E = .returned (.agg (u8s (maskOf m k)).toArray) ∧ Below w.heap.size w w' := by
  have HK := Lib.hid hk
  clear hk
  go_enter Tryd.func32, Tryd.ntmps32
  go_wp2
  go_loopw [6] (fun vi wr => ∃ j : Nat, j ≤ 64 ∧ vi = .int .i64 j ∧ Hid (ArAt w wr w.heap.size (w.heap.size + 1) 64 (maskOf m (k.take j) ++ k.drop j))) (fun vi _ => 64 - (intOf vi).toNat)
  case atStart =>
    refine ⟨0, by omega, rfl, Lib.hid ⟨((Below.refl _ _).alloc (Nat.le_refl _) _).alloc (by simp) _, by omega, by omega, ?_, ?_, there_new2 w _ _ _, by simpa [maskOf] using HK.out⟩⟩
    · exact World.rangeAt_alloc (range_new w (u8s k) _) _
    · have := World.there_alloc (there_new w (u8s k).toArray 45) (.cells (List.replicate 64 (Value.int .u8 0)).toArray 45)
      have e : (u8s k).toArray.size = 64 := by rw [List.size_toArray, u8s_length, HK.out]
      rw [e] at this
      exact this
  case round =>
    obtain ⟨j, hj, rfl, HA⟩ := hrel
    by_cases hj64 : j < 64
    · have hc := rangeAt_u8 HA.out.2.2.2.1 j (by rw [HA.out.2.2.2.2.2.2]; exact hj64)
      rw [mask_at m k j (by rw [HK.out]; exact hj64)] at hc
      have hf := HA.out.free j hj64
      have HS := Lib.hid (mask_set m k j (by rw [HK.out]; exact hj64))
      generalize k.getD j 0 = x at hc HS
      go_wp2
      go_roundw
      case measure => simp [intOf]; omega
      case rel =>
        refine ⟨j + 1, by omega, by go_num, Lib.hid ?_⟩
        rw [b8_xor, ← HS.out]
        exact HA.out.set j hj64 (x ^^^ m)
    · obtain rfl : j = 64 := by omega
      have HE : Hid (maskOf m (k.take 64) ++ k.drop 64 = maskOf m k) := Lib.hid (by rw [List.take_of_length_le (by rw [HK.out]; exact Nat.le_refl _), List.drop_of_length_le (by rw [HK.out]; exact Nat.le_refl _), List.append_nil])
      rw [HE.out] at HA
      obtain ⟨z, hz⟩ : ∃ z, z = maskOf m k := ⟨_, rfl⟩
      rw [← hz] at HA
      have HZ := Lib.hid hz
      clear hz HE
      have HR : Hid (wr.rangeAt w.heap.size 0 (u8s z)) := Lib.hid HA.out.2.2.2.1
      have hz8 : (u8s z).length = 64 := by rw [u8s_length, HA.out.2.2.2.2.2.2]
      have HT : Hid (wr.there (w.heap.size + 1) 0 (u8s z).length) := Lib.hid (by rw [hz8]; exact HA.out.2.2.2.2.2.1)
      have HI8 : Hid ((Tryd.prog.info? 45).map (·.size) = some (u8s z).length) := Lib.hid (by rw [hz8]; exact Tryd.size45)
      clear hz8
      go_wp2_with (first
        | (refine wpList_load_mid rfl 45 (.tmp 2) rfl w.heap.size 0 rfl (u8s z) _ HR.out Tryd.underlying45 rfl HI8.out ?_)
        | (refine wpList_store_cells rfl 45 (.tmp 4) (.tmp 16) rfl (w.heap.size + 1) 0 (u8s z) rfl rfl HT.out HI8.out (u8s_one _) ?_))
      exact bodyPost_ret (ret_range (cs := u8s z) rfl rfl (World.rangeAt_setCells_same _ _ _ (u8s z) HT.out) Tryd.underlying45 rfl HI8.out) rfl ⟨by rw [HZ.out], below_setCells (by omega) _ _ _ HA.out.1⟩

/-- The bytes in which two differ, put together. -/
def unlikeTo (a b : List UInt8) : Nat → UInt8
  | 0 => 0
  | j + 1 => unlikeTo a b j ||| (a.getD j 0 ^^^ b.getD j 0)
theorem or_zero8 (a b : UInt8) : a ||| b = 0 ↔ a = 0 ∧ b = 0 := by
  constructor
  · intro h
    have h2 : a.toBitVec ||| b.toBitVec = 0#8 := by rw [← UInt8.toBitVec_or, h]; rfl
    constructor
    · apply UInt8.eq_of_toBitVec_eq
      apply BitVec.eq_of_getLsbD_eq
      intro i hi
      have := congrArg (·.getLsbD i) h2
      simp only [BitVec.getLsbD_or, BitVec.getLsbD_zero, Bool.or_eq_false_iff] at this
      rw [this.1]; simp
    · apply UInt8.eq_of_toBitVec_eq
      apply BitVec.eq_of_getLsbD_eq
      intro i hi
      have := congrArg (·.getLsbD i) h2
      simp only [BitVec.getLsbD_or, BitVec.getLsbD_zero, Bool.or_eq_false_iff] at this
      rw [this.2]; simp
  · rintro ⟨rfl, rfl⟩; rfl
theorem xor_zero8 (a b : UInt8) : a ^^^ b = 0 ↔ a = b := UInt8.xor_eq_zero_iff
theorem unlikeTo_zero (a b : List UInt8) : ∀ n, unlikeTo a b n = 0 ↔ ∀ j, j < n → a.getD j 0 = b.getD j 0
  | 0 => by simp [unlikeTo]
  | n + 1 => by
    rw [unlikeTo, or_zero8, unlikeTo_zero a b n, xor_zero8]
    constructor
    · rintro ⟨h1, h2⟩ j hj
      rcases Nat.lt_succ_iff_lt_or_eq.1 hj with h | rfl
      · exact h1 j h
      · exact h2
    · intro h
      exact ⟨fun j hj => h j (by omega), h n (by omega)⟩
theorem unlike_eq (a b : List UInt8) (ha : a.length = 32) (hb : b.length = 32) : unlikeTo a b 32 = 0 ↔ a = b := by
  rw [unlikeTo_zero]
  constructor
  · intro h
    apply List.ext_getElem (by omega)
    intro i h1 h2
    have := h i (by omega)
    simpa [List.getD_eq_getElem?_getD, h1, h2] using this
  · rintro rfl j _; rfl

/-- Two arrays of the call's own. -/
def TwoAt (a b : List UInt8) (w wr : World) : Prop := Below w.heap.size w wr ∧ wr.rangeAt w.heap.size 0 (u8s a) ∧ wr.rangeAt (w.heap.size + 1) 0 (u8s b)

set_option maxHeartbeats 400000 in
theorem same_by (a b : List UInt8) (z : Bool) (w : World) (ha : a.length = 32) (hb : b.length = 32) (hz : (((unlikeTo a b 32).toNat : Int) == 0) = z) :
    Calls Tryd.prog 17 #[.agg (u8s a).toArray, .agg (u8s b).toArray] w fun E w' => E = .returned (.bool z) ∧ Below w.heap.size w w' := by
  have HA := Lib.hid ha
  have HB := Lib.hid hb
  have HZ := Lib.hid hz
  clear ha hb hz
  go_enter Tryd.func17, Tryd.ntmps17
  go_wp2
  go_loopw [5, 7] (fun vu vi wr => ∃ j : Nat, j ≤ 32 ∧ vi = .int .i64 j ∧ vu = .int .u8 ((unlikeTo a b j).toNat : Int) ∧ Hid (TwoAt a b w wr)) (fun _ vi _ => 32 - (intOf vi).toNat)
  case atStart => exact ⟨0, by omega, rfl, rfl, Lib.hid ⟨((Below.refl _ _).alloc (Nat.le_refl _) _).alloc (by simp) _, World.rangeAt_alloc (range_new w (u8s a) _) _, range_new2 w _ (u8s b) _⟩⟩
  case round =>
    obtain ⟨j, hj, rfl, rfl, HT⟩ := hrel
    by_cases hj32 : j < 32
    · have h1 := rangeAt_u8 HT.out.2.1 j (by rw [HA.out]; exact hj32)
      have h2 := rangeAt_u8 HT.out.2.2 j (by rw [HB.out]; exact hj32)
      have HU : Hid (unlikeTo a b (j + 1) = unlikeTo a b j ||| (a.getD j 0 ^^^ b.getD j 0)) := Lib.hid rfl
      generalize a.getD j 0 = x at h1 HU
      generalize b.getD j 0 = y at h2 HU
      generalize unlikeTo a b j = u at HU
      go_wp2
      go_quiet (fail)
      go_wp2
      go_roundw
      case measure => simp [intOf]; omega
      case rel => exact ⟨j + 1, by omega, by go_num, by rw [HU.out, ← b8_or, ← b8_xor], Lib.hid ⟨below_drewN HT.out.1 _, HT.out.2⟩⟩
    · obtain rfl : j = 32 := by omega
      go_wp2
      go_ret
      exact ⟨by rw [HZ.out]; rfl, HT.out.1⟩

theorem same_yes (a : List UInt8) (w : World) (ha : a.length = 32) :
    Calls Tryd.prog 17 #[.agg (u8s a).toArray, .agg (u8s a).toArray] w fun E w' => E = .returned (.bool true) ∧ Below w.heap.size w w' :=
  same_by a a true w ha ha (by rw [(unlike_eq a a ha ha).2 rfl]; rfl)
theorem same_no (a b : List UInt8) (w : World) (ha : a.length = 32) (hb : b.length = 32) (hn : a ≠ b) :
    Calls Tryd.prog 17 #[.agg (u8s a).toArray, .agg (u8s b).toArray] w fun E w' => E = .returned (.bool false) ∧ Below w.heap.size w w' :=
  same_by a b false w ha hb (by
    have h : unlikeTo a b 32 ≠ 0 := fun e => hn ((unlike_eq a b ha hb).1 e)
    rw [beq_eq_false_iff_ne]
    intro e
    apply h
    apply UInt8.toNat_inj.1
    have : (unlikeTo a b 32).toNat = 0 := by omega
    exact this)
end Go.Proofs.YtfmmldpemdodkaaDoor
