/-
  What is proved: what spread answers. Conditions as stated.
-/
import Derived.Test.YtflbhicjaaeegaaDoorB
import Derived.Test.YtflbhicjaaeegaaDoorQT
namespace Go.Proofs.YtflbhicjaaeegaaDoor
open Go.RowKit

/-- Bytes as cells. -/
def u8s (bs : List UInt8) : List Value := bs.map fun b => Value.int .u8 (b.toNat : Int)

theorem rangeAt_u8 {w : World} {g : Nat} {b : List UInt8} (h : w.rangeAt g 0 (u8s b)) (j : Nat) (hj : j < b.length) : w.cell? ⟨g, j, none⟩ = some (.int .u8 ((b.getD j 0).toNat : Int)) := by
  have := h j (.int .u8 ((b.getD j 0).toNat : Int)) (by simp [u8s, List.getD_eq_getElem?_getD, List.getElem?_eq_getElem hj])
  rwa [Nat.zero_add] at this
theorem rangeAt_u32 {w : World} {g : Nat} {b : List UInt32} (h : w.rangeAt g 0 (u32s b)) (j : Nat) (hj : j < b.length) : w.cell? ⟨g, j, none⟩ = some (.int .u32 ((b.getD j 0).toNat : Int)) := by
  have := h j (.int .u32 ((b.getD j 0).toNat : Int)) (by simp [u32s, u32, List.getD_eq_getElem?_getD, List.getElem?_eq_getElem hj])
  rwa [Nat.zero_add] at this
theorem there_cell {w : World} {g n : Nat} (h : w.there g 0 n) (j : Nat) (hj : j < n) : w.frozen? ⟨g, j, none⟩ = false := by
  have := (h j hj).2
  rwa [Nat.zero_add] at this
theorem rangeAt_set {w : World} {g : Nat} {cs : List Value} (h : w.rangeAt g 0 cs) (k : Nat) (hk : k < cs.length) (v : Value) : (w.setCell ⟨g, k, none⟩ v).rangeAt g 0 (cs.set k v) := fun j u hu => by
  rw [Nat.zero_add]
  by_cases e : k = j
  · subst e
    rw [List.getElem?_set_self hk] at hu
    have := h k cs[k] (by simp [hk])
    rw [Nat.zero_add] at this
    rw [World.cell?_setCell_same _ _ _ this, hu]
  · rw [List.getElem?_set_ne e] at hu
    rw [World.cell?_setCell_other _ _ _ _ (by simp)]
    have := h j u hu
    rwa [Nat.zero_add] at this
theorem rangeAt_set_other {w : World} {g g' o : Nat} {cs : List Value} (h : w.rangeAt g o cs) (hg : g' ≠ g) (k : Nat) (v : Value) : (w.setCell ⟨g', k, none⟩ v).rangeAt g o cs := fun j u hu => by
  rw [World.cell?_setCell_other _ _ _ _ (by simp)]
  exact h j u hu
theorem there_set {w : World} {g g' o n : Nat} (h : w.there g o n) (k : Nat) (v : Value) : (w.setCell ⟨g', k, none⟩ v).there g o n := by
  have := World.there_setCells h g' k [v]
  exact this

/-- What lies in memory while spread runs. -/
def SpAt (b : List UInt8) (l : List UInt32) (w wr : World) : Prop :=
  Below w.heap.size w wr ∧ wr.rangeAt w.heap.size 0 (u8s b) ∧ wr.there (w.heap.size + 1) 0 64 ∧ wr.rangeAt (w.heap.size + 1 + 1) 0 (u32s l) ∧ wr.there (w.heap.size + 1 + 1) 0 64

theorem there_last (w : World) (o o' : Obj) (cs : Array Value) (t : TypeId) : (((w.alloc o).alloc o').alloc (.cells cs t)).there (w.heap.size + 1 + 1) 0 cs.size := by
  have h := there_new ((w.alloc o).alloc o') cs t
  rwa [show ((w.alloc o).alloc o').heap.size = w.heap.size + 1 + 1 by simp] at h
theorem range_last (w : World) (o o' : Obj) (cs : List Value) (t : TypeId) : (((w.alloc o).alloc o').alloc (.cells cs.toArray t)).rangeAt (w.heap.size + 1 + 1) 0 cs := by
  have h := range_new ((w.alloc o).alloc o') cs t
  rwa [show ((w.alloc o).alloc o').heap.size = w.heap.size + 1 + 1 by simp] at h

theorem SpAt.start (b : List UInt8) (w : World) (t : TypeId) : SpAt b (List.replicate 64 0) w (((w.alloc (.cells (u8s b).toArray t)).alloc (.cells (u32s (List.replicate 64 0)).toArray 42)).alloc (.cells (u32s (List.replicate 64 0)).toArray 42)) :=
  ⟨(((Below.refl _ _).alloc (Nat.le_refl _) _).alloc (by simp) _).alloc (by simp; omega) _, World.rangeAt_alloc (World.rangeAt_alloc (range_new w _ t) _) _,
    World.there_alloc (there_new2 w _ _ _) _, range_last w _ _ _ _, there_last w _ _ _ _⟩
theorem SpAt.drewN {b : List UInt8} {l : List UInt32} {w wr : World} (h : SpAt b l w wr) (q : Nat) : SpAt b l w (wr.drewN q) := ⟨below_drewN h.1 q, h.2.1, h.2.2.1, h.2.2.2.1, h.2.2.2.2⟩
theorem SpAt.set {b : List UInt8} {l : List UInt32} {w wr : World} (h : SpAt b l w wr) (k : Nat) (hk : k < l.length) (x : UInt32) :
    SpAt b (l.set k x) w (wr.setCell ⟨w.heap.size + 1 + 1, k, none⟩ (.int .u32 (x.toNat : Int))) := by
  refine ⟨h.1.setCell (by show w.heap.size ≤ w.heap.size + 1 + 1; omega) _, rangeAt_set_other h.2.1 (by omega) _ _, there_set h.2.2.1 _ _, ?_, there_set h.2.2.2.2 _ _⟩
  have := rangeAt_set h.2.2.2.1 k (by simpa [u32s] using hk) (u32 x)
  rwa [show (u32s l).set k (u32 x) = u32s (l.set k x) by simp [u32s]] at this

theorem fill_set {A : Type} (a : List A) (z x : A) (n k : Nat) (ha : a.length = k) (hk : k < n) : (a ++ List.replicate (n - k) z).set k x = (a ++ [x]) ++ List.replicate (n - (k + 1)) z := by
  subst ha
  rw [show n - a.length = (n - (a.length + 1)) + 1 by omega, List.replicate_succ, List.set_append_right _ _ (Nat.le_refl _)]
  simp
theorem words_succ (b : List UInt8) (k : Nat) : words b (k + 1) = words b k ++ [wordAt b k] := by simp [words, List.range_succ]
theorem words_length (b : List UInt8) (n : Nat) : (words b n).length = n := by simp [words]
theorem sched_length (b : List UInt8) : ∀ n, (sched b n).length = 16 + n
  | 0 => words_length b 16
  | n + 1 => by rw [sched, List.length_append, sched_length b n]; simp; omega

theorem up8 (x : UInt8) : (x.toNat : Int) % (4294967296 : Int) = (x.toUInt32.toNat : Int) := by
  have := x.toNat_lt
  rw [UInt8.toNat_toUInt32]; omega
theorem shl24 (x : UInt32) : (x.toNat : Int) * (16777216 : Int) % (4294967296 : Int) = ((x <<< 24).toNat : Int) := by
  rw [UInt32.toNat_shiftLeft, show ((24 : UInt32).toNat % 32) = 24 from rfl, Nat.shiftLeft_eq]; omega
theorem shl16 (x : UInt32) : (x.toNat : Int) * (65536 : Int) % (4294967296 : Int) = ((x <<< 16).toNat : Int) := by
  rw [UInt32.toNat_shiftLeft, show ((16 : UInt32).toNat % 32) = 16 from rfl, Nat.shiftLeft_eq]; omega
theorem shl8 (x : UInt32) : (x.toNat : Int) * (256 : Int) % (4294967296 : Int) = ((x <<< 8).toNat : Int) := by
  rw [UInt32.toNat_shiftLeft, show ((8 : UInt32).toNat % 32) = 8 from rfl, Nat.shiftLeft_eq]; omega
theorem shr3 (x : UInt32) : (x.toNat : Int) / (8 : Int) = ((x >>> 3).toNat : Int) := by
  rw [UInt32.toNat_shiftRight, show ((3 : UInt32).toNat % 32) = 3 from rfl, Nat.shiftRight_eq_div_pow]; omega
theorem shr10 (x : UInt32) : (x.toNat : Int) / (1024 : Int) = ((x >>> 10).toNat : Int) := by
  rw [UInt32.toNat_shiftRight, show ((10 : UInt32).toNat % 32) = 10 from rfl, Nat.shiftRight_eq_div_pow]; omega
theorem word_eq (a b c d : UInt8) :
    bits .or .u32 (bits .or .u32 (bits .or .u32 ((a.toNat : Int) % 4294967296 * 16777216 % 4294967296) ((b.toNat : Int) % 4294967296 * 65536 % 4294967296)) ((c.toNat : Int) % 4294967296 * 256 % 4294967296)) ((d.toNat : Int) % 4294967296) = ((word a b c d).toNat : Int) := by
  simp only [up8, shl24, shl16, shl8, b_or, word]

theorem w_eq (x16 x15 x7 x2 : UInt32) :
    ((x16.toNat : Int) + bits .xor .u32 (bits .xor .u32 ((rotr x15 7).toNat : Int) ((rotr x15 18).toNat : Int)) ((x15.toNat : Int) / 8) + (x7.toNat : Int) +
      bits .xor .u32 (bits .xor .u32 ((rotr x2 17).toNat : Int) ((rotr x2 19).toNat : Int)) ((x2.toNat : Int) / 1024)) % 4294967296 = ((x16 + s0 x15 + x7 + s1 x2).toNat : Int) := by
  simp only [shr3, shr10, b_xor, s0, s1, UInt32.toNat_add]
  omega

set_option maxHeartbeats 2000000 in
set_option maxRecDepth 100000 in
theorem spread_any (b : List UInt8) (w : World) (hb64 : b.length = 64) :
    Calls Tryd.prog 19 #[.agg (u8s b).toArray] w fun E w' => E = .returned (.agg (u32s (sched b 48)).toArray) ∧ Below w.heap.size w w' := by
  go_enter Tryd.func19, Tryd.ntmps19
  go_wp2
  go_loopw [8] (fun vi wr => ∃ k : Nat, k ≤ 16 ∧ vi = .int .i64 k ∧ Hid (SpAt b (words b k ++ List.replicate (64 - k) 0) w wr))
    (fun vi _ => 16 - (intOf vi).toNat)
  case atStart => exact ⟨0, by omega, rfl, Lib.hid (SpAt.start b w 24)⟩
  case round =>
    obtain ⟨k, hk, rfl, HA⟩ := hrel
    by_cases hk16 : k < 16
    · have h0 := rangeAt_u8 HA.out.2.1 (4 * k) (by omega)
      have h1 := rangeAt_u8 HA.out.2.1 (4 * k + 1) (by omega)
      have h2 := rangeAt_u8 HA.out.2.1 (4 * k + 2) (by omega)
      have h3 := rangeAt_u8 HA.out.2.1 (4 * k + 3) (by omega)
      have hs := rangeAt_u32 HA.out.2.2.2.1 k (by simp [words_length]; omega)
      have hf := there_cell HA.out.2.2.2.2 k (by omega)
      obtain ⟨x, hx⟩ : ∃ x, x = wordAt b k := ⟨_, rfl⟩
      have HX := Lib.hid (show x = word (b.getD (4 * k) 0) (b.getD (4 * k + 1) 0) (b.getD (4 * k + 2) 0) (b.getD (4 * k + 3) 0) from hx)
      have HX2 := Lib.hid hx
      clear hx
      generalize (words b k ++ List.replicate (64 - k) 0).getD k 0 = old at hs
      generalize b.getD (4 * k) 0 = x0 at h0 HX
      generalize b.getD (4 * k + 1) 0 = x1 at h1 HX
      generalize b.getD (4 * k + 2) 0 = x2 at h2 HX
      generalize b.getD (4 * k + 3) 0 = x3 at h3 HX
      go_wp2
      go_region
      go_wp2
      go_roundw
      case measure => simp [intOf]; omega
      case rel =>
        refine ⟨k + 1, by omega, by go_num, Lib.hid ?_⟩
        rw [word_eq, ← HX.out]
        have := (HA.out.set k (by simp [words_length]; omega) x).drewN 1
        rw [fill_set _ _ _ 64 k (words_length b k) (by omega), show words b k ++ [x] = words b (k + 1) by rw [HX2.out, words_succ]] at this
        exact this
    · obtain rfl : k = 16 := by omega
      go_wp2
      go_loopw [5] (fun vi wr => ∃ m : Nat, 16 ≤ m ∧ m ≤ 64 ∧ vi = .int .i64 m ∧ Hid (SpAt b (sched b (m - 16) ++ List.replicate (64 - m) 0) w wr))
        (fun vi _ => 64 - (intOf vi).toNat)
      case atStart => exact ⟨16, by omega, by omega, rfl, HA⟩
      case round =>
        clear HA
        obtain ⟨m, hm16, hm, rfl, HA⟩ := hrel
        by_cases hm64 : m < 64
        · obtain ⟨l, hl⟩ : ∃ l, l = sched b (m - 16) := ⟨_, rfl⟩
          have hll : l.length = m := by rw [hl, sched_length]; omega
          rw [← hl] at HA
          have hg : ∀ j, j < m → (l ++ List.replicate (64 - m) 0).getD j 0 = l.getD j 0 := fun j hj => by
            rw [List.getD_eq_getElem?_getD, List.getD_eq_getElem?_getD, List.getElem?_append_left (by omega)]
          have h15 := rangeAt_u32 HA.out.2.2.2.1 (m - 15) (by simp [hll]; omega)
          have h2 := rangeAt_u32 HA.out.2.2.2.1 (m - 2) (by simp [hll]; omega)
          have h16 := rangeAt_u32 HA.out.2.2.2.1 (m - 16) (by simp [hll]; omega)
          have h7 := rangeAt_u32 HA.out.2.2.2.1 (m - 7) (by simp [hll]; omega)
          have hs := rangeAt_u32 HA.out.2.2.2.1 m (by simp [hll]; omega)
          have hf := there_cell HA.out.2.2.2.2 m (by omega)
          rw [hg _ (by omega)] at h15 h2 h16 h7
          clear hg
          obtain ⟨x, hx⟩ : ∃ x, x = nextW l (m - 16) := ⟨_, rfl⟩
          have HX := Lib.hid (show x = l.getD (m - 16) 0 + s0 (l.getD (m - 15) 0) + l.getD (m - 7) 0 + s1 (l.getD (m - 2) 0) by
            rw [hx, nextW, show m - 16 + 1 = m - 15 by omega, show m - 16 + 9 = m - 7 by omega, show m - 16 + 14 = m - 2 by omega])
          have HX2 := Lib.hid hx
          have HL := Lib.hid hl
          have HLL := Lib.hid hll
          clear hx hl hll
          generalize (l ++ List.replicate (64 - m) 0).getD m 0 = old at hs
          generalize l.getD (m - 15) 0 = x15 at h15 HX
          generalize l.getD (m - 2) 0 = x2 at h2 HX
          generalize l.getD (m - 16) 0 = x16 at h16 HX
          generalize l.getD (m - 7) 0 = x7 at h7 HX
          go_wp2
          go_quiet (fail)
          go_wp2
          refine wp_region_quiet_tail 29 (by kernel_rfl) (by kernel_rfl) ?_
          simp only [List.take_succ_cons, List.take_zero, List.drop_succ_cons, List.drop_zero]
          repeat (first
            | go_big_quiet_skip
            | (go_big_quiet_want; go_big_quiet_op; first
                | go_big_quiet_on
                | (apply Exists.intro
                   refine ⟨?_, ?_⟩
                   · (go_at_call 28; exact (right_all _ _ _ (by decide)).mono fun _ _ h => ⟨h.1, h.2.symm⟩)
                   go_big_quiet_on)))
          refine wpQuiet_nil ?_
          go_wp2
          go_roundw
          case measure => simp [intOf]; omega
          case rel =>
            refine ⟨m + 1, by omega, by omega, by go_num, Lib.hid ?_⟩
            simp only [rotI7, rotI17, rotI18, rotI19, w_eq]
            rw [← HX.out]
            have := (HA.out.drewN (nq + 1)).set m (by simp [HLL.out]; omega) x
            rw [fill_set _ _ _ 64 m HLL.out hm64, show l ++ [x] = sched b (m + 1 - 16) by rw [show m + 1 - 16 = m - 16 + 1 by omega, sched, ← HL.out, HX2.out]] at this
            exact this
        · obtain rfl : m = 64 := by omega
          have HR : Hid (wr.rangeAt (w.heap.size + 1 + 1) 0 (u32s (sched b 48))) := Lib.hid (by simpa using HA.out.2.2.2.1)
          have hln : (u32s (sched b 48)).length = 64 := by rw [u32s_length, sched_length]
          have HT : Hid (wr.there (w.heap.size + 1) 0 (u32s (sched b 48)).length) := Lib.hid (by rw [hln]; exact HA.out.2.2.1)
          have HI : Hid ((Tryd.prog.info? 42).map (·.size) = some (u32s (sched b 48)).length) := Lib.hid (by rw [hln]; exact Tryd.size42)
          clear hln
          go_wp2_with (first
            | (refine wpList_load_mid rfl 42 (.tmp 3) rfl (w.heap.size + 1 + 1) 0 rfl (u32s (sched b 48)) _ HR.out Tryd.underlying42 rfl HI.out ?_)
            | (refine wpList_store_cells rfl 42 (.tmp 2) (.tmp 84) rfl (w.heap.size + 1) 0 (u32s (sched b 48)) rfl rfl HT.out HI.out (u32s_one _) ?_))
          exact bodyPost_ret (ret_range (cs := u32s (sched b 48)) rfl rfl (World.rangeAt_setCells_same _ _ _ (u32s (sched b 48)) HT.out) Tryd.underlying42 rfl HI.out) rfl ⟨rfl, below_setCells (Nat.le_succ _) _ _ _ HA.out.1⟩
end Go.Proofs.YtflbhicjaaeegaaDoor
