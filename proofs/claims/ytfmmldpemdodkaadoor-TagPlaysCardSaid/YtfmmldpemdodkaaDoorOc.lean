/-
  What is proved: what octet's Word puts, the program's and the document's. Conditions as stated.
-/
import Derived.Test.YtfmmldpemdodkaaDoorU
import Derived.Laws.CopyOwn
import Derived.Lib.Hide
import Derived.IntWalk
import Derived.Deep.DeepMust
import Derived.WalkSpells
import Derived.WalkLawsBesides
namespace Go.Proofs.YtfmmldpemdodkaaDoor
open Go.RowKit

/-- Byte i of a number of so many bytes, the highest one first. -/
def beAt (size n i : Nat) : UInt8 := UInt8.ofNat (n / 256 ^ (size - 1 - i))

/-- The first k bytes of a number of so many bytes. -/
def beTake (size n k : Nat) : List UInt8 := (List.range k).map (beAt size n)

/-- A number in so many bytes. -/
def be (size n : Nat) : List UInt8 := beTake size n size

theorem u8s_append (a b : List UInt8) : u8s (a ++ b) = u8s a ++ u8s b := by simp [u8s]
theorem beTake_length (size n k : Nat) : (beTake size n k).length = k := by simp [beTake]
theorem be_length (size n : Nat) : (be size n).length = size := beTake_length _ _ _
theorem beTake_zero (size n : Nat) : beTake size n 0 = [] := rfl
theorem beTake_succ (size n k : Nat) : beTake size n (k + 1) = beTake size n k ++ [beAt size n k] := by
  simp [beTake, List.range_succ]
theorem beAt_toNat (size n i : Nat) : ((beAt size n i).toNat : Int) = ((n / 256 ^ (size - 1 - i) % 256 : Nat) : Int) := by
  simp [beAt]
theorem be_cell (size n k : Nat) : ((n : Int) / 2 ^ (8 * (size - 1 - k)) % 256) = ((beAt size n k).toNat : Int) := by
  rw [beAt_toNat]
  have : (2 : Nat) ^ (8 * (size - 1 - k)) = 256 ^ (size - 1 - k) := by rw [Nat.pow_mul]
  rw [← this]
  simp only [Int.natCast_emod, Int.natCast_ediv, Int.natCast_pow]
  rfl

set_option maxRecDepth 1000000 in
theorem len64_max (w : World) : Calls Tryd.prog 45 #[.int .u64 18446744073709551615] w fun e w' => e = .returned (.int .i64 64) ∧ w = w' := by
  go_enter Tryd.func45, Tryd.ntmps45
  go_wp2
  go_ret
  exact ⟨by kernel_rfl, rfl⟩

theorem w8_any (w : World) : Calls Tryd.prog 40 #[] w fun e w' => e = .returned (.int .i64 8) ∧ w = w' := by
  go_enter Tryd.func40, Tryd.ntmps40
  go_wp2_with (go_at_call 45; refine (len64_max _).mono ?_; rintro e w' ⟨rfl, rfl⟩)
  go_ret
  exact ⟨rfl, rfl⟩

/-- make with a length and a capacity, of bytes. -/
theorem wpList_make_lc (w : World) {ops : Array Oper} {rest : List Oper} {o : Oper} {a : Act} {Q : Exit → Act → World → Prop}
    (hg : o.guard = none) (l c : Operand) (hop : o.op = Op.makeSlice 22 l c)
    (L C : Int) (n m : Nat) (hl : a.eval l = .int .i64 L) (hc : a.eval c = .int .i64 C) (hL : L = (n : Int)) (hC : C = (m : Int)) (hnm : n ≤ m) (hm : m ≤ 281474976710656)
    (hK : ∀ w', Hid (w'.heap[w.heap.size]? = some (.cells (List.replicate m (Value.int .u8 0)).toArray 5 (0, 0))) → Below w.heap.size w w' → w.heap.size < w'.heap.size → wpList Tryd.prog ops Q rest (a.put o.dst (.slice (some ⟨w.heap.size, 0, none⟩) n m)) w') :
    wpList Tryd.prog ops Q (o :: rest) a w := by
  obtain ⟨i0, hi, hz0, hz1, hz2⟩ := info_parts Tryd.info5
  refine wpList_plain hg fun K hK' => ?_
  have hrun := run_make (P := Tryd.prog) w 22 5 i0 (.int .u8 0) Tryd.underlying22 hi hz0 .i64 .i64 n m (by omega) (by omega) (by rw [hz2]; omega) (by omega)
  subst hL hC
  unfold Oper.wp
  simp [execOp, hop, hl, hc, hrun, Result.andThen]
  refine hK' _ _ (hK _ ?_ ((Below.refl _ _).alloc (Nat.le_refl _) _) (by simp))
  show _ = _
  rw [heap_alloc_new, hz1]
  congr 2
  rw [Nat.mul_one]
  exact Array.toList_inj.1 (by rw [show (Value.int IntKind.u8 0).cells = #[Value.int .u8 0] from rfl, toList_madeCells_one])

theorem copy_put {w : World} {cap n : Nat} {bs : List UInt8} {g : Nat} (hn : bs.length = n) (hcap : n ≤ cap) (hm : cap ≤ maxLen) {B : Nat} (hB : B ≤ g)
    (h : w.heap[g]? = some (.cells (splice (List.replicate cap (Value.int .u8 0)) 0 (u8s bs)).toArray 5 (0, 0))) :
    w.ownsRow B 5 1 (.slice (some ⟨g, 0, none⟩) n cap) n (u8s bs) := by
  refine ⟨by rw [u8s_length]; omega, .inr ⟨g, cap, _, rfl, hB, h, hcap, hm, ?_, ?_⟩⟩
  · rw [List.size_toArray, length_splice]
    · simp
    · simp [u8s_length]; omega
  · have : (u8s bs).length = n := by rw [u8s_length]; exact hn
    simp only [splice, List.take_zero, List.nil_append, Nat.mul_one, ← this]
    exact List.take_left

/-- copy of what came in to the head of a row just made. -/
theorem wpList_copy_in {Pr : Nat → Prop} {w w1 : World} {ops : Array Oper} {rest : List Oper} {o : Oper} {a : Act} {Q : Exit → Act → World → Prop} (hgd : o.guard = none) (d s : Operand)
    (ho : o.op = .call { callee := .builtin .copy, args := #[d, s], argTypes := #[22, 22] })
    (A : Option Addr) (n c cap : Nat) (bs : List UInt8) (hd : a.eval d = .slice (some ⟨w.heap.size, 0, none⟩) n cap) (hs : a.eval s = .slice A n c)
    (hr : Rd Pr w A n bs) (hb : Below w.heap.size w w1) (hcap : n ≤ cap) (hm : cap ≤ maxLen)
    (hg : Hid (w1.heap[w.heap.size]? = some (.cells (List.replicate cap (Value.int .u8 0)).toArray 5 (0, 0))))
    (h : ∀ w', w'.ownsRow w.heap.size 5 1 (.slice (some ⟨w.heap.size, 0, none⟩) n cap) n (u8s bs) → Below w.heap.size w w' → wpList Tryd.prog ops Q rest (a.put o.dst (goInt n)) w') :
    wpList Tryd.prog ops Q (o :: rest) a w1 := by
  have hl : (u8s bs).length = n := by rw [u8s_length]; exact hr.1
  refine wpList_copy_splice hgd d s 22 22 ho 5 Tryd.underlying22 Tryd.size5 _ _ n cap n c hd hs w.heap.size 0 _ 5 hg.out (u8s bs) (by rw [hl]; exact (Nat.min_self n).symm)
    (fun hp => ⟨rfl, (hr.below hb fun _ h _ => h).src hp⟩) (by simp; omega) (u8s_one bs) w.heap.size w hb (Nat.le_refl _) ?_
  intro w' hw' hb'
  rw [hl]
  exact h w' (copy_put hr.1 hcap hm (Nat.le_refl _) hw'.out) hb'

/-- append of one byte that fits. -/
theorem wpList_append_byte {w wr : World} {ops : Array Oper} {rest : List Oper} {o : Oper} {a : Act} {Q : Exit → Act → World → Prop} (hgd : o.guard = none) (s x : Operand)
    (ho : o.op = Op.call { callee := Callee.builtin Builtin.append, args := #[s, x], argTypes := #[22, 22] })
    (B g n cap : Nat) (bs : List UInt8) (z : Int) (u : UInt8) (hs : a.eval s = .slice (some ⟨g, 0, none⟩) n cap) (hx : a.eval x = .slice (some ⟨wr.heap.size, 0, none⟩) 1 1)
    (hown : Hid (wr.ownsRow B 5 1 (.slice (some ⟨g, 0, none⟩) n cap) n (u8s bs))) (hb : Below B w wr) (hBg : B ≤ g) (hB : B ≤ wr.heap.size) (hz : z = (u.toNat : Int)) (hfit : n + 1 ≤ cap)
    (h : ∀ w', Hid (w'.ownsRow B 5 1 (.slice (some ⟨g, 0, none⟩) (n + 1) cap) (n + 1) (u8s (bs ++ [u]))) → Below B w w' → wpList Tryd.prog ops Q rest (a.put o.dst (.slice (some ⟨g, 0, none⟩) (n + 1) cap)) w') :
    wpList Tryd.prog ops Q (o :: rest) a (wr.alloc (.cells #[.int .u8 z] 5)) := by
  obtain ⟨i0, hi, hz0, hz1, hz2⟩ := info_parts Tryd.info5
  refine wpList_append_fits _ hgd s x 22 ho B 5 i0 1 Tryd.underlying22 hi hz1 g n cap _ hs (hown.out.alloc _) ⟨wr.heap.size, 0, none⟩ 1 1 [.int .u8 z] hx rfl (cell_one_new _ _ _) (by intro v hv; simp at hv; subst hv; rfl) hfit ?_
  intro w' hown' hg'
  subst hz
  refine h w' ?_ ((hb.alloc hB _).grown hg' (by simp; omega) (fun k hk => by cases hk; exact hBg))
  rw [u8s_append]
  exact hown'

set_option maxHeartbeats 400000 in
theorem put64_any {Pr : Nat → Prop} (A : Option Addr) (n c : Nat) (bs : List UInt8) (num : Nat) (w : World) (hr : Rd Pr w A n bs) (hn : n ≤ 140737488355328) :
    Calls Tryd.prog 29 #[.slice A n c, .int .u64 num] w fun e w' => e = .returned (.slice (some ⟨w.heap.size, 0, none⟩) (n + 8) (n + 8)) ∧
      w'.ownsRow w.heap.size 5 1 (.slice (some ⟨w.heap.size, 0, none⟩) (n + 8) (n + 8)) (n + 8) (u8s (bs ++ be 8 num)) ∧ Below w.heap.size w w' := by
  have HR := Lib.hid hr
  clear hr
  go_enter Tryd.func29, Tryd.ntmps29
  go_wp2_with (first
    | (go_at_call 40; refine (w8_any _).mono ?_; rintro e w' ⟨rfl, rfl⟩)
    | (at_make; go_must (refine wpList_make_lc _ rfl _ _ rfl _ _ n (n + 8) rfl rfl (by omega) (by omega) (by omega) (by omega) ?_); intro w1 hw1 hb1 hs1)
    | (refine wpList_copy_in (w := w) rfl (.tmp 16) (.tmp 17) rfl A n c (n + 8) bs rfl rfl HR.out hb1 (by omega) (by unfold maxLen; omega) hw1 ?_; intro w2 hw2 hb2; clear hw1 hb1 hs1)
    | fail)
  have HO := Lib.hid hw2
  clear hw2
  go_loopw [6, 20] (fun v i wr => ∃ k : Nat, k ≤ 8 ∧ i = .int .i64 k ∧ v = .slice (some ⟨w.heap.size, 0, none⟩) (n + k) (n + 8) ∧
      Hid (wr.ownsRow w.heap.size 5 1 (.slice (some ⟨w.heap.size, 0, none⟩) (n + k) (n + 8)) (n + k) (u8s (bs ++ beTake 8 num k))) ∧ Below w.heap.size w wr)
    (fun _ i _ => 8 - (intOf i).toNat)
  case atStart => exact ⟨0, by omega, rfl, rfl, by simpa [beTake] using HO, hb2⟩
  case round =>
    obtain ⟨k, hk, rfl, rfl, HW, hb⟩ := hrel
    by_cases hk8 : k < 8
    · go_wp2_with (at_builtin; go_must (refine wpList_append_byte (w := w) rfl (.tmp 23) (.tmp 32) rfl w.heap.size w.heap.size (n + k) (n + 8) _ _ (beAt 8 num k) rfl rfl HW hb (Nat.le_refl _) hb.size (be_cell 8 num k) (by omega) ?_); intro w3 HW3 hb3)
      go_roundw
      case rel => exact ⟨k + 1, by omega, by go_num, rfl, by rw [beTake_succ, ← List.append_assoc]; exact HW3, hb3⟩
      case measure => simp [intOf]; omega
    · obtain rfl : k = 8 := by omega
      go_wp2
      go_ret
      exact ⟨rfl, HW.out, hb⟩

theorem word_any {Pr : Nat → Prop} (A : Option Addr) (n c : Nat) (bs : List UInt8) (num : Nat) (w : World) (hr : Rd Pr w A n bs) (hn : n ≤ 140737488355328) :
    Calls Tryd.prog 19 #[.slice A n c, .int .u64 num] w fun e w' => ∃ g c', e = .returned (.slice (some ⟨g, 0, none⟩) (n + 8) c') ∧ w'.ownsRow w.heap.size 5 1 (.slice (some ⟨g, 0, none⟩) (n + 8) c') (n + 8) (u8s (bs ++ be 8 num)) ∧ Below w.heap.size w w' := by
  go_enter Tryd.func19, Tryd.ntmps19
  go_wp2_with (go_at_call 29; refine (put64_any A n c bs num w hr hn).mono ?_; rintro e w' ⟨rfl, ho, hb⟩)
  go_ret
  exact ⟨_, _, rfl, ho, hb⟩

set_option maxHeartbeats 400000 in
theorem refPut_any {Pr : Nat → Prop} (A : Option Addr) (n c : Nat) (bs : List UInt8) (num size : Nat) (w : World) (hr : Rd Pr w A n bs) (hsl : Sl A n c) (hn : n ≤ 140737488300000) (hs : size ≤ 8) :
    Calls Tryd.prog 35 #[.slice A n c, .int .u64 num, .int .i64 size] w fun e w' => ∃ A' c', e = .returned (.slice A' (n + size) c') ∧
      Hid (w'.ownsRow w.heap.size 5 1 (.slice A' (n + size) c') (n + size) (u8s (bs ++ be size num)) ∧ Sl A' (n + size) c') ∧ Below w.heap.size w w' := by
  have HR := Lib.hid hr
  have HSL : Hid (Sl A n c) := hsl
  clear hr hsl
  go_enter Tryd.func35, Tryd.ntmps35
  go_wp2_with (at_builtin; go_must (refine wpList_append_rd (w0 := w) rfl (.tmp 9) (.tmp 10) rfl w.heap.size 0 n c _ A [] bs rfl rfl (World.ownsRow_lit w #[] 0 (Nat.le_refl _) (Nat.zero_le _) rfl) (HR.out.below ((Below.refl _ _).alloc (Nat.le_refl _) _) (fun _ h _ => h)) HSL.out ((Below.refl _ _).alloc (Nat.le_refl _) _) (by simp) (by omega) ?_); intro A1 c1 w1 h1 hb1; rw [Nat.zero_add, List.nil_append] at h1; rw [Nat.zero_add])
  go_loopw [7, 8] (fun v i wr => ∃ (j : Nat) (z : Int) (A2 : Option Addr) (c2 : Nat), j ≤ size ∧ i = .int .i64 z ∧ z = (j : Int) - 1 ∧ v = .slice A2 (n + (size - j)) c2 ∧
      Hid (wr.ownsRow w.heap.size 5 1 (.slice A2 (n + (size - j)) c2) (n + (size - j)) (u8s (bs ++ beTake size num (size - j))) ∧ Sl A2 (n + (size - j)) c2) ∧ Below w.heap.size w wr)
    (fun _ i _ => (intOf i + 1).toNat)
  case atStart => exact ⟨size, _, A1, c1, Nat.le_refl _, rfl, rfl, by rw [Nat.sub_self]; rfl, by rw [Nat.sub_self]; simpa [beTake] using h1, hb1⟩
  case round =>
    obtain ⟨j, z, A2, c2, hj, rfl, hz, rfl, HW, hb⟩ := hrel
    by_cases h0 : j = 0
    · subst h0
      obtain rfl : z = -1 := by omega
      clear hz hj
      go_wp2
      go_ret
      exact ⟨A2, c2, rfl, HW, hb⟩
    · obtain ⟨t, rfl⟩ : ∃ t, j = t + 1 := ⟨j - 1, by omega⟩
      obtain rfl : z = (t : Int) := by omega
      obtain ⟨k, hk, hkk⟩ : ∃ k, k = size - (t + 1) ∧ t = size - 1 - k := ⟨_, rfl, by omega⟩
      rw [← hk] at HW ⊢
      have HK := Lib.hid hk
      have HKK := Lib.hid hkk
      clear hz h0 hk hkk
      have hk8 : n + k ≤ 140737488300008 := by have := HK.out; omega
      have ht : t < 8 := by omega
      have hbc : (num : Int) / 2 ^ (8 * t) % 256 = ((beAt size num k).toNat : Int) := by rw [HKK.out]; exact be_cell size num k
      have HBC := Lib.hid hbc
      clear hbc
      go_wp2_with (at_builtin; go_must (refine wpList_append_byte_own (w0 := w) rfl (.tmp 18) (.tmp 25) rfl w.heap.size (n + k) _ (bs ++ beTake size num k) _ (beAt size num k) rfl rfl HW.out.1 hb hb.size HBC.out (by omega) ?_); intro A3 c3 w3 HW3 hb3)
      go_roundw
      case rel => exact ⟨t, (t : Int) - 1, A3, c3, by omega, by go_num, rfl, by rw [show size - t = k + 1 by have := HK.out; omega]; rfl, by rw [show size - t = k + 1 by have := HK.out; omega, beTake_succ, ← List.append_assoc]; exact HW3, hb3⟩
      case measure => simp [intOf]

theorem refWord_any {Pr : Nat → Prop} (A : Option Addr) (n c : Nat) (bs : List UInt8) (num : Nat) (w : World) (hr : Rd Pr w A n bs) (hsl : Sl A n c) (hn : n ≤ 140737488300000) :
    Calls Tryd.prog 25 #[.slice A n c, .int .u64 num] w fun e w' => ∃ A' c', e = .returned (.slice A' (n + 8) c') ∧ Hid (w'.ownsRow w.heap.size 5 1 (.slice A' (n + 8) c') (n + 8) (u8s (bs ++ be 8 num)) ∧ Sl A' (n + 8) c') ∧ Below w.heap.size w w' := by
  go_enter Tryd.func25, Tryd.ntmps25
  go_wp2_with (go_at_call 35; go_must (refine (refPut_any A n c bs num 8 w hr hsl hn (by omega)).mono ?_); rintro e w' ⟨A', c', rfl, ho, hb⟩)
  go_ret
  exact ⟨_, _, rfl, ho, hb⟩

end Go.Proofs.YtfmmldpemdodkaaDoor
