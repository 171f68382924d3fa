/- Laws and walks. -/
import Derived.Test.YtknpcmadghkaaaaGreatDoorS5w
import Derived.Laws.CopyOwn
import Derived.Lib.Hide
import Derived.IntWalk
import Derived.Deep.DeepMust
import Derived.WalkSpells
import Derived.WalkLawsBesides
set_option maxHeartbeats 16000000
set_option maxRecDepth 100000

namespace Go.Proofs.YtknpcmadghkaaaaGreatDoor.Sh
open Go.RowKit
def beAt (size n i : Nat) : UInt8 := UInt8.ofNat (n / 256 ^ (size - 1 - i))
def beTake (size n k : Nat) : List UInt8 := (List.range k).map (beAt size n)
def be (size n : Nat) : List UInt8 := beTake size n size
theorem u8s_append (a b : List UInt8) : u8s (a ++ b) = u8s a ++ u8s b := by simp [u8s]
theorem beTake_length (size n k : Nat) : (beTake size n k).length = k := by simp [beTake]
theorem be_length (size n : Nat) : (be size n).length = size := beTake_length _ _ _
theorem beTake_succ (size n k : Nat) : beTake size n (k + 1) = beTake size n k ++ [beAt size n k] := by
 simp [beTake, List.range_succ]
theorem beAt_toNat (size n i : Nat) : ((beAt size n i).toNat : Int) = ((n / 256 ^ (size - 1 - i) % 256 : Nat) : Int) := by
 simp [beAt]
theorem be_cell (size n k : Nat) : ((n : Int) / 2 ^ (8 * (size - 1 - k)) % 256) = ((beAt size n k).toNat : Int) := by
 rw [beAt_toNat]
 have : (2 : Nat) ^ (8 * (size - 1 - k)) = 256 ^ (size - 1 - k) := by rw [Nat.pow_mul]
 rw [<- this]
 simp only [Int.natCast_emod, Int.natCast_ediv, Int.natCast_pow]
 rfl
theorem len64_max (w : World) : Calls Tryz.prog 145 #[.int .u64 18446744073709551615] w fun e w' => e = .returned (.int .i64 64) /\ w = w' := by
 go_enter Tryz.func145, Tryz.ntmps145
 go_wp2
 go_ret
 exact ⟨by kernel_rfl, rfl⟩
theorem w8_any (w : World) : Calls Tryz.prog 178 #[] w fun e w' => e = .returned (.int .i64 8) /\ w = w' := by
 go_enter Tryz.func178, Tryz.ntmps178
 go_wp2_with (go_at_call 145; refine (len64_max _).mono ?_; rintro e w' ⟨rfl, rfl⟩)
 go_ret
 exact ⟨rfl, rfl⟩
theorem wpList_make_lc (w : World) {ops : Array Oper} {rest : List Oper} {o : Oper} {a : Act} {Q : Exit -> Act -> World -> Prop}
  (hg : o.guard = none) (l c : Operand) (hop : o.op = Op.makeSlice 23 l c)
  (L C : Int) (n m : Nat) (hl : a.eval l = .int .i64 L) (hc : a.eval c = .int .i64 C) (hL : L = (n : Int)) (hC : C = (m : Int)) (hnm : n <= m) (hm : m <= 281474976710656)
  (hK : ∀ w', Hid (w'.heap[w.heap.size]? = some (.cells (List.replicate m (Value.int .u8 0)).toArray 5 (0, 0))) -> Below w.heap.size w w' -> w.heap.size < w'.heap.size -> wpList Tryz.prog ops Q rest (a.put o.dst (.slice (some ⟨w.heap.size, 0, none⟩) n m)) w') :
  wpList Tryz.prog ops Q (o :: rest) a w := by
 obtain ⟨i0, hi, hz0, hz1, hz2⟩ := info_parts Tryz.info5
 refine wpList_plain hg fun K hK' => ?_
 have hrun := run_make (P := Tryz.prog) w 23 5 i0 (.int .u8 0) Tryz.underlying23 hi hz0 .i64 .i64 n m (by omega) (by omega) (by rw [hz2]; omega) (by omega)
 subst hL hC
 unfold Oper.wp
 simp [execOp, hop, hl, hc, hrun, Result.andThen]
 refine hK' _ _ (hK _ ?_ (bl.alloc (Nat.le_refl _) _) (by simp))
 show _ = _
 rw [heap_alloc_new, hz1]
 congr 2
 rw [Nat.mul_one]
 exact Array.toList_inj.1 (by rw [show (Value.int IntKind.u8 0).cells = #[Value.int .u8 0] from rfl, toList_madeCells_one])
theorem copy_put {w : World} {cap n : Nat} {bs : List UInt8} {g : Nat} (hn : bs.length = n) (hcap : n <= cap) (hm : cap <= maxLen) {B : Nat} (hB : B <= g)
  (h : w.heap[g]? = some (.cells (splice (List.replicate cap (Value.int .u8 0)) 0 (u8s bs)).toArray 5 (0, 0))) :
  w.ownsRow B 5 1 (.slice (some ⟨g, 0, none⟩) n cap) n (u8s bs) := by
 refine ⟨by rw [u8s_length]; omega, .inr ⟨g, cap, _, rfl, hB, h, hcap, hm, ?_, ?_⟩⟩
 ·rw [List.size_toArray, length_splice]
  ·simp
  ·simp [u8s_length]; omega
 ·have : (u8s bs).length = n := by rw [u8s_length]; exact hn
  simp only [splice, List.take_zero, List.nil_append, Nat.mul_one, <- this]
  exact List.take_left
theorem wpList_copy_in {Pr : Nat -> Prop} {w w1 : World} {ops : Array Oper} {rest : List Oper} {o : Oper} {a : Act} {Q : Exit -> Act -> World -> Prop} (hgd : o.guard = none) (d s : Operand)
  (ho : o.op = .call { callee := .builtin .copy, args := #[d, s], argTypes := #[23, 23] })
  (A : Option Addr) (n c cap : Nat) (bs : List UInt8) (hd : a.eval d = .slice (some ⟨w.heap.size, 0, none⟩) n cap) (hs : a.eval s = .slice A n c)
  (hr : Rd Pr w A n bs) (hb : Below w.heap.size w w1) (hcap : n <= cap) (hm : cap <= maxLen)
  (hg : Hid (w1.heap[w.heap.size]? = some (.cells (List.replicate cap (Value.int .u8 0)).toArray 5 (0, 0))))
  (h : ∀ w', w'.ownsRow w.heap.size 5 1 (.slice (some ⟨w.heap.size, 0, none⟩) n cap) n (u8s bs) -> Below w.heap.size w w' -> wpList Tryz.prog ops Q rest (a.put o.dst (goInt n)) w') :
  wpList Tryz.prog ops Q (o :: rest) a w1 := by
 have hl : (u8s bs).length = n := by rw [u8s_length]; exact hr.1
 refine wpList_copy_splice hgd d s 23 23 ho 5 Tryz.underlying23 Tryz.size5 _ _ n cap n c hd hs w.heap.size 0 _ 5 hg.out (u8s bs) (by rw [hl]; exact (Nat.min_self n).symm)
  (fun hp => ⟨rfl, (hr.below hb fun _ h _ => h).src hp⟩) (by simp; omega) (u8s_one bs) w.heap.size w hb (Nat.le_refl _) ?_
 intro w' hw' hb'
 rw [hl]
 exact h w' (copy_put hr.1 hcap hm (Nat.le_refl _) hw'.out) hb'
theorem wpList_append_byte {w wr : World} {ops : Array Oper} {rest : List Oper} {o : Oper} {a : Act} {Q : Exit -> Act -> World -> Prop} (hgd : o.guard = none) (s x : Operand)
  (ho : o.op = Op.call { callee := Callee.builtin Builtin.append, args := #[s, x], argTypes := #[23, 23] })
  (B g n cap : Nat) (bs : List UInt8) (z : Int) (u : UInt8) (hs : a.eval s = .slice (some ⟨g, 0, none⟩) n cap) (hx : a.eval x = .slice (some ⟨wr.heap.size, 0, none⟩) 1 1)
  (hown : Hid (wr.ownsRow B 5 1 (.slice (some ⟨g, 0, none⟩) n cap) n (u8s bs))) (hb : Below B w wr) (hBg : B <= g) (hB : B <= wr.heap.size) (hz : z = (u.toNat : Int)) (hfit : n + 1 <= cap)
  (h : ∀ w', Hid (w'.ownsRow B 5 1 (.slice (some ⟨g, 0, none⟩) (n + 1) cap) (n + 1) (u8s (bs ++ [u]))) -> Below B w w' -> wpList Tryz.prog ops Q rest (a.put o.dst (.slice (some ⟨g, 0, none⟩) (n + 1) cap)) w') :
  wpList Tryz.prog ops Q (o :: rest) a (wr.alloc (.cells #[.int .u8 z] 5)) := by
 obtain ⟨i0, hi, hz0, hz1, hz2⟩ := info_parts Tryz.info5
 refine wpList_append_fits _ hgd s x 23 ho B 5 i0 1 Tryz.underlying23 hi hz1 g n cap _ hs (hown.out.alloc _) ⟨wr.heap.size, 0, none⟩ 1 1 [.int .u8 z] hx rfl (cell_one_new _ _ _) (by intro v hv; simp at hv; subst hv; rfl) hfit ?_
 intro w' hown' hg'
 subst hz
 refine h w' ?_ ((hb.alloc hB _).grown hg' (by simp; omega) (fun k hk => by cases hk; exact hBg))
 rw [u8s_append]
 exact hown'
theorem put64_any {Pr : Nat -> Prop} (A : Option Addr) (n c : Nat) (bs : List UInt8) (num : Nat) (w : World) (hr : Rd Pr w A n bs) (hn : n <= 140737488355328) :
  Calls Tryz.prog 173 #[.slice A n c, .int .u64 num] w fun e w' => e = .returned (.slice (some ⟨w.heap.size, 0, none⟩) (n + 8) (n + 8)) /\
   w'.ownsRow w.heap.size 5 1 (.slice (some ⟨w.heap.size, 0, none⟩) (n + 8) (n + 8)) (n + 8) (u8s (bs ++ be 8 num)) /\ Below w.heap.size w w' := by
 have HR := iq hr
 clear hr
 go_enter Tryz.func173, Tryz.ntmps173
 go_wp2_with (first
  | (go_at_call 178; refine (w8_any _).mono ?_; rintro e w' ⟨rfl, rfl⟩)
  | (at_make; go_must (refine wpList_make_lc _ rfl _ _ rfl _ _ n (n + 8) rfl rfl (by omega) (by omega) (by omega) (by omega) ?_); intro w1 hw1 hb1 hs1)
  | (refine wpList_copy_in (w := w) rfl (.tmp 16) (.tmp 17) rfl A n c (n + 8) bs rfl rfl HR.out hb1 (by omega) (by unfold maxLen; omega) hw1 ?_; intro w2 hw2 hb2; clear hw1 hb1 hs1)
  | fail)
 have HO := iq hw2
 clear hw2
 go_loopw [6, 20] (fun v i wr => ∃ k : Nat, k <= 8 /\ i = .int .i64 k /\ v = .slice (some ⟨w.heap.size, 0, none⟩) (n + k) (n + 8) /\
   Hid (wr.ownsRow w.heap.size 5 1 (.slice (some ⟨w.heap.size, 0, none⟩) (n + k) (n + 8)) (n + k) (u8s (bs ++ beTake 8 num k))) /\ Below w.heap.size w wr)
  (fun _ i _ => 8 - (intOf i).toNat)
 case atStart => exact ⟨0, by omega, rfl, rfl, by simpa [beTake] using HO, hb2⟩
 case round =>
  obtain ⟨k, hk, rfl, rfl, HW, hb⟩ := hrel
  by_cases hk8 : k < 8
  ·go_wp2_with (at_builtin; go_must (refine wpList_append_byte (w := w) rfl (.tmp 23) (.tmp 32) rfl w.heap.size w.heap.size (n + k) (n + 8) _ _ (beAt 8 num k) rfl rfl HW hb (Nat.le_refl _) hb.size (be_cell 8 num k) (by omega) ?_); intro w3 HW3 hb3)
   go_roundw
   case rel => exact ⟨k + 1, by omega, by go_num, rfl, by rw [beTake_succ, <- List.append_assoc]; exact HW3, hb3⟩
   case measure => simp [intOf]; omega
  ·obtain rfl : k = 8 := by omega
   go_wp2
   go_ret
   exact ⟨rfl, HW.out, hb⟩
theorem word_any {Pr : Nat -> Prop} (A : Option Addr) (n c : Nat) (bs : List UInt8) (num : Nat) (w : World) (hr : Rd Pr w A n bs) (hn : n <= 140737488355328) :
  Calls Tryz.prog 165 #[.slice A n c, .int .u64 num] w fun e w' => ∃ g c', e = .returned (.slice (some ⟨g, 0, none⟩) (n + 8) c') /\ w'.ownsRow w.heap.size 5 1 (.slice (some ⟨g, 0, none⟩) (n + 8) c') (n + 8) (u8s (bs ++ be 8 num)) /\ Below w.heap.size w w' := by
 go_enter Tryz.func165, Tryz.ntmps165
 go_wp2_with (go_at_call 173; refine (put64_any A n c bs num w hr hn).mono ?_; rintro e w' ⟨rfl, ho, hb⟩)
 go_ret
 exact ⟨_, _, rfl, ho, hb⟩
theorem refPut_any {Pr : Nat -> Prop} (A : Option Addr) (n c : Nat) (bs : List UInt8) (num size : Nat) (w : World) (hr : Rd Pr w A n bs) (hsl : Sl A n c) (hn : n <= 140737488300000) (hs : size <= 8) :
  Calls Tryz.prog 119 #[.slice A n c, .int .u64 num, .int .i64 size] w fun e w' => ∃ A' c', e = .returned (.slice A' (n + size) c') /\
   Hid (w'.ownsRow w.heap.size 5 1 (.slice A' (n + size) c') (n + size) (u8s (bs ++ be size num)) /\ Sl A' (n + size) c') /\ Below w.heap.size w w' := by
 have HR := iq hr
 have HSL : Hid (Sl A n c) := hsl
 clear hr hsl
 go_enter Tryz.func119, Tryz.ntmps119
 go_wp2_with (at_builtin; go_must (refine wpList_append_rd (w0 := w) rfl (.tmp 9) (.tmp 10) rfl w.heap.size 0 n c _ A [] bs rfl rfl (World.ownsRow_lit w #[] 0 (Nat.le_refl _) (Nat.zero_le _) rfl) (HR.out.below (bl.alloc (Nat.le_refl _) _) (fun _ h _ => h)) HSL.out (bl.alloc (Nat.le_refl _) _) (by simp) (by omega) ?_); intro A1 c1 w1 h1 hb1; rw [Nat.zero_add, List.nil_append] at h1; rw [Nat.zero_add])
 go_loopw [7, 8] (fun v i wr => ∃ (j : Nat) (z : Int) (A2 : Option Addr) (c2 : Nat), j <= size /\ i = .int .i64 z /\ z = (j : Int) - 1 /\ v = .slice A2 (n + (size - j)) c2 /\
   Hid (wr.ownsRow w.heap.size 5 1 (.slice A2 (n + (size - j)) c2) (n + (size - j)) (u8s (bs ++ beTake size num (size - j))) /\ Sl A2 (n + (size - j)) c2) /\ Below w.heap.size w wr)
  (fun _ i _ => (intOf i + 1).toNat)
 case atStart => exact ⟨size, _, A1, c1, Nat.le_refl _, rfl, rfl, by rw [Nat.sub_self]; rfl, by rw [Nat.sub_self]; simpa [beTake] using h1, hb1⟩
 case round =>
  obtain ⟨j, z, A2, c2, hj, rfl, hz, rfl, HW, hb⟩ := hrel
  by_cases h0 : j = 0
  ·subst h0
   obtain rfl : z = -1 := by omega
   clear hz hj
   go_wp2
   go_ret
   exact ⟨A2, c2, rfl, HW, hb⟩
  ·obtain ⟨t, rfl⟩ : ∃ t, j = t + 1 := ⟨j - 1, by omega⟩
   obtain rfl : z = (t : Int) := by omega
   obtain ⟨k, hk, hkk⟩ : ∃ k, k = size - (t + 1) /\ t = size - 1 - k := ⟨_, rfl, by omega⟩
   rw [<- hk] at HW ⊢
   have HK := iq hk
   have HKK := iq hkk
   clear hz h0 hk hkk
   have hk8 : n + k <= 140737488300008 := by have := HK.out; omega
   have ht : t < 8 := by omega
   have hbc : (num : Int) / 2 ^ (8 * t) % 256 = ((beAt size num k).toNat : Int) := by rw [HKK.out]; exact be_cell size num k
   have HBC := iq hbc
   clear hbc
   go_wp2_with (at_builtin; go_must (refine wpList_append_byte_own (w0 := w) rfl (.tmp 18) (.tmp 25) rfl w.heap.size (n + k) _ (bs ++ beTake size num k) _ (beAt size num k) rfl rfl HW.out.1 hb hb.size HBC.out (by omega) ?_); intro A3 c3 w3 HW3 hb3)
   go_roundw
   case rel => exact ⟨t, (t : Int) - 1, A3, c3, by omega, by go_num, rfl, by rw [show size - t = k + 1 by have := HK.out; omega]; rfl, by rw [show size - t = k + 1 by have := HK.out; omega, beTake_succ, <- List.append_assoc]; exact HW3, hb3⟩
   case measure => simp [intOf]
theorem refWord_any {Pr : Nat -> Prop} (A : Option Addr) (n c : Nat) (bs : List UInt8) (num : Nat) (w : World) (hr : Rd Pr w A n bs) (hsl : Sl A n c) (hn : n <= 140737488300000) :
  Calls Tryz.prog 84 #[.slice A n c, .int .u64 num] w fun e w' => ∃ A' c', e = .returned (.slice A' (n + 8) c') /\ Hid (w'.ownsRow w.heap.size 5 1 (.slice A' (n + 8) c') (n + 8) (u8s (bs ++ be 8 num)) /\ Sl A' (n + 8) c') /\ Below w.heap.size w w' := by
 go_enter Tryz.func84, Tryz.ntmps84
 go_wp2_with (go_at_call 119; go_must (refine (refPut_any A n c bs num 8 w hr hsl hn (by omega)).mono ?_); rintro e w' ⟨A', c', rfl, ho, hb⟩)
 go_ret
 exact ⟨_, _, rfl, ho, hb⟩
open Go.RowKit
def maskOf (m : UInt8) (k : List UInt8) : List UInt8 := k.map (· ^^^ m)
def shortOf (k : List UInt8) : List UInt8 := if 64 < k.length then sumOf k else k
def filledOf (k : List UInt8) : List UInt8 := shortOf k ++ List.replicate (64 - (shortOf k).length) 0
def hmac (k b : List UInt8) : List UInt8 := sumOf (maskOf 0x5c (filledOf k) ++ sumOf (maskOf 0x36 (filledOf k) ++ b))
theorem maskOf_length (m : UInt8) (k : List UInt8) : (maskOf m k).length = k.length := by simp [maskOf]
theorem shortOf_length (k : List UInt8) : (shortOf k).length <= 64 := by
 unfold shortOf
 split
 ·rw [sumOf_length]; omega
 ·omega
theorem filledOf_length (k : List UInt8) : (filledOf k).length = 64 := by
 have := shortOf_length k
 simp [filledOf]
 omega
theorem hmac_length (k b : List UInt8) : (hmac k b).length = 32 := sumOf_length _
theorem b8_xor (a b : UInt8) : bits .xor .u8 (a.toNat : Int) (b.toNat : Int) = ((a ^^^ b).toNat : Int) := by
 rw [u8_xor_nat _ _ a.toNat_lt b.toNat_lt, UInt8.toNat_xor]
theorem b8_or (a b : UInt8) : bits .or .u8 (a.toNat : Int) (b.toNat : Int) = ((a ||| b).toNat : Int) := by
 rw [u8_or_nat _ _ a.toNat_lt b.toNat_lt, UInt8.toNat_or]
theorem mask_set (m : UInt8) (k : List UInt8) (j : Nat) (h : j < k.length) : (maskOf m (k.take j) ++ k.drop j).set j (k.getD j 0 ^^^ m) = maskOf m (k.take (j + 1)) ++ k.drop (j + 1) := by
 have e : (maskOf m (k.take j)).length = j := by rw [maskOf_length, List.length_take]; omega
 rw [List.set_append_right _ _ (by omega), e, Nat.sub_self, List.drop_eq_getElem_cons h, List.set_cons_zero, List.take_add_one, List.getElem?_eq_getElem h]
 simp only [maskOf, List.map_append, Option.toList_some, List.map_cons, List.map_nil, List.append_assoc, List.cons_append, List.nil_append, List.getD_eq_getElem?_getD, List.getElem?_eq_getElem h, Option.getD_some]
theorem mask_at (m : UInt8) (k : List UInt8) (j : Nat) (h : j < k.length) : (maskOf m (k.take j) ++ k.drop j).getD j 0 = k.getD j 0 := by
 have e : (maskOf m (k.take j)).length = j := by rw [maskOf_length, List.length_take]; omega
 rw [List.getD_eq_getElem?_getD, List.getElem?_append_right (by omega), e, Nat.sub_self, List.getElem?_drop, Nat.add_zero, List.getD_eq_getElem?_getD]
theorem masked_any (k : List UInt8) (m : UInt8) (w : World) (hk : k.length = 64) :
  Calls Tryz.prog 171 #[.agg (u8s k).toArray, .int .u8 (m.toNat : Int)] w fun E w' => E = .returned (.agg (u8s (maskOf m k)).toArray) /\ Below w.heap.size w w' := by
 have HK := iq hk
 clear hk
 go_enter Tryz.func171, Tryz.ntmps171
 go_wp2
 go_loopw [6] (fun vi wr => ∃ j : Nat, j <= 64 /\ vi = .int .i64 j /\ Hid (ArAt w wr w.heap.size (w.heap.size + 1) 64 (maskOf m (k.take j) ++ k.drop j))) (fun vi _ => 64 - (intOf vi).toNat)
 case atStart =>
  refine ⟨0, by omega, rfl, iq ⟨(bl.alloc (Nat.le_refl _) _).alloc (by simp) _, by omega, by omega, ?_, ?_, there_new2 w _ _ _, by simpa [maskOf] using HK.out⟩⟩
  ·exact World.rangeAt_alloc (range_new w (u8s k) _) _
  ·have := World.there_alloc (there_new w (u8s k).toArray 204) (.cells (List.replicate 64 (Value.int .u8 0)).toArray 204)
   have e : (u8s k).toArray.size = 64 := by rw [List.size_toArray, u8s_length, HK.out]
   rw [e] at this
   exact this
 case round =>
  obtain ⟨j, hj, rfl, HA⟩ := hrel
  by_cases hj64 : j < 64
  ·have hc := rangeAt_u8 HA.out.2.2.2.1 j (by rw [HA.out.2.2.2.2.2.2]; exact hj64)
   rw [mask_at m k j (by rw [HK.out]; exact hj64)] at hc
   have hf := HA.out.free j hj64
   have HS := iq (mask_set m k j (by rw [HK.out]; exact hj64))
   generalize k.getD j 0 = x at hc HS
   go_wp2
   go_roundw
   case measure => simp [intOf]; omega
   case rel =>
    refine ⟨j + 1, by omega, by go_num, iq ?_⟩
    rw [b8_xor, <- HS.out]
    exact HA.out.set j hj64 (x ^^^ m)
  ·obtain rfl : j = 64 := by omega
   have HE : Hid (maskOf m (k.take 64) ++ k.drop 64 = maskOf m k) := iq (by rw [List.take_of_length_le (by rw [HK.out]; exact Nat.le_refl _), List.drop_of_length_le (by rw [HK.out]; exact Nat.le_refl _), List.append_nil])
   rw [HE.out] at HA
   obtain ⟨z, hz⟩ : ∃ z, z = maskOf m k := ⟨_, rfl⟩
   rw [<- hz] at HA
   have HZ := iq hz
   clear hz HE
   have HR : Hid (wr.rangeAt w.heap.size 0 (u8s z)) := iq HA.out.2.2.2.1
   have hz8 : (u8s z).length = 64 := by rw [u8s_length, HA.out.2.2.2.2.2.2]
   have HT : Hid (wr.there (w.heap.size + 1) 0 (u8s z).length) := iq (by rw [hz8]; exact HA.out.2.2.2.2.2.1)
   have HI8 : Hid ((Tryz.prog.info? 204).map (·.size) = some (u8s z).length) := iq (by rw [hz8]; exact Tryz.size204)
   clear hz8
   go_wp2_with (first
    | (refine wpList_load_mid rfl 204 (.tmp 2) rfl w.heap.size 0 rfl (u8s z) _ HR.out Tryz.underlying204 rfl HI8.out ?_)
    | (refine wpList_store_cells rfl 204 (.tmp 4) (.tmp 16) rfl (w.heap.size + 1) 0 (u8s z) rfl rfl HT.out HI8.out (u8s_one _) ?_))
   exact bodyPost_ret (ret_range (cs := u8s z) rfl rfl (World.rangeAt_setCells_same _ _ _ (u8s z) HT.out) Tryz.underlying204 rfl HI8.out) rfl ⟨by rw [HZ.out], below_setCells (by omega) _ _ _ HA.out.1⟩
def unlikeTo (a b : List UInt8) : Nat -> UInt8
 | 0 => 0
 | j + 1 => unlikeTo a b j ||| (a.getD j 0 ^^^ b.getD j 0)
theorem or_zero8 (a b : UInt8) : a ||| b = 0 ↔ a = 0 /\ b = 0 := by
 constructor
 ·intro h
  have h2 : a.toBitVec ||| b.toBitVec = 0#8 := by rw [<- UInt8.toBitVec_or, h]; rfl
  constructor
  ·apply UInt8.eq_of_toBitVec_eq
   apply BitVec.eq_of_getLsbD_eq
   intro i hi
   have := congrArg (·.getLsbD i) h2
   simp only [BitVec.getLsbD_or, BitVec.getLsbD_zero, Bool.or_eq_false_iff] at this
   rw [this.1]; simp
  ·apply UInt8.eq_of_toBitVec_eq
   apply BitVec.eq_of_getLsbD_eq
   intro i hi
   have := congrArg (·.getLsbD i) h2
   simp only [BitVec.getLsbD_or, BitVec.getLsbD_zero, Bool.or_eq_false_iff] at this
   rw [this.2]; simp
 ·rintro ⟨rfl, rfl⟩; rfl
theorem xor_zero8 (a b : UInt8) : a ^^^ b = 0 ↔ a = b := UInt8.xor_eq_zero_iff
theorem unlikeTo_zero (a b : List UInt8) : ∀ n, unlikeTo a b n = 0 ↔ ∀ j, j < n -> a.getD j 0 = b.getD j 0
 | 0 => by simp [unlikeTo]
 | n + 1 => by
  rw [unlikeTo, or_zero8, unlikeTo_zero a b n, xor_zero8]
  constructor
  ·rintro ⟨h1, h2⟩ j hj
   rcases Nat.lt_succ_iff_lt_or_eq.1 hj with h | rfl
   ·exact h1 j h
   ·exact h2
  ·intro h
   exact ⟨fun j hj => h j (by omega), h n (by omega)⟩
theorem unlike_eq (a b : List UInt8) (ha : a.length = 32) (hb : b.length = 32) : unlikeTo a b 32 = 0 ↔ a = b := by
 rw [unlikeTo_zero]
 constructor
 ·intro h
  apply List.ext_getElem (by omega)
  intro i h1 h2
  have := h i (by omega)
  simpa [List.getD_eq_getElem?_getD, h1, h2] using this
 ·rintro rfl j _; rfl
def TwoAt (a b : List UInt8) (w wr : World) : Prop := Below w.heap.size w wr /\ wr.rangeAt w.heap.size 0 (u8s a) /\ wr.rangeAt (w.heap.size + 1) 0 (u8s b)
theorem same_by (a b : List UInt8) (z : Bool) (w : World) (ha : a.length = 32) (hb : b.length = 32) (hz : (((unlikeTo a b 32).toNat : Int) == 0) = z) :
  Calls Tryz.prog 125 #[.agg (u8s a).toArray, .agg (u8s b).toArray] w fun E w' => E = .returned (.bool z) /\ Below w.heap.size w w' := by
 have HA := iq ha
 have HB := iq hb
 have HZ := iq hz
 clear ha hb hz
 go_enter Tryz.func125, Tryz.ntmps125
 go_wp2
 go_loopw [5, 7] (fun vu vi wr => ∃ j : Nat, j <= 32 /\ vi = .int .i64 j /\ vu = .int .u8 ((unlikeTo a b j).toNat : Int) /\ Hid (TwoAt a b w wr)) (fun _ vi _ => 32 - (intOf vi).toNat)
 case atStart => exact ⟨0, by omega, rfl, rfl, iq ⟨(bl.alloc (Nat.le_refl _) _).alloc (by simp) _, World.rangeAt_alloc (range_new w (u8s a) _) _, range_new2 w _ (u8s b) _⟩⟩
 case round =>
  obtain ⟨j, hj, rfl, rfl, HT⟩ := hrel
  by_cases hj32 : j < 32
  ·have h1 := rangeAt_u8 HT.out.2.1 j (by rw [HA.out]; exact hj32)
   have h2 := rangeAt_u8 HT.out.2.2 j (by rw [HB.out]; exact hj32)
   have HU : Hid (unlikeTo a b (j + 1) = unlikeTo a b j ||| (a.getD j 0 ^^^ b.getD j 0)) := iq rfl
   generalize a.getD j 0 = x at h1 HU
   generalize b.getD j 0 = y at h2 HU
   generalize unlikeTo a b j = u at HU
   go_wp2
   go_quiet (fail)
   go_wp2
   go_roundw
   case measure => simp [intOf]; omega
   case rel => exact ⟨j + 1, by omega, by go_num, by rw [HU.out, <- b8_or, <- b8_xor], iq ⟨below_drewN HT.out.1 _, HT.out.2⟩⟩
  ·obtain rfl : j = 32 := by omega
   go_wp2
   go_ret
   exact ⟨by rw [HZ.out]; rfl, HT.out.1⟩
theorem same_yes (a : List UInt8) (w : World) (ha : a.length = 32) :
  Calls Tryz.prog 125 #[.agg (u8s a).toArray, .agg (u8s a).toArray] w fun E w' => E = .returned (.bool true) /\ Below w.heap.size w w' :=
 same_by a a true w ha ha (by rw [(unlike_eq a a ha ha).2 rfl]; rfl)
theorem same_no (a b : List UInt8) (w : World) (ha : a.length = 32) (hb : b.length = 32) (hn : a ≠ b) :
  Calls Tryz.prog 125 #[.agg (u8s a).toArray, .agg (u8s b).toArray] w fun E w' => E = .returned (.bool false) /\ Below w.heap.size w w' :=
 same_by a b false w ha hb (by
  have h : unlikeTo a b 32 ≠ 0 := fun e => hn ((unlike_eq a b ha hb).1 e)
  rw [beq_eq_false_iff_ne]
  intro e
  apply h
  apply UInt8.toNat_inj.1
  have : (unlikeTo a b 32).toNat = 0 := by omega
  exact this)
open Go.RowKit
theorem heap_new2 (w : World) (o : Obj) (cs : Array Value) (t : TypeId) : ((w.alloc o).alloc (.cells cs t)).heap[w.heap.size + 1]? = some (.cells cs t (0, 0)) := by
 have := heap_alloc_new (w.alloc o) (.cells cs t)
 rw [show (w.alloc o).heap.size = w.heap.size + 1 by simp] at this
 exact this
theorem splice_head (x : List UInt8) : splice (u8s (List.replicate 64 0)) 0 (u8s x) = u8s (x ++ List.replicate (64 - x.length) 0) := by
 unfold splice
 rw [List.take_zero, List.nil_append, u8s_length, Nat.zero_add, u8s_append]
 congr 1
 simp only [u8s, List.map_replicate, List.drop_replicate]
theorem range_of_heap {w : World} {g : Nat} {C : List Value} {t : TypeId} (h : w.heap[g]? = some (.cells C.toArray t (0, 0))) : w.rangeAt g 0 C := fun j v hv => by
 rw [Nat.zero_add, cell_of_row w g j _ t (0, 0) h]
 simpa using hv
theorem filled_by {Pr : Nat -> Prop} (k d : List UInt8) (A : Option Addr) (c : Nat) (w : World) (hr : Rd Pr w A k.length k) (hs : Sl A k.length c) (hk : KIs w) (h0 : 0 < w.heap.size) (hd : (u8s d).length = 32)
  (S : ∀ (A : Option Addr) (c : Nat) (w : World), Rd (fun _ => True) w A k.length k -> Sl A k.length c -> KIs w -> 0 < w.heap.size -> Calls Tryz.prog 172 #[.slice A k.length c] w fun E w' => E = .returned (.agg (u8s d).toArray) /\ Below w.heap.size w w') :
  Calls Tryz.prog 169 #[.slice A k.length c] w fun E w' => E = .returned (.agg (u8s ((if 64 < k.length then d else k) ++ List.replicate (64 - (if 64 < k.length then d else k).length) 0)).toArray) /\ Below w.heap.size w w' := by
 have HR := iq hr
 have HS := iq hs
 have HK := iq hk
 have HD := iq hd
 have SS := iq S
 clear hr hs hk hd S
 by_cases hb : 64 < k.length
 ·rw [if_pos hb]
  have HD32 : Hid (d.length = 32) := iq (by have := HD.out; rwa [u8s_length] at this)
  obtain ⟨z, hz⟩ : ∃ z, z = d ++ List.replicate (64 - d.length) 0 := ⟨_, rfl⟩
  rw [<- hz]
  have HZ := iq hz
  have HZ8 : Hid ((u8s z).length = 64) := iq (by rw [u8s_length, hz, List.length_append, List.length_replicate, HD32.out])
  have HI8 : Hid ((Tryz.prog.info? 204).map (·.size) = some (u8s z).length) := iq (by rw [HZ8.out]; exact Tryz.size204)
  have HM : Hid ((u8s d).length = Nat.min 32 64) := iq HD.out
  have HI32 : Hid ((Tryz.prog.info? 30).map (·.size) = some (u8s d).length) := iq (by rw [HD.out]; exact Tryz.size30)
  clear hz
  go_enter Tryz.func169, Tryz.ntmps169
  go_wp2_with (first
   | (go_at_call 172; refine (SS.out A c _ (((HR.out.below ((bl.alloc (Nat.le_refl _) _).alloc (by simp) _) (fun _ h _ => h))).mono fun _ _ _ => trivial) HS.out (HK.out.below ((bl.alloc (Nat.le_refl _) _).alloc (by simp) _) h0) (by simp)).mono ?_; rintro E w1 ⟨rfl, hb1⟩; have HB1 := iq hb1; have HS1 : Hid (w.heap.size + 1 < w1.heap.size) := iq (by have := hb1.size; simp at this; omega); clear hb1)
   | (refine wpList_copy_grown rfl (.tmp 11) (.tmp 12) 23 23 rfl 5 Tryz.underlying23 Tryz.size5 _ _ _ _ _ _ rfl rfl (w.heap.size + 1) 0 (u8s (List.replicate 64 0)) 204 ((HB2.out.1.block _ HS1.out).trans ((HB1.out.block _ (by simp)).trans (heap_new2 w _ _ _))) (u8s d) HM.out (fun _ => ⟨rfl, _, rfl, fun j v hv => by rw [add_lit]; exact HB2.out.2.1 j v hv⟩) (by rw [HD.out]; decide) (u8s_one d) ?_; intro w3 H3; have HZ3 : Hid (w3.rangeAt (w.heap.size + 1) 0 (u8s z)) := iq (by have := H3.out.1; rw [splice_head d, <- HZ.out] at this; exact range_of_heap this); have HB3 : Hid (Below w.heap.size w w3) := iq ((((bl.alloc (Nat.le_refl _) _).alloc (by simp) _).trans (HB1.out.mono (by simp; omega))).trans (HB2.out.1.mono (by have := HS1.out; omega)) |>.grown H3.out.2 (by have := HB2.out.2.2.2; have := HS1.out; omega) (fun k hk => by have := Option.some.inj hk; omega)); have HT3 : Hid (w3.there w.heap.size 0 (u8s z).length) := iq (by rw [HZ8.out]; exact there_grown (there_below (there_below (World.there_alloc (there_new w _ _) _) HB1.out (by simp; omega)) HB2.out.1 (by have := HS1.out; omega)) H3.out.2 (by omega)))
   | (refine wpList_load_mid rfl 204 (.tmp 3) rfl (w.heap.size + 1) 0 rfl (u8s z) _ HZ3.out Tryz.underlying204 rfl HI8.out ?_)
   | (refine wpList_store_cells rfl 204 (.tmp 2) (.tmp 14) rfl w.heap.size 0 (u8s z) rfl rfl HT3.out HI8.out (u8s_one _) ?_)
   | (refine wpList_store_fresh rfl 30 (.tmp 4) (.tmp 9) rfl (u8s d) rfl rfl (by rw [HD.out]; rfl) HI32.out (u8s_one d) ?_; intro w2 HB2))
  exact bodyPost_ret (ret_range (cs := u8s z) rfl rfl (World.rangeAt_setCells_same _ _ _ (u8s z) HT3.out) Tryz.underlying204 rfl HI8.out) rfl ⟨rfl, below_setCells (Nat.le_refl _) _ _ _ HB3.out⟩
 ·rw [if_neg hb]
  have hle : k.length <= 64 := by omega
  obtain ⟨z, hz⟩ : ∃ z, z = k ++ List.replicate (64 - k.length) 0 := ⟨_, rfl⟩
  rw [<- hz]
  have HZ := iq hz
  have HZ8 : Hid ((u8s z).length = 64) := iq (by rw [u8s_length, hz, List.length_append, List.length_replicate]; omega)
  have HI8 : Hid ((Tryz.prog.info? 204).map (·.size) = some (u8s z).length) := iq (by rw [HZ8.out]; exact Tryz.size204)
  have HM : Hid ((u8s k).length = Nat.min k.length 64) := iq (by rw [u8s_length]; exact (Nat.min_eq_left hle).symm)
  clear hz
  go_enter Tryz.func169, Tryz.ntmps169
  go_wp2_with (first
   | (refine wpList_copy_grown rfl (.tmp 11) (.tmp 12) 23 23 rfl 5 Tryz.underlying23 Tryz.size5 _ _ _ _ _ _ rfl rfl (w.heap.size + 1) 0 (u8s (List.replicate 64 0)) 204 (heap_new2 w _ _ _) (u8s k) HM.out (fun hp => ⟨rfl, (HR.out.below ((bl.alloc (Nat.le_refl _) _).alloc (by simp) _) (fun _ h _ => h)).src hp⟩) (by rw [u8s_length, u8s_length, List.length_replicate]; omega) (u8s_one k) ?_; intro w3 H3; have HZ3 : Hid (w3.rangeAt (w.heap.size + 1) 0 (u8s z)) := iq (by have := H3.out.1; rw [splice_head k, <- HZ.out] at this; exact range_of_heap this); have HB3 : Hid (Below w.heap.size w w3) := iq (((bl.alloc (Nat.le_refl _) _).alloc (by simp) _).grown H3.out.2 (by simp; omega) (fun k hk => by have := Option.some.inj hk; omega)); have HT3 : Hid (w3.there w.heap.size 0 (u8s z).length) := iq (by rw [HZ8.out]; exact there_grown (World.there_alloc (there_new w _ _) _) H3.out.2 (by omega)))
   | (refine wpList_load_mid rfl 204 (.tmp 3) rfl (w.heap.size + 1) 0 rfl (u8s z) _ HZ3.out Tryz.underlying204 rfl HI8.out ?_)
   | (refine wpList_store_cells rfl 204 (.tmp 2) (.tmp 14) rfl w.heap.size 0 (u8s z) rfl rfl HT3.out HI8.out (u8s_one _) ?_))
  exact bodyPost_ret (ret_range (cs := u8s z) rfl rfl (World.rangeAt_setCells_same _ _ _ (u8s z) HT3.out) Tryz.underlying204 rfl HI8.out) rfl ⟨rfl, below_setCells (Nat.le_refl _) _ _ _ HB3.out⟩
theorem filled_any {Pr : Nat -> Prop} (k : List UInt8) (A : Option Addr) (c : Nat) (w : World) (hr : Rd Pr w A k.length k) (hs : Sl A k.length c) (hL : k.length < 1000000000000000000) (hk : KIs w) (h0 : 0 < w.heap.size) :
  Calls Tryz.prog 169 #[.slice A k.length c] w fun E w' => E = .returned (.agg (u8s (filledOf k)).toArray) /\ Below w.heap.size w w' :=
 filled_by k (sumOf k) A c w hr hs hk h0 (by rw [u8s_length, sumOf_length]) fun A c w hr hs hk h0 => sum_any k A c w hr hs hL hk h0
open Go.RowKit
def Lists (w : World) (A : Option Addr) (n : Nat) (xs : List (Option Addr × Nat × List UInt8)) : Prop :=
 xs.length = n /\ (0 < n -> ∃ b o, A = some ⟨b, o, none⟩ /\ b < w.heap.size /\ ∀ j x, xs[j]? = some x -> w.cell? ⟨b, o + j, none⟩ = some (.slice x.1 x.2.2.length x.2.1) /\ Rd (fun _ => True) w x.1 x.2.2.length x.2.2 /\ Sl x.1 x.2.2.length x.2.1)
theorem Lists.below {w w' : World} {A : Option Addr} {n : Nat} {xs : List (Option Addr × Nat × List UInt8)} (h : Lists w A n xs) (hb : Below w.heap.size w w') : Lists w' A n xs := by
 refine ⟨h.1, fun hn => ?_⟩
 obtain ⟨b, o, e, hlt, hc⟩ := h.2 hn
 refine ⟨b, o, e, Nat.lt_of_lt_of_le hlt hb.size, fun j x hx => ?_⟩
 obtain ⟨h1, h2, h3⟩ := hc j x hx
 exact ⟨(hb.cell (p := ⟨b, o + j, none⟩) hlt).trans h1, h2.below hb (fun _ h _ => h), h3⟩
def catOf (xs : List (Option Addr × Nat × List UInt8)) : List UInt8 := xs.flatMap (·.2.2)
theorem catOf_take (xs : List (Option Addr × Nat × List UInt8)) (j : Nat) (x : Option Addr × Nat × List UInt8) (h : xs[j]? = some x) : catOf (xs.take (j + 1)) = catOf (xs.take j) ++ x.2.2 := by
 rw [List.take_add_one, h, catOf, List.flatMap_append]
 simp [catOf]
theorem catOf_le (xs : List (Option Addr × Nat × List UInt8)) (j : Nat) : (catOf (xs.take j)).length <= (catOf xs).length := by
 conv => rhs; rw [<- List.take_append_drop j xs, catOf, List.flatMap_append]
 rw [List.length_append, <- catOf]
 omega
structure DgAt (g : Nat) (al : List UInt8) (w wr : World) : Prop where
 bel : Below w.heap.size w wr
 hh : HashIs wr g al al.length
 hg : w.heap.size + 1 < g
 th : wr.there (w.heap.size + 1) 0 32
theorem dig_by (k out : List UInt8) (xs : List (Option Addr × Nat × List UInt8)) (A : Option Addr) (n c : Nat) (w : World) (hk64 : k.length = 64) (hx : Lists w A n xs) (hn : n <= 1000) (hL : (catOf xs).length < 1000000000000000) (hk : KIs w) (h0 : 0 < w.heap.size) (ho : (u8s out).length = 32)
  (S : ∀ (g : Nat) (al : List UInt8) (w : World), al = k ++ catOf xs -> HashIs w g al al.length -> KIs w -> 0 < w.heap.size -> Calls Tryz.prog 177 #[.pointer (some ⟨g, 0, none⟩)] w fun E w' => E = .returned (.agg (u8s out).toArray) /\ Below w.heap.size w w') :
  Calls Tryz.prog 170 #[.agg (u8s k).toArray, .slice A n c] w fun E w' => E = .returned (.agg (u8s out).toArray) /\ Below w.heap.size w w' := by
 have HK64 := iq hk64
 have HX := iq hx
 have HL := iq hL
 have HK := iq hk
 have HO := iq ho
 have SS := iq S
 have HI32 : Hid ((Tryz.prog.info? 30).map (·.size) = some (u8s out).length) := iq (by rw [ho]; exact Tryz.size30)
 clear hk64 hx hL hk ho S
 go_enter Tryz.func170, Tryz.ntmps170
 go_wp2_with (first
  | (go_at_call 175; refine (new_any _).mono ?_; rintro E w1 ⟨g, rfl, hg1, hh1, hb1⟩; have HB1 := iq hb1; have HH1 := iq hh1; have HG1 : Hid (w.heap.size + 1 < g) := iq (by simp at hg1; omega); clear hg1 hh1 hb1)
  | (go_at_call 176; have HBW1 : Hid (Below w.heap.size w w1) := iq (((bl.alloc (Nat.le_refl _) _).alloc (by simp) _).trans (HB1.out.mono (by simp; omega))); have HRK : Hid (w1.rangeAt w.heap.size 0 (u8s k)) := iq (rangeAt_below (World.rangeAt_alloc (range_new w (u8s k) _) _) HB1.out (by simp; omega)); have HT1 : Hid (w1.there (w.heap.size + 1) 0 32) := iq (there_below (there_new2 w _ (List.replicate 32 (Value.int .u8 0)).toArray 30) HB1.out (by simp)); have hw := write_any g [] k (some ⟨w.heap.size, 0, none⟩) 64 w1 HH1.out (Rd.of_range HRK.out (by have := HB1.out.size; simp at this; omega) (by have := HG1.out; show w.heap.size ≠ g; omega) (fun _ _ h => h) rfl) ⟨(fun e => by cases e), by rw [HK64.out]; exact Nat.le_refl _, by omega⟩ (by rw [HK64.out]; simp) (HK.out.below HBW1.out h0) (by have := HG1.out; omega); rw [List.nil_append, List.length_nil, Nat.zero_add, HK64.out] at hw; refine hw.mono ?_; clear hw; rintro E w2 ⟨rfl, hh2, hg2⟩; have HD2 : Hid (DgAt g k w w2) := iq ⟨HBW1.out.grown hg2 HBW1.out.size (fun j hj => by have := HG1.out; have := Option.some.inj hj; omega), by rw [HK64.out]; exact hh2, HG1.out, there_grown HT1.out hg2 (by have := HG1.out; omega)⟩; clear hh2 hg2 HBW1 HRK HT1))
 go_loopw [14] (fun v14 wr => ∃ (j : Nat) (al : List UInt8), j <= n /\ v14 = .int .i64 j /\ Hid (al = k ++ catOf (xs.take j)) /\ Hid (DgAt g al w wr)) (fun v14 _ => n - (intOf v14).toNat)
 case atStart => exact ⟨0, k, by omega, rfl, iq (by simp [catOf]), HD2⟩
 case round =>
  clear HD2 HH1 HB1 HG1
  obtain ⟨j, al, hj, rfl, HAL, HP⟩ := hrel
  have HKR : Hid (KIs wr) := iq (HK.out.below HP.out.bel h0)
  by_cases hjn : j < n
  ·obtain ⟨b, o, rfl, hbw, hcs⟩ := HX.out.2 (by omega)
   obtain ⟨⟨Ax, cx, more⟩, hxk⟩ : ∃ x, xs[j]? = some x := ⟨_, List.getElem?_eq_getElem (by rw [HX.out.1]; exact hjn)⟩
   obtain ⟨hcell, hrx, hsx⟩ := hcs j _ hxk
   have cl := (HP.out.bel.cell (p := ⟨b, o + j, none⟩) hbw).trans hcell
   have HRX := iq hrx
   have HSX := iq hsx
   have HT : Hid (catOf (xs.take (j + 1)) = catOf (xs.take j) ++ more) := iq (catOf_take xs j _ hxk)
   have HLE : Hid ((catOf (xs.take (j + 1))).length <= (catOf xs).length) := iq (catOf_le xs (j + 1))
   have HLL : Hid (al.length + more.length < 1152921504606846976) := iq (by
    have h1 := HLE.out
    rw [HT.out, List.length_append] at h1
    rw [HAL.out, List.length_append, HK64.out]
    have := HL.out
    omega)
   clear hcs hxk hcell hrx hsx
   simp only at cl HRX HSX
   have HRG : Hid (Rd (· ≠ g) wr Ax more.length more) := iq ((((HRX.out.mono (Q := (· < w.heap.size)) fun b hb _ => hb).below HP.out.bel (fun _ h _ => h))).mono fun b _ hb e => by have := HP.out.hg; have hb' : b < w.heap.size := hb; have e' : b = g := e; omega)
   have HG0 : Hid (0 < g) := iq (by have := HP.out.hg; omega)
   go_wp2_with (first
    | (go_at_call 176; refine (write_any g al more Ax cx wr HP.out.hh HRG.out HSX.out HLL.out HKR.out HG0.out).mono ?_; rintro E w2 ⟨rfl, hh2, hg2⟩; have HP2 : Hid (DgAt g (al ++ more) w w2) := iq ⟨HP.out.bel.grown hg2 HP.out.bel.size (fun j hj => by have := HP.out.hg; have := Option.some.inj hj; omega), by rw [List.length_append]; exact hh2, HP.out.hg, there_grown HP.out.th hg2 (by have := HP.out.hg; omega)⟩; clear hh2 hg2))
   go_roundw
   case measure => simp [intOf]; omega
   case rel => exact ⟨j + 1, al ++ more, by omega, by go_num, iq (by rw [HAL.out, HT.out, List.append_assoc]), HP2⟩
  ·obtain rfl : j = n := by omega
   have HAL2 : Hid (al = k ++ catOf xs) := iq (by rw [HAL.out, List.take_of_length_le (by rw [HX.out.1]; exact Nat.le_refl _)])
   go_wp2_with (first
    | (go_at_call 177; refine (SS.out g al wr HAL2.out HP.out.hh HKR.out (Nat.lt_of_lt_of_le h0 HP.out.bel.size)).mono ?_; rintro E w3 ⟨rfl, hb3⟩; have HT3 : Hid (w3.there (w.heap.size + 1) 0 (u8s out).length) := iq (by rw [HO.out]; exact there_below HP.out.th hb3 (by have := HP.out.hg; have := HP.out.hh.lt; omega)); have HB3 : Hid (Below w.heap.size w w3) := iq (HP.out.bel.trans (hb3.mono HP.out.bel.size)); clear hb3)
    | (refine wpList_store_cells rfl 30 (.tmp 4) (.tmp 23) rfl (w.heap.size + 1) 0 (u8s out) rfl rfl HT3.out HI32.out (u8s_one _) ?_))
   exact bodyPost_ret (ret_range (cs := u8s out) rfl rfl (World.rangeAt_setCells_same _ _ _ (u8s out) HT3.out) Tryz.underlying30 rfl HI32.out) rfl ⟨rfl, below_setCells (by omega) _ _ _ HB3.out⟩
theorem dig_any (k : List UInt8) (xs : List (Option Addr × Nat × List UInt8)) (A : Option Addr) (n c : Nat) (w : World) (hk64 : k.length = 64) (hx : Lists w A n xs) (hn : n <= 1000) (hL : (catOf xs).length < 1000000000000000) (hk : KIs w) (h0 : 0 < w.heap.size) :
  Calls Tryz.prog 170 #[.agg (u8s k).toArray, .slice A n c] w fun E w' => E = .returned (.agg (u8s (sumOf (k ++ catOf xs))).toArray) /\ Below w.heap.size w w' :=
 dig_by k (sumOf (k ++ catOf xs)) xs A n c w hk64 hx hn hL hk h0 (by rw [u8s_length, sumOf_length]) fun g al w e hh hk h0 => by
  rw [<- e]
  exact hashSum_any g al w hh (by rw [e, List.length_append, hk64]; omega) hk h0
end Go.Proofs.YtknpcmadghkaaaaGreatDoor.Sh
