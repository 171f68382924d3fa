/-
  What is proved: plain facts on numbers as bytes, the highest first. No condition.
  What is proved: what the three width functions answer. No condition.
  What is proved: what put does. Conditions as stated.
  What is proved: what Word, Half, Text, bytes.Clone and New do. Conditions as stated.
-/
import Derived.Test.YtghjogneogkpoaaGreatDoorK1
import Derived.WalkKit
import Derived.WalkSpells
import Derived.WalkLawsBesides
import Derived.Laws.CopyOwn
import Derived.Lib.Hide
import Derived.IntWalk
import Derived.Deep.DeepMust
import Derived.Lib.AppendStr

namespace Go.Proofs.YtghjogneogkpoaaGreatDoor.Oct

/-- Byte i of a number of so many bytes, the highest one first. -/
def beAt (size n i : Nat) : UInt8 := UInt8.ofNat (n / 256 ^ (size - 1 - i))

/-- The first k bytes of a number of so many bytes. -/
def beTake (size n k : Nat) : List UInt8 := (List.range k).map (beAt size n)

/-- A number in so many bytes. -/
def be (size n : Nat) : List UInt8 := beTake size n size

theorem u8s_append (a b : List UInt8) : u8s (a ++ b) = u8s a ++ u8s b := by simp [u8s]
theorem beTake_length (size n k : Nat) : (beTake size n k).length = k := by simp [beTake]
theorem be_length (size n : Nat) : (be size n).length = size := beTake_length _ _ _
theorem beTake_zero (size n : Nat) : beTake size n 0 = [] := rfl
theorem beTake_succ (size n k : Nat) : beTake size n (k + 1) = beTake size n k ++ [beAt size n k] := by
  simp [beTake, List.range_succ]
theorem beAt_toNat (size n i : Nat) : ((beAt size n i).toNat : Int) = ((n / 256 ^ (size - 1 - i) % 256 : Nat) : Int) := by
  simp [beAt]
end Go.Proofs.YtghjogneogkpoaaGreatDoor.Oct

namespace Go.Proofs.YtghjogneogkpoaaGreatDoor.Oct
open Go.RowKit

set_option maxRecDepth 1000000 in
theorem len64_max (w : World) : Calls Tryz.prog 114 #[.int .u64 18446744073709551615] w fun e w' => e = .returned (.int .i64 64) ∧ w = w' := by
  go_enter Tryz.func114, Tryz.ntmps114
  go_wp2
  go_ret
  exact ⟨by kernel_rfl, rfl⟩

set_option maxRecDepth 1000000 in
theorem len64_u16 (w : World) : Calls Tryz.prog 114 #[.int .u64 65535] w fun e w' => e = .returned (.int .i64 16) ∧ w = w' := by
  go_enter Tryz.func114, Tryz.ntmps114
  go_wp2
  go_ret
  exact ⟨by kernel_rfl, rfl⟩

theorem w8_any (w : World) : Calls Tryz.prog 98 #[] w fun e w' => e = .returned (.int .i64 8) ∧ w = w' := by
  go_enter Tryz.func98, Tryz.ntmps98
  go_wp2_with (go_at_call 114; refine (len64_max _).mono ?_; rintro e w' ⟨rfl, rfl⟩)
  go_ret
  exact ⟨rfl, rfl⟩

theorem w2_any (w : World) : Calls Tryz.prog 128 #[] w fun e w' => e = .returned (.int .i64 2) ∧ w = w' := by
  go_enter Tryz.func128, Tryz.ntmps128
  go_wp2_with (go_at_call 114; refine (len64_u16 _).mono ?_; rintro e w' ⟨rfl, rfl⟩)
  go_ret
  exact ⟨rfl, rfl⟩

end Go.Proofs.YtghjogneogkpoaaGreatDoor.Oct

namespace Go.Proofs.YtghjogneogkpoaaGreatDoor.Oct
open Go.RowKit

theorem Tryz.info5 : (Tryz.prog.info? 5).map (fun i => (i.zero, i.size, i.bytes)) = some (some (.int .u8 0), 1, 1) := by kernel_rfl

/-- The slice at A of length n reads as the bytes bs. -/
def Rd (w : World) (A : Option Addr) (n : Nat) (bs : List UInt8) : Prop :=
  bs.length = n ∧ (0 < n → ∃ b o, A = some ⟨b, o, none⟩ ∧ b < w.heap.size ∧ ∀ j u, bs[j]? = some u → w.cell? ⟨b, o + j, none⟩ = some (.int .u8 (u.toNat : Int)))

/-- make with a length and a capacity, of bytes. -/
theorem wpList_make_lc (w : World) {ops : Array Oper} {rest : List Oper} {o : Oper} {a : Act} {Q : Exit → Act → World → Prop}
    (hg : o.guard = none) (l c : Operand) (hop : o.op = Op.makeSlice 38 l c)
    (L C : Int) (n m : Nat) (hl : a.eval l = .int .i64 L) (hc : a.eval c = .int .i64 C) (hL : L = (n : Int)) (hC : C = (m : Int)) (hnm : n ≤ m) (hm : m ≤ 281474976710656)
    (hK : ∀ w', Hid (w'.heap[w.heap.size]? = some (.cells (List.replicate m (Value.int .u8 0)).toArray 5 (0, 0))) → Below w.heap.size w w' → w.heap.size < w'.heap.size → wpList Tryz.prog ops Q rest (a.put o.dst (.slice (some ⟨w.heap.size, 0, none⟩) n m)) w') :
    wpList Tryz.prog ops Q (o :: rest) a w := by
  obtain ⟨i0, hi, hz0, hz1, hz2⟩ := info_parts Tryz.info5
  refine wpList_plain hg fun K hK' => ?_
  have hrun := run_make (P := Tryz.prog) w 38 5 i0 (.int .u8 0) Tryz.underlying38 hi hz0 .i64 .i64 n m (by omega) (by omega) (by rw [hz2]; omega) (by omega)
  subst hL hC
  unfold Oper.wp
  simp [execOp, hop, hl, hc, hrun, Result.andThen]
  refine hK' _ _ (hK _ ?_ ((Below.refl _ _).alloc (Nat.le_refl _) _) (by simp))
  show _ = _
  rw [heap_alloc_new, hz1]
  refine congrArg (fun c => some (Obj.cells c 5 (0, 0))) ?_
  rw [Nat.mul_one]
  exact Array.toList_inj.1 (by rw [show (Value.int IntKind.u8 0).cells = #[Value.int .u8 0] from rfl, toList_madeCells_one])

theorem copy_put {w : World} {cap n : Nat} {bs : List UInt8} {g : Nat} (hn : bs.length = n) (hcap : n ≤ cap) (hm : cap ≤ maxLen) {B : Nat} (hB : B ≤ g)
    (h : w.heap[g]? = some (.cells (splice (List.replicate cap (Value.int .u8 0)) 0 (u8s bs)).toArray 5 (0, 0))) :
    w.ownsRow B 5 1 (.slice (some ⟨g, 0, none⟩) n cap) n (u8s bs) := by
  refine ⟨by rw [u8s_length]; omega, .inr ⟨g, cap, _, rfl, hB, h, hcap, hm, ?_, ?_⟩⟩
  · rw [List.size_toArray, length_splice]
    · simp
    · simp [u8s_length]; omega
  · have : (u8s bs).length = n := by rw [u8s_length]; exact hn
    simp only [splice, List.take_zero, List.nil_append, Nat.mul_one, ← this]
    exact List.take_left

theorem Rd.src {w w1 : World} {A : Option Addr} {n : Nat} {bs : List UInt8} (h : Rd w A n bs) (hb : Below w.heap.size w w1) :
    0 < (u8s bs).length → ∃ ad, A = some ad ∧ ∀ j v, (u8s bs)[j]? = some v → w1.cell? (ad.add j) = some v := by
  intro hp
  obtain ⟨hl, hc⟩ := h
  rw [u8s_length] at hp
  obtain ⟨b, o, hA, hlt, hcell⟩ := hc (by omega)
  refine ⟨_, hA, fun j v hv => ?_⟩
  rw [Addr.add_lit]
  simp only [u8s, List.getElem?_map, Option.map_eq_some_iff] at hv
  obtain ⟨u, hu, rfl⟩ := hv
  exact (hb.cell (p := ⟨b, o + j, none⟩) hlt).trans (hcell j u hu)

theorem Tryz.size5 : (Tryz.prog.info? 5).map (·.size) = some 1 := by kernel_rfl

/-- copy of what came in to the head of a row just made. -/
theorem wpList_copy_in {w w1 : World} {ops : Array Oper} {rest : List Oper} {o : Oper} {a : Act} {Q : Exit → Act → World → Prop} (hgd : o.guard = none) (d s : Operand)
    (ho : o.op = .call { callee := .builtin .copy, args := #[d, s], argTypes := #[38, 38] })
    (A : Option Addr) (n c cap : Nat) (bs : List UInt8) (hd : a.eval d = .slice (some ⟨w.heap.size, 0, none⟩) n cap) (hs : a.eval s = .slice A n c)
    (hr : Rd w A n bs) (hb : Below w.heap.size w w1) (hcap : n ≤ cap) (hm : cap ≤ maxLen)
    (hg : Hid (w1.heap[w.heap.size]? = some (.cells (List.replicate cap (Value.int .u8 0)).toArray 5 (0, 0))))
    (h : ∀ w', w'.ownsRow w.heap.size 5 1 (.slice (some ⟨w.heap.size, 0, none⟩) n cap) n (u8s bs) → Below w.heap.size w w' → wpList Tryz.prog ops Q rest (a.put o.dst (goInt n)) w') :
    wpList Tryz.prog ops Q (o :: rest) a w1 := by
  have hl : (u8s bs).length = n := by rw [u8s_length]; exact hr.1
  refine wpList_copy_splice hgd d s 38 38 ho 5 Tryz.underlying38 Tryz.size5 _ _ n cap n c hd hs w.heap.size 0 _ 5 hg.out (u8s bs) (by rw [hl]; exact (Nat.min_self n).symm)
    (fun hp => ⟨rfl, hr.src hb hp⟩) (by simp; omega) (u8s_one bs) w.heap.size w hb (Nat.le_refl _) ?_
  intro w' hw' hb'
  rw [hl]
  exact h w' (copy_put hr.1 hcap hm (Nat.le_refl _) hw'.out) hb'

/-- append of one byte that fits. -/
theorem wpList_append_byte {w wr : World} {ops : Array Oper} {rest : List Oper} {o : Oper} {a : Act} {Q : Exit → Act → World → Prop} (hgd : o.guard = none) (s x : Operand)
    (ho : o.op = Op.call { callee := Callee.builtin Builtin.append, args := #[s, x], argTypes := #[38, 38] })
    (B g n cap : Nat) (bs : List UInt8) (z : Int) (u : UInt8) (hs : a.eval s = .slice (some ⟨g, 0, none⟩) n cap) (hx : a.eval x = .slice (some ⟨wr.heap.size, 0, none⟩) 1 1)
    (hown : Hid (wr.ownsRow B 5 1 (.slice (some ⟨g, 0, none⟩) n cap) n (u8s bs))) (hb : Below B w wr) (hBg : B ≤ g) (hB : B ≤ wr.heap.size) (hz : z = (u.toNat : Int)) (hfit : n + 1 ≤ cap)
    (h : ∀ w', Hid (w'.ownsRow B 5 1 (.slice (some ⟨g, 0, none⟩) (n + 1) cap) (n + 1) (u8s (bs ++ [u]))) → Below B w w' → wpList Tryz.prog ops Q rest (a.put o.dst (.slice (some ⟨g, 0, none⟩) (n + 1) cap)) w') :
    wpList Tryz.prog ops Q (o :: rest) a (wr.alloc (.cells #[.int .u8 z] 5)) := by
  obtain ⟨i0, hi, hz0, hz1, hz2⟩ := info_parts Tryz.info5
  refine wpList_append_fits _ hgd s x 38 ho B 5 i0 1 Tryz.underlying38 hi hz1 g n cap _ hs (hown.out.alloc _) ⟨wr.heap.size, 0, none⟩ 1 1 [.int .u8 z] hx rfl (cell_one_new _ _ _) (by intro v hv; simp at hv; subst hv; rfl) hfit ?_
  intro w' hown' hg'
  subst hz
  refine h w' ?_ ((hb.alloc hB _).grown hg' (by simp; omega) (fun k hk => by cases hk; exact hBg))
  rw [u8s_append]
  exact hown'

theorem be_cell (size n k : Nat) : ((n : Int) / 2 ^ (8 * (size - 1 - k)) % 256) = ((beAt size n k).toNat : Int) := by
  rw [beAt_toNat]
  have : (2 : Nat) ^ (8 * (size - 1 - k)) = 256 ^ (size - 1 - k) := by rw [Nat.pow_mul]
  rw [← this]
  simp only [Int.natCast_emod, Int.natCast_ediv, Int.natCast_pow]
  rfl

set_option maxHeartbeats 400000 in
theorem put64_any (A : Option Addr) (n c : Nat) (bs : List UInt8) (num : Nat) (w : World) (hr : Rd w A n bs) (hn : n ≤ 140737488355328) :
    Calls Tryz.prog 68 #[.slice A n c, .int .u64 num] w fun e w' => e = .returned (.slice (some ⟨w.heap.size, 0, none⟩) (n + 8) (n + 8)) ∧
      w'.ownsRow w.heap.size 5 1 (.slice (some ⟨w.heap.size, 0, none⟩) (n + 8) (n + 8)) (n + 8) (u8s (bs ++ be 8 num)) ∧ Below w.heap.size w w' := by
  have HR : Hid (Rd w A n bs) := hr
  clear hr
  go_enter Tryz.func68, Tryz.ntmps68
  go_wp2_with (first
    | (go_at_call 98; refine (w8_any _).mono ?_; rintro e w' ⟨rfl, rfl⟩)
    | (at_make; go_must (refine wpList_make_lc _ rfl _ _ rfl _ _ n (n + 8) rfl rfl (by omega) (by omega) (by omega) (by omega) ?_); intro w1 hw1 hb1 hs1)
    | (refine wpList_copy_in (w := w) rfl (.tmp 16) (.tmp 17) rfl A n c (n + 8) bs rfl rfl HR.out hb1 (by omega) (by unfold maxLen; omega) hw1 ?_; intro w2 hw2 hb2; clear hw1 hb1 hs1)
    | fail)
  have HO := Lib.hid hw2
  clear hw2
  go_loopw [6, 20] (fun v i wr => ∃ k : Nat, k ≤ 8 ∧ i = .int .i64 k ∧ v = .slice (some ⟨w.heap.size, 0, none⟩) (n + k) (n + 8) ∧
      Hid (wr.ownsRow w.heap.size 5 1 (.slice (some ⟨w.heap.size, 0, none⟩) (n + k) (n + 8)) (n + k) (u8s (bs ++ beTake 8 num k))) ∧ Below w.heap.size w wr)
    (fun _ i _ => 8 - (intOf i).toNat)
  case atStart => exact ⟨0, by omega, rfl, rfl, by simpa [beTake] using HO, hb2⟩
  case round =>
    obtain ⟨k, hk, rfl, rfl, HW, hb⟩ := hrel
    by_cases hk8 : k < 8
    · go_wp2_with (at_builtin; go_must (refine wpList_append_byte (w := w) rfl (.tmp 23) (.tmp 32) rfl w.heap.size w.heap.size (n + k) (n + 8) _ _ (beAt 8 num k) rfl rfl HW hb (Nat.le_refl _) hb.size (be_cell 8 num k) (by omega) ?_); intro w3 HW3 hb3)
      go_roundw
      case rel => exact ⟨k + 1, by omega, by go_num, rfl, by rw [beTake_succ, ← List.append_assoc]; exact HW3, hb3⟩
      case measure => simp [intOf]; omega
    · obtain rfl : k = 8 := by omega
      go_wp2
      go_ret
      exact ⟨rfl, HW.out, hb⟩
set_option maxHeartbeats 400000 in
theorem put16_any (A : Option Addr) (n c : Nat) (bs : List UInt8) (num : Nat) (w : World) (hr : Rd w A n bs) (hn : n ≤ 140737488355328) :
    Calls Tryz.prog 123 #[.slice A n c, .int .u16 num] w fun e w' => e = .returned (.slice (some ⟨w.heap.size, 0, none⟩) (n + 2) (n + 2)) ∧
      w'.ownsRow w.heap.size 5 1 (.slice (some ⟨w.heap.size, 0, none⟩) (n + 2) (n + 2)) (n + 2) (u8s (bs ++ be 2 num)) ∧ Below w.heap.size w w' := by
  have HR : Hid (Rd w A n bs) := hr
  clear hr
  go_enter Tryz.func123, Tryz.ntmps123
  go_wp2_with (first
    | (go_at_call 128; refine (w2_any _).mono ?_; rintro e w' ⟨rfl, rfl⟩)
    | (at_make; go_must (refine wpList_make_lc _ rfl _ _ rfl _ _ n (n + 2) rfl rfl (by omega) (by omega) (by omega) (by omega) ?_); intro w1 hw1 hb1 hs1)
    | (refine wpList_copy_in (w := w) rfl (.tmp 16) (.tmp 17) rfl A n c (n + 2) bs rfl rfl HR.out hb1 (by omega) (by unfold maxLen; omega) hw1 ?_; intro w2 hw2 hb2; clear hw1 hb1 hs1)
    | fail)
  have HO := Lib.hid hw2
  clear hw2
  go_loopw [6, 20] (fun v i wr => ∃ k : Nat, k ≤ 2 ∧ i = .int .i64 k ∧ v = .slice (some ⟨w.heap.size, 0, none⟩) (n + k) (n + 2) ∧
      Hid (wr.ownsRow w.heap.size 5 1 (.slice (some ⟨w.heap.size, 0, none⟩) (n + k) (n + 2)) (n + k) (u8s (bs ++ beTake 2 num k))) ∧ Below w.heap.size w wr)
    (fun _ i _ => 2 - (intOf i).toNat)
  case atStart => exact ⟨0, by omega, rfl, rfl, by simpa [beTake] using HO, hb2⟩
  case round =>
    obtain ⟨k, hk, rfl, rfl, HW, hb⟩ := hrel
    by_cases hk2 : k < 2
    · go_wp2_with (at_builtin; go_must (refine wpList_append_byte (w := w) rfl (.tmp 23) (.tmp 32) rfl w.heap.size w.heap.size (n + k) (n + 2) _ _ (beAt 2 num k) rfl rfl HW hb (Nat.le_refl _) hb.size (be_cell 2 num k) (by omega) ?_); intro w3 HW3 hb3)
      go_roundw
      case rel => exact ⟨k + 1, by omega, by go_num, rfl, by rw [beTake_succ, ← List.append_assoc]; exact HW3, hb3⟩
      case measure => simp [intOf]; omega
    · obtain rfl : k = 2 := by omega
      go_wp2
      go_ret
      exact ⟨rfl, HW.out, hb⟩
end Go.Proofs.YtghjogneogkpoaaGreatDoor.Oct

namespace Go.Proofs.YtghjogneogkpoaaGreatDoor.Oct
open Go.RowKit
set_option maxRecDepth 100000

theorem Rd.of_own {w : World} {B n : Nat} {bs : List UInt8} {A : Option Addr} {c : Nat} (h : w.ownsRow B 5 1 (.slice A n c) n (u8s bs)) : Rd w A n bs := by
  have hl : bs.length = n := by have := h.1; rw [u8s_length] at this; omega
  refine ⟨hl, fun hn => ?_⟩
  rcases h.2 with ⟨h0, h1⟩ | ⟨g, cap, cur, hv, _, hh, _⟩
  · omega
  · have hA : A = some ⟨g, 0, none⟩ := by injection hv
    subst hA
    refine ⟨g, 0, rfl, ?_, fun j u hu => ?_⟩
    · exact (h.lt g rfl).2
    · have := h.cells (g := g) rfl j (.int .u8 (u.toNat : Int)) (by simp [u8s, hu])
      rwa [Addr.add_lit] at this

theorem Rd.below {w w' : World} {A : Option Addr} {n : Nat} {bs : List UInt8} (h : Rd w A n bs) (hb : Below w.heap.size w w') : Rd w' A n bs := by
  refine ⟨h.1, fun hn => ?_⟩
  obtain ⟨b, o, hA, hlt, hc⟩ := h.2 hn
  exact ⟨b, o, hA, Nat.lt_of_lt_of_le hlt hb.size, fun j u hu => (hb.cell (p := ⟨b, o + j, none⟩) hlt).trans (hc j u hu)⟩

/-- The shape of a slice value: nil, or somewhere with room. -/
def Sl (A : Option Addr) (n c : Nat) : Prop := (A = none → n = 0 ∧ c = 0) ∧ n ≤ c ∧ c ≤ 9223372036854775807

theorem own_shape {w : World} {B n : Nat} {v : Value} {xs : List Value} (h : w.ownsRow B 5 1 v n xs) : ∃ A c, v = .slice A n c ∧ Sl A n c := by
  rcases h.2 with ⟨rfl, rfl⟩ | ⟨g, cap, cur, rfl, _, _, hn, hm, _⟩
  · exact ⟨none, 0, rfl, ⟨fun _ => ⟨rfl, rfl⟩, Nat.le_refl _, by omega⟩⟩
  · exact ⟨_, cap, rfl, ⟨(fun h => (by cases h)), hn, by unfold maxLen at hm; omega⟩⟩

theorem word_any (A : Option Addr) (n c : Nat) (bs : List UInt8) (num : Nat) (w : World) (hr : Rd w A n bs) (hn : n ≤ 140737488355328) :
    Calls Tryz.prog 40 #[.slice A n c, .int .u64 num] w fun e w' => ∃ g c', e = .returned (.slice (some ⟨g, 0, none⟩) (n + 8) c') ∧ w'.ownsRow w.heap.size 5 1 (.slice (some ⟨g, 0, none⟩) (n + 8) c') (n + 8) (u8s (bs ++ be 8 num)) ∧ Below w.heap.size w w' := by
  go_enter Tryz.func40, Tryz.ntmps40
  go_wp2_with (go_at_call 68; refine (put64_any A n c bs num w hr hn).mono ?_; rintro e w' ⟨rfl, ho, hb⟩)
  go_ret
  exact ⟨_, _, rfl, ho, hb⟩

theorem clone_nil (w : World) : Calls Tryz.prog 72 #[.slice none 0 0] w fun e w' => e = .returned (.slice none 0 0) ∧ w = w' := by
  have hq := fun wx : World => Lib.run_eql_slice_nil (P := Tryz.prog) wx 38 5 none 0 0 0 0 Tryz.underlying38
  go_enter Tryz.func72, Tryz.ntmps72
  go_wp2
  go_ret
  exact ⟨rfl, rfl⟩

theorem clone_some (ad : Addr) (n c : Nat) (bs : List UInt8) (w : World) (hr : Rd w (some ad) n bs) (hn : n ≤ 140737488355328) :
    Calls Tryz.prog 72 #[.slice (some ad) n c] w fun e w' => ∃ A' c', e = .returned (.slice A' n c') ∧
      w'.ownsRow w.heap.size 5 1 (.slice A' n c') n (u8s bs) ∧ Sl A' n c' ∧ Below w.heap.size w w' := by
  obtain ⟨i0, hi, hz0, hz1, hz2⟩ := info_parts Tryz.info5
  have hq := fun wx : World => Lib.run_eql_slice_nil (P := Tryz.prog) wx 38 5 (some ad) n c 0 0 Tryz.underlying38
  have hl : (u8s bs).length = n * 1 := by rw [u8s_length, hr.1]; omega
  have hcells : ∀ W : World, Below w.heap.size w W → ∀ j u, (u8s bs)[j]? = some u → W.cell? (ad.add j) = some u := by
    intro W hb j u hu
    have hp : 0 < (u8s bs).length := by have := (List.getElem?_eq_some_iff.1 hu).1; omega
    obtain ⟨ad2, had, h⟩ := hr.src hb hp
    injection had with had
    subst had
    exact h j u hu
  have HL := Lib.hid hl
  have HC := Lib.hid hcells
  clear hl hcells
  go_enter Tryz.func72, Tryz.ntmps72
  go_wp2_with (at_builtin; go_must (refine wpList_append_own _ rfl (.tmp 5) (.tmp 6) 38 rfl w.heap.size 5 i0 (.int .u8 0) 1 1 Tryz.underlying38 hi hz0 hz1 hz2 rfl (by decide) _ 0 [] rfl (World.ownsRow_lit w #[] 0 (Nat.le_refl _) (Nat.zero_le _) rfl) ad n c (u8s bs) rfl HL.out (HC.out _ ((Below.refl _ _).alloc (Nat.le_refl _) _)) (u8s_one bs) (by unfold maxLen; omega) (by omega) (by simp) ?_); intro v' w2 hv2 hg2 _; rw [Nat.zero_add, List.nil_append] at hv2; obtain ⟨A', c', rfl, hsl⟩ := own_shape hv2)
  go_ret
  exact ⟨_, _, rfl, hv2, hsl, ((Below.refl _ _).alloc (Nat.le_refl _) _).grown hg2 (by simp) (fun k hk => by cases hk; exact Nat.le_refl _)⟩

theorem clone_any (A : Option Addr) (n c : Nat) (bs : List UInt8) (w : World) (hr : Rd w A n bs) (hs : Sl A n c) (hn : n ≤ 140737488355328) :
    Calls Tryz.prog 72 #[.slice A n c] w fun e w' => ∃ A' c', e = .returned (.slice A' n c') ∧
      w'.ownsRow w.heap.size 5 1 (.slice A' n c') n (u8s bs) ∧ Sl A' n c' ∧ Below w.heap.size w w' := by
  rcases A with _ | ad
  · obtain ⟨rfl, rfl⟩ := hs.1 rfl
    have hb : bs = [] := List.eq_nil_of_length_eq_zero hr.1
    subst hb
    exact (clone_nil w).mono fun e w' ⟨he, hw⟩ => hw ▸ ⟨none, 0, he, World.ownsRow_nil _ _ _ _, hs, Below.refl _ _⟩
  · exact clone_some ad n c bs w hr hn

/-- Block g is a cut with rem left to cut. -/
def CutAt (w : World) (lo g : Nat) (rem : List UInt8) (sp : Bool) : Prop :=
  ∃ (A : Option Addr) (n c at_ : Nat) (all : List UInt8), w.heap[g]? = some (.cells #[.slice A n c, .int .i64 (at_ : Int), .bool sp] 94 (0, 0)) ∧ Rd w A n all ∧ Sl A n c ∧ at_ ≤ n ∧
    n ≤ 140737488355328 ∧ rem = all.drop at_ ∧ ∀ ad, A = some ad → lo ≤ ad.block ∧ ad.block < g

theorem new_any (A : Option Addr) (n c : Nat) (bs : List UInt8) (w : World) (hr : Rd w A n bs) (hs : Sl A n c) (hn : n ≤ 140737488355328) :
    Calls Tryz.prog 43 #[.slice A n c] w fun e w' => ∃ g, e = .returned (.pointer (some ⟨g, 0, none⟩)) ∧ w.heap.size ≤ g ∧ CutAt w' w.heap.size g bs false ∧ Below w.heap.size w w' := by
  go_enter Tryz.func43, Tryz.ntmps43
  go_wp2_with (go_at_call 72; refine (clone_any A n c bs w hr hs hn).mono ?_; rintro e w1 ⟨A', c', rfl, ho, hsl, hb⟩)
  go_ret
  refine ⟨_, rfl, hb.size, ⟨A', n, c', 0, bs, heap_alloc_new w1 _, (Rd.of_own ho).below ((Below.refl _ _).alloc (Nat.le_refl _) _), hsl, Nat.zero_le _, hn, by simp, fun ad had => ?_⟩, hb.alloc hb.size _⟩
  subst had
  exact ho.lt ad.block rfl

end Go.Proofs.YtghjogneogkpoaaGreatDoor.Oct
