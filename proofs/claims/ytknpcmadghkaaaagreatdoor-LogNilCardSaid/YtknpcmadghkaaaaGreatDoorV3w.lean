/- Laws and walks. -/
import Derived.Test.YtknpcmadghkaaaaGreatDoorChecked
import Derived.WalkKit
import Derived.WalkSpells
import Derived.WalkLawsBesides
import Derived.Maps.OwnSet
import Derived.Maps.AppendAt
import Derived.Laws.CopyOwn
import Derived.Lib.Hide
import Derived.IntWalk
import Derived.Deep.DeepMust
import Derived.Deep.QuietTactic
import Derived.BigQuiet
import Derived.Deep.WholeRow
import Derived.Deep.MidRow
import Derived.Deep.RegionHeld3
import Derived.StillTailTactics
import Derived.ChangeKeysEq
import Derived.Lib.AppendStr
import Derived.Laws.Rows
import Derived.Test.YtknpcmadghkaaaaGreatDoorBasew
set_option maxHeartbeats 16000000
set_option maxRecDepth 100000
namespace Go.Proofs.YtknpcmadghkaaaaGreatDoor
open Go.RowKit
def u8s (bs : List UInt8) : List Value := bs.map fun b => Value.int .u8 (b.toNat : Int)
theorem u8s_length (l : List UInt8) : (u8s l).length = l.length := by simp [u8s]
theorem u8s_one (l : List UInt8) : ∀ v ∈ u8s l, v.oneCell' = true := by
 intro v hv
 simp only [u8s, List.mem_map] at hv
 obtain ⟨x, _, rfl⟩ := hv
 rfl
theorem u8s_at (l : List UInt8) (k : Nat) (hk : k < l.length) : (u8s l)[k]? = some (.int .u8 ((l.getD k 0).toNat : Int)) := by
 simp [u8s, List.getElem?_eq_getElem hk, List.getD_eq_getElem?_getD]
theorem heap_set {w : World} {g k : Nat} {C : List Value} {t : TypeId} (h : w.heap[g]? = some (.cells C.toArray t (0, 0))) (v : Value) : (w.setCell ⟨g, k, none⟩ v).heap[g]? = some (.cells (C.set k v).toArray t (0, 0)) := by
 simp [World.setCell, Array.getElem?_modify, h]
theorem free_block {w : World} {g : Nat} {C : Array Value} {t : TypeId} (h : w.heap[g]? = some (.cells C t (0, 0))) (k : Nat) : w.frozen? ⟨g, k, none⟩ = false := by
 simp only [World.frozen?, h]
 simp
theorem block_cell {w : World} {g : Nat} {C : List Value} {t : TypeId} (h : w.heap[g]? = some (.cells C.toArray t (0, 0))) (k : Nat) (v : Value) (hv : C[k]? = some v) : w.cell? ⟨g, k, none⟩ = some v := by
 rw [cell_of_row w g k C.toArray t (0, 0) h]
 simpa using hv
theorem range_block {w : World} {g : Nat} {C : List Value} {t : TypeId} (h : w.heap[g]? = some (.cells C.toArray t (0, 0))) (o : Nat) (cs : List Value) (hc : ∀ j v, cs[j]? = some v -> C[o + j]? = some v) : w.rangeAt g o cs := fun j v hv =>
 block_cell h (o + j) v (hc j v hv)
theorem ret_range {P : Program} {fn : Func} {p : Tmp} {ty : TypeId} (h : fn.results = #[.cell p ty]) {tmps : Array Value} {w : World} {g : Nat} {cs : List Value} {d : TypeDesc}
  (hp : tmps.getD p undef = .pointer (some ⟨g, 0, none⟩)) (hc : w.rangeAt g 0 cs) (hu : P.underlying ty = some d) (hd : d.isRow = true) (hi : (P.info? ty).map (·.size) = some cs.length) :
  (results fn tmps).run P w = .ok (.agg cs.toArray) w := by
 have hp' : tmps[p]?.getD undef = .pointer (some ⟨g, 0, none⟩) := by simpa using hp
 simp [results, h, hp', asAddr, run_loadVar_mid w g 0 ty cs d hc hu hd hi]
structure Turns (S : Nat -> Prop) (w w' : World) : Prop where
 os : w'.os = w.os
 tape : w'.tape = w.tape
 output : w'.output = w.output
 size : w.heap.size <= w'.heap.size
 block : ∀ k, k < w.heap.size -> ¬ S k -> w'.heap[k]? = w.heap[k]?
def Own (w : World) (S : Nat -> Prop) (w' : World) (S' : Nat -> Prop) : Prop := Turns S w w' /\ ∀ k, S' k -> S k \/ w.heap.size <= k
theorem Turns.refl (S : Nat -> Prop) (w : World) : Turns S w w := ⟨rfl, rfl, rfl, Nat.le_refl _, fun _ _ _ => rfl⟩
theorem Turns.drewN {S : Nat -> Prop} {a w : World} (h : Turns S a w) (q : Nat) : Turns S a (w.drewN q) := ⟨h.os, h.tape, h.output, h.size, h.block⟩
theorem Turns.mono {S S' : Nat -> Prop} {a w : World} (h : Turns S a w) (hs : ∀ k, S k -> S' k) : Turns S' a w := ⟨h.os, h.tape, h.output, h.size, fun k hk hn => h.block k hk fun x => hn (hs k x)⟩
theorem Turns.step {S S' : Nat -> Prop} {a b c : World} (h : Turns S a b) (k : Turns S' b c) (hs : ∀ k, S' k -> S k \/ a.heap.size <= k) : Turns S a c :=
 ⟨k.os.trans h.os, k.tape.trans h.tape, k.output.trans h.output, Nat.le_trans h.size k.size, fun i hi hn => (k.block i (Nat.lt_of_lt_of_le hi h.size) (fun x => (hs i x).elim hn fun y => by omega)).trans (h.block i hi hn)⟩
theorem Turns.trans {S : Nat -> Prop} {a b c : World} (h : Turns S a b) (k : Turns S b c) : Turns S a c := h.step k fun _ x => .inl x
theorem Turns.alloc {S : Nat -> Prop} {a w : World} (h : Turns S a w) (o : Obj) : Turns S a (w.alloc o) :=
 h.trans ⟨rfl, rfl, rfl, by simp, fun k hk _ => heap_alloc_old w o hk⟩
theorem Turns.setCell {S : Nat -> Prop} {a w : World} (h : Turns S a w) {g : Nat} (hg : S g \/ a.heap.size <= g) (i : Nat) (v : Value) : Turns S a (w.setCell ⟨g, i, none⟩ v) :=
 h.step (S' := (· = g)) ⟨rfl, rfl, rfl, by simp [World.setCell], fun k _ hn => Below.heap_setCell w ⟨g, i, none⟩ v k hn⟩ (by rintro k rfl; exact hg)
theorem Turns.setCells {S : Nat -> Prop} {a : World} {g : Nat} (hg : S g \/ a.heap.size <= g) : ∀ (vs : List Value) (o : Nat) (w : World), Turns S a w -> Turns S a (w.setCells g o vs)
 | [], _, _, h => h
 | v :: r, o, w, h => by
  rw [World.setCells]
  exact Turns.setCells hg r (o + 1) _ (h.setCell hg o v)
theorem Turns.grown {S : Nat -> Prop} {a w w' : World} (h : Turns S a w) {row : Option Nat} (hg : w.grownBy w' row) (hr : ∀ g, row = some g -> S g \/ a.heap.size <= g) : Turns S a w' :=
 h.step (S' := fun k => row = some k) ⟨hg.os, hg.tape, hg.output, hg.size, fun k hk hn => hg.block k hk fun e => hn e.symm⟩ (fun k e => hr k e)
theorem Turns.turned {S : Nat -> Prop} {a w w' : World} (h : Turns S a w) {b : Nat} (hg : w.mapTurned w' b) (hr : S b \/ a.heap.size <= b) : Turns S a w' :=
 h.grown hg.grown (by rintro g e; cases e; exact hr)
theorem Turns.below {S : Nat -> Prop} {a w : World} (h : Turns S a w) {B : Nat} (hB : B <= a.heap.size) (hs : ∀ k, S k -> B <= k) : Below B a w :=
 ⟨h.os, h.tape, h.output, h.size, fun k hk => h.block k (by omega) fun x => by have := hs k x; omega⟩
theorem Own.trans {a b c : World} {S S' S'' : Nat -> Prop} (h : Own a S b S') (k : Own b S' c S'') : Own a S c S'' :=
 ⟨h.1.step k.1 h.2, fun i hi => (k.2 i hi).elim (h.2 i) fun x => .inr (Nat.le_trans h.1.size x)⟩
theorem Own.same {a b : World} {S : Nat -> Prop} (h : Turns S a b) : Own a S b S := ⟨h, fun _ x => .inl x⟩
def rdV (v : Value) : Option (DataW Value × List MemPlace) := some (.held v, [])
def upd {α : Type} (f : Int -> α) (k : Int) (v : α) : Int -> α := fun x => if x = k then v else f x
theorem upd_same {α : Type} (f : Int -> α) (k : Int) (v : α) : upd f k v k = v := by simp [upd]
theorem upd_other {α : Type} (f : Int -> α) {k x : Int} (v : α) (h : x ≠ k) : upd f k v x = f x := by simp [upd, h]
open Go.RowKit
def Sl (A : Option Addr) (n c : Nat) : Prop := (A = none -> n = 0 /\ c = 0) /\ n <= c /\ c <= 9223372036854775807
theorem row_shape {w : World} {B n : Nat} {v : Value} {xs : List Value} {e k : Nat} (h : w.ownsRow B e k v n xs) : ∃ A c, v = .slice A n c /\ Sl A n c := by
 rcases h.2 with ⟨rfl, rfl⟩ | ⟨g, cap, cur, rfl, _, _, hn, hm, _⟩
 ·exact ⟨none, 0, rfl, ⟨fun _ => ⟨rfl, rfl⟩, Nat.le_refl _, by omega⟩⟩
 ·exact ⟨_, cap, rfl, ⟨(fun h => (by cases h)), hn, by unfold maxLen at hm; omega⟩⟩
end Go.Proofs.YtknpcmadghkaaaaGreatDoor
namespace Go.Proofs.YtknpcmadghkaaaaGreatDoor.Oct
def beAt (size n i : Nat) : UInt8 := UInt8.ofNat (n / 256 ^ (size - 1 - i))
def beTake (size n k : Nat) : List UInt8 := (List.range k).map (beAt size n)
def be (size n : Nat) : List UInt8 := beTake size n size
theorem u8s_append (a b : List UInt8) : u8s (a ++ b) = u8s a ++ u8s b := by simp [u8s]
theorem beTake_length (size n k : Nat) : (beTake size n k).length = k := by simp [beTake]
theorem be_length (size n : Nat) : (be size n).length = size := beTake_length _ _ _
theorem beTake_succ (size n k : Nat) : beTake size n (k + 1) = beTake size n k ++ [beAt size n k] := by
 simp [beTake, List.range_succ]
theorem beAt_toNat (size n i : Nat) : ((beAt size n i).toNat : Int) = ((n / 256 ^ (size - 1 - i) % 256 : Nat) : Int) := by
 simp [beAt]
open Go.RowKit
theorem len64_max (w : World) : Calls Tryz.prog 145 #[.int .u64 18446744073709551615] w fun e w' => e = .returned (.int .i64 64) /\ w = w' := by
 go_enter Tryz.func145, Tryz.ntmps145
 go_wp2
 go_ret
 exact ⟨by kernel_rfl, rfl⟩
theorem len64_u16 (w : World) : Calls Tryz.prog 145 #[.int .u64 65535] w fun e w' => e = .returned (.int .i64 16) /\ w = w' := by
 go_enter Tryz.func145, Tryz.ntmps145
 go_wp2
 go_ret
 exact ⟨by kernel_rfl, rfl⟩
theorem w8_any (w : World) : Calls Tryz.prog 178 #[] w fun e w' => e = .returned (.int .i64 8) /\ w = w' := by
 go_enter Tryz.func178, Tryz.ntmps178
 go_wp2_with (go_at_call 145; refine (len64_max _).mono ?_; rintro e w' ⟨rfl, rfl⟩)
 go_ret
 exact ⟨rfl, rfl⟩
theorem w2_any (w : World) : Calls Tryz.prog 179 #[] w fun e w' => e = .returned (.int .i64 2) /\ w = w' := by
 go_enter Tryz.func179, Tryz.ntmps179
 go_wp2_with (go_at_call 145; refine (len64_u16 _).mono ?_; rintro e w' ⟨rfl, rfl⟩)
 go_ret
 exact ⟨rfl, rfl⟩
open Go.RowKit
theorem Tryz.info5 : (Tryz.prog.info? 5).map (fun i => (i.zero, i.size, i.bytes)) = some (some (.int .u8 0), 1, 1) := by kernel_rfl
def Rd (w : World) (A : Option Addr) (n : Nat) (bs : List UInt8) : Prop :=
 bs.length = n /\ (0 < n -> ∃ b o, A = some ⟨b, o, none⟩ /\ b < w.heap.size /\ ∀ j u, bs[j]? = some u -> w.cell? ⟨b, o + j, none⟩ = some (.int .u8 (u.toNat : Int)))
theorem wpList_make_lc (w : World) {ops : Array Oper} {rest : List Oper} {o : Oper} {a : Act} {Q : Exit -> Act -> World -> Prop}
  (hg : o.guard = none) (l c : Operand) (hop : o.op = Op.makeSlice 23 l c)
  (L C : Int) (n m : Nat) (hl : a.eval l = .int .i64 L) (hc : a.eval c = .int .i64 C) (hL : L = (n : Int)) (hC : C = (m : Int)) (hnm : n <= m) (hm : m <= 281474976710656)
  (hK : ∀ w', Hid (w'.heap[w.heap.size]? = some (.cells (List.replicate m (Value.int .u8 0)).toArray 5 (0, 0))) -> Below w.heap.size w w' -> w.heap.size < w'.heap.size -> wpList Tryz.prog ops Q rest (a.put o.dst (.slice (some ⟨w.heap.size, 0, none⟩) n m)) w') :
  wpList Tryz.prog ops Q (o :: rest) a w := by
 obtain ⟨i0, hi, hz0, hz1, hz2⟩ := info_parts Tryz.info5
 refine wpList_plain hg fun K hK' => ?_
 have hrun := run_make (P := Tryz.prog) w 23 5 i0 (.int .u8 0) Tryz.underlying23 hi hz0 .i64 .i64 n m (by omega) (by omega) (by rw [hz2]; omega) (by omega)
 subst hL hC
 unfold Oper.wp
 simp [execOp, hop, hl, hc, hrun, Result.andThen]
 refine hK' _ _ (hK _ ?_ (bl.alloc (Nat.le_refl _) _) (by simp))
 show _ = _
 rw [heap_alloc_new, hz1]
 refine congrArg (fun c => some (Obj.cells c 5 (0, 0))) ?_
 rw [Nat.mul_one]
 exact Array.toList_inj.1 (by rw [show (Value.int IntKind.u8 0).cells = #[Value.int .u8 0] from rfl, toList_madeCells_one])
theorem copy_put {w : World} {cap n : Nat} {bs : List UInt8} {g : Nat} (hn : bs.length = n) (hcap : n <= cap) (hm : cap <= maxLen) {B : Nat} (hB : B <= g)
  (h : w.heap[g]? = some (.cells (splice (List.replicate cap (Value.int .u8 0)) 0 (u8s bs)).toArray 5 (0, 0))) :
  w.ownsRow B 5 1 (.slice (some ⟨g, 0, none⟩) n cap) n (u8s bs) := by
 refine ⟨by rw [u8s_length]; omega, .inr ⟨g, cap, _, rfl, hB, h, hcap, hm, ?_, ?_⟩⟩
 ·rw [List.size_toArray, length_splice]
  ·simp
  ·simp [u8s_length]; omega
 ·have : (u8s bs).length = n := by rw [u8s_length]; exact hn
  simp only [splice, List.take_zero, List.nil_append, Nat.mul_one, <- this]
  exact List.take_left
theorem Rd.src {w w1 : World} {A : Option Addr} {n : Nat} {bs : List UInt8} (h : Rd w A n bs) (hb : Below w.heap.size w w1) :
  0 < (u8s bs).length -> ∃ ad, A = some ad /\ ∀ j v, (u8s bs)[j]? = some v -> w1.cell? (ad.add j) = some v := by
 intro hp
 obtain ⟨hl, hc⟩ := h
 rw [u8s_length] at hp
 obtain ⟨b, o, hA, hlt, hcell⟩ := hc (by omega)
 refine ⟨_, hA, fun j v hv => ?_⟩
 rw [Addr.add_lit]
 simp only [u8s, List.getElem?_map, Option.map_eq_some_iff] at hv
 obtain ⟨u, hu, rfl⟩ := hv
 exact (hb.cell (p := ⟨b, o + j, none⟩) hlt).trans (hcell j u hu)
theorem Tryz.size5 : (Tryz.prog.info? 5).map (·.size) = some 1 := by kernel_rfl
theorem wpList_copy_in {w w1 : World} {ops : Array Oper} {rest : List Oper} {o : Oper} {a : Act} {Q : Exit -> Act -> World -> Prop} (hgd : o.guard = none) (d s : Operand)
  (ho : o.op = .call { callee := .builtin .copy, args := #[d, s], argTypes := #[23, 23] })
  (A : Option Addr) (n c cap : Nat) (bs : List UInt8) (hd : a.eval d = .slice (some ⟨w.heap.size, 0, none⟩) n cap) (hs : a.eval s = .slice A n c)
  (hr : Rd w A n bs) (hb : Below w.heap.size w w1) (hcap : n <= cap) (hm : cap <= maxLen)
  (hg : Hid (w1.heap[w.heap.size]? = some (.cells (List.replicate cap (Value.int .u8 0)).toArray 5 (0, 0))))
  (h : ∀ w', w'.ownsRow w.heap.size 5 1 (.slice (some ⟨w.heap.size, 0, none⟩) n cap) n (u8s bs) -> Below w.heap.size w w' -> wpList Tryz.prog ops Q rest (a.put o.dst (goInt n)) w') :
  wpList Tryz.prog ops Q (o :: rest) a w1 := by
 have hl : (u8s bs).length = n := by rw [u8s_length]; exact hr.1
 refine wpList_copy_splice hgd d s 23 23 ho 5 Tryz.underlying23 Tryz.size5 _ _ n cap n c hd hs w.heap.size 0 _ 5 hg.out (u8s bs) (by rw [hl]; exact (Nat.min_self n).symm)
  (fun hp => ⟨rfl, hr.src hb hp⟩) (by simp; omega) (u8s_one bs) w.heap.size w hb (Nat.le_refl _) ?_
 intro w' hw' hb'
 rw [hl]
 exact h w' (copy_put hr.1 hcap hm (Nat.le_refl _) hw'.out) hb'
theorem wpList_append_byte {w wr : World} {ops : Array Oper} {rest : List Oper} {o : Oper} {a : Act} {Q : Exit -> Act -> World -> Prop} (hgd : o.guard = none) (s x : Operand)
  (ho : o.op = Op.call { callee := Callee.builtin Builtin.append, args := #[s, x], argTypes := #[23, 23] })
  (B g n cap : Nat) (bs : List UInt8) (z : Int) (u : UInt8) (hs : a.eval s = .slice (some ⟨g, 0, none⟩) n cap) (hx : a.eval x = .slice (some ⟨wr.heap.size, 0, none⟩) 1 1)
  (hown : Hid (wr.ownsRow B 5 1 (.slice (some ⟨g, 0, none⟩) n cap) n (u8s bs))) (hb : Below B w wr) (hBg : B <= g) (hB : B <= wr.heap.size) (hz : z = (u.toNat : Int)) (hfit : n + 1 <= cap)
  (h : ∀ w', Hid (w'.ownsRow B 5 1 (.slice (some ⟨g, 0, none⟩) (n + 1) cap) (n + 1) (u8s (bs ++ [u]))) -> Below B w w' -> wpList Tryz.prog ops Q rest (a.put o.dst (.slice (some ⟨g, 0, none⟩) (n + 1) cap)) w') :
  wpList Tryz.prog ops Q (o :: rest) a (wr.alloc (.cells #[.int .u8 z] 5)) := by
 obtain ⟨i0, hi, hz0, hz1, hz2⟩ := info_parts Tryz.info5
 refine wpList_append_fits _ hgd s x 23 ho B 5 i0 1 Tryz.underlying23 hi hz1 g n cap _ hs (hown.out.alloc _) ⟨wr.heap.size, 0, none⟩ 1 1 [.int .u8 z] hx rfl (cell_one_new _ _ _) (by intro v hv; simp at hv; subst hv; rfl) hfit ?_
 intro w' hown' hg'
 subst hz
 refine h w' ?_ ((hb.alloc hB _).grown hg' (by simp; omega) (fun k hk => by cases hk; exact hBg))
 rw [u8s_append]
 exact hown'
theorem be_cell (size n k : Nat) : ((n : Int) / 2 ^ (8 * (size - 1 - k)) % 256) = ((beAt size n k).toNat : Int) := by
 rw [beAt_toNat]
 have : (2 : Nat) ^ (8 * (size - 1 - k)) = 256 ^ (size - 1 - k) := by rw [Nat.pow_mul]
 rw [<- this]
 simp only [Int.natCast_emod, Int.natCast_ediv, Int.natCast_pow]
 rfl
theorem put64_any (A : Option Addr) (n c : Nat) (bs : List UInt8) (num : Nat) (w : World) (hr : Rd w A n bs) (hn : n <= 140737488355328) :
  Calls Tryz.prog 173 #[.slice A n c, .int .u64 num] w fun e w' => e = .returned (.slice (some ⟨w.heap.size, 0, none⟩) (n + 8) (n + 8)) /\
   w'.ownsRow w.heap.size 5 1 (.slice (some ⟨w.heap.size, 0, none⟩) (n + 8) (n + 8)) (n + 8) (u8s (bs ++ be 8 num)) /\ Below w.heap.size w w' := by
 have HR : Hid (Rd w A n bs) := hr
 clear hr
 go_enter Tryz.func173, Tryz.ntmps173
 go_wp2_with (first
  | (go_at_call 178; refine (w8_any _).mono ?_; rintro e w' ⟨rfl, rfl⟩)
  | (at_make; go_must (refine wpList_make_lc _ rfl _ _ rfl _ _ n (n + 8) rfl rfl (by omega) (by omega) (by omega) (by omega) ?_); intro w1 hw1 hb1 hs1)
  | (refine wpList_copy_in (w := w) rfl (.tmp 16) (.tmp 17) rfl A n c (n + 8) bs rfl rfl HR.out hb1 (by omega) (by unfold maxLen; omega) hw1 ?_; intro w2 hw2 hb2; clear hw1 hb1 hs1)
  | fail)
 have HO := iq hw2
 clear hw2
 go_loopw [6, 20] (fun v i wr => ∃ k : Nat, k <= 8 /\ i = .int .i64 k /\ v = .slice (some ⟨w.heap.size, 0, none⟩) (n + k) (n + 8) /\
   Hid (wr.ownsRow w.heap.size 5 1 (.slice (some ⟨w.heap.size, 0, none⟩) (n + k) (n + 8)) (n + k) (u8s (bs ++ beTake 8 num k))) /\ Below w.heap.size w wr)
  (fun _ i _ => 8 - (intOf i).toNat)
 case atStart => exact ⟨0, by omega, rfl, rfl, by simpa [beTake] using HO, hb2⟩
 case round =>
  obtain ⟨k, hk, rfl, rfl, HW, hb⟩ := hrel
  by_cases hk8 : k < 8
  ·go_wp2_with (at_builtin; go_must (refine wpList_append_byte (w := w) rfl (.tmp 23) (.tmp 32) rfl w.heap.size w.heap.size (n + k) (n + 8) _ _ (beAt 8 num k) rfl rfl HW hb (Nat.le_refl _) hb.size (be_cell 8 num k) (by omega) ?_); intro w3 HW3 hb3)
   go_roundw
   case rel => exact ⟨k + 1, by omega, by go_num, rfl, by rw [beTake_succ, <- List.append_assoc]; exact HW3, hb3⟩
   case measure => simp [intOf]; omega
  ·obtain rfl : k = 8 := by omega
   go_wp2
   go_ret
   exact ⟨rfl, HW.out, hb⟩
theorem put16_any (A : Option Addr) (n c : Nat) (bs : List UInt8) (num : Nat) (w : World) (hr : Rd w A n bs) (hn : n <= 140737488355328) :
  Calls Tryz.prog 174 #[.slice A n c, .int .u16 num] w fun e w' => e = .returned (.slice (some ⟨w.heap.size, 0, none⟩) (n + 2) (n + 2)) /\
   w'.ownsRow w.heap.size 5 1 (.slice (some ⟨w.heap.size, 0, none⟩) (n + 2) (n + 2)) (n + 2) (u8s (bs ++ be 2 num)) /\ Below w.heap.size w w' := by
 have HR : Hid (Rd w A n bs) := hr
 clear hr
 go_enter Tryz.func174, Tryz.ntmps174
 go_wp2_with (first
  | (go_at_call 179; refine (w2_any _).mono ?_; rintro e w' ⟨rfl, rfl⟩)
  | (at_make; go_must (refine wpList_make_lc _ rfl _ _ rfl _ _ n (n + 2) rfl rfl (by omega) (by omega) (by omega) (by omega) ?_); intro w1 hw1 hb1 hs1)
  | (refine wpList_copy_in (w := w) rfl (.tmp 16) (.tmp 17) rfl A n c (n + 2) bs rfl rfl HR.out hb1 (by omega) (by unfold maxLen; omega) hw1 ?_; intro w2 hw2 hb2; clear hw1 hb1 hs1)
  | fail)
 have HO := iq hw2
 clear hw2
 go_loopw [6, 20] (fun v i wr => ∃ k : Nat, k <= 2 /\ i = .int .i64 k /\ v = .slice (some ⟨w.heap.size, 0, none⟩) (n + k) (n + 2) /\
   Hid (wr.ownsRow w.heap.size 5 1 (.slice (some ⟨w.heap.size, 0, none⟩) (n + k) (n + 2)) (n + k) (u8s (bs ++ beTake 2 num k))) /\ Below w.heap.size w wr)
  (fun _ i _ => 2 - (intOf i).toNat)
 case atStart => exact ⟨0, by omega, rfl, rfl, by simpa [beTake] using HO, hb2⟩
 case round =>
  obtain ⟨k, hk, rfl, rfl, HW, hb⟩ := hrel
  by_cases hk2 : k < 2
  ·go_wp2_with (at_builtin; go_must (refine wpList_append_byte (w := w) rfl (.tmp 23) (.tmp 32) rfl w.heap.size w.heap.size (n + k) (n + 2) _ _ (beAt 2 num k) rfl rfl HW hb (Nat.le_refl _) hb.size (be_cell 2 num k) (by omega) ?_); intro w3 HW3 hb3)
   go_roundw
   case rel => exact ⟨k + 1, by omega, by go_num, rfl, by rw [beTake_succ, <- List.append_assoc]; exact HW3, hb3⟩
   case measure => simp [intOf]; omega
  ·obtain rfl : k = 2 := by omega
   go_wp2
   go_ret
   exact ⟨rfl, HW.out, hb⟩
open Go.RowKit
theorem Rd.of_own {w : World} {B n : Nat} {bs : List UInt8} {A : Option Addr} {c : Nat} (h : w.ownsRow B 5 1 (.slice A n c) n (u8s bs)) : Rd w A n bs := by
 have hl : bs.length = n := by have := h.1; rw [u8s_length] at this; omega
 refine ⟨hl, fun hn => ?_⟩
 rcases h.2 with ⟨h0, h1⟩ | ⟨g, cap, cur, hv, _, hh, _⟩
 ·omega
 ·have hA : A = some ⟨g, 0, none⟩ := by injection hv
  subst hA
  refine ⟨g, 0, rfl, ?_, fun j u hu => ?_⟩
  ·exact (h.lt g rfl).2
  ·have := h.cells (g := g) rfl j (.int .u8 (u.toNat : Int)) (by simp [u8s, hu])
   rwa [Addr.add_lit] at this
theorem Rd.below {w w' : World} {A : Option Addr} {n : Nat} {bs : List UInt8} (h : Rd w A n bs) (hb : Below w.heap.size w w') : Rd w' A n bs := by
 refine ⟨h.1, fun hn => ?_⟩
 obtain ⟨b, o, hA, hlt, hc⟩ := h.2 hn
 exact ⟨b, o, hA, Nat.lt_of_lt_of_le hlt hb.size, fun j u hu => (hb.cell (p := ⟨b, o + j, none⟩) hlt).trans (hc j u hu)⟩
def Sl (A : Option Addr) (n c : Nat) : Prop := (A = none -> n = 0 /\ c = 0) /\ n <= c /\ c <= 9223372036854775807
theorem own_shape {w : World} {B n : Nat} {v : Value} {xs : List Value} (h : w.ownsRow B 5 1 v n xs) : ∃ A c, v = .slice A n c /\ Sl A n c := by
 rcases h.2 with ⟨rfl, rfl⟩ | ⟨g, cap, cur, rfl, _, _, hn, hm, _⟩
 ·exact ⟨none, 0, rfl, ⟨fun _ => ⟨rfl, rfl⟩, Nat.le_refl _, by omega⟩⟩
 ·exact ⟨_, cap, rfl, ⟨(fun h => (by cases h)), hn, by unfold maxLen at hm; omega⟩⟩
theorem word_any (A : Option Addr) (n c : Nat) (bs : List UInt8) (num : Nat) (w : World) (hr : Rd w A n bs) (hn : n <= 140737488355328) :
  Calls Tryz.prog 165 #[.slice A n c, .int .u64 num] w fun e w' => ∃ g c', e = .returned (.slice (some ⟨g, 0, none⟩) (n + 8) c') /\ w'.ownsRow w.heap.size 5 1 (.slice (some ⟨g, 0, none⟩) (n + 8) c') (n + 8) (u8s (bs ++ be 8 num)) /\ Below w.heap.size w w' := by
 go_enter Tryz.func165, Tryz.ntmps165
 go_wp2_with (go_at_call 173; refine (put64_any A n c bs num w hr hn).mono ?_; rintro e w' ⟨rfl, ho, hb⟩)
 go_ret
 exact ⟨_, _, rfl, ho, hb⟩
open Go.RowKit
theorem Rd.cut {w : World} {A : Option Addr} {n c k : Nat} {all : List UInt8} (h : Rd w A n all) (hk : k <= n) (hc : n <= c) :
  Rd w (if c = k then A else A.map (·.add k)) (n - k) (all.drop k) := by
 refine ⟨by rw [List.length_drop, h.1], fun hn => ?_⟩
 obtain ⟨b, o, rfl, hb, hcell⟩ := h.2 (by omega)
 rw [if_neg (by omega)]
 refine ⟨b, o + k, by simp [Addr.add_lit], hb, fun j u hu => ?_⟩
 rw [Nat.add_assoc]
 exact hcell _ u (by rw [<- hu, List.getElem?_drop])
theorem Rd.take {w : World} {A : Option Addr} {n k : Nat} {all : List UInt8} (h : Rd w A n all) (hk : k <= n) : Rd w A k (all.take k) := by
 refine ⟨by rw [List.length_take, h.1]; omega, fun hn => ?_⟩
 obtain ⟨b, o, rfl, hb, hcell⟩ := h.2 (by omega)
 refine ⟨b, o, rfl, hb, fun j u hu => hcell j u ?_⟩
 rw [List.getElem?_take] at hu
 split at hu
 ·exact hu
 ·cases hu
theorem Rd.drewN {w : World} {A : Option Addr} {n : Nat} {bs : List UInt8} (h : Rd w A n bs) (q : Nat) : Rd (w.drewN q) A n bs := h
theorem Sl.cut {A : Option Addr} {n c k m : Nat} (h : Sl A n c) (hk : k + m <= n) : Sl (if c = k then A else A.map (·.add k)) m (c - k) := by
 obtain ⟨h1, h2, h3⟩ := h
 refine ⟨fun he => ?_, by omega, by omega⟩
 split at he
 ·obtain ⟨rfl, rfl⟩ := h1 he
  omega
 ·have : A = none := by simpa using he
  obtain ⟨rfl, rfl⟩ := h1 this
  omega
def fits (rem : List UInt8) (sp : Bool) (k : Int) : Bool := !sp && (decide (0 <= k) && decide (k <= (rem.length : Int)))
open Go.RowKit
def num (bs : List UInt8) : Nat := bs.foldl (fun n b => n * 256 + b.toNat) 0
open Go.RowKit
def str (bs : List UInt8) : ByteArray := ⟨bs.toArray⟩
open Go.RowKit
theorem text_ok (A : Option Addr) (n c : Nat) (bs : List UInt8) (s : ByteArray) (w : World) (hr : Rd w A n bs) (hn : n <= 140737488289790) (hs : s.size <= 65535) :
  Calls Tryz.prog 166 #[.slice A n c, .string s] w fun e w' => ∃ A' c', e = .returned (.tuple #[.slice A' (n + 2 + s.size) c', .int .i64 0]) /\
   w'.ownsRow w.heap.size 5 1 (.slice A' (n + 2 + s.size) c') (n + 2 + s.size) (u8s (bs ++ be 2 s.size ++ s.data.toList)) /\ Sl A' (n + 2 + s.size) c' /\ Below w.heap.size w w' := by
 obtain ⟨i0, hi, hz0, hz1, hz2⟩ := info_parts Tryz.info5
 have hso : ¬ ((s.size : Int) > 65535) := by omega
 have hsn : ¬ (65535 < s.size) := by omega
 have hsm : ¬ ((65535 : Int) < (s.size : Int)) := by omega
 have hw : (s.size : Int) % 65536 = (s.size : Int) := by omega
 go_enter Tryz.func166, Tryz.ntmps166
 go_wp2_with (first
  | (go_at_call 174; refine (put16_any A n c bs s.size w hr (by omega)).mono ?_; rintro e w' ⟨rfl, ho, hb⟩)
  | (at_builtin; go_must (refine Lib.wpList_append_own_string _ rfl (.tmp 13) (.tmp 14) 23 9 rfl w.heap.size 5 i0 Tryz.underlying23 Tryz.underlying9 hi hz0 hz1 hz2 _ (n + 2) _ rfl ho s rfl (by unfold maxLen; omega) (by omega) hb.size ?_); intro v' w2 hv2 hg2 _; obtain ⟨A', c', rfl, hsl⟩ := own_shape hv2))
 go_ret2
 refine ⟨_, _, rfl, ?_, hsl, hb.grown hg2 hb.size (fun k hk => by cases hk; exact Nat.le_refl _)⟩
 rw [u8s_append]
 exact hv2
end Go.Proofs.YtknpcmadghkaaaaGreatDoor.Oct
