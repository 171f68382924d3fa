/- Laws and walks. -/
import Derived.Test.YtknpcmadghkaaaaGreatDoorS2w
import Derived.Deep.RegionHeld3
import Derived.ChangeKeysEq
set_option maxHeartbeats 16000000
set_option maxRecDepth 100000

namespace Go.Proofs.YtknpcmadghkaaaaGreatDoor.Sh
open Go.RowKit
theorem blockOf_length (h : List UInt32) (b : List UInt8) (hl : h.length = 8) : (blockOf h b).length = 8 := by
 rw [blockOf, List.length_zipWith, hl, mixedOf_length]; rfl
theorem absN_length : ∀ (k : Nat) (h : List UInt32) (b : List UInt8), h.length = 8 -> (absN k h b).length = 8
 | 0, _, _, hl => hl
 | k + 1, h, _, hl => absN_length k _ _ (blockOf_length h _ hl)
theorem absorb_length (b : List UInt8) : (absorb b).length = 8 := absN_length _ _ _ rfl
theorem absN_append : ∀ (k : Nat) (h : List UInt32) (x y : List UInt8), 64 * k <= x.length -> absN k h (x ++ y) = absN k h x
 | 0, _, _, _, _ => rfl
 | k + 1, h, x, y, hx => by
  rw [absN, absN, List.take_append_of_le_length (by omega), List.drop_append_of_le_length (by omega)]
  exact absN_append k _ _ _ (by rw [List.length_drop]; omega)
theorem absN_succ : ∀ (k : Nat) (h : List UInt32) (b : List UInt8), absN (k + 1) h b = blockOf (absN k h b) ((b.drop (64 * k)).take 64)
 | 0, _, _ => rfl
 | k + 1, h, b => by
  rw [absN, absN_succ k, absN, List.drop_drop, show 64 + 64 * k = 64 * (k + 1) by omega]
theorem absorb_more (x y : List UInt8) (h : x.length % 64 + y.length < 64) : absorb (x ++ y) = absorb x := by
 unfold absorb
 rw [List.length_append, show (x.length + y.length) / 64 = x.length / 64 by omega]
 exact absN_append _ _ _ _ (by omega)
theorem absorb_full (x y : List UInt8) (h : x.length % 64 + y.length = 64) : absorb (x ++ y) = blockOf (absorb x) (x.drop (64 * (x.length / 64)) ++ y) := by
 unfold absorb
 rw [List.length_append, show (x.length + y.length) / 64 = x.length / 64 + 1 by omega, absN_succ, absN_append _ _ _ _ (by omega), List.drop_append_of_le_length (by omega), List.take_of_length_le (by simp; omega)]
theorem splice_len (blk ys : List UInt8) (r : Nat) (hb : blk.length = 64) (hr : r + ys.length <= 64) : (splice blk r ys).length = 64 := by rw [length_splice _ _ _ (by omega), hb]
theorem splice_take (blk ys : List UInt8) (r : Nat) (hb : blk.length = 64) (hr : r + ys.length <= 64) : (splice blk r ys).take (r + ys.length) = blk.take r ++ ys := by
 unfold splice
 rw [<- List.append_assoc, List.take_append_of_le_length (by simp; omega), List.take_of_length_le (by simp; omega)]
theorem step_less (xs blk ys : List UInt8) (hb : blk.length = 64) (ht : blk.take (xs.length % 64) = xs.drop (64 * (xs.length / 64))) (h : xs.length % 64 + ys.length < 64) :
  (xs ++ ys).length % 64 = xs.length % 64 + ys.length /\ (splice blk (xs.length % 64) ys).take ((xs ++ ys).length % 64) = (xs ++ ys).drop (64 * ((xs ++ ys).length / 64)) := by
 have e1 : (xs ++ ys).length % 64 = xs.length % 64 + ys.length := by rw [List.length_append]; omega
 refine ⟨e1, ?_⟩
 rw [e1, splice_take _ _ _ hb (by omega), ht, List.length_append, show (xs.length + ys.length) / 64 = xs.length / 64 by omega, List.drop_append_of_le_length (by omega)]
theorem step_full (xs blk ys : List UInt8) (hb : blk.length = 64) (ht : blk.take (xs.length % 64) = xs.drop (64 * (xs.length / 64))) (h : xs.length % 64 + ys.length = 64) :
  (xs ++ ys).length % 64 = 0 /\ absorb (xs ++ ys) = blockOf (absorb xs) (splice blk (xs.length % 64) ys) /\ (xs ++ ys).drop (64 * ((xs ++ ys).length / 64)) = [] := by
 refine ⟨by rw [List.length_append]; omega, ?_, List.drop_of_length_le (by rw [List.length_append]; omega)⟩
 rw [absorb_full _ _ h, <- ht, <- splice_take blk ys _ hb (by omega), h, List.take_of_length_le (by rw [splice_len _ _ _ hb (by omega)]; exact Nat.le_refl _)]
theorem step_load_cells {P : Program} {ops : Array Oper} {o : Oper} {a : Act} {w : World} {K : Act -> World -> Prop} {Q : Exit -> Act -> World -> Prop} {E : Prop} (hgd : o.guard = none) (ty : TypeId) (x : Operand) (ho : o.op = .load ty x)
  (b off : Nat) (hx : a.eval x = .pointer (some ⟨b, off, none⟩)) (cs : List Value) (d : TypeDesc) (hc : w.rangeAt b off cs)
  (hu : P.underlying ty = some d) (hd : d.isRow = true) (hi : (P.info? ty).map (·.size) = some cs.length)
  (h : K (a.put o.dst (.agg cs.toArray)) w) : if Region.wanted o (yielded ops a.tmps) = true then Oper.wp P o a w K Q else E := by
 have hw : Region.wanted o (yielded ops a.tmps) = true := by simp [Region.wanted, hgd]
 rw [if_pos hw]
 exact wp_load_mid ty x ho b off hx cs d hc hu hd hi h
def setAll : List Value -> Nat -> List Value -> List Value
 | C, _, [] => C
 | C, o, v :: r => setAll (C.set o v) (o + 1) r
theorem heap_setCells {g : Nat} {t : TypeId} : ∀ (vs : List Value) (o : Nat) (w : World) (C : List Value), w.heap[g]? = some (.cells C.toArray t (0, 0)) -> (w.setCells g o vs).heap[g]? = some (.cells (setAll C o vs).toArray t (0, 0))
 | [], _, _, _, h => h
 | v :: r, o, w, C, h => by
  rw [World.setCells, setAll]
  exact heap_setCells r (o + 1) _ _ (heap_set h v)
theorem setAll_mid : ∀ (vs p a b : List Value), a.length = vs.length -> setAll (p ++ (a ++ b)) p.length vs = p ++ (vs ++ b)
 | [], p, a, b, h => by
  obtain rfl : a = [] := List.eq_nil_of_length_eq_zero h
  rfl
 | v :: r, p, a, b, h => by
  match a, h with
  | x :: a', h =>
   have := setAll_mid r (p ++ [v]) a' b (by simpa using h)
   rw [setAll, List.set_append_right _ _ (Nat.le_refl _), Nat.sub_self]
   simpa using this
theorem hash_cell {w : World} {g : Nat} {C : List Value} {t : TypeId} (h : w.heap[g]? = some (.cells C.toArray t (0, 0))) (k : Nat) (v : Value) (hv : C[k]? = some v) : w.cell? ⟨g, k, none⟩ = some v := by
 rw [cell_of_row w g k C.toArray t (0, 0) h]
 simpa using hv
theorem there_nums {w : World} {g : Nat} {nums : List UInt32} {blk : List UInt8} {f n : Nat} (hC : w.heap[g]? = some (.cells (hcells nums blk f n).toArray 233 (0, 0))) (hn : nums.length = 8) (hb : blk.length = 64) : w.there g 0 8 := fun j hj => by
 rw [Nat.zero_add]
 refine ⟨?_, free_block hC j⟩
 rw [cell_of_row w g j _ 233 (0, 0) hC]
 have := hcells_length hn hb f n
 simp [this]; omega
theorem step_store_nums {P : Program} {ops : Array Oper} {op : Oper} {a : Act} {w : World} {K : Act -> World -> Prop} {Q : Exit -> Act -> World -> Prop} {E : Prop} (hgd : op.guard = none) (ty : TypeId) (x y : Operand) (ho : op.op = .store ty x y)
  (g : Nat) (nums nums' : List UInt32) (blk : List UInt8) (f n : Nat) (hC : w.heap[g]? = some (.cells (hcells nums blk f n).toArray 233 (0, 0))) (hn : nums.length = 8) (hn' : nums'.length = 8) (hb : blk.length = 64)
  (hx : a.eval x = .pointer (some ⟨g, 0, none⟩)) (hy : a.eval y = .agg (u32s nums').toArray) (hi : (P.info? ty).map (·.size) = some 8)
  (h : ∀ w', Hid (w'.heap[g]? = some (.cells (hcells nums' blk f n).toArray 233 (0, 0)) /\ w.grownBy w' (some g)) -> K (a.put op.dst undef) w') :
  if Region.wanted op (yielded ops a.tmps) = true then Oper.wp P op a w K Q else E := by
 have hw : Region.wanted op (yielded ops a.tmps) = true := by simp [Region.wanted, hgd]
 rw [if_pos hw]
 have hl : (u32s nums').length = 8 := by rw [u32s_length, hn']
 have ht : w.there g 0 (u32s nums').length := by rw [hl]; exact there_nums hC hn hb
 refine wp_store_mid ty x y ho g 0 (u32s nums').toArray hx hy (by simpa using ht) (by simpa [hl] using hi) (all_oneCell_toArray (u32s_one _)) (h _ (iq ⟨?_, gb_setCells _ _ _ _⟩))
 rw [heap_setCells _ 0 w _ hC]
 have := setAll_mid (u32s nums') [] (u32s nums) (u8s blk ++ [.int .i64 (f : Int), .int .u64 (n : Int)]) (by rw [hl, u32s_length, hn])
 simp only [List.nil_append, List.length_nil] at this
 unfold hcells
 rw [this]
theorem KIs.grown {w w' : World} {g : Nat} (h : KIs w) (hb : w.grownBy w' (some g)) (hg : 0 < g) : KIs w' := fun i hi => hb.cell (h i hi) (fun e => by have := Option.some.inj e; simp at this; omega)
theorem range_block {w : World} {g : Nat} {C : List Value} {t : TypeId} (h : w.heap[g]? = some (.cells C.toArray t (0, 0))) (o : Nat) (cs : List Value) (hc : ∀ j v, cs[j]? = some v -> C[o + j]? = some v) : w.rangeAt g o cs := fun j v hv =>
 hash_cell h (o + j) v (hc j v hv)
theorem hcells_nums (nums : List UInt32) (blk : List UInt8) (f n : Nat) (j : Nat) (v : Value) (hv : (u32s nums)[j]? = some v) : (hcells nums blk f n)[0 + j]? = some v := by
 have := (List.getElem?_eq_some_iff.1 hv).1
 rw [Nat.zero_add, hcells, List.getElem?_append_left this, hv]
theorem hcells_blk (nums : List UInt32) (blk : List UInt8) (f n : Nat) (hn : nums.length = 8) (j : Nat) (v : Value) (hv : (u8s blk)[j]? = some v) : (hcells nums blk f n)[8 + j]? = some v := by
 have := (List.getElem?_eq_some_iff.1 hv).1
 rw [hcells, List.getElem?_append_right (by rw [u32s_length]; omega), u32s_length, hn, show 8 + j - 8 = j by omega, List.getElem?_append_left this, hv]
theorem less_is {w : World} {g r L : Nat} {xs ys blk : List UInt8} (hb : blk.length = 64) (ht : blk.take (xs.length % 64) = xs.drop (64 * (xs.length / 64))) (hr : r = xs.length % 64) (h : r + ys.length < 64)
  (hh : w.heap[g]? = some (.cells (hcells (absorb xs) (splice blk r ys) r L).toArray 233 (0, 0))) : HashIs (w.setCell ⟨g, 72, none⟩ (.int .i64 ((r : Int) + (ys.length : Int)))) g (xs ++ ys) L := by
 subst hr
 obtain ⟨h1, h2⟩ := step_less xs blk ys hb ht h
 refine ⟨splice blk (xs.length % 64) ys, splice_len blk ys _ hb (by omega), h2, ?_⟩
 have := heap_set (k := 72) hh (.int .i64 ((xs.length % 64 + ys.length : Nat) : Int))
 rw [hcells_set72 (absorb_length xs) (splice_len blk ys _ hb (by omega))] at this
 rw [absorb_more _ _ h, h1]
 exact this
theorem full_is {w : World} {g r f L : Nat} {xs ys blk : List UInt8} (hb : blk.length = 64) (ht : blk.take (xs.length % 64) = xs.drop (64 * (xs.length / 64))) (hr : r = xs.length % 64) (h : r + ys.length = 64)
  (hh : w.heap[g]? = some (.cells (hcells (blockOf (absorb xs) (splice blk r ys)) (splice blk r ys) f L).toArray 233 (0, 0))) : HashIs (w.setCell ⟨g, 72, none⟩ (.int .i64 0)) g (xs ++ ys) L := by
 subst hr
 obtain ⟨h1, h2, h3⟩ := step_full xs blk ys hb ht h
 refine ⟨splice blk (xs.length % 64) ys, splice_len blk ys _ hb (by omega), by rw [h1, h3]; rfl, ?_⟩
 have := heap_set (k := 72) hh (.int .i64 ((0 : Nat) : Int))
 rw [hcells_set72 (blockOf_length _ _ (absorb_length xs)) (splice_len blk ys _ hb (by omega))] at this
 rw [h2, h1]
 exact this
def WrAt (g : Nat) (bs more : List UInt8) (w wr : World) (A : Option Addr) (n c : Nat) : Prop :=
 Sl A n c /\ n <= more.length /\ Rd (· ≠ g) wr A n (more.drop (more.length - n)) /\ HashIs wr g (bs ++ more.take (more.length - n)) (bs.length + more.length) /\ w.grownBy wr (some g)
def lenOf : Value -> Nat
 | .slice _ n _ => n
 | _ => 0
theorem Tryz.size5 : (Tryz.prog.info? 5).map (·.size) = some 1 := by kernel_rfl
theorem write_any (g : Nat) (bs more : List UInt8) (A : Option Addr) (c : Nat) (w : World) (hh : HashIs w g bs bs.length) (hr : Rd (· ≠ g) w A more.length more) (hs : Sl A more.length c) (hL : bs.length + more.length < 1152921504606846976) (hk : KIs w) (hg0 : 0 < g) :
  Calls Tryz.prog 176 #[.pointer (some ⟨g, 0, none⟩), .slice A more.length c] w fun E w' => E = .returned (.tuple #[]) /\ HashIs w' g (bs ++ more) (bs.length + more.length) /\ w.grownBy w' (some g) := by
 obtain ⟨blk, hb64, hbt, hh⟩ := hh
 have HH := iq hh
 have HR := iq hr
 have HK := iq hk
 have h8 := absorb_length bs
 have c73 := hash_cell hh 73 _ (hcells_73 h8 hb64 _ _)
 have f73 := free_block hh 73
 have HB := iq (And.intro hb64 hbt)
 have HS := iq hs
 clear hh hr hb64 hbt h8 hk hs
 go_enter Tryz.func176, Tryz.ntmps176
 go_wp2
 go_loopw [1] (fun vb wr => ∃ A' n' c', vb = .slice A' n' c' /\ Hid (WrAt g bs more w wr A' n' c')) (fun vb _ => lenOf vb)
 case atStart =>
  refine ⟨A, more.length, c, rfl, iq ⟨HS.out, Nat.le_refl _, ?_, ?_, gb_set _ _ _ _⟩⟩
  ·rw [Nat.sub_self, List.drop_zero]
   exact HR.out.grown (gb_set _ _ _ _) fun _ h => h
  ·rw [Nat.sub_self, List.take_zero, List.append_nil]
   refine ⟨blk, HB.out.1, HB.out.2, ?_⟩
   have := heap_set (k := 73) HH.out (.int .u64 ((bs.length + more.length : Nat) : Int))
   rw [hcells_set73 (absorb_length bs) HB.out.1] at this
   exact this
 case round =>
  clear HH HR HB HS c73 f73
  obtain ⟨A', n', c', rfl, HA⟩ := hrel
  obtain ⟨hs, hnm, hr, hhs, hgr⟩ := HA.out
  obtain ⟨xs, hxs⟩ : ∃ xs, xs = bs ++ more.take (more.length - n') := ⟨_, rfl⟩
  obtain ⟨ms, hms⟩ : ∃ ms, ms = more.drop (more.length - n') := ⟨_, rfl⟩
  rw [<- hxs] at hhs
  rw [<- hms] at hr
  obtain ⟨blk', hb64, hbt, hh⟩ := hhs
  have h8 := absorb_length xs
  obtain ⟨r, hrr⟩ : ∃ r, r = xs.length % 64 := ⟨_, rfl⟩
  have hr64 : r < 64 := by omega
  rw [<- hrr] at hh
  have c72 := hash_cell hh 72 _ (hcells_72 h8 hb64 _ _)
  have f72 := free_block hh 72
  obtain ⟨hs1, hs2, hs3⟩ := id hs
  have HX := iq hxs
  have HM := iq hms
  have HRR := iq hrr
  have HH := iq hh
  have HR := iq hr
  have HB := iq (And.intro hb64 hbt)
  have HG := iq hgr
  have HS := iq hs
  clear hxs hms hrr hh hr hb64 hbt hgr hs h8 HA
  by_cases hn0 : 0 < n'
  ·have b1 : (0 : Int) <= (r : Int) := by omega
   have b2 : (r : Int) <= 64 := by omega
   have b3 : ¬ 64 = r := by omega
   obtain ⟨q, hq⟩ : ∃ q, q = min n' (64 - r) := ⟨_, rfl⟩
   have hqn : q <= n' := by omega
   have hq0 : 0 < q := by omega
   have hrq : r + q <= 64 := by omega
   have HQ := iq hq
   have hml : ms.length = n' := HR.out.1
   obtain ⟨ys, hys⟩ : ∃ ys, ys = ms.take q := ⟨_, rfl⟩
   have hyl : ys.length = q := by rw [hys, List.length_take, hml]; omega
   have HY := iq hys
   have HYL := iq hyl
   have HML := iq hml
   have e1 : (u8s ys).length = q := by rw [u8s_length, hyl]
   have HE := iq e1
   have HSRC : Hid (0 < (u8s ys).length -> ∃ ad, A' = some ad /\ ∀ j v, (u8s ys)[j]? = some v -> wr.drew.cell? (ad.add j) = some v) := iq fun _ => by
    obtain ⟨b, o, hA, _, _, hcell⟩ := HR.out.2 hn0
    refine ⟨_, hA, fun j v hv => ?_⟩
    rw [add_lit]
    simp only [u8s, List.getElem?_map, Option.map_eq_some_iff] at hv
    obtain ⟨u, hu, rfl⟩ := hv
    refine hcell j u ?_
    rw [hys, List.getElem?_take] at hu
    split at hu
    ·exact hu
    ·cases hu
   have HC : Hid (wr.drew.heap[g]? = some (.cells (hcells (absorb xs) blk' r (bs.length + more.length)).toArray 233 (0, 0))) := iq HH.out
   have HFIT : Hid (8 + r + (u8s ys).length <= (hcells (absorb xs) blk' r (bs.length + more.length)).length) := iq (by rw [hcells_length (absorb_length xs) HB.out.1, e1]; omega)
   have HN : Hid ((u8s ys).length = Nat.min n' (64 - r)) := iq (by rw [e1, hq])
   have HNEXT : Hid (∀ (A2 : Option Addr) (w2 : World), A2 = (if c' = q then A' else A'.map (·.add q)) -> HashIs w2 g (xs ++ ys) (bs.length + more.length) -> wr.grownBy w2 (some g) -> WrAt g bs more w w2 A2 (n' - q) (c' - q)) := iq fun A2 w2 hA2 hh hgr => by
    subst hA2
    have e2 : more.length - (n' - q) = (more.length - n') + q := by omega
    refine ⟨HS.out.cut (by omega), by omega, ?_, ?_, gb_trans HG.out hgr⟩
    ·have := (HR.out.cut (c := c') hqn hs2).grown hgr fun _ h => h
     rw [e2, <- List.drop_drop, <- HM.out]
     exact this
    ·rw [e2, List.take_add, <- List.append_assoc, <- HX.out, <- HM.out, <- HY.out]
     exact hh
   clear hq hys hyl hml e1
   have HBL : Hid ((splice blk' r ys).length = 64) := iq (splice_len _ _ _ HB.out.1 (by rw [HYL.out]; exact hrq))
   have HSP : Hid (splice (hcells (absorb xs) blk' r (bs.length + more.length)) (8 + r) (u8s ys) = hcells (absorb xs) (splice blk' r ys) r (bs.length + more.length)) := iq (hcells_splice (absorb_length xs) HB.out.1 _ _ _ _ (by rw [HYL.out]; exact hrq))
   by_cases hcq : c' = q
   all_goals by_cases hfull : r + q = 64
   all_goals (
    go_wp2
    refine wp_region_quiet_tail 9 (by kernel_rfl) (by kernel_rfl) ?_
    simp only [List.take_succ_cons, List.take_zero, List.drop_succ_cons, List.drop_zero]
    repeat (first
     | go_big_quiet_skip
     | (go_big_quiet_want; go_big_quiet_op; go_big_quiet_on))
    refine wpQuiet_nil ?_
    refine wpList_copy_grown rfl (.tmp 27) (.tmp 28) 23 23 rfl 5 Tryz.underlying23 Tryz.size5 _ _ _ _ _ _ rfl rfl g (8 + r) _ 233 HC.out (u8s ys) HN.out (fun hp => ⟨rfl, HSRC.out hp⟩) HFIT.out (u8s_one _) ?_
    intro w2 G
    rw [HSP.out] at G
    rw [HE.out]
    have c72 := hash_cell G.out.1 72 _ (hcells_72 (absorb_length xs) HBL.out _ _)
    have f72 := free_block G.out.1 72
    go_wp2)
   all_goals have HW : Hid ((w2.setCell ⟨g, 72, none⟩ (.int .i64 ((r : Int) + (q : Int)))).heap[g]? = some (.cells (hcells (absorb xs) (splice blk' r ys) (r + q) (bs.length + more.length)).toArray 233 (0, 0))) := iq (by
    have := heap_set (k := 72) G.out.1 (.int .i64 ((r + q : Nat) : Int))
    rw [hcells_set72 (absorb_length xs) HBL.out] at this
    exact this)
   all_goals have HGW : Hid (wr.grownBy (w2.setCell ⟨g, 72, none⟩ (.int .i64 ((r : Int) + (q : Int)))) (some g)) := iq (gb_trans (gb_trans (gb_drewN wr 1 _) G.out.2) (gb_set _ _ _ _))
   ·obtain ⟨blk2, hblk2⟩ : ∃ blk2, blk2 = splice blk' r ys := ⟨_, rfl⟩
    obtain ⟨nums, hnums⟩ : ∃ nums, nums = absorb xs := ⟨_, rfl⟩
    obtain ⟨nm, hnm⟩ : ∃ nm, nm = blockOf nums blk2 := ⟨_, rfl⟩
    have h8 : nums.length = 8 := by rw [hnums, absorb_length]
    have hb2 : blk2.length = 64 := by rw [hblk2, HBL.out]
    have H8 := iq h8
    have H64 := iq hb2
    have HN8 : Hid (nm.length = 8) := iq (by rw [hnm, blockOf_length _ _ h8])
    have HBLK : Hid (∀ w : World, KIs w -> 0 < w.heap.size -> Calls Tryz.prog 181 #[.agg (u32s nums).toArray, .agg (u8s blk2).toArray] w fun E w' => E = .returned (.agg (u32s nm).toArray) /\ Below w.heap.size w w') := iq fun w hk h0 => by
     rw [hnm]
     exact block_any nums blk2 w h8 hb2 hk h0
    rw [<- hblk2, <- hnums] at HW
    have HFU : Hid (∀ (w6 : World) (f : Nat), w6.heap[g]? = some (.cells (hcells nm blk2 f (bs.length + more.length)).toArray 233 (0, 0)) -> HashIs (w6.setCell ⟨g, 72, none⟩ (.int .i64 0)) g (xs ++ ys) (bs.length + more.length)) := iq fun w6 f h6 => by
     refine full_is (f := f) HB.out.1 HB.out.2 HRR.out (by rw [HYL.out]; exact hfull) ?_
     rw [<- hblk2, <- hnums, <- hnm]
     exact h6
    have HI23 : Hid ((Tryz.prog.info? 202).map (·.size) = some (u32s nums).length) := iq (by rw [u32s_length, h8]; exact Tryz.size202)
    have HI24 : Hid ((Tryz.prog.info? 204).map (·.size) = some (u8s blk2).length) := iq (by rw [u8s_length, hb2]; exact Tryz.size204)
    clear hnm hnums hblk2 h8 hb2 c72 f72 G
    generalize w2.setCell ⟨g, 72, none⟩ (.int .i64 ((r : Int) + (q : Int))) = w4 at HW HGW ⊢
    have HGD : Hid (wr.grownBy (w4.drewN 1) (some g)) := iq (gb_trans HGW.out (gb_drewN w4 1 _))
    have HKK : Hid (KIs (w4.drewN 1)) := iq (HK.out.grown (gb_trans HG.out HGD.out) hg0)
    have HWD : Hid ((w4.drewN 1).heap[g]? = some (.cells (hcells nums blk2 (r + q) (bs.length + more.length)).toArray 233 (0, 0))) := iq HW.out
    have HR0 : Hid ((w4.drewN 1).rangeAt g 0 (u32s nums)) := iq (range_block HWD.out 0 _ (hcells_nums nums blk2 _ _))
    have HR8 : Hid ((w4.drewN 1).rangeAt g 8 (u8s blk2)) := iq (range_block HWD.out 8 _ (hcells_blk nums blk2 _ _ H8.out))
    have HG4 : Hid (g < (w4.drewN 1).heap.size) := iq (Array.getElem?_eq_some_iff.1 HWD.out).1
    have HZ : Hid (0 < (w4.drewN 1).heap.size) := iq (Nat.lt_of_le_of_lt (Nat.zero_le _) HG4.out)
    refine wp_region_any (by kernel_rfl) ?_
    change wpAny _ _ _ _ _ _ _ (w4.drewN 1)
    refine wpAny_take (i := 0) (oi := ⟨some 46, .move (.tmp 0), _, _, _, none⟩) (v := (.pointer (some ⟨g, 0, none⟩))) rfl (by kernel_rfl) (by kernel_rfl) (by kernel_rfl) (fun _ _ _ => id) (Or.inl ⟨by rfl, fun w => by go_simp⟩) ?_
    simp only [Act.put, l0, l1, l2]
    refine wpAny_take (i := 1) (oi := ⟨some 47, .move (.tmp 0), _, _, _, none⟩) (v := (.pointer (some ⟨g, 0, none⟩))) rfl (by kernel_rfl) (by kernel_rfl) (by kernel_rfl) (fun _ _ _ => id) (Or.inl ⟨by rfl, fun w => by go_simp⟩) ?_
    simp only [Act.put, l0, l1, l2]
    refine wpAny_take (i := 2) (oi := ⟨some 48, .nilCheck (.tmp 47), _, _, _, none⟩) (v := (.pointer (some ⟨g, 0, none⟩))) rfl (by kernel_rfl) (by kernel_rfl) (by kernel_rfl) (fun _ _ _ => id) (Or.inl ⟨by rfl, fun w => by go_simp⟩) ?_
    simp only [Act.put, l0, l1, l2]
    refine wpAny_take (i := 3) (oi := ⟨some 49, .fieldAddr 233 (.tmp 48) 0, _, _, _, none⟩) (v := (.pointer (some ⟨g, 0, none⟩))) rfl (by kernel_rfl) (by kernel_rfl) (by kernel_rfl) (fun _ _ _ => id) (Or.inl ⟨by rfl, fun w => by go_simp⟩) ?_
    simp only [Act.put, l0, l1, l2]
    refine wpAny_take (i := 5) (oi := ⟨some 51, .move (.tmp 0), _, _, _, none⟩) (v := (.pointer (some ⟨g, 0, none⟩))) rfl (by kernel_rfl) (by kernel_rfl) (by kernel_rfl) (fun _ _ _ => id) (Or.inl ⟨by rfl, fun w => by go_simp⟩) ?_
    simp only [Act.put, l0, l1, l2]
    refine wpAny_take (i := 6) (oi := ⟨some 52, .nilCheck (.tmp 51), _, _, _, none⟩) (v := (.pointer (some ⟨g, 0, none⟩))) rfl (by kernel_rfl) (by kernel_rfl) (by kernel_rfl) (fun _ _ _ => id) (Or.inl ⟨by rfl, fun w => by go_simp⟩) ?_
    simp only [Act.put, l0, l1, l2]
    refine wpAny_take (i := 7) (oi := ⟨some 53, .fieldAddr 233 (.tmp 52) 1, _, _, _, none⟩) (v := (.pointer (some ⟨g, 8, none⟩))) rfl (by kernel_rfl) (by kernel_rfl) (by kernel_rfl) (fun _ _ _ => id) (Or.inl ⟨by rfl, fun w => by go_simp⟩) ?_
    simp only [Act.put, l0, l1, l2]
    refine wpAny_ready (rs := [4, 8]) (by kernel_rfl) (by simp) ?_
    refine AllReady.cons (o := ⟨some 50, .load 202 (.tmp 49), _, _, _, none⟩) rfl (fun K hK => ?_) (AllReady.cons (o := ⟨some 54, .load 204 (.tmp 53), _, _, _, none⟩) rfl (fun K hK => ?_) AllReady.nil)
    ·(refine step_load_cells rfl 202 (.tmp 49) rfl g 0 rfl (u32s nums) _ HR0.out Tryz.underlying202 rfl HI23.out ?_; refine hK _ _ ?_; clear hK K; simp only [Act.put, l0, l1, l2])
     refine wpAny_ready (rs := [8]) (by kernel_rfl) (by simp) ?_
     refine AllReady.cons (o := ⟨some 54, .load 204 (.tmp 53), _, _, _, none⟩) rfl (fun K hK => ?_) AllReady.nil
     (refine step_load_cells rfl 204 (.tmp 53) rfl g 8 rfl (u8s blk2) _ HR8.out Tryz.underlying204 rfl HI24.out ?_; refine hK _ _ ?_; clear hK K; simp only [Act.put, l0, l1, l2])
     refine wpAny_ready (rs := [9]) (by kernel_rfl) (by simp) ?_
     refine AllReady.cons (o := ⟨some 55, .call { callee := .value (.func 181), args := #[.tmp 50, .tmp 54], argTypes := #[202, 204] }, _, _, _, none⟩) rfl (fun K hK => ?_) AllReady.nil
     go_simp
     go_at_call 181
     refine (HBLK.out _ HKK.out HZ.out).mono ?_
     rintro E w6 ⟨rfl, hb6⟩
     have HW6 : Hid (w6.heap[g]? = some (.cells (hcells nums blk2 (r + q) (bs.length + more.length)).toArray 233 (0, 0))) := iq ((hb6.block g HG4.out).trans HWD.out)
     refine hK _ _ ?_
     clear hK K
     refine wpAny_take (i := 10) (oi := ⟨some 56, .nilCheck (.tmp 46), _, _, _, none⟩) (v := (.pointer (some ⟨g, 0, none⟩))) rfl (by kernel_rfl) (by kernel_rfl) (by kernel_rfl) (fun _ _ _ => id) (Or.inl ⟨by rfl, fun w => by go_simp⟩) ?_
     simp only [Act.put, l0, l1, l2]
     refine wpAny_take (i := 11) (oi := ⟨some 57, .fieldAddr 233 (.tmp 56) 0, _, _, _, none⟩) (v := (.pointer (some ⟨g, 0, none⟩))) rfl (by kernel_rfl) (by kernel_rfl) (by kernel_rfl) (fun _ _ _ => id) (Or.inl ⟨by rfl, fun w => by go_simp⟩) ?_
     simp only [Act.put, l0, l1, l2]
     refine wpAny_ready (rs := [12]) (by kernel_rfl) (by simp) ?_
     refine AllReady.cons (o := ⟨none, .store 202 (.tmp 57) (.tmp 55), _, _, _, none⟩) rfl (fun K hK => ?_) AllReady.nil
     refine step_store_nums rfl 202 (.tmp 57) (.tmp 55) rfl g nums nm blk2 (r + q) (bs.length + more.length) HW6.out H8.out HN8.out H64.out rfl rfl Tryz.size202 ?_
     intro w7 G7
     refine hK _ _ ?_
     clear hK K
     refine wpAny_done (by kernel_rfl) ?_ _
     have c72 := hash_cell G7.out.1 72 _ (hcells_72 HN8.out H64.out _ _)
     have f72 := free_block G7.out.1 72
     go_wp2
     have hfin := HNEXT.out A' _ (if_pos hcq).symm (HFU.out _ _ G7.out.1) (gb_trans (gb_trans (gb_trans HGD.out (gb_below hb6 _)) G7.out.2) (gb_set _ _ _ _))
     rw [hcq, Nat.sub_self] at hfin
     go_roundw
     case measure => simp only [lenOf]; omega
     case rel => exact ⟨_, _, _, rfl, iq hfin⟩
    ·(refine step_load_cells rfl 204 (.tmp 53) rfl g 8 rfl (u8s blk2) _ HR8.out Tryz.underlying204 rfl HI24.out ?_; refine hK _ _ ?_; clear hK K; simp only [Act.put, l0, l1, l2])
     refine wpAny_ready (rs := [4]) (by kernel_rfl) (by simp) ?_
     refine AllReady.cons (o := ⟨some 50, .load 202 (.tmp 49), _, _, _, none⟩) rfl (fun K hK => ?_) AllReady.nil
     (refine step_load_cells rfl 202 (.tmp 49) rfl g 0 rfl (u32s nums) _ HR0.out Tryz.underlying202 rfl HI23.out ?_; refine hK _ _ ?_; clear hK K; simp only [Act.put, l0, l1, l2])
     refine wpAny_ready (rs := [9]) (by kernel_rfl) (by simp) ?_
     refine AllReady.cons (o := ⟨some 55, .call { callee := .value (.func 181), args := #[.tmp 50, .tmp 54], argTypes := #[202, 204] }, _, _, _, none⟩) rfl (fun K hK => ?_) AllReady.nil
     go_simp
     go_at_call 181
     refine (HBLK.out _ HKK.out HZ.out).mono ?_
     rintro E w6 ⟨rfl, hb6⟩
     have HW6 : Hid (w6.heap[g]? = some (.cells (hcells nums blk2 (r + q) (bs.length + more.length)).toArray 233 (0, 0))) := iq ((hb6.block g HG4.out).trans HWD.out)
     refine hK _ _ ?_
     clear hK K
     refine wpAny_take (i := 10) (oi := ⟨some 56, .nilCheck (.tmp 46), _, _, _, none⟩) (v := (.pointer (some ⟨g, 0, none⟩))) rfl (by kernel_rfl) (by kernel_rfl) (by kernel_rfl) (fun _ _ _ => id) (Or.inl ⟨by rfl, fun w => by go_simp⟩) ?_
     simp only [Act.put, l0, l1, l2]
     refine wpAny_take (i := 11) (oi := ⟨some 57, .fieldAddr 233 (.tmp 56) 0, _, _, _, none⟩) (v := (.pointer (some ⟨g, 0, none⟩))) rfl (by kernel_rfl) (by kernel_rfl) (by kernel_rfl) (fun _ _ _ => id) (Or.inl ⟨by rfl, fun w => by go_simp⟩) ?_
     simp only [Act.put, l0, l1, l2]
     refine wpAny_ready (rs := [12]) (by kernel_rfl) (by simp) ?_
     refine AllReady.cons (o := ⟨none, .store 202 (.tmp 57) (.tmp 55), _, _, _, none⟩) rfl (fun K hK => ?_) AllReady.nil
     refine step_store_nums rfl 202 (.tmp 57) (.tmp 55) rfl g nums nm blk2 (r + q) (bs.length + more.length) HW6.out H8.out HN8.out H64.out rfl rfl Tryz.size202 ?_
     intro w7 G7
     refine hK _ _ ?_
     clear hK K
     refine wpAny_done (by kernel_rfl) ?_ _
     have c72 := hash_cell G7.out.1 72 _ (hcells_72 HN8.out H64.out _ _)
     have f72 := free_block G7.out.1 72
     go_wp2
     have hfin := HNEXT.out A' _ (if_pos hcq).symm (HFU.out _ _ G7.out.1) (gb_trans (gb_trans (gb_trans HGD.out (gb_below hb6 _)) G7.out.2) (gb_set _ _ _ _))
     rw [hcq, Nat.sub_self] at hfin
     go_roundw
     case measure => simp only [lenOf]; omega
     case rel => exact ⟨_, _, _, rfl, iq hfin⟩
   ·have hle : HashIs (w2.setCell ⟨g, 72, none⟩ (.int .i64 ((r : Int) + (q : Int)))) g (xs ++ ys) (bs.length + more.length) := by
     have := less_is (r := r) HB.out.1 HB.out.2 HRR.out (by rw [HYL.out]; omega) G.out.1
     rw [HYL.out] at this
     exact this
    have hfin := HNEXT.out A' _ (if_pos hcq).symm hle HGW.out
    rw [hcq, Nat.sub_self] at hfin
    go_roundw
    case measure => simp only [lenOf]; omega
    case rel => exact ⟨_, _, _, rfl, iq hfin⟩
   ·obtain ⟨blk2, hblk2⟩ : ∃ blk2, blk2 = splice blk' r ys := ⟨_, rfl⟩
    obtain ⟨nums, hnums⟩ : ∃ nums, nums = absorb xs := ⟨_, rfl⟩
    obtain ⟨nm, hnm⟩ : ∃ nm, nm = blockOf nums blk2 := ⟨_, rfl⟩
    have h8 : nums.length = 8 := by rw [hnums, absorb_length]
    have hb2 : blk2.length = 64 := by rw [hblk2, HBL.out]
    have H8 := iq h8
    have H64 := iq hb2
    have HN8 : Hid (nm.length = 8) := iq (by rw [hnm, blockOf_length _ _ h8])
    have HBLK : Hid (∀ w : World, KIs w -> 0 < w.heap.size -> Calls Tryz.prog 181 #[.agg (u32s nums).toArray, .agg (u8s blk2).toArray] w fun E w' => E = .returned (.agg (u32s nm).toArray) /\ Below w.heap.size w w') := iq fun w hk h0 => by
     rw [hnm]
     exact block_any nums blk2 w h8 hb2 hk h0
    rw [<- hblk2, <- hnums] at HW
    have HFU : Hid (∀ (w6 : World) (f : Nat), w6.heap[g]? = some (.cells (hcells nm blk2 f (bs.length + more.length)).toArray 233 (0, 0)) -> HashIs (w6.setCell ⟨g, 72, none⟩ (.int .i64 0)) g (xs ++ ys) (bs.length + more.length)) := iq fun w6 f h6 => by
     refine full_is (f := f) HB.out.1 HB.out.2 HRR.out (by rw [HYL.out]; exact hfull) ?_
     rw [<- hblk2, <- hnums, <- hnm]
     exact h6
    have HI23 : Hid ((Tryz.prog.info? 202).map (·.size) = some (u32s nums).length) := iq (by rw [u32s_length, h8]; exact Tryz.size202)
    have HI24 : Hid ((Tryz.prog.info? 204).map (·.size) = some (u8s blk2).length) := iq (by rw [u8s_length, hb2]; exact Tryz.size204)
    clear hnm hnums hblk2 h8 hb2 c72 f72 G
    generalize w2.setCell ⟨g, 72, none⟩ (.int .i64 ((r : Int) + (q : Int))) = w4 at HW HGW ⊢
    have HGD : Hid (wr.grownBy (w4.drewN 1) (some g)) := iq (gb_trans HGW.out (gb_drewN w4 1 _))
    have HKK : Hid (KIs (w4.drewN 1)) := iq (HK.out.grown (gb_trans HG.out HGD.out) hg0)
    have HWD : Hid ((w4.drewN 1).heap[g]? = some (.cells (hcells nums blk2 (r + q) (bs.length + more.length)).toArray 233 (0, 0))) := iq HW.out
    have HR0 : Hid ((w4.drewN 1).rangeAt g 0 (u32s nums)) := iq (range_block HWD.out 0 _ (hcells_nums nums blk2 _ _))
    have HR8 : Hid ((w4.drewN 1).rangeAt g 8 (u8s blk2)) := iq (range_block HWD.out 8 _ (hcells_blk nums blk2 _ _ H8.out))
    have HG4 : Hid (g < (w4.drewN 1).heap.size) := iq (Array.getElem?_eq_some_iff.1 HWD.out).1
    have HZ : Hid (0 < (w4.drewN 1).heap.size) := iq (Nat.lt_of_le_of_lt (Nat.zero_le _) HG4.out)
    refine wp_region_any (by kernel_rfl) ?_
    change wpAny _ _ _ _ _ _ _ (w4.drewN 1)
    refine wpAny_take (i := 0) (oi := ⟨some 46, .move (.tmp 0), _, _, _, none⟩) (v := (.pointer (some ⟨g, 0, none⟩))) rfl (by kernel_rfl) (by kernel_rfl) (by kernel_rfl) (fun _ _ _ => id) (Or.inl ⟨by rfl, fun w => by go_simp⟩) ?_
    simp only [Act.put, l0, l1, l2]
    refine wpAny_take (i := 1) (oi := ⟨some 47, .move (.tmp 0), _, _, _, none⟩) (v := (.pointer (some ⟨g, 0, none⟩))) rfl (by kernel_rfl) (by kernel_rfl) (by kernel_rfl) (fun _ _ _ => id) (Or.inl ⟨by rfl, fun w => by go_simp⟩) ?_
    simp only [Act.put, l0, l1, l2]
    refine wpAny_take (i := 2) (oi := ⟨some 48, .nilCheck (.tmp 47), _, _, _, none⟩) (v := (.pointer (some ⟨g, 0, none⟩))) rfl (by kernel_rfl) (by kernel_rfl) (by kernel_rfl) (fun _ _ _ => id) (Or.inl ⟨by rfl, fun w => by go_simp⟩) ?_
    simp only [Act.put, l0, l1, l2]
    refine wpAny_take (i := 3) (oi := ⟨some 49, .fieldAddr 233 (.tmp 48) 0, _, _, _, none⟩) (v := (.pointer (some ⟨g, 0, none⟩))) rfl (by kernel_rfl) (by kernel_rfl) (by kernel_rfl) (fun _ _ _ => id) (Or.inl ⟨by rfl, fun w => by go_simp⟩) ?_
    simp only [Act.put, l0, l1, l2]
    refine wpAny_take (i := 5) (oi := ⟨some 51, .move (.tmp 0), _, _, _, none⟩) (v := (.pointer (some ⟨g, 0, none⟩))) rfl (by kernel_rfl) (by kernel_rfl) (by kernel_rfl) (fun _ _ _ => id) (Or.inl ⟨by rfl, fun w => by go_simp⟩) ?_
    simp only [Act.put, l0, l1, l2]
    refine wpAny_take (i := 6) (oi := ⟨some 52, .nilCheck (.tmp 51), _, _, _, none⟩) (v := (.pointer (some ⟨g, 0, none⟩))) rfl (by kernel_rfl) (by kernel_rfl) (by kernel_rfl) (fun _ _ _ => id) (Or.inl ⟨by rfl, fun w => by go_simp⟩) ?_
    simp only [Act.put, l0, l1, l2]
    refine wpAny_take (i := 7) (oi := ⟨some 53, .fieldAddr 233 (.tmp 52) 1, _, _, _, none⟩) (v := (.pointer (some ⟨g, 8, none⟩))) rfl (by kernel_rfl) (by kernel_rfl) (by kernel_rfl) (fun _ _ _ => id) (Or.inl ⟨by rfl, fun w => by go_simp⟩) ?_
    simp only [Act.put, l0, l1, l2]
    refine wpAny_ready (rs := [4, 8]) (by kernel_rfl) (by simp) ?_
    refine AllReady.cons (o := ⟨some 50, .load 202 (.tmp 49), _, _, _, none⟩) rfl (fun K hK => ?_) (AllReady.cons (o := ⟨some 54, .load 204 (.tmp 53), _, _, _, none⟩) rfl (fun K hK => ?_) AllReady.nil)
    ·(refine step_load_cells rfl 202 (.tmp 49) rfl g 0 rfl (u32s nums) _ HR0.out Tryz.underlying202 rfl HI23.out ?_; refine hK _ _ ?_; clear hK K; simp only [Act.put, l0, l1, l2])
     refine wpAny_ready (rs := [8]) (by kernel_rfl) (by simp) ?_
     refine AllReady.cons (o := ⟨some 54, .load 204 (.tmp 53), _, _, _, none⟩) rfl (fun K hK => ?_) AllReady.nil
     (refine step_load_cells rfl 204 (.tmp 53) rfl g 8 rfl (u8s blk2) _ HR8.out Tryz.underlying204 rfl HI24.out ?_; refine hK _ _ ?_; clear hK K; simp only [Act.put, l0, l1, l2])
     refine wpAny_ready (rs := [9]) (by kernel_rfl) (by simp) ?_
     refine AllReady.cons (o := ⟨some 55, .call { callee := .value (.func 181), args := #[.tmp 50, .tmp 54], argTypes := #[202, 204] }, _, _, _, none⟩) rfl (fun K hK => ?_) AllReady.nil
     go_simp
     go_at_call 181
     refine (HBLK.out _ HKK.out HZ.out).mono ?_
     rintro E w6 ⟨rfl, hb6⟩
     have HW6 : Hid (w6.heap[g]? = some (.cells (hcells nums blk2 (r + q) (bs.length + more.length)).toArray 233 (0, 0))) := iq ((hb6.block g HG4.out).trans HWD.out)
     refine hK _ _ ?_
     clear hK K
     refine wpAny_take (i := 10) (oi := ⟨some 56, .nilCheck (.tmp 46), _, _, _, none⟩) (v := (.pointer (some ⟨g, 0, none⟩))) rfl (by kernel_rfl) (by kernel_rfl) (by kernel_rfl) (fun _ _ _ => id) (Or.inl ⟨by rfl, fun w => by go_simp⟩) ?_
     simp only [Act.put, l0, l1, l2]
     refine wpAny_take (i := 11) (oi := ⟨some 57, .fieldAddr 233 (.tmp 56) 0, _, _, _, none⟩) (v := (.pointer (some ⟨g, 0, none⟩))) rfl (by kernel_rfl) (by kernel_rfl) (by kernel_rfl) (fun _ _ _ => id) (Or.inl ⟨by rfl, fun w => by go_simp⟩) ?_
     simp only [Act.put, l0, l1, l2]
     refine wpAny_ready (rs := [12]) (by kernel_rfl) (by simp) ?_
     refine AllReady.cons (o := ⟨none, .store 202 (.tmp 57) (.tmp 55), _, _, _, none⟩) rfl (fun K hK => ?_) AllReady.nil
     refine step_store_nums rfl 202 (.tmp 57) (.tmp 55) rfl g nums nm blk2 (r + q) (bs.length + more.length) HW6.out H8.out HN8.out H64.out rfl rfl Tryz.size202 ?_
     intro w7 G7
     refine hK _ _ ?_
     clear hK K
     refine wpAny_done (by kernel_rfl) ?_ _
     have c72 := hash_cell G7.out.1 72 _ (hcells_72 HN8.out H64.out _ _)
     have f72 := free_block G7.out.1 72
     go_wp2
     have hfin := HNEXT.out (A'.map (·.add q)) _ (if_neg hcq).symm (HFU.out _ _ G7.out.1) (gb_trans (gb_trans (gb_trans HGD.out (gb_below hb6 _)) G7.out.2) (gb_set _ _ _ _))
     go_roundw
     case measure => simp only [lenOf]; omega
     case rel => exact ⟨_, _, _, rfl, iq hfin⟩
    ·(refine step_load_cells rfl 204 (.tmp 53) rfl g 8 rfl (u8s blk2) _ HR8.out Tryz.underlying204 rfl HI24.out ?_; refine hK _ _ ?_; clear hK K; simp only [Act.put, l0, l1, l2])
     refine wpAny_ready (rs := [4]) (by kernel_rfl) (by simp) ?_
     refine AllReady.cons (o := ⟨some 50, .load 202 (.tmp 49), _, _, _, none⟩) rfl (fun K hK => ?_) AllReady.nil
     (refine step_load_cells rfl 202 (.tmp 49) rfl g 0 rfl (u32s nums) _ HR0.out Tryz.underlying202 rfl HI23.out ?_; refine hK _ _ ?_; clear hK K; simp only [Act.put, l0, l1, l2])
     refine wpAny_ready (rs := [9]) (by kernel_rfl) (by simp) ?_
     refine AllReady.cons (o := ⟨some 55, .call { callee := .value (.func 181), args := #[.tmp 50, .tmp 54], argTypes := #[202, 204] }, _, _, _, none⟩) rfl (fun K hK => ?_) AllReady.nil
     go_simp
     go_at_call 181
     refine (HBLK.out _ HKK.out HZ.out).mono ?_
     rintro E w6 ⟨rfl, hb6⟩
     have HW6 : Hid (w6.heap[g]? = some (.cells (hcells nums blk2 (r + q) (bs.length + more.length)).toArray 233 (0, 0))) := iq ((hb6.block g HG4.out).trans HWD.out)
     refine hK _ _ ?_
     clear hK K
     refine wpAny_take (i := 10) (oi := ⟨some 56, .nilCheck (.tmp 46), _, _, _, none⟩) (v := (.pointer (some ⟨g, 0, none⟩))) rfl (by kernel_rfl) (by kernel_rfl) (by kernel_rfl) (fun _ _ _ => id) (Or.inl ⟨by rfl, fun w => by go_simp⟩) ?_
     simp only [Act.put, l0, l1, l2]
     refine wpAny_take (i := 11) (oi := ⟨some 57, .fieldAddr 233 (.tmp 56) 0, _, _, _, none⟩) (v := (.pointer (some ⟨g, 0, none⟩))) rfl (by kernel_rfl) (by kernel_rfl) (by kernel_rfl) (fun _ _ _ => id) (Or.inl ⟨by rfl, fun w => by go_simp⟩) ?_
     simp only [Act.put, l0, l1, l2]
     refine wpAny_ready (rs := [12]) (by kernel_rfl) (by simp) ?_
     refine AllReady.cons (o := ⟨none, .store 202 (.tmp 57) (.tmp 55), _, _, _, none⟩) rfl (fun K hK => ?_) AllReady.nil
     refine step_store_nums rfl 202 (.tmp 57) (.tmp 55) rfl g nums nm blk2 (r + q) (bs.length + more.length) HW6.out H8.out HN8.out H64.out rfl rfl Tryz.size202 ?_
     intro w7 G7
     refine hK _ _ ?_
     clear hK K
     refine wpAny_done (by kernel_rfl) ?_ _
     have c72 := hash_cell G7.out.1 72 _ (hcells_72 HN8.out H64.out _ _)
     have f72 := free_block G7.out.1 72
     go_wp2
     have hfin := HNEXT.out (A'.map (·.add q)) _ (if_neg hcq).symm (HFU.out _ _ G7.out.1) (gb_trans (gb_trans (gb_trans HGD.out (gb_below hb6 _)) G7.out.2) (gb_set _ _ _ _))
     go_roundw
     case measure => simp only [lenOf]; omega
     case rel => exact ⟨_, _, _, rfl, iq hfin⟩
   ·have hle : HashIs (w2.setCell ⟨g, 72, none⟩ (.int .i64 ((r : Int) + (q : Int)))) g (xs ++ ys) (bs.length + more.length) := by
     have := less_is (r := r) HB.out.1 HB.out.2 HRR.out (by rw [HYL.out]; omega) G.out.1
     rw [HYL.out] at this
     exact this
    have hfin := HNEXT.out (A'.map (·.add q)) _ (if_neg hcq).symm hle HGW.out
    go_roundw
    case measure => simp only [lenOf]; omega
    case rel => exact ⟨_, _, _, rfl, iq hfin⟩
  ·obtain rfl : n' = 0 := by omega
   go_wp2
   refine bodyPost_end (results_none rfl _ _ _) rfl ⟨rfl, ?_, HG.out⟩
   have : xs = bs ++ more := by rw [HX.out, Nat.sub_zero, List.take_of_length_le (Nat.le_refl _)]
   rw [<- this]
   refine ⟨blk', HB.out.1, HB.out.2, ?_⟩
   rw [<- HRR.out]
   exact HH.out
open Go.RowKit
theorem wpList_store_whole {P : Program} {ops : Array Oper} {rest : List Oper} {op : Oper} {a : Act} {w : World} {Z : Array Value} {t : TypeId} {Q : Exit -> Act -> World -> Prop} (hgd : op.guard = none) (ty : TypeId) (x y : Operand) (ho : op.op = .store ty x y)
  (cs : List Value) (G : Nat) (hG : w.heap.size = G) (hx : a.eval x = .pointer (some ⟨G, 0, none⟩)) (hy : a.eval y = .agg cs.toArray) (hZ : Z.size = cs.length) (hi : (P.info? ty).map (·.size) = some cs.length) (h1 : ∀ v ∈ cs, v.oneCell' = true)
  (h : ∀ w2, Hid (Below w.heap.size w w2 /\ w2.heap[G]? = some (.cells cs.toArray t (0, 0)) /\ G < w2.heap.size) -> wpList P ops Q rest (a.put op.dst undef) w2) : wpList P ops Q (op :: rest) a (w.alloc (.cells Z t)) := by
 subst hG
 have ht : (w.alloc (.cells Z t)).there w.heap.size 0 cs.length := by rw [<- hZ]; exact there_new w Z t
 have hb0 : Below w.heap.size w (w.alloc (.cells Z t)) := bl.alloc (Nat.le_refl _) _
 refine wpList_store_cells hgd ty x y ho w.heap.size 0 cs hx hy ht hi h1 (h _ (iq ⟨below_setCells (Nat.le_refl _) _ _ _ hb0, ?_, ?_⟩))
 ·have hz : (w.alloc (.cells Z t)).heap[w.heap.size]? = some (.cells Z.toList.toArray t (0, 0)) := by rw [Array.toArray_toList]; exact heap_alloc_new w _
  rw [heap_setCells cs 0 _ _ hz]
  have := setAll_mid cs [] Z.toList [] (by simpa using hZ)
  simp only [List.nil_append, List.append_nil, List.length_nil] at this
  rw [this]
 ·have := (below_setCells (B := 0) (a := w.alloc (.cells Z t)) (b := w.heap.size) (Nat.zero_le _) cs 0 _ bl).size
  simp at this
  omega
theorem hcells_one (nums : List UInt32) (blk : List UInt8) (f n : Nat) : ∀ v ∈ hcells nums blk f n, v.oneCell' = true := by
 intro v hv
 simp only [hcells, List.mem_append, List.mem_cons, List.not_mem_nil, or_false] at hv
 rcases hv with hv | hv | rfl | rfl
 ·exact u32s_one _ v hv
 ·exact u8s_one _ v hv
 ·rfl
 ·rfl
theorem there_grown {w w' : World} {b g o n : Nat} (h : w.there b o n) (hb : w.grownBy w' (some g)) (hne : b ≠ g) : w'.there b o n := fun j hj => by
 obtain ⟨u, hu⟩ := Option.isSome_iff_exists.1 (h j hj).1
 have hlt := World.block_lt_of_cell? w _ hu
 exact ⟨by rw [hb.cell hu (fun e => hne (Option.some.inj e))]; rfl, by rw [World.frozen?_of_block (w := w) (hb.block b hlt (fun e => hne (Option.some.inj e)))]; exact (h j hj).2⟩
theorem padOf_length (n : Nat) : (padOf n).length = 1 + (119 - n % 64) % 64 + 8 := padTo_length n 8
theorem Rd.of_range {P : Nat -> Prop} {w : World} {g c : Nat} {l more : List UInt8} (h : w.rangeAt g 0 (u8s l)) (hg : g < w.heap.size) (hp : P g) (hc : ∀ (j : Nat) (u : UInt8), more[j]? = some u -> l[j]? = some u) (hn : more.length = c) : Rd P w (some ⟨g, 0, none⟩) c more :=
 ⟨hn, fun _ => ⟨g, 0, rfl, hg, hp, fun j u hu => h j _ (by simp [u8s, hc j u hu])⟩⟩
structure SumFacts (g n f pl : Nat) (nums all : List UInt32) (blk out pz pad xs : List UInt8) (w : World) : Prop where
 hk : KIs w
 h0 : 0 < w.heap.size
 hh : w.heap[g]? = some (.cells (hcells nums blk f n).toArray 233 (0, 0))
 gw : g < w.heap.size
 pl72 : pl <= 72
 c73 : w.cell? ⟨g, 73, none⟩ = some (.int .u64 (n : Int))
 i52 : (Tryz.prog.info? 233).map (·.size) = some (hcells nums blk f n).length
 cl : (hcells nums blk f n).length = 74
 pd : ∀ w : World, Calls Tryz.prog 182 #[.int .u64 (n : Int)] w fun E w' => E = .returned (.tuple #[.agg (u8s pz).toArray, .int .i64 (pl : Int)]) /\ Below w.heap.size w w'
 pzl : (u8s pz).length = 72
 i53 : (Tryz.prog.info? 234).map (·.size) = some (u8s pz).length
 pz : ∀ (j : Nat) (u : UInt8), pad[j]? = some u -> pz[j]? = some u
 dg : ∀ w : World, Calls Tryz.prog 183 #[.agg (u32s all).toArray] w fun E w' => E = .returned (.agg (u8s out).toArray) /\ Below w.heap.size w w'
 ol : (u8s out).length = 32
 i29 : (Tryz.prog.info? 30).map (·.size) = some (u8s out).length
 i23 : (Tryz.prog.info? 202).map (·.size) = some (u32s all).length
 wr : ∀ (g2 ge : Nat) (w : World), HashIs w g2 xs xs.length -> Rd (· ≠ g2) w (some ⟨ge, 0, none⟩) pl pad -> KIs w -> 0 < g2 ->
   Calls Tryz.prog 176 #[.pointer (some ⟨g2, 0, none⟩), .slice (some ⟨ge, 0, none⟩) pl 72] w fun E w' => E = .returned (.tuple #[]) /\ (∃ blk' f' n', w'.heap[g2]? = some (.cells (hcells all blk' f' n').toArray 233 (0, 0))) /\ w.grownBy w' (some g2)
 hx : ∀ (w2 : World) (g2 : Nat), w2.heap[g2]? = some (.cells (hcells nums blk f n).toArray 233 (0, 0)) -> HashIs w2 g2 xs xs.length
 hpl : pl = pad.length
theorem hashSum_by (g n f pl : Nat) (nums all : List UInt32) (blk out pz pad xs : List UInt8) (w : World) (H : SumFacts g n f pl nums all blk out pz pad xs w) :
  Calls Tryz.prog 177 #[.pointer (some ⟨g, 0, none⟩)] w fun E w' => E = .returned (.agg (u8s out).toArray) /\ Below w.heap.size w w' := by
 obtain ⟨hz52, _⟩ := zero_of_info Tryz.zero233
 obtain ⟨hz53, _⟩ := zero_of_info Tryz.zero234
 have HK := iq H.hk
 have HZ := iq H.h0
 have HH := iq H.hh
 have HGW := iq H.gw
 have hpli : (pl : Int) <= 72 := by have := H.pl72; omega
 have c73 := H.c73
 have HI := iq H.i52
 have HCL := iq H.cl
 have HPAD := iq H.pd
 have HPZL := iq H.pzl
 have HIP := iq H.i53
 have HPZ := iq H.pz
 have HDIG := iq H.dg
 have HIO := iq H.i29
 have HOL := iq H.ol
 have HIA := iq H.i23
 have HWR := iq H.wr
 have HXS := iq H.hx
 have HPL := iq H.hpl
 clear H
 go_enter Tryz.func177, Tryz.ntmps177
 go_wp2_with (first
  | (refine wpList_load_mid rfl 233 (.tmp 10) rfl g 0 rfl (hcells nums blk f n) _ (World.rangeAt_alloc (range_block HH.out 0 _ (by intro j v hv; rw [Nat.zero_add]; exact hv)) _) Tryz.underlying233 rfl HI.out ?_)
  | (refine wpList_store_whole rfl 233 (.tmp 3) (.tmp 11) rfl (hcells nums blk f n) (w.heap.size + 1) (by simp) rfl rfl HCL.out.symm HI.out (hcells_one _ _ _ _) ?_; intro w2 G2; have hb2 : Hid (Below w.heap.size w w2) := iq ((bl.alloc (Nat.le_refl _) _).trans (G2.out.1.mono (by simp))); have ht2 : Hid (w2.there w.heap.size 0 32) := iq (there_below (there_new w _ _) G2.out.1 (by simp)); have c73' : w2.cell? ⟨g, 73, none⟩ = some (.int .u64 (n : Int)) := (hb2.out.cell (p := ⟨g, 73, none⟩) HGW.out).trans c73)
  | (go_at_call 182; refine (HPAD.out w2).mono ?_; rintro E w3 ⟨rfl, hb3⟩; have HB3 := iq hb3; clear hb3)
  | (refine wpList_store_fresh rfl 234 (.tmp 4) (.tmp 18) rfl (u8s pz) rfl rfl (by simp [HPZL.out]) HIP.out (u8s_one _) ?_; intro w4 G4)
  | (go_at_call 176; refine (HWR.out (w.heap.size + 1) w3.heap.size w4 (HXS.out w4 _ ((G4.out.1.block _ (by have := G2.out.2.2; have := HB3.out.size; omega)).trans ((HB3.out.block _ G2.out.2.2).trans G2.out.2.1))) (Rd.of_range G4.out.2.1 G4.out.2.2.2 (by have := G2.out.2.2; have := HB3.out.size; omega) HPZ.out HPL.out.symm) (HK.out.below (hb2.out.trans ((HB3.out.mono hb2.out.size).trans (G4.out.1.mono (by have := hb2.out.size; have := HB3.out.size; omega)))) HZ.out) (by omega)).mono ?_; rintro E w5 ⟨rfl, hc5, hg5⟩; have HC5 := iq hc5; have HG5 := iq hg5; clear hc5 hg5)
  | (obtain ⟨blk', f', n', hc5⟩ := HC5.out; refine wpList_load_mid rfl 202 (.tmp 23) rfl (w.heap.size + 1) 0 rfl (u32s all) _ (range_block hc5 0 _ (hcells_nums all blk' f' n')) Tryz.underlying202 rfl HIA.out ?_; clear hc5)
  | (go_at_call 183; refine (HDIG.out w5).mono ?_; rintro E w6 ⟨rfl, hb6⟩; have HT6 : Hid (w6.there w.heap.size 0 (u8s out).length) := iq (by rw [HOL.out]; exact there_below (there_grown (there_below (there_below ht2.out HB3.out (by have := G2.out.2.2; omega)) G4.out.1 (by have := G2.out.2.2; have := HB3.out.size; omega)) HG5.out (by omega)) hb6 (by have := G2.out.2.2; have := HB3.out.size; have := G4.out.1.size; have := HG5.out.size; omega)); have HB6 := iq hb6; clear hb6)
  | (refine wpList_store_cells rfl 30 (.tmp 2) (.tmp 25) rfl w.heap.size 0 (u8s out) rfl rfl HT6.out HIO.out (u8s_one _) ?_))
 refine bodyPost_ret (ret_range (cs := u8s out) rfl rfl (World.rangeAt_setCells_same _ _ _ (u8s out) HT6.out) Tryz.underlying30 rfl HIO.out) rfl ⟨rfl, below_setCells (Nat.le_refl _) _ _ _ ?_⟩
 have h3 : Below w.heap.size w w3 := hb2.out.trans (HB3.out.mono hb2.out.size)
 have h4 : Below w.heap.size w w4 := h3.trans (G4.out.1.mono h3.size)
 have h5 : Below w.heap.size w w5 := h4.grown HG5.out h4.size (fun k hk => by cases hk; omega)
 exact h5.trans (HB6.out.mono h5.size)
theorem hashSum_any (g : Nat) (xs : List UInt8) (w : World) (hh : HashIs w g xs xs.length) (hL : xs.length < 1000000000000000000) (hk : KIs w) (h0 : 0 < w.heap.size) :
  Calls Tryz.prog 177 #[.pointer (some ⟨g, 0, none⟩)] w fun E w' => E = .returned (.agg (u8s (sumOf xs)).toArray) /\ Below w.heap.size w w' := by
 have hgw := hh.lt
 obtain ⟨blk, hb64, hbt, hh⟩ := hh
 have HK := iq hk
 have HH := iq hh
 have HB := iq (And.intro hb64 hbt)
 have HGW := iq hgw
 clear hh hb64 hbt hk hgw
 obtain ⟨n, hn⟩ : ∃ n, n = xs.length := ⟨_, rfl⟩
 obtain ⟨nums, hnums⟩ : ∃ nums, nums = absorb xs := ⟨_, rfl⟩
 obtain ⟨f, hf⟩ : ∃ f, f = xs.length % 64 := ⟨_, rfl⟩
 obtain ⟨pl, hpl⟩ : ∃ pl, pl = (padOf n).length := ⟨_, rfl⟩
 have hpl72 : pl <= 72 := by rw [hpl, padOf_length]; omega
 have hn8 : nums.length = 8 := by rw [hnums, absorb_length]
 rw [<- hnums, <- hf, <- hn] at HH
 have c73 := hash_cell HH.out 73 _ (hcells_73 hn8 HB.out.1 _ _)
 have hcl : (hcells nums blk f n).length = 74 := hcells_length hn8 HB.out.1 _ _
 have HI : Hid ((Tryz.prog.info? 233).map (·.size) = some (hcells nums blk f n).length) := iq (by rw [hcl]; exact Tryz.size233)
 have HCL := iq hcl
 have HPAD : Hid (∀ w : World, Calls Tryz.prog 182 #[.int .u64 (n : Int)] w fun E w' => E = .returned (.tuple #[.agg (u8s (padOf n ++ List.replicate (72 - pl) 0)).toArray, .int .i64 (pl : Int)]) /\ Below w.heap.size w w') := iq fun w => by
  rw [hpl]
  exact padding_any n w (by omega)
 obtain ⟨pz, hpz⟩ : ∃ pz, pz = padOf n ++ List.replicate (72 - pl) 0 := ⟨_, rfl⟩
 rw [<- hpz] at HPAD
 have hpzl : (u8s pz).length = 72 := by rw [u8s_length, hpz, List.length_append, List.length_replicate, <- hpl]; omega
 have HPZL := iq hpzl
 have HIP : Hid ((Tryz.prog.info? 234).map (·.size) = some (u8s pz).length) := iq (by rw [hpzl]; exact Tryz.size234)
 have HPZ : Hid (∀ j u, (padOf n)[j]? = some u -> pz[j]? = some u) := iq fun j u hu => by
  rw [hpz, List.getElem?_append_left (List.getElem?_eq_some_iff.1 hu).1]; exact hu
 obtain ⟨all, hall⟩ : ∃ all, all = absorb (xs ++ padOf n) := ⟨_, rfl⟩
 have hal8 : all.length = 8 := by rw [hall, absorb_length]
 obtain ⟨out, hout⟩ : ∃ out, out = digestOf all := ⟨_, rfl⟩
 have hol : (u8s out).length = 32 := by rw [u8s_length, hout, digestOf_length, hal8]
 have HDIG : Hid (∀ w : World, Calls Tryz.prog 183 #[.agg (u32s all).toArray] w fun E w' => E = .returned (.agg (u8s out).toArray) /\ Below w.heap.size w w') := iq fun w => by
  rw [hout]
  exact digest_any all w hal8
 have HIO : Hid ((Tryz.prog.info? 30).map (·.size) = some (u8s out).length) := iq (by rw [hol]; exact Tryz.size30)
 have HIA : Hid ((Tryz.prog.info? 202).map (·.size) = some (u32s all).length) := iq (by rw [u32s_length, hal8]; exact Tryz.size202)
 have HRES : Hid (out = sumOf xs) := iq (by rw [hout, hall, hn]; rfl)
 rw [<- HRES.out]
 have HWR : Hid (∀ (g2 ge : Nat) (w : World), HashIs w g2 xs xs.length -> Rd (· ≠ g2) w (some ⟨ge, 0, none⟩) pl (padOf n) -> KIs w -> 0 < g2 ->
   Calls Tryz.prog 176 #[.pointer (some ⟨g2, 0, none⟩), .slice (some ⟨ge, 0, none⟩) pl 72] w fun E w' => E = .returned (.tuple #[]) /\ (∃ blk' f' n', w'.heap[g2]? = some (.cells (hcells all blk' f' n').toArray 233 (0, 0))) /\ w.grownBy w' (some g2)) := iq fun g2 ge w h1 h2 h3 h4 => by
  have := write_any g2 xs (padOf n) (some ⟨ge, 0, none⟩) 72 w h1 (by rw [<- hpl]; exact h2) ⟨fun e => (by cases e), by omega, by omega⟩ (by omega) h3 h4
  rw [<- hpl] at this
  refine this.mono ?_
  rintro E w' ⟨hE, hhs, hg⟩
  obtain ⟨blk', _, _, hc⟩ := hhs
  exact ⟨hE, ⟨blk', _, _, by rw [hall]; exact hc⟩, hg⟩
 have HXS : Hid (∀ (w2 : World) (g2 : Nat), w2.heap[g2]? = some (.cells (hcells nums blk f n).toArray 233 (0, 0)) -> HashIs w2 g2 xs xs.length) := iq fun w2 g2 h => ⟨blk, HB.out.1, HB.out.2, by rw [<- hnums, <- hf, <- hn]; exact h⟩
 exact hashSum_by g n f pl nums all blk out pz (padOf n) xs w ⟨HK.out, h0, HH.out, HGW.out, hpl72, c73, HI.out, HCL.out, HPAD.out, HPZL.out, HIP.out, HPZ.out, HDIG.out, hol, HIO.out, HIA.out, HWR.out, HXS.out, hpl⟩
open Go.RowKit
theorem Tryz.cells5 : Tryz.prog.cellsOf 5 = 1 := by kernel_rfl
theorem Tryz.cells201 : Tryz.prog.cellsOf 201 = 1 := by kernel_rfl
theorem Tryz.guard30 : Tryz.prog.eqGuardType Tryz.prog.depth 30 = false := by kernel_rfl
theorem Tryz.has5 : (Tryz.prog.info? 5).isSome = true := by kernel_rfl
theorem run_part_int {P : Program} {e : TypeId} {kd : IntKind} (he : P.underlying e = some (.int kd)) {xs : Array Value} {i : Nat} {v : Value} (hv : xs[i]? = some v) (w : World) : (part e xs i).run P w = .ok v w := by
 have hagg : (isAgg e).run P w = .ok false w := by
  unfold isAgg
  rw [Sem.run_bind, run_underlying he w]
  rfl
 simp [part, hagg, hv]
theorem Rd.inn {P : Nat -> Prop} {w : World} {A : Option Addr} {n : Nat} {bs : List UInt8} (h : Rd P w A n bs) : Rd (· < w.heap.size) w A n bs :=
 ⟨h.1, fun hn => let ⟨b, o, e, hb, _, hc⟩ := h.2 hn; ⟨b, o, e, hb, hb, hc⟩⟩
theorem sum_by (bs out : List UInt8) (A : Option Addr) (c : Nat) (w : World) (hr : Rd (fun _ => True) w A bs.length bs) (hs : Sl A bs.length c) (hL : bs.length < 1000000000000000000) (hk : KIs w) (h0 : 0 < w.heap.size)
  (hol : (u8s out).length = 32) (hS : ∀ (g : Nat) (w : World), HashIs w g bs bs.length -> KIs w -> 0 < w.heap.size -> Calls Tryz.prog 177 #[.pointer (some ⟨g, 0, none⟩)] w fun E w' => E = .returned (.agg (u8s out).toArray) /\ Below w.heap.size w w') :
  Calls Tryz.prog 172 #[.slice A bs.length c] w fun E w' => E = .returned (.agg (u8s out).toArray) /\ Below w.heap.size w w' := by
 have HK := iq hk
 have HR := iq hr
 have HSL := iq hs
 have HS := iq hS
 have HOL := iq hol
 have HIO : Hid ((Tryz.prog.info? 30).map (·.size) = some (u8s out).length) := iq (by rw [hol]; exact Tryz.size30)
 have HW : Hid (∀ (g : Nat) (w1 : World), HashIs w1 g [] 0 -> Below w.heap.size w w1 -> w.heap.size <= g -> Calls Tryz.prog 176 #[.pointer (some ⟨g, 0, none⟩), .slice A bs.length c] w1 fun E w' => E = .returned (.tuple #[]) /\ HashIs w' g bs bs.length /\ w1.grownBy w' (some g)) := iq fun g w1 h1 hb hg => by
  have := write_any g [] bs A c w1 h1 ((hr.inn).below hb (fun _ _ h => h) |>.mono fun b _ (h : b < w.heap.size) => by show b ≠ g; omega) hs (by simp; omega) (hk.below hb h0) (by omega)
  simpa using this
 clear hk hr hs hS hol
 go_enter Tryz.func172, Tryz.ntmps172
 go_wp2_with (first
  | (go_at_call 175; refine (new_any _).mono ?_; rintro E w1 ⟨g, rfl, hg, hh1, hb1⟩; have HB1 := iq hb1; have HH1 := iq hh1; have HG := iq hg; clear hb1 hh1 hg; have hb2 : Hid (Below w.heap.size w w1) := iq ((bl.alloc (Nat.le_refl _) _).trans (HB1.out.mono (by simp))); have hgs : Hid (w.heap.size < g) := iq (by have := HG.out; simp at this; omega); have ht1 : Hid (w1.there w.heap.size 0 32) := iq (there_below (there_new w _ _) HB1.out (by simp)))
  | (go_at_call 176; refine (HW.out g w1 HH1.out hb2.out (Nat.le_of_lt hgs.out)).mono ?_; rintro E w2 ⟨rfl, hh2, hg2⟩; have HH2 := iq hh2; have HG2 := iq hg2; clear hh2 hg2; have hb3 : Hid (Below w.heap.size w w2) := iq (hb2.out.grown HG2.out hb2.out.size (fun k hk => by cases hk; exact Nat.le_of_lt hgs.out)))
  | (go_at_call 177; refine (HS.out g w2 HH2.out (HK.out.below hb3.out h0) (Nat.lt_of_lt_of_le h0 hb3.out.size)).mono ?_; rintro E w3 ⟨rfl, hb4⟩; have HB4 := iq hb4; clear hb4; have HT : Hid (w3.there w.heap.size 0 (u8s out).length) := iq (by rw [HOL.out]; exact there_below (there_grown ht1.out HG2.out (by have := hgs.out; omega)) HB4.out (by have := hgs.out; have := HH2.out.lt; omega)))
  | (refine wpList_store_cells rfl 30 (.tmp 2) (.tmp 9) rfl w.heap.size 0 (u8s out) rfl rfl HT.out HIO.out (u8s_one _) ?_))
 exact bodyPost_ret (ret_range (cs := u8s out) rfl rfl (World.rangeAt_setCells_same _ _ _ (u8s out) HT.out) Tryz.underlying30 rfl HIO.out) rfl ⟨rfl, below_setCells (Nat.le_refl _) _ _ _ (hb3.out.trans (HB4.out.mono hb3.out.size))⟩
theorem sumOf_length (bs : List UInt8) : (sumOf bs).length = 32 := by rw [sumOf, digestOf_length, absorb_length]
theorem sum_any (bs : List UInt8) (A : Option Addr) (c : Nat) (w : World) (hr : Rd (fun _ => True) w A bs.length bs) (hs : Sl A bs.length c) (hL : bs.length < 1000000000000000000) (hk : KIs w) (h0 : 0 < w.heap.size) :
  Calls Tryz.prog 172 #[.slice A bs.length c] w fun E w' => E = .returned (.agg (u8s (sumOf bs)).toArray) /\ Below w.heap.size w w' :=
 sum_by bs (sumOf bs) A c w hr hs hL hk h0 (by rw [u8s_length, sumOf_length]) fun g w hh hk h0 => hashSum_any g bs w hh hL hk h0
end Go.Proofs.YtknpcmadghkaaaaGreatDoor.Sh
