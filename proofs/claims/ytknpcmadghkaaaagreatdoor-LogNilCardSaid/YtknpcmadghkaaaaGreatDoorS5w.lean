/- Laws and walks. -/
import Derived.Test.YtknpcmadghkaaaaGreatDoorS3w
import Derived.Lib.AppendStr
import Derived.Test.YtknpcmadghkaaaaGreatDoorS4w
import Derived.Laws.BytesArg
set_option maxHeartbeats 16000000
set_option maxRecDepth 100000

namespace Go.Proofs.YtknpcmadghkaaaaGreatDoor.Sh
open Go.RowKit
theorem Tryz.info5 : (Tryz.prog.info? 5).map (fun i => (i.zero, i.size, i.bytes)) = some (some (.int .u8 0), 1, 1) := by kernel_rfl
theorem Rd.src {P : Nat -> Prop} {w : World} {A : Option Addr} {n : Nat} {bs : List UInt8} (h : Rd P w A n bs) :
  0 < (u8s bs).length -> ∃ ad, A = some ad /\ ∀ j v, (u8s bs)[j]? = some v -> w.cell? (ad.add j) = some v := by
 intro hp
 obtain ⟨hl, hc⟩ := h
 rw [u8s_length] at hp
 obtain ⟨b, o, hA, _, _, hcell⟩ := hc (by omega)
 refine ⟨_, hA, fun j v hv => ?_⟩
 rw [add_lit]
 simp only [u8s, List.getElem?_map, Option.map_eq_some_iff] at hv
 obtain ⟨u, hu, rfl⟩ := hv
 exact hcell j u hu
theorem Rd.of_own {w : World} {B n : Nat} {bs : List UInt8} {A : Option Addr} {c : Nat} (h : w.ownsRow B 5 1 (.slice A n c) n (u8s bs)) : Rd (B <= ·) w A n bs := by
 have hl : bs.length = n := by have := h.1; rw [u8s_length] at this; omega
 refine ⟨hl, fun hn => ?_⟩
 rcases h.2 with ⟨h0, h1⟩ | ⟨g, cap, cur, hv, hB, hh, _⟩
 ·omega
 ·have hA : A = some ⟨g, 0, none⟩ := by injection hv
  subst hA
  refine ⟨g, 0, rfl, ?_, hB, fun j u hu => ?_⟩
  ·exact (h.lt g rfl).2
  ·have := h.cells (g := g) rfl j (.int .u8 (u.toNat : Int)) (by simp [u8s, hu])
   rwa [add_lit] at this
theorem own_shape {w : World} {B n : Nat} {v : Value} {xs : List Value} (h : w.ownsRow B 5 1 v n xs) : ∃ A c, v = .slice A n c /\ Sl A n c := by
 rcases h.2 with ⟨rfl, rfl⟩ | ⟨g, cap, cur, rfl, _, _, hn, hm, _⟩
 ·exact ⟨none, 0, rfl, ⟨fun _ => ⟨rfl, rfl⟩, Nat.le_refl _, by omega⟩⟩
 ·exact ⟨_, cap, rfl, ⟨(fun h => (by cases h)), hn, by unfold maxLen at hm; omega⟩⟩
theorem wpList_append_rd {w0 w : World} {ops : Array Oper} {rest : List Oper} {o : Oper} {a : Act} {Q : Exit -> Act -> World -> Prop} (hgd : o.guard = none) (s x : Operand)
  (ho : o.op = Op.call { callee := Callee.builtin Builtin.append, args := #[s, x], argTypes := #[23, 23] })
  (B n m c : Nat) (v : Value) (A : Option Addr) (xs bs : List UInt8) (hs : a.eval s = v) (hx : a.eval x = .slice A m c)
  (hown : w.ownsRow B 5 1 v n (u8s xs)) {Pr : Nat -> Prop} (hr : Rd Pr w A m bs) (hsl : Sl A m c) (hb : Below B w0 w) (hB : B <= w.heap.size) (hm : n + m <= 140737488355328)
  (h : ∀ A' c' w', Hid (w'.ownsRow B 5 1 (.slice A' (n + m) c') (n + m) (u8s (xs ++ bs)) /\ Sl A' (n + m) c') -> Below B w0 w' -> wpList Tryz.prog ops Q rest (a.put o.dst (.slice A' (n + m) c')) w') :
  wpList Tryz.prog ops Q (o :: rest) a w := by
 obtain ⟨i0, hi, hz0, hz1, hz2⟩ := info_parts Tryz.info5
 rcases A with _ | ad
 ·obtain ⟨rfl, rfl⟩ := hsl.1 rfl
  have hbs : bs = [] := List.eq_nil_of_length_eq_zero hr.1
  subst hbs
  obtain ⟨A', c', rfl, hsl'⟩ := own_shape hown
  refine wpList_plain hgd fun K hK' => ?_
  have hrun := run_append_owned_none (P := Tryz.prog) w B 23 o.type 5 i0 1 Tryz.underlying23 hi _ n _ hown
  unfold Oper.wp
  simp [execOp, ho, resolve, invoke, builtin, hs, hx, hrun, Result.andThen]
  exact hK' _ _ (by simpa using h A' c' w ⟨by simpa using hown, by simpa using hsl'⟩ hb)
 ·have hl : (u8s bs).length = m * 1 := by rw [u8s_length, hr.1]; omega
  refine wpList_append_own _ hgd s x 23 ho B 5 i0 (.int .u8 0) 1 1 Tryz.underlying23 hi hz0 hz1 hz2 rfl (by decide) v n _ hs hown ad m c (u8s bs) hx hl ?_ (u8s_one bs) (by unfold maxLen; omega) (by omega) hB ?_
  ·intro j u hu
   have hp : 0 < (u8s bs).length := by have := (List.getElem?_eq_some_iff.1 hu).1; omega
   obtain ⟨ad2, had, hc⟩ := hr.src hp
   injection had with had
   subst had
   exact hc j u hu
  ·intro v' w' hv' hg' _
   obtain ⟨A', c', rfl, hsl'⟩ := own_shape hv'
   exact h A' c' w' ⟨by rw [show u8s (xs ++ bs) = u8s xs ++ u8s bs by simp [u8s]]; exact hv', hsl'⟩ (hb.grown hg' hB (fun k hk => (hown.lt k hk).1))
theorem wpList_append_byte_own {w0 wr : World} {ops : Array Oper} {rest : List Oper} {o : Oper} {a : Act} {Q : Exit -> Act -> World -> Prop} (hgd : o.guard = none) (s x : Operand)
  (ho : o.op = Op.call { callee := Callee.builtin Builtin.append, args := #[s, x], argTypes := #[23, 23] })
  (B n : Nat) (v : Value) (xs : List UInt8) (z : Int) (u : UInt8) (hs : a.eval s = v) (hx : a.eval x = .slice (some ⟨wr.heap.size, 0, none⟩) 1 1)
  (hown : wr.ownsRow B 5 1 v n (u8s xs)) (hb : Below B w0 wr) (hB : B <= wr.heap.size) (hz : z = (u.toNat : Int)) (hm : n + 1 <= 140737488355328)
  (h : ∀ A' c' w', Hid (w'.ownsRow B 5 1 (.slice A' (n + 1) c') (n + 1) (u8s (xs ++ [u])) /\ Sl A' (n + 1) c') -> Below B w0 w' -> wpList Tryz.prog ops Q rest (a.put o.dst (.slice A' (n + 1) c')) w') :
  wpList Tryz.prog ops Q (o :: rest) a (wr.alloc (.cells #[.int .u8 z] 5)) := by
 refine wpList_append_rd (w0 := w0) hgd s x ho B n 1 1 v _ xs [u] hs hx (hown.alloc _) (Pr := fun _ => True) ⟨rfl, fun _ => ⟨_, 0, rfl, by simp, trivial, fun j y hy => ?_⟩⟩ ⟨(fun h => (by cases h)), Nat.le_refl _, by omega⟩ (hb.alloc hB _) (by simp; omega) hm h
 match j, hy with
 | 0, hy =>
  simp at hy
  subst hy hz
  exact cell_of_row _ _ 0 _ 5 (0, 0) (heap_alloc_new wr _)
open Go.RowKit
def OwAt13 (k : Nat) (xs : List UInt8) (w wr : World) (A : Option Addr) (c : Nat) : Prop :=
 wr.ownsRow (w.heap.size + 1) 5 1 (.slice A k c) k (u8s xs) /\ Sl A k c /\ Below w.heap.size w wr /\ wr.there w.heap.size 0 32 /\ w.heap.size < wr.heap.size
theorem OwAt13.next {k k' c c' : Nat} {xs ys : List UInt8} {w wr w' : World} {A A' : Option Addr} (H : OwAt13 k xs w wr A c)
  (h : w'.ownsRow (w.heap.size + 1) 5 1 (.slice A' k' c') k' (u8s ys) /\ Sl A' k' c') (hb : Below (w.heap.size + 1) wr w') : OwAt13 k' ys w w' A' c' :=
 ⟨h.1, h.2, H.2.2.1.trans (hb.mono (Nat.le_succ _)), there_below H.2.2.2.1 hb (Nat.lt_succ_self _), Nat.lt_of_lt_of_le H.2.2.2.2 hb.size⟩
theorem lenb13 (n k t : Nat) (h : t + k = 7) : (n : Int) * 8 / 2 ^ (8 * t) % 256 = ((UInt8.ofNat (8 * n / 2 ^ (56 - 8 * k))).toNat : Int) := by
 rw [<- len_byte, show 56 - 8 * k = 8 * t by omega, Int.mul_comm]
structure LpAt13 (G b o : Nat) (all : List UInt8) (s : List UInt32) (w wr : World) : Prop where
 bel : Below w.heap.size w wr
 res : wr.there w.heap.size 0 32
 rd : ∀ (j : Nat) (u : UInt8), all[j]? = some u -> wr.cell? ⟨b, o + j, none⟩ = some (.int .u8 (u.toNat : Int))
 sc : wr.rangeAt G 0 (u32s s)
 st : wr.there G 0 8
 hb : b < G
 hw : w.heap.size < G
 lt : G < wr.heap.size
theorem LpAt13.next {G b o : Nat} {all : List UInt8} {s : List UInt32} {w wr wr' : World} (H : LpAt13 G b o all s w wr) (h : Below wr.heap.size wr wr') : LpAt13 G b o all s w wr' :=
 ⟨H.bel.trans (h.mono H.bel.size), there_below H.res h (Nat.lt_trans H.hw H.lt), fun j u hu => (h.cell (p := ⟨b, o + j, none⟩) (Nat.lt_trans H.hb H.lt)).trans (H.rd j u hu), rangeAt_below H.sc h H.lt, there_below H.st h H.lt, H.hb, H.hw, Nat.lt_of_lt_of_le H.lt h.size⟩
theorem LpAt13.set {G b o : Nat} {all : List UInt8} {s : List UInt32} {w wr : World} (H : LpAt13 G b o all s w wr) (g k : Nat) (hg : G < g) (v : Value) : LpAt13 G b o all s w (wr.setCell ⟨g, k, none⟩ v) := by
 have h1 := H.hb
 have h2 := H.hw
 refine ⟨H.bel.setCell (by show w.heap.size <= g; omega) _, there_set H.res _ _, fun j u hu => ?_, rangeAt_set_other H.sc (by omega) _ _, there_set H.st _ _, h1, h2, by simpa [World.setCell] using H.lt⟩
 rw [World.cell?_setCell_other _ _ _ _ (by intro e; injection e with e; omega)]
 exact H.rd j u hu
theorem LpAt13.drewN {G b o : Nat} {all : List UInt8} {s : List UInt32} {w wr : World} (H : LpAt13 G b o all s w wr) (q : Nat) : LpAt13 G b o all s w (wr.drewN q) := ⟨below_drewN H.bel q, H.res, H.rd, H.sc, H.st, H.hb, H.hw, H.lt⟩
theorem LpAt13.store {G b o : Nat} {all : List UInt8} {s s' : List UInt32} {w wr : World} (H : LpAt13 G b o all s w wr) (hl : s'.length = 8) : LpAt13 G b o all s' w (wr.setCells G 0 (u32s s')) := by
 have h1 := H.hb
 have h2 := H.hw
 refine ⟨below_setCells (by omega) _ _ _ H.bel, World.there_setCells H.res _ _ _, fun j u hu => ?_, World.rangeAt_setCells_same _ _ _ _ (by rw [u32s_length, hl]; exact H.st), World.there_setCells H.st _ _ _, h1, h2, ?_⟩
 ·rw [World.cell?_setCells_out G _ 0 wr ⟨b, o + j, none⟩ (fun e => absurd e (by show ¬ b = G; omega))]
  exact H.rd j u hu
 ·have := (below_setCells (B := 0) (a := wr) (b := G) (Nat.zero_le _) (u32s s') 0 _ bl).size
  exact Nat.lt_of_lt_of_le H.lt this
theorem own_empty13 (w : World) (G : Nat) (hG : w.heap.size = G) : (w.alloc (.cells #[] 5)).ownsRow G 5 1 (.slice (some ⟨G, 0, none⟩) 0 0) 0 (u8s []) := by
 subst hG
 exact World.ownsRow_lit w #[] 0 (Nat.le_refl _) (Nat.zero_le _) rfl
theorem sum13_by (bs all out : List UInt8) (n N z : Nat) (st : Nat -> List UInt32) (AA : Option Addr) (c : Nat) (w : World) (hr : Rd (fun _ => True) w AA n bs) (hs : Sl AA n c) (hn : n = bs.length) (hL : n < 100000000) (hk : KIs w) (h0 : 0 < w.heap.size)
  (hz : z = (119 - n % 64) % 64) (hall : all = bs ++ padOf n) (hN : n + 1 + z + 8 = 64 * N)
  (hst : ∀ w : World, Calls Tryz.prog 146 #[] w fun E w' => E = .returned (.agg (u32s (st 0)).toArray) /\ Below w.heap.size w w') (h8 : ∀ q, (st q).length = 8)
  (hbk : ∀ (q : Nat) (w : World), q < N -> KIs w -> 0 < w.heap.size -> Calls Tryz.prog 147 #[.agg (u32s (st q)).toArray, .agg (u8s ((all.drop (64 * q)).take 64)).toArray] w fun E w' => E = .returned (.agg (u32s (st (q + 1))).toArray) /\ Below w.heap.size w w')
  (hol : out.length = 32) (ho : ∀ i, i < 32 -> ((out.getD i 0).toNat : Int) = (((st N).getD (i / 4) 0).toNat : Int) / 2 ^ (24 - 8 * (i % 4)) % 256) :
  Calls Tryz.prog 116 #[.slice AA n c] w fun E w' => E = .returned (.agg (u8s out).toArray) /\ Below w.heap.size w w' := by
 have HK := iq hk
 have HR := iq hr
 have HS := iq hs
 have HZ := iq hz
 have HA := iq hall
 have HN := iq hN
 have HST := iq hst
 have H8 := iq h8
 have HBK := iq hbk
 have HOL := iq hol
 have HO := iq ho
 have HNB := iq hn
 clear hk hr hs hz hall hN hst h8 hbk hol ho hn
 go_enter Tryz.func116, Tryz.ntmps116
 go_wp2_with (first
  | (at_builtin; refine wpList_append_byte_own (w0 := w1) rfl (.tmp 14) (.tmp 15) rfl (w.heap.size + 1) n _ bs _ 128 rfl rfl HOW.out.1 bl HOW.out.2.2.2.2 rfl (by omega) ?_; intro A2 c2 w2 h2 hb2; have HOW2 := iq (HOW.out.next h2.out hb2); clear h2 hb2)
  | (at_builtin; refine wpList_append_rd (w0 := w.alloc _) rfl (.tmp 12) (.tmp 13) rfl (w.heap.size + 1) 0 n c _ AA [] bs rfl rfl (own_empty13 (w.alloc _) (w.heap.size + 1) (by simp)) ((HR.out.below (bl.alloc (Nat.le_refl _) _) (fun _ h _ => h)).below (bl.alloc (Nat.le_refl _) _) (fun _ h _ => h)) HS.out (bl.alloc (by simp) _) (by simp) (by omega) ?_; intro A1 c1 w1 h1 hb1; have HOW : Hid (OwAt13 n bs w w1 A1 c1) := iq (by
    have hh := h1.out
    rw [Nat.zero_add, List.nil_append] at hh
    exact ⟨hh.1, hh.2, (bl.alloc (Nat.le_refl _) _).trans (hb1.mono (Nat.le_succ _)), there_below (there_new w _ _) hb1 (Nat.lt_succ_self _), by have := hb1.size; simp at this; omega⟩); rw [Nat.zero_add]; clear h1 hb1))
 go_loopw [3] (fun v3 wr => ∃ (j : Nat) (A' : Option Addr) (c' : Nat), j <= z /\ v3 = .slice A' (n + 1 + j) c' /\ Hid (OwAt13 (n + 1 + j) (bs ++ 128 :: List.replicate j 0) w wr A' c')) (fun v3 _ => n + 1 + z - lenOf v3)
 case atStart => exact ⟨0, A2, c2, Nat.zero_le _, rfl, HOW2⟩
 case round =>
  obtain ⟨j, A3, c3, hj, rfl, HO3⟩ := hrel
  clear HOW HOW2
  by_cases hjz : j < z
  ·have h56 : ¬ (n + 1 + j) % 64 = 56 := by have := HZ.out; omega
   go_wp2_with (first
    | (at_builtin; go_must (refine wpList_append_byte_own (w0 := wr) rfl (.tmp 21) (.tmp 22) rfl (w.heap.size + 1) (n + 1 + j) _ (bs ++ 128 :: List.replicate j 0) _ 0 rfl rfl HO3.out.1 bl HO3.out.2.2.2.2 rfl (by have := HZ.out; omega) ?_); intro A4 c4 w4 h4 hb4; have HO4 := iq (HO3.out.next h4.out hb4); clear h4 hb4))
   go_roundw
   case measure => simp only [lenOf]; omega
   case rel =>
    refine ⟨j + 1, A4, c4, by omega, rfl, ?_⟩
    rw [List.append_assoc, List.cons_append, <- List.replicate_succ'] at HO4
    exact HO4
  ·have h56 : (n + 1 + j) % 64 = 56 := by have := HZ.out; omega
   obtain rfl : j = z := by omega
   have HO0 : Hid (OwAt13 (n + 1 + j + 0) (bs ++ padTo n 0) w wr A3 c3) := iq (by
    rw [padTo, lenBytes, <- HZ.out]
    simpa using HO3.out)
   clear HO3 hjz
   go_wp2
   have e56 : (((n : Int) + 1 + (j : Int)) % 64 != 56) = false := by
    have h : ((n : Int) + 1 + (j : Int)) % 64 = 56 := by omega
    rw [h]
    rfl
   rw [e56]
   clear e56 h56
   go_loopw [3, 5] (fun v3 vi wr => ∃ (k : Nat) (zi : Int) (A' : Option Addr) (c' : Nat), k <= 8 /\ vi = .int .i64 zi /\ zi = 7 - (k : Int) /\ v3 = .slice A' (n + 1 + j + k) c' /\ Hid (OwAt13 (n + 1 + j + k) (bs ++ padTo n k) w wr A' c')) (fun _ vi _ => (intOf vi + 1).toNat)
   case atStart => exact ⟨0, 7, A3, c3, by omega, rfl, by omega, rfl, HO0⟩
   case round =>
    clear HO0
    obtain ⟨k, zi, A5, c5, hk, rfl, hzi, rfl, HO5⟩ := hrel
    by_cases hk8 : k < 8
    ·obtain ⟨t, ht⟩ : ∃ t, t = 7 - k := ⟨_, rfl⟩
     obtain rfl : zi = (t : Int) := by omega
     have ht8 : t < 8 := by omega
     have HBC : Hid ((n : Int) * 8 / 2 ^ (8 * t) % 256 = ((UInt8.ofNat (8 * n / 2 ^ (56 - 8 * k))).toNat : Int)) := iq (lenb13 n k t (by omega))
     have HT : Hid (t + k = 7) := iq (by omega)
     have hkl : n + 1 + j + k <= 200000000 := by have := HZ.out; omega
     clear hzi ht hk8
     go_wp2_with (first
      | (at_builtin; go_must (refine wpList_append_byte_own (w0 := wr) rfl (.tmp 32) (.tmp 39) rfl (w.heap.size + 1) (n + 1 + j + k) _ (bs ++ padTo n k) _ (UInt8.ofNat (8 * n / 2 ^ (56 - 8 * k))) rfl rfl HO5.out.1 bl HO5.out.2.2.2.2 HBC.out (by omega) ?_); intro A6 c6 w6 h6 hb6; have HO6 := iq (HO5.out.next h6.out hb6); clear h6 hb6))
     go_roundw
     case measure => simp [intOf]
     case rel =>
      refine ⟨k + 1, (t : Int) - 1, A6, c6, by have := HT.out; omega, by go_num, by have := HT.out; omega, rfl, ?_⟩
      rw [padTo_succ, <- List.append_assoc]
      exact HO6
    ·obtain rfl : k = 8 := by omega
     obtain rfl : zi = -1 := by omega
     clear hzi hk8
     have HAL : Hid (OwAt13 (n + 1 + j + 8) all w wr A5 c5) := iq (by rw [HA.out]; exact HO5.out)
     have HLN : Hid (all.length = n + 1 + j + 8) := iq (by
      have h1 := padOf_length n
      have h2 := HZ.out
      have h3 := HNB.out
      rw [HA.out, List.length_append]
      omega)
     have hln2 : n + 1 + j + 8 < 200000000 := by have := HZ.out; omega
     clear HO5 hk HA HZ
     obtain ⟨L, hLL⟩ : ∃ L, L = n + 1 + j + 8 := ⟨_, rfl⟩
     rw [<- hLL] at HAL HLN HN hln2
     have hRA : Hid (Rd (w.heap.size + 1 <= ·) wr A5 L all) := iq (Rd.of_own HAL.out.1)
     have HI8 : Hid (∀ q, (Tryz.prog.info? 202).map (·.size) = some (u32s (st q)).length) := iq fun q => by rw [u32s_length, H8.out]; exact Tryz.size202
     have HL8 : Hid (∀ q, (u32s (st q)).length = 8) := iq fun q => by rw [u32s_length, H8.out]
     rw [<- hLL]
     have hL0 : 0 < L := by omega
     clear hLL
     obtain ⟨b, o, rfl, hbw, _, hbc⟩ := hRA.out.2 hL0
     have HBW := iq hbw
     have HBC := iq hbc
     clear hRA hbw hbc
     go_wp2_with (first
      | (go_at_call 146; refine (HST.out wr).mono ?_; rintro E w7 ⟨rfl, hb7⟩; have HB7 := iq hb7; clear hb7)
      | (refine wpList_store_fresh rfl 202 (.tmp 6) (.tmp 41) rfl (u32s (st 0)) rfl rfl (HL8.out 0).symm (HI8.out 0) (u32s_one _) ?_; intro w8 G8))
     have HP : Hid (LpAt13 w7.heap.size b o all (st 0) w w8) := by
      have h1 := HAL.out.2.2.2.2
      have h2 := HBW.out
      have h3 := HB7.out.size
      have h4 : w7.heap.size < w8.heap.size := G8.out.2.2.2
      have hb3 := HAL.out.2.2.1.trans (HB7.out.mono HAL.out.2.2.1.size)
      refine iq ⟨hb3.trans (G8.out.1.mono hb3.size), there_below (there_below HAL.out.2.2.2.1 HB7.out h1) G8.out.1 (by omega), fun j u hu => ?_, G8.out.2.1, ?_, by omega, by omega, h4⟩
      ·exact (G8.out.1.cell (p := ⟨b, o + j, none⟩) (by show b < w7.heap.size; omega)).trans ((HB7.out.cell (p := ⟨b, o + j, none⟩) h2).trans (HBC.out j u hu))
      ·rw [<- HL8.out 0]
       exact G8.out.2.2.1
     generalize w7.heap.size = G at HP ⊢
     clear HAL HBW HBC HB7 G8 HR HS HST
     go_loopw [7] (fun v7 wr => ∃ q : Nat, q <= N /\ v7 = .int .i64 ((64 * q : Nat) : Int) /\ Hid (LpAt13 G b o all (st q) w wr)) (fun v7 _ => L - (intOf v7).toNat)
     case atStart => exact ⟨0, Nat.zero_le _, rfl, HP⟩
     case round =>
      clear HP
      obtain ⟨q, hq, rfl, HP⟩ := hrel
      by_cases hqN : q < N
      ·have hqL : 64 * q + 64 <= L := by have := HN.out; omega
       obtain ⟨ch, hch⟩ : ∃ ch, ch = (all.drop (64 * q)).take 64 := ⟨_, rfl⟩
       have hcl : ch.length = 64 := by rw [hch, List.length_take, List.length_drop, HLN.out]; omega
       have HBQ : Hid (∀ w : World, KIs w -> 0 < w.heap.size -> Calls Tryz.prog 147 #[.agg (u32s (st q)).toArray, .agg (u8s ch).toArray] w fun E w' => E = .returned (.agg (u32s (st (q + 1))).toArray) /\ Below w.heap.size w w') := iq fun w hk h0 => by
        rw [hch]
        exact HBK.out q w hqN hk h0
       have HCA : Hid (∀ i, i < 64 -> all[64 * q + i]? = some (ch.getD i 0)) := iq fun i hi => by
        have h1 : ch[i]? = all[64 * q + i]? := by rw [hch, List.getElem?_take_of_lt hi, List.getElem?_drop]
        rw [<- h1, List.getD_eq_getElem?_getD, List.getElem?_eq_getElem (by omega : i < ch.length)]
        rfl
       have HCL := iq hcl
       have HIC : Hid ((Tryz.prog.info? 204).map (·.size) = some (u8s ch).length) := iq (by rw [u8s_length, hcl]; exact Tryz.size204)
       clear hch hcl
       go_wp2
       generalize hG9 : wr.heap.size = G9
       have HGG : Hid (G < G9) := iq (by rw [<- hG9]; exact HP.out.lt)
       have HQ : Hid (LpAt13 G b o all (st q) w (wr.alloc (.cells (u8s (List.replicate 64 0)).toArray 204)) /\ (wr.alloc (.cells (u8s (List.replicate 64 0)).toArray 204)).rangeAt G9 0 (u8s (ch.take 0 ++ List.replicate (64 - 0) 0)) /\ (wr.alloc (.cells (u8s (List.replicate 64 0)).toArray 204)).there G9 0 64) := by
        rw [<- hG9]
        exact iq ⟨HP.out.next (bl.alloc (Nat.le_refl _) _), range_new wr (u8s (List.replicate 64 0)) 204, there_new wr _ 204⟩
       clear hG9 HP
       go_loopw [9] (fun v9 wr => ∃ i : Nat, i <= 64 /\ v9 = .int .i64 i /\ Hid (LpAt13 G b o all (st q) w wr /\ wr.rangeAt G9 0 (u8s (ch.take i ++ List.replicate (64 - i) 0)) /\ wr.there G9 0 64)) (fun v9 _ => 64 - (intOf v9).toNat)
       case atStart => exact ⟨0, by omega, rfl, HQ⟩
       case round =>
        clear HQ
        obtain ⟨i, hi, rfl, HQ⟩ := hrel
        by_cases hi64 : i < 64
        ·have cl := HQ.out.1.rd _ _ (HCA.out i hi64)
         have cs := rangeAt_u8 HQ.out.2.1 i (by simp [HCL.out]; omega)
         have cf := there_cell HQ.out.2.2 i hi64
         have HTK : Hid (ch.take (i + 1) = ch.take i ++ [ch.getD i 0]) := iq (by
          rw [List.take_add_one, List.getD_eq_getElem?_getD, List.getElem?_eq_getElem (by rw [HCL.out]; exact hi64)]
          rfl)
         have HTL : Hid ((ch.take i).length = i) := iq (by rw [List.length_take, HCL.out]; omega)
         generalize (ch.take i ++ List.replicate (64 - i) 0).getD i 0 = old at cs
         generalize ch.getD i 0 = x at cl HTK
         go_wp2
         go_roundw
         case measure => simp [intOf]; omega
         case rel =>
          refine ⟨i + 1, by omega, by go_num, iq ⟨HQ.out.1.set G9 i HGG.out _, ?_, there_set HQ.out.2.2 _ _⟩⟩
          have h := rangeAt_set HQ.out.2.1 i (by rw [u8s_length, List.length_append, HTL.out, List.length_replicate]; omega) (.int .u8 (x.toNat : Int))
          rw [HTK.out, <- fill_set (ch.take i) 0 x 64 i HTL.out hi64]
          rw [u8s_set] at h
          exact h
        ·obtain rfl : i = 64 := by omega
         have HCH : Hid (wr.rangeAt G9 0 (u8s ch)) := iq (by
          have h := HQ.out.2.1
          rwa [List.take_of_length_le (by rw [HCL.out]; exact Nat.le_refl _), Nat.sub_self, List.replicate_zero, List.append_nil] at h)
         clear hi64 hi HCA HCL
         have HG0 : Hid (0 < wr.heap.size) := iq (by have := HQ.out.1.lt; omega)
         have HKQ : Hid (KIs wr) := iq (HK.out.below HQ.out.1.bel h0)
         have HQP := iq HQ.out.1
         have HSC := iq HQ.out.1.sc
         clear HQ
         go_wp2_with (first
          | (refine wpList_load_mid rfl 202 (.tmp 6) rfl G 0 rfl (u32s (st q)) _ HSC.out Tryz.underlying202 rfl (HI8.out q) ?_)
          | (refine wpList_load_mid rfl 204 (.tmp 8) rfl G9 0 rfl (u8s ch) _ HCH.out Tryz.underlying204 rfl HIC.out ?_)
          | (go_at_call 147; refine (HBQ.out wr HKQ.out HG0.out).mono ?_; rintro E w7 ⟨rfl, hb7⟩; have HQ7 := iq (HQP.out.next hb7); clear hb7)
          | (refine wpList_store_cells rfl 202 (.tmp 6) (.tmp 62) rfl G 0 (u32s (st (q + 1))) rfl rfl (by rw [HL8.out]; exact HQ7.out.st) (HI8.out (q + 1)) (u32s_one _) ?_))
         go_roundw
         case measure => simp [intOf]; omega
         case rel => exact ⟨q + 1, by omega, by go_num, iq (HQ7.out.store (H8.out (q + 1)))⟩
      ·obtain rfl : q = N := by omega
       have hLq : L = 64 * q := HN.out
       go_wp2
       generalize hG10 : wr.heap.size = G10
       have HOQ : Hid (LpAt13 G b o all (st q) w (wr.alloc (.cells (u8s (List.replicate 32 0)).toArray 30)) /\ (wr.alloc (.cells (u8s (List.replicate 32 0)).toArray 30)).rangeAt G10 0 (u8s (out.take 0 ++ List.replicate (32 - 0) 0)) /\ (wr.alloc (.cells (u8s (List.replicate 32 0)).toArray 30)).there G10 0 32) := by
        rw [<- hG10]
        exact iq ⟨HP.out.next (bl.alloc (Nat.le_refl _) _), range_new wr (u8s (List.replicate 32 0)) 30, there_new wr _ 30⟩
       have HGG : Hid (G < G10) := iq (by rw [<- hG10]; exact HP.out.lt)
       clear hG10 HP
       go_loopw [11] (fun v9 wr => ∃ i : Nat, i <= 32 /\ v9 = .int .i64 i /\ Hid (LpAt13 G b o all (st q) w wr /\ wr.rangeAt G10 0 (u8s (out.take i ++ List.replicate (32 - i) 0)) /\ wr.there G10 0 32)) (fun v9 _ => 32 - (intOf v9).toNat)
       case atStart => exact ⟨0, by omega, rfl, HOQ⟩
       case round =>
        clear HOQ
        obtain ⟨i, hi, rfl, HQ⟩ := hrel
        by_cases hi32 : i < 32
        ·have cl := rangeAt_u32 HQ.out.1.sc (i / 4) (by rw [H8.out]; omega)
         have cs := rangeAt_u8 HQ.out.2.1 i (by simp [HOL.out]; omega)
         have cf := there_cell HQ.out.2.2 i hi32
         have HTK : Hid (out.take (i + 1) = out.take i ++ [out.getD i 0]) := iq (by
          rw [List.take_add_one, List.getD_eq_getElem?_getD, List.getElem?_eq_getElem (by rw [HOL.out]; exact hi32)]
          rfl)
         have HTL : Hid ((out.take i).length = i) := iq (by rw [List.length_take, HOL.out]; omega)
         obtain ⟨m, hm⟩ : ∃ m, m = i / 4 := ⟨_, rfl⟩
         obtain ⟨r, hr⟩ : ∃ r, r = i % 4 := ⟨_, rfl⟩
         obtain ⟨t, ht⟩ : ∃ t, t = 3 - r := ⟨_, rfl⟩
         have hOi : Hid (((out.getD i 0).toNat : Int) = (((st q).getD m 0).toNat : Int) / 2 ^ (8 * t) % 256) := iq (by
          have := HO.out i hi32
          rw [hm, show 8 * t = 24 - 8 * (i % 4) by omega]
          exact this)
         rw [<- hm] at cl
         have im : (i : Int) / 4 = (m : Int) := by omega
         have ir : (i : Int) % 4 = 3 - (t : Int) := by omega
         have ht4 : t < 4 := by omega
         have hm8 : m < 8 := by omega
         generalize (out.take i ++ List.replicate (32 - i) 0).getD i 0 = old at cs
         generalize out.getD i 0 = x at HTK hOi
         generalize (st q).getD m 0 = sm at cl hOi
         clear hm hr ht
         go_wp2
         go_roundw
         case measure => simp [intOf]; omega
         case rel =>
          rw [show 24 - 8 * (3 - t) = 8 * t by omega, <- hOi.out]
          refine ⟨i + 1, by omega, by go_num, iq ⟨HQ.out.1.set G10 i HGG.out _, ?_, there_set HQ.out.2.2 _ _⟩⟩
          have h := rangeAt_set HQ.out.2.1 i (by rw [u8s_length, List.length_append, HTL.out, List.length_replicate]; omega) (.int .u8 (x.toNat : Int))
          rw [HTK.out, <- fill_set (out.take i) 0 x 32 i HTL.out hi32]
          rw [u8s_set] at h
          exact h
        ·obtain rfl : i = 32 := by omega
         have HOT : Hid (wr.rangeAt G10 0 (u8s out)) := iq (by
          have h := HQ.out.2.1
          rwa [List.take_of_length_le (by rw [HOL.out]; exact Nat.le_refl _), Nat.sub_self, List.replicate_zero, List.append_nil] at h)
         have HI29 : Hid ((Tryz.prog.info? 30).map (·.size) = some (u8s out).length) := iq (by rw [u8s_length, HOL.out]; kernel_rfl)
         have HL32 : Hid ((u8s out).length = 32) := iq (by rw [u8s_length, HOL.out])
         have HQP := iq HQ.out.1
         clear HQ
         go_wp2_with (first
          | (refine wpList_load_mid rfl 30 (.tmp 10) rfl G10 0 rfl (u8s out) _ HOT.out Tryz.underlying30 rfl HI29.out ?_)
          | (refine wpList_store_cells rfl 30 (.tmp 2) (.tmp 80) rfl w.heap.size 0 (u8s out) rfl rfl (by rw [HL32.out]; exact HQP.out.res) HI29.out (u8s_one _) ?_))
         have hfin : (wr.setCells w.heap.size 0 (u8s out)).rangeAt w.heap.size 0 (u8s out) := World.rangeAt_setCells_same _ _ _ _ (by rw [HL32.out]; exact HQP.out.res)
         exact bodyPost_ret (ret_range rfl rfl hfin Tryz.underlying30 rfl HI29.out) rfl ⟨rfl, below_setCells (Nat.le_refl _) _ _ _ HQP.out.bel⟩
open Go.RowKit
theorem getD_left {A : Type} (a b : List A) (i : Nat) (d : A) (h : i < a.length) : (a ++ b).getD i d = a.getD i d := by rw [List.getD_eq_getElem?_getD, List.getD_eq_getElem?_getD, List.getElem?_append_left h]
theorem getD_right {A : Type} (a b : List A) (i : Nat) (d : A) (h : a.length <= i) : (a ++ b).getD i d = b.getD (i - a.length) d := by rw [List.getD_eq_getElem?_getD, List.getD_eq_getElem?_getD, List.getElem?_append_right h]
theorem digestOf_at : ∀ (l : List UInt32) (i : Nat), i < 4 * l.length -> (((digestOf l).getD i 0).toNat : Int) = ((l.getD (i / 4) 0).toNat : Int) / 2 ^ (24 - 8 * (i % 4)) % 256
 | [], i, h => by simp at h
 | x :: r, i, h => by
  rw [digestOf, List.flatMap_cons]
  by_cases h4 : i < 4
  ·rw [getD_left _ _ _ _ (by exact h4)]
   match i, h4 with
   | 0, _ => exact (by24 x).symm
   | 1, _ => exact (by16 x).symm
   | 2, _ => exact (by8 x).symm
   | 3, _ => exact (by0 x).symm.trans (by simp)
  ·obtain ⟨j, rfl⟩ : ∃ j, i = j + 4 := ⟨i - 4, by omega⟩
   rw [getD_right _ _ _ _ (by show 4 <= j + 4; omega)]
   have := digestOf_at r j (by rw [List.length_cons] at h; omega)
   rw [show (j + 4) / 4 = j / 4 + 1 by omega, show (j + 4) % 4 = j % 4 by omega, List.getD_cons_succ]
   rw [show j + 4 - (four x).length = j from rfl]
   exact this
theorem blocks_left (bs : List UInt8) : bs.length + 1 + (119 - bs.length % 64) % 64 + 8 = 64 * ((bs ++ padOf bs.length).length / 64) := by
 rw [List.length_append, padOf_length]
 omega
theorem part64 (all : List UInt8) (q : Nat) (h : q < all.length / 64) : ((all.drop (64 * q)).take 64).length = 64 := by
 rw [List.length_take, List.length_drop]
 omega
theorem H0_length : H0.length = 8 := rfl
theorem refSum_any (bs : List UInt8) (A : Option Addr) (c : Nat) (w : World) (hr : Rd (fun _ => True) w A bs.length bs) (hs : Sl A bs.length c) (hL : bs.length < 100000000) (hk : KIs w) (h0 : 0 < w.heap.size) :
  Calls Tryz.prog 116 #[.slice A bs.length c] w fun E w' => E = .returned (.agg (u8s (sumOf bs)).toArray) /\ Below w.heap.size w w' :=
 sum13_by bs (bs ++ padOf bs.length) (sumOf bs) bs.length ((bs ++ padOf bs.length).length / 64) ((119 - bs.length % 64) % 64) (fun q => absN q H0 (bs ++ padOf bs.length)) A c w hr hs rfl hL hk h0 rfl rfl
  (blocks_left bs) startRef_any (fun q => absN_length q _ _ H0_length)
  (fun q w hq _ _ => by
   have := refBlock_any (absN q H0 (bs ++ padOf bs.length)) (((bs ++ padOf bs.length).drop (64 * q)).take 64) w (absN_length q _ _ H0_length) (part64 _ q hq)
   rw [<- absN_succ] at this
   exact this)
  (sumOf_length bs) (fun i hi => digestOf_at (absorb (bs ++ padOf bs.length)) i (by rw [absorb_length]; omega))
open Go.RowKit
theorem Tryz.underlying9' : Tryz.prog.underlying 9 = some .string := by kernel_rfl
def str (bs : List UInt8) : ByteArray := ⟨bs.toArray⟩
end Go.Proofs.YtknpcmadghkaaaaGreatDoor.Sh
