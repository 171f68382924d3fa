/-
  What is proved: a table and a ledger side by side, and what lies beside; the chapter's example. Conditions as stated.
-/
import Derived.Test.YtflenghnmflenaaDoorSp
import Derived.Test.YtflenghnmflenaaDoorLs
namespace Go.Proofs.YtflenghnmflenaaDoor
open Go.RowKit
set_option maxRecDepth 100000

abbrev Kept := Nat × Array Value × TypeId
/-- A table and a ledger, and blocks that nobody turns. -/
structure Sn (w : World) (t g : Nat) (bs : List Kept) (W : World) (T : List Lst) (r : Option Nat) (c : Nat) (xs : List It) : Prop where
  tbl : Tbl W t T
  sys : Sys W g r c xs
  ne : ¬ On g r t
  town : w.heap.size ≤ t
  own : ∀ k, On g r k → w.heap.size ≤ k
  bel : Below w.heap.size w W
  low : 4 ≤ w.heap.size
  keep : ∀ p ∈ bs, W.heap[p.1]? = some (.cells p.2.1 p.2.2 (0, 0)) ∧ ¬ On g r p.1 ∧ p.1 ≠ t
theorem Sn.below {w : World} {t g : Nat} {bs : List Kept} {W W' : World} {T : List Lst} {r : Option Nat} {c : Nat} {xs : List It} (H : Sn w t g bs W T r c xs) (hb : Below W.heap.size W W') : Sn w t g bs W' T r c xs :=
  ⟨H.tbl.below hb, H.sys.below hb, H.ne, H.town, H.own, H.bel.trans (hb.mono H.bel.size), H.low, fun p hp => ⟨(hb.block _ (Array.getElem?_eq_some_iff.1 (H.keep p hp).1).1).trans (H.keep p hp).1, (H.keep p hp).2⟩⟩
theorem Sn.drewN {w : World} {t g : Nat} {bs : List Kept} {W : World} {T : List Lst} {r : Option Nat} {c : Nat} {xs : List It} (H : Sn w t g bs W T r c xs) (k : Nat) : Sn w t g bs (W.drewN k) T r c xs := H.below (below_drewN (Below.refl _ _) k)
theorem Sn.next {w : World} {t g : Nat} {bs : List Kept} {W : World} {T : List Lst} {r : Option Nat} {c : Nat} {xs : List It} (H : Sn w t g bs W T r c xs) {q : MRq} {E : Ending} {W' : World} (h : SDoP W t T g r xs q E W') :
    E = .returned (.tuple #[.agg (lrC (tR T xs q).1.1).toArray, .bool (tR T xs q).1.2]) ∧ ∃ r' c', Sn w t g bs W' (tR T xs q).2.1 r' c' (tR T xs q).2.2 := by
  obtain ⟨he, r', c', ht, hs, hn, ho⟩ := h
  refine ⟨he, r', c', ht, hs, hn, H.town, fun k hk => ?_, H.bel.trans (ho.1.below H.bel.size fun k hk => ?_), H.low, fun p hp => ?_⟩
  · rcases ho.2 k (.inl hk) with (e | e) | e
    · exact H.own k e
    · exact absurd (e ▸ hk) hn
    · exact Nat.le_trans H.bel.size e
  · rcases hk with hk | hk
    · exact H.own k hk
    · rw [hk]; exact H.town
  · obtain ⟨h1, h2, h3⟩ := H.keep p hp
    have hlt := (Array.getElem?_eq_some_iff.1 h1).1
    refine ⟨(ho.1.block _ hlt (by rintro (e | e); exact h2 e; exact h3 e)).trans h1, fun e => ?_, h3⟩
    rcases ho.2 p.1 (.inl e) with (e' | e') | e'
    · exact h2 e'
    · exact h3 e'
    · omega
theorem Sn.do {w : World} {t g : Nat} {bs : List Kept} {W : World} {T : List Lst} {r : Option Nat} {c : Nat} {xs : List It} (H : Sn w t g bs W T r c xs) (q : MRq) :
    Calls Tryd.prog 14 #[.pointer (some ⟨t, 0, none⟩), .pointer (some ⟨g, 0, none⟩), .agg (rqC q).toArray] W fun E W' => E = .returned (.tuple #[.agg (lrC (tR T xs q).1.1).toArray, .bool (tR T xs q).1.2]) ∧ ∃ r' c', Sn w t g bs W' (tR T xs q).2.1 r' c' (tR T xs q).2.2 :=
  (sdo_any H.tbl H.sys H.ne (Nat.le_trans H.low H.town) q).mono fun _ _ h => H.next h
theorem Sn.box {w : World} {t g : Nat} {bs : List Kept} {W : World} {T : List Lst} {r : Option Nat} {c : Nat} {xs : List It} (H : Sn w t g bs W T r c xs) (C : Array Value) (ty : TypeId) : Sn w t g ((W.heap.size, C, ty) :: bs) (W.alloc (.cells C ty)) T r c xs := by
  have hb : Below W.heap.size W (W.alloc (.cells C ty)) := (Below.refl _ _).alloc (Nat.le_refl _) _
  have H' := H.below hb
  refine ⟨H'.tbl, H'.sys, H'.ne, H'.town, H'.own, H'.bel, H'.low, fun p hp => ?_⟩
  rcases List.mem_cons.1 hp with rfl | hp
  · refine ⟨heap_alloc_new W _, fun e => ?_, fun e => ?_⟩
    · have := H.sys.led.on_lt _ e
      omega
    · have := H.tbl.lt
      omega
  · exact H'.keep p hp
/-- A block beside is stored into. -/
theorem Sn.set {w : World} {t g : Nat} {bs : List Kept} {W : World} {T : List Lst} {r : Option Nat} {c : Nat} {xs : List It} {b : Nat} {C : List Value} {ty : TypeId} (H : Sn w t g ((b, C.toArray, ty) :: bs) W T r c xs) (hb : ∀ p ∈ bs, p.1 ≠ b) (hw : w.heap.size ≤ b) (i : Nat) (v : Value) :
    Sn w t g ((b, (C.set i v).toArray, ty) :: bs) (W.setCell ⟨b, i, none⟩ v) T r c xs := by
  have hk : ∀ k, k ≠ b → (W.setCell ⟨b, i, none⟩ v).heap[k]? = W.heap[k]? := fun k hn => Below.heap_setCell W ⟨b, i, none⟩ v k hn
  obtain ⟨h1, h2, h3⟩ := H.keep _ (List.mem_cons_self ..)
  have hl := H.low
  refine ⟨H.tbl.kept (hk _ (fun e => h3 e.symm)), H.sys.off (fun k h4 => hk k (by omega)) fun k ho => hk k fun e => h2 (e ▸ ho), H.ne, H.town, H.own, H.bel.setCell (p := ⟨b, i, none⟩) hw v, hl, fun p hp => ?_⟩
  rcases List.mem_cons.1 hp with rfl | hp
  · exact ⟨heap_set h1 v, h2, h3⟩
  · obtain ⟨k1, k2, k3⟩ := H.keep p (List.mem_cons_of_mem _ hp)
    exact ⟨(hk _ (hb p hp)).trans k1, k2, k3⟩
/-- A block beside is stored into, all of it. -/
theorem Sn.turn {w : World} {t g : Nat} {bs : List Kept} {W W' : World} {T : List Lst} {r : Option Nat} {c : Nat} {xs : List It} {b : Nat} {C D : Array Value} {ty : TypeId} (H : Sn w t g ((b, C, ty) :: bs) W T r c xs) (hb : ∀ p ∈ bs, p.1 ≠ b) (hw : w.heap.size ≤ b) (hh : W'.heap[b]? = some (.cells D ty (0, 0))) (hg : W.grownBy W' (some b)) :
    Sn w t g ((b, D, ty) :: bs) W' T r c xs := by
  have hk : ∀ k, k < W.heap.size → k ≠ b → W'.heap[k]? = W.heap[k]? := fun k hl hn => hg.block k hl fun e => hn (by cases e; rfl)
  obtain ⟨h1, h2, h3⟩ := H.keep _ (List.mem_cons_self ..)
  have hl := H.low
  have hz := H.bel.size
  refine ⟨H.tbl.kept (hk _ H.tbl.lt (fun e => h3 e.symm)), H.sys.off (fun k h4 => hk k (by omega) (by omega)) fun k ho => hk k (H.sys.led.on_lt k ho) fun e => h2 (e ▸ ho), H.ne, H.town, H.own, H.bel.grown hg hz (fun k hk => by injection hk with hk; omega), hl, fun p hp => ?_⟩
  rcases List.mem_cons.1 hp with rfl | hp
  · exact ⟨hh, h2, h3⟩
  · obtain ⟨k1, k2, k3⟩ := H.keep p (List.mem_cons_of_mem _ hp)
    exact ⟨(hk _ (Array.getElem?_eq_some_iff.1 k1).1 (hb p hp)).trans k1, k2, k3⟩
theorem Sn.perm {w : World} {t g : Nat} {bs bs' : List Kept} {W : World} {T : List Lst} {r : Option Nat} {c : Nat} {xs : List It} (H : Sn w t g bs W T r c xs) (h : ∀ p ∈ bs', p ∈ bs) : Sn w t g bs' W T r c xs :=
  ⟨H.tbl, H.sys, H.ne, H.town, H.own, H.bel, H.low, fun p hp => H.keep p (h p hp)⟩
theorem Sn.pop {w : World} {t g : Nat} {b : Kept} {bs : List Kept} {W : World} {T : List Lst} {r : Option Nat} {c : Nat} {xs : List It} (H : Sn w t g (b :: bs) W T r c xs) : Sn w t g bs W T r c xs :=
  ⟨H.tbl, H.sys, H.ne, H.town, H.own, H.bel, H.low, fun p hp => H.keep p (List.mem_cons_of_mem _ hp)⟩
theorem sn_start {w W W' W2 : World} {t g : Nat} (hv : Vars w) (hb0 : Below w.heap.size w W) (h : Tbl W' t zT) (ht : W.heap.size ≤ t) (hb : Below W.heap.size W W') (hs : Sys W2 g none 0 []) (hg : W'.heap.size ≤ g) (hb2 : Below W'.heap.size W' W2) : Sn w t g [] W2 zT none 0 [] := by
  refine ⟨h.below hb2, hs, ?_, Nat.le_trans hb0.size ht, ?_, (hb0.trans (hb.mono hb0.size)).trans (hb2.mono (Nat.le_trans hb0.size hb.size)), hv.low, (by intro p hp; cases hp)⟩
  · rintro (rfl | e)
    · have := h.lt
      omega
    · cases e
  · rintro k (rfl | e)
    · exact Nat.le_trans hb0.size (Nat.le_trans hb.size hg)
    · cases e
def s1 : ByteArray := ⟨#[49]⟩
def q5 (tm : Nat) : MRq := ⟨1, tm, ⟨2, sA, s1, sE, sE, 0⟩, List.replicate 32 (.int .u8 0)⟩
def T5 : List Lst := zT.set 0 (5, (0, sE))
theorem x1 : tR zT [] (q5 5) = (((0, sE), true), T5, [(sA, s1)]) := by decide +kernel
theorem x2 : tR T5 [(sA, s1)] (q5 5) = (((0, sE), false), T5, [(sA, s1)]) := by decide +kernel
theorem x3 : tR T5 [(sA, s1)] (q5 4) = (((13, sE), false), T5, [(sA, s1)]) := by decide +kernel
theorem x4 : tLast T5 1 = (5, (0, sE)) := by decide +kernel
def zQ : MRq := ⟨0, 0, ⟨0, sE, sE, sE, sE, 0⟩, List.replicate 32 (.int .u8 0)⟩
theorem zero_rq (w : World) : (zeroValue 52).run Tryd.prog w = .ok (.agg (rqC zQ).toArray) w := by kernel_rfl
theorem rq_one {q : MRq} (h : ∀ v ∈ q.tag, v.oneCell' = true) : ∀ v ∈ rqC q, v.oneCell' = true := by
  intro v hv
  simp only [rqC, opC, List.mem_cons, List.cons_append, List.nil_append] at hv
  rcases hv with rfl | rfl | rfl | rfl | rfl | rfl | rfl | rfl | hv
  all_goals first | rfl | exact h _ hv
theorem rep_one : ∀ v ∈ (List.replicate 32 (Value.int .u8 0)), v.oneCell' = true := fun v hv => by rw [(List.mem_replicate.1 hv).2]; rfl
theorem field_5 (w : World) : (Instr.field 34 (.agg #[.int .u64 5, .int .i64 0, .string ⟨#[]⟩]) 0).run Tryd.prog w = .ok (.int .u64 5) w := by kernel_rfl
theorem q5_set : (rqC (q5 5)).set 1 (.int .u64 4) = rqC (q5 4) := rfl
set_option maxHeartbeats 4000000 in
theorem works_any {w : World} (hv : Vars w) : Calls Tryd.prog 9 #[] w fun E w' => E = .returned (.bool true) ∧ Below w.heap.size w w' := by
  have HN := Lib.hid (tnew_any w)
  have HV := Lib.hid hv
  clear hv
  have D1 : Hid (∀ t g bs W r c, Sn w t g bs W zT r c [] → Calls Tryd.prog 14 #[.pointer (some ⟨t, 0, none⟩), .pointer (some ⟨g, 0, none⟩), .agg (rqC (q5 5)).toArray] W fun E w' => E = .returned (.tuple #[.agg #[.int .i64 0, .string ⟨#[]⟩], .bool true]) ∧ ∃ r' c', Sn w t g bs w' T5 r' c' [(sA, s1)]) := Lib.hid fun t g bs W r c H => (H.do (q5 5)).mono fun E w' h => by rw [x1] at h; exact h
  have D2 : Hid (∀ t g bs W r c, Sn w t g bs W T5 r c [(sA, s1)] → Calls Tryd.prog 14 #[.pointer (some ⟨t, 0, none⟩), .pointer (some ⟨g, 0, none⟩), .agg (rqC (q5 5)).toArray] W fun E w' => E = .returned (.tuple #[.agg #[.int .i64 0, .string ⟨#[]⟩], .bool false]) ∧ ∃ r' c', Sn w t g bs w' T5 r' c' [(sA, s1)]) := Lib.hid fun t g bs W r c H => (H.do (q5 5)).mono fun E w' h => by rw [x2] at h; exact h
  have D3 : Hid (∀ t g bs W r c, Sn w t g bs W T5 r c [(sA, s1)] → Calls Tryd.prog 14 #[.pointer (some ⟨t, 0, none⟩), .pointer (some ⟨g, 0, none⟩), .agg (rqC (q5 4)).toArray] W fun E w' => E = .returned (.tuple #[.agg #[.int .i64 13, .string ⟨#[]⟩], .bool false]) ∧ ∃ r' c', Sn w t g bs w' T5 r' c' [(sA, s1)]) := Lib.hid fun t g bs W r c H => (H.do (q5 4)).mono fun E w' h => by rw [x3] at h; exact h
  have HL : Hid (∀ t g bs W r c, Sn w t g bs W T5 r c [(sA, s1)] → Calls Tryd.prog 18 #[.pointer (some ⟨t, 0, none⟩), .int .i64 1] W fun E w' => E = .returned (.agg #[.int .u64 5, .int .i64 0, .string ⟨#[]⟩]) ∧ Below W.heap.size W w') := Lib.hid fun t g bs W r c H => (tlast_any H.tbl 1).mono fun E w' h => by rw [x4] at h; exact h
  have HLi : Hid (∀ t g bs W r c, Sn w t g bs W T5 r c [(sA, s1)] → Calls Tryd.prog 17 #[.pointer (some ⟨t, 0, none⟩)] W fun E w' => LstP W T5 E w') := Lib.hid fun t g bs W r c H => tlist_any H.tbl
  have HI5 : Hid ((Tryd.prog.info? 52).map (·.size) = some (rqC (q5 5)).length) := Lib.hid Tryd.is52
  have HI4 : Hid ((Tryd.prog.info? 52).map (·.size) = some (rqC (q5 4)).length) := Lib.hid Tryd.is52
  have HI := HI5
  have HO5 := Lib.hid (rq_one (q := q5 5) rep_one)
  have HB5 : Hid (Value.agg (((((((((rqC zQ).set 0 (.int .i64 1)).set 1 (.int .u64 5)).set 2 (.int .u8 2)).set 3 (.string ⟨#[97]⟩)).set 4 (.string ⟨#[49]⟩)).set 5 (.string ⟨#[]⟩)).set 6 (.string ⟨#[]⟩)).set 7 (.int .u64 0)).toArray = .agg (rqC (q5 5)).toArray) := Lib.hid rfl
  have HLn : Hid ((rqC zQ).length = (rqC (q5 5)).length) := Lib.hid rfl
  have HQ4 := Lib.hid q5_set
  have HC5 : Hid ((rqC (q5 5))[1]? = some (.int .u64 5)) := Lib.hid rfl
  have hz52 := zero_rq
  have hzl : (rqC zQ).length = 40 := rfl
  have hzn : ¬ (rqC zQ = []) := by simp [rqC]
  generalize rqC zQ = ZQ at HLn hz52 hzl HB5 hzn
  generalize rqC (q5 5) = Q5 at D1 D2 HI HI5 HO5 HB5 HLn HQ4 HC5
  generalize rqC (q5 4) = Q4 at D3 HI4 HQ4
  have hT5 : T5.length = 8 := rfl
  generalize T5 = T5 at *
  have g32 := Tryd.guard32
  have fl := field_5
  have e1 : ∀ w, (Op.equalIn 10000 32 (.agg #[.int .i64 0, .string ⟨#[]⟩]) (.agg #[.int .i64 0, .string ⟨#[]⟩])).run Tryd.prog w = .ok true w := fun w => eq_rep_of (d := 9998) (0, ⟨#[]⟩) (0, ⟨#[]⟩) (by simp) w
  go_enter Tryd.func9, Tryd.ntmps9
  go_wp2_with (go_at_call 12; refine HN.out.mono ?_; rintro E x0 ⟨rfl, ht0, hb0⟩)
  have HG := Lib.hid (new_any (HV.out.below hb0))
  go_wp2_with (first
    | (go_at_call 13; refine HG.out.mono ?_; rintro E x1 ⟨rfl, hs1, hb1⟩
       have K1 := Lib.hid (sn_start HV.out (Below.refl _ _) ht0 (Nat.le_refl _) hb0 hs1 (Nat.le_refl _) hb1)
       have K2 := Lib.hid (K1.out.box ZQ.toArray 52)
       have HZ : Hid ((x1.alloc (.cells ZQ.toArray 52)).heap[x1.heap.size]? = some (.cells ZQ.toArray 52 (0, 0))) := Lib.hid (heap_alloc_new x1 _)
       have HB1 : Hid (w.heap.size ≤ x1.heap.size) := Lib.hid K1.out.bel.size
       clear K1 HG HN HV ht0 hb0 hs1 hb1)
    | (refine wpList_store_all rfl 52 (.tmp 3) (.tmp 13) rfl x1.heap.size ZQ Q5 52 HZ.out HLn.out rfl HB5.out HI5.out HO5.out ?_
       intro x2 hx2
       have K3 := Lib.hid (K2.out.turn (by simp) HB1.out hx2.out.1 hx2.out.2)
       clear K2 HZ HLn HB5 HI5 hz52 hzl hzn HO5)
    | ((with_reducible refine wpList_load_midG ?_ 52 (.tmp 3) ?_ x1.heap.size 0 ?_ Q5 _ ?_ Tryd.underlying52 ?_ ?_ ?_); rotate_left; (· rfl); (· rfl); (· exact range_all (K3.out.keep _ (List.mem_cons_self ..)).1); (· rfl); (· exact HI.out); rotate_left; (· rfl))
    | (go_at_call 14; refine (D1.out _ _ _ _ _ _ K3.out).mono ?_; rintro E x4 ⟨rfl, r4, c4, k4⟩
       have hs4 : x1.heap.size < x4.heap.size := (Array.getElem?_eq_some_iff.1 (k4.keep _ (List.mem_cons_self ..)).1).1
       have H4 := Lib.hid hs4
       have K4 := Lib.hid (k4.box #[.int .i64 0, .string ⟨#[]⟩] 32)
       clear K3 D1 k4 hs4)
    | ((with_reducible refine wpList_load_midG ?_ 52 (.tmp 3) ?_ x1.heap.size 0 ?_ Q5 _ ?_ Tryd.underlying52 ?_ ?_ ?_); rotate_left; (· rfl); (· rfl); (· exact range_all (K4.out.keep _ (List.mem_cons_of_mem _ (List.mem_cons_self ..))).1); (· rfl); (· exact HI.out); rotate_left; (· rfl))
    | (go_at_call 14; refine (D2.out _ _ _ _ _ _ K4.out).mono ?_; rintro E x5 ⟨rfl, r5, c5, k5⟩
       have hs5 : x1.heap.size < x5.heap.size := (Array.getElem?_eq_some_iff.1 (k5.keep _ (List.mem_cons_of_mem _ (List.mem_cons_self ..))).1).1
       have K5 := k5.box #[.int .i64 0, .string ⟨#[]⟩] 32
       have m1 : (x5.alloc (.cells #[.int .i64 0, .string ⟨#[]⟩] 32)).cell? ⟨x1.heap.size, 1, none⟩ = some (.int .u64 5) := block_cell (K5.keep _ (List.mem_cons_of_mem _ (List.mem_cons_of_mem _ (List.mem_cons_self ..)))).1 1 _ HC5.out
       have f1 : (x5.alloc (.cells #[.int .i64 0, .string ⟨#[]⟩] 32)).frozen? ⟨x1.heap.size, 1, none⟩ = false := free_block (K5.keep _ (List.mem_cons_of_mem _ (List.mem_cons_of_mem _ (List.mem_cons_self ..)))).1 1
       have K6 := (K5.perm (bs' := [(x1.heap.size, Q5.toArray, 52), (x5.heap.size, #[.int .i64 0, .string ⟨#[]⟩], 32), (x4.heap.size, #[.int .i64 0, .string ⟨#[]⟩], 32)]) (by simp)).set (by simp; exact ⟨by omega, by have := H4.out; omega⟩) HB1.out 1 (.int .u64 4)
       rw [HQ4.out] at K6
       have K6 := Lib.hid K6
       clear K4 D2 k5 hs5 K5 HC5 HQ4 HI H4)
    | ((with_reducible refine wpList_load_midG ?_ 52 (.tmp 3) ?_ x1.heap.size 0 ?_ Q4 _ ?_ Tryd.underlying52 ?_ ?_ ?_); rotate_left; (· rfl); (· rfl); (· exact range_all (K6.out.keep _ (List.mem_cons_self ..)).1); (· rfl); (· exact HI4.out); rotate_left; (· rfl))
    | (go_at_call 14; refine (D3.out _ _ _ _ _ _ K6.out).mono ?_; rintro E x7 ⟨rfl, r7, c7, k7⟩
       have K7 := k7.box #[.int .i64 13, .string ⟨#[]⟩] 32
       have cl : ∀ (p : Kept) (i : Nat) (v : Value), p ∈ [(x7.heap.size, #[.int .i64 13, .string ⟨#[]⟩], 32), (x1.heap.size, Q4.toArray, 52), (x5.heap.size, #[.int .i64 0, .string ⟨#[]⟩], 32), (x4.heap.size, (#[.int .i64 0, .string ⟨#[]⟩] : Array Value), 32)] → p.2.1[i]? = some v → (x7.alloc (.cells #[.int .i64 13, .string ⟨#[]⟩] 32)).cell? ⟨p.1, i, none⟩ = some v := fun p i v hp hv => block_cell (C := p.2.1.toList) (t := p.2.2) (K7.keep p hp).1 i v (by simpa using hv)
       have a0 : (x7.alloc (.cells #[.int .i64 13, .string ⟨#[]⟩] 32)).cell? ⟨x4.heap.size, 0, none⟩ = some (.int .i64 0) := cl (x4.heap.size, #[.int .i64 0, .string ⟨#[]⟩], 32) 0 _ (by simp) rfl
       have a1 : (x7.alloc (.cells #[.int .i64 13, .string ⟨#[]⟩] 32)).cell? ⟨x4.heap.size, 1, none⟩ = some (.string ⟨#[]⟩) := cl (x4.heap.size, #[.int .i64 0, .string ⟨#[]⟩], 32) 1 _ (by simp) rfl
       have b0 : (x7.alloc (.cells #[.int .i64 13, .string ⟨#[]⟩] 32)).cell? ⟨x5.heap.size, 0, none⟩ = some (.int .i64 0) := cl (x5.heap.size, #[.int .i64 0, .string ⟨#[]⟩], 32) 0 _ (by simp) rfl
       have b1 : (x7.alloc (.cells #[.int .i64 13, .string ⟨#[]⟩] 32)).cell? ⟨x5.heap.size, 1, none⟩ = some (.string ⟨#[]⟩) := cl (x5.heap.size, #[.int .i64 0, .string ⟨#[]⟩], 32) 1 _ (by simp) rfl
       have K7 := Lib.hid K7
       clear cl K6 D3 k7 m1 f1)
    | (go_at_call 18; refine (HL.out _ _ _ _ _ _ K7.out).mono ?_; rintro E x8 ⟨rfl, b8⟩
       have K8 := Lib.hid (K7.out.below b8)
       clear b8 K7 HL a0 a1 b0 b1)
    | (go_at_call 17; refine (HLi.out _ _ _ _ _ _ K8.out).mono ?_; rintro E x9 ⟨b9, c9, rfl, _, _, h9⟩
       have K9 := Lib.hid (K8.out.below h9)
       clear h9 K8 HLi))
  go_ret
  exact ⟨rfl, K9.out.bel⟩
end Go.Proofs.YtflenghnmflenaaDoor
