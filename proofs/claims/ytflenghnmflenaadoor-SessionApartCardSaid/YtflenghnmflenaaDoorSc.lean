/-
  What is proved: Do of a table. Conditions as stated.
-/
import Derived.Test.YtflenghnmflenaaDoorSb
namespace Go.Proofs.YtflenghnmflenaaDoor
open Go.RowKit
set_option maxRecDepth 100000

def OnT (g : Nat) (r : Option Nat) (t k : Nat) : Prop := On g r k ∨ k = t
def SDoP (w : World) (t : Nat) (T : List Lst) (g : Nat) (r : Option Nat) (xs : List It) (q : MRq) (E : Ending) (w' : World) : Prop :=
  E = .returned (.tuple #[.agg (lrC (tR T xs q).1.1).toArray, .bool (tR T xs q).1.2]) ∧ ∃ r' c', Tbl w' t (tR T xs q).2.1 ∧ Sys w' g r' c' (tR T xs q).2.2 ∧ ¬ On g r' t ∧ Own w (OnT g r t) w' (OnT g r' t)
structure SAt (w : World) (t : Nat) (T : List Lst) (g : Nat) (r : Option Nat) (q : MRq) (W : World) (r' : Option Nat) (c' : Nat) (ys : List It) : Prop where
  tbl : Tbl W t T
  sys : Sys W g r' c' ys
  ne : ¬ On g r' t
  own : Own w (OnT g r t) W (OnT g r' t)
  box : W.heap[w.heap.size]? = some (.cells (rqC q).toArray 52 (0, 0))
  res : W.heap[w.heap.size + 1]? = some (.cells [.int .i64 0, .string ByteArray.empty].toArray 32 (0, 0))
  tlow : t < w.heap.size
  low : 4 ≤ t
theorem SAt.start {w : World} {t : Nat} {T : List Lst} {g : Nat} {r : Option Nat} {c : Nat} {xs : List It} (hT : Tbl w t T) (h : Sys w g r c xs) (hne : ¬ On g r t) (ht : 4 ≤ t) (q : MRq) :
    SAt w t T g r q ((w.alloc (.cells (rqC q).toArray 52)).alloc (.cells [.int .i64 0, .string ByteArray.empty].toArray 32)) r c xs := by
  have hb : Below w.heap.size w ((w.alloc (.cells (rqC q).toArray 52)).alloc (.cells [.int .i64 0, .string ByteArray.empty].toArray 32)) := ((Below.refl _ _).alloc (Nat.le_refl _) _).alloc (by simp) _
  exact ⟨hT.below hb, h.below hb, hne, Own.same (Turns.of_below hb), one_new w _ _ _, two_new w _ _ _, hT.lt, ht⟩
theorem SAt.lt {w : World} {t : Nat} {T : List Lst} {g : Nat} {r : Option Nat} {q : MRq} {W : World} {r' : Option Nat} {c' : Nat} {ys : List It} (H : SAt w t T g r q W r' c' ys) : w.heap.size + 1 < W.heap.size := (Array.getElem?_eq_some_iff.1 H.res).1
theorem SAt.below {w : World} {t : Nat} {T : List Lst} {g : Nat} {r : Option Nat} {q : MRq} {W W' : World} {r' : Option Nat} {c' : Nat} {ys : List It} (H : SAt w t T g r q W r' c' ys) (hb : Below W.heap.size W W') : SAt w t T g r q W' r' c' ys :=
  ⟨H.tbl.below hb, H.sys.below hb, H.ne, ⟨H.own.1.trans (Turns.of_below hb), H.own.2⟩, (hb.block _ (by have := H.lt; omega)).trans H.box, (hb.block _ H.lt).trans H.res, H.tlow, H.low⟩
theorem SAt.next {w : World} {t : Nat} {T : List Lst} {g : Nat} {r : Option Nat} {q : MRq} {W W' : World} {r' r'' : Option Nat} {c' c'' : Nat} {ys zs : List It} (H : SAt w t T g r q W r' c' ys) (hs : Sys W' g r'' c'' zs) (ho : Own W (On g r') W' (On g r'')) : SAt w t T g r q W' r'' c'' zs :=
  ⟨H.tbl.kept (ho.1.block _ H.tbl.lt H.ne), hs, fun h => by
    rcases ho.2 t h with e | e
    · exact H.ne e
    · have := H.tbl.lt; omega,
   H.own.trans ⟨ho.1.mono fun k hk => .inl hk, fun k hk => by
    rcases hk with hk | hk
    · rcases ho.2 k hk with e | e
      · exact .inl (.inl e)
      · exact .inr e
    · exact .inl (.inr hk)⟩,
   (ho.1.block _ (by have := H.lt; omega) (H.sys.apart H.box (by decide) (by decide))).trans H.box, (ho.1.block _ H.lt (H.sys.apart H.res (by decide) (by decide))).trans H.res, H.tlow, H.low⟩
theorem Sys.off {w w' : World} {g : Nat} {r : Option Nat} {c : Nat} {xs : List It} (h : Sys w g r c xs) (hv : ∀ k, k < 4 → w'.heap[k]? = w.heap[k]?) (hk : ∀ k, On g r k → w'.heap[k]? = w.heap[k]?) : Sys w' g r c xs :=
  ⟨h.led.kept hk, h.vars.kept hv, h.low, h.rise, h.len, h.small⟩
theorem SAt.put {w : World} {t : Nat} {T : List Lst} {g : Nat} {r : Option Nat} {q : MRq} {W : World} {r' : Option Nat} {c' : Nat} {ys : List It} (H : SAt w t T g r q W r' c' ys) {j : Nat} (hj : j < 8) (a : Nat) (b : Int) (s : ByteArray) :
    SAt w t (T.set j (a, (b, s))) g r q (((W.setCell ⟨t, j * 3, none⟩ (.int .u64 (a : Int))).setCell ⟨t, j * 3 + 1, none⟩ (.int .i64 (b : Int))).setCell ⟨t, j * 3 + 2, none⟩ (.string s)) r' c' ys := by
  have hk : ∀ k, k ≠ t → (((W.setCell ⟨t, j * 3, none⟩ (.int .u64 (a : Int))).setCell ⟨t, j * 3 + 1, none⟩ (.int .i64 (b : Int))).setCell ⟨t, j * 3 + 2, none⟩ (.string s)).heap[k]? = W.heap[k]? := fun k hne => by
    rw [Below.heap_setCell _ ⟨t, j * 3 + 2, none⟩ _ k hne, Below.heap_setCell _ ⟨t, j * 3 + 1, none⟩ _ k hne, Below.heap_setCell _ ⟨t, j * 3, none⟩ _ k hne]
  have h1 := H.tlow
  have h2 := H.low
  refine ⟨H.tbl.put hj a b s, H.sys.off (fun k hk4 => hk k (by omega)) fun k ho => hk k fun e => H.ne (e ▸ ho), H.ne, ⟨((H.own.1.setCell (.inl (.inr rfl)) _ _).setCell (.inl (.inr rfl)) _ _).setCell (.inl (.inr rfl)) _ _, H.own.2⟩, (hk _ (by omega)).trans H.box, (hk _ (by omega)).trans H.res, h1, h2⟩
theorem SAt.out {w : World} {t : Nat} {T : List Lst} {g : Nat} {r : Option Nat} {q : MRq} {W : World} {r' : Option Nat} {c' : Nat} {ys : List It} (H : SAt w t T g r q W r' c' ys) : W.cell? ⟨w.heap.size + 1, 0, none⟩ = some (.int .i64 0) ∧ W.cell? ⟨w.heap.size + 1, 1, none⟩ = some (.string ByteArray.empty) ∧ W.frozen? ⟨w.heap.size + 1, 0, none⟩ = false ∧ W.frozen? ⟨w.heap.size + 1, 1, none⟩ = false :=
  ⟨block_cell H.res 0 _ rfl, block_cell H.res 1 _ rfl, free_block H.res 0, free_block H.res 1⟩
theorem SAt.fin {w : World} {t : Nat} {T : List Lst} {g : Nat} {r : Option Nat} {q : MRq} {W : World} {r' : Option Nat} {c' : Nat} {ys : List It} (H : SAt w t T g r q W r' c' ys) (x y : Value) :
    ((W.setCell ⟨w.heap.size + 1, 0, none⟩ x).setCell ⟨w.heap.size + 1, 1, none⟩ y).heap[w.heap.size + 1]? = some (.cells [x, y].toArray 32 (0, 0)) ∧ ∃ r' c', Tbl ((W.setCell ⟨w.heap.size + 1, 0, none⟩ x).setCell ⟨w.heap.size + 1, 1, none⟩ y) t T ∧ Sys ((W.setCell ⟨w.heap.size + 1, 0, none⟩ x).setCell ⟨w.heap.size + 1, 1, none⟩ y) g r' c' ys ∧ ¬ On g r' t ∧ Own w (OnT g r t) ((W.setCell ⟨w.heap.size + 1, 0, none⟩ x).setCell ⟨w.heap.size + 1, 1, none⟩ y) (OnT g r' t) := by
  have ha := H.sys.apart H.res (by decide) (by decide)
  have hk : ∀ k, k ≠ w.heap.size + 1 → ((W.setCell ⟨w.heap.size + 1, 0, none⟩ x).setCell ⟨w.heap.size + 1, 1, none⟩ y).heap[k]? = W.heap[k]? := fun k hne => by
    rw [Below.heap_setCell _ ⟨w.heap.size + 1, 1, none⟩ _ k hne, Below.heap_setCell _ ⟨w.heap.size + 1, 0, none⟩ _ k hne]
  have h1 := H.tlow
  have h2 := H.low
  refine ⟨pair_store H.res x y, r', c', H.tbl.kept (hk _ (by omega)), H.sys.off (fun k hk4 => hk k (by omega)) fun k ho => hk k fun e => ha (e ▸ ho), H.ne, (H.own.1.setCell (.inr (by omega)) _ _).setCell (.inr (by omega)) _ _, H.own.2⟩
/-- What is stored at once into the fresh block. -/
theorem SAt.fin0 {w : World} {t : Nat} {T : List Lst} {g : Nat} {r : Option Nat} {c : Nat} {xs : List It} (hT : Tbl w t T) (h : Sys w g r c xs) (hne : ¬ On g r t) (q : MRq) (x y : Value) :
    ((w.alloc (.cells (rqC q).toArray 52)).alloc (.cells #[x, y] 32)).heap[w.heap.size + 1]? = some (.cells [x, y].toArray 32 (0, 0)) ∧ ∃ r' c', Tbl ((w.alloc (.cells (rqC q).toArray 52)).alloc (.cells #[x, y] 32)) t T ∧ Sys ((w.alloc (.cells (rqC q).toArray 52)).alloc (.cells #[x, y] 32)) g r' c' xs ∧ ¬ On g r' t ∧ Own w (OnT g r t) ((w.alloc (.cells (rqC q).toArray 52)).alloc (.cells #[x, y] 32)) (OnT g r' t) := by
  have hb : Below w.heap.size w ((w.alloc (.cells (rqC q).toArray 52)).alloc (.cells #[x, y] 32)) := ((Below.refl _ _).alloc (Nat.le_refl _) _).alloc (by simp) _
  exact ⟨two_new w _ [x, y] _, r, c, hT.below hb, h.below hb, hne, Own.same (Turns.of_below hb)⟩
theorem SAt.drewN {w : World} {t : Nat} {T : List Lst} {g : Nat} {r : Option Nat} {q : MRq} {W : World} {r' : Option Nat} {c' : Nat} {ys : List It} (H : SAt w t T g r q W r' c' ys) (k : Nat) : SAt w t T g r q (W.drewN k) r' c' ys := H.below (below_drewN (Below.refl _ _) k)
theorem SAt.cell {w : World} {t : Nat} {T : List Lst} {g : Nat} {r : Option Nat} {q : MRq} {W : World} {r' : Option Nat} {c' : Nat} {ys : List It} (H : SAt w t T g r q W r' c' ys) (k : Nat) (v : Value) (hv : (rqC q)[k]? = some v) : W.cell? ⟨w.heap.size, k, none⟩ = some v := block_cell H.box k v hv
theorem SAt.op {w : World} {t : Nat} {T : List Lst} {g : Nat} {r : Option Nat} {q : MRq} {W : World} {r' : Option Nat} {c' : Nat} {ys : List It} (H : SAt w t T g r q W r' c' ys) : W.rangeAt w.heap.size 2 (opC q.op) := range_block H.box 2 _ (rq_op q)
set_option maxHeartbeats 1000000 in
theorem sdo_no1 {w : World} {t : Nat} {T : List Lst} {g : Nat} {r : Option Nat} {c : Nat} {xs : List It} (hT : Tbl w t T) (h : Sys w g r c xs) (hne : ¬ On g r t) (ht : 4 ≤ t) (q : MRq) (hc : isCl q.client = false) :
    Calls Tryd.prog 14 #[.pointer (some ⟨t, 0, none⟩), .pointer (some ⟨g, 0, none⟩), .agg (rqC q).toArray] w fun E w' => SDoP w t T g r xs q E w' := by
  have H0 := Lib.hid (SAt.start hT h hne ht q)
  have HE : Hid (tR T xs q = ((up (no 1), false), T, xs)) := Lib.hid (tR_no (by rw [mayQ, hc]; rfl))
  have HC : Hid (∀ W, Calls Tryd.prog 25 #[.int .i64 q.client] W fun E w' => E = .returned (.bool false) ∧ W = w') := Lib.hid fun W => by rw [← hc]; exact client_any q.client W
  have k0 : ((w.alloc (.cells (rqC q).toArray 52)).alloc (.cells #[.int .i64 0, .string ⟨#[]⟩] 32)).cell? ⟨w.heap.size, 0, none⟩ = some (.int .i64 q.client) := H0.out.cell 0 _ (rq_0 _)
  have k1 : ((w.alloc (.cells (rqC q).toArray 52)).alloc (.cells #[.int .i64 0, .string ⟨#[]⟩] 32)).cell? ⟨w.heap.size, 1, none⟩ = some (.int .u64 (q.time : Int)) := H0.out.cell 1 _ (rq_1 _)
  have HZ := Lib.hid (fun x y => SAt.fin0 hT h hne q x y)
  clear hT h hne ht hc
  go_enter Tryd.func14, Tryd.ntmps14
  go_wp2_with (go_at_call 25; refine (HC.out _).mono ?_)
  rintro E w1 ⟨rfl, rfl⟩
  clear HC
  go_wp2_with fail
  (try simp only [Exit.inBlock, Exit.then]); refine bodyPost_ret (ret_ct (g := w.heap.size + 1) rfl rfl rfl (range_all (HZ.out _ _).1) Tryd.underlying32 rfl Tryd.is32) rfl ?_
  show SDoP w t T g r xs _ _ _
  unfold SDoP
  rw [HE.out]
  exact ⟨rfl, (HZ.out _ _).2⟩
set_option maxHeartbeats 1000000 in
theorem sdo_no2 {w : World} {t : Nat} {T : List Lst} {g : Nat} {r : Option Nat} {c : Nat} {xs : List It} (hT : Tbl w t T) (h : Sys w g r c xs) (hne : ¬ On g r t) (ht : 4 ≤ t) (q : MRq) (hc : isCl q.client = true) (h0 : q.time = 0) :
    Calls Tryd.prog 14 #[.pointer (some ⟨t, 0, none⟩), .pointer (some ⟨g, 0, none⟩), .agg (rqC q).toArray] w fun E w' => SDoP w t T g r xs q E w' := by
  have H0 := Lib.hid (SAt.start hT h hne ht q)
  have HE : Hid (tR T xs q = ((up (no 1), false), T, xs)) := Lib.hid (tR_no (by rw [mayQ, hc, h0]; rfl))
  have HC : Hid (∀ W, Calls Tryd.prog 25 #[.int .i64 q.client] W fun E w' => E = .returned (.bool true) ∧ W = w') := Lib.hid fun W => by rw [← hc]; exact client_any q.client W
  have k0 : ((w.alloc (.cells (rqC q).toArray 52)).alloc (.cells #[.int .i64 0, .string ⟨#[]⟩] 32)).cell? ⟨w.heap.size, 0, none⟩ = some (.int .i64 q.client) := H0.out.cell 0 _ (rq_0 _)
  have k1 : ((w.alloc (.cells (rqC q).toArray 52)).alloc (.cells #[.int .i64 0, .string ⟨#[]⟩] 32)).cell? ⟨w.heap.size, 1, none⟩ = some (.int .u64 0) := by have := H0.out.cell 1 _ (rq_1 q); rw [h0] at this; exact this
  have HZ := Lib.hid (fun x y => SAt.fin0 hT h hne q x y)
  clear hT h hne ht hc h0
  go_enter Tryd.func14, Tryd.ntmps14
  go_wp2_with (go_at_call 25; refine (HC.out _).mono ?_)
  rintro E w1 ⟨rfl, rfl⟩
  clear HC
  go_wp2_with fail
  (try simp only [Exit.inBlock, Exit.then]); refine bodyPost_ret (ret_ct (g := w.heap.size + 1) rfl rfl rfl (range_all (HZ.out _ _).1) Tryd.underlying32 rfl Tryd.is32) rfl ?_
  show SDoP w t T g r xs _ _ _
  unfold SDoP
  rw [HE.out]
  exact ⟨rfl, (HZ.out _ _).2⟩
set_option maxHeartbeats 1000000 in
theorem sdo_low {w : World} {t : Nat} {T : List Lst} {g : Nat} {r : Option Nat} {c : Nat} {xs : List It} (hT : Tbl w t T) (h : Sys w g r c xs) (hne : ¬ On g r t) (ht : 4 ≤ t) {j : Nat} (hj : j < 8) {tm : Nat} (h0 : tm ≠ 0) (o : MOp) (tag : List Value) (hx : tm < (lastOf T ((j : Int) + 1)).1) :
    Calls Tryd.prog 14 #[.pointer (some ⟨t, 0, none⟩), .pointer (some ⟨g, 0, none⟩), .agg (rqC (⟨(j : Int) + 1, tm, o, tag⟩ : MRq)).toArray] w fun E w' => SDoP w t T g r xs (⟨(j : Int) + 1, tm, o, tag⟩ : MRq) E w' := by
  have H0 := Lib.hid (SAt.start hT h hne ht (⟨(j : Int) + 1, tm, o, tag⟩ : MRq))
  have hcl : isCl ((j : Int) + 1) = true := isCl_iff.2 (by omega)
  have HE : Hid (tR T xs (⟨(j : Int) + 1, tm, o, tag⟩ : MRq) = ((up (no 13), false), T, xs)) := Lib.hid (tR_low (mayQ_iff.2 ⟨by dsimp only; omega, h0⟩) hx)
  have HC : Hid (∀ W, Calls Tryd.prog 25 #[.int .i64 ((j : Int) + 1)] W fun E w' => E = .returned (.bool true) ∧ W = w') := Lib.hid fun W => by rw [← hcl]; exact client_any ((j : Int) + 1) W
  have k0 : ((w.alloc (.cells (rqC (⟨(j : Int) + 1, tm, o, tag⟩ : MRq)).toArray 52)).alloc (.cells #[.int .i64 0, .string ⟨#[]⟩] 32)).cell? ⟨w.heap.size, 0, none⟩ = some (.int .i64 ((j : Int) + 1)) := H0.out.cell 0 _ (rq_0 _)
  have k1 : ((w.alloc (.cells (rqC (⟨(j : Int) + 1, tm, o, tag⟩ : MRq)).toArray 52)).alloc (.cells #[.int .i64 0, .string ⟨#[]⟩] 32)).cell? ⟨w.heap.size, 1, none⟩ = some (.int .u64 (tm : Int)) := H0.out.cell 1 _ (rq_1 _)
  have hwj : IntKind.i64.wrap ((j : Int) + 1 - 1) = (j : Int) := by rw [IntKind.wrap_i64]; omega
  obtain ⟨p, hp, hlast⟩ := last_at hT.len hj
  have m0 : ((w.alloc (.cells (rqC (⟨(j : Int) + 1, tm, o, tag⟩ : MRq)).toArray 52)).alloc (.cells #[.int .i64 0, .string ⟨#[]⟩] 32)).cell? ⟨t, j * 3, none⟩ = some (.int .u64 (p.1 : Int)) := H0.out.tbl.cell hp 0 _ rfl
  have m1 : ((w.alloc (.cells (rqC (⟨(j : Int) + 1, tm, o, tag⟩ : MRq)).toArray 52)).alloc (.cells #[.int .i64 0, .string ⟨#[]⟩] 32)).cell? ⟨t, j * 3 + 1, none⟩ = some (.int .i64 (p.2.1 : Int)) := H0.out.tbl.cell hp 1 _ rfl
  have m2 : ((w.alloc (.cells (rqC (⟨(j : Int) + 1, tm, o, tag⟩ : MRq)).toArray 52)).alloc (.cells #[.int .i64 0, .string ⟨#[]⟩] 32)).cell? ⟨t, j * 3 + 2, none⟩ = some (.string p.2.2) := H0.out.tbl.cell hp 2 _ rfl
  have hj0 : (0 : Int) ≤ (j : Int) := by omega
  have hj8 : (j : Int) < 8 := by omega
  have htn : ((j : Int)).toNat = j := by omega
  have h0' : ¬ ((tm : Int) = 0) := by omega
  have hx1 : (tm : Int) < (p.1 : Int) := by rw [hlast] at hx; omega
  have HZ := Lib.hid (fun k x y => (H0.out.drewN k).fin x y)
  clear hT h hne ht h0 hx hp hlast hcl
  go_enter Tryd.func14, Tryd.ntmps14
  go_wp2_with (go_at_call 25; refine (HC.out _).mono ?_)
  rintro E w1 ⟨rfl, rfl⟩
  clear HC
  go_wp2_with fail
  go_quiet (fail)
  go_wp2_with fail
  go_quiet (fail)
  go_wp2_with fail
  (try simp only [Exit.inBlock, Exit.then]); refine bodyPost_ret (ret_ct (g := w.heap.size + 1) rfl rfl rfl (range_all (HZ.out _ _ _).1) Tryd.underlying32 rfl Tryd.is32) rfl ?_
  show SDoP w t T g r xs _ _ _
  unfold SDoP
  rw [HE.out]
  exact ⟨rfl, (HZ.out _ _ _).2⟩
set_option maxHeartbeats 1000000 in
theorem sdo_at {w : World} {t : Nat} {T : List Lst} {g : Nat} {r : Option Nat} {c : Nat} {xs : List It} (hT : Tbl w t T) (h : Sys w g r c xs) (hne : ¬ On g r t) (ht : 4 ≤ t) {j : Nat} (hj : j < 8) {tm : Nat} (h0 : tm ≠ 0) (o : MOp) (tag : List Value) (hx : tm = (lastOf T ((j : Int) + 1)).1) :
    Calls Tryd.prog 14 #[.pointer (some ⟨t, 0, none⟩), .pointer (some ⟨g, 0, none⟩), .agg (rqC (⟨(j : Int) + 1, tm, o, tag⟩ : MRq)).toArray] w fun E w' => SDoP w t T g r xs (⟨(j : Int) + 1, tm, o, tag⟩ : MRq) E w' := by
  have H0 := Lib.hid (SAt.start hT h hne ht (⟨(j : Int) + 1, tm, o, tag⟩ : MRq))
  have hcl : isCl ((j : Int) + 1) = true := isCl_iff.2 (by omega)
  have HE : Hid (tR T xs (⟨(j : Int) + 1, tm, o, tag⟩ : MRq) = (((lastOf T ((j : Int) + 1)).2, false), T, xs)) := Lib.hid (tR_at (mayQ_iff.2 ⟨by dsimp only; omega, h0⟩) hx)
  have HC : Hid (∀ W, Calls Tryd.prog 25 #[.int .i64 ((j : Int) + 1)] W fun E w' => E = .returned (.bool true) ∧ W = w') := Lib.hid fun W => by rw [← hcl]; exact client_any ((j : Int) + 1) W
  have k0 : ((w.alloc (.cells (rqC (⟨(j : Int) + 1, tm, o, tag⟩ : MRq)).toArray 52)).alloc (.cells #[.int .i64 0, .string ⟨#[]⟩] 32)).cell? ⟨w.heap.size, 0, none⟩ = some (.int .i64 ((j : Int) + 1)) := H0.out.cell 0 _ (rq_0 _)
  have k1 : ((w.alloc (.cells (rqC (⟨(j : Int) + 1, tm, o, tag⟩ : MRq)).toArray 52)).alloc (.cells #[.int .i64 0, .string ⟨#[]⟩] 32)).cell? ⟨w.heap.size, 1, none⟩ = some (.int .u64 (tm : Int)) := H0.out.cell 1 _ (rq_1 _)
  have hwj : IntKind.i64.wrap ((j : Int) + 1 - 1) = (j : Int) := by rw [IntKind.wrap_i64]; omega
  obtain ⟨p, hp, hlast⟩ := last_at hT.len hj
  have m0 : ((w.alloc (.cells (rqC (⟨(j : Int) + 1, tm, o, tag⟩ : MRq)).toArray 52)).alloc (.cells #[.int .i64 0, .string ⟨#[]⟩] 32)).cell? ⟨t, j * 3, none⟩ = some (.int .u64 (p.1 : Int)) := H0.out.tbl.cell hp 0 _ rfl
  have m1 : ((w.alloc (.cells (rqC (⟨(j : Int) + 1, tm, o, tag⟩ : MRq)).toArray 52)).alloc (.cells #[.int .i64 0, .string ⟨#[]⟩] 32)).cell? ⟨t, j * 3 + 1, none⟩ = some (.int .i64 (p.2.1 : Int)) := H0.out.tbl.cell hp 1 _ rfl
  have m2 : ((w.alloc (.cells (rqC (⟨(j : Int) + 1, tm, o, tag⟩ : MRq)).toArray 52)).alloc (.cells #[.int .i64 0, .string ⟨#[]⟩] 32)).cell? ⟨t, j * 3 + 2, none⟩ = some (.string p.2.2) := H0.out.tbl.cell hp 2 _ rfl
  have hj0 : (0 : Int) ≤ (j : Int) := by omega
  have hj8 : (j : Int) < 8 := by omega
  have htn : ((j : Int)).toNat = j := by omega
  have h0' : ¬ ((tm : Int) = 0) := by omega
  obtain rfl : tm = p.1 := by rw [hlast] at hx; exact hx
  rw [hlast] at HE
  have HZ := Lib.hid (fun k x y => (H0.out.drewN k).fin x y)
  clear hT h hne ht h0 hx hp hlast hcl
  go_enter Tryd.func14, Tryd.ntmps14
  go_wp2_with (go_at_call 25; refine (HC.out _).mono ?_)
  rintro E w1 ⟨rfl, rfl⟩
  clear HC
  go_wp2_with fail
  go_quiet (fail)
  go_wp2_with fail
  go_quiet (fail)
  go_wp2_with fail
  go_quiet (fail)
  go_wp2_with fail
  (try simp only [Exit.inBlock, Exit.then]); refine bodyPost_ret (ret_ct (g := w.heap.size + 1) rfl rfl rfl (range_all (HZ.out _ _ _).1) Tryd.underlying32 rfl Tryd.is32) rfl ?_
  show SDoP w t T g r xs _ _ _
  unfold SDoP
  rw [HE.out]
  exact ⟨rfl, (HZ.out _ _ _).2⟩
end Go.Proofs.YtflenghnmflenaaDoor
