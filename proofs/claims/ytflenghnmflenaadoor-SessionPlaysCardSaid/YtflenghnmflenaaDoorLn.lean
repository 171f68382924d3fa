/-
  What is proved: what each kind of operation does. Conditions as stated.
-/
import Derived.Test.YtflenghnmflenaaDoorLm
namespace Go.Proofs.YtflenghnmflenaaDoor
open Go.RowKit
set_option maxRecDepth 100000

/-- While an operation is done: the ledger, and what the call has boxed. -/
structure At (w : World) (g : Nat) (r : Option Nat) (o : MOp) (W : World) (r' : Option Nat) (c' : Nat) (ys : List It) : Prop where
  led : Led W g r' c' ys
  own : Own w (On g r) W (On g r')
  op : W.heap[w.heap.size]? = some (.cells (opC o).toArray 49 (0, 0))
  res : W.heap[w.heap.size + 1]? = some (.cells [.int .i64 0, .string ByteArray.empty].toArray 32 (0, 0))
theorem At.start {w : World} {g : Nat} {r : Option Nat} {c : Nat} {xs : List It} (h : Led w g r c xs) (o : MOp) : At w g r o ((w.alloc (.cells (opC o).toArray 49)).alloc (.cells [.int .i64 0, .string ByteArray.empty].toArray 32)) r c xs := by
  have hb : Below w.heap.size w ((w.alloc (.cells (opC o).toArray 49)).alloc (.cells [.int .i64 0, .string ByteArray.empty].toArray 32)) := ((Below.refl _ _).alloc (Nat.le_refl _) _).alloc (by simp) _
  exact ⟨h.below hb, Own.same (Turns.of_below hb), one_new w _ _ _, two_new w _ _ _⟩
theorem At.apart {w : World} {g : Nat} {r : Option Nat} {o : MOp} {W : World} {r' : Option Nat} {c' : Nat} {ys : List It} (H : At w g r o W r' c' ys) {k : Nat} {C : Array Value} {t : TypeId} (hk : W.heap[k]? = some (.cells C t (0, 0))) (h1 : t ≠ 75) (h2 : t ≠ 64) : ¬ On g r' k := by
  rintro (rfl | rfl)
  · have e := H.led.top.symm.trans hk
    injection e with e
    injection e with e1 e2
    exact h1 e2.symm
  · obtain ⟨R, hB, _⟩ := H.led.row.blk
    have e := (show W.heap[k]? = _ from hB).symm.trans hk
    injection e with e
    injection e with e1 e2
    exact h2 e2.symm
theorem At.lt {w : World} {g : Nat} {r : Option Nat} {o : MOp} {W : World} {r' : Option Nat} {c' : Nat} {ys : List It} (H : At w g r o W r' c' ys) : w.heap.size + 1 < W.heap.size := (Array.getElem?_eq_some_iff.1 H.res).1
theorem At.below {w : World} {g : Nat} {r : Option Nat} {o : MOp} {W W' : World} {r' : Option Nat} {c' : Nat} {ys : List It} (H : At w g r o W r' c' ys) (hb : Below W.heap.size W W') : At w g r o W' r' c' ys :=
  ⟨H.led.below hb, ⟨H.own.1.trans (Turns.of_below hb), H.own.2⟩, (hb.block _ (by have := H.lt; omega)).trans H.op, (hb.block _ H.lt).trans H.res⟩
theorem At.next {w : World} {g : Nat} {r : Option Nat} {o : MOp} {W W' : World} {r' r'' : Option Nat} {c' c'' : Nat} {ys zs : List It} (H : At w g r o W r' c' ys) (hl : Led W' g r'' c'' zs) (ho : Own W (On g r') W' (On g r'')) : At w g r o W' r'' c'' zs :=
  ⟨hl, H.own.trans ho, (ho.1.block _ (by have := H.lt; omega) (H.apart H.op (by decide) (by decide))).trans H.op, (ho.1.block _ H.lt (H.apart H.res (by decide) (by decide))).trans H.res⟩
theorem At.cell {w : World} {g : Nat} {r : Option Nat} {o : MOp} {W : World} {r' : Option Nat} {c' : Nat} {ys : List It} (H : At w g r o W r' c' ys) (k : Nat) (v : Value) (hv : (opC o)[k]? = some v) : W.cell? ⟨w.heap.size, k, none⟩ = some v := block_cell H.op k v hv
theorem At.out {w : World} {g : Nat} {r : Option Nat} {o : MOp} {W : World} {r' : Option Nat} {c' : Nat} {ys : List It} (H : At w g r o W r' c' ys) : W.cell? ⟨w.heap.size + 1, 0, none⟩ = some (.int .i64 0) ∧ W.cell? ⟨w.heap.size + 1, 1, none⟩ = some (.string ByteArray.empty) ∧ W.frozen? ⟨w.heap.size + 1, 0, none⟩ = false ∧ W.frozen? ⟨w.heap.size + 1, 1, none⟩ = false :=
  ⟨block_cell H.res 0 _ rfl, block_cell H.res 1 _ rfl, free_block H.res 0, free_block H.res 1⟩
theorem heap_set {w : World} {g k : Nat} {C : List Value} {t : TypeId} (h : w.heap[g]? = some (.cells C.toArray t (0, 0))) (v : Value) : (w.setCell ⟨g, k, none⟩ v).heap[g]? = some (.cells (C.set k v).toArray t (0, 0)) := by
  simp [World.setCell, Array.getElem?_modify, h]
theorem pair_store {w : World} {g : Nat} {a b : Value} {t : TypeId} (h : w.heap[g]? = some (.cells [a, b].toArray t (0, 0))) (x y : Value) : ((w.setCell ⟨g, 0, none⟩ x).setCell ⟨g, 1, none⟩ y).heap[g]? = some (.cells [x, y].toArray t (0, 0)) :=
  heap_set (heap_set h x) y
/-- What an operation leaves. -/
def OpP (w : World) (g : Nat) (r : Option Nat) (q : Rep × List It) (E : Ending) (w' : World) : Prop := E = .returned (.agg (repC q.1).toArray) ∧ ∃ r' c', Led w' g r' c' q.2 ∧ Own w (On g r) w' (On g r')
theorem At.fin {w : World} {g : Nat} {r : Option Nat} {o : MOp} {W : World} {r' : Option Nat} {c' : Nat} {ys : List It} (H : At w g r o W r' c' ys) (x y : Value) :
    ((W.setCell ⟨w.heap.size + 1, 0, none⟩ x).setCell ⟨w.heap.size + 1, 1, none⟩ y).heap[w.heap.size + 1]? = some (.cells [x, y].toArray 32 (0, 0)) ∧ ∃ r' c', Led ((W.setCell ⟨w.heap.size + 1, 0, none⟩ x).setCell ⟨w.heap.size + 1, 1, none⟩ y) g r' c' ys ∧ Own w (On g r) ((W.setCell ⟨w.heap.size + 1, 0, none⟩ x).setCell ⟨w.heap.size + 1, 1, none⟩ y) (On g r') := by
  have ha := H.apart H.res (by decide) (by decide)
  refine ⟨pair_store H.res x y, r', c', H.led.kept fun k hk => ?_, (H.own.1.setCell (.inr (by omega)) _ _).setCell (.inr (by omega)) _ _, H.own.2⟩
  have hne : k ≠ w.heap.size + 1 := fun e => ha (e ▸ hk)
  rw [Below.heap_setCell _ ⟨w.heap.size + 1, 1, none⟩ _ k hne, Below.heap_setCell _ ⟨w.heap.size + 1, 0, none⟩ _ k hne]
set_option maxHeartbeats 4000000 in
theorem get_any {w : World} {g : Nat} {r : Option Nat} {c : Nat} {xs : List It} (h : Led w g r c xs) (hs : Rise xs) (hn : xs.length ≤ 900) (o : MOp) :
    Calls Tryd.prog 43 #[.pointer (some ⟨g, 0, none⟩), .agg (opC o).toArray] w fun E w' => OpP w g r (getR xs o, xs) E w' := by
  have H0 := Lib.hid (At.start h o)
  have HS := Lib.hid hs
  have HN := Lib.hid hn
  have HV : Hid (∀ W, At w g r o W r c xs → Calls Tryd.prog 52 #[.pointer (some ⟨g, 0, none⟩), .string o.key] W fun E w' => E = .returned (.tuple #[.string (valK xs o.key), .bool (hasK xs o.key)]) ∧ Below W.heap.size W w') := Lib.hid fun W H => value_any H.led HS.out (by have := HN.out; omega) o.key
  have HE : Hid (getR xs o = if hasK xs o.key then (0, valK xs o.key) else no 4) := Lib.hid rfl
  obtain ⟨z, hz⟩ : ∃ z, z = hasK xs o.key := ⟨_, rfl⟩
  obtain ⟨v, hv⟩ : ∃ v, v = valK xs o.key := ⟨_, rfl⟩
  rw [← hz, ← hv] at HV HE
  have p1 : (opC o)[1]? = some (.string o.key) := rfl
  clear hz hv h hs hn
  go_enter Tryd.func43, Tryd.ntmps43
  go_wp2_with (go_at_call 52; refine (HV.out _ H0.out).mono ?_)
  rintro E w1 ⟨rfl, b1⟩
  have H1 := Lib.hid (H0.out.below b1)
  clear H0 HV b1
  cases z with
  | true =>
    have HZ := Lib.hid (fun x y => H1.out.fin x y)
    obtain ⟨d0, d1, f0, f1⟩ := H1.out.out
    go_wp2_with fail
    (try simp only [Exit.inBlock, Exit.then]); refine bodyPost_ret (ret_range (g := w.heap.size + 1) rfl rfl (range_all (HZ.out _ _).1) Tryd.underlying32 rfl Tryd.is32) rfl ?_
    exact ⟨by rw [HE.out]; rfl, (HZ.out _ _).2⟩
  | false =>
    go_wp2_with (go_at_call 32; refine (refused_any 4 _).mono ?_)
    rintro E w2 ⟨rfl, b2⟩
    have H2 := Lib.hid (H1.out.below b2)
    clear H1 b2
    have HZ := Lib.hid (fun x y => H2.out.fin x y)
    obtain ⟨d0, d1, f0, f1⟩ := H2.out.out
    go_wp2_with fail
    (try simp only [Exit.inBlock, Exit.then]); refine bodyPost_ret (ret_range (g := w.heap.size + 1) rfl rfl (range_all (HZ.out _ _).1) Tryd.underlying32 rfl Tryd.is32) rfl ?_
    exact ⟨by rw [HE.out]; rfl, (HZ.out _ _).2⟩
set_option maxHeartbeats 4000000 in
theorem put_any {w : World} {g : Nat} {r : Option Nat} {c : Nat} {xs : List It} (h : Led w g r c xs) (hs : Rise xs) (hn : xs.length ≤ 900) (o : MOp) :
    Calls Tryd.prog 44 #[.pointer (some ⟨g, 0, none⟩), .agg (opC o).toArray] w fun E w' => OpP w g r (putR xs o) E w' := by
  have H0 := Lib.hid (At.start h o)
  have HS := Lib.hid hs
  have HN := Lib.hid hn
  have HV : Hid (∀ W, At w g r o W r c xs → Calls Tryd.prog 53 #[.pointer (some ⟨g, 0, none⟩), .string o.key] W fun E w' => E = .returned (.bool (fullK xs o.key)) ∧ Below W.heap.size W w') := Lib.hid fun W H => full_any H.led HS.out (by have := HN.out; omega) o.key
  have HT : Hid (∀ W, At w g r o W r c xs → Calls Tryd.prog 54 #[.pointer (some ⟨g, 0, none⟩), .string o.key, .string o.value] W fun E w' => E = .returned (.tuple #[]) ∧ SetP W g r (setK xs o.key o.value) w') := Lib.hid fun W H => set_any H.led HS.out (by have := HN.out; omega) o.key o.value
  have HE : Hid (putR xs o = if fullK xs o.key then (no 7, xs) else (no 0, setK xs o.key o.value)) := Lib.hid rfl
  obtain ⟨z, hz⟩ : ∃ z, z = fullK xs o.key := ⟨_, rfl⟩
  rw [← hz] at HV HE
  have p1 : (opC o)[1]? = some (.string o.key) := rfl
  have p2 : (opC o)[2]? = some (.string o.value) := rfl
  clear hz h hs hn
  go_enter Tryd.func44, Tryd.ntmps44
  go_wp2_with (go_at_call 53; refine (HV.out _ H0.out).mono ?_)
  rintro E w1 ⟨rfl, b1⟩
  have H1 := Lib.hid (H0.out.below b1)
  clear H0 HV b1
  cases z with
  | true =>
    have HE2 : Hid (putR xs o = (no 7, xs)) := Lib.hid HE.out
    go_wp2_with (go_at_call 32; refine (refused_any 7 _).mono ?_)
    rintro E w2 ⟨rfl, b2⟩
    have H2 := Lib.hid (H1.out.below b2)
    clear H1 b2
    have HZ := Lib.hid (fun x y => H2.out.fin x y)
    obtain ⟨d0, d1, f0, f1⟩ := H2.out.out
    go_wp2_with fail
    (try simp only [Exit.inBlock, Exit.then]); refine bodyPost_ret (ret_range (g := w.heap.size + 1) rfl rfl (range_all (HZ.out _ _).1) Tryd.underlying32 rfl Tryd.is32) rfl ?_
    show OpP w g r _ _ _
    rw [HE2.out]
    exact ⟨rfl, (HZ.out _ _).2⟩
  | false =>
    have HE2 : Hid (putR xs o = (no 0, setK xs o.key o.value)) := Lib.hid HE.out
    have k1_1 : w1.cell? ⟨w.heap.size, 1, none⟩ = some (.string o.key) := H1.out.cell 1 _ rfl
    have k1_2 : w1.cell? ⟨w.heap.size, 2, none⟩ = some (.string o.value) := H1.out.cell 2 _ rfl
    go_wp2_with (go_at_call 54; refine (HT.out _ H1.out).mono ?_)
    rintro E w2 ⟨rfl, r2, c2, l2, q2⟩
    have H2 := Lib.hid (H1.out.next l2 q2)
    clear H1 l2 q2 k1_1 k1_2
    have HZ := Lib.hid (fun x y => H2.out.fin x y)
    obtain ⟨d0, d1, f0, f1⟩ := H2.out.out
    go_wp2_with fail
    (try simp only [Exit.inBlock, Exit.then]); refine bodyPost_ret (ret_range (g := w.heap.size + 1) rfl rfl (range_all (HZ.out _ _).1) Tryd.underlying32 rfl Tryd.is32) rfl ?_
    show OpP w g r _ _ _
    rw [HE2.out]
    exact ⟨rfl, (HZ.out _ _).2⟩
set_option maxHeartbeats 4000000 in
theorem swap_any {w : World} {g : Nat} {r : Option Nat} {c : Nat} {xs : List It} (h : Led w g r c xs) (hs : Rise xs) (hn : xs.length ≤ 900) (o : MOp) :
    Calls Tryd.prog 46 #[.pointer (some ⟨g, 0, none⟩), .agg (opC o).toArray] w fun E w' => OpP w g r (swapR xs o) E w' := by
  have H0 := Lib.hid (At.start h o)
  have HS := Lib.hid hs
  have HN := Lib.hid hn
  have HV : Hid (∀ W, At w g r o W r c xs → Calls Tryd.prog 52 #[.pointer (some ⟨g, 0, none⟩), .string o.key] W fun E w' => E = .returned (.tuple #[.string (valK xs o.key), .bool (hasK xs o.key)]) ∧ Below W.heap.size W w') := Lib.hid fun W H => value_any H.led HS.out (by have := HN.out; omega) o.key
  have HT : Hid (∀ W, At w g r o W r c xs → Calls Tryd.prog 54 #[.pointer (some ⟨g, 0, none⟩), .string o.key, .string o.value] W fun E w' => E = .returned (.tuple #[]) ∧ SetP W g r (setK xs o.key o.value) w') := Lib.hid fun W H => set_any H.led HS.out (by have := HN.out; omega) o.key o.value
  have HE : Hid (swapR xs o = if hasK xs o.key then (if valK xs o.key = o.old then (no 0, setK xs o.key o.value) else ((15, valK xs o.key), xs)) else (no 4, xs)) := Lib.hid rfl
  obtain ⟨z, hz⟩ : ∃ z, z = hasK xs o.key := ⟨_, rfl⟩
  obtain ⟨v, hv⟩ : ∃ v, v = valK xs o.key := ⟨_, rfl⟩
  rw [← hz, ← hv] at HV HE
  have p1 : (opC o)[1]? = some (.string o.key) := rfl
  have p2 : (opC o)[2]? = some (.string o.value) := rfl
  have p3 : (opC o)[3]? = some (.string o.old) := rfl
  clear hz hv h hs hn
  go_enter Tryd.func46, Tryd.ntmps46
  go_wp2_with (go_at_call 52; refine (HV.out _ H0.out).mono ?_)
  rintro E w1 ⟨rfl, b1⟩
  have H1 := Lib.hid (H0.out.below b1)
  clear H0 HV b1
  cases z with
  | false =>
    have HE2 : Hid (swapR xs o = (no 4, xs)) := Lib.hid HE.out
    go_wp2_with (go_at_call 32; refine (refused_any 4 _).mono ?_)
    rintro E w2 ⟨rfl, b2⟩
    have H2 := Lib.hid (H1.out.below b2)
    clear H1 b2
    have HZ := Lib.hid (fun x y => H2.out.fin x y)
    obtain ⟨d0, d1, f0, f1⟩ := H2.out.out
    go_wp2_with fail
    (try simp only [Exit.inBlock, Exit.then]); refine bodyPost_ret (ret_range (g := w.heap.size + 1) rfl rfl (range_all (HZ.out _ _).1) Tryd.underlying32 rfl Tryd.is32) rfl ?_
    show OpP w g r _ _ _
    rw [HE2.out]
    exact ⟨rfl, (HZ.out _ _).2⟩
  | true =>
    have k1_1 : w1.cell? ⟨w.heap.size, 1, none⟩ = some (.string o.key) := H1.out.cell 1 _ rfl
    have k1_2 : w1.cell? ⟨w.heap.size, 2, none⟩ = some (.string o.value) := H1.out.cell 2 _ rfl
    have k1_3 : w1.cell? ⟨w.heap.size, 3, none⟩ = some (.string o.old) := H1.out.cell 3 _ rfl
    by_cases hvo : v = o.old
    · have hvo' : (v.toList == o.old.toList) = true := by rw [hvo]; simp
      have HE2 : Hid (swapR xs o = (no 0, setK xs o.key o.value)) := Lib.hid (by rw [HE.out, if_pos hvo]; rfl)
      clear hvo
      go_wp2_with (go_at_call 54; refine (HT.out _ H1.out).mono ?_)
      rintro E w2 ⟨rfl, r2, c2, l2, q2⟩
      have H2 := Lib.hid (H1.out.next l2 q2)
      clear H1 l2 q2 k1_1 k1_2 k1_3
      have HZ := Lib.hid (fun x y => H2.out.fin x y)
      obtain ⟨d0, d1, f0, f1⟩ := H2.out.out
      go_wp2_with fail
      (try simp only [Exit.inBlock, Exit.then]); refine bodyPost_ret (ret_range (g := w.heap.size + 1) rfl rfl (range_all (HZ.out _ _).1) Tryd.underlying32 rfl Tryd.is32) rfl ?_
      show OpP w g r _ _ _
      rw [HE2.out]
      exact ⟨rfl, (HZ.out _ _).2⟩
    · have hvo' : (v.toList == o.old.toList) = false := by
        cases h : v.toList == o.old.toList with
        | false => rfl
        | true => exact absurd (toList_inj (by simpa using h)) hvo
      have HE2 : Hid (swapR xs o = ((15, v), xs)) := Lib.hid (by rw [HE.out, if_neg hvo]; rfl)
      clear hvo
      have HZ := Lib.hid (fun x y => H1.out.fin x y)
      obtain ⟨d0, d1, f0, f1⟩ := H1.out.out
      go_wp2_with fail
      (try simp only [Exit.inBlock, Exit.then]); refine bodyPost_ret (ret_range (g := w.heap.size + 1) rfl rfl (range_all (HZ.out _ _).1) Tryd.underlying32 rfl Tryd.is32) rfl ?_
      show OpP w g r _ _ _
      rw [HE2.out]
      exact ⟨rfl, (HZ.out _ _).2⟩
end Go.Proofs.YtflenghnmflenaaDoor
