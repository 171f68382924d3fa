/-
  What is proved: a message, and a request, has one right tag alone (MessageTags). Conditions as stated.
-/
import Derived.Test.YtghjogneogkpoaaGreatDoorUdc
import Derived.Test.YtghjogneogkpoaaGreatDoorQdc
import Derived.Test.YtghjogneogkpoaaGreatDoorFwc
import Derived.Test.YtghjogneogkpoaaGreatDoorVBc
namespace Go.Proofs.YtghjogneogkpoaaGreatDoor.Sh
open Go.RowKit
set_option maxRecDepth 100000


/-- Block g holds these cells. -/
def Bk (W : World) (g : Nat) (C : List Value) (t : TypeId) : Prop := W.heap[g]? = some (.cells C.toArray t (0, 0))
theorem Bk.lt {W : World} {g : Nat} {C : List Value} {t : TypeId} (h : Bk W g C t) : g < W.heap.size := (Array.getElem?_eq_some_iff.1 h).1
theorem Bk.below {W W' : World} {g B : Nat} {C : List Value} {t : TypeId} (h : Bk W g C t) (hb : Below B W W') (hB : g < B) : Bk W' g C t := (hb.block g hB).trans h
theorem Bk.next {W W' : World} {g : Nat} {C : List Value} {t : TypeId} (h : Bk W g C t) (hb : Below W.heap.size W W') : Bk W' g C t := h.below hb h.lt
theorem Bk.other {W W' : World} {g k : Nat} {C : List Value} {t : TypeId} (h : Bk W g C t) (hg : W.grownBy W' (some k)) (hk : g ≠ k) : Bk W' g C t := (hg.block g h.lt (fun e => hk (by injection e))).trans h
theorem Bk.drewN {W : World} {g : Nat} {C : List Value} {t : TypeId} (h : Bk W g C t) (n : Nat) : Bk (W.drewN n) g C t := h
theorem Bk.src {W : World} {g : Nat} {C : List Value} {t : TypeId} (h : Bk W g C t) : W.rangeAt g 0 C := range_of h
/-- What was made and filled is new. -/
theorem below_made {W W' : World} {o : Obj} (G : (W.alloc o).grownBy W' (some W.heap.size)) : Below W.heap.size W W' :=
  ((Below.refl _ _).alloc (Nat.le_refl _) _).grown G (by simp) (fun k hk => by injection hk with hk; omega)
/-- A byte of a tag, turned. -/
def turned (l : List UInt8) (j : Nat) (b : UInt8) : List UInt8 := l.set j (l.getD j 0 ^^^ b)
theorem turned_len (l : List UInt8) (j : Nat) (b : UInt8) : (turned l j b).length = l.length := by simp [turned]
theorem turned_eq {l : List UInt8} {j : Nat} (hj : j < l.length) (b : UInt8) : turned l j b = l ↔ b = 0 := by
  unfold turned
  constructor
  · intro h
    have := congrArg (fun l : List UInt8 => l.getD j 0) h
    simp [List.getD, hj] at this
    have h2 : l[j] ^^^ (l[j] ^^^ b) = l[j] ^^^ l[j] := by rw [this]
    rwa [← UInt8.xor_assoc, UInt8.xor_self, UInt8.zero_xor] at h2
  · rintro rfl
    simp [List.getD, hj]
theorem RqAt.far {B : Nat} {w wr w' : World} {C : List Value} {k : Nat} (H : RqAt B w C wr) (hB : B ≤ w.heap.size) (hk : w.heap.size < k) (hg : wr.grownBy w' (some k)) : RqAt B w C w' :=
  ⟨H.bel.grown hg (Nat.le_trans hB H.bel.size) (fun j hj => by injection hj with hj; omega), Nat.lt_of_lt_of_le H.lt hg.size, fun j v hv => hg.cell (H.src j v hv) (fun e => by injection e with e; simp at e; omega)⟩
theorem msgC_tag (m : MMsg) (hm : m.Wf) (j : Nat) (hj : j < 32) (u : UInt8) : (msgC m).set (89 + j) (.int .u8 (u.toNat : Int)) = msgC { m with tag := m.tag.set j u } := by
  have e : ∀ t : List UInt8, msgC { m with tag := t } = (.int .i64 m.origin :: .int .u64 (m.number : Int) :: (u64s m.deps ++ bodyC m.body)) ++ u8s t := fun t => by simp [msgC]
  have hl : (Value.int .i64 m.origin :: .int .u64 (m.number : Int) :: (u64s m.deps ++ bodyC m.body)).length = 89 := by
    simp [u64s_length, hm.1, bodyC_length hm.2.1]
  rw [show msgC m = msgC { m with tag := m.tag } from rfl, e, e, List.set_append_right _ _ (by omega), hl, Nat.add_sub_cancel_left, u8s_set]
theorem reqC_tag (r : MReq) (j : Nat) (u : UInt8) : (reqC r).set (8 + j) (.int .u8 (u.toNat : Int)) = reqC { r with tag := r.tag.set j u } := by
  have e : ∀ t : List UInt8, reqC { r with tag := t } = (.int .i64 r.client :: .int .u64 (r.time : Int) :: opC r.op) ++ u8s t := fun t => by simp [reqC]
  have hl : (Value.int .i64 r.client :: .int .u64 (r.time : Int) :: opC r.op).length = 8 := by simp [opC_length]
  rw [show reqC r = reqC { r with tag := r.tag } from rfl, e, e, List.set_append_right _ _ (by omega), hl, Nat.add_sub_cancel_left, u8s_set]
theorem Bk.turnM {W : World} {g : Nat} {x : MMsg} (h : Bk W g (msgC x) 34) (hx : x.Wf) {j : Nat} (hj : j < 32) (u : UInt8) : Bk (W.setCell ⟨g, 89 + j, none⟩ (.int .u8 (u.toNat : Int))) g (msgC { x with tag := x.tag.set j u }) 34 := by
  have := heap_set h (.int .u8 (u.toNat : Int)) (k := 89 + j)
  rwa [msgC_tag x hx j hj u] at this
theorem Bk.turnR {W : World} {g : Nat} {x : MReq} (h : Bk W g (reqC x) 29) (j : Nat) (u : UInt8) : Bk (W.setCell ⟨g, 8 + j, none⟩ (.int .u8 (u.toNat : Int))) g (reqC { x with tag := x.tag.set j u }) 29 := by
  have := heap_set h (.int .u8 (u.toNat : Int)) (k := 8 + j)
  rwa [reqC_tag x j u] at this
set_option maxHeartbeats 8000000 in
theorem tags_no (m x : MMsg) (a b : UInt8) (w : World) (hm : m.Wf) (hx : x.Wf)
    (HT : Hid (m.body.qs.length ≤ 40 → ∀ W, Below w.heap.size w W → Calls Tryz.prog 12 #[.agg (msgC m).toArray] W fun E w' => E = .returned (.agg (msgC x).toArray) ∧ Hid (Below W.heap.size W w')))
    (HM : Hid (m.body.qs.length ≤ 40 → ∀ W, Below w.heap.size w W → Calls Tryz.prog 13 #[.agg (msgC m).toArray] W fun E w' => E = .returned (.bool false) ∧ Hid (Below W.heap.size W w')))
    (HRM : Hid (m.body.qs.length ≤ 40 → ∀ W, Below w.heap.size w W → Calls Tryz.prog 19 #[.agg (msgC m).toArray] W fun E w' => E = .returned (.bool false) ∧ Hid (Below W.heap.size W w')))
    (HRX : Hid (m.body.qs.length ≤ 40 → ∀ W, Below w.heap.size w W → Calls Tryz.prog 19 #[.agg (msgC x).toArray] W fun E w' => E = .returned (.bool false) ∧ Hid (Below W.heap.size W w')))
    (HF0 : Hid (∀ W, Below w.heap.size w W → Calls Tryz.prog 10 #[.agg (msgC m).toArray] W fun E w' => (∃ z, E = .returned (.bool z) ∧ (z = true → m.body.qs.length ≤ 40)) ∧ Hid (Below W.heap.size W w')))
    (HW : Hid (∀ W, Below w.heap.size w W → Calls Tryz.prog 11 #[] W fun E w' => E = .returned (.bool true) ∧ Hid (Below W.heap.size W w'))) :
    Calls Tryz.prog 7 #[.agg (msgC m).toArray, .int .u8 (a.toNat : Int), .int .u8 (b.toNat : Int)] w fun E w' => E = .returned (.bool true) ∧ Below w.heap.size w w' := by
  have HI : Hid ((Tryz.prog.info? 34).map (·.size) = some (msgC m).length) := Lib.hid (by rw [msgC_length hm]; exact Tryz.is34)
  have HIX : Hid ((Tryz.prog.info? 34).map (·.size) = some (msgC x).length) := Lib.hid (by rw [msgC_length hx]; exact Tryz.is34)
  have HLX : Hid (0 + (msgC x).length ≤ (msgC zeroMsg).length ∧ setAll (msgC zeroMsg) 0 (msgC x) = msgC x) := Lib.hid ⟨by rw [msgC_length zeroM_wf, msgC_length hx]; omega, setAll_all (by rw [msgC_length zeroM_wf, msgC_length hx])⟩
  have hz : ∀ w, (zeroValue 34).run Tryz.prog w = .ok (.agg (msgC zeroMsg).toArray) w := zero_msg
  have hz9 : ∀ w, (zeroValue 29).run Tryz.prog w = .ok (.agg (reqC zeroReq).toArray) w := zero_req
  have H0 : Hid (RqAt w.heap.size w (msgC m) (w.alloc (.cells (msgC m).toArray 34))) := Lib.hid ⟨(Below.refl _ _).alloc (Nat.le_refl _) _, by simp, range_box w (msgC m) 34⟩
  clear hm hx
  go_enter Tryz.func7, Tryz.ntmps7
  go_wp2_with (((with_reducible refine wpList_load_midG ?_ 34 (.tmp 3) ?_ w.heap.size 0 ?_ (msgC m) _ ?_ Tryz.underlying34 ?_ ?_ ?_); (· rfl); (· rfl); (· rfl); (· exact H0.out.src); (· rfl); (· exact HI.out)))
  go_at_call 10
  with_reducible refine (HF0.out _ H0.out.bel).mono ?_
  rintro E w1 ⟨⟨z, rfl, hz1⟩, b1⟩
  have H1 := Lib.hid (H0.out.next (Nat.le_refl _) b1.out)
  cases z
  · go_wp2_with ((go_at_call 11; (with_reducible refine (HW.out _ H1.out.bel).mono ?_); rintro E w7 ⟨rfl, b7⟩; have H7 := Lib.hid (H1.out.next (Nat.le_refl _) b7.out)))
    go_ret
    exact ⟨rfl, H7.out.bel⟩
  · have HZ := Lib.hid (hz1 rfl)
    clear hz1
    go_wp2_with (first | ((with_reducible refine wpList_load_midG ?_ 34 (.tmp 3) ?_ w.heap.size 0 ?_ (msgC m) _ ?_ Tryz.underlying34 ?_ ?_ ?_); (· rfl); (· rfl); (· rfl); (· exact H1.out.src); (· rfl); (· exact HI.out)) | (go_at_call 12; (with_reducible refine (HT.out HZ.out _ H1.out.bel).mono ?_); rintro E w2 ⟨rfl, b2⟩; have H2 := Lib.hid (H1.out.next (Nat.le_refl _) b2.out)) | ((with_reducible refine wpList_store_part ?_ 34 (.tmp 7) (.tmp 16) ?_ w2.heap.size 0 (msgC zeroMsg) (msgC x) (msgC x) 34 ?_ ?_ ?_ ?_ ?_ ?_ ?_ ?_); (· rfl); (· rfl); (· exact heap_alloc_new w2 _); (· exact HLX.out.1); (· exact HLX.out.2); (· rfl); (· rfl); (· exact HIX.out); (· exact one_msgC _); intro w3 G3; have b3 := Lib.hid (below_made G3.out.2); have H3 := Lib.hid (H2.out.next (Nat.le_refl _) b3.out); have X3 : Hid (Bk w3 w2.heap.size (msgC x) 34) := Lib.hid G3.out.1) | ((with_reducible refine wpList_load_midG ?_ 34 (.tmp 3) ?_ w.heap.size 0 ?_ (msgC m) _ ?_ Tryz.underlying34 ?_ ?_ ?_); (· rfl); (· rfl); (· rfl); (· exact H3.out.src); (· rfl); (· exact HI.out)) | (go_at_call 13; (with_reducible refine (HM.out HZ.out _ H3.out.bel).mono ?_); rintro E w4 ⟨rfl, b4⟩; have H4 := Lib.hid (H3.out.next (Nat.le_refl _) b4.out); have X4 := Lib.hid (X3.out.next b4.out)) | ((with_reducible refine wpList_load_midG ?_ 34 (.tmp 3) ?_ w.heap.size 0 ?_ (msgC m) _ ?_ Tryz.underlying34 ?_ ?_ ?_); (· rfl); (· rfl); (· rfl); (· exact H4.out.src); (· rfl); (· exact HI.out)) | (go_at_call 19; (with_reducible refine (HRM.out HZ.out _ H4.out.bel).mono ?_); rintro E w6 ⟨rfl, b6⟩; have H6 := Lib.hid (H4.out.next (Nat.le_refl _) b6.out); have X6 := Lib.hid (X4.out.next b6.out)) | ((with_reducible refine wpList_load_midG ?_ 34 (.tmp 7) ?_ (w2.heap.size) 0 ?_ (msgC x) _ ?_ Tryz.underlying34 ?_ ?_ ?_); (· rfl); (· rfl); (· rfl); (· exact X6.out.src); (· rfl); (· exact HIX.out)) | (go_at_call 19; (with_reducible refine (HRX.out HZ.out _ H6.out.bel).mono ?_); rintro E w7 ⟨rfl, b7⟩; have H7 := Lib.hid (H6.out.next (Nat.le_refl _) b7.out)) | (go_at_call 11; (with_reducible refine (HW.out _ H7.out.bel).mono ?_); rintro E w8 ⟨rfl, b8⟩; have H8 := Lib.hid (H7.out.next (Nat.le_refl _) b8.out)))
    go_ret
    exact ⟨rfl, H8.out.bel⟩
set_option maxHeartbeats 8000000 in
theorem tags_false (m x y : MMsg) (q p : MReq) (a b u v eu ev : UInt8) (j : Nat) (bz : Bool) (w : World) (hm : m.Wf) (hx : x.Wf) (hy : y.Wf) (hqt : q.tag.length = 32) (hja : (a.toNat : Int) % 32 = (j : Int)) (hj : j < 32)
    (hu : x.tag[j]? = some u) (hv : q.tag[j]? = some v) (hbz : ((b.toNat : Int) == 0) = bz) (HYX : Hid (y = { x with tag := x.tag.set j eu })) (HPQ : Hid (p = { q with tag := q.tag.set j ev })) (heu : u ^^^ b = eu) (hev : v ^^^ b = ev)
    (HT : Hid (m.body.qs.length ≤ 40 → ∀ W, Below w.heap.size w W → Calls Tryz.prog 12 #[.agg (msgC m).toArray] W fun E w' => E = .returned (.agg (msgC x).toArray) ∧ Hid (Below W.heap.size W w')))
    (HM : Hid (m.body.qs.length ≤ 40 → ∀ W, Below w.heap.size w W → Calls Tryz.prog 13 #[.agg (msgC m).toArray] W fun E w' => E = .returned (.bool true) ∧ Hid (Below W.heap.size W w')))
    (HRX : Hid (m.body.qs.length ≤ 40 → ∀ W, Below w.heap.size w W → Calls Tryz.prog 19 #[.agg (msgC x).toArray] W fun E w' => E = .returned (.bool true) ∧ Hid (Below W.heap.size W w')))
    (HRY : Hid (m.body.qs.length ≤ 40 → ∀ W, Below w.heap.size w W → Calls Tryz.prog 19 #[.agg (msgC y).toArray] W fun E w' => E = .returned (.bool bz) ∧ Hid (Below W.heap.size W w')))
    (HS : Hid (m.body.qs.length ≤ 40 → ∀ W, Below w.heap.size w W → Calls Tryz.prog 29 #[.agg (reqC m.body.req).toArray] W fun E w' => E = .returned (.agg (reqC q).toArray) ∧ Hid (Below W.heap.size W w')))
    (HA : Hid (m.body.qs.length ≤ 40 → ∀ W, Below w.heap.size w W → Calls Tryz.prog 27 #[.agg (reqC q).toArray] W fun E w' => E = .returned (.bool false) ∧ Hid (Below W.heap.size W w')))
    (HF0 : Hid (∀ W, Below w.heap.size w W → Calls Tryz.prog 10 #[.agg (msgC m).toArray] W fun E w' => (∃ z, E = .returned (.bool z) ∧ (z = true → m.body.qs.length ≤ 40)) ∧ Hid (Below W.heap.size W w')))
    (HW : Hid (∀ W, Below w.heap.size w W → Calls Tryz.prog 11 #[] W fun E w' => E = .returned (.bool true) ∧ Hid (Below W.heap.size W w'))) :
    Calls Tryz.prog 7 #[.agg (msgC m).toArray, .int .u8 (a.toNat : Int), .int .u8 (b.toNat : Int)] w fun E w' => E = .returned (.bool true) ∧ Below w.heap.size w w' := by
  have HI : Hid ((Tryz.prog.info? 34).map (·.size) = some (msgC m).length) := Lib.hid (by rw [msgC_length hm]; exact Tryz.is34)
  have HIX : Hid ((Tryz.prog.info? 34).map (·.size) = some (msgC x).length) := Lib.hid (by rw [msgC_length hx]; exact Tryz.is34)
  have HLX : Hid (0 + (msgC x).length ≤ (msgC zeroMsg).length ∧ setAll (msgC zeroMsg) 0 (msgC x) = msgC x) := Lib.hid ⟨by rw [msgC_length zeroM_wf, msgC_length hx]; omega, setAll_all (by rw [msgC_length zeroM_wf, msgC_length hx])⟩
  have hz : ∀ w, (zeroValue 34).run Tryz.prog w = .ok (.agg (msgC zeroMsg).toArray) w := zero_msg
  have hz9 : ∀ w, (zeroValue 29).run Tryz.prog w = .ok (.agg (reqC zeroReq).toArray) w := zero_req
  have H0 : Hid (RqAt w.heap.size w (msgC m) (w.alloc (.cells (msgC m).toArray 34))) := Lib.hid ⟨(Below.refl _ _).alloc (Nat.le_refl _) _, by simp, range_box w (msgC m) 34⟩
  have HIY : Hid ((Tryz.prog.info? 34).map (·.size) = some (msgC y).length) := Lib.hid (by rw [msgC_length hy]; exact Tryz.is34)
  have HIR : Hid ((Tryz.prog.info? 29).map (·.size) = some (reqC m.body.req).length) := Lib.hid (by rw [reqC_length hm.2.1.1]; exact Tryz.is29)
  have HIQ : Hid ((Tryz.prog.info? 29).map (·.size) = some (reqC q).length) := Lib.hid (by rw [reqC_length hqt]; exact Tryz.is29)
  have HLQ : Hid (0 + (reqC q).length ≤ (reqC zeroReq).length ∧ setAll (reqC zeroReq) 0 (reqC q) = reqC q) := Lib.hid ⟨by rw [reqC_length hqt, reqC_length (r := zeroReq) rfl]; omega, setAll_all (by rw [reqC_length hqt, reqC_length (r := zeroReq) rfl])⟩
  have HMW := Lib.hid hm
  have HXW := Lib.hid hx
  have hw : wrap64 (a.toNat : Int) = (a.toNat : Int) := by have := UInt8.toNat_lt a; unfold wrap64; omega
  have ht : ((a.toNat : Int)).tmod 32 = (j : Int) := by rw [← hja]; exact Int.tmod_eq_emod_of_nonneg (by omega)
  have hjn : ((j : Int)).toNat = j := by simp
  have hj0 : (0 : Int) ≤ (j : Int) := by omega
  have hj1 : (j : Int) < 32 := by omega
  have hxu : bits .xor .u8 (u.toNat : Int) (b.toNat : Int) = (eu.toNat : Int) := by rw [← heu]; exact b8_xor u b
  have hxv : bits .xor .u8 (v.toNat : Int) (b.toNat : Int) = (ev.toNat : Int) := by rw [← hev]; exact b8_xor v b
  have HCY : Hid (∀ (W : World) (g : Nat), Bk W g (msgC x) 34 → W.cell? ⟨g, 89 + j, none⟩ = some (.int .u8 (u.toNat : Int))) := Lib.hid fun W g h => (msg_lies h.src hx).tag j _ (by simp [u8s, hu])
  have HCP : Hid (∀ (W : World) (g : Nat), Bk W g (reqC q) 29 → W.cell? ⟨g, 8 + j, none⟩ = some (.int .u8 (v.toNat : Int))) := Lib.hid fun W g h => by
    have := (req_lies h.src).tag j (.int .u8 (v.toNat : Int)) (by simp [u8s, hv])
    rwa [Nat.zero_add] at this
  clear hm hx hy hqt hja hu hv heu hev
  cases bz
  all_goals
    go_enter Tryz.func7, Tryz.ntmps7
    go_wp2_with (((with_reducible refine wpList_load_midG ?_ 34 (.tmp 3) ?_ w.heap.size 0 ?_ (msgC m) _ ?_ Tryz.underlying34 ?_ ?_ ?_); (· rfl); (· rfl); (· rfl); (· exact H0.out.src); (· rfl); (· exact HI.out)))
    go_at_call 10
    with_reducible refine (HF0.out _ H0.out.bel).mono ?_
    rintro E w1 ⟨⟨z, rfl, hz1⟩, b1⟩
    have H1 := Lib.hid (H0.out.next (Nat.le_refl _) b1.out)
    cases z
    · go_wp2_with ((go_at_call 11; (with_reducible refine (HW.out _ H1.out.bel).mono ?_); rintro E w7 ⟨rfl, b7⟩; have H7 := Lib.hid (H1.out.next (Nat.le_refl _) b7.out)))
      go_ret
      exact ⟨rfl, H7.out.bel⟩
    · have HZ := Lib.hid (hz1 rfl)
      clear hz1
      go_wp2_with (first | ((with_reducible refine wpList_load_midG ?_ 34 (.tmp 3) ?_ w.heap.size 0 ?_ (msgC m) _ ?_ Tryz.underlying34 ?_ ?_ ?_); (· rfl); (· rfl); (· rfl); (· exact H1.out.src); (· rfl); (· exact HI.out)) | (go_at_call 12; (with_reducible refine (HT.out HZ.out _ H1.out.bel).mono ?_); rintro E w2 ⟨rfl, b2⟩; have H2 := Lib.hid (H1.out.next (Nat.le_refl _) b2.out)) | ((with_reducible refine wpList_store_part ?_ 34 (.tmp 7) (.tmp 16) ?_ w2.heap.size 0 (msgC zeroMsg) (msgC x) (msgC x) 34 ?_ ?_ ?_ ?_ ?_ ?_ ?_ ?_); (· rfl); (· rfl); (· exact heap_alloc_new w2 _); (· exact HLX.out.1); (· exact HLX.out.2); (· rfl); (· rfl); (· exact HIX.out); (· exact one_msgC _); intro w3 G3; have b3 := Lib.hid (below_made G3.out.2); have H3 := Lib.hid (H2.out.next (Nat.le_refl _) b3.out); have X3 : Hid (Bk w3 w2.heap.size (msgC x) 34) := Lib.hid G3.out.1) | ((with_reducible refine wpList_load_midG ?_ 34 (.tmp 3) ?_ w.heap.size 0 ?_ (msgC m) _ ?_ Tryz.underlying34 ?_ ?_ ?_); (· rfl); (· rfl); (· rfl); (· exact H3.out.src); (· rfl); (· exact HI.out)) | (go_at_call 13; (with_reducible refine (HM.out HZ.out _ H3.out.bel).mono ?_); rintro E w4 ⟨rfl, b4⟩; have H4 := Lib.hid (H3.out.next (Nat.le_refl _) b4.out); have X4 := Lib.hid (X3.out.next b4.out)) | ((with_reducible refine wpList_load_midG ?_ 34 (.tmp 7) ?_ (w2.heap.size) 0 ?_ (msgC x) _ ?_ Tryz.underlying34 ?_ ?_ ?_); (· rfl); (· rfl); (· rfl); (· exact X4.out.src); (· rfl); (· exact HIX.out)) | ((with_reducible refine wpList_store_part ?_ 34 (.tmp 8) (.tmp 31) ?_ w4.heap.size 0 (msgC zeroMsg) (msgC x) (msgC x) 34 ?_ ?_ ?_ ?_ ?_ ?_ ?_ ?_); (· rfl); (· rfl); (· exact heap_alloc_new w4 _); (· exact HLX.out.1); (· exact HLX.out.2); (· rfl); (· rfl); (· exact HIX.out); (· exact one_msgC _); intro w5 G5; have b5 := Lib.hid (below_made G5.out.2); have H5 := Lib.hid (H4.out.next (Nat.le_refl _) b5.out); have X5 := Lib.hid (X4.out.next b5.out); have Y5 : Hid (Bk w5 w4.heap.size (msgC x) 34) := Lib.hid G5.out.1; have cy : w5.cell? ⟨w4.heap.size, 89 + j, none⟩ = some (.int .u8 (u.toNat : Int)) := HCY.out _ _ Y5.out; have hf5 := fun k => free_block Y5.out k; have Y6 : Hid (Bk (w5.setCell ⟨w4.heap.size, 89 + j, none⟩ (.int .u8 (eu.toNat : Int))) w4.heap.size (msgC y) 34) := Lib.hid (by rw [HYX.out]; exact Y5.out.turnM HXW.out hj eu); have H6 : Hid (RqAt w.heap.size w (msgC m) (w5.setCell ⟨w4.heap.size, 89 + j, none⟩ (.int .u8 (eu.toNat : Int)))) := Lib.hid (H5.out.far (Nat.le_refl _) H4.out.lt (gb_set _ _ _ _)); have X6 : Hid (Bk (w5.setCell ⟨w4.heap.size, 89 + j, none⟩ (.int .u8 (eu.toNat : Int))) w2.heap.size (msgC x) 34) := Lib.hid (X5.out.other (gb_set _ _ _ _) (Nat.ne_of_lt X4.out.lt))) | ((with_reducible refine wpList_load_midG ?_ 29 (.tmp 46) ?_ (w.heap.size) 16 ?_ (reqC m.body.req) _ ?_ Tryz.underlying29 ?_ ?_ ?_); (· rfl); (· rfl); (· rfl); (· exact (msg_lies H6.out.src HMW.out).body.req.all); (· rfl); (· exact HIR.out)) | (go_at_call 29; (with_reducible refine (HS.out HZ.out _ H6.out.bel).mono ?_); rintro E w7 ⟨rfl, b7⟩; have H7 := Lib.hid (H6.out.next (Nat.le_refl _) b7.out); have X7 := Lib.hid (X6.out.next b7.out); have Y7 := Lib.hid (Y6.out.next b7.out)) | ((with_reducible refine wpList_store_part ?_ 29 (.tmp 9) (.tmp 48) ?_ w7.heap.size 0 (reqC zeroReq) (reqC q) (reqC q) 29 ?_ ?_ ?_ ?_ ?_ ?_ ?_ ?_); (· rfl); (· rfl); (· exact heap_alloc_new w7 _); (· exact HLQ.out.1); (· exact HLQ.out.2); (· rfl); (· rfl); (· exact HIQ.out); (· exact one_reqC _); intro w8 G8; have b8 := Lib.hid (below_made G8.out.2); have H8 := Lib.hid (H7.out.next (Nat.le_refl _) b8.out); have Q8 : Hid (Bk w8 w7.heap.size (reqC q) 29) := Lib.hid G8.out.1; have X8 := Lib.hid (X7.out.next b8.out); have Y8 := Lib.hid (Y7.out.next b8.out)) | ((with_reducible refine wpList_load_midG ?_ 29 (.tmp 9) ?_ (w7.heap.size) 0 ?_ (reqC q) _ ?_ Tryz.underlying29 ?_ ?_ ?_); (· rfl); (· rfl); (· rfl); (· exact Q8.out.src); (· rfl); (· exact HIQ.out)) | ((with_reducible refine wpList_store_part ?_ 29 (.tmp 10) (.tmp 49) ?_ w8.heap.size 0 (reqC zeroReq) (reqC q) (reqC q) 29 ?_ ?_ ?_ ?_ ?_ ?_ ?_ ?_); (· rfl); (· rfl); (· exact heap_alloc_new w8 _); (· exact HLQ.out.1); (· exact HLQ.out.2); (· rfl); (· rfl); (· exact HIQ.out); (· exact one_reqC _); intro w9 G9; have b9 := Lib.hid (below_made G9.out.2); have H9 := Lib.hid (H8.out.next (Nat.le_refl _) b9.out); have P9 : Hid (Bk w9 w8.heap.size (reqC q) 29) := Lib.hid G9.out.1; have X9 := Lib.hid (X8.out.next b9.out); have Y9 := Lib.hid (Y8.out.next b9.out); have Q9 := Lib.hid (Q8.out.next b9.out); have cp : w9.cell? ⟨w8.heap.size, 8 + j, none⟩ = some (.int .u8 (v.toNat : Int)) := HCP.out _ _ P9.out; have hf9 := fun k => free_block P9.out k; have P10 : Hid (Bk (w9.setCell ⟨w8.heap.size, 8 + j, none⟩ (.int .u8 (ev.toNat : Int))) w8.heap.size (reqC p) 29) := Lib.hid (by rw [HPQ.out]; exact P9.out.turnR j ev); have H10 : Hid (RqAt w.heap.size w (msgC m) (w9.setCell ⟨w8.heap.size, 8 + j, none⟩ (.int .u8 (ev.toNat : Int)))) := Lib.hid (H9.out.far (Nat.le_refl _) H8.out.lt (gb_set _ _ _ _)); have X10 : Hid (Bk (w9.setCell ⟨w8.heap.size, 8 + j, none⟩ (.int .u8 (ev.toNat : Int))) w2.heap.size (msgC x) 34) := Lib.hid (X9.out.other (gb_set _ _ _ _) (Nat.ne_of_lt X8.out.lt)); have Y10 : Hid (Bk (w9.setCell ⟨w8.heap.size, 8 + j, none⟩ (.int .u8 (ev.toNat : Int))) w4.heap.size (msgC y) 34) := Lib.hid (Y9.out.other (gb_set _ _ _ _) (Nat.ne_of_lt Y8.out.lt)); have Q10 : Hid (Bk (w9.setCell ⟨w8.heap.size, 8 + j, none⟩ (.int .u8 (ev.toNat : Int))) w7.heap.size (reqC q) 29) := Lib.hid (Q9.out.other (gb_set _ _ _ _) (Nat.ne_of_lt Q8.out.lt))) | ((with_reducible refine wpList_load_midG ?_ 29 (.tmp 9) ?_ (w7.heap.size) 0 ?_ (reqC q) _ ?_ Tryz.underlying29 ?_ ?_ ?_); (· rfl); (· rfl); (· rfl); (· exact Q10.out.src); (· rfl); (· exact HIQ.out)) | (go_at_call 27; (with_reducible refine (HA.out HZ.out _ H10.out.bel).mono ?_); rintro E w13 ⟨rfl, b13⟩; have H13 := Lib.hid (H10.out.next (Nat.le_refl _) b13.out); have X13 := Lib.hid (X10.out.next b13.out); have Y13 := Lib.hid (Y10.out.next b13.out); have Q13 := Lib.hid (Q10.out.next b13.out); have P13 := Lib.hid (P10.out.next b13.out)) | ((with_reducible refine wpList_load_midG ?_ 34 (.tmp 7) ?_ (w2.heap.size) 0 ?_ (msgC x) _ ?_ Tryz.underlying34 ?_ ?_ ?_); (· rfl); (· rfl); (· rfl); (· exact X13.out.src); (· rfl); (· exact HIX.out)) | (go_at_call 19; (with_reducible refine (HRX.out HZ.out _ H13.out.bel).mono ?_); rintro E w14 ⟨rfl, b14⟩; have H14 := Lib.hid (H13.out.next (Nat.le_refl _) b14.out); have X14 := Lib.hid (X13.out.next b14.out); have Y14 := Lib.hid (Y13.out.next b14.out); have Q14 := Lib.hid (Q13.out.next b14.out); have P14 := Lib.hid (P13.out.next b14.out)) | ((with_reducible refine wpList_load_midG ?_ 34 (.tmp 8) ?_ w4.heap.size 0 ?_ (msgC y) _ ?_ Tryz.underlying34 ?_ ?_ ?_); (· rfl); (· rfl); (· rfl); (· exact Y14.out.src); (· rfl); (· exact HIY.out)) | (go_at_call 19; (with_reducible refine (HRY.out HZ.out _ H14.out.bel).mono ?_); rintro E w15 ⟨rfl, b15⟩; have H15 := Lib.hid (H14.out.next (Nat.le_refl _) b15.out); have X15 := Lib.hid (X14.out.next b15.out); have Y15 := Lib.hid (Y14.out.next b15.out); have Q15 := Lib.hid (Q14.out.next b15.out); have P15 := Lib.hid (P14.out.next b15.out)) | (go_at_call 11; (with_reducible refine (HW.out _ H15.out.bel).mono ?_); rintro E w16 ⟨rfl, b16⟩; have H16 := Lib.hid (H15.out.next (Nat.le_refl _) b16.out)))
      go_ret
      exact ⟨rfl, H16.out.bel⟩
set_option maxHeartbeats 8000000 in
theorem tags_true (m x y : MMsg) (q p : MReq) (a b u v eu ev : UInt8) (j : Nat) (bz : Bool) (w : World) (hm : m.Wf) (hx : x.Wf) (hy : y.Wf) (hqt : q.tag.length = 32) (hpt : p.tag.length = 32) (hja : (a.toNat : Int) % 32 = (j : Int)) (hj : j < 32)
    (hu : x.tag[j]? = some u) (hv : q.tag[j]? = some v) (hbz : ((b.toNat : Int) == 0) = bz) (HYX : Hid (y = { x with tag := x.tag.set j eu })) (HPQ : Hid (p = { q with tag := q.tag.set j ev })) (heu : u ^^^ b = eu) (hev : v ^^^ b = ev)
    (HT : Hid (m.body.qs.length ≤ 40 → ∀ W, Below w.heap.size w W → Calls Tryz.prog 12 #[.agg (msgC m).toArray] W fun E w' => E = .returned (.agg (msgC x).toArray) ∧ Hid (Below W.heap.size W w')))
    (HM : Hid (m.body.qs.length ≤ 40 → ∀ W, Below w.heap.size w W → Calls Tryz.prog 13 #[.agg (msgC m).toArray] W fun E w' => E = .returned (.bool true) ∧ Hid (Below W.heap.size W w')))
    (HRX : Hid (m.body.qs.length ≤ 40 → ∀ W, Below w.heap.size w W → Calls Tryz.prog 19 #[.agg (msgC x).toArray] W fun E w' => E = .returned (.bool true) ∧ Hid (Below W.heap.size W w')))
    (HRY : Hid (m.body.qs.length ≤ 40 → ∀ W, Below w.heap.size w W → Calls Tryz.prog 19 #[.agg (msgC y).toArray] W fun E w' => E = .returned (.bool bz) ∧ Hid (Below W.heap.size W w')))
    (HS : Hid (m.body.qs.length ≤ 40 → ∀ W, Below w.heap.size w W → Calls Tryz.prog 29 #[.agg (reqC m.body.req).toArray] W fun E w' => E = .returned (.agg (reqC q).toArray) ∧ Hid (Below W.heap.size W w')))
    (HA : Hid (m.body.qs.length ≤ 40 → ∀ W, Below w.heap.size w W → Calls Tryz.prog 27 #[.agg (reqC q).toArray] W fun E w' => E = .returned (.bool true) ∧ Hid (Below W.heap.size W w')))
    (HU : Hid (m.body.qs.length ≤ 40 → ∀ W, Below w.heap.size w W → Calls Tryz.prog 30 #[.agg (reqC q).toArray] W fun E w' => E = .returned (.bool true) ∧ Hid (Below W.heap.size W w')))
    (HV : Hid (m.body.qs.length ≤ 40 → ∀ W, Below w.heap.size w W → Calls Tryz.prog 30 #[.agg (reqC p).toArray] W fun E w' => E = .returned (.bool bz) ∧ Hid (Below W.heap.size W w')))
    (HF0 : Hid (∀ W, Below w.heap.size w W → Calls Tryz.prog 10 #[.agg (msgC m).toArray] W fun E w' => (∃ z, E = .returned (.bool z) ∧ (z = true → m.body.qs.length ≤ 40)) ∧ Hid (Below W.heap.size W w')))
    (HW : Hid (∀ W, Below w.heap.size w W → Calls Tryz.prog 11 #[] W fun E w' => E = .returned (.bool true) ∧ Hid (Below W.heap.size W w'))) :
    Calls Tryz.prog 7 #[.agg (msgC m).toArray, .int .u8 (a.toNat : Int), .int .u8 (b.toNat : Int)] w fun E w' => E = .returned (.bool true) ∧ Below w.heap.size w w' := by
  have HI : Hid ((Tryz.prog.info? 34).map (·.size) = some (msgC m).length) := Lib.hid (by rw [msgC_length hm]; exact Tryz.is34)
  have HIX : Hid ((Tryz.prog.info? 34).map (·.size) = some (msgC x).length) := Lib.hid (by rw [msgC_length hx]; exact Tryz.is34)
  have HLX : Hid (0 + (msgC x).length ≤ (msgC zeroMsg).length ∧ setAll (msgC zeroMsg) 0 (msgC x) = msgC x) := Lib.hid ⟨by rw [msgC_length zeroM_wf, msgC_length hx]; omega, setAll_all (by rw [msgC_length zeroM_wf, msgC_length hx])⟩
  have hz : ∀ w, (zeroValue 34).run Tryz.prog w = .ok (.agg (msgC zeroMsg).toArray) w := zero_msg
  have hz9 : ∀ w, (zeroValue 29).run Tryz.prog w = .ok (.agg (reqC zeroReq).toArray) w := zero_req
  have H0 : Hid (RqAt w.heap.size w (msgC m) (w.alloc (.cells (msgC m).toArray 34))) := Lib.hid ⟨(Below.refl _ _).alloc (Nat.le_refl _) _, by simp, range_box w (msgC m) 34⟩
  have HIY : Hid ((Tryz.prog.info? 34).map (·.size) = some (msgC y).length) := Lib.hid (by rw [msgC_length hy]; exact Tryz.is34)
  have HIR : Hid ((Tryz.prog.info? 29).map (·.size) = some (reqC m.body.req).length) := Lib.hid (by rw [reqC_length hm.2.1.1]; exact Tryz.is29)
  have HIQ : Hid ((Tryz.prog.info? 29).map (·.size) = some (reqC q).length) := Lib.hid (by rw [reqC_length hqt]; exact Tryz.is29)
  have HIP : Hid ((Tryz.prog.info? 29).map (·.size) = some (reqC p).length) := Lib.hid (by rw [reqC_length hpt]; exact Tryz.is29)
  have HLQ : Hid (0 + (reqC q).length ≤ (reqC zeroReq).length ∧ setAll (reqC zeroReq) 0 (reqC q) = reqC q) := Lib.hid ⟨by rw [reqC_length hqt, reqC_length (r := zeroReq) rfl]; omega, setAll_all (by rw [reqC_length hqt, reqC_length (r := zeroReq) rfl])⟩
  have HMW := Lib.hid hm
  have HXW := Lib.hid hx
  have hw : wrap64 (a.toNat : Int) = (a.toNat : Int) := by have := UInt8.toNat_lt a; unfold wrap64; omega
  have ht : ((a.toNat : Int)).tmod 32 = (j : Int) := by rw [← hja]; exact Int.tmod_eq_emod_of_nonneg (by omega)
  have hjn : ((j : Int)).toNat = j := by simp
  have hj0 : (0 : Int) ≤ (j : Int) := by omega
  have hj1 : (j : Int) < 32 := by omega
  have hxu : bits .xor .u8 (u.toNat : Int) (b.toNat : Int) = (eu.toNat : Int) := by rw [← heu]; exact b8_xor u b
  have hxv : bits .xor .u8 (v.toNat : Int) (b.toNat : Int) = (ev.toNat : Int) := by rw [← hev]; exact b8_xor v b
  have HCY : Hid (∀ (W : World) (g : Nat), Bk W g (msgC x) 34 → W.cell? ⟨g, 89 + j, none⟩ = some (.int .u8 (u.toNat : Int))) := Lib.hid fun W g h => (msg_lies h.src hx).tag j _ (by simp [u8s, hu])
  have HCP : Hid (∀ (W : World) (g : Nat), Bk W g (reqC q) 29 → W.cell? ⟨g, 8 + j, none⟩ = some (.int .u8 (v.toNat : Int))) := Lib.hid fun W g h => by
    have := (req_lies h.src).tag j (.int .u8 (v.toNat : Int)) (by simp [u8s, hv])
    rwa [Nat.zero_add] at this
  clear hm hx hy hqt hpt hja hu hv heu hev
  cases bz
  all_goals
    go_enter Tryz.func7, Tryz.ntmps7
    go_wp2_with (((with_reducible refine wpList_load_midG ?_ 34 (.tmp 3) ?_ w.heap.size 0 ?_ (msgC m) _ ?_ Tryz.underlying34 ?_ ?_ ?_); (· rfl); (· rfl); (· rfl); (· exact H0.out.src); (· rfl); (· exact HI.out)))
    go_at_call 10
    with_reducible refine (HF0.out _ H0.out.bel).mono ?_
    rintro E w1 ⟨⟨z, rfl, hz1⟩, b1⟩
    have H1 := Lib.hid (H0.out.next (Nat.le_refl _) b1.out)
    cases z
    · go_wp2_with ((go_at_call 11; (with_reducible refine (HW.out _ H1.out.bel).mono ?_); rintro E w7 ⟨rfl, b7⟩; have H7 := Lib.hid (H1.out.next (Nat.le_refl _) b7.out)))
      go_ret
      exact ⟨rfl, H7.out.bel⟩
    · have HZ := Lib.hid (hz1 rfl)
      clear hz1
      go_wp2_with (first | ((with_reducible refine wpList_load_midG ?_ 34 (.tmp 3) ?_ w.heap.size 0 ?_ (msgC m) _ ?_ Tryz.underlying34 ?_ ?_ ?_); (· rfl); (· rfl); (· rfl); (· exact H1.out.src); (· rfl); (· exact HI.out)) | (go_at_call 12; (with_reducible refine (HT.out HZ.out _ H1.out.bel).mono ?_); rintro E w2 ⟨rfl, b2⟩; have H2 := Lib.hid (H1.out.next (Nat.le_refl _) b2.out)) | ((with_reducible refine wpList_store_part ?_ 34 (.tmp 7) (.tmp 16) ?_ w2.heap.size 0 (msgC zeroMsg) (msgC x) (msgC x) 34 ?_ ?_ ?_ ?_ ?_ ?_ ?_ ?_); (· rfl); (· rfl); (· exact heap_alloc_new w2 _); (· exact HLX.out.1); (· exact HLX.out.2); (· rfl); (· rfl); (· exact HIX.out); (· exact one_msgC _); intro w3 G3; have b3 := Lib.hid (below_made G3.out.2); have H3 := Lib.hid (H2.out.next (Nat.le_refl _) b3.out); have X3 : Hid (Bk w3 w2.heap.size (msgC x) 34) := Lib.hid G3.out.1) | ((with_reducible refine wpList_load_midG ?_ 34 (.tmp 3) ?_ w.heap.size 0 ?_ (msgC m) _ ?_ Tryz.underlying34 ?_ ?_ ?_); (· rfl); (· rfl); (· rfl); (· exact H3.out.src); (· rfl); (· exact HI.out)) | (go_at_call 13; (with_reducible refine (HM.out HZ.out _ H3.out.bel).mono ?_); rintro E w4 ⟨rfl, b4⟩; have H4 := Lib.hid (H3.out.next (Nat.le_refl _) b4.out); have X4 := Lib.hid (X3.out.next b4.out)) | ((with_reducible refine wpList_load_midG ?_ 34 (.tmp 7) ?_ (w2.heap.size) 0 ?_ (msgC x) _ ?_ Tryz.underlying34 ?_ ?_ ?_); (· rfl); (· rfl); (· rfl); (· exact X4.out.src); (· rfl); (· exact HIX.out)) | ((with_reducible refine wpList_store_part ?_ 34 (.tmp 8) (.tmp 31) ?_ w4.heap.size 0 (msgC zeroMsg) (msgC x) (msgC x) 34 ?_ ?_ ?_ ?_ ?_ ?_ ?_ ?_); (· rfl); (· rfl); (· exact heap_alloc_new w4 _); (· exact HLX.out.1); (· exact HLX.out.2); (· rfl); (· rfl); (· exact HIX.out); (· exact one_msgC _); intro w5 G5; have b5 := Lib.hid (below_made G5.out.2); have H5 := Lib.hid (H4.out.next (Nat.le_refl _) b5.out); have X5 := Lib.hid (X4.out.next b5.out); have Y5 : Hid (Bk w5 w4.heap.size (msgC x) 34) := Lib.hid G5.out.1; have cy : w5.cell? ⟨w4.heap.size, 89 + j, none⟩ = some (.int .u8 (u.toNat : Int)) := HCY.out _ _ Y5.out; have hf5 := fun k => free_block Y5.out k; have Y6 : Hid (Bk (w5.setCell ⟨w4.heap.size, 89 + j, none⟩ (.int .u8 (eu.toNat : Int))) w4.heap.size (msgC y) 34) := Lib.hid (by rw [HYX.out]; exact Y5.out.turnM HXW.out hj eu); have H6 : Hid (RqAt w.heap.size w (msgC m) (w5.setCell ⟨w4.heap.size, 89 + j, none⟩ (.int .u8 (eu.toNat : Int)))) := Lib.hid (H5.out.far (Nat.le_refl _) H4.out.lt (gb_set _ _ _ _)); have X6 : Hid (Bk (w5.setCell ⟨w4.heap.size, 89 + j, none⟩ (.int .u8 (eu.toNat : Int))) w2.heap.size (msgC x) 34) := Lib.hid (X5.out.other (gb_set _ _ _ _) (Nat.ne_of_lt X4.out.lt))) | ((with_reducible refine wpList_load_midG ?_ 29 (.tmp 46) ?_ (w.heap.size) 16 ?_ (reqC m.body.req) _ ?_ Tryz.underlying29 ?_ ?_ ?_); (· rfl); (· rfl); (· rfl); (· exact (msg_lies H6.out.src HMW.out).body.req.all); (· rfl); (· exact HIR.out)) | (go_at_call 29; (with_reducible refine (HS.out HZ.out _ H6.out.bel).mono ?_); rintro E w7 ⟨rfl, b7⟩; have H7 := Lib.hid (H6.out.next (Nat.le_refl _) b7.out); have X7 := Lib.hid (X6.out.next b7.out); have Y7 := Lib.hid (Y6.out.next b7.out)) | ((with_reducible refine wpList_store_part ?_ 29 (.tmp 9) (.tmp 48) ?_ w7.heap.size 0 (reqC zeroReq) (reqC q) (reqC q) 29 ?_ ?_ ?_ ?_ ?_ ?_ ?_ ?_); (· rfl); (· rfl); (· exact heap_alloc_new w7 _); (· exact HLQ.out.1); (· exact HLQ.out.2); (· rfl); (· rfl); (· exact HIQ.out); (· exact one_reqC _); intro w8 G8; have b8 := Lib.hid (below_made G8.out.2); have H8 := Lib.hid (H7.out.next (Nat.le_refl _) b8.out); have Q8 : Hid (Bk w8 w7.heap.size (reqC q) 29) := Lib.hid G8.out.1; have X8 := Lib.hid (X7.out.next b8.out); have Y8 := Lib.hid (Y7.out.next b8.out)) | ((with_reducible refine wpList_load_midG ?_ 29 (.tmp 9) ?_ (w7.heap.size) 0 ?_ (reqC q) _ ?_ Tryz.underlying29 ?_ ?_ ?_); (· rfl); (· rfl); (· rfl); (· exact Q8.out.src); (· rfl); (· exact HIQ.out)) | ((with_reducible refine wpList_store_part ?_ 29 (.tmp 10) (.tmp 49) ?_ w8.heap.size 0 (reqC zeroReq) (reqC q) (reqC q) 29 ?_ ?_ ?_ ?_ ?_ ?_ ?_ ?_); (· rfl); (· rfl); (· exact heap_alloc_new w8 _); (· exact HLQ.out.1); (· exact HLQ.out.2); (· rfl); (· rfl); (· exact HIQ.out); (· exact one_reqC _); intro w9 G9; have b9 := Lib.hid (below_made G9.out.2); have H9 := Lib.hid (H8.out.next (Nat.le_refl _) b9.out); have P9 : Hid (Bk w9 w8.heap.size (reqC q) 29) := Lib.hid G9.out.1; have X9 := Lib.hid (X8.out.next b9.out); have Y9 := Lib.hid (Y8.out.next b9.out); have Q9 := Lib.hid (Q8.out.next b9.out); have cp : w9.cell? ⟨w8.heap.size, 8 + j, none⟩ = some (.int .u8 (v.toNat : Int)) := HCP.out _ _ P9.out; have hf9 := fun k => free_block P9.out k; have P10 : Hid (Bk (w9.setCell ⟨w8.heap.size, 8 + j, none⟩ (.int .u8 (ev.toNat : Int))) w8.heap.size (reqC p) 29) := Lib.hid (by rw [HPQ.out]; exact P9.out.turnR j ev); have H10 : Hid (RqAt w.heap.size w (msgC m) (w9.setCell ⟨w8.heap.size, 8 + j, none⟩ (.int .u8 (ev.toNat : Int)))) := Lib.hid (H9.out.far (Nat.le_refl _) H8.out.lt (gb_set _ _ _ _)); have X10 : Hid (Bk (w9.setCell ⟨w8.heap.size, 8 + j, none⟩ (.int .u8 (ev.toNat : Int))) w2.heap.size (msgC x) 34) := Lib.hid (X9.out.other (gb_set _ _ _ _) (Nat.ne_of_lt X8.out.lt)); have Y10 : Hid (Bk (w9.setCell ⟨w8.heap.size, 8 + j, none⟩ (.int .u8 (ev.toNat : Int))) w4.heap.size (msgC y) 34) := Lib.hid (Y9.out.other (gb_set _ _ _ _) (Nat.ne_of_lt Y8.out.lt)); have Q10 : Hid (Bk (w9.setCell ⟨w8.heap.size, 8 + j, none⟩ (.int .u8 (ev.toNat : Int))) w7.heap.size (reqC q) 29) := Lib.hid (Q9.out.other (gb_set _ _ _ _) (Nat.ne_of_lt Q8.out.lt))) | ((with_reducible refine wpList_load_midG ?_ 29 (.tmp 9) ?_ (w7.heap.size) 0 ?_ (reqC q) _ ?_ Tryz.underlying29 ?_ ?_ ?_); (· rfl); (· rfl); (· rfl); (· exact Q10.out.src); (· rfl); (· exact HIQ.out)) | (go_at_call 27; (with_reducible refine (HA.out HZ.out _ H10.out.bel).mono ?_); rintro E w11 ⟨rfl, b11⟩; have H11 := Lib.hid (H10.out.next (Nat.le_refl _) b11.out); have X11 := Lib.hid (X10.out.next b11.out); have Y11 := Lib.hid (Y10.out.next b11.out); have Q11 := Lib.hid (Q10.out.next b11.out); have P11 := Lib.hid (P10.out.next b11.out)) | ((with_reducible refine wpList_load_midG ?_ 29 (.tmp 9) ?_ (w7.heap.size) 0 ?_ (reqC q) _ ?_ Tryz.underlying29 ?_ ?_ ?_); (· rfl); (· rfl); (· rfl); (· exact Q11.out.src); (· rfl); (· exact HIQ.out)) | (go_at_call 30; (with_reducible refine (HU.out HZ.out _ H11.out.bel).mono ?_); rintro E w12 ⟨rfl, b12⟩; have H12 := Lib.hid (H11.out.next (Nat.le_refl _) b12.out); have X12 := Lib.hid (X11.out.next b12.out); have Y12 := Lib.hid (Y11.out.next b12.out); have Q12 := Lib.hid (Q11.out.next b12.out); have P12 := Lib.hid (P11.out.next b12.out)) | ((with_reducible refine wpList_load_midG ?_ 29 (.tmp 10) ?_ (w8.heap.size) 0 ?_ (reqC p) _ ?_ Tryz.underlying29 ?_ ?_ ?_); (· rfl); (· rfl); (· rfl); (· exact P12.out.src); (· rfl); (· exact HIP.out)) | (go_at_call 30; (with_reducible refine (HV.out HZ.out _ H12.out.bel).mono ?_); rintro E w13 ⟨rfl, b13⟩; have H13 := Lib.hid (H12.out.next (Nat.le_refl _) b13.out); have X13 := Lib.hid (X12.out.next b13.out); have Y13 := Lib.hid (Y12.out.next b13.out); have Q13 := Lib.hid (Q12.out.next b13.out); have P13 := Lib.hid (P12.out.next b13.out)) | ((with_reducible refine wpList_load_midG ?_ 34 (.tmp 7) ?_ (w2.heap.size) 0 ?_ (msgC x) _ ?_ Tryz.underlying34 ?_ ?_ ?_); (· rfl); (· rfl); (· rfl); (· exact X13.out.src); (· rfl); (· exact HIX.out)) | (go_at_call 19; (with_reducible refine (HRX.out HZ.out _ H13.out.bel).mono ?_); rintro E w14 ⟨rfl, b14⟩; have H14 := Lib.hid (H13.out.next (Nat.le_refl _) b14.out); have X14 := Lib.hid (X13.out.next b14.out); have Y14 := Lib.hid (Y13.out.next b14.out); have Q14 := Lib.hid (Q13.out.next b14.out); have P14 := Lib.hid (P13.out.next b14.out)) | ((with_reducible refine wpList_load_midG ?_ 34 (.tmp 8) ?_ w4.heap.size 0 ?_ (msgC y) _ ?_ Tryz.underlying34 ?_ ?_ ?_); (· rfl); (· rfl); (· rfl); (· exact Y14.out.src); (· rfl); (· exact HIY.out)) | (go_at_call 19; (with_reducible refine (HRY.out HZ.out _ H14.out.bel).mono ?_); rintro E w15 ⟨rfl, b15⟩; have H15 := Lib.hid (H14.out.next (Nat.le_refl _) b15.out); have X15 := Lib.hid (X14.out.next b15.out); have Y15 := Lib.hid (Y14.out.next b15.out); have Q15 := Lib.hid (Q14.out.next b15.out); have P15 := Lib.hid (P14.out.next b15.out)) | (go_at_call 11; (with_reducible refine (HW.out _ H15.out.bel).mono ?_); rintro E w16 ⟨rfl, b16⟩; have H16 := Lib.hid (H15.out.next (Nat.le_refl _) b16.out)))
      go_ret
      exact ⟨rfl, H16.out.bel⟩

theorem tagM_wf {m : MMsg} (h : m.Wf) : (tagM m).Wf := by
  unfold tagM
  split
  · exact ⟨h.1, h.2.1, numTag_length _ _ _⟩
  · exact h
theorem tagM_body (m : MMsg) : (tagM m).body = m.body := by
  unfold tagM
  split <;> rfl
theorem turned_at {l : List UInt8} {j : Nat} (hj : j < l.length) : ∃ u, l[j]? = some u ∧ ∀ b, (l.set j (u ^^^ b) = l ↔ b = 0) := by
  refine ⟨l[j], List.getElem?_eq_getElem hj, fun b => ?_⟩
  have := turned_eq hj b
  unfold turned at this
  rwa [List.getD_eq_getElem?_getD, List.getElem?_eq_getElem hj, Option.getD_some] at this
theorem zero_byte (b : UInt8) : b = 0 ↔ ((b.toNat : Int) == 0) = true := by
  rw [beq_iff_eq, ← UInt8.toNat_inj]
  simp
open Classical in
theorem tags_any (m : MMsg) (a b : UInt8) (w : World) (hm : m.Wf) (hq : Prs w m.body.qa m.body.qs) (hk : KIs w) (h0 : 0 < w.heap.size) :
    Calls Tryz.prog 7 #[.agg (msgC m).toArray, .int .u8 (a.toNat : Int), .int .u8 (b.toNat : Int)] w fun E w' => E = .returned (.bool true) ∧ Below w.heap.size w w' := by
  have K : ∀ {W}, Below w.heap.size w W → KIs W ∧ 0 < W.heap.size := fun h => ⟨hk.below h h0, Nat.lt_of_lt_of_le h0 h.size⟩
  have HW : Hid (∀ W, Below w.heap.size w W → Calls Tryz.prog 11 #[] W fun E w' => E = .returned (.bool true) ∧ Hid (Below W.heap.size W w')) := Lib.hid fun W h => works_any W (K h).1 (K h).2
  have HF0 : Hid (∀ W, Below w.heap.size w W → Calls Tryz.prog 10 #[.agg (msgC m).toArray] W fun E w' => (∃ z, E = .returned (.bool z) ∧ (z = true → m.body.qs.length ≤ 40)) ∧ Hid (Below W.heap.size W w')) := Lib.hid fun W _ => few_any m W hm
  have hx := tagM_wf hm
  have HT : Hid (m.body.qs.length ≤ 40 → ∀ W, Below w.heap.size w W → Calls Tryz.prog 12 #[.agg (msgC m).toArray] W fun E w' => E = .returned (.agg (msgC (tagM m)).toArray) ∧ Hid (Below W.heap.size W w')) := Lib.hid fun hl W h => tagged_any m W hm (hq.below h) (by omega) (K h).1 (K h).2
  have HM : ∀ z, z = decide m.may → Hid (m.body.qs.length ≤ 40 → ∀ W, Below w.heap.size w W → Calls Tryz.prog 13 #[.agg (msgC m).toArray] W fun E w' => E = .returned (.bool z) ∧ Hid (Below W.heap.size W w')) := fun z hz => Lib.hid fun hl W h => (may_ms m W hm (hq.below h) (by omega)).mono fun _ _ hE => ⟨hE.1.trans (ret_bool hz.symm), hE.2⟩
  have HR : ∀ (x : MMsg) (z : Bool), x.Wf → x.body = m.body → z = decide x.right → Hid (m.body.qs.length ≤ 40 → ∀ W, Below w.heap.size w W → Calls Tryz.prog 19 #[.agg (msgC x).toArray] W fun E w' => E = .returned (.bool z) ∧ Hid (Below W.heap.size W w')) := fun x z hx hb hz => Lib.hid fun hl W h => (right_ms x W hx (by rw [hb]; exact hq.below h) (by rw [hb]; omega) (K h).1 (K h).2).mono fun _ _ hE => ⟨hE.1.trans (ret_bool hz.symm), hE.2⟩
  by_cases hmay : m.may
  case neg =>
    have e : tagM m = m := by rw [tagM, if_neg hmay]
    have hr : false = decide m.right := (decide_eq_false fun h => hmay h.1).symm
    exact tags_no m (tagM m) a b w hm hx HT (HM false (decide_eq_false hmay).symm) (HR m false hm rfl hr) (HR (tagM m) false hx (tagM_body m) (by rw [e]; exact hr)) HF0 HW
  have e : tagM m = { m with tag := numTag m.origin m.number (msgB m) } := by rw [tagM, if_pos hmay]
  have hj : a.toNat % 32 < 32 := Nat.mod_lt _ (by decide)
  obtain ⟨u, hu, hub⟩ := turned_at (l := (tagM m).tag) (j := a.toNat % 32) (by rw [hx.2.2]; exact hj)
  have hqt : (signR m.body.req).tag.length = 32 := by
    unfold signR
    split
    · exact tagReq_len _
    · exact hm.2.1.1
  obtain ⟨v, hv, hvb⟩ := turned_at (l := (signR m.body.req).tag) (j := a.toNat % 32) (by rw [hqt]; exact hj)
  have hy : ({ tagM m with tag := (tagM m).tag.set (a.toNat % 32) (u ^^^ b) } : MMsg).Wf := ⟨hx.1, hx.2.1, by simp [hx.2.2]⟩
  have hxr : (tagM m).right := by rw [e]; exact ⟨hmay, rfl⟩
  have hyr : ((b.toNat : Int) == 0) = decide ({ tagM m with tag := (tagM m).tag.set (a.toNat % 32) (u ^^^ b) } : MMsg).right := by
    rw [Bool.eq_iff_iff, ← zero_byte, ← hub b, decide_eq_true_iff]
    have e2 : (tagM m).tag = numTag (tagM m).origin (tagM m).number (msgB (tagM m)) := hxr.2
    exact ⟨fun h => ⟨hxr.1, h.trans e2⟩, fun h => h.2.trans e2.symm⟩
  have hja : (a.toNat : Int) % 32 = ((a.toNat % 32 : Nat) : Int) := by omega
  have HS : Hid (m.body.qs.length ≤ 40 → ∀ W, Below w.heap.size w W → Calls Tryz.prog 29 #[.agg (reqC m.body.req).toArray] W fun E w' => E = .returned (.agg (reqC (signR m.body.req)).toArray) ∧ Hid (Below W.heap.size W w')) := Lib.hid fun _ W h => signed_ms m.body.req W hm.2.1.1 (K h).1 (K h).2
  have hqm : reqMay (signR m.body.req) = reqMay m.body.req := by
    unfold signR
    split <;> rfl
  have HA : Hid (m.body.qs.length ≤ 40 → ∀ W, Below w.heap.size w W → Calls Tryz.prog 27 #[.agg (reqC (signR m.body.req)).toArray] W fun E w' => E = .returned (.bool (reqMay m.body.req)) ∧ Hid (Below W.heap.size W w')) := Lib.hid fun _ W _ => (asked_ms _ W).mono fun _ _ hE => ⟨by rw [hE.1, hqm], Lib.hid hE.2⟩
  cases hz : reqMay m.body.req with
  | false =>
    rw [hz] at HA
    exact tags_false m (tagM m) _ (signR m.body.req) { signR m.body.req with tag := (signR m.body.req).tag.set (a.toNat % 32) (v ^^^ b) } a b u v (u ^^^ b) (v ^^^ b) (a.toNat % 32) ((b.toNat : Int) == 0) w hm hx hy hqt hja hj hu hv rfl (Lib.hid rfl) (Lib.hid rfl) rfl rfl HT (HM true (decide_eq_true hmay).symm) (HR (tagM m) true hx (tagM_body m) (decide_eq_true hxr).symm) (HR _ _ hy (tagM_body m) hyr) HS HA HF0 HW
  | true =>
    rw [hz] at HA
    have es : signR m.body.req = { m.body.req with tag := tagReq m.body.req } := by rw [signR, if_pos hz]
    have et : (signR m.body.req).tag = tagReq (signR m.body.req) := by rw [es]; rfl
    have hp : ({ signR m.body.req with tag := (signR m.body.req).tag.set (a.toNat % 32) (v ^^^ b) } : MReq).tag.length = 32 := by simp [hqt]
    have hau : authR (signR m.body.req) = true := by rw [authR, hqm, hz, ← et]; simp
    have hav : authR { signR m.body.req with tag := (signR m.body.req).tag.set (a.toNat % 32) (v ^^^ b) } = ((b.toNat : Int) == 0) := by
      rw [Bool.eq_iff_iff, ← zero_byte, ← hvb b, authR, Bool.and_eq_true, decide_eq_true_iff]
      exact ⟨fun h => h.2.trans et.symm, fun h => ⟨hqm.trans hz, h.trans et⟩⟩
    exact tags_true m (tagM m) _ (signR m.body.req) _ a b u v (u ^^^ b) (v ^^^ b) (a.toNat % 32) ((b.toNat : Int) == 0) w hm hx hy hqt hp hja hj hu hv rfl (Lib.hid rfl) (Lib.hid rfl) rfl rfl HT (HM true (decide_eq_true hmay).symm) (HR (tagM m) true hx (tagM_body m) (decide_eq_true hxr).symm) (HR _ _ hy (tagM_body m) hyr) HS HA
      (Lib.hid fun _ W h => (authentic_ms _ W hqt (K h).1 (K h).2).mono fun _ _ hE => ⟨by rw [hE.1, hau], hE.2⟩) (Lib.hid fun _ W h => (authentic_ms _ W hp (K h).1 (K h).2).mono fun _ _ hE => ⟨by rw [hE.1, hav], hE.2⟩) HF0 HW
theorem tags_in (W : World) (hk : KIs W) (h0 : 0 < W.heap.size) (v : Value) (h : ∃ m : MMsg, v = .agg (msgC m).toArray ∧ m.Wf ∧ Prs W m.body.qa m.body.qs) (a : Int) (ha : (Lit.int .u8 a).wf = true) (b : Int) (hb : (Lit.int .u8 b).wf = true) :
    Calls Tryz.prog 7 #[v, .int .u8 a, .int .u8 b] W fun E w' => E = .returned (.bool true) ∧ Below W.heap.size W w' := by
  obtain ⟨m, rfl, hm, hq⟩ := h
  rw [u8_of_wf ha, u8_of_wf hb]
  exact tags_any m (UInt8.ofNat a.toNat) (UInt8.ofNat b.toNat) W hm hq hk h0
end Go.Proofs.YtghjogneogkpoaaGreatDoor.Sh
