/-
  What is proved: what the document's Read answers. Conditions as stated.
-/
import Derived.Test.YthbbghkefekhfaaEb
namespace Go.Proofs.Ythbbghkefekhfaa
open Go.RowKit

theorem rc_lost {p : Int × List UInt8 × Bool} (h : p.2.1.length = 128) : (rcells p)[129]? = some (.bool p.2.2) := by
  unfold rcells
  rw [List.getElem?_cons_succ, List.getElem?_append_right (by rw [u8s_length]; omega), u8s_length, h]
  rfl
theorem rc_bytes {p : Int × List UInt8 × Bool} (j : Nat) (v : Value) (hv : (u8s p.2.1)[j]? = some v) : (rcells p)[1 + j]? = some v := by
  unfold rcells
  rw [Nat.add_comm, List.getElem?_cons_succ, List.getElem?_append_left (List.getElem?_eq_some_iff.1 hv).1]
  exact hv
theorem row_read {w w1 : World} {V : Value} {n : Nat} {l : List (Int × List UInt8 × Bool)} (h : w.ownsRow 0 68 130 V n (l.flatMap rcells)) (hb : Below w.heap.size w w1) {A : Option Addr} {c : Nat} (hV : V = .slice A n c) :
    0 < n → ∃ g, A = some ⟨g, 0, none⟩ ∧ g < w1.heap.size ∧ w1.rangeAt g 0 (l.flatMap rcells) := by
  intro hn
  rcases h.2 with ⟨_, e⟩ | ⟨g, cap, cur, e, _, hg, _⟩
  · omega
  · have hlt := (Array.getElem?_eq_some_iff.1 hg).1
    rw [hV] at e
    injection e with e
    refine ⟨g, e, Nat.lt_of_lt_of_le hlt hb.size, fun j u hu => ?_⟩
    have := h.cells (g := g) (by rw [hV, e]; simp [Value.ownBlock]) j u hu
    rw [Addr.add_mid] at this
    exact (hb.cell (p := ⟨g, 0 + j, none⟩) hlt).trans this
theorem lastOf_len {l : List (Int × List UInt8 × Bool)} (h : ∀ p ∈ l, p.2.1.length = 128) (x : Int) : (lastOf l x).2.1.length = 128 := by
  have key : ∀ (l : List (Int × List UInt8 × Bool)) q, (∀ p ∈ l, p.2.1.length = 128) → look l x = some q → q.1.length = 128 := by
    intro l
    induction l with
    | nil => intro q _ h; cases h
    | cons p r ih =>
      intro q hl h
      rw [look] at h
      cases hr : look r x with
      | some q' => rw [hr] at h; injection h with h; subst h; exact ih _ (fun p hp => hl p (by simp [hp])) hr
      | none =>
        rw [hr] at h
        simp only at h
        split at h
        · injection h with h; subst h; exact hl p (by simp)
        · cases h
  unfold lastOf
  cases hq : look l x with
  | some q => exact key l q h hq
  | none => rfl
theorem soft_len {l : List (Int × List UInt8)} (h : ∀ p ∈ l, p.2.length = 128) : ∀ p ∈ l.map softW, p.2.1.length = 128 := fun p hp => by
  obtain ⟨q, hq, rfl⟩ := List.mem_map.1 hp
  exact h q hq

theorem keep3 {w wA w2 w3 : World} {Z Y : Obj} (h4 : wA.heap[w.heap.size]? = some Z) (h1 : Below w.heap.size w wA) (hs : w.heap.size < wA.heap.size) (h2 : Below wA.heap.size wA w2) (hg : (w2.alloc Y).grownBy w3 (some w2.heap.size)) :
    w3.heap[w.heap.size]? = some Z ∧ Below w.heap.size w w3 := by
  have hs2 := h2.size
  refine ⟨?_, below_gb ((h1.trans (h2.mono h1.size)).alloc (by omega) Y) hg (by omega) (by simp; omega)⟩
  rw [hg.block _ (by simp; omega) (fun e => by injection e with e; omega), heap_alloc_old _ _ (by omega), h2.block _ hs]
  exact h4
theorem keepA {wA w2 w3 : World} {Y : Obj} (h2 : Below wA.heap.size wA w2) (hg : (w2.alloc Y).grownBy w3 (some w2.heap.size)) : Below wA.heap.size wA w3 :=
  below_gb (h2.alloc h2.size Y) hg h2.size (Nat.le_trans h2.size (by simp))

set_option maxHeartbeats 4000000 in
set_option maxRecDepth 100000 in
theorem refRead_any {w : World} {S : Nat → Prop} {r T : Nat} {s : Dk} (h : RefIs w S r T s) (x : Int) (hT : T < 1000000000) : Calls Try.prog 13 #[.pointer (some ⟨r, 0, none⟩), .int .i64 x] w fun E w' =>
    E = .returned (.tuple #[.agg (u8s (s.read x).1).toArray, .int .i64 (s.read x).2]) ∧ Below w.heap.size w w' := by
  have HA := h.turns ((Turns.refl (fun _ => False) w).alloc (.cells (u8s zeros).toArray 33)) (fun _ _ h => h)
  obtain ⟨fz, V1, V2, sl, h1⟩ := HA
  obtain ⟨A1, ca1, rfl, hs1⟩ := row_shape h1.row1
  obtain ⟨A2, ca2, rfl, hs2⟩ := row_shape h1.row2
  obtain ⟨c0, c1, c2, c3⟩ := h1.cells
  have HR := Lib.hid h1
  obtain ⟨Z, hZ⟩ : ∃ Z, Z = zeros := ⟨_, rfl⟩
  have lZ : Z.length = 128 := by rw [hZ]; rfl
  have UZ : Hid ((u8s Z).length = 128) := Lib.hid (by rw [u8s_length, lZ])
  have hz : ∀ w, (zeroValue 33).run Try.prog w = .ok (.agg (u8s Z).toArray) w := by rw [hZ]; exact zero33
  have hbz : ∀ w, (Instr.build 33 #[]).run Try.prog w = .ok (.agg (u8s Z).toArray) w := by rw [hZ]; exact build33
  obtain ⟨Y, hY⟩ : ∃ Y, Y = rcells noW := ⟨_, rfl⟩
  have hzY : ∀ w, (zeroValue 68).run Try.prog w = .ok (.agg Y.toArray) w := by rw [hY]; exact zero68
  have UY : Hid (Y.length = 130) := Lib.hid (by rw [hY]; rfl)
  have HZ := Lib.hid hZ
  have HYY := Lib.hid hY
  have HY1 : Hid (∀ v ∈ Y, v.oneCell' = true) := Lib.hid (by rw [hY]; exact rcells_one _)
  rw [← hZ] at c0 c1 c2 c3 HR
  have H4 := Lib.hid (row_new w (u8s Z) 33)
  have HB1 : Hid (Below w.heap.size w (w.alloc (.cells (u8s Z).toArray 33))) := Lib.hid ((Below.refl _ _).alloc (Nat.le_refl _) _)
  clear h h1 hZ hY lZ c3
  by_cases ho : s.off = true
  · have hrd : s.read x = (Z, 8) := by rw [HZ.out]; unfold Dk.read Dk.refuses; rw [ho]; rfl
    rw [hrd]
    rw [ho] at c2
    clear hrd
    go_enter Try.func13, Try.ntmps13
    go_wp2_with (first
      | (refine wpList_store_all rfl 33 (.tmp 4) (.tmp 12) rfl w.heap.size (u8s Z) (u8s Z) 33 H4.out rfl rfl rfl (by rw [UZ.out]; exact Try.size33) (u8s_one _) ?_; intro w5 G5))
    exact bodyPost_ret (ret_pair (cs := u8s Z) rfl rfl rfl (range_block G5.out.1 0 _ (fun j v hv => by rw [Nat.zero_add]; exact hv)) Try.underlying33 rfl (by rw [UZ.out]; exact Try.size33)) rfl ⟨rfl, below_gb HB1.out G5.out.2 (Nat.le_refl _) HB1.out.size⟩
  have ho' : s.off = false := by simpa using ho
  rw [ho'] at c2
  by_cases hx : x < 0 ∨ 32768 ≤ x
  · have hr1 : s.refuses x = 1 := by
      unfold Dk.refuses
      rw [ho']
      simp only [Bool.false_eq_true, if_false]
      rw [if_pos hx]
    have hrd : s.read x = (Z, 1) := by rw [HZ.out]; unfold Dk.read; rw [if_pos (by rw [hr1]; simp), hr1]
    rw [hrd]
    clear hrd hr1
    by_cases hx0 : x < 0
    all_goals
      go_enter Try.func13, Try.ntmps13
      go_wp2_with (first
        | (refine wpList_store_all rfl 33 (.tmp 4) (.tmp 19) rfl w.heap.size (u8s Z) (u8s Z) 33 H4.out rfl rfl rfl (by rw [UZ.out]; exact Try.size33) (u8s_one _) ?_; intro w5 G5))
      exact bodyPost_ret (ret_pair (cs := u8s Z) rfl rfl rfl (range_block G5.out.1 0 _ (fun j v hv => by rw [Nat.zero_add]; exact hv)) Try.underlying33 rfl (by rw [UZ.out]; exact Try.size33)) rfl ⟨rfl, below_gb HB1.out G5.out.2 (Nat.le_refl _) HB1.out.size⟩
  have hrd : s.read x = match lastW s.loose x with
      | some b => (b, 0)
      | none => match s.sure x with
        | some b => (b, 0)
        | none => (Z, 9) := by
    have hr0 : s.refuses x = 0 := by
      unfold Dk.refuses
      rw [ho']
      simp only [Bool.false_eq_true, if_false]
      rw [if_neg hx]
    rw [HZ.out]
    unfold Dk.read
    rw [if_neg (by rw [hr0]; simp)]
    rfl
  have hsu := HR.out.sure x
  have hlo := look_soft x s.loose
  have L2 := Lib.hid (last_any (w := w.alloc (.cells (u8s Z).toArray 33)) A2 s.loose.length ca2 (s.loose.map softW) (by simp) (soft_len HR.out.len) (row_read HR.out.row2 (Below.refl _ _) rfl) hs2 x (by have := HR.out.many; omega))
  have L1 : Hid (∀ w3, Below (w.alloc (.cells (u8s Z).toArray 33)).heap.size (w.alloc (.cells (u8s Z).toArray 33)) w3 → Calls Try.prog 27 #[.slice A1 sl.length ca1, .int .i64 x] w3 fun E w' => E = .returned (.tuple #[.agg (rcells (lastOf sl x)).toArray, .bool (look sl x).isSome]) ∧ Below w3.heap.size w3 w') := Lib.hid (fun w3 hb =>
    last_any (w := w3) A1 sl.length ca1 sl rfl HR.out.slen (row_read HR.out.row1 hb rfl) hs1 x (by have := HR.out.many; omega))
  have hl1 := lastOf_len HR.out.slen x
  have hl2 := lastOf_len (soft_len HR.out.len) x
  have c0' := Lib.hid c0
  have HLT : Hid (r < (w.alloc (.cells (u8s Z).toArray 33)).heap.size) := Lib.hid (HR.out.lt r (HR.out.own r (.inl rfl)))
  rw [not_or] at hx
  obtain ⟨hxa, hxb⟩ := hx
  generalize hwA : w.alloc (.cells (u8s Z).toArray 33) = wA at *
  have HSA : Hid (w.heap.size < wA.heap.size) := Lib.hid (Array.getElem?_eq_some_iff.1 H4.out).1
  cases hlw : lastW s.loose x with
  | some b =>
    rw [hlw] at hrd hlo
    simp only [Option.map_some] at hlo
    have e1 : lastOf (s.loose.map softW) x = (x, b, false) := by unfold lastOf; rw [hlo]
    rw [e1, hlo] at L2
    rw [e1] at hl2
    have HRD := Lib.hid hrd
    have LB := Lib.hid hl2
    have UB : Hid ((u8s b).length = 128) := Lib.hid (by rw [u8s_length]; exact hl2)
    have UW : Hid ((rcells (x, b, false)).length = 130) := Lib.hid (rcells_length hl2)
    obtain ⟨W, hW⟩ : ∃ W, W = rcells (x, b, false) := ⟨_, rfl⟩
    rw [← hW] at L2 UW
    have HW := Lib.hid hW
    have HW1 : Hid (∀ v ∈ W, v.oneCell' = true) := Lib.hid (by rw [hW]; exact rcells_one _)
    clear hlw hlo hrd e1 hl1 hl2 hsu hW L1
    go_enter Try.func13, Try.ntmps13
    go_wp2_with fail
    refine L2.out.mono ?_
    rintro E w2 ⟨rfl, hb2⟩
    have HB2 := Lib.hid hb2
    clear hb2
    go_wp2_with (first
      | (refine wpList_store_all rfl 68 (.tmp 6) (.tmp 27) rfl w2.heap.size Y W 68 (row_new w2 Y 68) (UY.out.trans UW.out.symm) rfl rfl (by rw [UW.out]; exact Try.size68) HW1.out ?_; intro w3 G3; have cl : w3.cell? ⟨w2.heap.size, 129, none⟩ = some (.bool false) := block_cell G3.out.1 129 _ (by rw [HW.out]; exact rc_lost LB.out); have H43 : Hid (w3.heap[w.heap.size]? = some (.cells (u8s Z).toArray 33 (0, 0)) ∧ Below w.heap.size w w3) := Lib.hid (keep3 H4.out HB1.out HSA.out HB2.out G3.out.2))
      | (refine wpList_load_mid rfl 33 (.tmp 43) rfl w2.heap.size 1 rfl (u8s b) _ (range_block G3.out.1 1 _ (fun j v hv => by rw [HW.out]; exact rc_bytes (p := (x, b, false)) j v hv)) Try.underlying33 rfl (by rw [UB.out]; exact Try.size33) ?_)
      | (refine wpList_store_all rfl 33 (.tmp 4) (.tmp 44) rfl w.heap.size (u8s Z) (u8s b) 33 H43.out.1 (UZ.out.trans UB.out.symm) rfl rfl (by rw [UB.out]; exact Try.size33) (u8s_one _) ?_; intro w6 G6; have HBX := Lib.hid H43.out.2))
    exact bodyPost_ret (ret_pair (cs := u8s b) rfl rfl rfl (range_block G6.out.1 0 _ (fun j v hv => by rw [Nat.zero_add]; exact hv)) Try.underlying33 rfl (by rw [UB.out]; exact Try.size33)) rfl ⟨by rw [HRD.out]; rfl, below_gb HBX.out G6.out.2 (Nat.le_refl _) HBX.out.size⟩
  | none =>
    rw [hlw] at hrd hlo
    simp only [Option.map_none] at hlo
    simp only at hrd
    have e1 : lastOf (s.loose.map softW) x = noW := by unfold lastOf; rw [hlo]
    rw [e1, hlo, ← HYY.out] at L2
    obtain ⟨a, b, lst, hab, hsure, his⟩ : ∃ a b lst, lastOf sl x = (a, b, lst) ∧ s.sure x = (if lst then none else some b) ∧ True := by
      rw [hsu]
      unfold lastOf
      cases hq : look sl x with
      | none => exact ⟨0, zeros, false, rfl, rfl, trivial⟩
      | some q => exact ⟨x, q.1, q.2, rfl, rfl, trivial⟩
    rw [hsure] at hrd
    rw [hab] at L1 hl1
    have LB := Lib.hid hl1
    obtain ⟨V, hV⟩ : ∃ V, V = rcells (a, b, lst) := ⟨_, rfl⟩
    rw [← hV] at L1
    have HV := Lib.hid hV
    generalize (look sl x).isSome = isb at L1
    clear hlw hlo e1 hl1 hl2 hsu hV hab hsure his
    cases lst
    · simp only [Bool.false_eq_true, if_false] at hrd
      have HRD := Lib.hid hrd
      clear hrd
      have UB : Hid ((u8s b).length = 128) := Lib.hid (by rw [u8s_length]; exact LB.out)
      have UV : Hid (V.length = 130) := Lib.hid (by rw [HV.out]; exact rcells_length LB.out)
      have HV1 : Hid (∀ v ∈ V, v.oneCell' = true) := Lib.hid (by rw [HV.out]; exact rcells_one _)
      go_enter Try.func13, Try.ntmps13
      go_wp2_with fail
      refine L2.out.mono ?_
      rintro E w2 ⟨rfl, hb2⟩
      have HB2 := Lib.hid hb2
      clear hb2
      go_wp2_with (first
        | (refine wpList_store_all rfl 68 (.tmp 6) (.tmp 27) rfl w2.heap.size Y Y 68 (row_new w2 Y 68) rfl rfl rfl (by rw [UY.out]; exact Try.size68) HY1.out ?_; intro w3 G3; have H43 : Hid (w3.heap[w.heap.size]? = some (.cells (u8s Z).toArray 33 (0, 0)) ∧ Below w.heap.size w w3) := Lib.hid (keep3 H4.out HB1.out HSA.out HB2.out G3.out.2); have HBA := Lib.hid (keepA HB2.out G3.out.2); have c03 := (HBA.out.cell (p := ⟨r, 0, none⟩) HLT.out).trans c0'.out))
      refine (L1.out w3 HBA.out).mono ?_
      rintro E w4 ⟨rfl, hb4⟩
      have H44 : Hid (w4.heap[w.heap.size]? = some (.cells (u8s Z).toArray 33 (0, 0)) ∧ Below w.heap.size w w4 ∧ w4.heap[w2.heap.size]? = some (.cells Y.toArray 68 (0, 0))) := Lib.hid ⟨(hb4.block _ (Array.getElem?_eq_some_iff.1 H43.out.1).1).trans H43.out.1, H43.out.2.trans (hb4.mono H43.out.2.size), (hb4.block _ (Array.getElem?_eq_some_iff.1 G3.out.1).1).trans G3.out.1⟩
      have HNE : Hid (w.heap.size < w2.heap.size) := Lib.hid (Nat.lt_of_lt_of_le HSA.out HB2.out.size)
      clear hb4 c03
      go_wp2_with (first
        | (refine wpList_store_all rfl 68 (.tmp 6) (.tmp 38) rfl w2.heap.size Y V 68 H44.out.2.2 (UY.out.trans UV.out.symm) rfl rfl (by rw [UV.out]; exact Try.size68) HV1.out ?_; intro w5 G5; have cl : w5.cell? ⟨w2.heap.size, 129, none⟩ = some (.bool false) := block_cell G5.out.1 129 _ (by rw [HV.out]; exact rc_lost LB.out); have H45 : Hid (w5.heap[w.heap.size]? = some (.cells (u8s Z).toArray 33 (0, 0)) ∧ Below w.heap.size w w5) := Lib.hid ⟨(G5.out.2.block _ (Array.getElem?_eq_some_iff.1 H44.out.1).1 (fun e => by injection e with e; have := HNE.out; omega)).trans H44.out.1, below_gb H44.out.2.1 G5.out.2 (Nat.le_of_lt HNE.out) H44.out.2.1.size⟩)
        | (refine wpList_load_mid rfl 33 (.tmp 43) rfl w2.heap.size 1 rfl (u8s b) _ (range_block G5.out.1 1 _ (fun j v hv => by rw [HV.out]; exact rc_bytes (p := (a, b, false)) j v hv)) Try.underlying33 rfl (by rw [UB.out]; exact Try.size33) ?_)
        | (refine wpList_store_all rfl 33 (.tmp 4) (.tmp 44) rfl w.heap.size (u8s Z) (u8s b) 33 H45.out.1 (UZ.out.trans UB.out.symm) rfl rfl (by rw [UB.out]; exact Try.size33) (u8s_one _) ?_; intro w6 G6; have HBX := Lib.hid H45.out.2))
      exact bodyPost_ret (ret_pair (cs := u8s b) rfl rfl rfl (range_block G6.out.1 0 _ (fun j v hv => by rw [Nat.zero_add]; exact hv)) Try.underlying33 rfl (by rw [UB.out]; exact Try.size33)) rfl ⟨by rw [HRD.out]; rfl, below_gb HBX.out G6.out.2 (Nat.le_refl _) HBX.out.size⟩
    · simp only [if_true] at hrd
      have HRD := Lib.hid hrd
      clear hrd
      have UB : Hid ((u8s b).length = 128) := Lib.hid (by rw [u8s_length]; exact LB.out)
      have UV : Hid (V.length = 130) := Lib.hid (by rw [HV.out]; exact rcells_length LB.out)
      have HV1 : Hid (∀ v ∈ V, v.oneCell' = true) := Lib.hid (by rw [HV.out]; exact rcells_one _)
      go_enter Try.func13, Try.ntmps13
      go_wp2_with fail
      refine L2.out.mono ?_
      rintro E w2 ⟨rfl, hb2⟩
      have HB2 := Lib.hid hb2
      clear hb2
      go_wp2_with (first
        | (refine wpList_store_all rfl 68 (.tmp 6) (.tmp 27) rfl w2.heap.size Y Y 68 (row_new w2 Y 68) rfl rfl rfl (by rw [UY.out]; exact Try.size68) HY1.out ?_; intro w3 G3; have H43 : Hid (w3.heap[w.heap.size]? = some (.cells (u8s Z).toArray 33 (0, 0)) ∧ Below w.heap.size w w3) := Lib.hid (keep3 H4.out HB1.out HSA.out HB2.out G3.out.2); have HBA := Lib.hid (keepA HB2.out G3.out.2); have c03 := (HBA.out.cell (p := ⟨r, 0, none⟩) HLT.out).trans c0'.out))
      refine (L1.out w3 HBA.out).mono ?_
      rintro E w4 ⟨rfl, hb4⟩
      have H44 : Hid (w4.heap[w.heap.size]? = some (.cells (u8s Z).toArray 33 (0, 0)) ∧ Below w.heap.size w w4 ∧ w4.heap[w2.heap.size]? = some (.cells Y.toArray 68 (0, 0))) := Lib.hid ⟨(hb4.block _ (Array.getElem?_eq_some_iff.1 H43.out.1).1).trans H43.out.1, H43.out.2.trans (hb4.mono H43.out.2.size), (hb4.block _ (Array.getElem?_eq_some_iff.1 G3.out.1).1).trans G3.out.1⟩
      have HNE : Hid (w.heap.size < w2.heap.size) := Lib.hid (Nat.lt_of_lt_of_le HSA.out HB2.out.size)
      clear hb4 c03
      go_wp2_with (first
        | (refine wpList_store_all rfl 68 (.tmp 6) (.tmp 38) rfl w2.heap.size Y V 68 H44.out.2.2 (UY.out.trans UV.out.symm) rfl rfl (by rw [UV.out]; exact Try.size68) HV1.out ?_; intro w5 G5; have cl : w5.cell? ⟨w2.heap.size, 129, none⟩ = some (.bool true) := block_cell G5.out.1 129 _ (by rw [HV.out]; exact rc_lost LB.out); have H45 : Hid (w5.heap[w.heap.size]? = some (.cells (u8s Z).toArray 33 (0, 0)) ∧ Below w.heap.size w w5) := Lib.hid ⟨(G5.out.2.block _ (Array.getElem?_eq_some_iff.1 H44.out.1).1 (fun e => by injection e with e; have := HNE.out; omega)).trans H44.out.1, below_gb H44.out.2.1 G5.out.2 (Nat.le_of_lt HNE.out) H44.out.2.1.size⟩)
        | (refine wpList_store_all rfl 33 (.tmp 4) (.tmp 42) rfl w.heap.size (u8s Z) (u8s Z) 33 H45.out.1 rfl rfl rfl (by rw [UZ.out]; exact Try.size33) (u8s_one _) ?_; intro w6 G6; have HBX := Lib.hid H45.out.2))
      exact bodyPost_ret (ret_pair (cs := u8s Z) rfl rfl rfl (range_block G6.out.1 0 _ (fun j v hv => by rw [Nat.zero_add]; exact hv)) Try.underlying33 rfl (by rw [UZ.out]; exact Try.size33)) rfl ⟨by rw [HRD.out]; rfl, below_gb HBX.out G6.out.2 (Nat.le_refl _) HBX.out.size⟩
end Go.Proofs.Ythbbghkefekhfaa
