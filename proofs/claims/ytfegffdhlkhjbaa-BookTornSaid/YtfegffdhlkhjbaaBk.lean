/-
  What is proved: one page of a record is made. Conditions as stated.
-/
import Derived.Test.YtfegffdhlkhjbaaBj
namespace Go.Proofs.Ytfegffdhlkhjbaa
open Go.RowKit
set_option maxRecDepth 100000

theorem Try.size29 : (Try.prog.info? 29).map (·.size) = some 1 := by kernel_rfl
theorem Try.size92 : (Try.prog.info? 92).map (·.size) = some 1 := by kernel_rfl
theorem splice_page (hd pt : List UInt8) (h1 : hd.length = 20) (h2 : pt.length ≤ 108) : splice (splice (u8s zeros) 0 (u8s hd)) 20 (u8s pt) = u8s (hd ++ (pt ++ List.replicate (108 - pt.length) 0)) := by
  have e1 : splice (u8s zeros) 0 (u8s hd) = u8s hd ++ u8s (List.replicate 108 0) := by
    simp only [splice, List.take_zero, List.nil_append, u8s_length, h1, Nat.zero_add]
    rfl
  have h3 : (u8s hd).length = 20 := by rw [u8s_length, h1]
  rw [e1]
  simp only [splice]
  rw [List.take_append_of_le_length (by omega), List.take_of_length_le (by omega), List.drop_append, h3, List.drop_of_length_le (by rw [h3]; omega), List.nil_append, u8s_length,
    show 20 + pt.length - 20 = pt.length by omega]
  simp only [u8s, List.map_append, List.map_replicate, List.drop_replicate]

set_option maxHeartbeats 16000000 in
theorem pager_b (l n k p q2 q5 m c j : Nat) (A : Option Addr) (rest : List UInt8) (w : World) (h2 : w.heap[q2]? = some (.cells (headV (l, n, k, p)).toArray 94 (0, 0))) (h5 : w.heap[q5]? = some (.cells #[.slice A m c] 29 (0, 0)))
    (hr : Oct.Rd w A m rest) (hs : Oct.Sl A m c) (hk : k < 65535) (hm : m ≤ 5000) (hj : j = min 108 m) :
    Calls Try.prog 67 #[.pointer (some ⟨q2, 0, none⟩), .pointer (some ⟨q5, 0, none⟩)] w fun E w' => E = .returned (.agg (u8s (headB l n k p ++ (rest.take 108 ++ List.replicate (108 - (rest.take 108).length) 0))).toArray) ∧ Turns (fun b => b = q2 ∨ b = q5) w w' ∧
      w'.heap[q2]? = some (.cells (headV (l, n, k + 1, p)).toArray 94 (0, 0)) ∧ w'.heap[q5]? = some (.cells #[.slice (if c = j then A else A.map (·.add j)) (m - j) (c - j)] 29 (0, 0)) := by
  have HNE : Hid (q2 ≠ q5) := Lib.hid fun e => by
    subst e
    rw [h2] at h5
    injection h5 with h5
    injection h5 with _ h5
    exact absurd h5 (by decide)
  have HL2 : Hid (q2 < w.heap.size) := Lib.hid (Array.getElem?_eq_some_iff.1 h2).1
  have HL5 : Hid (q5 < w.heap.size) := Lib.hid (Array.getElem?_eq_some_iff.1 h5).1
  have HC2 : Hid (∀ W : World, Below w.heap.size w W → W.heap[q2]? = some (.cells (headV (l, n, k, p)).toArray 94 (0, 0))) := Lib.hid fun W hb => (hb.block _ HL2.out).trans h2
  have HC5 : Hid (∀ W : World, Below w.heap.size w W → W.heap[q5]? = some (.cells [.slice A m c].toArray 29 (0, 0))) := Lib.hid fun W hb => (hb.block _ HL5.out).trans h5
  obtain ⟨pt, hpt⟩ : ∃ pt, pt = rest.take 108 := ⟨_, rfl⟩
  have hrl : rest.length = m := hr.1
  have hpl : pt.length = j := by rw [hpt, List.length_take, hj, hrl]
  have UP : Hid ((u8s pt).length = j) := Lib.hid (by rw [u8s_length, hpl])
  have HPS : Hid (∀ W : World, Below w.heap.size w W → 0 < (u8s pt).length → ∃ ad, A = some ad ∧ ∀ i v, (u8s pt)[i]? = some v → W.cell? (ad.add i) = some v) := Lib.hid fun W hb hp => by
    have hp2 : 0 < (u8s rest).length := by
      rw [u8s_length] at hp ⊢
      omega
    obtain ⟨ad, hA, hc⟩ := hr.src hb hp2
    refine ⟨ad, hA, fun i v hv => hc i v ?_⟩
    have hi : i < pt.length := by have := (List.getElem?_eq_some_iff.1 hv).1; rwa [u8s_length] at this
    rw [hpt] at hv hi
    rw [List.length_take] at hi
    simp only [u8s, List.getElem?_map, List.getElem?_take] at hv ⊢
    rwa [if_pos (by omega)] at hv
  have HJ := Lib.hid hj
  rw [← hpt]
  have hjm : j ≤ m := by omega
  have hj108 : j ≤ 108 := by omega
  obtain ⟨P, hP⟩ : ∃ P, P = u8s (headB l n k p ++ (pt ++ List.replicate (108 - pt.length) 0)) := ⟨_, rfl⟩
  have PL : Hid (P.length = 128) := Lib.hid (by rw [hP, u8s_length]; simp only [List.length_append, headB_length, List.length_replicate]; omega)
  have PO : Hid (∀ v ∈ P, v.oneCell' = true) := Lib.hid (by rw [hP]; exact u8s_one _)
  obtain ⟨Z, hZ⟩ : ∃ Z, Z = u8s zeros := ⟨_, rfl⟩
  have hz : ∀ w, (zeroValue 43).run Try.prog w = .ok (.agg Z.toArray) w := by rw [hZ]; exact zero33
  have ZL : Hid (Z.length = 128) := Lib.hid (by rw [hZ, u8s_length]; rfl)
  obtain ⟨hb, hhb⟩ : ∃ hb, hb = headB l n k p := ⟨_, rfl⟩
  have HHB : Hid (headB l n k p = hb) := Lib.hid hhb.symm
  have HSP : Hid (splice (splice Z 0 (u8s hb)) 20 (u8s pt) = P) := Lib.hid (by rw [hZ, hP, hhb]; exact splice_page _ _ (headB_length _ _ _ _) (by omega))
  have HLZ : Hid ((splice Z 0 (u8s hb)).length = 128) := Lib.hid (by rw [length_splice _ _ _ (by rw [hhb, u8s_length, headB_length, ZL.out]; omega), ZL.out])
  obtain ⟨q3, hq3⟩ : ∃ q3, q3 = w.heap.size + 1 := ⟨_, rfl⟩
  have HQ3 : Hid (w.heap.size ≤ q3) := Lib.hid (by omega)
  have HQE := Lib.hid hq3
  have hsc := hs.2
  have hs1 := hs.1
  have PU : Hid (u8s (headB l n k p ++ (pt ++ List.replicate (108 - pt.length) 0)) = P) := Lib.hid hP.symm
  rw [PU.out]
  clear hZ hP hhb hq3 h2 h5 hr hpt hrl hpl hs hj PU
  by_cases hcj : c = j
  · subst hcj
    rw [if_pos rfl]
    go_enter Try.func67, Try.ntmps67
    go_wp2_with fail
    try simp only [Act.put, List.setIfInBounds_toArray, List.set_cons_zero, List.set_cons_succ]
    refine wp_region_any (by kernel_rfl) ?_
    change wpAny _ _ _ _ _ _ _ (((w.alloc (.cells Z.toArray 43)).alloc (.cells Z.toArray 43)).drewN 1)
    have B2 : Hid (Below w.heap.size w (((w.alloc (.cells Z.toArray 43)).alloc (.cells Z.toArray 43)).drewN 1)) := Lib.hid ((((Below.refl _ _).alloc (Nat.le_refl _) _).alloc (by simp) _).trans ⟨rfl, rfl, rfl, Nat.le_refl _, fun _ _ => rfl⟩)
    have QB : Hid ((((w.alloc (.cells Z.toArray 43)).alloc (.cells Z.toArray 43)).drewN 1).heap[q3]? = some (.cells Z.toArray 43 (0, 0))) := Lib.hid (by rw [HQE.out]; have := row_new (w.alloc (.cells Z.toArray 43)) Z 43; rw [show (w.alloc (.cells Z.toArray 43)).heap.size = w.heap.size + 1 by simp] at this; exact this)
    have QA : Hid ((((w.alloc (.cells Z.toArray 43)).alloc (.cells Z.toArray 43)).drewN 1).heap[w.heap.size]? = some (.cells Z.toArray 43 (0, 0))) := Lib.hid ((heap_alloc_old (w.alloc (.cells Z.toArray 43)) _ (by simp)).trans (row_new w Z 43))
    rw [← HQE.out]
    generalize ((w.alloc (.cells Z.toArray 43)).alloc (.cells Z.toArray 43)).drewN 1 = w2 at B2 QB QA ⊢
    have HQ2 : Hid (q3 ≤ w2.heap.size) := Lib.hid (Nat.le_of_lt (Array.getElem?_eq_some_iff.1 QB.out).1)
    have HX : Hid (∀ W : World, Below q3 w2 W → Below w.heap.size w W ∧ W.heap[w.heap.size]? = some (.cells Z.toArray 43 (0, 0)) ∧ W.heap[q2]? = some (.cells (headV (l, n, k, p)).toArray 94 (0, 0)) ∧ W.heap[q5]? = some (.cells [.slice A m c].toArray 29 (0, 0))) := Lib.hid fun W hb => by
      have h1 : Below w.heap.size w W := B2.out.trans (hb.mono HQ3.out)
      exact ⟨h1, (hb.block _ (by rw [HQE.out]; omega)).trans QA.out, HC2.out W h1, HC5.out W h1⟩
    refine wpAny_of_held (S := fun W => Below q3 w2 W) _ _ _ _ ?_
    refine wpAnyH_take (i := 0) (oi := { dst := some 4, op := Op.slice 43 (Operand.tmp 3) none none none, type := 29, pos := "book.go:224", after := #[], guard := none }) (v := .slice (some ⟨q3, 0, none⟩) 128 128) rfl (by kernel_rfl) (by kernel_rfl) (by kernel_rfl) (fun _ _ _ h => h) (Or.inl ⟨by kernel_rfl, fun W hSW => by go_simp⟩) (Below.refl _ _) ?_
    simp only [Act.put, List.setIfInBounds_toArray, List.set_cons_zero, List.set_cons_succ]
    refine wpAnyH_take (i := 1) (oi := { dst := some 5, op := Op.load 94 (Operand.tmp 0), type := 94, pos := "book.go:224", after := #[], guard := none }) (v := .agg #[.int .u64 (l : Int), .int .u64 (n : Int), .int .u16 (k : Int), .int .u16 (p : Int)]) rfl (by kernel_rfl) (by kernel_rfl) (by kernel_rfl) (fun _ _ _ h => h) (Or.inl ⟨by kernel_rfl, fun W hSW => by have hq := (HX.out W hSW).2.2.1; have k0 := block_cell hq 0 _ rfl; have k1 := block_cell hq 1 _ rfl; have k2 := block_cell hq 2 _ rfl; have k3 := block_cell hq 3 _ rfl; go_simp⟩) (Below.refl _ _) ?_
    simp only [Act.put, List.setIfInBounds_toArray, List.set_cons_zero, List.set_cons_succ]
    refine wpAnyH_ready (rs := [2]) (by kernel_rfl) (by simp) ?_
    refine AllReadyH.cons (o := { dst := some 6, op := Op.call { callee := Callee.value (Operand.func 68), args := #[Operand.tmp 5], argTypes := #[94] }, type := 29, pos := "book.go:224", after := #[{ on := 1, ground := Ground.data }], guard := none }) rfl (fun K' hK' => ?_) AllReadyH.nil
    go_simp
    go_at_call 68
    refine (bytes_h l n k p w2).mono ?_
    rintro E w3 ⟨A3, c3, rfl, ho3, hb3⟩
    have RD3 := Lib.hid (Oct.Rd.of_own ho3)
    have B3 : Hid (Below q3 w2 w3) := Lib.hid (hb3.mono HQ2.out)
    have Q3 : Hid (w3.heap[q3]? = some (.cells Z.toArray 43 (0, 0))) := Lib.hid ((hb3.block _ (Array.getElem?_eq_some_iff.1 QB.out).1).trans QB.out)
    clear ho3 hb3 B2 QB QA
    refine hK'.out _ _ B3.out (fun _ => ?_)
    clear hK' K'
    refine wpAnyH_ready (rs := [3]) (by kernel_rfl) (by simp) ?_
    refine AllReadyH.cons (o := { dst := some 7, op := Op.call { callee := Callee.builtin Builtin.copy, args := #[Operand.tmp 4, Operand.tmp 6], argTypes := #[29, 29] }, type := 3, pos := "book.go:224", after := #[{ on := 0, ground := Ground.data }, { on := 2, ground := Ground.data }, { on := 2, ground := Ground.chain }], guard := none }) rfl (fun K' hK' => ?_) AllReadyH.nil
    refine step_copy_splice rfl (.tmp 4) (.tmp 6) 29 29 rfl 5 Try.underlying29 Oct.Try.size5 (some ⟨q3, 0, none⟩) A3 128 128 20 c3 rfl rfl q3 0 Z 43 Q3.out (u8s (headB l n k p)) (by rw [u8s_length, headB_length]; rfl) (fun hp => ⟨rfl, RD3.out.src (Below.refl _ w3) hp⟩) (by rw [u8s_length, headB_length, ZL.out]; omega) (u8s_one _) q3 w2 B3.out (Nat.le_refl _) ?_
    intro w4 Q4 b4
    have B4 := Lib.hid b4
    clear b4
    refine hK'.out _ _ B4.out (fun _ => ?_)
    clear hK' K'
    refine wpAnyH_done (by kernel_rfl) ?_ _
    clear B3 Q3 RD3
    rw [u8s_length, headB_length]
    rw [HHB.out] at Q4
    go_wp2_with fail
    try simp only [Act.put, List.setIfInBounds_toArray, List.set_cons_zero, List.set_cons_succ]
    refine wp_region_any (by kernel_rfl) ?_
    change wpAny _ _ _ _ _ _ _ (w4.drewN 1)
    have B5 : Hid (Below q3 w2 (w4.drewN 1)) := Lib.hid (B4.out.trans (c := w4.drewN 1) ⟨rfl, rfl, rfl, Nat.le_refl _, fun _ _ => rfl⟩)
    have Q5 : Hid ((w4.drewN 1).heap[q3]? = some (.cells (splice Z 0 (u8s hb)).toArray 43 (0, 0))) := Lib.hid Q4.out
    clear B4 Q4
    generalize w4.drewN 1 = w5 at B5 Q5 ⊢
    have c55 : w5.cell? ⟨q5, 0, none⟩ = some (.slice A m c) := block_cell (C := [.slice A m c]) (HX.out w5 B5.out).2.2.2 0 _ rfl
    refine wpAny_take (i := 1) (oi := { dst := some 9, op := Op.slice 43 (Operand.tmp 3) (some (Operand.const (Value.int IntKind.i64 20))) none none, type := 29, pos := "book.go:225", after := #[], guard := none }) (v := .slice (some ⟨q3, 20, none⟩) 108 108) rfl (by kernel_rfl) (by kernel_rfl) (by kernel_rfl) (fun _ _ _ h => h) (Or.inl ⟨by kernel_rfl, fun W => by go_simp⟩) ?_
    simp only [Act.put, List.setIfInBounds_toArray, List.set_cons_zero, List.set_cons_succ]
    refine wpAny_ready (rs := [0, 2]) (by kernel_rfl) (by simp) ?_
    refine (AllReady.cons (o := { dst := some 8, op := Op.load 29 (Operand.tmp 1), type := 29, pos := "book.go:225", after := #[], guard := none }) rfl (fun K hK => ?_) (AllReady.cons (o := { dst := some 10, op := Op.load 29 (Operand.tmp 1), type := 29, pos := "book.go:225", after := #[], guard := none }) rfl (fun K hK => ?_) AllReady.nil))
    · go_simp
      refine hK _ _ ?_
      clear hK K
      try simp only [Act.put, List.setIfInBounds_toArray, List.set_cons_zero, List.set_cons_succ]
      refine wpAny_ready (rs := [2]) (by kernel_rfl) (by simp) ?_
      refine (AllReady.cons (o := { dst := some 10, op := Op.load 29 (Operand.tmp 1), type := 29, pos := "book.go:225", after := #[], guard := none }) rfl (fun K hK => ?_) AllReady.nil)
      go_simp
      refine hK _ _ ?_
      clear hK K
      try simp only [Act.put, List.setIfInBounds_toArray, List.set_cons_zero, List.set_cons_succ]
      refine wpAny_ready (rs := [3]) (by kernel_rfl) (by simp) ?_
      refine (AllReady.cons (o := { dst := some 11, op := Op.call { callee := Callee.builtin Builtin.copy, args := #[Operand.tmp 9, Operand.tmp 10], argTypes := #[29, 29] }, type := 3, pos := "book.go:225", after := #[{ on := 1, ground := Ground.data }, { on := 2, ground := Ground.data }], guard := none }) rfl (fun K hK => ?_) AllReady.nil)
      refine step_copy_splice rfl (.tmp 9) (.tmp 10) 29 29 rfl 5 Try.underlying29 Oct.Try.size5 (some ⟨q3, 20, none⟩) A 108 108 m c rfl rfl q3 20 (splice Z 0 (u8s hb)) 43 Q5.out (u8s pt) (by rw [UP.out, HJ.out]; exact Nat.min_comm _ _) (fun hp => ⟨rfl, HPS.out w5 (HX.out w5 B5.out).1 hp⟩) (by rw [UP.out, HLZ.out]; omega) (u8s_one _) q3 w2 B5.out (Nat.le_refl _) ?_
      intro w6 Q6 b6
      rw [UP.out]
      have B6 := Lib.hid b6
      have c56 : w6.cell? ⟨q5, 0, none⟩ = some (.slice A m c) := block_cell (C := [.slice A m c]) (HX.out w6 b6).2.2.2 0 _ rfl
      clear b6
      refine hK _ _ ?_
      clear hK K
      try simp only [Act.put, List.setIfInBounds_toArray, List.set_cons_zero, List.set_cons_succ]
      refine wpAny_take (i := 4) (oi := { dst := some 12, op := Op.slice 29 (Operand.tmp 8) (some (Operand.tmp 11)) none none, type := 29, pos := "book.go:225", after := #[{ on := 0, ground := Ground.data }, { on := 3, ground := Ground.data }], guard := none }) (v := .slice A (m - c) 0) rfl (by kernel_rfl) (by kernel_rfl) (by kernel_rfl) (fun _ _ _ h => h) (Or.inl ⟨by kernel_rfl, fun W => by go_simp⟩) ?_
      simp only [Act.put, List.setIfInBounds_toArray, List.set_cons_zero, List.set_cons_succ]
      refine wpAny_ready (rs := [5]) (by kernel_rfl) (by simp) ?_
      refine (AllReady.cons (o := { dst := none, op := Op.store 29 (Operand.tmp 1) (Operand.tmp 12), type := 0, pos := "book.go:225", after := #[{ on := 4, ground := Ground.data }, { on := 3, ground := Ground.chain }, { on := 0, ground := Ground.phase }, { on := 1, ground := Ground.phase }, { on := 2, ground := Ground.phase }, { on := 3, ground := Ground.phase }, { on := 4, ground := Ground.phase }], guard := none }) rfl (fun K hK => ?_) AllReady.nil)
      refine step_store_at rfl 29 (.tmp 1) (.tmp 12) rfl q5 0 [.slice A m c] 29 (HX.out w6 B6.out).2.2.2 (show 0 < 1 by omega) (.slice A (m - c) 0) rfl rfl rfl rfl Try.size29 ?_
      intro w7 G7
      refine hK _ _ ?_
      clear hK K
      refine wpAny_done (by kernel_rfl) ?_ _
      have H27 : Hid (w7.heap[q2]? = some (.cells (headV (l, n, k, p)).toArray 94 (0, 0))) := Lib.hid ((G7.out.2.block _ (Array.getElem?_eq_some_iff.1 (HX.out w6 B6.out).2.2.1).1 (fun e => by injection e with e; exact HNE.out e)).trans (HX.out w6 B6.out).2.2.1)
      have Q7 : Hid (w7.heap[q3]? = some (.cells P.toArray 43 (0, 0))) := Lib.hid ((G7.out.2.block _ (Array.getElem?_eq_some_iff.1 Q6.out).1 (fun e => by injection e with e; have := HL5.out; have := HQ3.out; omega)).trans (by rw [← HSP.out]; exact Q6.out))
      have c27 : w7.cell? ⟨q2, 2, none⟩ = some (.int .u16 (k : Int)) := block_cell H27.out 2 _ rfl
      go_wp2_with (first
        | (refine wpList_store_at rfl 92 (.tmp 16) (.tmp 15) rfl q2 2 (headV (l, n, k, p)) 94 H27.out (show 2 < 4 by omega) (.int .u16 ((k : Int) + 1)) rfl rfl rfl rfl Try.size92 ?_; intro w8 G8)
        | (refine wpList_load_mid rfl 43 (.tmp 3) rfl q3 0 rfl P _ (range_block ((G8.out.2.block _ (Array.getElem?_eq_some_iff.1 Q7.out).1 (fun e => by injection e with e; have := HL2.out; have := HQ3.out; omega)).trans Q7.out) 0 _ (fun j v hv => by rw [Nat.zero_add]; exact hv)) Try.underlying43 rfl (by rw [PL.out]; exact Try.size43) ?_)
        | (refine wpList_store_all rfl 43 (.tmp 2) (.tmp 17) rfl w.heap.size Z P 43 ((G8.out.2.block _ (by have := G7.out.2.size; have := HL2.out; have := (Array.getElem?_eq_some_iff.1 Q6.out).1; have := HQ3.out; omega) (fun e => by injection e with e; have := HL2.out; omega)).trans ((G7.out.2.block _ (by have := (Array.getElem?_eq_some_iff.1 Q6.out).1; have := HQ3.out; omega) (fun e => by injection e with e; have := HL5.out; omega)).trans (HX.out w6 B6.out).2.1)) (ZL.out.trans PL.out.symm) rfl rfl (by rw [PL.out]; exact Try.size43) PO.out ?_; intro w9 G9)
        | fail)
      have HT : Turns (fun b => b = q2 ∨ b = q5) w w9 := (((Turns.of_below (HX.out w6 B6.out).1).grown G7.out.2 (fun g e => by cases e; exact .inl (.inr rfl))).grown G8.out.2 (fun g e => by cases e; exact .inl (.inl rfl))).grown G9.out.2 (fun g e => by cases e; exact .inr (Nat.le_refl _))
      have e2 : w9.heap[q2]? = some (.cells (headV (l, n, k + 1, p)).toArray 94 (0, 0)) := (G9.out.2.block _ (Array.getElem?_eq_some_iff.1 G8.out.1).1 (fun e => by injection e with e; have := HL2.out; omega)).trans G8.out.1
      have e5 : w9.heap[q5]? = some (.cells #[.slice A (m - c) 0] 29 (0, 0)) := (G9.out.2.block _ (by have := (Array.getElem?_eq_some_iff.1 G7.out.1).1; have := G8.out.2.size; omega) (fun e => by injection e with e; have := HL5.out; omega)).trans ((G8.out.2.block _ (Array.getElem?_eq_some_iff.1 G7.out.1).1 (fun e => by injection e with e; exact HNE.out e.symm)).trans G7.out.1)
      exact bodyPost_ret (ret_range (cs := P) rfl rfl (range_block G9.out.1 0 _ (fun j v hv => by rw [Nat.zero_add]; exact hv)) Try.underlying43 rfl (by rw [PL.out]; exact Try.size43)) rfl ⟨rfl, HT, e2, by rw [Nat.sub_self]; exact e5⟩
    · go_simp
      refine hK _ _ ?_
      clear hK K
      try simp only [Act.put, List.setIfInBounds_toArray, List.set_cons_zero, List.set_cons_succ]
      refine wpAny_ready (rs := [0, 3]) (by kernel_rfl) (by simp) ?_
      refine (AllReady.cons (o := { dst := some 8, op := Op.load 29 (Operand.tmp 1), type := 29, pos := "book.go:225", after := #[], guard := none }) rfl (fun K hK => ?_) (AllReady.cons (o := { dst := some 11, op := Op.call { callee := Callee.builtin Builtin.copy, args := #[Operand.tmp 9, Operand.tmp 10], argTypes := #[29, 29] }, type := 3, pos := "book.go:225", after := #[{ on := 1, ground := Ground.data }, { on := 2, ground := Ground.data }], guard := none }) rfl (fun K hK => ?_) AllReady.nil))
      · go_simp
        refine hK _ _ ?_
        clear hK K
        try simp only [Act.put, List.setIfInBounds_toArray, List.set_cons_zero, List.set_cons_succ]
        refine wpAny_ready (rs := [3]) (by kernel_rfl) (by simp) ?_
        refine (AllReady.cons (o := { dst := some 11, op := Op.call { callee := Callee.builtin Builtin.copy, args := #[Operand.tmp 9, Operand.tmp 10], argTypes := #[29, 29] }, type := 3, pos := "book.go:225", after := #[{ on := 1, ground := Ground.data }, { on := 2, ground := Ground.data }], guard := none }) rfl (fun K hK => ?_) AllReady.nil)
        refine step_copy_splice rfl (.tmp 9) (.tmp 10) 29 29 rfl 5 Try.underlying29 Oct.Try.size5 (some ⟨q3, 20, none⟩) A 108 108 m c rfl rfl q3 20 (splice Z 0 (u8s hb)) 43 Q5.out (u8s pt) (by rw [UP.out, HJ.out]; exact Nat.min_comm _ _) (fun hp => ⟨rfl, HPS.out w5 (HX.out w5 B5.out).1 hp⟩) (by rw [UP.out, HLZ.out]; omega) (u8s_one _) q3 w2 B5.out (Nat.le_refl _) ?_
        intro w6 Q6 b6
        rw [UP.out]
        have B6 := Lib.hid b6
        have c56 : w6.cell? ⟨q5, 0, none⟩ = some (.slice A m c) := block_cell (C := [.slice A m c]) (HX.out w6 b6).2.2.2 0 _ rfl
        clear b6
        refine hK _ _ ?_
        clear hK K
        try simp only [Act.put, List.setIfInBounds_toArray, List.set_cons_zero, List.set_cons_succ]
        refine wpAny_take (i := 4) (oi := { dst := some 12, op := Op.slice 29 (Operand.tmp 8) (some (Operand.tmp 11)) none none, type := 29, pos := "book.go:225", after := #[{ on := 0, ground := Ground.data }, { on := 3, ground := Ground.data }], guard := none }) (v := .slice A (m - c) 0) rfl (by kernel_rfl) (by kernel_rfl) (by kernel_rfl) (fun _ _ _ h => h) (Or.inl ⟨by kernel_rfl, fun W => by go_simp⟩) ?_
        simp only [Act.put, List.setIfInBounds_toArray, List.set_cons_zero, List.set_cons_succ]
        refine wpAny_ready (rs := [5]) (by kernel_rfl) (by simp) ?_
        refine (AllReady.cons (o := { dst := none, op := Op.store 29 (Operand.tmp 1) (Operand.tmp 12), type := 0, pos := "book.go:225", after := #[{ on := 4, ground := Ground.data }, { on := 3, ground := Ground.chain }, { on := 0, ground := Ground.phase }, { on := 1, ground := Ground.phase }, { on := 2, ground := Ground.phase }, { on := 3, ground := Ground.phase }, { on := 4, ground := Ground.phase }], guard := none }) rfl (fun K hK => ?_) AllReady.nil)
        refine step_store_at rfl 29 (.tmp 1) (.tmp 12) rfl q5 0 [.slice A m c] 29 (HX.out w6 B6.out).2.2.2 (show 0 < 1 by omega) (.slice A (m - c) 0) rfl rfl rfl rfl Try.size29 ?_
        intro w7 G7
        refine hK _ _ ?_
        clear hK K
        refine wpAny_done (by kernel_rfl) ?_ _
        have H27 : Hid (w7.heap[q2]? = some (.cells (headV (l, n, k, p)).toArray 94 (0, 0))) := Lib.hid ((G7.out.2.block _ (Array.getElem?_eq_some_iff.1 (HX.out w6 B6.out).2.2.1).1 (fun e => by injection e with e; exact HNE.out e)).trans (HX.out w6 B6.out).2.2.1)
        have Q7 : Hid (w7.heap[q3]? = some (.cells P.toArray 43 (0, 0))) := Lib.hid ((G7.out.2.block _ (Array.getElem?_eq_some_iff.1 Q6.out).1 (fun e => by injection e with e; have := HL5.out; have := HQ3.out; omega)).trans (by rw [← HSP.out]; exact Q6.out))
        have c27 : w7.cell? ⟨q2, 2, none⟩ = some (.int .u16 (k : Int)) := block_cell H27.out 2 _ rfl
        go_wp2_with (first
          | (refine wpList_store_at rfl 92 (.tmp 16) (.tmp 15) rfl q2 2 (headV (l, n, k, p)) 94 H27.out (show 2 < 4 by omega) (.int .u16 ((k : Int) + 1)) rfl rfl rfl rfl Try.size92 ?_; intro w8 G8)
          | (refine wpList_load_mid rfl 43 (.tmp 3) rfl q3 0 rfl P _ (range_block ((G8.out.2.block _ (Array.getElem?_eq_some_iff.1 Q7.out).1 (fun e => by injection e with e; have := HL2.out; have := HQ3.out; omega)).trans Q7.out) 0 _ (fun j v hv => by rw [Nat.zero_add]; exact hv)) Try.underlying43 rfl (by rw [PL.out]; exact Try.size43) ?_)
          | (refine wpList_store_all rfl 43 (.tmp 2) (.tmp 17) rfl w.heap.size Z P 43 ((G8.out.2.block _ (by have := G7.out.2.size; have := HL2.out; have := (Array.getElem?_eq_some_iff.1 Q6.out).1; have := HQ3.out; omega) (fun e => by injection e with e; have := HL2.out; omega)).trans ((G7.out.2.block _ (by have := (Array.getElem?_eq_some_iff.1 Q6.out).1; have := HQ3.out; omega) (fun e => by injection e with e; have := HL5.out; omega)).trans (HX.out w6 B6.out).2.1)) (ZL.out.trans PL.out.symm) rfl rfl (by rw [PL.out]; exact Try.size43) PO.out ?_; intro w9 G9)
          | fail)
        have HT : Turns (fun b => b = q2 ∨ b = q5) w w9 := (((Turns.of_below (HX.out w6 B6.out).1).grown G7.out.2 (fun g e => by cases e; exact .inl (.inr rfl))).grown G8.out.2 (fun g e => by cases e; exact .inl (.inl rfl))).grown G9.out.2 (fun g e => by cases e; exact .inr (Nat.le_refl _))
        have e2 : w9.heap[q2]? = some (.cells (headV (l, n, k + 1, p)).toArray 94 (0, 0)) := (G9.out.2.block _ (Array.getElem?_eq_some_iff.1 G8.out.1).1 (fun e => by injection e with e; have := HL2.out; omega)).trans G8.out.1
        have e5 : w9.heap[q5]? = some (.cells #[.slice A (m - c) 0] 29 (0, 0)) := (G9.out.2.block _ (by have := (Array.getElem?_eq_some_iff.1 G7.out.1).1; have := G8.out.2.size; omega) (fun e => by injection e with e; have := HL5.out; omega)).trans ((G8.out.2.block _ (Array.getElem?_eq_some_iff.1 G7.out.1).1 (fun e => by injection e with e; exact HNE.out e.symm)).trans G7.out.1)
        exact bodyPost_ret (ret_range (cs := P) rfl rfl (range_block G9.out.1 0 _ (fun j v hv => by rw [Nat.zero_add]; exact hv)) Try.underlying43 rfl (by rw [PL.out]; exact Try.size43)) rfl ⟨rfl, HT, e2, by rw [Nat.sub_self]; exact e5⟩
      · refine step_copy_splice rfl (.tmp 9) (.tmp 10) 29 29 rfl 5 Try.underlying29 Oct.Try.size5 (some ⟨q3, 20, none⟩) A 108 108 m c rfl rfl q3 20 (splice Z 0 (u8s hb)) 43 Q5.out (u8s pt) (by rw [UP.out, HJ.out]; exact Nat.min_comm _ _) (fun hp => ⟨rfl, HPS.out w5 (HX.out w5 B5.out).1 hp⟩) (by rw [UP.out, HLZ.out]; omega) (u8s_one _) q3 w2 B5.out (Nat.le_refl _) ?_
        intro w6 Q6 b6
        rw [UP.out]
        have B6 := Lib.hid b6
        have c56 : w6.cell? ⟨q5, 0, none⟩ = some (.slice A m c) := block_cell (C := [.slice A m c]) (HX.out w6 b6).2.2.2 0 _ rfl
        clear b6
        refine hK _ _ ?_
        clear hK K
        try simp only [Act.put, List.setIfInBounds_toArray, List.set_cons_zero, List.set_cons_succ]
        refine wpAny_ready (rs := [0]) (by kernel_rfl) (by simp) ?_
        refine (AllReady.cons (o := { dst := some 8, op := Op.load 29 (Operand.tmp 1), type := 29, pos := "book.go:225", after := #[], guard := none }) rfl (fun K hK => ?_) AllReady.nil)
        go_simp
        refine hK _ _ ?_
        clear hK K
        try simp only [Act.put, List.setIfInBounds_toArray, List.set_cons_zero, List.set_cons_succ]
        refine wpAny_take (i := 4) (oi := { dst := some 12, op := Op.slice 29 (Operand.tmp 8) (some (Operand.tmp 11)) none none, type := 29, pos := "book.go:225", after := #[{ on := 0, ground := Ground.data }, { on := 3, ground := Ground.data }], guard := none }) (v := .slice A (m - c) 0) rfl (by kernel_rfl) (by kernel_rfl) (by kernel_rfl) (fun _ _ _ h => h) (Or.inl ⟨by kernel_rfl, fun W => by go_simp⟩) ?_
        simp only [Act.put, List.setIfInBounds_toArray, List.set_cons_zero, List.set_cons_succ]
        refine wpAny_ready (rs := [5]) (by kernel_rfl) (by simp) ?_
        refine (AllReady.cons (o := { dst := none, op := Op.store 29 (Operand.tmp 1) (Operand.tmp 12), type := 0, pos := "book.go:225", after := #[{ on := 4, ground := Ground.data }, { on := 3, ground := Ground.chain }, { on := 0, ground := Ground.phase }, { on := 1, ground := Ground.phase }, { on := 2, ground := Ground.phase }, { on := 3, ground := Ground.phase }, { on := 4, ground := Ground.phase }], guard := none }) rfl (fun K hK => ?_) AllReady.nil)
        refine step_store_at rfl 29 (.tmp 1) (.tmp 12) rfl q5 0 [.slice A m c] 29 (HX.out w6 B6.out).2.2.2 (show 0 < 1 by omega) (.slice A (m - c) 0) rfl rfl rfl rfl Try.size29 ?_
        intro w7 G7
        refine hK _ _ ?_
        clear hK K
        refine wpAny_done (by kernel_rfl) ?_ _
        have H27 : Hid (w7.heap[q2]? = some (.cells (headV (l, n, k, p)).toArray 94 (0, 0))) := Lib.hid ((G7.out.2.block _ (Array.getElem?_eq_some_iff.1 (HX.out w6 B6.out).2.2.1).1 (fun e => by injection e with e; exact HNE.out e)).trans (HX.out w6 B6.out).2.2.1)
        have Q7 : Hid (w7.heap[q3]? = some (.cells P.toArray 43 (0, 0))) := Lib.hid ((G7.out.2.block _ (Array.getElem?_eq_some_iff.1 Q6.out).1 (fun e => by injection e with e; have := HL5.out; have := HQ3.out; omega)).trans (by rw [← HSP.out]; exact Q6.out))
        have c27 : w7.cell? ⟨q2, 2, none⟩ = some (.int .u16 (k : Int)) := block_cell H27.out 2 _ rfl
        go_wp2_with (first
          | (refine wpList_store_at rfl 92 (.tmp 16) (.tmp 15) rfl q2 2 (headV (l, n, k, p)) 94 H27.out (show 2 < 4 by omega) (.int .u16 ((k : Int) + 1)) rfl rfl rfl rfl Try.size92 ?_; intro w8 G8)
          | (refine wpList_load_mid rfl 43 (.tmp 3) rfl q3 0 rfl P _ (range_block ((G8.out.2.block _ (Array.getElem?_eq_some_iff.1 Q7.out).1 (fun e => by injection e with e; have := HL2.out; have := HQ3.out; omega)).trans Q7.out) 0 _ (fun j v hv => by rw [Nat.zero_add]; exact hv)) Try.underlying43 rfl (by rw [PL.out]; exact Try.size43) ?_)
          | (refine wpList_store_all rfl 43 (.tmp 2) (.tmp 17) rfl w.heap.size Z P 43 ((G8.out.2.block _ (by have := G7.out.2.size; have := HL2.out; have := (Array.getElem?_eq_some_iff.1 Q6.out).1; have := HQ3.out; omega) (fun e => by injection e with e; have := HL2.out; omega)).trans ((G7.out.2.block _ (by have := (Array.getElem?_eq_some_iff.1 Q6.out).1; have := HQ3.out; omega) (fun e => by injection e with e; have := HL5.out; omega)).trans (HX.out w6 B6.out).2.1)) (ZL.out.trans PL.out.symm) rfl rfl (by rw [PL.out]; exact Try.size43) PO.out ?_; intro w9 G9)
          | fail)
        have HT : Turns (fun b => b = q2 ∨ b = q5) w w9 := (((Turns.of_below (HX.out w6 B6.out).1).grown G7.out.2 (fun g e => by cases e; exact .inl (.inr rfl))).grown G8.out.2 (fun g e => by cases e; exact .inl (.inl rfl))).grown G9.out.2 (fun g e => by cases e; exact .inr (Nat.le_refl _))
        have e2 : w9.heap[q2]? = some (.cells (headV (l, n, k + 1, p)).toArray 94 (0, 0)) := (G9.out.2.block _ (Array.getElem?_eq_some_iff.1 G8.out.1).1 (fun e => by injection e with e; have := HL2.out; omega)).trans G8.out.1
        have e5 : w9.heap[q5]? = some (.cells #[.slice A (m - c) 0] 29 (0, 0)) := (G9.out.2.block _ (by have := (Array.getElem?_eq_some_iff.1 G7.out.1).1; have := G8.out.2.size; omega) (fun e => by injection e with e; have := HL5.out; omega)).trans ((G8.out.2.block _ (Array.getElem?_eq_some_iff.1 G7.out.1).1 (fun e => by injection e with e; exact HNE.out e.symm)).trans G7.out.1)
        exact bodyPost_ret (ret_range (cs := P) rfl rfl (range_block G9.out.1 0 _ (fun j v hv => by rw [Nat.zero_add]; exact hv)) Try.underlying43 rfl (by rw [PL.out]; exact Try.size43)) rfl ⟨rfl, HT, e2, by rw [Nat.sub_self]; exact e5⟩
  · rw [if_neg hcj]
    obtain ⟨ad, rfl⟩ : ∃ ad, A = some ad := by
      rcases A with _ | ad
      · have := hs1 rfl
        omega
      · exact ⟨ad, rfl⟩
    go_enter Try.func67, Try.ntmps67
    go_wp2_with fail
    try simp only [Act.put, List.setIfInBounds_toArray, List.set_cons_zero, List.set_cons_succ]
    refine wp_region_any (by kernel_rfl) ?_
    change wpAny _ _ _ _ _ _ _ (((w.alloc (.cells Z.toArray 43)).alloc (.cells Z.toArray 43)).drewN 1)
    have B2 : Hid (Below w.heap.size w (((w.alloc (.cells Z.toArray 43)).alloc (.cells Z.toArray 43)).drewN 1)) := Lib.hid ((((Below.refl _ _).alloc (Nat.le_refl _) _).alloc (by simp) _).trans ⟨rfl, rfl, rfl, Nat.le_refl _, fun _ _ => rfl⟩)
    have QB : Hid ((((w.alloc (.cells Z.toArray 43)).alloc (.cells Z.toArray 43)).drewN 1).heap[q3]? = some (.cells Z.toArray 43 (0, 0))) := Lib.hid (by rw [HQE.out]; have := row_new (w.alloc (.cells Z.toArray 43)) Z 43; rw [show (w.alloc (.cells Z.toArray 43)).heap.size = w.heap.size + 1 by simp] at this; exact this)
    have QA : Hid ((((w.alloc (.cells Z.toArray 43)).alloc (.cells Z.toArray 43)).drewN 1).heap[w.heap.size]? = some (.cells Z.toArray 43 (0, 0))) := Lib.hid ((heap_alloc_old (w.alloc (.cells Z.toArray 43)) _ (by simp)).trans (row_new w Z 43))
    rw [← HQE.out]
    generalize ((w.alloc (.cells Z.toArray 43)).alloc (.cells Z.toArray 43)).drewN 1 = w2 at B2 QB QA ⊢
    have HQ2 : Hid (q3 ≤ w2.heap.size) := Lib.hid (Nat.le_of_lt (Array.getElem?_eq_some_iff.1 QB.out).1)
    have HX : Hid (∀ W : World, Below q3 w2 W → Below w.heap.size w W ∧ W.heap[w.heap.size]? = some (.cells Z.toArray 43 (0, 0)) ∧ W.heap[q2]? = some (.cells (headV (l, n, k, p)).toArray 94 (0, 0)) ∧ W.heap[q5]? = some (.cells [.slice (some ad) m c].toArray 29 (0, 0))) := Lib.hid fun W hb => by
      have h1 : Below w.heap.size w W := B2.out.trans (hb.mono HQ3.out)
      exact ⟨h1, (hb.block _ (by rw [HQE.out]; omega)).trans QA.out, HC2.out W h1, HC5.out W h1⟩
    refine wpAny_of_held (S := fun W => Below q3 w2 W) _ _ _ _ ?_
    refine wpAnyH_take (i := 0) (oi := { dst := some 4, op := Op.slice 43 (Operand.tmp 3) none none none, type := 29, pos := "book.go:224", after := #[], guard := none }) (v := .slice (some ⟨q3, 0, none⟩) 128 128) rfl (by kernel_rfl) (by kernel_rfl) (by kernel_rfl) (fun _ _ _ h => h) (Or.inl ⟨by kernel_rfl, fun W hSW => by go_simp⟩) (Below.refl _ _) ?_
    simp only [Act.put, List.setIfInBounds_toArray, List.set_cons_zero, List.set_cons_succ]
    refine wpAnyH_take (i := 1) (oi := { dst := some 5, op := Op.load 94 (Operand.tmp 0), type := 94, pos := "book.go:224", after := #[], guard := none }) (v := .agg #[.int .u64 (l : Int), .int .u64 (n : Int), .int .u16 (k : Int), .int .u16 (p : Int)]) rfl (by kernel_rfl) (by kernel_rfl) (by kernel_rfl) (fun _ _ _ h => h) (Or.inl ⟨by kernel_rfl, fun W hSW => by have hq := (HX.out W hSW).2.2.1; have k0 := block_cell hq 0 _ rfl; have k1 := block_cell hq 1 _ rfl; have k2 := block_cell hq 2 _ rfl; have k3 := block_cell hq 3 _ rfl; go_simp⟩) (Below.refl _ _) ?_
    simp only [Act.put, List.setIfInBounds_toArray, List.set_cons_zero, List.set_cons_succ]
    refine wpAnyH_ready (rs := [2]) (by kernel_rfl) (by simp) ?_
    refine AllReadyH.cons (o := { dst := some 6, op := Op.call { callee := Callee.value (Operand.func 68), args := #[Operand.tmp 5], argTypes := #[94] }, type := 29, pos := "book.go:224", after := #[{ on := 1, ground := Ground.data }], guard := none }) rfl (fun K' hK' => ?_) AllReadyH.nil
    go_simp
    go_at_call 68
    refine (bytes_h l n k p w2).mono ?_
    rintro E w3 ⟨A3, c3, rfl, ho3, hb3⟩
    have RD3 := Lib.hid (Oct.Rd.of_own ho3)
    have B3 : Hid (Below q3 w2 w3) := Lib.hid (hb3.mono HQ2.out)
    have Q3 : Hid (w3.heap[q3]? = some (.cells Z.toArray 43 (0, 0))) := Lib.hid ((hb3.block _ (Array.getElem?_eq_some_iff.1 QB.out).1).trans QB.out)
    clear ho3 hb3 B2 QB QA
    refine hK'.out _ _ B3.out (fun _ => ?_)
    clear hK' K'
    refine wpAnyH_ready (rs := [3]) (by kernel_rfl) (by simp) ?_
    refine AllReadyH.cons (o := { dst := some 7, op := Op.call { callee := Callee.builtin Builtin.copy, args := #[Operand.tmp 4, Operand.tmp 6], argTypes := #[29, 29] }, type := 3, pos := "book.go:224", after := #[{ on := 0, ground := Ground.data }, { on := 2, ground := Ground.data }, { on := 2, ground := Ground.chain }], guard := none }) rfl (fun K' hK' => ?_) AllReadyH.nil
    refine step_copy_splice rfl (.tmp 4) (.tmp 6) 29 29 rfl 5 Try.underlying29 Oct.Try.size5 (some ⟨q3, 0, none⟩) A3 128 128 20 c3 rfl rfl q3 0 Z 43 Q3.out (u8s (headB l n k p)) (by rw [u8s_length, headB_length]; rfl) (fun hp => ⟨rfl, RD3.out.src (Below.refl _ w3) hp⟩) (by rw [u8s_length, headB_length, ZL.out]; omega) (u8s_one _) q3 w2 B3.out (Nat.le_refl _) ?_
    intro w4 Q4 b4
    have B4 := Lib.hid b4
    clear b4
    refine hK'.out _ _ B4.out (fun _ => ?_)
    clear hK' K'
    refine wpAnyH_done (by kernel_rfl) ?_ _
    clear B3 Q3 RD3
    rw [u8s_length, headB_length]
    rw [HHB.out] at Q4
    go_wp2_with fail
    try simp only [Act.put, List.setIfInBounds_toArray, List.set_cons_zero, List.set_cons_succ]
    refine wp_region_any (by kernel_rfl) ?_
    change wpAny _ _ _ _ _ _ _ (w4.drewN 1)
    have B5 : Hid (Below q3 w2 (w4.drewN 1)) := Lib.hid (B4.out.trans (c := w4.drewN 1) ⟨rfl, rfl, rfl, Nat.le_refl _, fun _ _ => rfl⟩)
    have Q5 : Hid ((w4.drewN 1).heap[q3]? = some (.cells (splice Z 0 (u8s hb)).toArray 43 (0, 0))) := Lib.hid Q4.out
    clear B4 Q4
    generalize w4.drewN 1 = w5 at B5 Q5 ⊢
    have c55 : w5.cell? ⟨q5, 0, none⟩ = some (.slice (some ad) m c) := block_cell (C := [.slice (some ad) m c]) (HX.out w5 B5.out).2.2.2 0 _ rfl
    refine wpAny_take (i := 1) (oi := { dst := some 9, op := Op.slice 43 (Operand.tmp 3) (some (Operand.const (Value.int IntKind.i64 20))) none none, type := 29, pos := "book.go:225", after := #[], guard := none }) (v := .slice (some ⟨q3, 20, none⟩) 108 108) rfl (by kernel_rfl) (by kernel_rfl) (by kernel_rfl) (fun _ _ _ h => h) (Or.inl ⟨by kernel_rfl, fun W => by go_simp⟩) ?_
    simp only [Act.put, List.setIfInBounds_toArray, List.set_cons_zero, List.set_cons_succ]
    refine wpAny_ready (rs := [0, 2]) (by kernel_rfl) (by simp) ?_
    refine (AllReady.cons (o := { dst := some 8, op := Op.load 29 (Operand.tmp 1), type := 29, pos := "book.go:225", after := #[], guard := none }) rfl (fun K hK => ?_) (AllReady.cons (o := { dst := some 10, op := Op.load 29 (Operand.tmp 1), type := 29, pos := "book.go:225", after := #[], guard := none }) rfl (fun K hK => ?_) AllReady.nil))
    · go_simp
      refine hK _ _ ?_
      clear hK K
      try simp only [Act.put, List.setIfInBounds_toArray, List.set_cons_zero, List.set_cons_succ]
      refine wpAny_ready (rs := [2]) (by kernel_rfl) (by simp) ?_
      refine (AllReady.cons (o := { dst := some 10, op := Op.load 29 (Operand.tmp 1), type := 29, pos := "book.go:225", after := #[], guard := none }) rfl (fun K hK => ?_) AllReady.nil)
      go_simp
      refine hK _ _ ?_
      clear hK K
      try simp only [Act.put, List.setIfInBounds_toArray, List.set_cons_zero, List.set_cons_succ]
      refine wpAny_ready (rs := [3]) (by kernel_rfl) (by simp) ?_
      refine (AllReady.cons (o := { dst := some 11, op := Op.call { callee := Callee.builtin Builtin.copy, args := #[Operand.tmp 9, Operand.tmp 10], argTypes := #[29, 29] }, type := 3, pos := "book.go:225", after := #[{ on := 1, ground := Ground.data }, { on := 2, ground := Ground.data }], guard := none }) rfl (fun K hK => ?_) AllReady.nil)
      refine step_copy_splice rfl (.tmp 9) (.tmp 10) 29 29 rfl 5 Try.underlying29 Oct.Try.size5 (some ⟨q3, 20, none⟩) (some ad) 108 108 m c rfl rfl q3 20 (splice Z 0 (u8s hb)) 43 Q5.out (u8s pt) (by rw [UP.out, HJ.out]; exact Nat.min_comm _ _) (fun hp => ⟨rfl, HPS.out w5 (HX.out w5 B5.out).1 hp⟩) (by rw [UP.out, HLZ.out]; omega) (u8s_one _) q3 w2 B5.out (Nat.le_refl _) ?_
      intro w6 Q6 b6
      rw [UP.out]
      have B6 := Lib.hid b6
      have c56 : w6.cell? ⟨q5, 0, none⟩ = some (.slice (some ad) m c) := block_cell (C := [.slice (some ad) m c]) (HX.out w6 b6).2.2.2 0 _ rfl
      clear b6
      refine hK _ _ ?_
      clear hK K
      try simp only [Act.put, List.setIfInBounds_toArray, List.set_cons_zero, List.set_cons_succ]
      refine wpAny_take (i := 4) (oi := { dst := some 12, op := Op.slice 29 (Operand.tmp 8) (some (Operand.tmp 11)) none none, type := 29, pos := "book.go:225", after := #[{ on := 0, ground := Ground.data }, { on := 3, ground := Ground.data }], guard := none }) (v := .slice (some (ad.add j)) (m - j) (c - j)) rfl (by kernel_rfl) (by kernel_rfl) (by kernel_rfl) (fun _ _ _ h => h) (Or.inl ⟨by kernel_rfl, fun W => by go_simp⟩) ?_
      simp only [Act.put, List.setIfInBounds_toArray, List.set_cons_zero, List.set_cons_succ]
      refine wpAny_ready (rs := [5]) (by kernel_rfl) (by simp) ?_
      refine (AllReady.cons (o := { dst := none, op := Op.store 29 (Operand.tmp 1) (Operand.tmp 12), type := 0, pos := "book.go:225", after := #[{ on := 4, ground := Ground.data }, { on := 3, ground := Ground.chain }, { on := 0, ground := Ground.phase }, { on := 1, ground := Ground.phase }, { on := 2, ground := Ground.phase }, { on := 3, ground := Ground.phase }, { on := 4, ground := Ground.phase }], guard := none }) rfl (fun K hK => ?_) AllReady.nil)
      refine step_store_at rfl 29 (.tmp 1) (.tmp 12) rfl q5 0 [.slice (some ad) m c] 29 (HX.out w6 B6.out).2.2.2 (show 0 < 1 by omega) (.slice (some (ad.add j)) (m - j) (c - j)) rfl rfl rfl rfl Try.size29 ?_
      intro w7 G7
      refine hK _ _ ?_
      clear hK K
      refine wpAny_done (by kernel_rfl) ?_ _
      have H27 : Hid (w7.heap[q2]? = some (.cells (headV (l, n, k, p)).toArray 94 (0, 0))) := Lib.hid ((G7.out.2.block _ (Array.getElem?_eq_some_iff.1 (HX.out w6 B6.out).2.2.1).1 (fun e => by injection e with e; exact HNE.out e)).trans (HX.out w6 B6.out).2.2.1)
      have Q7 : Hid (w7.heap[q3]? = some (.cells P.toArray 43 (0, 0))) := Lib.hid ((G7.out.2.block _ (Array.getElem?_eq_some_iff.1 Q6.out).1 (fun e => by injection e with e; have := HL5.out; have := HQ3.out; omega)).trans (by rw [← HSP.out]; exact Q6.out))
      have c27 : w7.cell? ⟨q2, 2, none⟩ = some (.int .u16 (k : Int)) := block_cell H27.out 2 _ rfl
      go_wp2_with (first
        | (refine wpList_store_at rfl 92 (.tmp 16) (.tmp 15) rfl q2 2 (headV (l, n, k, p)) 94 H27.out (show 2 < 4 by omega) (.int .u16 ((k : Int) + 1)) rfl rfl rfl rfl Try.size92 ?_; intro w8 G8)
        | (refine wpList_load_mid rfl 43 (.tmp 3) rfl q3 0 rfl P _ (range_block ((G8.out.2.block _ (Array.getElem?_eq_some_iff.1 Q7.out).1 (fun e => by injection e with e; have := HL2.out; have := HQ3.out; omega)).trans Q7.out) 0 _ (fun j v hv => by rw [Nat.zero_add]; exact hv)) Try.underlying43 rfl (by rw [PL.out]; exact Try.size43) ?_)
        | (refine wpList_store_all rfl 43 (.tmp 2) (.tmp 17) rfl w.heap.size Z P 43 ((G8.out.2.block _ (by have := G7.out.2.size; have := HL2.out; have := (Array.getElem?_eq_some_iff.1 Q6.out).1; have := HQ3.out; omega) (fun e => by injection e with e; have := HL2.out; omega)).trans ((G7.out.2.block _ (by have := (Array.getElem?_eq_some_iff.1 Q6.out).1; have := HQ3.out; omega) (fun e => by injection e with e; have := HL5.out; omega)).trans (HX.out w6 B6.out).2.1)) (ZL.out.trans PL.out.symm) rfl rfl (by rw [PL.out]; exact Try.size43) PO.out ?_; intro w9 G9)
        | fail)
      have HT : Turns (fun b => b = q2 ∨ b = q5) w w9 := (((Turns.of_below (HX.out w6 B6.out).1).grown G7.out.2 (fun g e => by cases e; exact .inl (.inr rfl))).grown G8.out.2 (fun g e => by cases e; exact .inl (.inl rfl))).grown G9.out.2 (fun g e => by cases e; exact .inr (Nat.le_refl _))
      have e2 : w9.heap[q2]? = some (.cells (headV (l, n, k + 1, p)).toArray 94 (0, 0)) := (G9.out.2.block _ (Array.getElem?_eq_some_iff.1 G8.out.1).1 (fun e => by injection e with e; have := HL2.out; omega)).trans G8.out.1
      have e5 : w9.heap[q5]? = some (.cells #[.slice (some (ad.add j)) (m - j) (c - j)] 29 (0, 0)) := (G9.out.2.block _ (by have := (Array.getElem?_eq_some_iff.1 G7.out.1).1; have := G8.out.2.size; omega) (fun e => by injection e with e; have := HL5.out; omega)).trans ((G8.out.2.block _ (Array.getElem?_eq_some_iff.1 G7.out.1).1 (fun e => by injection e with e; exact HNE.out e.symm)).trans G7.out.1)
      exact bodyPost_ret (ret_range (cs := P) rfl rfl (range_block G9.out.1 0 _ (fun j v hv => by rw [Nat.zero_add]; exact hv)) Try.underlying43 rfl (by rw [PL.out]; exact Try.size43)) rfl ⟨rfl, HT, e2, e5⟩
    · go_simp
      refine hK _ _ ?_
      clear hK K
      try simp only [Act.put, List.setIfInBounds_toArray, List.set_cons_zero, List.set_cons_succ]
      refine wpAny_ready (rs := [0, 3]) (by kernel_rfl) (by simp) ?_
      refine (AllReady.cons (o := { dst := some 8, op := Op.load 29 (Operand.tmp 1), type := 29, pos := "book.go:225", after := #[], guard := none }) rfl (fun K hK => ?_) (AllReady.cons (o := { dst := some 11, op := Op.call { callee := Callee.builtin Builtin.copy, args := #[Operand.tmp 9, Operand.tmp 10], argTypes := #[29, 29] }, type := 3, pos := "book.go:225", after := #[{ on := 1, ground := Ground.data }, { on := 2, ground := Ground.data }], guard := none }) rfl (fun K hK => ?_) AllReady.nil))
      · go_simp
        refine hK _ _ ?_
        clear hK K
        try simp only [Act.put, List.setIfInBounds_toArray, List.set_cons_zero, List.set_cons_succ]
        refine wpAny_ready (rs := [3]) (by kernel_rfl) (by simp) ?_
        refine (AllReady.cons (o := { dst := some 11, op := Op.call { callee := Callee.builtin Builtin.copy, args := #[Operand.tmp 9, Operand.tmp 10], argTypes := #[29, 29] }, type := 3, pos := "book.go:225", after := #[{ on := 1, ground := Ground.data }, { on := 2, ground := Ground.data }], guard := none }) rfl (fun K hK => ?_) AllReady.nil)
        refine step_copy_splice rfl (.tmp 9) (.tmp 10) 29 29 rfl 5 Try.underlying29 Oct.Try.size5 (some ⟨q3, 20, none⟩) (some ad) 108 108 m c rfl rfl q3 20 (splice Z 0 (u8s hb)) 43 Q5.out (u8s pt) (by rw [UP.out, HJ.out]; exact Nat.min_comm _ _) (fun hp => ⟨rfl, HPS.out w5 (HX.out w5 B5.out).1 hp⟩) (by rw [UP.out, HLZ.out]; omega) (u8s_one _) q3 w2 B5.out (Nat.le_refl _) ?_
        intro w6 Q6 b6
        rw [UP.out]
        have B6 := Lib.hid b6
        have c56 : w6.cell? ⟨q5, 0, none⟩ = some (.slice (some ad) m c) := block_cell (C := [.slice (some ad) m c]) (HX.out w6 b6).2.2.2 0 _ rfl
        clear b6
        refine hK _ _ ?_
        clear hK K
        try simp only [Act.put, List.setIfInBounds_toArray, List.set_cons_zero, List.set_cons_succ]
        refine wpAny_take (i := 4) (oi := { dst := some 12, op := Op.slice 29 (Operand.tmp 8) (some (Operand.tmp 11)) none none, type := 29, pos := "book.go:225", after := #[{ on := 0, ground := Ground.data }, { on := 3, ground := Ground.data }], guard := none }) (v := .slice (some (ad.add j)) (m - j) (c - j)) rfl (by kernel_rfl) (by kernel_rfl) (by kernel_rfl) (fun _ _ _ h => h) (Or.inl ⟨by kernel_rfl, fun W => by go_simp⟩) ?_
        simp only [Act.put, List.setIfInBounds_toArray, List.set_cons_zero, List.set_cons_succ]
        refine wpAny_ready (rs := [5]) (by kernel_rfl) (by simp) ?_
        refine (AllReady.cons (o := { dst := none, op := Op.store 29 (Operand.tmp 1) (Operand.tmp 12), type := 0, pos := "book.go:225", after := #[{ on := 4, ground := Ground.data }, { on := 3, ground := Ground.chain }, { on := 0, ground := Ground.phase }, { on := 1, ground := Ground.phase }, { on := 2, ground := Ground.phase }, { on := 3, ground := Ground.phase }, { on := 4, ground := Ground.phase }], guard := none }) rfl (fun K hK => ?_) AllReady.nil)
        refine step_store_at rfl 29 (.tmp 1) (.tmp 12) rfl q5 0 [.slice (some ad) m c] 29 (HX.out w6 B6.out).2.2.2 (show 0 < 1 by omega) (.slice (some (ad.add j)) (m - j) (c - j)) rfl rfl rfl rfl Try.size29 ?_
        intro w7 G7
        refine hK _ _ ?_
        clear hK K
        refine wpAny_done (by kernel_rfl) ?_ _
        have H27 : Hid (w7.heap[q2]? = some (.cells (headV (l, n, k, p)).toArray 94 (0, 0))) := Lib.hid ((G7.out.2.block _ (Array.getElem?_eq_some_iff.1 (HX.out w6 B6.out).2.2.1).1 (fun e => by injection e with e; exact HNE.out e)).trans (HX.out w6 B6.out).2.2.1)
        have Q7 : Hid (w7.heap[q3]? = some (.cells P.toArray 43 (0, 0))) := Lib.hid ((G7.out.2.block _ (Array.getElem?_eq_some_iff.1 Q6.out).1 (fun e => by injection e with e; have := HL5.out; have := HQ3.out; omega)).trans (by rw [← HSP.out]; exact Q6.out))
        have c27 : w7.cell? ⟨q2, 2, none⟩ = some (.int .u16 (k : Int)) := block_cell H27.out 2 _ rfl
        go_wp2_with (first
          | (refine wpList_store_at rfl 92 (.tmp 16) (.tmp 15) rfl q2 2 (headV (l, n, k, p)) 94 H27.out (show 2 < 4 by omega) (.int .u16 ((k : Int) + 1)) rfl rfl rfl rfl Try.size92 ?_; intro w8 G8)
          | (refine wpList_load_mid rfl 43 (.tmp 3) rfl q3 0 rfl P _ (range_block ((G8.out.2.block _ (Array.getElem?_eq_some_iff.1 Q7.out).1 (fun e => by injection e with e; have := HL2.out; have := HQ3.out; omega)).trans Q7.out) 0 _ (fun j v hv => by rw [Nat.zero_add]; exact hv)) Try.underlying43 rfl (by rw [PL.out]; exact Try.size43) ?_)
          | (refine wpList_store_all rfl 43 (.tmp 2) (.tmp 17) rfl w.heap.size Z P 43 ((G8.out.2.block _ (by have := G7.out.2.size; have := HL2.out; have := (Array.getElem?_eq_some_iff.1 Q6.out).1; have := HQ3.out; omega) (fun e => by injection e with e; have := HL2.out; omega)).trans ((G7.out.2.block _ (by have := (Array.getElem?_eq_some_iff.1 Q6.out).1; have := HQ3.out; omega) (fun e => by injection e with e; have := HL5.out; omega)).trans (HX.out w6 B6.out).2.1)) (ZL.out.trans PL.out.symm) rfl rfl (by rw [PL.out]; exact Try.size43) PO.out ?_; intro w9 G9)
          | fail)
        have HT : Turns (fun b => b = q2 ∨ b = q5) w w9 := (((Turns.of_below (HX.out w6 B6.out).1).grown G7.out.2 (fun g e => by cases e; exact .inl (.inr rfl))).grown G8.out.2 (fun g e => by cases e; exact .inl (.inl rfl))).grown G9.out.2 (fun g e => by cases e; exact .inr (Nat.le_refl _))
        have e2 : w9.heap[q2]? = some (.cells (headV (l, n, k + 1, p)).toArray 94 (0, 0)) := (G9.out.2.block _ (Array.getElem?_eq_some_iff.1 G8.out.1).1 (fun e => by injection e with e; have := HL2.out; omega)).trans G8.out.1
        have e5 : w9.heap[q5]? = some (.cells #[.slice (some (ad.add j)) (m - j) (c - j)] 29 (0, 0)) := (G9.out.2.block _ (by have := (Array.getElem?_eq_some_iff.1 G7.out.1).1; have := G8.out.2.size; omega) (fun e => by injection e with e; have := HL5.out; omega)).trans ((G8.out.2.block _ (Array.getElem?_eq_some_iff.1 G7.out.1).1 (fun e => by injection e with e; exact HNE.out e.symm)).trans G7.out.1)
        exact bodyPost_ret (ret_range (cs := P) rfl rfl (range_block G9.out.1 0 _ (fun j v hv => by rw [Nat.zero_add]; exact hv)) Try.underlying43 rfl (by rw [PL.out]; exact Try.size43)) rfl ⟨rfl, HT, e2, e5⟩
      · refine step_copy_splice rfl (.tmp 9) (.tmp 10) 29 29 rfl 5 Try.underlying29 Oct.Try.size5 (some ⟨q3, 20, none⟩) (some ad) 108 108 m c rfl rfl q3 20 (splice Z 0 (u8s hb)) 43 Q5.out (u8s pt) (by rw [UP.out, HJ.out]; exact Nat.min_comm _ _) (fun hp => ⟨rfl, HPS.out w5 (HX.out w5 B5.out).1 hp⟩) (by rw [UP.out, HLZ.out]; omega) (u8s_one _) q3 w2 B5.out (Nat.le_refl _) ?_
        intro w6 Q6 b6
        rw [UP.out]
        have B6 := Lib.hid b6
        have c56 : w6.cell? ⟨q5, 0, none⟩ = some (.slice (some ad) m c) := block_cell (C := [.slice (some ad) m c]) (HX.out w6 b6).2.2.2 0 _ rfl
        clear b6
        refine hK _ _ ?_
        clear hK K
        try simp only [Act.put, List.setIfInBounds_toArray, List.set_cons_zero, List.set_cons_succ]
        refine wpAny_ready (rs := [0]) (by kernel_rfl) (by simp) ?_
        refine (AllReady.cons (o := { dst := some 8, op := Op.load 29 (Operand.tmp 1), type := 29, pos := "book.go:225", after := #[], guard := none }) rfl (fun K hK => ?_) AllReady.nil)
        go_simp
        refine hK _ _ ?_
        clear hK K
        try simp only [Act.put, List.setIfInBounds_toArray, List.set_cons_zero, List.set_cons_succ]
        refine wpAny_take (i := 4) (oi := { dst := some 12, op := Op.slice 29 (Operand.tmp 8) (some (Operand.tmp 11)) none none, type := 29, pos := "book.go:225", after := #[{ on := 0, ground := Ground.data }, { on := 3, ground := Ground.data }], guard := none }) (v := .slice (some (ad.add j)) (m - j) (c - j)) rfl (by kernel_rfl) (by kernel_rfl) (by kernel_rfl) (fun _ _ _ h => h) (Or.inl ⟨by kernel_rfl, fun W => by go_simp⟩) ?_
        simp only [Act.put, List.setIfInBounds_toArray, List.set_cons_zero, List.set_cons_succ]
        refine wpAny_ready (rs := [5]) (by kernel_rfl) (by simp) ?_
        refine (AllReady.cons (o := { dst := none, op := Op.store 29 (Operand.tmp 1) (Operand.tmp 12), type := 0, pos := "book.go:225", after := #[{ on := 4, ground := Ground.data }, { on := 3, ground := Ground.chain }, { on := 0, ground := Ground.phase }, { on := 1, ground := Ground.phase }, { on := 2, ground := Ground.phase }, { on := 3, ground := Ground.phase }, { on := 4, ground := Ground.phase }], guard := none }) rfl (fun K hK => ?_) AllReady.nil)
        refine step_store_at rfl 29 (.tmp 1) (.tmp 12) rfl q5 0 [.slice (some ad) m c] 29 (HX.out w6 B6.out).2.2.2 (show 0 < 1 by omega) (.slice (some (ad.add j)) (m - j) (c - j)) rfl rfl rfl rfl Try.size29 ?_
        intro w7 G7
        refine hK _ _ ?_
        clear hK K
        refine wpAny_done (by kernel_rfl) ?_ _
        have H27 : Hid (w7.heap[q2]? = some (.cells (headV (l, n, k, p)).toArray 94 (0, 0))) := Lib.hid ((G7.out.2.block _ (Array.getElem?_eq_some_iff.1 (HX.out w6 B6.out).2.2.1).1 (fun e => by injection e with e; exact HNE.out e)).trans (HX.out w6 B6.out).2.2.1)
        have Q7 : Hid (w7.heap[q3]? = some (.cells P.toArray 43 (0, 0))) := Lib.hid ((G7.out.2.block _ (Array.getElem?_eq_some_iff.1 Q6.out).1 (fun e => by injection e with e; have := HL5.out; have := HQ3.out; omega)).trans (by rw [← HSP.out]; exact Q6.out))
        have c27 : w7.cell? ⟨q2, 2, none⟩ = some (.int .u16 (k : Int)) := block_cell H27.out 2 _ rfl
        go_wp2_with (first
          | (refine wpList_store_at rfl 92 (.tmp 16) (.tmp 15) rfl q2 2 (headV (l, n, k, p)) 94 H27.out (show 2 < 4 by omega) (.int .u16 ((k : Int) + 1)) rfl rfl rfl rfl Try.size92 ?_; intro w8 G8)
          | (refine wpList_load_mid rfl 43 (.tmp 3) rfl q3 0 rfl P _ (range_block ((G8.out.2.block _ (Array.getElem?_eq_some_iff.1 Q7.out).1 (fun e => by injection e with e; have := HL2.out; have := HQ3.out; omega)).trans Q7.out) 0 _ (fun j v hv => by rw [Nat.zero_add]; exact hv)) Try.underlying43 rfl (by rw [PL.out]; exact Try.size43) ?_)
          | (refine wpList_store_all rfl 43 (.tmp 2) (.tmp 17) rfl w.heap.size Z P 43 ((G8.out.2.block _ (by have := G7.out.2.size; have := HL2.out; have := (Array.getElem?_eq_some_iff.1 Q6.out).1; have := HQ3.out; omega) (fun e => by injection e with e; have := HL2.out; omega)).trans ((G7.out.2.block _ (by have := (Array.getElem?_eq_some_iff.1 Q6.out).1; have := HQ3.out; omega) (fun e => by injection e with e; have := HL5.out; omega)).trans (HX.out w6 B6.out).2.1)) (ZL.out.trans PL.out.symm) rfl rfl (by rw [PL.out]; exact Try.size43) PO.out ?_; intro w9 G9)
          | fail)
        have HT : Turns (fun b => b = q2 ∨ b = q5) w w9 := (((Turns.of_below (HX.out w6 B6.out).1).grown G7.out.2 (fun g e => by cases e; exact .inl (.inr rfl))).grown G8.out.2 (fun g e => by cases e; exact .inl (.inl rfl))).grown G9.out.2 (fun g e => by cases e; exact .inr (Nat.le_refl _))
        have e2 : w9.heap[q2]? = some (.cells (headV (l, n, k + 1, p)).toArray 94 (0, 0)) := (G9.out.2.block _ (Array.getElem?_eq_some_iff.1 G8.out.1).1 (fun e => by injection e with e; have := HL2.out; omega)).trans G8.out.1
        have e5 : w9.heap[q5]? = some (.cells #[.slice (some (ad.add j)) (m - j) (c - j)] 29 (0, 0)) := (G9.out.2.block _ (by have := (Array.getElem?_eq_some_iff.1 G7.out.1).1; have := G8.out.2.size; omega) (fun e => by injection e with e; have := HL5.out; omega)).trans ((G8.out.2.block _ (Array.getElem?_eq_some_iff.1 G7.out.1).1 (fun e => by injection e with e; exact HNE.out e.symm)).trans G7.out.1)
        exact bodyPost_ret (ret_range (cs := P) rfl rfl (range_block G9.out.1 0 _ (fun j v hv => by rw [Nat.zero_add]; exact hv)) Try.underlying43 rfl (by rw [PL.out]; exact Try.size43)) rfl ⟨rfl, HT, e2, e5⟩
end Go.Proofs.Ytfegffdhlkhjbaa
