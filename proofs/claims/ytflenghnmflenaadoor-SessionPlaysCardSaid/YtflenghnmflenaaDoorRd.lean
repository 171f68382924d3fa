/-
  What is proved: the document's own ledger: a key's value set. Conditions as stated.
-/
import Derived.Test.YtflenghnmflenaaDoorRc
namespace Go.Proofs.YtflenghnmflenaaDoor
open Go.RowKit
set_option maxRecDepth 100000

/-- Some items of a row, at their place. -/
theorem row_cells {W : World} {b c : Nat} {xs : List It} (h : Rw W (some b) c xs) (i m : Nat) : ∀ j u, (itC ((xs.drop i).take m))[j]? = some u → W.cell? ((⟨b, i * 2, none⟩ : Addr).add j) = some u := fun j u hu => by
  rw [Addr.add_lit]
  obtain ⟨R, hB, _⟩ := h.blk
  refine hB.cell ?_
  have hl : j < (itC ((xs.drop i).take m)).length := (List.getElem?_eq_some_iff.1 hu).1
  rw [← itC_take, ← itC_drop] at hu
  rw [List.getElem?_take] at hu
  split at hu
  · rw [List.getElem?_drop] at hu
    rw [List.getElem?_append_left (List.getElem?_eq_some_iff.1 hu).1]
    exact hu
  · cases hu
theorem wpList_app {w0 w : World} {ops : Array Oper} {rest : List Oper} {o : Oper} {a : Act} {Q : Exit → Act → World → Prop} (hgd : o.guard = none) (s x : Operand)
    (ho : o.op = .call { callee := .builtin .append, args := #[s, x], argTypes := #[43, 43] }) {v : Value} {n : Nat} {C : List Value} (hs : a.eval s = v) (hown : w.ownsRow w0.heap.size 64 2 v n C) (hb : Below w0.heap.size w0 w)
    (ad : Addr) (m c : Nat) (news : List Value) (hx : a.eval x = .slice (some ad) m c) (hl : news.length = m * 2) (hnews : ∀ j u, news[j]? = some u → w.cell? (ad.add j) = some u) (h1 : ∀ u ∈ news, u.oneCell' = true) (h63 : n + m ≤ 4000)
    (h : ∀ v' w', w'.ownsRow w0.heap.size 64 2 v' (n + m) (C ++ news) → Below w0.heap.size w0 w' → wpList Tryd.prog ops Q rest (a.put o.dst v') w') : wpList Tryd.prog ops Q (o :: rest) a w := by
  obtain ⟨i0, hi0, hz0, hzs, hzb⟩ := info_parts Tryd.info64
  refine wpList_append_own w hgd s x 43 ho w0.heap.size 64 i0 _ 2 32 Tryd.underlying43 hi0 hz0 hzs hzb (by simp [Value.cells]) (by omega) v n C hs hown ad m c news hx hl hnews h1 (by unfold maxLen; omega) (by omega) hb.size ?_
  intro v' w' ho' hg _
  exact h v' w' ho' (hb.grown hg hb.size fun k hk => (hown.lt k hk).1)
theorem rset_fin {w W : World} {g : Nat} {r : Option Nat} {c : Nat} {xs ys : List It} {v : Value} (h : RL w g r c xs) (ho : W.ownsRow w.heap.size 64 2 v ys.length (itC ys)) (hb : Below w.heap.size w W) :
    ∃ r' c', RL (W.setCell ⟨g, 0, none⟩ v) g r' c' ys ∧ Own w (On g r) (W.setCell ⟨g, 0, none⟩ v) (On g r') := by
  obtain ⟨r', c', rfl, hr, hg⟩ := rw_of_own ho
  have ht : W.heap[g]? = some (.cells #[.slice (slA r) xs.length c] 45 (0, 0)) := (hb.block g h.lt).trans h.top
  refine ⟨r', c', ⟨by simp [World.setCell, Array.getElem?_modify, ht], hr.kept fun b e => Below.heap_setCell W ⟨g, 0, none⟩ _ b ?_⟩, (Turns.of_below hb).setCell (.inl (.inl rfl)) 0 _, ?_⟩
  · have h1 := hg b e
    have h2 := h.lt
    show b ≠ g
    omega
  · rintro k (rfl | hk)
    · exact .inl (.inl rfl)
    · exact .inr (hg k hk)
theorem set_none {xs : List It} {k v : ByteArray} (h : hasK xs k = false) : setK xs k v = xs.take (posOf xs k) ++ (k, v) :: xs.drop (posOf xs k) := by rw [setK, h]; rfl
theorem set_some {xs : List It} {k v : ByteArray} (h : hasK xs k = true) : setK xs k v = xs.take (posOf xs k) ++ (k, v) :: xs.drop (posOf xs k + 1) := by rw [setK, if_pos h]
set_option maxHeartbeats 8000000 in
theorem rset_some {w : World} {g b c : Nat} {xs : List It} (h : RL w g (some b) c xs) (hn : xs.length ≤ 1000) (k v : ByteArray) :
    Calls Tryd.prog 37 #[.pointer (some ⟨g, 0, none⟩), .string k, .string v] w fun E w' => E = .returned (.tuple #[]) ∧ ∃ r' c', RL w' g r' c' (setK xs k v) ∧ Own w (On g (some b)) w' (On g r') := by
  have HF := Lib.hid (rfind_any h hn k)
  have HL := Lib.hid h
  have hc1 := h.row.c
  obtain ⟨n, hnn⟩ : ∃ n, n = xs.length := ⟨_, rfl⟩
  have HN := Lib.hid hnn
  rw [← hnn] at hc1 hn
  have hPn : posOf xs k ≤ n := by rw [hnn]; exact posOf_le xs k
  obtain ⟨P, hP⟩ : ∃ P, P = posOf xs k := ⟨_, rfl⟩
  have HP := Lib.hid hP
  rw [← hP] at HF hPn
  clear h hnn hP
  go_enter Tryd.func37, Tryd.ntmps37
  go_wp2_with (go_at_call 38; refine HF.out.mono ?_)
  rintro E w1 ⟨rfl, b1⟩
  have HB1 := Lib.hid b1
  have cg : w1.cell? ⟨g, 0, none⟩ = some (.slice (some ⟨b, 0, none⟩) n c) := by rw [HN.out]; exact (HL.out.below b1).cell
  have hP0 : (0 : Int) ≤ (P : Int) := by omega
  have hPc : (P : Int) ≤ (c : Int) := by omega
  have hPn2 : (P : Int) ≤ (n : Int) := by omega
  have htn : ((P : Int)).toNat = P := by omega
  have q4 : (n : Int) ≤ (c : Int) := by omega
  have HT : Hid (∀ j u, (itC (xs.take P))[j]? = some u → w1.cell? ((⟨b, 0, none⟩ : Addr).add j) = some u) := Lib.hid fun j u hu => by
    have := row_cells (HL.out.below b1).row 0 P j u (by simpa using hu)
    simpa using this
  have HTl : Hid ((itC (xs.take P)).length = P * 2) := Lib.hid (by rw [itC_length, List.length_take, ← HN.out, Nat.min_eq_left hPn])
  have HT1 := Lib.hid (itC_one (xs.take P))
  have HO0 := Lib.hid (World.ownsRow_nil w1 w.heap.size 64 2)
  have H1 := Lib.hid (pC_one (k, v))
  obtain ⟨CT, hCT⟩ : ∃ C, C = itC (xs.take P) := ⟨_, rfl⟩
  have HCT := Lib.hid hCT
  rw [← hCT] at HT HTl HT1
  clear b1 HF hCT
  obtain ⟨z, hz⟩ : ∃ z, z = hasK xs k := ⟨_, rfl⟩
  have HZ := Lib.hid hz
  have hz1 : z = true → P < n := fun h => by rw [HN.out, HP.out]; exact pos_lt_of_has (by rw [← hz, h])
  rw [← hz]
  clear hz
  cases z with
  | false =>
    clear hz1
    by_cases hcD : c = P
    · have hcD2 := hcD.symm
      subst hcD2
      have HDl : Hid ((itC (xs.drop P)).length = 0 * 2) := Lib.hid (by rw [itC_length, List.length_drop, ← HN.out]; omega)
      have HD1 := Lib.hid (itC_one (xs.drop P))
      have HD2 : Hid (∀ W, Below w.heap.size w W → ∀ j u, (itC (xs.drop P))[j]? = some u → W.cell? ((⟨b, 0, none⟩ : Addr).add j) = some u) := Lib.hid fun W hb j u hu => by
        have : xs.drop P = [] := List.drop_eq_nil_of_le (by rw [← HN.out]; omega)
        rw [this] at hu
        simp [itC] at hu
      have HEnd : Hid (∀ v4 W, W.ownsRow w.heap.size 64 2 v4 (P + 1 + 0) (CT ++ pC (k, v) ++ itC (xs.drop P)) → Below w.heap.size w W → ∃ r' c', v4 = .slice (slA r') (P + 1 + 0) c' ∧ ∃ r2 c2, RL (W.setCell ⟨g, 0, none⟩ (.slice (slA r') (P + 1 + 0) c')) g r2 c2 (setK xs k v) ∧ Own w (On g (some b)) (W.setCell ⟨g, 0, none⟩ (.slice (slA r') (P + 1 + 0) c')) (On g r2)) := Lib.hid fun v4 W ho hb => by
        have hs : setK xs k v = xs.take P ++ (k, v) :: xs.drop P := by rw [set_none HZ.out.symm, HP.out]
        rw [hs]
        have e1 : (xs.take P ++ (k, v) :: xs.drop P).length = P + 1 + 0 := by
          rw [List.length_append, List.length_take, List.length_cons, List.length_drop, ← HN.out, Nat.min_eq_left hPn]
          omega
        have e2 : itC (xs.take P ++ (k, v) :: xs.drop P) = CT ++ pC (k, v) ++ itC (xs.drop P) := by
          rw [itC_app, itC_cons, HCT.out, List.append_assoc]
          rfl
        rw [← e1, ← e2] at ho
        obtain ⟨r', c', he, _, _⟩ := rw_of_own ho
        rw [e1] at he
        refine ⟨r', c', he, ?_⟩
        rw [← he]
        exact rset_fin HL.out ho hb
      obtain ⟨CD, hCD⟩ : ∃ C, C = itC (xs.drop P) := ⟨_, rfl⟩
      rw [← hCD] at HDl HD1 HD2 HEnd
      clear hCD
      go_wp2_with (first
        | (at_builtin
           refine wpList_app rfl _ _ rfl rfl HO0.out HB1.out ⟨b, 0, none⟩ P P CT rfl HTl.out HT.out HT1.out (by omega) ?_
           intro v1 w2 hown hb2
           rw [Nat.zero_add, List.nil_append] at hown
           have HO2 : Hid ((w2.alloc (.cells #[.string k, .string v] 64)).ownsRow w.heap.size 64 2 v1 P CT) := Lib.hid (hown.alloc _)
           have HB3 : Hid (Below w.heap.size w (w2.alloc (.cells #[.string k, .string v] 64))) := Lib.hid (hb2.alloc hb2.size _)
           have HV : Hid (∀ j u, (pC (k, v))[j]? = some u → (w2.alloc (.cells #[.string k, .string v] 64)).cell? ((⟨w2.heap.size, 0, none⟩ : Addr).add j) = some u) := Lib.hid fun j u hj => by
             rw [Addr.add_lit, Nat.zero_add]
             exact block_cell (C := pC (k, v)) (t := 64) (heap_alloc_new w2 (.cells (pC (k, v)).toArray 64)) j u hj
           clear hown hb2 HT HB1 cg HO0)
        | (at_builtin
           refine wpList_app rfl _ _ rfl rfl HO2.out HB3.out ⟨w2.heap.size, 0, none⟩ 1 1 (pC (k, v)) rfl rfl HV.out H1.out (by omega) ?_
           intro v2 w3 hown hb4
           have HO3 := Lib.hid hown
           have HB4 := Lib.hid hb4
           have cg2 : w3.cell? ⟨g, 0, none⟩ = some (.slice (some ⟨b, 0, none⟩) n P) := by rw [HN.out]; exact (HL.out.below hb4).cell
           clear hown hb4 HO2 HB3 HV)
        | (at_builtin
           refine wpList_app rfl _ _ rfl rfl HO3.out HB4.out ⟨b, 0, none⟩ 0 0 CD rfl HDl.out (HD2.out w3 HB4.out) HD1.out (by omega) ?_
           intro v3 w4 hown hb5
           obtain ⟨r', c', rfl, hX⟩ := HEnd.out v3 w4 hown hb5
           have HX := Lib.hid hX
           have ht4 : w4.heap[g]? = some (.cells #[.slice (some ⟨b, 0, none⟩) n P] 45 (0, 0)) := by rw [HN.out]; exact (hb5.block g HL.out.lt).trans HL.out.top
           have cg4 : w4.cell? ⟨g, 0, none⟩ = some (.slice (some ⟨b, 0, none⟩) n P) := by rw [HN.out]; exact (HL.out.below hb5).cell
           have fz4 : w4.frozen? ⟨g, 0, none⟩ = false := free_block ht4 0
           clear hX hown hb5 HO3 HB4 cg2 ht4))
      go_end0
      exact ⟨rfl, HX.out⟩
    · have HDl : Hid ((itC (xs.drop P)).length = (n - P) * 2) := Lib.hid (by rw [itC_length, List.length_drop, ← HN.out])
      have HD1 := Lib.hid (itC_one (xs.drop P))
      have HD2 : Hid (∀ W, Below w.heap.size w W → ∀ j u, (itC (xs.drop P))[j]? = some u → W.cell? ((⟨b, P * 2, none⟩ : Addr).add j) = some u) := Lib.hid fun W hb j u hu => by
        refine row_cells (HL.out.below hb).row P (n - P) j u ?_
        rw [List.take_of_length_le (by rw [List.length_drop, ← HN.out]; exact Nat.le_refl _)]
        exact hu
      have HEnd : Hid (∀ v4 W, W.ownsRow w.heap.size 64 2 v4 (P + 1 + (n - P)) (CT ++ pC (k, v) ++ itC (xs.drop P)) → Below w.heap.size w W → ∃ r' c', v4 = .slice (slA r') (P + 1 + (n - P)) c' ∧ ∃ r2 c2, RL (W.setCell ⟨g, 0, none⟩ (.slice (slA r') (P + 1 + (n - P)) c')) g r2 c2 (setK xs k v) ∧ Own w (On g (some b)) (W.setCell ⟨g, 0, none⟩ (.slice (slA r') (P + 1 + (n - P)) c')) (On g r2)) := Lib.hid fun v4 W ho hb => by
        have hs : setK xs k v = xs.take P ++ (k, v) :: xs.drop P := by rw [set_none HZ.out.symm, HP.out]
        rw [hs]
        have e1 : (xs.take P ++ (k, v) :: xs.drop P).length = P + 1 + (n - P) := by
          rw [List.length_append, List.length_take, List.length_cons, List.length_drop, ← HN.out, Nat.min_eq_left hPn]
          omega
        have e2 : itC (xs.take P ++ (k, v) :: xs.drop P) = CT ++ pC (k, v) ++ itC (xs.drop P) := by
          rw [itC_app, itC_cons, HCT.out, List.append_assoc]
          rfl
        rw [← e1, ← e2] at ho
        obtain ⟨r', c', he, _, _⟩ := rw_of_own ho
        rw [e1] at he
        refine ⟨r', c', he, ?_⟩
        rw [← he]
        exact rset_fin HL.out ho hb
      obtain ⟨CD, hCD⟩ : ∃ C, C = itC (xs.drop P) := ⟨_, rfl⟩
      rw [← hCD] at HDl HD1 HD2 HEnd
      clear hCD
      go_wp2_with (first
        | (at_builtin
           refine wpList_app rfl _ _ rfl rfl HO0.out HB1.out ⟨b, 0, none⟩ P c CT rfl HTl.out HT.out HT1.out (by omega) ?_
           intro v1 w2 hown hb2
           rw [Nat.zero_add, List.nil_append] at hown
           have HO2 : Hid ((w2.alloc (.cells #[.string k, .string v] 64)).ownsRow w.heap.size 64 2 v1 P CT) := Lib.hid (hown.alloc _)
           have HB3 : Hid (Below w.heap.size w (w2.alloc (.cells #[.string k, .string v] 64))) := Lib.hid (hb2.alloc hb2.size _)
           have HV : Hid (∀ j u, (pC (k, v))[j]? = some u → (w2.alloc (.cells #[.string k, .string v] 64)).cell? ((⟨w2.heap.size, 0, none⟩ : Addr).add j) = some u) := Lib.hid fun j u hj => by
             rw [Addr.add_lit, Nat.zero_add]
             exact block_cell (C := pC (k, v)) (t := 64) (heap_alloc_new w2 (.cells (pC (k, v)).toArray 64)) j u hj
           clear hown hb2 HT HB1 cg HO0)
        | (at_builtin
           refine wpList_app rfl _ _ rfl rfl HO2.out HB3.out ⟨w2.heap.size, 0, none⟩ 1 1 (pC (k, v)) rfl rfl HV.out H1.out (by omega) ?_
           intro v2 w3 hown hb4
           have HO3 := Lib.hid hown
           have HB4 := Lib.hid hb4
           have cg2 : w3.cell? ⟨g, 0, none⟩ = some (.slice (some ⟨b, 0, none⟩) n c) := by rw [HN.out]; exact (HL.out.below hb4).cell
           clear hown hb4 HO2 HB3 HV)
        | (at_builtin
           refine wpList_app rfl _ _ rfl rfl HO3.out HB4.out ⟨b, P * 2, none⟩ (n - P) (c - P) CD rfl HDl.out (HD2.out w3 HB4.out) HD1.out (by omega) ?_
           intro v3 w4 hown hb5
           obtain ⟨r', c', rfl, hX⟩ := HEnd.out v3 w4 hown hb5
           have HX := Lib.hid hX
           have ht4 : w4.heap[g]? = some (.cells #[.slice (some ⟨b, 0, none⟩) n c] 45 (0, 0)) := by rw [HN.out]; exact (hb5.block g HL.out.lt).trans HL.out.top
           have cg4 : w4.cell? ⟨g, 0, none⟩ = some (.slice (some ⟨b, 0, none⟩) n c) := by rw [HN.out]; exact (HL.out.below hb5).cell
           have fz4 : w4.frozen? ⟨g, 0, none⟩ = false := free_block ht4 0
           clear hX hown hb5 HO3 HB4 cg2 ht4))
      go_end0
      exact ⟨rfl, HX.out⟩
  | true =>
    have hPn1 := hz1 rfl
    have hw1 : IntKind.i64.wrap ((P : Int) + 1) = ((P + 1 : Nat) : Int) := by rw [IntKind.wrap_i64]; omega
    have q0 : (0 : Int) ≤ ((P + 1 : Nat) : Int) := by omega
    have q1 : ((P + 1 : Nat) : Int) ≤ (n : Int) := by omega
    have q3 : ((P + 1 : Nat) : Int) ≤ (c : Int) := by omega
    have q2 : (((P + 1 : Nat) : Int)).toNat = P + 1 := by omega
    obtain ⟨D, hD⟩ : ∃ D, D = P + 1 := ⟨_, rfl⟩
    rw [← hD] at hw1 q0 q1 q2 q3
    have HDn : Hid (D = posOf xs k + 1) := Lib.hid (by rw [hD, HP.out])
    have hDn : D ≤ n := by omega
    clear hD hz1
    by_cases hcD : c = D
    · have hcD2 := hcD.symm
      subst hcD2
      have HDl : Hid ((itC (xs.drop D)).length = 0 * 2) := Lib.hid (by rw [itC_length, List.length_drop, ← HN.out]; omega)
      have HD1 := Lib.hid (itC_one (xs.drop D))
      have HD2 : Hid (∀ W, Below w.heap.size w W → ∀ j u, (itC (xs.drop D))[j]? = some u → W.cell? ((⟨b, 0, none⟩ : Addr).add j) = some u) := Lib.hid fun W hb j u hu => by
        have : xs.drop D = [] := List.drop_eq_nil_of_le (by rw [← HN.out]; omega)
        rw [this] at hu
        simp [itC] at hu
      have HEnd : Hid (∀ v4 W, W.ownsRow w.heap.size 64 2 v4 (P + 1 + 0) (CT ++ pC (k, v) ++ itC (xs.drop D)) → Below w.heap.size w W → ∃ r' c', v4 = .slice (slA r') (P + 1 + 0) c' ∧ ∃ r2 c2, RL (W.setCell ⟨g, 0, none⟩ (.slice (slA r') (P + 1 + 0) c')) g r2 c2 (setK xs k v) ∧ Own w (On g (some b)) (W.setCell ⟨g, 0, none⟩ (.slice (slA r') (P + 1 + 0) c')) (On g r2)) := Lib.hid fun v4 W ho hb => by
        have hs : setK xs k v = xs.take P ++ (k, v) :: xs.drop D := by rw [set_some HZ.out.symm, HP.out, HDn.out]
        rw [hs]
        have e1 : (xs.take P ++ (k, v) :: xs.drop D).length = P + 1 + 0 := by
          rw [List.length_append, List.length_take, List.length_cons, List.length_drop, ← HN.out, Nat.min_eq_left hPn]
          omega
        have e2 : itC (xs.take P ++ (k, v) :: xs.drop D) = CT ++ pC (k, v) ++ itC (xs.drop D) := by
          rw [itC_app, itC_cons, HCT.out, List.append_assoc]
          rfl
        rw [← e1, ← e2] at ho
        obtain ⟨r', c', he, _, _⟩ := rw_of_own ho
        rw [e1] at he
        refine ⟨r', c', he, ?_⟩
        rw [← he]
        exact rset_fin HL.out ho hb
      obtain ⟨CD, hCD⟩ : ∃ C, C = itC (xs.drop D) := ⟨_, rfl⟩
      rw [← hCD] at HDl HD1 HD2 HEnd
      clear hCD
      go_wp2_with (first
        | (at_builtin
           refine wpList_app rfl _ _ rfl rfl HO0.out HB1.out ⟨b, 0, none⟩ P D CT rfl HTl.out HT.out HT1.out (by omega) ?_
           intro v1 w2 hown hb2
           rw [Nat.zero_add, List.nil_append] at hown
           have HO2 : Hid ((w2.alloc (.cells #[.string k, .string v] 64)).ownsRow w.heap.size 64 2 v1 P CT) := Lib.hid (hown.alloc _)
           have HB3 : Hid (Below w.heap.size w (w2.alloc (.cells #[.string k, .string v] 64))) := Lib.hid (hb2.alloc hb2.size _)
           have HV : Hid (∀ j u, (pC (k, v))[j]? = some u → (w2.alloc (.cells #[.string k, .string v] 64)).cell? ((⟨w2.heap.size, 0, none⟩ : Addr).add j) = some u) := Lib.hid fun j u hj => by
             rw [Addr.add_lit, Nat.zero_add]
             exact block_cell (C := pC (k, v)) (t := 64) (heap_alloc_new w2 (.cells (pC (k, v)).toArray 64)) j u hj
           clear hown hb2 HT HB1 cg HO0)
        | (at_builtin
           refine wpList_app rfl _ _ rfl rfl HO2.out HB3.out ⟨w2.heap.size, 0, none⟩ 1 1 (pC (k, v)) rfl rfl HV.out H1.out (by omega) ?_
           intro v2 w3 hown hb4
           have HO3 := Lib.hid hown
           have HB4 := Lib.hid hb4
           have cg2 : w3.cell? ⟨g, 0, none⟩ = some (.slice (some ⟨b, 0, none⟩) n D) := by rw [HN.out]; exact (HL.out.below hb4).cell
           clear hown hb4 HO2 HB3 HV)
        | (at_builtin
           refine wpList_app rfl _ _ rfl rfl HO3.out HB4.out ⟨b, 0, none⟩ 0 0 CD rfl HDl.out (HD2.out w3 HB4.out) HD1.out (by omega) ?_
           intro v3 w4 hown hb5
           obtain ⟨r', c', rfl, hX⟩ := HEnd.out v3 w4 hown hb5
           have HX := Lib.hid hX
           have ht4 : w4.heap[g]? = some (.cells #[.slice (some ⟨b, 0, none⟩) n D] 45 (0, 0)) := by rw [HN.out]; exact (hb5.block g HL.out.lt).trans HL.out.top
           have cg4 : w4.cell? ⟨g, 0, none⟩ = some (.slice (some ⟨b, 0, none⟩) n D) := by rw [HN.out]; exact (HL.out.below hb5).cell
           have fz4 : w4.frozen? ⟨g, 0, none⟩ = false := free_block ht4 0
           clear hX hown hb5 HO3 HB4 cg2 ht4))
      go_end0
      exact ⟨rfl, HX.out⟩
    · have HDl : Hid ((itC (xs.drop D)).length = (n - D) * 2) := Lib.hid (by rw [itC_length, List.length_drop, ← HN.out])
      have HD1 := Lib.hid (itC_one (xs.drop D))
      have HD2 : Hid (∀ W, Below w.heap.size w W → ∀ j u, (itC (xs.drop D))[j]? = some u → W.cell? ((⟨b, D * 2, none⟩ : Addr).add j) = some u) := Lib.hid fun W hb j u hu => by
        refine row_cells (HL.out.below hb).row D (n - D) j u ?_
        rw [List.take_of_length_le (by rw [List.length_drop, ← HN.out]; exact Nat.le_refl _)]
        exact hu
      have HEnd : Hid (∀ v4 W, W.ownsRow w.heap.size 64 2 v4 (P + 1 + (n - D)) (CT ++ pC (k, v) ++ itC (xs.drop D)) → Below w.heap.size w W → ∃ r' c', v4 = .slice (slA r') (P + 1 + (n - D)) c' ∧ ∃ r2 c2, RL (W.setCell ⟨g, 0, none⟩ (.slice (slA r') (P + 1 + (n - D)) c')) g r2 c2 (setK xs k v) ∧ Own w (On g (some b)) (W.setCell ⟨g, 0, none⟩ (.slice (slA r') (P + 1 + (n - D)) c')) (On g r2)) := Lib.hid fun v4 W ho hb => by
        have hs : setK xs k v = xs.take P ++ (k, v) :: xs.drop D := by rw [set_some HZ.out.symm, HP.out, HDn.out]
        rw [hs]
        have e1 : (xs.take P ++ (k, v) :: xs.drop D).length = P + 1 + (n - D) := by
          rw [List.length_append, List.length_take, List.length_cons, List.length_drop, ← HN.out, Nat.min_eq_left hPn]
          omega
        have e2 : itC (xs.take P ++ (k, v) :: xs.drop D) = CT ++ pC (k, v) ++ itC (xs.drop D) := by
          rw [itC_app, itC_cons, HCT.out, List.append_assoc]
          rfl
        rw [← e1, ← e2] at ho
        obtain ⟨r', c', he, _, _⟩ := rw_of_own ho
        rw [e1] at he
        refine ⟨r', c', he, ?_⟩
        rw [← he]
        exact rset_fin HL.out ho hb
      obtain ⟨CD, hCD⟩ : ∃ C, C = itC (xs.drop D) := ⟨_, rfl⟩
      rw [← hCD] at HDl HD1 HD2 HEnd
      clear hCD
      go_wp2_with (first
        | (at_builtin
           refine wpList_app rfl _ _ rfl rfl HO0.out HB1.out ⟨b, 0, none⟩ P c CT rfl HTl.out HT.out HT1.out (by omega) ?_
           intro v1 w2 hown hb2
           rw [Nat.zero_add, List.nil_append] at hown
           have HO2 : Hid ((w2.alloc (.cells #[.string k, .string v] 64)).ownsRow w.heap.size 64 2 v1 P CT) := Lib.hid (hown.alloc _)
           have HB3 : Hid (Below w.heap.size w (w2.alloc (.cells #[.string k, .string v] 64))) := Lib.hid (hb2.alloc hb2.size _)
           have HV : Hid (∀ j u, (pC (k, v))[j]? = some u → (w2.alloc (.cells #[.string k, .string v] 64)).cell? ((⟨w2.heap.size, 0, none⟩ : Addr).add j) = some u) := Lib.hid fun j u hj => by
             rw [Addr.add_lit, Nat.zero_add]
             exact block_cell (C := pC (k, v)) (t := 64) (heap_alloc_new w2 (.cells (pC (k, v)).toArray 64)) j u hj
           clear hown hb2 HT HB1 cg HO0)
        | (at_builtin
           refine wpList_app rfl _ _ rfl rfl HO2.out HB3.out ⟨w2.heap.size, 0, none⟩ 1 1 (pC (k, v)) rfl rfl HV.out H1.out (by omega) ?_
           intro v2 w3 hown hb4
           have HO3 := Lib.hid hown
           have HB4 := Lib.hid hb4
           have cg2 : w3.cell? ⟨g, 0, none⟩ = some (.slice (some ⟨b, 0, none⟩) n c) := by rw [HN.out]; exact (HL.out.below hb4).cell
           clear hown hb4 HO2 HB3 HV)
        | (at_builtin
           refine wpList_app rfl _ _ rfl rfl HO3.out HB4.out ⟨b, D * 2, none⟩ (n - D) (c - D) CD rfl HDl.out (HD2.out w3 HB4.out) HD1.out (by omega) ?_
           intro v3 w4 hown hb5
           obtain ⟨r', c', rfl, hX⟩ := HEnd.out v3 w4 hown hb5
           have HX := Lib.hid hX
           have ht4 : w4.heap[g]? = some (.cells #[.slice (some ⟨b, 0, none⟩) n c] 45 (0, 0)) := by rw [HN.out]; exact (hb5.block g HL.out.lt).trans HL.out.top
           have cg4 : w4.cell? ⟨g, 0, none⟩ = some (.slice (some ⟨b, 0, none⟩) n c) := by rw [HN.out]; exact (HL.out.below hb5).cell
           have fz4 : w4.frozen? ⟨g, 0, none⟩ = false := free_block ht4 0
           clear hX hown hb5 HO3 HB4 cg2 ht4))
      go_end0
      exact ⟨rfl, HX.out⟩
end Go.Proofs.YtflenghnmflenaaDoor
