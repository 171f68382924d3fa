/-
  What is proved: all items but those of two keys (others). Conditions as stated.
-/
import Derived.Test.YtejckimplihmiaaDoorMa
namespace Go.Proofs.YtejckimplihmiaaDoor
open Go.RowKit
set_option maxRecDepth 100000

def rest (xs : List It) (a b : ByteArray) : List It := xs.filter fun p => decide (p.1 ≠ a) && decide (p.1 ≠ b)
theorem rest_take {xs : List It} {a b : ByteArray} {j : Nat} {p : It} (hp : xs[j]? = some p) : rest (xs.take (j + 1)) a b = rest (xs.take j) a b ++ if decide (p.1 ≠ a) && decide (p.1 ≠ b) then [p] else [] := by
  rw [List.take_add_one, hp, rest, List.filter_append]
  congr 1
  simp [List.filter_cons]
set_option maxHeartbeats 4000000 in
theorem others_any (A : Option Addr) (c : Nat) (xs : List It) (a b : ByteArray) (w : World) (h : Its w A xs) (hn : xs.length ≤ 1000) :
    Calls Tryd.prog 21 #[.slice A xs.length c, .string a, .string b] w fun E w' => ListP w (rest xs a b) E w' := by
  obtain ⟨i0, hi0, hz0, hzs, hzb⟩ := info_parts Tryd.info27
  have HX := Lib.hid h
  have HF : Hid (∀ v W, W.ownsRow w.heap.size 27 2 v (rest xs a b).length (itC (rest xs a b)) → Below w.heap.size w W → ListP w (rest xs a b) (.returned v) W) := Lib.hid fun v W ho hb => by
    obtain ⟨r, c, rfl, hr, hg⟩ := rw_of_own ho
    exact ⟨r, c, rfl, hr, hg, hb⟩
  obtain ⟨n, hnn⟩ : ∃ n, n = xs.length := ⟨_, rfl⟩
  have HL := Lib.hid hnn
  rw [← hnn] at hn ⊢
  clear h hnn
  have HS : Hid (w.ownsRow w.heap.size 27 2 (.slice none 0 0) (rest (xs.take 0) a b).length (itC (rest (xs.take 0) a b)) ∧ Below w.heap.size w w) := Lib.hid ⟨World.ownsRow_nil _ _ _ _, Below.refl _ _⟩
  have HLen : Hid (∀ j, (rest (xs.take j) a b).length ≤ 1000) := Lib.hid fun j => Nat.le_trans (List.length_filter_le _ _) (by rw [List.length_take]; have := HL.out; omega)
  go_enter Tryd.func21, Tryd.ntmps21
  go_wp2_with fail
  go_loopw [7, 8] (fun v7 v8 wr => ∃ (j : Nat) (v : Value), j ≤ n ∧ v8 = .int .i64 (j : Int) ∧ v = v7 ∧ Hid (wr.ownsRow w.heap.size 27 2 v (rest (xs.take j) a b).length (itC (rest (xs.take j) a b)) ∧ Below w.heap.size w wr)) (fun _ v8 _ => n - (intOf v8).toNat)
  case atStart => exact ⟨0, _, by omega, rfl, rfl, HS⟩
  case round =>
    obtain ⟨j, v7, hj, rfl, rfl, HR⟩ := hrel
    by_cases hjj : j < n
    · obtain ⟨bb, o, rfl, hbl, hc⟩ := HX.out (by rw [← HL.out]; omega)
      obtain ⟨p, hp⟩ : ∃ p, xs[j]? = some p := ⟨_, List.getElem?_eq_getElem (by rw [← HL.out]; exact hjj)⟩
      have c0 : wr.cell? ⟨bb, o + j * 2, none⟩ = some (.string p.1) := (HR.out.2.cell (p := ⟨bb, o + j * 2, none⟩) hbl).trans (hc j p hp).1
      have c1 : wr.cell? ⟨bb, o + j * 2 + 1, none⟩ = some (.string p.2) := (HR.out.2.cell (p := ⟨bb, o + j * 2 + 1, none⟩) hbl).trans (hc j p hp).2
      have HT := Lib.hid (rest_take (a := a) (b := b) hp)
      have e1 : ∀ {x y : ByteArray}, x ≠ y → (x.toList == y.toList) = false := fun {x y} hne => by
        cases h : x.toList == y.toList with
        | false => rfl
        | true => exact absurd (toList_inj (by simpa using h)) hne
      clear hc hp
      by_cases ha : p.1 = a
      · have ha' : (p.1.toList == a.toList) = true := by rw [ha]; simp
        have HT2 : Hid (rest (xs.take (j + 1)) a b = rest (xs.take j) a b) := Lib.hid (by rw [HT.out]; simp [ha])
        clear e1 ha HT
        go_wp2_with fail
        go_roundw
        case measure => simp [intOf] <;> omega
        case rel => exact ⟨j + 1, _, by omega, by go_num, rfl, Lib.hid (by rw [HT2.out]; exact HR.out)⟩
      · have ha' := e1 ha
        by_cases hb : p.1 = b
        · have hb' : (p.1.toList == b.toList) = true := by rw [hb]; simp
          have HT2 : Hid (rest (xs.take (j + 1)) a b = rest (xs.take j) a b) := Lib.hid (by rw [HT.out]; simp [hb])
          clear e1 ha hb HT
          go_wp2_with fail
          go_roundw
          case measure => simp [intOf] <;> omega
          case rel => exact ⟨j + 1, _, by omega, by go_num, rfl, Lib.hid (by rw [HT2.out]; exact HR.out)⟩
        · have hb' := e1 hb
          have HT2 : Hid (rest (xs.take (j + 1)) a b = rest (xs.take j) a b ++ [p]) := Lib.hid (by rw [HT.out]; simp [ha, hb])
          have HO : Hid ((wr.alloc (.cells #[.string p.1, .string p.2] 27)).ownsRow w.heap.size 27 2 v7 (rest (xs.take j) a b).length (itC (rest (xs.take j) a b))) := Lib.hid (HR.out.1.alloc _)
          have HB : Hid (Below w.heap.size w (wr.alloc (.cells #[.string p.1, .string p.2] 27))) := Lib.hid (HR.out.2.alloc HR.out.2.size _)
          have HV : Hid (∀ j u, (pC p)[j]? = some u → (wr.alloc (.cells #[.string p.1, .string p.2] 27)).cell? ((⟨wr.heap.size, 0, none⟩ : Addr).add j) = some u) := Lib.hid fun j u hj => by
            rw [Addr.add_lit, Nat.zero_add]
            exact block_cell (C := pC p) (t := 27) (heap_alloc_new wr (.cells (pC p).toArray 27)) j u hj
          have H1 := Lib.hid (pC_one p)
          have HLt : Hid (∀ k, v7.ownBlock = some k → w.heap.size ≤ k) := Lib.hid fun k hk => (HR.out.1.lt k hk).1
          have HSz : Hid (w.heap.size ≤ (wr.alloc (.cells #[.string p.1, .string p.2] 27)).heap.size) := Lib.hid HB.out.size
          have HN2 := Lib.hid (HLen.out j)
          have HG : Hid (∀ v' w', w'.ownsRow w.heap.size 27 2 v' ((rest (xs.take j) a b).length + 1) (itC (rest (xs.take j) a b) ++ pC p) → (wr.alloc (.cells #[.string p.1, .string p.2] 27)).grownBy w' v7.ownBlock → w'.ownsRow w.heap.size 27 2 v' (rest (xs.take (j + 1)) a b).length (itC (rest (xs.take (j + 1)) a b)) ∧ Below w.heap.size w w') := Lib.hid fun v' w' ho hg => by
            rw [HT2.out, itC_app, List.length_append]
            refine ⟨?_, HB.out.grown hg HB.out.size (fun k hk => HLt.out k hk)⟩
            have e : itC [p] = pC p := by simp [itC, pC]
            rw [e]
            exact ho
          clear e1 ha hb HT HT2 HR HLen
          obtain ⟨m, hm⟩ : ∃ m, m = (rest (xs.take j) a b).length := ⟨_, rfl⟩
          obtain ⟨C, hC⟩ : ∃ C, C = itC (rest (xs.take j) a b) := ⟨_, rfl⟩
          rw [← hm, ← hC] at HO HG
          rw [← hm] at HN2
          clear hm hC
          go_wp2_with (at_builtin; refine wpList_append_own _ rfl _ _ 22 rfl w.heap.size 27 i0 _ 2 32 Tryd.underlying22 hi0 hz0 hzs hzb (by simp [Value.cells]) (by omega) _ m C rfl HO.out ⟨wr.heap.size, 0, none⟩ 1 1 (pC p) rfl rfl HV.out H1.out (by have := HN2.out; unfold maxLen; omega) (by have := HN2.out; omega) HSz.out ?_; intro v' w1 hown hgrow hnil)
          have HQ := Lib.hid (HG.out v' w1 hown hgrow)
          clear hown hgrow hnil HG HO HV
          go_wp2_with fail
          go_roundw
          case measure => simp [intOf] <;> omega
          case rel => exact ⟨j + 1, _, by omega, by go_num, rfl, HQ⟩
    · obtain rfl : j = n := by omega
      have HQ := HF.out v7 wr (by have := HR.out.1; rwa [List.take_of_length_le (by rw [← HL.out]; exact Nat.le_refl _)] at this) HR.out.2
      have HQ2 := Lib.hid HQ
      clear HQ
      go_wp2_with fail
      go_ret
      exact HQ2.out
end Go.Proofs.YtejckimplihmiaaDoor
