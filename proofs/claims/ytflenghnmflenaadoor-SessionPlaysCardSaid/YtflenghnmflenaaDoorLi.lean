/-
  What is proved: an item is taken out of a row. Conditions as stated.
-/
import Derived.Test.YtflenghnmflenaaDoorLh
namespace Go.Proofs.YtflenghnmflenaaDoor
open Go.RowKit
set_option maxRecDepth 100000

theorem run_clear2 {w : World} (ty : TypeId) {b o c : Nat} {C : List Value} (hb : Blk w b C) (hl : o + 2 ≤ C.length) :
    (Builtin.clear_ #[43] ty #[.slice (some ⟨b, o, none⟩) 1 c]).run Tryd.prog w = .ok (.tuple #[]) (w.setCells b o [.string ByteArray.empty, .string ByteArray.empty]) := by
  have hst := run_storeCells_cells (P := Tryd.prog) b o [.string ByteArray.empty, .string ByteArray.empty] 0 w (fun j hj => hb.isS (by simp at hj; omega)) (fun j _ => hb.free _) (by simp [Value.oneCell'])
  simp only [Nat.add_zero] at hst
  have hzc' : (Builtin.zeroCells #[Value.string ⟨#[]⟩, Value.string ⟨#[]⟩] 1).toList = [.string ByteArray.empty, .string ByteArray.empty] := by
    first | kernel_rfl | (simp [Builtin.zeroCells, Array.range_succ, ByteArray.empty]; done) | (simp [Builtin.zeroCells]; rfl)
  simp [Builtin.clear_, run_underlying Tryd.underlying43, Tryd.zeroValue64, hzc', Value.cells, hst]
theorem del_cells (xs : List It) (R : List Value) (i : Nat) (hi : i < xs.length) :
    (splice (splice (itC xs ++ R) (i * 2) (itC (xs.drop (i + 1)))) ((xs.length - 1) * 2) [Value.string ByteArray.empty, .string ByteArray.empty]).take ((xs.length - 1) * 2) = itC (xs.take i ++ xs.drop (i + 1)) := by
  have hl : (itC (xs.take i)).length = i * 2 := by rw [itC_length, List.length_take]; omega
  have e1 : (itC xs ++ R).take (i * 2) = itC (xs.take i) := itC_app_take xs R i (by omega)
  have hl2 : (itC (xs.take i) ++ itC (xs.drop (i + 1))).length = (xs.length - 1) * 2 := by rw [List.length_append, hl, itC_length, List.length_drop]; omega
  have e2 : splice (itC xs ++ R) (i * 2) (itC (xs.drop (i + 1))) = itC (xs.take i) ++ itC (xs.drop (i + 1)) ++ (itC xs ++ R).drop (i * 2 + (itC (xs.drop (i + 1))).length) := by
    unfold splice
    rw [e1, List.append_assoc]
  rw [e2]
  unfold splice
  rw [List.take_left' hl2, List.take_left' hl2, itC_app]
def DelP (w : World) (b c : Nat) (ys : List It) (E : Ending) (w' : World) : Prop := E = .returned (.slice (some ⟨b, 0, none⟩) ys.length c) ∧ Rw w' (some b) c ys ∧ Turns (fun k => some b = some k) w w'
set_option maxHeartbeats 4000000 in
theorem delete_any {w : World} {b c : Nat} {xs : List It} (h : Rw w (some b) c xs) (hn : xs.length ≤ 1000) {i : Nat} (hi : i < xs.length) :
    Calls Tryd.prog 56 #[.slice (some ⟨b, 0, none⟩) xs.length c, .int .i64 (i : Int), .int .i64 ((i : Int) + 1)] w fun E w' => DelP w b c (xs.take i ++ xs.drop (i + 1)) E w' := by
  obtain ⟨R, hB, hl⟩ := h.blk
  obtain ⟨i0, hi0, hz0, hzs, hzb⟩ := info_parts Tryd.info64
  have hc := h.1
  have hc63 := h.2.1
  have hdl : (itC (xs.drop (i + 1))).length = (xs.length - (i + 1)) * 2 := by rw [itC_length, List.length_drop]
  have hsr : ∀ j v, (itC (xs.drop (i + 1)))[j]? = some v → (itC xs ++ R)[(i + 1) * 2 + j]? = some v := fun j v hj => by
    rw [← itC_drop, List.getElem?_drop] at hj
    rw [List.getElem?_append_left (List.getElem?_eq_some_iff.1 hj).1]
    exact hj
  have hf1 : i * 2 + (itC (xs.drop (i + 1))).length ≤ (itC xs ++ R).length := by rw [hdl]; simp [itC_length]; omega
  have hl1 : (splice (itC xs ++ R) (i * 2) (itC (xs.drop (i + 1)))).length = (itC xs ++ R).length := length_splice _ _ _ hf1
  have hf2 : (xs.length - 1) * 2 + 2 ≤ (splice (itC xs ++ R) (i * 2) (itC (xs.drop (i + 1)))).length := by rw [hl1]; simp [itC_length]; omega
  obtain ⟨W1, hW1⟩ : ∃ W1, W1 = w.drew.setCells b (0 + i * 2) (itC (xs.drop (i + 1))) := ⟨_, rfl⟩
  have hB1 : Blk W1 b (splice (itC xs ++ R) (i * 2) (itC (xs.drop (i + 1)))) := by rw [hW1, Nat.zero_add]; exact Blk.put (w := w.drew) hB hf1
  have hcl : ∀ ty dc, (Builtin.clear_ #[43] ty #[.slice (some ⟨b, (xs.length - 1) * 2, none⟩) 1 dc]).run Tryd.prog W1 = .ok (.tuple #[]) (W1.setCells b ((xs.length - 1) * 2) [.string ByteArray.empty, .string ByteArray.empty]) := fun ty dc => run_clear2 ty hB1 hf2
  have hfin : DelP w b c (xs.take i ++ xs.drop (i + 1)) (.returned (.slice (some ⟨b, 0, none⟩) (xs.length - 1) c)) (W1.setCells b ((xs.length - 1) * 2) [.string ByteArray.empty, .string ByteArray.empty]) := by
    have hlen : (xs.take i ++ xs.drop (i + 1)).length = xs.length - 1 := by simp; omega
    refine ⟨by rw [hlen], ?_, Turns.setCells (S := fun k => some b = some k) (.inl rfl) _ _ _ (by rw [hW1]; exact Turns.setCells (S := fun k => some b = some k) (.inl rfl) _ _ _ ((Turns.refl _ w).drewN 1))⟩
    refine Rw.of_blk (Blk.put hB1 hf2) (by rw [length_splice _ _ _ hf2, hl1]; simp [itC_length]; omega) (by rw [hlen]; omega) hc63 ?_
    rw [hlen]
    exact del_cells xs R i hi
  have s1 : Hid (∀ j u, (itC (xs.drop (i + 1)))[j]? = some u → w.drew.cell? ((⟨b, (i + 1) * 2, none⟩ : Addr).add j) = some u) := Lib.hid fun j u hj => by
    rw [Addr.add_lit]
    exact hB.cell (hsr j u hj)
  have s2 := Lib.hid (itC_one (xs.drop (i + 1)))
  have s3 : Hid (∀ j, j < (itC (xs.drop (i + 1))).length → (w.drew.cell? ⟨b, 0 + i * 2 + j, none⟩).isSome = true ∧ w.drew.frozen? ⟨b, 0 + i * 2 + j, none⟩ = false) := Lib.hid fun j hj => ⟨hB.isS (by omega), hB.free _⟩
  have s4 := Lib.hid hdl
  have s5 : Hid (xs.length = i + 1 → itC (xs.drop (i + 1)) = []) := Lib.hid fun e => by rw [List.drop_eq_nil_of_le (by omega)]; rfl
  have HW := Lib.hid hW1
  have HF := Lib.hid hfin
  obtain ⟨D1, hD1⟩ : ∃ D, D = itC (xs.drop (i + 1)) := ⟨_, rfl⟩
  obtain ⟨n, hnn⟩ : ∃ n, n = xs.length := ⟨_, rfl⟩
  rw [← hD1] at s1 s2 s3 s4 s5 HW
  rw [← hnn] at s4 s5 HF hcl hc hi hn ⊢
  obtain ⟨m, hm⟩ : ∃ m, m = n - 1 := ⟨_, rfl⟩
  rw [← hm] at HF hcl
  have hm1 : i + (n - (i + 1)) = m := by omega
  have hm2 : n - m = 1 := by omega
  have hm3 : ¬ (c = m) := by omega
  have hm4 : m ≤ n := by omega
  have hw1 : ¬ ((i : Int) = (i : Int) + 1) := by omega
  have hb1 : (0 : Int) ≤ (i : Int) + 1 := by omega
  have htn : ((i : Int) + 1).toNat = i + 1 := by omega
  have hci : ¬ (c = i) := by omega
  have hin : (i : Int) + 1 ≤ (n : Int) := by omega
  have hin2 : (i : Int) ≤ (n : Int) := by omega
  have hic : (i : Int) ≤ (c : Int) := by omega
  have hnc : (n : Int) ≤ (c : Int) := by omega
  clear hfin hB1 hf1 hf2 hl1 hsr hdl hB hl h hnn hD1 hW1 hm hz0 hzb
  by_cases hcc : c = i + 1
  · obtain rfl : n = i + 1 := by omega
    obtain rfl := hcc
    have HD := Lib.hid (s5.out rfl)
    have s6 : D1.length = 0 * 2 := by rw [HD.out]; rfl
    have s7 : ∀ j u, D1[j]? = some u → w.drew.cell? ((⟨b, 0, none⟩ : Addr).add j) = some u := fun j u hj => by rw [HD.out] at hj; cases hj
    have hmi : m = i := by omega
    subst hmi
    have HX := Lib.hid (And.intro s6 s7)
    have hx : (m : Int) ≤ (m : Int) + 1 := by omega
    clear s6 s7 hm1 hic hnc hin
    go_enter Tryd.func56, Tryd.ntmps56
    go_wp2_with fail
    go_region_law (refine step_append_room rfl (.tmp 22) (.tmp 25) 43 rfl 64 i0 2 Tryd.underlying43 hi0 hzs b 0 m (m + 1) (by simp [Act.eval, Act.put]) ⟨b, 0, none⟩ 0 0 D1 (by simp [Act.eval, Act.put]) HX.out.1 HX.out.2 s2.out (by omega) s3.out ?_; rw [← HW.out])
    go_wp2_with fail
    go_ret
    exact HF.out
  · go_enter Tryd.func56, Tryd.ntmps56
    go_wp2_with fail
    go_region_law (refine step_append_room rfl (.tmp 22) (.tmp 25) 43 rfl 64 i0 2 Tryd.underlying43 hi0 hzs b 0 i c (by simp [Act.eval, Act.put]) ⟨b, (i + 1) * 2, none⟩ (n - (i + 1)) (c - (i + 1)) D1 (by simp [Act.eval, Act.put]) s4.out s1.out s2.out (by omega) s3.out ?_; rw [← HW.out])
    go_wp2_with fail
    go_ret
    exact HF.out
end Go.Proofs.YtflenghnmflenaaDoor
