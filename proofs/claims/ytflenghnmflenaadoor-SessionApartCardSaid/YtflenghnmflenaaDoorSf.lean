/-
  What is proved: whether requests are gone through (Few). Conditions as stated.
-/
import Derived.Test.YtflenghnmflenaaDoorSb
namespace Go.Proofs.YtflenghnmflenaaDoor
open Go.RowKit
set_option maxRecDepth 100000

def ocC (os : List MOp) : List Value := os.flatMap opC
theorem ocC_length : ∀ os : List MOp, (ocC os).length = os.length * 6
  | [] => rfl
  | p :: T => by
    have := ocC_length T
    simp only [ocC, List.flatMap_cons, List.length_append, List.length_cons] at this ⊢
    rw [this]
    simp only [opC, List.length_cons, List.length_nil]
    omega
theorem ocC_app (a b : List MOp) : ocC (a ++ b) = ocC a ++ ocC b := by simp [ocC]
theorem opC_one (p : MOp) : ∀ v ∈ opC p, v.oneCell' = true := by
  intro v hp
  simp only [opC, List.mem_cons, List.mem_nil_iff, or_false] at hp
  rcases hp with rfl | rfl | rfl | rfl | rfl | rfl <;> rfl
theorem ocC_at : ∀ {T : List MOp} {j : Nat} {p : MOp}, T[j]? = some p → ∀ i v, (opC p)[i]? = some v → (ocC T)[j * 6 + i]? = some v
  | [], j, p, h => by simp at h
  | q :: T, 0, p, h => by
    simp at h
    subst h
    intro i v hv
    show (opC q ++ ocC T)[0 * 6 + i]? = some v
    rw [List.getElem?_append_left (by have := (List.getElem?_eq_some_iff.1 hv).1; omega)]
    simpa using hv
  | q :: T, j + 1, p, h => by
    intro i v hv
    simp at h
    show (opC q ++ ocC T)[(j + 1) * 6 + i]? = some v
    rw [List.getElem?_append_right (by simp [opC]; omega)]
    have : (j + 1) * 6 + i - (opC q).length = j * 6 + i := by simp [opC]; omega
    rw [this]
    exact ocC_at h i v hv
theorem ops_of_own {w : World} {B : Nat} {v : Value} {os : List MOp} (h : w.ownsRow B 49 6 v os.length (ocC os)) : ∃ A c, v = .slice A os.length c ∧ Ops w A os := by
  obtain ⟨_, h⟩ := h
  rcases h with ⟨rfl, hz⟩ | ⟨b, cap, cur, rfl, hB, hb, hl, hc, hs, ht⟩
  · exact ⟨none, 0, by rw [hz], fun hn => by omega⟩
  · refine ⟨some ⟨b, 0, none⟩, cap, rfl, fun _ => ⟨b, 0, rfl, (Array.getElem?_eq_some_iff.1 hb).1, fun j p hp k u hu => ?_⟩⟩
    have h1 := ocC_at hp k u hu
    have h2 : cur.toList[j * 6 + k]? = some u := by
      rw [← ht] at h1
      rw [List.getElem?_take] at h1
      split at h1
      · exact h1
      · cases h1
    rw [Nat.zero_add]
    exact block_cell (C := cur.toList) (t := 49) (by simpa using hb) _ _ h2
theorem Tryd.info49 : (Tryd.prog.info? 49).map (fun i => (i.zero, i.size, i.bytes)) = some (some (.agg #[.int .u8 0, .string ByteArray.empty, .string ByteArray.empty, .string ByteArray.empty, .string ByteArray.empty, .int .u64 0]), 6, 80) := by kernel_rfl
def opsOf (qs : List MRq) : List MOp := qs.map MRq.op
set_option maxHeartbeats 4000000 in
theorem sfew_any (A : Option Addr) (c : Nat) (qs : List MRq) (w : World) (h : Rqs w A qs) (hn : qs.length ≤ 1099511627776) :
    Calls Tryd.prog 8 #[.slice A qs.length c] w fun E w' => (∃ z, E = .returned (.bool z) ∧ (z = true → qs.length ≤ 150)) ∧ Below w.heap.size w w' := by
  obtain ⟨i0, hi0, hz0, hzs, hzb⟩ := info_parts Tryd.info49
  have HX := Lib.hid h
  obtain ⟨n, hnn⟩ : ∃ n, n = qs.length := ⟨_, rfl⟩
  have HL := Lib.hid hnn
  have HFw : Hid (∀ v W, W.ownsRow w.heap.size 49 6 v n (ocC ((opsOf qs).take n)) → Below w.heap.size w W → ∃ A' c', v = .slice A' n c' ∧ (Calls Tryd.prog 22 #[.slice A' n c'] W fun E w' => (∃ z, E = .returned (.bool z) ∧ (z = true → n ≤ 150)) ∧ Below w.heap.size w w')) := Lib.hid fun v W ho hb => by
    have e : (opsOf qs).take n = opsOf qs := List.take_of_length_le (by rw [opsOf, List.length_map, hnn]; exact Nat.le_refl _)
    have el : (opsOf qs).length = n := by rw [opsOf, List.length_map, hnn]
    rw [e, ← el] at ho
    obtain ⟨A', c', rfl, hO⟩ := ops_of_own ho
    rw [el] at ho ⊢
    refine ⟨A', c', rfl, ?_⟩
    have := few_any A' c' (opsOf qs) W hO (by rw [el, hnn]; omega)
    rw [el] at this
    exact this.mono fun E w' ⟨h1, h2⟩ => ⟨h1, hb.trans (h2.mono hb.size)⟩
  rw [← hnn] at hn ⊢
  clear h hnn
  have HS : Hid (w.ownsRow w.heap.size 49 6 (.slice none 0 0) 0 (ocC ((opsOf qs).take 0)) ∧ Below w.heap.size w w) := Lib.hid ⟨World.ownsRow_nil _ _ _ _, Below.refl _ _⟩
  go_enter Tryd.func8, Tryd.ntmps8
  go_wp2_with fail
  go_loopw [3, 4] (fun v3 v4 wr => ∃ (j : Nat) (v : Value), j ≤ n ∧ v4 = .int .i64 (j : Int) ∧ v = v3 ∧ Hid (wr.ownsRow w.heap.size 49 6 v j (ocC ((opsOf qs).take j)) ∧ Below w.heap.size w wr)) (fun _ v4 _ => n - (intOf v4).toNat)
  case atStart => exact ⟨0, _, by omega, rfl, rfl, HS⟩
  case round =>
    obtain ⟨j, v3, hj, rfl, rfl, HR⟩ := hrel
    by_cases hjj : j < n
    · obtain ⟨bb, o, rfl, hbl, hc⟩ := HX.out.at' (by rw [← HL.out]; omega)
      obtain ⟨p, hp⟩ : ∃ p, qs[j]? = some p := ⟨_, List.getElem?_eq_getElem (by rw [← HL.out]; exact hjj)⟩
      have HC : Hid (∀ k v, (opC p.op)[k]? = some v → wr.cell? ⟨bb, o + j * 40 + 2 + k, none⟩ = some v) := Lib.hid fun k v hv => (HR.out.2.cell (p := ⟨bb, o + j * 40 + 2 + k, none⟩) hbl).trans (by have := hc j p hp (2 + k) v (rq_op p k v hv); rwa [← Nat.add_assoc] at this)
      have HT2 : Hid (ocC ((opsOf qs).take (j + 1)) = ocC ((opsOf qs).take j) ++ opC p.op) := Lib.hid (by
        have : (opsOf qs)[j]? = some p.op := by rw [opsOf, List.getElem?_map, hp]; rfl
        rw [List.take_add_one, this, ocC_app]
        congr 1)
      have HO : Hid ((wr.alloc (.cells #[.int .u8 (p.op.kind.toNat : Int), .string p.op.key, .string p.op.value, .string p.op.old, .string p.op.to, .int .u64 (p.op.amount : Int)] 49)).ownsRow w.heap.size 49 6 v3 j (ocC ((opsOf qs).take j))) := Lib.hid (HR.out.1.alloc _)
      have HB : Hid (Below w.heap.size w (wr.alloc (.cells #[.int .u8 (p.op.kind.toNat : Int), .string p.op.key, .string p.op.value, .string p.op.old, .string p.op.to, .int .u64 (p.op.amount : Int)] 49))) := Lib.hid (HR.out.2.alloc HR.out.2.size _)
      have HV : Hid (∀ j u, (opC p.op)[j]? = some u → (wr.alloc (.cells #[.int .u8 (p.op.kind.toNat : Int), .string p.op.key, .string p.op.value, .string p.op.old, .string p.op.to, .int .u64 (p.op.amount : Int)] 49)).cell? ((⟨wr.heap.size, 0, none⟩ : Addr).add j) = some u) := Lib.hid fun j u hj => by
        rw [Addr.add_lit, Nat.zero_add]
        exact block_cell (C := opC p.op) (t := 49) (heap_alloc_new wr (.cells #[.int .u8 (p.op.kind.toNat : Int), .string p.op.key, .string p.op.value, .string p.op.old, .string p.op.to, .int .u64 (p.op.amount : Int)] 49)) j u hj
      have H1 := Lib.hid (opC_one p.op)
      have HLt : Hid (∀ k, v3.ownBlock = some k → w.heap.size ≤ k) := Lib.hid fun k hk => (HR.out.1.lt k hk).1
      have HSz : Hid (w.heap.size ≤ (wr.alloc (.cells #[.int .u8 (p.op.kind.toNat : Int), .string p.op.key, .string p.op.value, .string p.op.old, .string p.op.to, .int .u64 (p.op.amount : Int)] 49)).heap.size) := Lib.hid HB.out.size
      have HG : Hid (∀ v' w', w'.ownsRow w.heap.size 49 6 v' (j + 1) (ocC ((opsOf qs).take j) ++ opC p.op) → (wr.alloc (.cells #[.int .u8 (p.op.kind.toNat : Int), .string p.op.key, .string p.op.value, .string p.op.old, .string p.op.to, .int .u64 (p.op.amount : Int)] 49)).grownBy w' v3.ownBlock → w'.ownsRow w.heap.size 49 6 v' (j + 1) (ocC ((opsOf qs).take (j + 1))) ∧ Below w.heap.size w w') := Lib.hid fun v' w' ho hg => by
        rw [HT2.out]
        exact ⟨ho, HB.out.grown hg HB.out.size (fun k hk => HLt.out k hk)⟩
      have hj0 : (0 : Int) ≤ (j : Int) := by omega
      have hjn : (j : Int) < (n : Int) := by omega
      have htn : ((j : Int)).toNat = j := by omega
      have q0 : wr.cell? ⟨bb, o + j * 40 + 2, none⟩ = some (.int .u8 (p.op.kind.toNat : Int)) := HC.out 0 _ rfl
      have q1 : wr.cell? ⟨bb, o + j * 40 + 2 + 1, none⟩ = some (.string p.op.key) := HC.out 1 _ rfl
      have q2 : wr.cell? ⟨bb, o + j * 40 + 2 + 2, none⟩ = some (.string p.op.value) := HC.out 2 _ rfl
      have q3 : wr.cell? ⟨bb, o + j * 40 + 2 + 3, none⟩ = some (.string p.op.old) := HC.out 3 _ rfl
      have q4 : wr.cell? ⟨bb, o + j * 40 + 2 + 4, none⟩ = some (.string p.op.to) := HC.out 4 _ rfl
      have q5 : wr.cell? ⟨bb, o + j * 40 + 2 + 5, none⟩ = some (.int .u64 (p.op.amount : Int)) := HC.out 5 _ rfl
      clear hc hp HT2 HR HC
      obtain ⟨C, hC⟩ : ∃ C, C = ocC ((opsOf qs).take j) := ⟨_, rfl⟩
      rw [← hC] at HO HG
      clear hC
      go_wp2_with (at_builtin; refine wpList_append_own _ rfl _ _ 68 rfl w.heap.size 49 i0 _ 6 80 Tryd.underlying68 hi0 hz0 hzs hzb (by simp [Value.cells]) (by omega) _ j C rfl HO.out ⟨wr.heap.size, 0, none⟩ 1 1 (opC p.op) rfl rfl HV.out H1.out (by unfold maxLen; omega) (by omega) HSz.out ?_; intro v' w1 hown hgrow hnil)
      have HQ := Lib.hid (HG.out v' w1 hown hgrow)
      clear hown hgrow hnil HG HO HV
      go_wp2_with fail
      go_roundw
      case measure => simp [intOf] <;> omega
      case rel => exact ⟨j + 1, _, by omega, by go_num, rfl, HQ⟩
    · obtain rfl : j = n := by omega
      obtain ⟨A', c', rfl, hcall⟩ := HFw.out v3 wr HR.out.1 HR.out.2
      have HCall := Lib.hid hcall
      clear hcall HR HFw
      go_wp2_with (go_at_call 22; refine HCall.out.mono ?_; rintro E w1 ⟨⟨z, rfl, hz⟩, hb⟩)
      go_ret
      exact ⟨⟨z, rfl, hz⟩, hb⟩
end Go.Proofs.YtflenghnmflenaaDoor
