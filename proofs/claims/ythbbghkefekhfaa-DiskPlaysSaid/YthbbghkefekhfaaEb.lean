/-
  What is proved: what the document's disk reads. Conditions as stated.
-/
import Derived.Test.YthbbghkefekhfaaEa
namespace Go.Proofs.Ythbbghkefekhfaa
open Go.RowKit

def noW : Int × List UInt8 × Bool := (0, zeros, false)
theorem zero68 (w : World) : (zeroValue 68).run Try.prog w = .ok (.agg (rcells noW).toArray) w := by kernel_rfl
theorem build68 (w : World) : (Instr.build 68 #[]).run Try.prog w = .ok (.agg (rcells noW).toArray) w := by kernel_rfl
theorem Try.size68 : (Try.prog.info? 68).map (·.size) = some 130 := by kernel_rfl

theorem look_drop (x : Int) : ∀ (k : Nat) (l : List (Int × List UInt8 × Bool)), (∀ p ∈ l.drop k, p.1 ≠ x) → look l x = look (l.take k) x
  | 0, l, h => by
    rw [List.take_zero, look]
    induction l with
    | nil => rfl
    | cons q r ih =>
      rw [look, ih (fun p hp => h p (by simp at hp ⊢; exact .inr hp))]
      simp only
      rw [if_neg (h q (by simp))]
  | k + 1, [], _ => rfl
  | k + 1, q :: r, h => by
    rw [List.take_succ_cons, look, look, look_drop x k r (fun p hp => h p (by simpa using hp))]
def lastOf (l : List (Int × List UInt8 × Bool)) (x : Int) : Int × List UInt8 × Bool := match look l x with
  | some q => (x, q)
  | none => noW

set_option maxHeartbeats 1000000 in
set_option maxRecDepth 100000 in
theorem last_any {w : World} (A : Option Addr) (n c : Nat) (l : List (Int × List UInt8 × Bool)) (hl : l.length = n) (h128 : ∀ p ∈ l, p.2.1.length = 128) (hA : 0 < n → ∃ g, A = some ⟨g, 0, none⟩ ∧ g < w.heap.size ∧ w.rangeAt g 0 (l.flatMap rcells)) (hs : Sl A n c) (x : Int) (hn : n < 1000000000) :
    Calls Try.prog 27 #[.slice A n c, .int .i64 x] w fun E w' => E = .returned (.tuple #[.agg (rcells (lastOf l x)).toArray, .bool (look l x).isSome]) ∧ Below w.heap.size w w' := by
  obtain ⟨Z, hZ⟩ : ∃ Z, Z = rcells noW := ⟨_, rfl⟩
  have hz : ∀ w, (zeroValue 68).run Try.prog w = .ok (.agg Z.toArray) w := by rw [hZ]; exact zero68
  have hbz : ∀ w, (Instr.build 68 #[]).run Try.prog w = .ok (.agg Z.toArray) w := by rw [hZ]; exact build68
  have HZL : Hid (Z.length = 130) := Lib.hid (by rw [hZ]; rfl)
  have HZ1 : Hid (∀ v ∈ Z, v.oneCell' = true) := Lib.hid (by rw [hZ]; exact rcells_one _)
  have HZ := Lib.hid hZ
  have HL := Lib.hid h128
  have HA := Lib.hid hA
  have hsc := hs.2
  have HS : Hid (Below w.heap.size w (w.alloc (.cells Z.toArray 68)) ∧ (w.alloc (.cells Z.toArray 68)).heap[w.heap.size]? = some (.cells Z.toArray 68 (0, 0))) := Lib.hid ⟨(Below.refl _ _).alloc (Nat.le_refl _) _, row_new w Z 68⟩
  clear hZ h128 hA
  go_enter Try.func27, Try.ntmps27
  go_wp2
  go_loopw [6] (fun v6 wr => ∃ k : Nat, k ≤ n ∧ v6 = .int .i64 ((k : Int) - 1) ∧ (∀ p ∈ l.drop k, p.1 ≠ x) ∧ Hid (Below w.heap.size w wr ∧ wr.heap[w.heap.size]? = some (.cells Z.toArray 68 (0, 0)))) (fun v6 _ => (intOf v6 + 1).toNat)
  case atStart => exact ⟨n, Nat.le_refl _, rfl, fun p hp => (by rw [List.drop_of_length_le (by omega)] at hp; cases hp), HS⟩
  case round =>
    clear HS
    obtain ⟨k, hkn, rfl, hno, HD⟩ := hrel
    have HNO := Lib.hid hno
    clear hno
    by_cases hk0 : k = 0
    · subst hk0
      have hlk : look l x = none := by rw [look_drop x 0 l HNO.out]; rfl
      have e : lastOf l x = noW := by unfold lastOf; rw [hlk]
      have HE := Lib.hid e
      have HK2 := Lib.hid hlk
      clear hlk e
      go_wp2_with (first
        | (refine wpList_store_all rfl 68 (.tmp 4) (.tmp 25) rfl w.heap.size Z Z 68 HD.out.2 rfl rfl rfl (by rw [HZL.out]; exact Try.size68) HZ1.out ?_; intro w5 G5))
      exact bodyPost_ret (ret_pair (cs := Z) rfl rfl rfl (range_block G5.out.1 0 _ (fun j v hv => by rw [Nat.zero_add]; exact hv)) Try.underlying68 rfl (by rw [HZL.out]; exact Try.size68)) rfl ⟨by rw [HE.out, HK2.out, HZ.out]; rfl, below_gb HD.out.1 G5.out.2 (Nat.le_refl _) HD.out.1.size⟩
    · obtain ⟨j, rfl⟩ : ∃ j, k = j + 1 := ⟨k - 1, by omega⟩
      obtain ⟨g, rfl, hg, hrg⟩ := HA.out (by omega)
      obtain ⟨p, hp⟩ : ∃ p, l[j]? = some p := ⟨_, List.getElem?_eq_getElem (by omega)⟩
      have hp128 := HL.out p (List.mem_of_getElem? hp)
      have hrl := rcells_length hp128
      have HRG : Hid (wr.rangeAt g (j * 130) (rcells p)) := Lib.hid fun i v hv => by
        have hi : i < 130 := by have := (List.getElem?_eq_some_iff.1 hv).1; omega
        have := hrg (j * 130 + i) v (by rw [rflat_at _ HL.out j _ hp _ hi]; exact hv)
        rw [Nat.zero_add] at this
        exact (HD.out.1.cell (p := ⟨g, j * 130 + i, none⟩) hg).trans this
      have ca : wr.cell? ⟨g, j * 130, none⟩ = some (.int .i64 p.1) := HRG.out 0 _ rfl
      have htk : l.take (j + 1) = l.take j ++ [p] := by rw [List.take_add_one, hp]; rfl
      have hlk : look l x = if p.1 = x then some p.2 else look (l.take j) x := by rw [look_drop x (j + 1) l HNO.out, htk, look_snoc]
      have HLK := Lib.hid hlk
      have HP := Lib.hid hp
      have HRL := Lib.hid hrl
      clear hlk htk hp hrg hrl
      rw [show ((j + 1 : Nat) : Int) - 1 = (j : Int) by omega]
      by_cases hpx : p.1 = x
      · have hlk := HLK.out
        rw [if_pos hpx] at hlk
        have e : lastOf l x = p := by unfold lastOf; rw [hlk]; simp only; rw [← hpx]
        have HE := Lib.hid e
        have HK2 := Lib.hid hlk
        clear hlk e
        go_wp2_with (first
          | (refine wpList_load_mid rfl 68 (.tmp 23) rfl g (j * 130) rfl (rcells p) _ HRG.out Try.underlying68 rfl (by rw [HRL.out]; exact Try.size68) ?_)
          | (refine wpList_store_all rfl 68 (.tmp 4) (.tmp 24) rfl w.heap.size Z (rcells p) 68 HD.out.2 (HZL.out.trans HRL.out.symm) rfl rfl (by rw [HRL.out]; exact Try.size68) (rcells_one _) ?_; intro w5 G5))
        exact bodyPost_ret (ret_pair (cs := rcells p) rfl rfl rfl (range_block G5.out.1 0 _ (fun j v hv => by rw [Nat.zero_add]; exact hv)) Try.underlying68 rfl (by rw [HRL.out]; exact Try.size68)) rfl ⟨by rw [HE.out, HK2.out]; rfl, below_gb HD.out.1 G5.out.2 (Nat.le_refl _) HD.out.1.size⟩
      · go_wp2_with fail
        go_roundw
        case measure => simp [intOf]
        case rel =>
          refine ⟨j, by omega, by go_num, fun q hq => ?_, HD⟩
          rw [List.drop_eq_getElem_cons (by omega)] at hq
          rcases List.mem_cons.1 hq with e | hq
          · have h2 := HP.out
            rw [List.getElem?_eq_getElem (by omega)] at h2
            injection h2 with h2
            rw [h2] at e
            rw [e]
            exact hpx
          · exact HNO.out q hq
end Go.Proofs.Ythbbghkefekhfaa
