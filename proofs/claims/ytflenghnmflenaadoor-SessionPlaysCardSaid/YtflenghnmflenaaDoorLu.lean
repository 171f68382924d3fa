/-
  What is proved: whether operations are gone through (Few); none's ledger. Conditions as stated.
-/
import Derived.Test.YtflenghnmflenaaDoorLt
namespace Go.Proofs.YtflenghnmflenaaDoor
open Go.RowKit
set_option maxRecDepth 100000

/-- At the address lie the operations, one behind the other. -/
def Ops (w : World) (A : Option Addr) (os : List MOp) : Prop :=
  0 < os.length → ∃ b o, A = some ⟨b, o, none⟩ ∧ b < w.heap.size ∧ ∀ j p, os[j]? = some p → w.rangeAt b (o + j * 6) (opC p)
theorem Ops.below {w w' : World} {A : Option Addr} {os : List MOp} (h : Ops w A os) (hb : Below w.heap.size w w') : Ops w' A os := fun hn =>
  let ⟨b, o, hA, hl, hc⟩ := h hn
  ⟨b, o, hA, Nat.lt_of_lt_of_le hl hb.size, fun j p hp k v hv => (hb.cell (p := ⟨b, o + j * 6 + k, none⟩) hl).trans (hc j p hp k v hv)⟩
set_option maxHeartbeats 4000000 in
theorem few_any (A : Option Addr) (c : Nat) (os : List MOp) (w : World) (h : Ops w A os) (hn : os.length ≤ 140737488355328) :
    Calls Tryd.prog 22 #[.slice A os.length c] w fun E w' => (∃ z, E = .returned (.bool z) ∧ (z = true → os.length ≤ 150)) ∧ Below w.heap.size w w' := by
  have HX := Lib.hid h
  obtain ⟨n, hnn⟩ : ∃ n, n = os.length := ⟨_, rfl⟩
  have HL := Lib.hid hnn
  rw [← hnn] at hn ⊢
  clear h hnn
  have HB0 := Lib.hid (Below.refl w.heap.size w)
  by_cases h150 : n ≤ 150
  · have h1 : ¬ ((n : Int) > 150) := by omega
    have h2 : ¬ (150 < (n : Int)) := by omega
    have HR : Hid (∀ z : Bool, (∃ y, Ending.returned (.bool z) = .returned (.bool y) ∧ (y = true → n ≤ 150))) := Lib.hid fun z => ⟨z, rfl, fun _ => h150⟩
    go_enter Tryd.func22, Tryd.ntmps22
    go_wp2_with fail
    go_loopw [3] (fun v3 wr => ∃ j : Nat, j ≤ n ∧ v3 = .int .i64 (j : Int) ∧ Hid (Below w.heap.size w wr)) (fun v3 _ => n - (intOf v3).toNat)
    case atStart => exact ⟨0, by omega, rfl, HB0⟩
    case round =>
      obtain ⟨j, hj, rfl, HB⟩ := hrel
      by_cases hjj : j < n
      · obtain ⟨b, o, rfl, hbl, hc⟩ := HX.out (by rw [← HL.out]; omega)
        obtain ⟨p, hp⟩ : ∃ p, os[j]? = some p := ⟨_, List.getElem?_eq_getElem (by rw [← HL.out]; exact hjj)⟩
        have hcell : ∀ k v, (opC p)[k]? = some v → wr.cell? ⟨b, o + j * 6 + k, none⟩ = some v := fun k v hv => (HB.out.cell (p := ⟨b, o + j * 6 + k, none⟩) hbl).trans (hc j p hp k v hv)
        have c1 : wr.cell? ⟨b, o + j * 6 + 1, none⟩ = some (.string p.key) := hcell 1 _ rfl
        have c2 : wr.cell? ⟨b, o + j * 6 + 2, none⟩ = some (.string p.value) := hcell 2 _ rfl
        have c3 : wr.cell? ⟨b, o + j * 6 + 3, none⟩ = some (.string p.old) := hcell 3 _ rfl
        have c4 : wr.cell? ⟨b, o + j * 6 + 4, none⟩ = some (.string p.to) := hcell 4 _ rfl
        have hdec : decide ((j : Int) < (n : Int)) = true := decide_eq_true (by omega)
        have hw1 : IntKind.i64.wrap ((j : Int) + 1) = (j : Int) + 1 := by rw [IntKind.wrap_i64]; omega
        have hj0 : (0 : Int) ≤ (j : Int) := by omega
        have hjn : (j : Int) < (n : Int) := by omega
        have htn : ((j : Int)).toNat = j := by omega
        obtain ⟨s1, h1⟩ : ∃ s, IntKind.i64.wrap ((p.key.size : Int) + (p.value.size : Int)) = s := ⟨_, rfl⟩
        obtain ⟨s2, h2⟩ : ∃ s, IntKind.i64.wrap (s1 + (p.old.size : Int)) = s := ⟨_, rfl⟩
        obtain ⟨s3, h3⟩ : ∃ s, IntKind.i64.wrap (s2 + (p.to.size : Int)) = s := ⟨_, rfl⟩
        clear hcell hc hp
        have HB2 : Hid (∀ q, Below w.heap.size w (wr.drewN q)) := Lib.hid fun q => below_drewN HB.out q
        by_cases hs : 2000 < s3
        · go_wp2_with fail
          go_quiet (fail)
          go_wp2_with fail
          go_ret
          exact ⟨HR.out false, HB2.out _⟩
        · go_wp2_with fail
          go_quiet (fail)
          go_wp2_with fail
          go_roundw
          case measure => simp [intOf] <;> omega
          case rel => exact ⟨j + 1, by omega, by go_num, HB2.out _⟩
      · obtain rfl : j = n := by omega
        go_wp2_with fail
        go_ret
        exact ⟨HR.out true, HB.out⟩
  · have h1 : (n : Int) > 150 := by omega
    have h2 : (150 < (n : Int)) := by omega
    go_enter Tryd.func22, Tryd.ntmps22
    go_wp2_with fail
    go_ret
    exact ⟨⟨false, rfl, fun h => by cases h⟩, HB0.out⟩
end Go.Proofs.YtflenghnmflenaaDoor
