/-
  What is proved: what slices.Max tells of eleven numbers; whether pairs may be, and whether they are the same. Conditions as stated.
-/
import Derived.Test.YtghjogneogkpoaaGreatDoorMa
namespace Go.Proofs.YtghjogneogkpoaaGreatDoor.Sh
open Go.RowKit
set_option maxRecDepth 100000


/-- The highest of the first j. -/
def maxTo (l : List Nat) (j : Nat) : Nat := (l.take j).foldl max 0
theorem maxTo_succ {l : List Nat} {j x : Nat} (h : l[j]? = some x) : maxTo l (j + 1) = max (maxTo l j) x := by
  unfold maxTo
  rw [List.take_succ_eq_append_getElem (List.getElem?_eq_some_iff.1 h).1, List.foldl_append]
  simp [(List.getElem?_eq_some_iff.1 h).2]
theorem maxTo_le (l : List Nat) (n : Nat) : ∀ j, maxTo l j ≤ n ↔ ∀ x ∈ l.take j, x ≤ n := by
  intro j
  unfold maxTo
  have : ∀ (l : List Nat) (a : Nat), l.foldl max a ≤ n ↔ a ≤ n ∧ ∀ x ∈ l, x ≤ n := by
    intro l
    induction l with
    | nil => intro a; simp
    | cons b t ih =>
      intro a
      rw [List.foldl_cons, ih]
      simp only [List.mem_cons, forall_eq_or_imp, Nat.max_le, and_assoc]
  rw [this]
  simp
theorem max_ms (l : List Nat) (b o : Nat) (w : World) (hl : l.length = 11) (hc : w.rangeAt b o (u64s l)) :
    Calls Tryz.prog 61 #[.slice (some ⟨b, o, none⟩) 11 11] w fun E w' => E = .returned (.int .u64 (maxTo l 11 : Int)) ∧ w = w' := by
  have HC := Lib.hid (fun (j x : Nat) (h : l[j]? = some x) => hc j (.int .u64 (x : Int)) (by simp [u64s, h]))
  have HL := Lib.hid hl
  obtain ⟨x0, h0⟩ : ∃ x, l[0]? = some x := ⟨_, List.getElem?_eq_getElem (by omega)⟩
  have c0 : w.cell? ⟨b, o, none⟩ = some (.int .u64 (x0 : Int)) := HC.out 0 x0 h0
  have H1 : Hid (maxTo l 1 = x0) := Lib.hid (by rw [maxTo_succ h0]; simp [maxTo])
  clear hl hc h0
  go_enter Tryz.func61, Tryz.ntmps61
  go_wp2_with fail
  go_loop [3, 4] (fun v3 v4 => ∃ j : Nat, 1 ≤ j ∧ j ≤ 11 ∧ v4 = .int .i64 (j : Int) ∧ ∃ m : Nat, v3 = .int .u64 (m : Int) ∧ Hid (maxTo l j = m)) (fun _ v4 => 11 - (intOf v4).toNat)
  case atStart => exact ⟨1, by omega, by omega, rfl, x0, rfl, H1⟩
  case round =>
    obtain ⟨j, h1j, hj, rfl, m, rfl, HM⟩ := hrel
    by_cases hjj : j < 11
    · obtain ⟨x, hx⟩ : ∃ x, l[j]? = some x := ⟨_, List.getElem?_eq_getElem (by rw [HL.out]; omega)⟩
      have hcx : w.cell? ⟨b, o + j, none⟩ = some (.int .u64 (x : Int)) := HC.out j x hx
      have HS : Hid (maxTo l (j + 1) = max m x) := Lib.hid (by rw [maxTo_succ hx, HM.out])
      clear hx
      go_wp2_with fail
      all_goals
        go_round
        case measure => simp [intOf] <;> omega
        case rel => exact ⟨j + 1, by omega, by omega, by go_num, max m x, congrArg (Value.int .u64) (by split <;> omega), HS⟩
    · obtain rfl : j = 11 := by omega
      go_wp2_with fail
      go_ret
      exact ⟨by rw [HM.out]; rfl, rfl⟩

def prC (p : Int × Nat) : List Value := [.int .i64 p.1, .int .u64 (p.2 : Int)]
/-- Pairs that lie in memory. -/
def Prs (w : World) (A : Option Addr) (qs : List (Int × Nat)) : Prop :=
  0 < qs.length → ∃ b o, A = some ⟨b, o, none⟩ ∧ b < w.heap.size ∧ ∀ (j : Nat) (p : Int × Nat), qs[j]? = some p → w.cell? ⟨b, o + j * 2, none⟩ = some (.int .i64 p.1) ∧ w.cell? ⟨b, o + j * 2 + 1, none⟩ = some (.int .u64 (p.2 : Int))
theorem Prs.below {w w' : World} {A : Option Addr} {qs : List (Int × Nat)} (h : Prs w A qs) (hb : Below w.heap.size w w') : Prs w' A qs := fun hn =>
  let ⟨b, o, e, hl, hc⟩ := h hn
  ⟨b, o, e, Nat.lt_of_lt_of_le hl hb.size, fun j p hp => ⟨(hb.cell (p := ⟨b, _, none⟩) hl).trans (hc j p hp).1, (hb.cell (p := ⟨b, _, none⟩) hl).trans (hc j p hp).2⟩⟩
def prsGo : Int → List (Int × Nat) → Bool
  | _, [] => true
  | last, p :: r => decide (last < p.1) && (isRepl p.1 && (isNum p.2 && prsGo p.1 r))
def prsMay (qs : List (Int × Nat)) : Bool := prsGo 0 qs && decide (0 < qs.length)
set_option maxHeartbeats 1000000 in
theorem mayPairs_ms (A : Option Addr) (c : Nat) (qs : List (Int × Nat)) (w : World) (hq : Prs w A qs) (hn : qs.length ≤ 140737488355328) :
    Calls Tryz.prog 90 #[.slice A qs.length c] w fun E w' => E = .returned (.bool (prsMay qs)) ∧ Below w.heap.size w w' := by
  have HQ := Lib.hid hq
  have HI := Lib.hid (fun i W => isReplica_ms i W)
  have HN := Lib.hid (fun n W => isNumber_ms n W)
  obtain ⟨n, hnn⟩ : ∃ n, n = qs.length := ⟨_, rfl⟩
  have HL := Lib.hid hnn
  rw [← hnn] at hn ⊢
  clear hq hnn
  have HB0 := Lib.hid (Below.refl w.heap.size w)
  go_enter Tryz.func90, Tryz.ntmps90
  go_wp2_with fail
  go_loopw [3, 8] (fun v3 v8 wr => ∃ j : Nat, j ≤ n ∧ v8 = .int .i64 (j : Int) ∧ ∃ last : Int, v3 = .int .i64 last ∧ Hid (Below w.heap.size w wr ∧ prsGo 0 qs = prsGo last (qs.drop j))) (fun _ v8 _ => n - (intOf v8).toNat)
  case atStart => exact ⟨0, by omega, rfl, 0, rfl, Lib.hid ⟨HB0.out, rfl⟩⟩
  case round =>
    obtain ⟨j, hj, rfl, last, rfl, HR⟩ := hrel
    by_cases hjj : j < n
    · obtain ⟨b, o, rfl, hbl, hc⟩ := HQ.out (by rw [← HL.out]; omega)
      obtain ⟨p, hp⟩ : ∃ p, qs[j]? = some p := ⟨_, List.getElem?_eq_getElem (by rw [← HL.out]; omega)⟩
      have c0 : wr.cell? ⟨b, o + j * 2, none⟩ = some (.int .i64 p.1) := (HR.out.1.cell (p := ⟨b, o + j * 2, none⟩) hbl).trans (hc j p hp).1
      have c1 : wr.cell? ⟨b, o + j * 2 + 1, none⟩ = some (.int .u64 (p.2 : Int)) := (HR.out.1.cell (p := ⟨b, o + j * 2 + 1, none⟩) hbl).trans (hc j p hp).2
      have HG : Hid (prsGo 0 qs = (decide (last < p.1) && (isRepl p.1 && (isNum p.2 && prsGo p.1 (qs.drop (j + 1)))))) := Lib.hid (by rw [HR.out.2, List.drop_eq_getElem_cons (by rw [← HL.out]; omega), prsGo]; simp [(List.getElem?_eq_some_iff.1 hp).2])
      have HP : Hid (prsMay qs = (prsGo 0 qs && decide (0 < qs.length))) := Lib.hid rfl
      obtain ⟨x, y⟩ := p
      clear hc hp
      dsimp only at c0 c1 HG
      have HI' := Lib.hid (fun W => HI.out x W)
      have HN' := Lib.hid (fun W => HN.out y W)
      by_cases hlt : last < x
      · have e1 : decide (last < x) = true := decide_eq_true hlt
        rw [e1, Bool.true_and] at HG
        clear e1
        cases hq1 : isRepl x with
        | false =>
          rw [hq1] at HI' HG
          rw [Bool.false_and] at HG
          go_wp2_with (first | (go_at_call 33; refine (HI'.out _).mono ?_; rintro E w1 ⟨rfl, rfl⟩) | (go_at_call 60; refine (HN'.out _).mono ?_; rintro E w1 ⟨rfl, rfl⟩))
          go_ret
          exact ⟨ret_bool (by rw [HP.out, HG.out, Bool.false_and]), HR.out.1.alloc HR.out.1.size _⟩
        | true =>
          rw [hq1] at HI' HG
          rw [Bool.true_and] at HG
          cases hq2 : isNum y with
          | false =>
            rw [hq2] at HN' HG
            rw [Bool.false_and] at HG
            go_wp2_with (first | (go_at_call 33; refine (HI'.out _).mono ?_; rintro E w1 ⟨rfl, rfl⟩) | (go_at_call 60; refine (HN'.out _).mono ?_; rintro E w1 ⟨rfl, rfl⟩))
            go_ret
            exact ⟨ret_bool (by rw [HP.out, HG.out, Bool.false_and]), HR.out.1.alloc HR.out.1.size _⟩
          | true =>
            rw [hq2] at HN' HG
            rw [Bool.true_and] at HG
            go_wp2_with (first | (go_at_call 33; refine (HI'.out _).mono ?_; rintro E w1 ⟨rfl, rfl⟩) | (go_at_call 60; refine (HN'.out _).mono ?_; rintro E w1 ⟨rfl, rfl⟩))
            go_roundw
            case measure => simp [intOf] <;> omega
            case rel => exact ⟨j + 1, by omega, by go_num, x, rfl, Lib.hid ⟨HR.out.1.alloc HR.out.1.size _, HG.out⟩⟩
      · rw [decide_eq_false hlt, Bool.false_and] at HG
        go_wp2_with fail
        go_ret
        exact ⟨ret_bool (by rw [HP.out, HG.out, Bool.false_and]), HR.out.1.alloc HR.out.1.size _⟩
    · have HG : Hid (prsGo 0 qs = true) := Lib.hid (by rw [HR.out.2, List.drop_eq_nil_of_le (by rw [← HL.out]; omega), prsGo])
      have HP : Hid (prsMay qs = decide (0 < n)) := Lib.hid (by rw [prsMay, HG.out, Bool.true_and, ← HL.out])
      go_wp2_with fail
      go_ret
      rw [HP.out]
      exact ⟨rfl, HR.out.1⟩
end Go.Proofs.YtghjogneogkpoaaGreatDoor.Sh
