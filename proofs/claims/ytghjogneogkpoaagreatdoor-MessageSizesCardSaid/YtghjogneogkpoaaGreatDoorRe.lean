/-
  What is proved: whether a message may be, by the document's own answers, and its bytes: all kinds but NewView, and the bytes of Commit, Change, Enter. Conditions as stated.
-/
import Derived.Test.YtghjogneogkpoaaGreatDoorRc
import Derived.Test.YtghjogneogkpoaaGreatDoorRd
namespace Go.Proofs.YtghjogneogkpoaaGreatDoor.Sh
open Go.RowKit
set_option maxRecDepth 100000


theorem own_same {x : MBody} (h : kindMay x = true) : bodyOwn x = ownR x := by
  rcases kinds_of h with ⟨e, _⟩ | e | e | e | ⟨e, _⟩ | e <;> simp [bodyOwn, ownR, e]
theorem same_symm {a b : MBody} : a.same b ↔ b.same a := ⟨fun h => ⟨h.1.symm, h.2.1.symm, h.2.2.1.symm, h.2.2.2.1.symm, h.2.2.2.2.symm⟩, fun h => ⟨h.1.symm, h.2.1.symm, h.2.2.1.symm, h.2.2.2.1.symm, h.2.2.2.2.symm⟩⟩
theorem ownR_kind (x : MBody) : (ownR x).kind = x.kind := by
  unfold ownR
  split
  · rfl
  split
  · rfl
  split
  · rfl
  split
  · rfl
  split
  · rfl
  split
  · rfl
  · rfl
theorem ownR_prs {w : World} {x : MBody} (h : Prs w x.qa x.qs) : Prs w (ownR x).qa (ownR x).qs := by
  have hz : Prs w none [] := fun h => absurd h (by simp)
  unfold ownR
  split
  · exact hz
  split
  · exact hz
  split
  · exact hz
  split
  · exact hz
  split
  · exact h
  split
  · exact hz
  · exact hz
theorem ownR_len (x : MBody) : (ownR x).qs.length ≤ x.qs.length := by
  unfold ownR
  split
  · exact Nat.zero_le _
  split
  · exact Nat.zero_le _
  split
  · exact Nat.zero_le _
  split
  · exact Nat.zero_le _
  split
  · exact Nat.le_refl _
  split
  · exact Nat.zero_le _
  · exact Nat.zero_le _
/-- When a body may be, as the document asks it. -/
theorem may_iff (x : MBody) : x.may ↔ (ownR x).kind = x.kind ∧ (ownR x).same x ∧ x.view < 1073741824 ∧ kindMay x = true := by
  unfold MBody.may
  constructor
  · rintro ⟨h1, h2, h3⟩
    rw [own_same h1] at h3
    exact ⟨ownR_kind x, same_symm.1 h3, h2, h1⟩
  · rintro ⟨_, h3, h2, h1⟩
    rw [own_same h1]
    exact ⟨h1, h2, same_symm.1 h3⟩
open Classical in
theorem body_rf (x : MBody) (w : World) (hx : x.Wf) (hq : Prs w x.qa x.qs) (hn : x.qs.length ≤ 140737488355328)
    (h4 : x.kind = 4 → ¬ (x.view ≥ 1073741824) → (ownR x).kind = x.kind ∧ (ownR x).same x → Calls Tryz.prog 36 #[.agg (bodyC x).toArray] w fun E w' => E = .returned (.bool (kindMay x)) ∧ Hid (Below w.heap.size w w')) :
    Calls Tryz.prog 36 #[.agg (bodyC x).toArray] w fun E w' => E = .returned (.bool (decide x.may)) ∧ Hid (Below w.heap.size w w') := by
  have hO : Hid (∀ W, Below w.heap.size w W → Calls Tryz.prog 64 #[.agg (bodyC x).toArray] W fun E w' => E = .returned (.agg (bodyC (ownR x)).toArray) ∧ Hid (Below W.heap.size W w')) := Lib.hid fun W _ => own_rf x W hx
  have hS : ∀ W, Below w.heap.size w W → Calls Tryz.prog 52 #[.agg (bodyC (ownR x)).toArray, .agg (bodyC x).toArray] W fun E w' => (∃ z, E = .returned (.bool z) ∧ (z = true ↔ (ownR x).kind = x.kind ∧ (ownR x).same x)) ∧ Below W.heap.size W w' := fun W h =>
    sameBody_rf (ownR x) x W (ownR_wf hx) hx (ownR_prs (hq.below h)) (hq.below h) (Nat.le_trans (ownR_len x) hn) hn
  have fin : ∀ {b : Bool} {E : Ending} {w' : World}, (b = true ↔ x.may) → E = .returned (.bool b) ∧ Hid (Below w.heap.size w w') → E = .returned (.bool (decide x.may)) ∧ Hid (Below w.heap.size w w') := fun hb hE => ⟨hE.1.trans (ret_bool (by rw [Bool.eq_iff_iff, hb, decide_eq_true_iff])), hE.2⟩
  by_cases hs : (ownR x).kind = x.kind ∧ (ownR x).same x
  · have hS' : Hid (∀ W, Below w.heap.size w W → Calls Tryz.prog 52 #[.agg (bodyC (ownR x)).toArray, .agg (bodyC x).toArray] W fun E w' => E = .returned (.bool true) ∧ Hid (Below W.heap.size W w')) := Lib.hid fun W h => (hS W h).mono fun E w' hE => ⟨bool_of hE.1 hs, hE.2⟩
    by_cases hv : x.view ≥ 1073741824
    · exact (bodyr_v x w hx (by omega) hv hO hS').mono fun E w' hE => fin (by rw [may_iff]; simp; omega) hE
    · have hv1 : ¬ ((x.view : Int) ≥ 1073741824) := by omega
      have key : ∀ {b : Bool} {E : Ending} {w' : World}, b = kindMay x → E = .returned (.bool b) ∧ Hid (Below w.heap.size w w') → E = .returned (.bool (decide x.may)) ∧ Hid (Below w.heap.size w w') := fun hb hE => fin (by
        rw [hb, may_iff]
        constructor
        · intro h
          exact ⟨hs.1, hs.2, by omega, h⟩
        · exact fun h => h.2.2.2) hE
      by_cases e1 : x.kind = 1
      · exact (bodyr_1 x w hx (Lib.hid e1) (Lib.hid fun W => asked_rf x.req W) hv1 hv hO hS').mono fun E w' hE => key (by simp [kindMay, e1]) hE
      by_cases e2 : x.kind = 2
      · by_cases hk : (1 : Int) ≤ (x.k : Int)
        · exact (bodyr_2 x w hx (Lib.hid e2) hk hv1 hv hO hS').mono fun E w' hE => key (by
            rw [Bool.eq_iff_iff]
            simp only [kindMay, e2, isCnt, decide_eq_true_eq]
            simp
            omega) hE
        · exact (bodyr_2n x w hx (Lib.hid e2) hk hv1 hv hO hS').mono fun E w' hE => key (by
            have : isCnt x.k = false := by simp [isCnt]; omega
            simp [kindMay, e2, this]) hE
      by_cases e3 : x.kind = 3
      · exact (bodyr_3 x w hx (Lib.hid e3) hv1 hv hO hS').mono fun E w' hE => key (by simp [kindMay, e3]) hE
      by_cases e4 : x.kind = 4
      · exact (h4 e4 hv hs).mono fun E w' hE => key rfl hE
      by_cases e5 : x.kind = 5
      · exact (bodyr_5 x w hx (Lib.hid e5) hv1 hv hO hS').mono fun E w' hE => key (by simp [kindMay, e5]) hE
      by_cases e6 : x.kind = 6
      · by_cases hk : (1 : Int) ≤ (x.k : Int)
        · exact (bodyr_6 x w hx (Lib.hid e6) hk hv1 hv hO hS').mono fun E w' hE => key (by
            rw [Bool.eq_iff_iff]
            simp only [kindMay, e6, isCnt, decide_eq_true_eq]
            simp
            omega) hE
        · exact (bodyr_6n x w hx (Lib.hid e6) hk hv1 hv hO hS').mono fun E w' hE => key (by
            have : isCnt x.k = false := by simp [isCnt]; omega
            simp [kindMay, e6, this]) hE
      · have hne : ∀ (n : UInt8) (z : Int), z = (n.toNat : Int) → ¬ x.kind = n → ¬ ((x.kind.toNat : Int) = z) := fun n z hz h e => h (UInt8.toNat_inj.1 (by omega))
        exact (bodyr_x x w hx (hne 1 _ rfl e1) (hne 2 _ rfl e2) (hne 3 _ rfl e3) (hne 4 _ rfl e4) (hne 5 _ rfl e5) (hne 6 _ rfl e6) hv1 hv hO hS').mono fun E w' hE => key (by simp [kindMay, e1, e2, e3, e4, e5, e6]) hE
  · have hS' : Hid (∀ W, Below w.heap.size w W → Calls Tryz.prog 52 #[.agg (bodyC (ownR x)).toArray, .agg (bodyC x).toArray] W fun E w' => E = .returned (.bool false) ∧ Hid (Below W.heap.size W w')) := Lib.hid fun W h => (hS W h).mono fun E w' hE => ⟨bool_not hE.1 hs, hE.2⟩
    exact (bodyr_n x w hx hO hS').mono fun E w' hE => fin (by
      rw [may_iff]
      constructor
      · intro h; cases h
      · exact fun h => absurd ⟨h.1, h.2.1⟩ hs) hE
open Classical in
theorem may_rf_by (m : MMsg) (w : World) (hm : m.Wf) (HB : Hid (∀ W, Below w.heap.size w W → Calls Tryz.prog 36 #[.agg (bodyC m.body).toArray] W fun E w' => E = .returned (.bool (decide m.body.may)) ∧ Hid (Below W.heap.size W w'))) :
    Calls Tryz.prog 14 #[.agg (msgC m).toArray] w fun E w' => E = .returned (.bool (decide m.may)) ∧ Hid (Below w.heap.size w w') := by
  have no : ∀ {E : Ending} {w' : World}, ¬ m.may → E = .returned (.bool false) ∧ Hid (Below w.heap.size w w') → E = .returned (.bool (decide m.may)) ∧ Hid (Below w.heap.size w w') := fun h hE => ⟨hE.1.trans (ret_bool (decide_eq_false h).symm), hE.2⟩
  have hrep : isRepl m.origin = true ↔ 1 ≤ m.origin ∧ m.origin ≤ 11 := by simp [isRepl]
  have hnum : isNum m.number = true ↔ 1 ≤ m.number ∧ m.number ≤ 65536 := by simp [isNum]
  by_cases h0 : m.origin < 1
  · exact (mayr_0 m w hm h0).mono fun E w' hE => no (fun h => by have := hrep.1 h.1; omega) hE
  by_cases h1 : m.origin > 11
  · exact (mayr_1 m w hm h0 h1).mono fun E w' hE => no (fun h => by have := hrep.1 h.1; omega) hE
  by_cases h2 : (m.number : Int) < 1
  · exact (mayr_2 m w hm h0 h1 h2 (by omega)).mono fun E w' hE => no (fun h => by have := hnum.1 h.2.1.1; omega) hE
  by_cases h3 : (m.number : Int) > 65536
  · exact (mayr_3 m w hm h0 h1 h2 (by omega) h3 (by omega)).mono fun E w' hE => no (fun h => by have := hnum.1 h.2.1.1; omega) hE
  obtain ⟨i, hi⟩ : ∃ i : Nat, m.origin = (i : Int) + 1 := ⟨m.origin.toNat - 1, by omega⟩
  have hi11 : i < 11 := by omega
  obtain ⟨d, hd⟩ : ∃ d, m.deps[i]? = some d := ⟨_, List.getElem?_eq_getElem (by rw [hm.1]; exact hi11)⟩
  have hii : m.origin.toNat - 1 = i := by omega
  by_cases h4 : (d : Int) = ((m.number - 1 : Nat) : Int)
  · refine (mayr_5 m i d (decide m.body.may) w hm h0 h1 h2 (by omega) h3 (by omega) hi hi11 hd h4 HB).mono fun E w' hE => ⟨hE.1.trans (ret_bool ?_), hE.2⟩
    have hd' : m.deps[m.origin.toNat - 1]? = some (m.number - 1) := by rw [hii, hd]; congr 1; omega
    rw [Bool.eq_iff_iff, decide_eq_true_iff (p := m.may)]
    simp only [Bool.and_eq_true, decide_eq_true_eq, MMsg.may, MMsg.numMay, hrep, hnum, hd', true_and]
    constructor
    · rintro ⟨a, b⟩
      exact ⟨⟨by omega, by omega⟩, ⟨⟨by omega, by omega⟩, a⟩, b⟩
    · exact fun h => ⟨h.2.1.2, h.2.2⟩
  · exact (mayr_4 m i d w hm h0 h1 h2 (by omega) h3 (by omega) hi hi11 hd h4).mono fun E w' hE => no (fun h => by
      have := h.2.1.2.1
      rw [hii, hd] at this
      injection this with this
      exact h4 (by omega)) hE

theorem rword_ow {B n c : Nat} {w : World} {A : Option Addr} {bs : List UInt8} (num : Nat) (h : Ow B w A n c bs) (hn : n ≤ 100000000) :
    Calls Tryz.prog 38 #[.slice A n c, .int .u64 (num : Int)] w fun E w' => ∃ A' n' c', E = .returned (.slice A' n' c') ∧ Ow w.heap.size w' A' n' c' (bs ++ be 8 num) ∧ Hid (Below w.heap.size w w') :=
  (refWord_any A n c bs num w h.rd h.2 (by omega)).mono fun E w' ⟨A', c', he, ho, hb⟩ => ⟨A', _, c', he, ho.out, hb⟩
end Go.Proofs.YtghjogneogkpoaaGreatDoor.Sh
