/-
  What is proved: what Ok, rest, Left and take of a cut do. Conditions as stated.
  What is proved: what Word, Half, Byte, Text and Raw of a cut answer. Conditions as stated.
  What is proved: what Text and Raw of a cut answer. Conditions as stated.
-/
import Derived.Test.YtghjogneogkpoaaGreatDoorK4
import Derived.Deep.QuietTactic
import Derived.BigQuiet
import Derived.Laws.Rows

namespace Go.Proofs.YtghjogneogkpoaaGreatDoor.Oct
open Go.RowKit
set_option maxRecDepth 100000

theorem cells3 {w : World} {g : Nat} {a b c : Value} (h : w.heap[g]? = some (.cells #[a, b, c] 94 (0, 0))) :
    w.cell? ⟨g, 0, none⟩ = some a ∧ w.cell? ⟨g, 1, none⟩ = some b ∧ w.cell? ⟨g, 2, none⟩ = some c ∧ w.frozen? ⟨g, 1, none⟩ = false ∧ w.frozen? ⟨g, 2, none⟩ = false :=
  ⟨cell_of_row w g 0 _ 94 (0, 0) h, cell_of_row w g 1 _ 94 (0, 0) h, cell_of_row w g 2 _ 94 (0, 0) h, by simp [World.frozen?, h], by simp [World.frozen?, h]⟩

theorem ok_any {lo : Nat} (g : Nat) (rem : List UInt8) (sp : Bool) (w : World) (h : CutAt w lo g rem sp) :
    Calls Tryz.prog 78 #[.pointer (some ⟨g, 0, none⟩)] w fun e w' => e = .returned (.bool (!sp)) ∧ w = w' := by
  obtain ⟨A, n, c, at_, all, hg, _⟩ := h
  obtain ⟨_, _, h2, _, _⟩ := cells3 hg
  clear hg
  go_enter Tryz.func78, Tryz.ntmps78
  go_wp2
  go_ret
  exact ⟨rfl, rfl⟩

theorem rest_any (g : Nat) (A : Option Addr) (n c at_ : Nat) (sp : Bool) (w : World) (hg : w.heap[g]? = some (.cells #[.slice A n c, .int .i64 (at_ : Int), .bool sp] 94 (0, 0))) (ha : at_ ≤ n) (hs : Sl A n c) :
    Calls Tryz.prog 108 #[.pointer (some ⟨g, 0, none⟩)] w fun e w' => e = .returned (.slice (if c = at_ then A else A.map (·.add at_)) (n - at_) (c - at_)) ∧ ∃ q, w' = w.drewN q := by
  obtain ⟨h0, h1, _, _, _⟩ := cells3 hg
  clear hg
  obtain ⟨_, hs2, hs3⟩ := hs
  go_enter Tryz.func108, Tryz.ntmps108
  go_wp2
  go_quiet (fail)
  go_wp2
  all_goals (go_ret; exact ⟨rfl, _, rfl⟩)

theorem Rd.cut {w : World} {A : Option Addr} {n c k : Nat} {all : List UInt8} (h : Rd w A n all) (hk : k ≤ n) (hc : n ≤ c) :
    Rd w (if c = k then A else A.map (·.add k)) (n - k) (all.drop k) := by
  refine ⟨by rw [List.length_drop, h.1], fun hn => ?_⟩
  obtain ⟨b, o, rfl, hb, hcell⟩ := h.2 (by omega)
  rw [if_neg (by omega)]
  refine ⟨b, o + k, by simp [Addr.add_lit], hb, fun j u hu => ?_⟩
  rw [Nat.add_assoc]
  exact hcell _ u (by rw [← hu, List.getElem?_drop])

theorem Rd.take {w : World} {A : Option Addr} {n k : Nat} {all : List UInt8} (h : Rd w A n all) (hk : k ≤ n) : Rd w A k (all.take k) := by
  refine ⟨by rw [List.length_take, h.1]; omega, fun hn => ?_⟩
  obtain ⟨b, o, rfl, hb, hcell⟩ := h.2 (by omega)
  refine ⟨b, o, rfl, hb, fun j u hu => hcell j u ?_⟩
  rw [List.getElem?_take] at hu
  split at hu
  · exact hu
  · cases hu

theorem Rd.drewN {w : World} {A : Option Addr} {n : Nat} {bs : List UInt8} (h : Rd w A n bs) (q : Nat) : Rd (w.drewN q) A n bs := h
theorem CutAt.drewN {lo : Nat} {w : World} {g : Nat} {rem : List UInt8} {sp : Bool} (h : CutAt w lo g rem sp) (q : Nat) : CutAt (w.drewN q) lo g rem sp := h

theorem Sl.cut {A : Option Addr} {n c k m : Nat} (h : Sl A n c) (hk : k + m ≤ n) : Sl (if c = k then A else A.map (·.add k)) m (c - k) := by
  obtain ⟨h1, h2, h3⟩ := h
  refine ⟨fun he => ?_, by omega, by omega⟩
  split at he
  · obtain ⟨rfl, rfl⟩ := h1 he
    omega
  · have : A = none := by simpa using he
    obtain ⟨rfl, rfl⟩ := h1 this
    omega

theorem block_cut {A : Option Addr} {c k lo g : Nat} (h : ∀ ad, A = some ad → lo ≤ ad.block ∧ ad.block < g) : ∀ ad, (if c = k then A else A.map (·.add k)) = some ad → lo ≤ ad.block ∧ ad.block < g := by
  intro ad had
  split at had
  · exact h ad had
  · obtain ⟨a, rfl, rfl⟩ := Option.map_eq_some_iff.1 had
    have : (a.add k).block = a.block := by unfold Addr.add; split <;> rfl
    rw [this]
    exact h a rfl

theorem rest_cut {lo : Nat} (g : Nat) (rem : List UInt8) (sp : Bool) (w : World) (h : CutAt w lo g rem sp) :
    Calls Tryz.prog 108 #[.pointer (some ⟨g, 0, none⟩)] w fun e w' => ∃ A' c', e = .returned (.slice A' rem.length c') ∧
      Hid (Rd w A' rem.length rem ∧ Sl A' rem.length c' ∧ ∀ ad, A' = some ad → lo ≤ ad.block ∧ ad.block < g) ∧ ∃ q, w' = w.drewN q := by
  obtain ⟨A, n, c, at_, all, hg, hr, hs, ha, hn, rfl, hne⟩ := h
  have hl : (all.drop at_).length = n - at_ := by rw [List.length_drop, hr.1]
  rw [hl]
  exact (rest_any g A n c at_ sp w hg ha hs).mono fun e w' ⟨he, q, hw⟩ => ⟨_, _, he, ⟨hr.cut ha hs.2.1, hs.cut (by omega), block_cut hne⟩, q, hw⟩

theorem CutAt.flag {lo : Nat} {w : World} {g : Nat} {rem : List UInt8} {sp : Bool} (h : CutAt w lo g rem sp) : w.cell? ⟨g, 2, none⟩ = some (.bool sp) ∧ w.frozen? ⟨g, 2, none⟩ = false := by
  obtain ⟨A, n, c, at_, all, hg, _⟩ := h
  obtain ⟨_, _, h1, _, h2⟩ := cells3 hg
  exact ⟨h1, h2⟩

theorem CutAt.len {lo : Nat} {w : World} {g : Nat} {rem : List UInt8} {sp : Bool} (h : CutAt w lo g rem sp) : rem.length ≤ 140737488355328 := by
  obtain ⟨A, n, c, at_, all, hg, hr, hs, ha, hn, rfl, hne⟩ := h
  rw [List.length_drop, hr.1]
  omega

theorem left_any {lo : Nat} (g : Nat) (rem : List UInt8) (sp : Bool) (w : World) (h : CutAt w lo g rem sp) :
    Calls Tryz.prog 79 #[.pointer (some ⟨g, 0, none⟩)] w fun e w' => e = .returned (.int .i64 (rem.length : Int)) ∧ ∃ q, w' = w.drewN q := by
  go_enter Tryz.func79, Tryz.ntmps79
  go_wp2_with (go_at_call 108; refine (rest_cut g rem sp w h).mono ?_; rintro e w1 ⟨A', c', rfl, _, q, rfl⟩)
  go_ret
  exact ⟨rfl, q, rfl⟩

theorem take_spoilt {lo : Nat} (g : Nat) (rem : List UInt8) (k : Int) (w : World) (h : CutAt w lo g rem true) :
    Calls Tryz.prog 74 #[.pointer (some ⟨g, 0, none⟩), .int .i64 k] w fun e w' => e = .returned (.slice none 0 0) ∧ w = w' := by
  go_enter Tryz.func74, Tryz.ntmps74
  go_wp2_with (go_at_call 78; refine (ok_any g rem true w h).mono ?_; rintro e w1 ⟨rfl, rfl⟩)
  go_ret
  exact ⟨rfl, rfl⟩

theorem CutAt.grownBy_set {lo : Nat} {w : World} {g : Nat} {rem : List UInt8} (h : CutAt w lo g rem false) : CutAt (w.setCell ⟨g, 2, none⟩ (.bool true)) lo g rem true := by
  obtain ⟨A, n, c, at_, all, hg, hr, hs, ha, hn, rfl, hne⟩ := h
  refine ⟨A, n, c, at_, all, by simp [World.setCell, Array.getElem?_modify, hg], ⟨hr.1, fun hp => ?_⟩, hs, ha, hn, rfl, hne⟩
  obtain ⟨b, o, hA, hb, hc⟩ := hr.2 hp
  refine ⟨b, o, hA, by simpa [World.setCell] using hb, fun j u hu => ?_⟩
  rw [World.cell?_setCell_other _ _ _ _ (fun e => Nat.ne_of_lt (hne _ hA).2 (by have := congrArg Addr.block e; simpa using this.symm))]
  exact hc j u hu

theorem grownBy_set (w : World) (g i : Nat) (u : Value) : w.grownBy (w.setCell ⟨g, i, none⟩ u) (some g) :=
  ⟨rfl, rfl, rfl, by simp [World.setCell], fun k _ hk => Below.heap_setCell _ _ _ _ (fun e => hk (by rw [e]))⟩

theorem grownBy_drewN (w : World) (q : Nat) (row : Option Nat) : w.grownBy (w.drewN q) row := ⟨rfl, rfl, rfl, Nat.le_refl _, fun _ _ _ => rfl⟩

theorem grownBy_trans {a b c : World} {row : Option Nat} (h : a.grownBy b row) (k : b.grownBy c row) : a.grownBy c row :=
  ⟨k.os.trans h.os, k.tape.trans h.tape, k.output.trans h.output, Nat.le_trans h.size k.size, fun i hi hne => (k.block i (Nat.lt_of_lt_of_le hi h.size) hne).trans (h.block i hi hne)⟩

theorem take_neg {lo : Nat} (g : Nat) (rem : List UInt8) (k : Int) (w : World) (h : CutAt w lo g rem false) (hk : k < 0) :
    Calls Tryz.prog 74 #[.pointer (some ⟨g, 0, none⟩), .int .i64 k] w fun e w' => e = .returned (.slice none 0 0) ∧ CutAt w' lo g rem true ∧ w.grownBy w' (some g) := by
  have hset := h.grownBy_set
  obtain ⟨_, hf⟩ := h.flag
  go_enter Tryz.func74, Tryz.ntmps74
  go_wp2_with (go_at_call 78; refine (ok_any g rem false w h).mono ?_; rintro e w1 ⟨rfl, rfl⟩)
  go_ret
  exact ⟨rfl, hset, grownBy_set _ _ _ _⟩

theorem take_more {lo : Nat} (g : Nat) (rem : List UInt8) (k : Int) (w : World) (h : CutAt w lo g rem false) (hk : 0 ≤ k) (hm : (rem.length : Int) < k) :
    Calls Tryz.prog 74 #[.pointer (some ⟨g, 0, none⟩), .int .i64 k] w fun e w' => e = .returned (.slice none 0 0) ∧ CutAt w' lo g rem true ∧ w.grownBy w' (some g) := by
  have hset := fun q => (h.drewN q).grownBy_set
  obtain ⟨_, hf⟩ := h.flag
  go_enter Tryz.func74, Tryz.ntmps74
  go_wp2_with (first
    | (go_at_call 78; refine (ok_any g rem false w h).mono ?_; rintro e w1 ⟨rfl, rfl⟩)
    | (go_at_call 79; refine (left_any g rem false w h).mono ?_; rintro e w1 ⟨rfl, q, rfl⟩))
  go_ret
  exact ⟨rfl, hset q, grownBy_trans (grownBy_drewN w q _) (grownBy_set _ _ _ _)⟩

theorem take_cells {lo : Nat} (g : Nat) (rem : List UInt8) (A : Option Addr) (n c at_ : Nat) (w : World) (h : CutAt w lo g rem false) (k : Nat) (hk : k ≤ rem.length)
    (hg : w.heap[g]? = some (.cells #[.slice A n c, .int .i64 (at_ : Int), .bool false] 94 (0, 0))) (ha : at_ + k ≤ n) (_hn : n ≤ 140737488355328) (hs : n ≤ c) (hs3 : c ≤ 9223372036854775807) :
    Calls Tryz.prog 74 #[.pointer (some ⟨g, 0, none⟩), .int .i64 (k : Int)] w fun e w' => e = .returned (.slice (if c = at_ then A else A.map (·.add at_)) (at_ + k - at_) (c - at_)) ∧ ∃ q q', w' = ((w.drewN q).setCell ⟨g, 1, none⟩ (.int .i64 ((at_ : Int) + (k : Int)))).drewN q' := by
  obtain ⟨h0, h1, h2, hf, _⟩ := cells3 hg
  clear hg
  go_enter Tryz.func74, Tryz.ntmps74
  go_wp2_with (first
    | (go_at_call 78; refine (ok_any g rem false w h).mono ?_; rintro e w1 ⟨rfl, rfl⟩)
    | (go_at_call 79; refine (left_any g rem false w h).mono ?_; rintro e w1 ⟨rfl, q, rfl⟩))
  go_quiet (fail)
  go_wp2
  all_goals (go_ret; exact ⟨rfl, q, _, rfl⟩)

theorem Rd.set_far {w : World} {A : Option Addr} {n g i : Nat} {bs : List UInt8} (h : Rd w A n bs) (hne : ∀ ad, A = some ad → ad.block ≠ g) (u : Value) : Rd (w.setCell ⟨g, i, none⟩ u) A n bs := by
  refine ⟨h.1, fun hp => ?_⟩
  obtain ⟨b, o, hA, hb, hc⟩ := h.2 hp
  refine ⟨b, o, hA, by simpa [World.setCell] using hb, fun j u hu => ?_⟩
  rw [World.cell?_setCell_other _ _ _ _ (fun e => hne _ hA (by have := congrArg Addr.block e; simpa using this.symm))]
  exact hc j u hu

/-- Can so many be taken? -/
def fits (rem : List UInt8) (sp : Bool) (k : Int) : Bool := !sp && (decide (0 ≤ k) && decide (k ≤ (rem.length : Int)))
/-- What is taken. -/
def tkOut (rem : List UInt8) (sp : Bool) (k : Int) : List UInt8 := if fits rem sp k then rem.take k.toNat else []
/-- What is left then. -/
def tkRem (rem : List UInt8) (sp : Bool) (k : Int) : List UInt8 := if fits rem sp k then rem.drop k.toNat else rem

theorem tk_not {rem : List UInt8} {sp : Bool} {k : Int} (h : fits rem sp k = false) : tkOut rem sp k = [] ∧ tkRem rem sp k = rem := by simp [tkOut, tkRem, h]

theorem tk_post {lo : Nat} {w : World} {g : Nat} {rem : List UInt8} {sp : Bool} {k : Int} {e : Ending} {w' : World} (hf : fits rem sp k = false) (he : e = .returned (.slice none 0 0)) (hc : CutAt w' lo g rem true) (hg : w.grownBy w' (some g)) :
    ∃ A' c', e = .returned (.slice A' (tkOut rem sp k).length c') ∧ Hid (Rd w' A' (tkOut rem sp k).length (tkOut rem sp k) ∧ Sl A' (tkOut rem sp k).length c' ∧ ∀ ad, A' = some ad → lo ≤ ad.block ∧ ad.block < g) ∧
      CutAt w' lo g (tkRem rem sp k) (!fits rem sp k) ∧ w.grownBy w' (some g) := by
  obtain ⟨h1, h2⟩ := tk_not hf
  rw [h1, h2, hf]
  exact ⟨none, 0, he, ⟨⟨rfl, fun h => absurd h (by simp)⟩, ⟨fun _ => ⟨rfl, rfl⟩, Nat.le_refl _, by omega⟩, fun _ h => (by cases h)⟩, hc, hg⟩

theorem take_any {lo : Nat} (g : Nat) (rem : List UInt8) (sp : Bool) (k : Int) (w : World) (h : CutAt w lo g rem sp) :
    Calls Tryz.prog 74 #[.pointer (some ⟨g, 0, none⟩), .int .i64 k] w fun e w' => ∃ A' c', e = .returned (.slice A' (tkOut rem sp k).length c') ∧
      Hid (Rd w' A' (tkOut rem sp k).length (tkOut rem sp k) ∧ Sl A' (tkOut rem sp k).length c' ∧ ∀ ad, A' = some ad → lo ≤ ad.block ∧ ad.block < g) ∧
      CutAt w' lo g (tkRem rem sp k) (!fits rem sp k) ∧ w.grownBy w' (some g) := by
  cases sp with
  | true => exact (take_spoilt g rem k w h).mono fun e w' ⟨he, hw⟩ => hw ▸ tk_post (by simp [fits]) he h (World.grownBy.refl _ _)
  | false =>
    by_cases h0 : k < 0
    · exact (take_neg g rem k w h h0).mono fun e w' ⟨he, hc, hg⟩ => tk_post (by simp [fits]; omega) he hc hg
    · by_cases h1 : (rem.length : Int) < k
      · exact (take_more g rem k w h (by omega) h1).mono fun e w' ⟨he, hc, hg⟩ => tk_post (by simp [fits]; omega) he hc hg
      · obtain ⟨A, n, c, at_, all, hg, hr, hs, ha, hn, rfl, hne⟩ := id h
        obtain ⟨m, rfl⟩ : ∃ m : Nat, k = (m : Int) := ⟨k.toNat, by omega⟩
        have hm : m ≤ (all.drop at_).length := by omega
        have hl : (all.drop at_).length = n - at_ := by rw [List.length_drop, hr.1]
        have hf : fits (all.drop at_) false (m : Int) = true := by simp only [fits, Bool.not_false, Bool.true_and, Bool.and_eq_true, decide_eq_true_eq]; omega
        have e1 : tkOut (all.drop at_) false (m : Int) = (all.drop at_).take m := by rw [tkOut, if_pos hf]; rfl
        have e2 : tkRem (all.drop at_) false (m : Int) = all.drop (at_ + m) := by rw [tkRem, if_pos hf, List.drop_drop]; rfl
        have e3 : ((all.drop at_).take m).length = m := by rw [List.length_take]; omega
        rw [e1, e2, e3, hf]
        refine (take_cells g _ A n c at_ w h m hm hg (by omega) hn hs.2.1 hs.2.2).mono fun e w' ⟨he, q, q', hw⟩ => ?_
        subst hw
        rw [Nat.add_sub_cancel_left] at he
        have hr1 : Rd ((w.drewN q).setCell ⟨g, 1, none⟩ (.int .i64 ((at_ : Int) + (m : Int)))) A n all := (hr.drewN q).set_far (fun ad h => Nat.ne_of_lt (hne ad h).2) _
        refine ⟨_, _, he, ⟨((hr1.drewN q').cut ha hs.2.1).take (by omega), hs.cut (by omega), block_cut hne⟩, ?_, ?_⟩
        · exact ⟨A, n, c, at_ + m, all, by simp [World.setCell, Array.getElem?_modify, hg], hr1, hs, by omega, hn, rfl, hne⟩
        · exact grownBy_trans (grownBy_trans (grownBy_drewN w q _) (grownBy_set _ _ _ _)) (grownBy_drewN _ q' _)

theorem tkOut_length (rem : List UInt8) (sp : Bool) (k : Nat) : (tkOut rem sp (k : Int)).length ≤ k := by
  unfold tkOut
  split
  · rw [List.length_take]; omega
  · exact Nat.zero_le _

theorem tkOut_len (rem : List UInt8) (sp : Bool) (k : Int) : (tkOut rem sp k).length ≤ rem.length := by
  unfold tkOut
  split
  · rw [List.length_take]; omega
  · exact Nat.zero_le _

theorem take_open {lo : Nat} (g : Nat) (rem : List UInt8) (sp : Bool) (k : Int) (w : World) (h : CutAt w lo g rem sp) :
    Calls Tryz.prog 74 #[.pointer (some ⟨g, 0, none⟩), .int .i64 k] w fun e w' => ∃ A' m c', e = .returned (.slice A' m c') ∧
      Hid (m = (tkOut rem sp k).length ∧ Rd w' A' m (tkOut rem sp k) ∧ Sl A' m c' ∧ ∀ ad, A' = some ad → lo ≤ ad.block ∧ ad.block < g) ∧
      CutAt w' lo g (tkRem rem sp k) (!fits rem sp k) ∧ w.grownBy w' (some g) :=
  (take_any g rem sp k w h).mono fun _ _ ⟨A', c', he, hh, hc, hg⟩ => ⟨A', _, c', he, ⟨rfl, hh.out⟩, hc, hg⟩

theorem CutAt.lt {lo : Nat} {w : World} {g : Nat} {rem : List UInt8} {sp : Bool} (h : CutAt w lo g rem sp) : g < w.heap.size := by
  obtain ⟨A, n, c, at_, all, hg, _⟩ := h
  rcases Nat.lt_or_ge g w.heap.size with hlt | hge
  · exact hlt
  · rw [Array.getElem?_eq_none hge] at hg; cases hg

/-- A cut stays while another one is used. -/
theorem CutAt.far {lo lo' : Nat} {w w' : World} {g g' : Nat} {rem : List UInt8} {sp : Bool} (h : CutAt w lo g rem sp) (hg : w.grownBy w' (some g')) (hne : g' < lo ∧ lo ≤ g ∨ g < lo' ∧ lo' ≤ g') : CutAt w' lo g rem sp := by
  have hlt := h.lt
  obtain ⟨A, n, c, at_, all, hh, hr, hs, ha, hn, rfl, hb⟩ := h
  refine ⟨A, n, c, at_, all, (hg.block g hlt (fun e => by injection e with e; omega)).trans hh, ⟨hr.1, fun hp => ?_⟩, hs, ha, hn, rfl, hb⟩
  obtain ⟨b, o, hA, hbl, hc⟩ := hr.2 hp
  have h2 := hb _ hA
  simp only at h2
  exact ⟨b, o, hA, Nat.lt_of_lt_of_le hbl hg.size, fun j u hu => hg.cell (hc j u hu) (fun e => by injection e with e; simp only at e; omega)⟩

/-- A cut stays while new memory is made. -/
theorem CutAt.below {lo : Nat} {w w' : World} {g : Nat} {rem : List UInt8} {sp : Bool} (h : CutAt w lo g rem sp) (hb : Below w.heap.size w w') : CutAt w' lo g rem sp := by
  have hlt := h.lt
  obtain ⟨A, n, c, at_, all, hh, hr, hs, ha, hn, rfl, hbb⟩ := h
  exact ⟨A, n, c, at_, all, (hb.block g hlt).trans hh, hr.below hb, hs, ha, hn, rfl, hbb⟩

theorem grownBy_below {w w' : World} (hb : Below w.heap.size w w') (row : Option Nat) : w.grownBy w' row := ⟨hb.os, hb.tape, hb.output, hb.size, fun k hk _ => hb.block k hk⟩

end Go.Proofs.YtghjogneogkpoaaGreatDoor.Oct

namespace Go.Proofs.YtghjogneogkpoaaGreatDoor.Oct
open Go.RowKit
set_option maxRecDepth 100000

/-- The number that bytes are, the highest one first. -/
def num (bs : List UInt8) : Nat := bs.foldl (fun n b => n * 256 + b.toNat) 0

theorem num_snoc (bs : List UInt8) (b : UInt8) : num (bs ++ [b]) = num bs * 256 + b.toNat := by simp [num]
theorem num_lt : ∀ (n : Nat) (bs : List UInt8), bs.length = n → num bs < 256 ^ n := by
  intro n
  induction n with
  | zero => intro bs h; rw [List.eq_nil_of_length_eq_zero h]; simp [num]
  | succ n ih =>
    intro bs h
    have hne : bs ≠ [] := by intro e; subst e; simp at h
    have hd : bs.dropLast ++ [bs.getLast hne] = bs := List.dropLast_concat_getLast hne
    have h1 := ih bs.dropLast (by rw [List.length_dropLast, h]; rfl)
    have h2 := (bs.getLast hne).toNat_lt
    rw [← hd, num_snoc, Nat.pow_succ]
    omega

theorem or_step (q : Nat) (u : UInt8) (hq : q < 72057594037927936) : bits .or .u64 ((q : Int) * 256) (IntKind.u64.wrap (u.toNat : Int)) = ((q * 256 + u.toNat : Nat) : Int) := by
  have hu := u.toNat_lt
  have h1 : IntKind.u64.wrap (u.toNat : Int) = (u.toNat : Int) := by rw [IntKind.wrap_u64]; omega
  have h2 : ((q : Int) * 256) = ((q * 256 : Nat) : Int) := by omega
  rw [h1, h2, u64_or_nat (q * 256) u.toNat (by omega) (by omega)]
  have h3 := Nat.two_pow_add_eq_or_of_lt (i := 8) (b := u.toNat) (by omega) q
  rw [Nat.mul_comm q 256, ← h3]

theorem num_step {m j : Nat} {out : List UInt8} {u : UInt8} (hu : out[j]? = some u) (_hj : j < m) : num (out.take (j + 1)) = num (out.take j) * 256 + u.toNat := by
  rw [List.take_add_one, hu]
  exact num_snoc _ _

theorem num_take_lt {out : List UInt8} {m j : Nat} (hm : m ≤ 8) (hj : j < m) : num (out.take j) < 72057594037927936 :=
  Nat.lt_of_lt_of_le (num_lt _ _ rfl) (show 256 ^ (out.take j).length ≤ 256 ^ 7 from Nat.pow_le_pow_right (by decide) (by rw [List.length_take]; omega))

/-- What a round of the loop finds. -/
theorem round_at {w1 : World} {A' : Option Addr} {m c' j K : Nat} {rem : List UInt8} {sp : Bool} {lo g : Nat}
    (hh : Hid (m = (tkOut rem sp (K : Int)).length ∧ Rd w1 A' m (tkOut rem sp (K : Int)) ∧ Sl A' m c' ∧ ∀ ad, A' = some ad → lo ≤ ad.block ∧ ad.block < g)) (hj : j < m) (hK : K ≤ 8) :
    ∃ b o u, A' = some ⟨b, o, none⟩ ∧ Hid ((tkOut rem sp (K : Int))[j]? = some u) ∧ w1.cell? ⟨b, o + j, none⟩ = some (.int .u8 (u.toNat : Int)) ∧ m ≤ 8 := by
  obtain ⟨h1, h2, _⟩ := hh.out
  obtain ⟨b, o, hA, _, hcc⟩ := h2.2 (by omega)
  have hjl : j < (tkOut rem sp (K : Int)).length := by omega
  exact ⟨b, o, (tkOut rem sp (K : Int))[j], hA, List.getElem?_eq_getElem hjl, hcc j _ (List.getElem?_eq_getElem hjl), by rw [h1]; exact Nat.le_trans (tkOut_length _ _ K) hK⟩

theorem num_all {w1 : World} {A' : Option Addr} {m c' j : Nat} {out : List UInt8} {lo g : Nat} (hh : Hid (m = out.length ∧ Rd w1 A' m out ∧ Sl A' m c' ∧ ∀ ad, A' = some ad → lo ≤ ad.block ∧ ad.block < g)) (hj : m ≤ j) : out.take j = out :=
  List.take_of_length_le (by rw [← hh.out.1]; exact hj)

theorem num_out_lt (rem : List UInt8) (sp : Bool) (K : Nat) : num (tkOut rem sp (K : Int)) < 256 ^ K :=
  Nat.lt_of_lt_of_le (num_lt _ _ rfl) (Nat.pow_le_pow_right (by decide) (tkOut_length _ _ K))

theorem num_wrap16 (rem : List UInt8) (sp : Bool) : IntKind.u16.wrap ((num (tkOut rem sp 2) : Nat) : Int) = (num (tkOut rem sp 2) : Int) := by
  have h : num (tkOut rem sp 2) < 256 ^ 2 := num_out_lt rem sp 2
  rw [IntKind.wrap_u16]; omega
set_option maxHeartbeats 400000 in
theorem cutNumber64 {lo : Nat} (g : Nat) (rem : List UInt8) (sp : Bool) (w : World) (h : CutAt w lo g rem sp) :
    Calls Tryz.prog 73 #[.func (.func 74) #[.pointer (some ⟨g, 0, none⟩)] #[]] w fun e w' => e = .returned (.int .u64 (num (tkOut rem sp 8))) ∧
      CutAt w' lo g (tkRem rem sp 8) (!fits rem sp 8) ∧ w.grownBy w' (some g) := by
  go_enter Tryz.func73, Tryz.ntmps73
  go_wp2_with (first
    | (go_at_call 98; refine (w8_any _).mono ?_; rintro e w1 ⟨rfl, rfl⟩)
    | (go_at_call 74; refine (take_open g rem sp 8 w h).mono ?_; rintro e w1 ⟨A', m, c', rfl, hh, hc, hg⟩))
  go_loop [3, 10] (fun v i => ∃ j : Nat, j ≤ m ∧ i = .int .i64 j ∧ v = .int .u64 (num ((tkOut rem sp 8).take j))) (fun _ i => m - (intOf i).toNat)
  case atStart => exact ⟨0, Nat.zero_le _, rfl, rfl⟩
  case round =>
    obtain ⟨j, hj, rfl, rfl⟩ := hrel
    by_cases hlt : j < m
    · obtain ⟨b, o, u, rfl, hu, hcell, hm8⟩ := round_at (K := 8) hh hlt (by decide)
      have hnum := num_take_lt (out := tkOut rem sp 8) hm8 hlt
      have hstep := num_step (out := tkOut rem sp 8) hu.out hlt
      obtain ⟨q, hq⟩ : ∃ q, q = num ((tkOut rem sp 8).take j) := ⟨_, rfl⟩
      have hor := or_step q u (by rw [hq]; exact hnum)
      rw [← hq] at hnum ⊢
      have HQ := Lib.hid hq
      have HS := Lib.hid hstep
      have HO := Lib.hid hor
      clear hq hstep hor
      go_wp2
      go_round
      case rel => exact ⟨j + 1, by omega, by go_num, by rw [HO.out, HS.out, HQ.out]⟩
      case measure => simp [intOf]; omega
    · have HA := Lib.hid (num_all hh (Nat.le_of_not_lt hlt))
      go_wp2
      go_ret
      exact ⟨by first | (rw [HA.out]; done) | (rw [HA.out]; rfl) | (rw [HA.out]; done) | (rw [HA.out]; rfl), hc, hg⟩

set_option maxHeartbeats 400000 in
theorem cutNumber16 {lo : Nat} (g : Nat) (rem : List UInt8) (sp : Bool) (w : World) (h : CutAt w lo g rem sp) :
    Calls Tryz.prog 139 #[.func (.func 74) #[.pointer (some ⟨g, 0, none⟩)] #[]] w fun e w' => e = .returned (.int .u16 (num (tkOut rem sp 2))) ∧
      CutAt w' lo g (tkRem rem sp 2) (!fits rem sp 2) ∧ w.grownBy w' (some g) := by
  have HB := Lib.hid (num_wrap16 rem sp)
  go_enter Tryz.func139, Tryz.ntmps139
  go_wp2_with (first
    | (go_at_call 128; refine (w2_any _).mono ?_; rintro e w1 ⟨rfl, rfl⟩)
    | (go_at_call 74; refine (take_open g rem sp 2 w h).mono ?_; rintro e w1 ⟨A', m, c', rfl, hh, hc, hg⟩))
  go_loop [3, 10] (fun v i => ∃ j : Nat, j ≤ m ∧ i = .int .i64 j ∧ v = .int .u64 (num ((tkOut rem sp 2).take j))) (fun _ i => m - (intOf i).toNat)
  case atStart => exact ⟨0, Nat.zero_le _, rfl, rfl⟩
  case round =>
    obtain ⟨j, hj, rfl, rfl⟩ := hrel
    by_cases hlt : j < m
    · obtain ⟨b, o, u, rfl, hu, hcell, hm8⟩ := round_at (K := 2) hh hlt (by decide)
      have hnum := num_take_lt (out := tkOut rem sp 2) hm8 hlt
      have hstep := num_step (out := tkOut rem sp 2) hu.out hlt
      obtain ⟨q, hq⟩ : ∃ q, q = num ((tkOut rem sp 2).take j) := ⟨_, rfl⟩
      have hor := or_step q u (by rw [hq]; exact hnum)
      rw [← hq] at hnum ⊢
      have HQ := Lib.hid hq
      have HS := Lib.hid hstep
      have HO := Lib.hid hor
      clear hq hstep hor
      go_wp2
      go_round
      case rel => exact ⟨j + 1, by omega, by go_num, by rw [HO.out, HS.out, HQ.out]⟩
      case measure => simp [intOf]; omega
    · have HA := Lib.hid (num_all hh (Nat.le_of_not_lt hlt))
      go_wp2
      go_ret
      exact ⟨by first | (rw [HA.out]; done) | (rw [HA.out]; rfl) | (rw [HA.out, HB.out]; done) | (rw [HA.out, HB.out]; rfl), hc, hg⟩

theorem word_cut {lo : Nat} (g : Nat) (rem : List UInt8) (sp : Bool) (w : World) (h : CutAt w lo g rem sp) :
    Calls Tryz.prog 44 #[.pointer (some ⟨g, 0, none⟩)] w fun e w' => e = .returned (.int .u64 (num (tkOut rem sp 8))) ∧
      CutAt w' lo g (tkRem rem sp 8) (!fits rem sp 8) ∧ w.grownBy w' (some g) := by
  go_enter Tryz.func44, Tryz.ntmps44
  go_wp2_with (go_at_call 73; refine (cutNumber64 g rem sp w h).mono ?_; rintro e w1 ⟨rfl, hc, hg⟩)
  go_ret
  exact ⟨rfl, hc, hg⟩

theorem half_cut {lo : Nat} (g : Nat) (rem : List UInt8) (sp : Bool) (w : World) (h : CutAt w lo g rem sp) :
    Calls Tryz.prog 137 #[.pointer (some ⟨g, 0, none⟩)] w fun e w' => e = .returned (.int .u16 (num (tkOut rem sp 2))) ∧
      CutAt w' lo g (tkRem rem sp 2) (!fits rem sp 2) ∧ w.grownBy w' (some g) := by
  go_enter Tryz.func137, Tryz.ntmps137
  go_wp2_with (go_at_call 139; refine (cutNumber16 g rem sp w h).mono ?_; rintro e w1 ⟨rfl, hc, hg⟩)
  go_ret
  exact ⟨rfl, hc, hg⟩

theorem raw_of_take {lo : Nat} (g : Nat) (rem : List UInt8) (sp : Bool) (k : Int) (w : World) (h : CutAt w lo g rem sp) :
    Calls Tryz.prog 107 #[.func (.func 74) #[.pointer (some ⟨g, 0, none⟩)] #[], .int .i64 k] w fun e w' => ∃ A' m c', e = .returned (.slice A' m c') ∧
      Hid (m = (tkOut rem sp k).length ∧ w'.ownsRow w.heap.size 5 1 (.slice A' m c') m (u8s (tkOut rem sp k)) ∧ Sl A' m c') ∧
      CutAt w' lo g (tkRem rem sp k) (!fits rem sp k) ∧ w.grownBy w' (some g) := by
  have hlen := h.len
  have HL := Lib.hid hlen
  clear hlen
  go_enter Tryz.func107, Tryz.ntmps107
  go_wp2_with (first
    | (go_at_call 74; refine (take_open g rem sp k w h).mono ?_; rintro e w1 ⟨A', m, c', rfl, hh, hc, hg⟩)
    | (go_at_call 72; refine (clone_any A' m c' (tkOut rem sp k) w1 hh.out.2.1 hh.out.2.2.1 (by rw [hh.out.1]; exact Nat.le_trans (tkOut_len _ _ _) HL.out)).mono ?_; rintro e w2 ⟨A2, c2, rfl, ho, hs, hb⟩))
  go_ret
  refine ⟨A2, m, c2, rfl, ⟨hh.out.1, ?_, hs⟩, hc.below hb, grownBy_trans hg (grownBy_below hb _)⟩
  obtain ⟨h1, h2⟩ := ho
  refine ⟨h1, h2.imp id ?_⟩
  rintro ⟨g2, cap, cur, q1, q2, q3⟩
  exact ⟨g2, cap, cur, q1, Nat.le_trans hg.size q2, q3⟩

end Go.Proofs.YtghjogneogkpoaaGreatDoor.Oct

namespace Go.Proofs.YtghjogneogkpoaaGreatDoor.Oct
open Go.RowKit
set_option maxRecDepth 100000

theorem raw_cut {lo : Nat} (g : Nat) (rem : List UInt8) (sp : Bool) (k : Int) (w : World) (h : CutAt w lo g rem sp) :
    Calls Tryz.prog 77 #[.pointer (some ⟨g, 0, none⟩), .int .i64 k] w fun e w' => ∃ A' m c', e = .returned (.slice A' m c') ∧
      Hid (m = (tkOut rem sp k).length ∧ w'.ownsRow w.heap.size 5 1 (.slice A' m c') m (u8s (tkOut rem sp k)) ∧ Sl A' m c') ∧
      CutAt w' lo g (tkRem rem sp k) (!fits rem sp k) ∧ w.grownBy w' (some g) := by
  go_enter Tryz.func77, Tryz.ntmps77
  go_wp2_with (go_at_call 107; refine (raw_of_take g rem sp k w h).mono ?_; rintro e w1 ⟨A', m, c', rfl, hh, hc, hg⟩)
  go_ret
  exact ⟨A', m, c', rfl, hh, hc, hg⟩

/-- Bytes as a string. -/
def str (bs : List UInt8) : ByteArray := ⟨bs.toArray⟩

theorem run_string {w : World} {A : Option Addr} {n c : Nat} {bs : List UInt8} (h : Rd w A n bs) : (convert 38 9 (.slice A n c)).run Tryz.prog w = .ok (.string (str bs)) w := by
  rcases A with _ | ad
  · have h0 : n = 0 := by
      rcases Nat.eq_zero_or_pos n with h0 | h0
      · exact h0
      · obtain ⟨_, _, hA, _⟩ := h.2 h0
        cases hA
    subst h0
    have hb : bs = [] := List.eq_nil_of_length_eq_zero h.1
    subst hb
    exact run_convert_bytes_nil w 38 5 Tryz.underlying38 Tryz.underlying5 0 c 9 Tryz.underlying9
  · rcases Nat.eq_zero_or_pos n with h0 | h0
    · subst h0
      have hb : bs = [] := List.eq_nil_of_length_eq_zero h.1
      subst hb
      rw [run_convert_bytes_string w 38 9 5 _ 0 c Tryz.underlying38 Tryz.underlying5 Tryz.underlying9, run_bytesToString w ad 0 c [] (by simpa using run_loadCells_list (P := Tryz.prog) w ad [] (by simp))]
      rfl
    · obtain ⟨b, o, hA, _, hc⟩ := h.2 h0
      injection hA with hA
      subst hA
      have := run_convert_bytes_arg (P := Tryz.prog) w 38 5 Tryz.underlying38 Tryz.underlying5 b o n c (bs.map fun x => (x.toNat : Int)) (by rw [List.length_map]; exact h.1) (fun i hi => by
        have hi' : i < bs.length := by rw [h.1]; exact hi
        rw [hc i bs[i] (List.getElem?_eq_getElem hi')]
        simp [List.getD, hi']) 9 Tryz.underlying9
      rw [this]
      congr 2
      apply ByteArray.ext
      apply Array.toList_inj.1
      rw [strOfNums_data, List.map_map]
      simp only [str]
      conv => rhs; rw [← List.map_id bs]
      apply List.map_congr_left
      intro x _
      simp

/-- string(b). -/
theorem wpList_string {w : World} {ops : Array Oper} {rest : List Oper} {o : Oper} {a : Act} {Q : Exit → Act → World → Prop} (hgd : o.guard = none) (x : Operand)
    (ho : o.op = .convert 38 9 x) (A : Option Addr) (n c : Nat) (bs : List UInt8) (hx : a.eval x = .slice A n c) (hr : Rd w A n bs)
    (h : wpList Tryz.prog ops Q rest (a.put o.dst (.string (str bs))) w) : wpList Tryz.prog ops Q (o :: rest) a w := by
  refine wpList_plain hgd fun K hK => ?_
  have hrun := run_string (c := c) hr
  unfold Oper.wp
  simp [execOp, ho, hx, hrun, Result.andThen]
  exact hK _ _ h

end Go.Proofs.YtghjogneogkpoaaGreatDoor.Oct
