/-
  What is proved: what the document's own cut answers. Conditions as stated.
-/
import Derived.Test.YthnmmhjnfhmleaaQ
namespace Go.Proofs.Ythnmmhjnfhmleaa
open Go.RowKit

/-- Block g is the document's cut with rem left. -/
def RefAt (w : World) (hi g : Nat) (rem : List UInt8) (sp : Bool) : Prop :=
  ∃ (A : Option Addr) (n c : Nat), w.heap[g]? = some (.cells #[.slice A n c, .bool sp] 37 (0, 0)) ∧ Rd w A n rem ∧ Sl A n c ∧ n ≤ 140737488355328 ∧ hi ≤ g ∧ (0 < n → ∀ ad, A = some ad → ad.block < hi)

theorem fits_yes' {rem : List UInt8} {k : Nat} (h : k ≤ rem.length) : fits rem false (k : Int) = true := by
  simp only [fits, Bool.not_false, Bool.true_and, Bool.and_eq_true, decide_eq_true_eq]; omega

theorem Rd.set_far' {w : World} {A : Option Addr} {n g i : Nat} {bs : List UInt8} (h : Rd w A n bs) (hne : 0 < n → ∀ ad, A = some ad → ad.block ≠ g) (u : Value) : Rd (w.setCell ⟨g, i, none⟩ u) A n bs := by
  refine ⟨h.1, fun hp => ?_⟩
  obtain ⟨b, o, hA, hb, hc⟩ := h.2 hp
  refine ⟨b, o, hA, by simpa [World.setCell] using hb, fun j u hu => ?_⟩
  rw [World.cell?_setCell_other _ _ _ _ (fun e => hne hp _ hA (by have := congrArg Addr.block e; simpa using this.symm))]
  exact hc j u hu

theorem refSet0 {hi : Nat} {w : World} {g n c n' c' : Nat} {A A' : Option Addr} {sp : Bool} {rem : List UInt8} (hg : w.heap[g]? = some (.cells #[.slice A n c, .bool sp] 37 (0, 0))) (hr : Rd w A' n' rem) (hs : Sl A' n' c') (hn : n' ≤ 140737488355328) (hh : hi ≤ g) (hne : 0 < n' → ∀ ad, A' = some ad → ad.block < hi) :
    RefAt (w.setCell ⟨g, 0, none⟩ (.slice A' n' c')) hi g rem sp :=
  ⟨A', n', c', by simp [World.setCell, Array.getElem?_modify, hg], hr.set_far' (fun hp ad h => Nat.ne_of_lt (Nat.lt_of_lt_of_le (hne hp ad h) hh)) _, hs, hn, hh, hne⟩

theorem refSet1 {hi : Nat} {w : World} {g : Nat} {rem : List UInt8} {sp sp' : Bool} (h : RefAt w hi g rem sp) : RefAt (w.setCell ⟨g, 1, none⟩ (.bool sp')) hi g rem sp' := by
  obtain ⟨A, n, c, hg, hr, hs, hn, hh, hne⟩ := h
  exact ⟨A, n, c, by simp [World.setCell, Array.getElem?_modify, hg], hr.set_far' (fun hp ad h => Nat.ne_of_lt (Nat.lt_of_lt_of_le (hne hp ad h) hh)) _, hs, hn, hh, hne⟩

theorem refCells {w : World} {g n c : Nat} {A : Option Addr} {sp : Bool} (hg : w.heap[g]? = some (.cells #[.slice A n c, .bool sp] 37 (0, 0))) :
    w.cell? ⟨g, 0, none⟩ = some (.slice A n c) ∧ w.cell? ⟨g, 1, none⟩ = some (.bool sp) ∧ w.frozen? ⟨g, 0, none⟩ = false ∧ w.frozen? ⟨g, 1, none⟩ = false :=
  ⟨cell_of_row w g 0 _ 37 (0, 0) hg, cell_of_row w g 1 _ 37 (0, 0) hg, frozen_of_row _ _ _ _ _ hg, frozen_of_row _ _ _ _ _ hg⟩

theorem block_lt {w : World} {g : Nat} {o : Obj} (h : w.heap[g]? = some o) : g < w.heap.size := by
  rcases Nat.lt_or_ge g w.heap.size with hlt | hge
  · exact hlt
  · rw [Array.getElem?_eq_none hge] at h; cases h

theorem refCells_below {w w1 : World} {g n c : Nat} {A : Option Addr} {sp : Bool} (hg : w.heap[g]? = some (.cells #[.slice A n c, .bool sp] 37 (0, 0))) (hb : Below w.heap.size w w1) :
    w1.heap[g]? = some (.cells #[.slice A n c, .bool sp] 37 (0, 0)) := (hb.block g (block_lt hg)).trans hg

/-- The document's cut stays while other memory is written. -/
theorem RefAt.far {hi g g' : Nat} {w w' : World} {rem : List UInt8} {sp : Bool} (h : RefAt w hi g rem sp) (hg : w.grownBy w' (some g')) (hne : g ≠ g') (hg' : hi ≤ g') : RefAt w' hi g rem sp := by
  obtain ⟨A, n, c, hh, hr, hs, hn, hle, hb⟩ := h
  refine ⟨A, n, c, (hg.block g (block_lt hh) (fun e => hne (by injection e))).trans hh, ⟨hr.1, fun hp => ?_⟩, hs, hn, hle, hb⟩
  obtain ⟨b, o, hA, hbl, hc⟩ := hr.2 hp
  have h2 := hb hp _ hA
  simp only at h2
  exact ⟨b, o, hA, Nat.lt_of_lt_of_le hbl hg.size, fun j u hu => hg.cell (hc j u hu) (fun e => by injection e with e; simp only at e; omega)⟩

theorem RefAt.below {hi g : Nat} {w w' : World} {rem : List UInt8} {sp : Bool} (h : RefAt w hi g rem sp) (hb : Below w.heap.size w w') : RefAt w' hi g rem sp := by
  obtain ⟨A, n, c, hh, hr, hs, hn, hle, hbb⟩ := h
  exact ⟨A, n, c, (hb.block g (block_lt hh)).trans hh, hr.below hb, hs, hn, hle, hbb⟩

theorem RefAt.drewN {hi g : Nat} {w : World} {rem : List UInt8} {sp : Bool} (h : RefAt w hi g rem sp) (q : Nat) : RefAt (w.drewN q) hi g rem sp := h

theorem refNumber_no {hi : Nat} (g : Nat) (rem : List UInt8) (sp : Bool) (K : Nat) (w : World) (h : RefAt w hi g rem sp) (hf : fits rem sp K = false) :
    Calls Try.prog 37 #[.pointer (some ⟨g, 0, none⟩), .int .i64 K] w fun e w' => e = .returned (.int .u64 0) ∧ RefAt w' hi g rem true ∧ w.grownBy w' (some g) := by
  have hset := refSet1 (sp' := true) h
  obtain ⟨A, n, c, hg, hr, _⟩ := h
  obtain ⟨h0, h1, _, hz⟩ := refCells hg
  have hl := hr.1
  clear hg hr
  cases sp with
  | true =>
    clear hf hl
    go_enter Try.func37, Try.ntmps37
    go_wp2
    go_ret
    exact ⟨rfl, hset, grownBy_set _ _ _ _⟩
  | false =>
    have hlt : n < K := by
      rcases Nat.lt_or_ge n K with h | h
      · exact h
      · rw [fits_yes' (by omega)] at hf; cases hf
    clear hf hl
    go_enter Try.func37, Try.ntmps37
    go_wp2
    go_ret
    exact ⟨rfl, hset, grownBy_set _ _ _ _⟩

set_option maxHeartbeats 400000 in
theorem refNumber_yes {hi : Nat} (g : Nat) (rem : List UInt8) (K : Nat) (w : World) (h : RefAt w hi g rem false) (hK : K ≤ rem.length) (hK8 : K ≤ 8) :
    Calls Try.prog 37 #[.pointer (some ⟨g, 0, none⟩), .int .i64 K] w fun e w' => e = .returned (.int .u64 (num (rem.take K))) ∧ RefAt w' hi g (rem.drop K) false ∧ w.grownBy w' (some g) := by
  obtain ⟨A, n, c, hg, hr, hs, hn, hh, hne⟩ := h
  obtain ⟨h0, h1, hz, _⟩ := refCells hg
  have hl := hr.1
  have hKn : K ≤ n := by omega
  have hnc : n ≤ c := hs.2.1
  have hcm : c ≤ 9223372036854775807 := hs.2.2
  have HR : Hid (Rd w A n rem) := hr
  have HP : Hid (RefAt (w.setCell ⟨g, 0, none⟩ (.slice (if c = K then A else A.map (·.add K)) (n - K) (c - K))) hi g (rem.drop K) false) := refSet0 hg (hr.cut hKn hnc) (hs.cut (by omega)) (by omega) hh (by
    intro hp ad had
    split at had
    · exact hne (by omega) ad had
    · obtain ⟨a, rfl, rfl⟩ := Option.map_eq_some_iff.1 had
      have : (a.add K).block = a.block := by unfold Addr.add; split <;> rfl
      rw [this]
      exact hne (by omega) a rfl)
  clear hg hr hs hne hl hK
  go_enter Try.func37, Try.ntmps37
  go_wp2
  go_loop [5, 6] (fun v i => ∃ j : Nat, j ≤ K ∧ i = .int .i64 j ∧ v = .int .u64 (num (rem.take j))) (fun _ i => K - (intOf i).toNat)
  case atStart => exact ⟨0, Nat.zero_le _, rfl, rfl⟩
  case round =>
    obtain ⟨j, hj, rfl, rfl⟩ := hrel
    by_cases hlt : j < K
    · obtain ⟨b, o, u, hA, hu, hcell⟩ := HR.out.at_ (j := j) (by omega)
      have hnum := num_take_lt (out := rem) hK8 hlt
      have hstep := num_step hu hlt
      obtain ⟨q, hq⟩ : ∃ q, q = num (rem.take j) := ⟨_, rfl⟩
      have hor := or_step q u (by rw [hq]; exact hnum)
      rw [← hq] at hnum ⊢
      have HQ := Lib.hid hq
      have HS := Lib.hid hstep
      have HO := Lib.hid hor
      have HA := Lib.hid hA
      clear hq hstep hor hu hA HP
      rw [HA.out] at h0
      go_wp2
      go_round
      case rel => exact ⟨j + 1, by omega, by go_num, by rw [HO.out, HS.out, HQ.out]⟩
      case measure => simp [intOf]; omega
    · obtain rfl : j = K := by omega
      clear hlt hj
      by_cases hcK : c = j
      · have HP2 := HP.out
        rw [if_pos hcK] at HP2
        have HH := Lib.hid HP2
        clear HP HP2
        go_wp2
        go_ret
        exact ⟨rfl, by have e := HH.out; rw [show c - j = 0 by omega] at e; exact e, grownBy_set _ _ _ _⟩
      · have HP2 := HP.out
        rw [if_neg hcK] at HP2
        have HH := Lib.hid HP2
        clear HP HP2
        go_wp2
        go_ret
        exact ⟨rfl, HH.out, grownBy_set _ _ _ _⟩

theorem fits_of {rem : List UInt8} {sp : Bool} {K : Nat} (h : fits rem sp K = true) : sp = false ∧ K ≤ rem.length := by
  cases sp with
  | true => simp [fits] at h
  | false => simp [fits] at h; exact ⟨rfl, by omega⟩

theorem refNumber {hi : Nat} (g : Nat) (rem : List UInt8) (sp : Bool) (K : Nat) (w : World) (h : RefAt w hi g rem sp) (hK8 : K ≤ 8) :
    Calls Try.prog 37 #[.pointer (some ⟨g, 0, none⟩), .int .i64 K] w fun e w' => e = .returned (.int .u64 (num (tkOut rem sp K))) ∧ RefAt w' hi g (tkRem rem sp K) (!fits rem sp K) ∧ w.grownBy w' (some g) := by
  cases hf : fits rem sp K with
  | false =>
    obtain ⟨h1, h2⟩ := tk_not hf
    rw [h1, h2]
    exact refNumber_no g rem sp K w h hf
  | true =>
    obtain ⟨rfl, hK⟩ := fits_of hf
    rw [tkOut, if_pos hf, tkRem, if_pos hf]
    exact refNumber_yes g rem K w h hK hK8

theorem refWord_cut {hi : Nat} (g : Nat) (rem : List UInt8) (sp : Bool) (w : World) (h : RefAt w hi g rem sp) :
    Calls Try.prog 18 #[.pointer (some ⟨g, 0, none⟩)] w fun e w' => e = .returned (.int .u64 (num (tkOut rem sp 8))) ∧ RefAt w' hi g (tkRem rem sp 8) (!fits rem sp 8) ∧ w.grownBy w' (some g) := by
  go_enter Try.func18, Try.ntmps18
  go_wp2_with (go_at_call 37; go_must (refine (refNumber g rem sp 8 w h (by decide)).mono ?_); rintro e w1 ⟨rfl, hc, hg⟩)
  go_ret
  exact ⟨rfl, hc, hg⟩

theorem refHalf_cut {hi : Nat} (g : Nat) (rem : List UInt8) (sp : Bool) (w : World) (h : RefAt w hi g rem sp) :
    Calls Try.prog 20 #[.pointer (some ⟨g, 0, none⟩)] w fun e w' => e = .returned (.int .u16 (num (tkOut rem sp 2))) ∧ RefAt w' hi g (tkRem rem sp 2) (!fits rem sp 2) ∧ w.grownBy w' (some g) := by
  have hw := num_wrap16 rem sp
  have HW := Lib.hid hw
  clear hw
  go_enter Try.func20, Try.ntmps20
  go_wp2_with (go_at_call 37; go_must (refine (refNumber g rem sp 2 w h (by decide)).mono ?_); rintro e w1 ⟨rfl, hc, hg⟩)
  go_ret
  exact ⟨by first | rfl | (rw [HW.out]; rfl) | (rw [HW.out]), hc, hg⟩

theorem refByte_cut {hi : Nat} (g : Nat) (rem : List UInt8) (sp : Bool) (w : World) (h : RefAt w hi g rem sp) :
    Calls Try.prog 22 #[.pointer (some ⟨g, 0, none⟩)] w fun e w' => e = .returned (.int .u8 (num (tkOut rem sp 1))) ∧ RefAt w' hi g (tkRem rem sp 1) (!fits rem sp 1) ∧ w.grownBy w' (some g) := by
  have hw := num_wrap8 rem sp
  have HW := Lib.hid hw
  clear hw
  go_enter Try.func22, Try.ntmps22
  go_wp2_with (go_at_call 37; go_must (refine (refNumber g rem sp 1 w h (by decide)).mono ?_); rintro e w1 ⟨rfl, hc, hg⟩)
  go_ret
  exact ⟨by first | rfl | (rw [HW.out]; rfl) | (rw [HW.out]), hc, hg⟩

theorem own_set {w : World} {B n g i c : Nat} {A : Option Addr} {xs : List Value} {u : Value} (h : w.ownsRow B 5 1 (.slice A n c) n xs) (hg : g < B) : (w.setCell ⟨g, i, none⟩ u).ownsRow B 5 1 (.slice A n c) n xs :=
  ownsRow_setCell_below h hg u

theorem refRaw_no {hi : Nat} (g : Nat) (rem : List UInt8) (sp : Bool) (k : Int) (w : World) (h : RefAt w hi g rem sp) (hf : fits rem sp k = false) :
    Calls Try.prog 26 #[.pointer (some ⟨g, 0, none⟩), .int .i64 k] w fun e w' => e = .returned (.slice none 0 0) ∧ RefAt w' hi g rem true ∧ w.grownBy w' (some g) := by
  have hset := refSet1 (sp' := true) h
  obtain ⟨A, n, c, hg, hr, _⟩ := h
  obtain ⟨h0, h1, _, hz⟩ := refCells hg
  have hl := hr.1
  clear hg hr
  cases sp with
  | true =>
    clear hf hl
    go_enter Try.func26, Try.ntmps26
    go_wp2
    go_ret
    exact ⟨rfl, hset, grownBy_set _ _ _ _⟩
  | false =>
    by_cases hk : k < 0
    · clear hf hl
      go_enter Try.func26, Try.ntmps26
      go_wp2
      go_ret
      exact ⟨rfl, hset, grownBy_set _ _ _ _⟩
    · have hlt : (n : Int) < k := by
        simp [fits] at hf
        omega
      clear hf hl
      go_enter Try.func26, Try.ntmps26
      go_wp2
      go_ret
      exact ⟨rfl, hset, grownBy_set _ _ _ _⟩

set_option maxHeartbeats 400000 in
theorem refRaw_yes {hi : Nat} (g : Nat) (rem : List UInt8) (k : Nat) (w : World) (h : RefAt w hi g rem false) (hK : k ≤ rem.length) :
    Calls Try.prog 26 #[.pointer (some ⟨g, 0, none⟩), .int .i64 k] w fun e w' => ∃ A' c', e = .returned (.slice A' k c') ∧ Hid (w'.ownsRow w.heap.size 5 1 (.slice A' k c') k (u8s (rem.take k)) ∧ Sl A' k c') ∧ RefAt w' hi g (rem.drop k) false ∧ w.grownBy w' (some g) := by
  obtain ⟨A, n, c, hg, hr, hs, hn, hh, hne⟩ := h
  obtain ⟨h0, h1, hz, _⟩ := refCells hg
  have hl := hr.1
  have hKn : k ≤ n := by omega
  have hnc : n ≤ c := hs.2.1
  have hcm : c ≤ 9223372036854775807 := hs.2.2
  have HR : Hid (Rd w A n rem) := hr
  have HS : Hid (Sl A n c) := hs
  have HNE : Hid (0 < n → ∀ ad, A = some ad → ad.block < hi) := hne
  have HG := Lib.hid hg
  have hgl := block_lt hg
  clear hg hr hs hne hl hK
  go_enter Try.func26, Try.ntmps26
  go_wp2_with (at_builtin; go_must (refine wpList_append_rd (w0 := w) rfl (.tmp 26) (.tmp 32) rfl w.heap.size 0 k c _ A [] (rem.take k) rfl rfl (World.ownsRow_lit w #[] 0 (Nat.le_refl _) (Nat.zero_le _) rfl) ((HR.out.take hKn).below ((Below.refl _ _).alloc (Nat.le_refl _) _)) ⟨fun e => ⟨by have := HS.out.1 e; omega, (HS.out.1 e).2⟩, by omega, hcm⟩ ((Below.refl _ _).alloc (Nat.le_refl _) _) (by simp) (by omega) ?_); intro A1 c1 w1 h1' hb1; rw [Nat.zero_add, List.nil_append] at h1'; rw [Nat.zero_add]; have hg1 := Lib.hid (refCells_below HG.out hb1); have q0 := (refCells hg1.out).1; have q1 := (refCells hg1.out).2.2.1)
  · have hck : c = k := by assumption
    have e1 := (HR.out.below hb1).cut hKn hnc
    rw [if_pos hck] at e1
    have e2 := HS.out.cut (k := k) (m := n - k) (by omega)
    rw [if_pos hck, show c - k = 0 by omega] at e2
    go_ret
    exact ⟨A1, c1, rfl, ⟨own_set h1'.out.1 hgl, h1'.out.2⟩, refSet0 hg1.out e1 e2 (by omega) hh (fun hp => HNE.out (by omega)), grownBy_trans (grownBy_below hb1 _) (grownBy_set _ _ _ _)⟩
  · have hck : ¬ c = k := by assumption
    have e1 := (HR.out.below hb1).cut hKn hnc
    rw [if_neg hck] at e1
    have e2 := HS.out.cut (k := k) (m := n - k) (by omega)
    rw [if_neg hck] at e2
    have e3 : 0 < n - k → ∀ ad, A.map (·.add k) = some ad → ad.block < hi := by
      intro hp ad had
      obtain ⟨a, rfl, rfl⟩ := Option.map_eq_some_iff.1 had
      have : (a.add k).block = a.block := by unfold Addr.add; split <;> rfl
      rw [this]
      exact HNE.out (by omega) a rfl
    have E1 := Lib.hid e1
    have E2 := Lib.hid e2
    have E3 := Lib.hid e3
    clear e1 e2 e3
    go_ret
    exact ⟨A1, c1, rfl, ⟨own_set h1'.out.1 hgl, h1'.out.2⟩, refSet0 hg1.out E1.out E2.out (by omega) hh E3.out, grownBy_trans (grownBy_below hb1 _) (grownBy_set _ _ _ _)⟩

theorem refRaw_cut {hi : Nat} (g : Nat) (rem : List UInt8) (sp : Bool) (k : Int) (w : World) (h : RefAt w hi g rem sp) :
    Calls Try.prog 26 #[.pointer (some ⟨g, 0, none⟩), .int .i64 k] w fun e w' => ∃ A' m c', e = .returned (.slice A' m c') ∧
      Hid (Rd w' A' m (tkOut rem sp k)) ∧ RefAt w' hi g (tkRem rem sp k) (!fits rem sp k) ∧ w.grownBy w' (some g) := by
  cases hf : fits rem sp k with
  | false =>
    obtain ⟨h1, h2⟩ := tk_not hf
    rw [h1, h2]
    exact (refRaw_no g rem sp k w h hf).mono fun e w' ⟨he, hc, hg⟩ => ⟨none, 0, 0, he, Rd.nil _, hc, hg⟩
  | true =>
    have h0 : sp = false ∧ 0 ≤ k ∧ k.toNat ≤ rem.length := by
      cases sp with
      | true => simp [fits] at hf
      | false => simp [fits] at hf; exact ⟨rfl, hf.1, by omega⟩
    obtain ⟨rfl, hk, hK⟩ := h0
    obtain ⟨m, rfl⟩ : ∃ m : Nat, k = (m : Int) := ⟨k.toNat, by omega⟩
    rw [tkOut, if_pos hf, tkRem, if_pos hf]
    exact (refRaw_yes g rem m w h (by simpa using hK)).mono fun e w' ⟨A', c', he, ho, hc, hg⟩ => ⟨A', m, c', he, Rd.of_own ho.out.1, hc, hg⟩

end Go.Proofs.Ythnmmhjnfhmleaa
