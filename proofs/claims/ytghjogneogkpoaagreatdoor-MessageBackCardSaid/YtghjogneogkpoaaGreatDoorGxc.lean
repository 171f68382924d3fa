/-
  What is proved: what is put is got, what is got is put as it stood, any messages and bytes (MessageBack). Conditions as stated.
-/
import Derived.Test.YtghjogneogkpoaaGreatDoorGw0c
import Derived.Test.YtghjogneogkpoaaGreatDoorGw1c
namespace Go.Proofs.YtghjogneogkpoaaGreatDoor.Sh
open Go.RowKit
set_option maxRecDepth 100000


theorem putM_wq (m : MMsg) (A : Option Addr) (c : Nat) : putM (wq m A c) = putM m := by
  unfold putM
  by_cases h : m.may
  · rw [if_pos h, if_pos ((may_wq m A c).2 h)]
    rfl
  · rw [if_neg h, if_neg fun e => h ((may_wq m A c).1 e)]
theorem putM_pos {m : MMsg} (h : m.may) : 0 < (putM m).length := by
  rw [putM, if_pos h]
  simp only [List.length_append, be_length]
  omega
open Classical in
theorem back_any (m o : MMsg) (raw : List UInt8) (RA : Option Addr) (rl rc cu : Nat) (w : World) (hm : m.Wf) (hmo : o.Wf) (hq : Prs w m.body.qa m.body.qs) (hqo : Prs w o.body.qa o.body.qs)
    (ha : m.body.req.op.amount < 18446744073709551616) (hao : o.body.req.op.amount < 18446744073709551616) (hrd : Oct.Rd w RA rl raw) (hrs : Oct.Sl RA rl rc) (hrl : rl ≤ 140737488351232) (hcu : cu < 65536) (hk : KIs w) (h0 : 0 < w.heap.size) :
    Calls Tryz.prog 6 #[.agg (msgC m).toArray, .agg (msgC o).toArray, .slice RA rl rc, .int .u16 (cu : Int)] w fun E w' => E = .returned (.bool true) ∧ Below w.heap.size w w' := by
  have K : ∀ {W}, Below w.heap.size w W → KIs W ∧ 0 < W.heap.size := fun h => ⟨hk.below h h0, Nat.lt_of_lt_of_le h0 h.size⟩
  have HW : Hid (∀ W, Below w.heap.size w W → Calls Tryz.prog 11 #[] W fun E w' => E = .returned (.bool true) ∧ Hid (Below W.heap.size W w')) := Lib.hid fun W h => works_any W (K h).1 (K h).2
  have HF1 : Hid (∀ W, Below w.heap.size w W → Calls Tryz.prog 10 #[.agg (msgC m).toArray] W fun E w' => (∃ z, E = .returned (.bool z) ∧ (z = true → m.body.qs.length ≤ 40)) ∧ Hid (Below W.heap.size W w')) := Lib.hid fun W _ => few_any m W hm
  have HF2 : Hid (∀ W, Below w.heap.size w W → Calls Tryz.prog 10 #[.agg (msgC o).toArray] W fun E w' => (∃ z, E = .returned (.bool z) ∧ (z = true → o.body.qs.length ≤ 40)) ∧ Hid (Below W.heap.size W w')) := Lib.hid fun W _ => few_any o W hmo
  have HRB : NoMsg raw → Hid (∀ W, Below w.heap.size w W → Calls Tryz.prog 21 #[.slice RA rl rc] W fun E w' => E = .returned (.tuple #[.agg (msgC zeroMsg).toArray, .int .i64 5]) ∧ Hid (Below W.heap.size W w')) := fun hb => Lib.hid fun W h => get_bad RA rl rc raw W (hrd.below h) hrs (by omega) hb
  have HRG : endG raw = ([], false) → (gotG raw).may → Hid (∀ W, Below w.heap.size w W → Calls Tryz.prog 21 #[.slice RA rl rc] W fun E w' => ∃ A9 c9, E = .returned (.tuple #[.agg (msgC (wq (gotG raw) A9 c9)).toArray, .int .i64 0]) ∧ Hid (QOw W.heap.size w' A9 c9 (gotG raw).body.qs) ∧ Hid (Below W.heap.size W w')) := fun h1 h2 => Lib.hid fun W h =>
    (get_good RA rl rc raw W (hrd.below h) hrs (by omega) h1 h2).mono fun _ _ ⟨A7, c7, he, hq, hb⟩ => ⟨A7, c7, he, Lib.hid hq, hb⟩
  have HPZ : endG raw = ([], false) → (gotG raw).may → Hid (∀ (A9 : Option Addr) (c9 B : Nat) (W : World), QOw B W A9 c9 (gotG raw).body.qs → Below w.heap.size w W → Calls Tryz.prog 17 #[.agg (msgC (wq (gotG raw) A9 c9)).toArray] W fun E w' => ∃ A n c, E = .returned (.slice A n c) ∧ Hid (Ow W.heap.size w' A n c raw) ∧ Hid (Below W.heap.size W w')) := fun h1 h2 => Lib.hid fun A9 c9 B W hqq hb =>
    (put_ms (wq (gotG raw) A9 c9) W (got_wf raw) hqq.prs (by have := may_qs h2.2.2; show (gotG raw).body.qs.length ≤ _; omega)).mono fun _ _ ⟨A, n, c, he, ho, hb⟩ => ⟨A, n, c, he, Lib.hid (by rwa [putM_wq, put_got h1 h2] at ho), hb⟩
  by_cases h : m.may
  · have hl := may_qs h.2.2
    have hpl := putM_len hm h
    have hbm : bytesM m = msgB m := by rw [bytesM, if_pos h]
    have hbl : (bytesM m).length ≤ 1024 := by have := msgB_len hm h; rw [hbm]; omega
    have HN : Hid ((putM m).length ≤ 2000 ∧ 0 < (putM m).length ∧ (bytesM m).length ≤ 1024) := Lib.hid ⟨hpl, putM_pos h, hbl⟩
    have HP : Hid (m.body.qs.length ≤ 40 → ∀ W, Below w.heap.size w W → Calls Tryz.prog 17 #[.agg (msgC m).toArray] W fun E w' => (∃ A c, E = .returned (.slice A (putM m).length c) ∧ Hid (Ow W.heap.size w' A (putM m).length c (putM m))) ∧ Hid (Below W.heap.size W w')) := Lib.hid fun hl W hb => (put_ms m W hm (hq.below hb) (by omega)).mono fun _ _ ⟨A, n, c, he, ho, hb⟩ => by
      obtain rfl := ho.len
      exact ⟨⟨A, c, he, Lib.hid ho⟩, hb⟩
    have HMY : Hid (m.body.qs.length ≤ 40 → ∀ W, Below w.heap.size w W → Calls Tryz.prog 13 #[.agg (msgC m).toArray] W fun E w' => E = .returned (.bool true) ∧ Hid (Below W.heap.size W w')) := Lib.hid fun hl W hb => by simpa [h] using may_ms m W hm (hq.below hb) (by omega)
    have HG : Hid (∀ A c B W, Ow B W A (putM m).length c (putM m) → Calls Tryz.prog 21 #[.slice A (putM m).length c] W fun E w' => ∃ A7 c7, E = .returned (.tuple #[.agg (msgC (wq m A7 c7)).toArray, .int .i64 0]) ∧ Hid (QOw W.heap.size w' A7 c7 m.body.qs) ∧ Hid (Below W.heap.size W w')) := Lib.hid fun A c B W ho =>
      (get_own m A _ c W hm h ha ho.oct.1 ho.oct.2 (by omega)).mono fun _ _ ⟨A7, c7, he, hq, hb⟩ => ⟨A7, c7, he, Lib.hid hq, hb⟩
    have HS : Hid (∀ (A : Option Addr) (c B : Nat) (W : World), QOw B W A c m.body.qs → Below w.heap.size w W → Calls Tryz.prog 25 #[.agg (msgC (wq m A c)).toArray, .agg (msgC m).toArray] W fun E w' => E = .returned (.bool true) ∧ Hid (Below W.heap.size W w')) := Lib.hid fun A c B W hqq hb =>
      (same_rf (wq m A c) m W hm hm hqq.prs (hq.below hb) (by show m.body.qs.length ≤ _; omega) (by omega)).mono fun _ _ hE => ⟨bool_of hE.1 ⟨rfl, rfl, rfl, ⟨rfl, rfl, rfl, rfl, rfl, rfl⟩, rfl⟩, Lib.hid hE.2⟩
    have HGC : Hid (∀ g r c B W, r < (putM m).length → Ow B W (some ⟨g, 0, none⟩) (putM m).length c (putM m) → Calls Tryz.prog 21 #[.slice (some ⟨g, 0, none⟩) r c] W fun E w' => E = .returned (.tuple #[.agg (msgC zeroMsg).toArray, .int .i64 5]) ∧ Hid (Below W.heap.size W w')) := Lib.hid fun g r c B W hr ho =>
      get_bad _ r c ((putM m).take r) W
        ⟨by rw [List.length_take]; omega, fun _ => let ⟨b, o, e, hb, hc⟩ := ho.oct.1.2 (by omega); ⟨b, o, e, hb, fun j u hj => hc j u (by rw [List.getElem?_take] at hj; split at hj; exact hj; cases hj)⟩⟩
        ⟨fun h => (by cases h), Nat.le_trans (Nat.le_of_lt hr) ho.oct.2.2.1, ho.oct.2.2.2⟩ (by omega) (no_cut m r hm h ha hr)
    have HGE : Hid (∀ A c B W, Ow B W A ((putM m).length + 1) c (putM m ++ [0]) → Calls Tryz.prog 21 #[.slice A ((putM m).length + 1) c] W fun E w' => E = .returned (.tuple #[.agg (msgC zeroMsg).toArray, .int .i64 5]) ∧ Hid (Below W.heap.size W w')) := Lib.hid fun A c B W ho =>
      get_bad A _ c _ W ho.oct.1 ho.oct.2 (by omega) (no_ext m hm h ha)
    have HBY : Hid (m.body.qs.length ≤ 40 → ∀ W, Below w.heap.size w W → Calls Tryz.prog 15 #[.agg (msgC m).toArray] W fun E w' => (∃ A c, E = .returned (.slice A (bytesM m).length c) ∧ Hid (Ow W.heap.size w' A (bytesM m).length c (bytesM m))) ∧ Hid (Below W.heap.size W w')) := Lib.hid fun hl W hb => (bytes_ms m W hm (hq.below hb) (by omega)).mono fun _ _ ⟨A, n, c, he, ho, hb⟩ => by
      obtain rfl := ho.len
      exact ⟨⟨A, c, he, Lib.hid ho⟩, hb⟩
    have HOF : Hid (∀ A c B W, Ow B W A (bytesM m).length c (bytesM m) → Calls Tryz.prog 23 #[.int .i64 m.origin, .int .u64 (m.number : Int), .slice A (bytesM m).length c, .agg (u8s m.tag).toArray] W fun E w' => ∃ A7 c7, E = .returned (.tuple #[.agg (msgC (wq m A7 c7)).toArray, .int .i64 0]) ∧ Hid (QOw W.heap.size w' A7 c7 m.body.qs) ∧ Hid (Below W.heap.size W w')) := Lib.hid fun A c B W ho =>
      (of_own m A _ c W hm h ha (by have := ho.oct.1; rwa [hbm] at this ⊢) ho.oct.2 (by omega)).mono fun _ _ ⟨A7, c7, he, hq, hb⟩ => ⟨A7, c7, he, Lib.hid hq, hb⟩
    by_cases hoy : o.may
    · have HOY : Hid (o.body.qs.length ≤ 40 → ∀ W, Below w.heap.size w W → Calls Tryz.prog 13 #[.agg (msgC o).toArray] W fun E w' => E = .returned (.bool true) ∧ Hid (Below W.heap.size W w')) := Lib.hid fun hl W hb => by simpa [hoy] using may_ms o W hmo (hqo.below hb) (by omega)
      have HPO : Hid (o.body.qs.length ≤ 40 → ∀ W, Below w.heap.size w W → Calls Tryz.prog 17 #[.agg (msgC o).toArray] W fun E w' => ∃ A c, E = .returned (.slice A (putM o).length c) ∧ Hid (Ow W.heap.size w' A (putM o).length c (putM o)) ∧ Hid (Below W.heap.size W w')) := Lib.hid fun hl W hb => (put_ms o W hmo (hqo.below hb) (by omega)).mono fun _ _ ⟨A, n, c, he, ho, hb⟩ => by
        obtain rfl := ho.len
        exact ⟨A, c, he, Lib.hid ho, hb⟩
      have HSO : Hid (o.body.qs.length ≤ 40 → m.body.qs.length ≤ 40 → ∀ W, Below w.heap.size w W → Calls Tryz.prog 25 #[.agg (msgC o).toArray, .agg (msgC m).toArray] W fun E w' => E = .returned (.bool (decide (putM o = putM m))) ∧ Hid (Below W.heap.size W w')) := Lib.hid fun hl1 hl2 W hb =>
        (same_rf o m W hmo hm (hqo.below hb) (hq.below hb) (by omega) (by omega)).mono fun _ _ ⟨⟨z, he, hz⟩, hb⟩ => ⟨by rw [he, show z = decide (putM o = putM m) by rw [Bool.eq_iff_iff, hz, decide_eq_true_iff]; exact put_same o m hmo hoy hao hm h ha], Lib.hid hb⟩
      have HSZ : Hid (decide (putM o = putM m) = true ↔ putM o = putM m) := Lib.hid decide_eq_true_iff
      by_cases hraw : endG raw = ([], false) ∧ (gotG raw).may
      · exact back_yes_good_o m o raw RA rl rc cu w hm hmo hrd (putM m) (putM o) (bytesM m) _ _ _ _ (Lib.hid hcu) HN HP HMY HG HS HGC HGE HBY HOF HOY HPO HSO HSZ HF1 HF2 HW (gotG raw) (Lib.hid (got_wf raw)) (HRG hraw.1 hraw.2) (HPZ hraw.1 hraw.2)
      · exact back_yes_bad_o m o raw RA rl rc cu w hm hmo hrd (putM m) (putM o) (bytesM m) _ _ _ _ (Lib.hid hcu) HN HP HMY HG HS HGC HGE HBY HOF HOY HPO HSO HSZ HF1 HF2 HW (HRB hraw)
    · have HOY : Hid (o.body.qs.length ≤ 40 → ∀ W, Below w.heap.size w W → Calls Tryz.prog 13 #[.agg (msgC o).toArray] W fun E w' => E = .returned (.bool false) ∧ Hid (Below W.heap.size W w')) := Lib.hid fun hl W hb => by simpa [hoy] using may_ms o W hmo (hqo.below hb) (by omega)
      by_cases hraw : endG raw = ([], false) ∧ (gotG raw).may
      · exact back_yes_good m o raw RA rl rc cu w hm hmo hrd (putM m) (bytesM m) _ _ (Lib.hid hcu) HN HP HMY HG HS HGC HGE HBY HOF HOY HF1 HF2 HW (gotG raw) (Lib.hid (got_wf raw)) (HRG hraw.1 hraw.2) (HPZ hraw.1 hraw.2)
      · exact back_yes_bad m o raw RA rl rc cu w hm hmo hrd (putM m) (bytesM m) _ _ (Lib.hid hcu) HN HP HMY HG HS HGC HGE HBY HOF HOY HF1 HF2 HW (HRB hraw)
  · have HP : Hid (m.body.qs.length ≤ 40 → ∀ W, Below w.heap.size w W → Calls Tryz.prog 17 #[.agg (msgC m).toArray] W fun E w' => (∃ A c, E = .returned (.slice A 0 c) ∧ Hid (Oct.Sl A 0 c)) ∧ Hid (Below W.heap.size W w')) := Lib.hid fun hl W hb => (put_ms m W hm (hq.below hb) (by omega)).mono fun E w' ⟨A, n, c, he, ho, hb⟩ => by
      rw [putM, if_neg h] at ho
      have hn : 0 = n := ho.len
      subst hn
      exact ⟨⟨A, c, he, Lib.hid ho.oct.2⟩, hb⟩
    have HMY : Hid (m.body.qs.length ≤ 40 → ∀ W, Below w.heap.size w W → Calls Tryz.prog 13 #[.agg (msgC m).toArray] W fun E w' => E = .returned (.bool false) ∧ Hid (Below W.heap.size W w')) := Lib.hid fun hl W hb => by simpa [h] using may_ms m W hm (hq.below hb) (by omega)
    by_cases hraw : endG raw = ([], false) ∧ (gotG raw).may
    · exact back_no_good m o raw RA rl rc cu w hm hmo hrd HP HMY HF1 HF2 HW (gotG raw) (Lib.hid (got_wf raw)) (HRG hraw.1 hraw.2) (HPZ hraw.1 hraw.2)
    · exact back_no_bad m o raw RA rl rc cu w hm hmo hrd HP HMY HF1 HF2 HW (HRB hraw)
theorem u16_of_wf {z : Int} (h : (Lit.int .u16 z).wf = true) : z = ((z.toNat : Nat) : Int) ∧ z.toNat < 65536 := by
  simp [Lit.wf, IntKind.min, IntKind.max, IntKind.signed, IntKind.bits] at h
  omega
theorem back_in (W : World) (hk : KIs W) (h0 : 0 < W.heap.size) (v : Value) (h : ∃ m : MMsg, v = .agg (msgC m).toArray ∧ m.Wf ∧ Prs W m.body.qa m.body.qs ∧ m.body.req.op.amount < 18446744073709551616)
    (u : Value) (ho : ∃ m : MMsg, u = .agg (msgC m).toArray ∧ m.Wf ∧ Prs W m.body.qa m.body.qs ∧ m.body.req.op.amount < 18446744073709551616)
    (A : Option Addr) (n c : Nat) (hb : ∃ bs, Rd (fun _ => True) W A n bs ∧ Sl A n c) (hn : n ≤ 140737488351232) (z : Int) (hz : (Lit.int .u16 z).wf = true) :
    Calls Tryz.prog 6 #[v, u, .slice A n c, .int .u16 z] W fun E w' => E = .returned (.bool true) ∧ Below W.heap.size W w' := by
  obtain ⟨m, rfl, hm, hq, ha⟩ := h
  obtain ⟨o, rfl, hmo, hqo, hao⟩ := ho
  obtain ⟨e, hl⟩ := u16_of_wf hz
  obtain ⟨bs, hr, hs⟩ := hb
  rw [e]
  exact back_any m o bs A n c z.toNat W hm hmo hq hqo ha hao ⟨hr.1, fun hn => let ⟨b, o, e, hb, _, hc⟩ := hr.2 hn; ⟨b, o, e, hb, hc⟩⟩ hs hn hl hk h0
end Go.Proofs.YtghjogneogkpoaaGreatDoor.Sh
