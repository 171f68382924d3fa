/-
  What is proved: a key is taken away. Conditions as stated.
-/
import Derived.Test.YtflenghnmflenaaDoorLn
namespace Go.Proofs.YtflenghnmflenaaDoor
open Go.RowKit
set_option maxRecDepth 100000

set_option maxHeartbeats 4000000 in
theorem remove_any {w : World} {g : Nat} {r : Option Nat} {c : Nat} {xs : List It} (h : Led w g r c xs) (hs : Rise xs) (hn : xs.length ≤ 900) (o : MOp) :
    Calls Tryd.prog 45 #[.pointer (some ⟨g, 0, none⟩), .agg (opC o).toArray] w fun E w' => OpP w g r (delR xs o) E w' := by
  have H0 := Lib.hid (At.start h o)
  have HS := Lib.hid hs
  have HN := Lib.hid hn
  have HV : Hid (∀ W, At w g r o W r c xs → Calls Tryd.prog 55 #[.pointer (some ⟨g, 0, none⟩), .string o.key] W fun E w' => E = .returned (.tuple #[.int .i64 (posOf xs o.key : Int), .bool (hasK xs o.key)]) ∧ Below W.heap.size W w') := Lib.hid fun W H => find_any H.led HS.out (by have := HN.out; omega) o.key
  have HE : Hid (delR xs o = if hasK xs o.key then ((0, valK xs o.key), delK xs o.key) else (no 4, xs)) := Lib.hid rfl
  cases hz : hasK xs o.key with
  | false =>
    rw [hz] at HV HE
    have HE2 : Hid (delR xs o = (no 4, xs)) := Lib.hid HE.out
    obtain ⟨q, hq⟩ : ∃ q, q = posOf xs o.key := ⟨_, rfl⟩
    rw [← hq] at HV
    have p1 : (opC o)[1]? = some (.string o.key) := rfl
    clear hq hz h hs hn HE
    go_enter Tryd.func45, Tryd.ntmps45
    go_wp2_with (go_at_call 55; refine (HV.out _ H0.out).mono ?_)
    rintro E w1 ⟨rfl, b1⟩
    have H1 := Lib.hid (H0.out.below b1)
    clear H0 HV b1
    go_wp2_with (go_at_call 32; refine (refused_any 4 _).mono ?_)
    rintro E w2 ⟨rfl, b2⟩
    have H2 := Lib.hid (H1.out.below b2)
    clear H1 b2
    have HZ := Lib.hid (fun x y => H2.out.fin x y)
    obtain ⟨d0, d1, f0, f1⟩ := H2.out.out
    go_wp2_with fail
    (try simp only [Exit.inBlock, Exit.then]); refine bodyPost_ret (ret_range (g := w.heap.size + 1) rfl rfl (range_all (HZ.out _ _).1) Tryd.underlying32 rfl Tryd.is32) rfl ?_
    show OpP w g r _ _ _
    rw [HE2.out]
    exact ⟨rfl, (HZ.out _ _).2⟩
  | true =>
    rw [hz] at HV HE
    have HE2 : Hid (delR xs o = ((0, valK xs o.key), delK xs o.key)) := Lib.hid HE.out
    have hm := mem_of_has hz
    have hpl := pos_lt_of_has hz
    have hgr := h.apart
    cases r with
    | none => have := h.row.2; rw [this] at hpl; simp at hpl
    | some b =>
      have HD : Hid (∀ W, At w g (some b) o W (some b) c xs → Calls Tryd.prog 56 #[.slice (some ⟨b, 0, none⟩) xs.length c, .int .i64 (posOf xs o.key : Int), .int .i64 ((posOf xs o.key : Int) + 1)] W fun E w' => DelP W b c (delK xs o.key) E w') := Lib.hid fun W H => delete_any H.led.row (by have := HN.out; omega) hpl
      have HQ : Hid (∀ W, At w g (some b) o W (some b) c xs → W.cell? ⟨g, 0, none⟩ = some (.slice (some ⟨b, 0, none⟩) xs.length c) ∧ W.cell? ⟨b, posOf xs o.key * 2 + 1, none⟩ = some (.string (valK xs o.key))) := Lib.hid fun W H => by
        obtain ⟨b', o', hA, _, hc⟩ := H.led.row.its (by omega)
        injection hA with hA
        injection hA with h1 h2 h3
        subst h1 h2
        have := (hc _ _ hm).2
        rw [Nat.zero_add] at this
        exact ⟨H.led.cell, this⟩
      have HF : Hid (∀ W w2, At w g (some b) o W (some b) c xs → Rw w2 (some b) c (delK xs o.key) → Turns (fun k => some b = some k) W w2 → w2.cell? ⟨g, 0, none⟩ = some (.slice (some ⟨b, 0, none⟩) xs.length c) ∧ w2.frozen? ⟨g, 0, none⟩ = false ∧ ¬ (w.heap.size + 1 = g) ∧
          (w2.cell? ⟨w.heap.size + 1, 0, none⟩ = some (.int .i64 0) ∧ w2.cell? ⟨w.heap.size + 1, 1, none⟩ = some (.string ByteArray.empty) ∧ w2.frozen? ⟨w.heap.size + 1, 0, none⟩ = false ∧ w2.frozen? ⟨w.heap.size + 1, 1, none⟩ = false) ∧
          At w g (some b) o (w2.setCell ⟨g, 0, none⟩ (.slice (some ⟨b, 0, none⟩) (delK xs o.key).length c)) (some b) c (delK xs o.key)) := Lib.hid fun W w2 H hR hT => by
        have htop : w2.heap[g]? = some (.cells #[.slice (some ⟨b, 0, none⟩) xs.length c] 75 (0, 0)) := (hT.block g H.led.lt (fun e => hgr e)).trans H.led.top
        have hgb : b ≠ g := fun e => hgr (by rw [e])
        have hT2 : Turns (On g (some b)) W w2 := hT.mono fun k e => .inr e
        have hres : w2.heap[w.heap.size + 1]? = _ := (hT2.block _ H.lt (H.apart H.res (by decide) (by decide))).trans H.res
        refine ⟨by rw [cell_of_row w2 g 0 _ _ _ htop]; rfl, free_block htop 0, fun e => H.apart H.res (by decide) (by decide) (.inl e), ⟨block_cell hres 0 _ rfl, block_cell hres 1 _ rfl, free_block hres 0, free_block hres 1⟩, ?_⟩
        exact H.next ⟨top_store htop _, hR.kept fun k e => Below.heap_setCell _ ⟨g, 0, none⟩ _ k (by injection e with e; rw [← e]; exact hgb)⟩ (Own.same (hT2.setCell (.inl (.inl rfl)) _ _))
      obtain ⟨q, hq⟩ : ∃ q, q = posOf xs o.key := ⟨_, rfl⟩
      obtain ⟨v, hv⟩ : ∃ v, v = valK xs o.key := ⟨_, rfl⟩
      obtain ⟨ys, hys⟩ : ∃ ys, ys = delK xs o.key := ⟨_, rfl⟩
      obtain ⟨n, hnn⟩ : ∃ n, n = xs.length := ⟨_, rfl⟩
      obtain ⟨m, hmm⟩ : ∃ m, m = ys.length := ⟨_, rfl⟩
      rw [← hq] at HV HD HQ hpl
      rw [← hv] at HQ HE2
      rw [← hys] at HD HF HE2
      rw [← hnn] at HD HQ HF hpl
      rw [← hmm] at HF
      have HM := Lib.hid hmm
      have hpl' : (q : Int) < (n : Int) := by omega
      have hw : IntKind.i64.wrap ((q : Int) + 1) = (q : Int) + 1 := by rw [IntKind.wrap_i64]; have := hn; omega
      have p1 : (opC o)[1]? = some (.string o.key) := rfl
      clear hq hv hys hnn hmm hz hm h hs hn HE hgr
      go_enter Tryd.func45, Tryd.ntmps45
      go_wp2_with (go_at_call 55; refine (HV.out _ H0.out).mono ?_)
      rintro E w1 ⟨rfl, b1⟩
      have H1 := Lib.hid (H0.out.below b1)
      clear H0 HV b1
      obtain ⟨c0, c1⟩ := HQ.out w1 H1.out
      go_wp2_with (go_at_call 56; refine (HD.out _ H1.out).mono ?_)
      rintro E w2 ⟨rfl, hR, hT⟩
      obtain ⟨c2, f2, hne, ⟨d0, d1, f0, f1⟩, hA⟩ := HF.out w1 w2 H1.out hR hT
      have hne' : ¬ (g = w.heap.size + 1) := fun e => hne e.symm
      have HZ := Lib.hid (fun x y => hA.fin x y)
      rw [← HM.out]
      clear H1 hR hT hA c0 c1 HQ HD HF
      go_wp2_with fail
      (try simp only [Exit.inBlock, Exit.then]); refine bodyPost_ret (ret_range (g := w.heap.size + 1) rfl rfl (range_all (HZ.out _ _).1) Tryd.underlying32 rfl Tryd.is32) rfl ?_
      show OpP w g _ _ _ _
      rw [HE2.out]
      exact ⟨rfl, (HZ.out _ _).2⟩
end Go.Proofs.YtflenghnmflenaaDoor
