/-
  What is proved: the document's own Do. Conditions as stated.
-/
import Derived.Test.YtflenghnmflenaaDoorRb
import Derived.Test.YtflenghnmflenaaDoorRf
namespace Go.Proofs.YtflenghnmflenaaDoor
open Go.RowKit
set_option maxRecDepth 100000

theorem wp_app {w0 w : World} {o : Oper} {a : Act} {K : Act → World → Prop} {Q : Exit → Act → World → Prop} (s x : Operand)
    (ho : o.op = .call { callee := .builtin .append, args := #[s, x], argTypes := #[43, 43] }) {v : Value} {n : Nat} {C : List Value} (hs : a.eval s = v) (hown : w.ownsRow w0.heap.size 64 2 v n C) (hb : Below w0.heap.size w0 w)
    (ad : Addr) (m c : Nat) (news : List Value) (hx : a.eval x = .slice (some ad) m c) (hl : news.length = m * 2) (hnews : ∀ j u, news[j]? = some u → w.cell? (ad.add j) = some u) (h1 : ∀ u ∈ news, u.oneCell' = true) (h63 : n + m ≤ 4000)
    (h : ∀ v' w', w'.ownsRow w0.heap.size 64 2 v' (n + m) (C ++ news) → Below w0.heap.size w0 w' → K (a.put o.dst v') w') : o.wp Tryd.prog a w K Q := by
  obtain ⟨i0, hi0, hz0, hzs, hzb⟩ := info_parts Tryd.info64
  refine wp_append_own w s x 43 ho w0.heap.size 64 i0 _ 2 32 Tryd.underlying43 hi0 hz0 hzs hzb (by simp [Value.cells]) (by omega) v n C hs hown ad m c news hx hl hnews h1 (by unfold maxLen; omega) (by omega) hb.size ?_
  intro v' w' ho' hg _
  exact h v' w' ho' (hb.grown hg hb.size fun k hk => (hown.lt k hk).1)
set_option maxHeartbeats 8000000 in
theorem rdo_1 {w : World} {g : Nat} {r : Option Nat} {c : Nat} {xs : List It} (h : RL w g r c xs) (hs : Rise xs) (hn : xs.length ≤ 900) (hsm : ∀ p ∈ xs, p.2.size ≤ 128) (o : MOp) (hm : mayOp o = true) (hk : o.kind = 1) :
    Calls Tryd.prog 27 #[.pointer (some ⟨g, 0, none⟩), .agg (opC o).toArray] w fun E w' => ROpP w g r (doR xs o) E w' := by
  have H0 := Lib.hid (RAt.start h o)
  have HS := Lib.hid hs
  have HSm := Lib.hid hsm
  have HM : Hid (∀ W, Calls Tryd.prog 35 #[.agg (opC o).toArray] W fun E w' => E = .returned (.bool true) ∧ Below W.heap.size W w') := Lib.hid fun W => (rmay_any o W).mono fun E w' h => by rw [hm] at h; exact h
  have HGet : Hid (∀ W, RL W g r c xs → Calls Tryd.prog 36 #[.pointer (some ⟨g, 0, none⟩), .string o.key] W fun E w' => E = .returned (.tuple #[.string (valK xs o.key), .bool (hasK xs o.key)]) ∧ Below W.heap.size W w') := Lib.hid fun W h => rget_any h (by omega) o.key
  have HI : Hid ((Tryd.prog.info? 49).map (·.size) = some (opC o).length) := Lib.hid Tryd.is49
  have hd := do_kind (xs := xs) hm
  have HMay := Lib.hid hm
  clear h hs hsm hm
  go_enter Tryd.func27, Tryd.ntmps27
  go_wp2_with (first
    | ((with_reducible refine wpList_load_midG ?_ 49 (.tmp 3) ?_ w.heap.size 0 ?_ (opC o) _ ?_ Tryd.underlying49 ?_ ?_ ?_); rotate_left; (· rfl); (· rfl); (· exact range_all H0.out.op); (· rfl); (· exact HI.out); rotate_left; (· rfl))
    | (go_at_call 35; refine (HM.out _).mono ?_))
  rintro E w1 ⟨rfl, b1⟩
  have H1 := Lib.hid (H0.out.below b1)
  clear H0 b1 HM
  have k1 : w1.cell? ⟨w.heap.size, 1, none⟩ = some (.string o.key) := H1.out.cell 1 _ rfl
  go_wp2_with (go_at_call 36; refine (HGet.out _ H1.out.led).mono ?_)
  rintro E w2 ⟨rfl, b2⟩
  have H2 := Lib.hid (H1.out.below b2)
  clear H1 b2 HGet k1
  obtain ⟨z, hz⟩ : ∃ z, z = hasK xs o.key := ⟨_, rfl⟩
  have HZ0 := Lib.hid hz
  rw [← hz]
  clear hz
  have k0 : w2.cell? ⟨w.heap.size, 0, none⟩ = some (.int .u8 1) := by
    have := H2.out.cell 0 (.int .u8 (o.kind.toNat : Int)) rfl
    rw [hk] at this
    exact this
  cases z with
  | false =>
    have HE : Hid (doR xs o = (no 4, xs)) := Lib.hid (by rw [hd, hk]; show (getR xs o, xs) = _; rw [getR, ← HZ0.out]; rfl)
    have HZ := Lib.hid (fun x y => H2.out.fin x y)
    obtain ⟨d0, d1, f0, f1⟩ := H2.out.out
    go_wp2_with fail
    (try simp only [Exit.inBlock, Exit.then]); refine bodyPost_ret (ret_range (g := w.heap.size + 1) rfl rfl (range_all (HZ.out _ _).1) Tryd.underlying32 rfl Tryd.is32) rfl ?_
    exact ⟨by rw [HE.out] <;> rfl, by rw [HE.out]; exact (HZ.out _ _).2⟩
  | true =>
    have HE : Hid (doR xs o = ((0, valK xs o.key), xs)) := Lib.hid (by rw [hd, hk]; show (getR xs o, xs) = _; rw [getR, ← HZ0.out]; rfl)
    have HZ := Lib.hid (fun x y => H2.out.fin x y)
    obtain ⟨d0, d1, f0, f1⟩ := H2.out.out
    go_wp2_with fail
    (try simp only [Exit.inBlock, Exit.then]); refine bodyPost_ret (ret_range (g := w.heap.size + 1) rfl rfl (range_all (HZ.out _ _).1) Tryd.underlying32 rfl Tryd.is32) rfl ?_
    exact ⟨by rw [HE.out] <;> rfl, by rw [HE.out]; exact (HZ.out _ _).2⟩
set_option maxHeartbeats 8000000 in
theorem rdo_2 {w : World} {g : Nat} {r : Option Nat} {c : Nat} {xs : List It} (h : RL w g r c xs) (hs : Rise xs) (hn : xs.length ≤ 900) (hsm : ∀ p ∈ xs, p.2.size ≤ 128) (o : MOp) (hm : mayOp o = true) (hk : o.kind = 2) :
    Calls Tryd.prog 27 #[.pointer (some ⟨g, 0, none⟩), .agg (opC o).toArray] w fun E w' => ROpP w g r (doR xs o) E w' := by
  have H0 := Lib.hid (RAt.start h o)
  have HS := Lib.hid hs
  have HSm := Lib.hid hsm
  have HM : Hid (∀ W, Calls Tryd.prog 35 #[.agg (opC o).toArray] W fun E w' => E = .returned (.bool true) ∧ Below W.heap.size W w') := Lib.hid fun W => (rmay_any o W).mono fun E w' h => by rw [hm] at h; exact h
  have HGet : Hid (∀ W, RL W g r c xs → Calls Tryd.prog 36 #[.pointer (some ⟨g, 0, none⟩), .string o.key] W fun E w' => E = .returned (.tuple #[.string (valK xs o.key), .bool (hasK xs o.key)]) ∧ Below W.heap.size W w') := Lib.hid fun W h => rget_any h (by omega) o.key
  have HI : Hid ((Tryd.prog.info? 49).map (·.size) = some (opC o).length) := Lib.hid Tryd.is49
  have hd := do_kind (xs := xs) hm
  have HMay := Lib.hid hm
  clear h hs hsm hm
  go_enter Tryd.func27, Tryd.ntmps27
  go_wp2_with (first
    | ((with_reducible refine wpList_load_midG ?_ 49 (.tmp 3) ?_ w.heap.size 0 ?_ (opC o) _ ?_ Tryd.underlying49 ?_ ?_ ?_); rotate_left; (· rfl); (· rfl); (· exact range_all H0.out.op); (· rfl); (· exact HI.out); rotate_left; (· rfl))
    | (go_at_call 35; refine (HM.out _).mono ?_))
  rintro E w1 ⟨rfl, b1⟩
  have H1 := Lib.hid (H0.out.below b1)
  clear H0 b1 HM
  have k1 : w1.cell? ⟨w.heap.size, 1, none⟩ = some (.string o.key) := H1.out.cell 1 _ rfl
  go_wp2_with (go_at_call 36; refine (HGet.out _ H1.out.led).mono ?_)
  rintro E w2 ⟨rfl, b2⟩
  have H2 := Lib.hid (H1.out.below b2)
  clear H1 b2 HGet k1
  obtain ⟨z, hz⟩ : ∃ z, z = hasK xs o.key := ⟨_, rfl⟩
  have HZ0 := Lib.hid hz
  rw [← hz]
  clear hz
  have k0 : w2.cell? ⟨w.heap.size, 0, none⟩ = some (.int .u8 2) := by
    have := H2.out.cell 0 (.int .u8 (o.kind.toNat : Int)) rfl
    rw [hk] at this
    exact this
  have cg := H2.out.led.cell
  cases z with
  | false =>
    by_cases h64 : 64 ≤ xs.length
    · have h64a : (xs.length : Int) ≥ 64 := by omega
      have h64b : (64 : Int) ≤ (xs.length : Int) := by omega
      have HE : Hid (doR xs o = (no 7, xs)) := Lib.hid (by rw [hd, hk]; show putR xs o = _; rw [putR, fullK, ← HZ0.out, decide_eq_true h64]; rfl)
      have HZ := Lib.hid (fun x y => H2.out.fin x y)
      obtain ⟨d0, d1, f0, f1⟩ := H2.out.out
      go_wp2_with fail
      (try simp only [Exit.inBlock, Exit.then]); refine bodyPost_ret (ret_range (g := w.heap.size + 1) rfl rfl (range_all (HZ.out _ _).1) Tryd.underlying32 rfl Tryd.is32) rfl ?_
      exact ⟨by rw [HE.out] <;> rfl, by rw [HE.out]; exact (HZ.out _ _).2⟩
    · have h64a : ¬ (xs.length : Int) ≥ 64 := by omega
      have h64b : ¬ (64 : Int) ≤ (xs.length : Int) := by omega
      have h64c : (xs.length : Int) < 64 := by omega
      have HE : Hid (doR xs o = (no 0, setK xs o.key o.value)) := Lib.hid (by rw [hd, hk]; show putR xs o = _; rw [putR, fullK, ← HZ0.out, decide_eq_false h64]; rfl)
      have hlen1 : xs.length ≤ 1000 := by omega
      have k1 : w2.cell? ⟨w.heap.size, 1, none⟩ = some (.string o.key) := H2.out.cell 1 _ rfl
      have k2 : w2.cell? ⟨w.heap.size, 2, none⟩ = some (.string o.value) := H2.out.cell 2 _ rfl
      go_wp2_with (go_at_call 37; refine (rset_any H2.out.led hlen1 o.key o.value).mono ?_)
      rintro E w3 ⟨rfl, r3, c3, hl3, ho3⟩
      have H3 := Lib.hid (H2.out.next hl3 ho3)
      clear H2 hl3 ho3
      have HZ := Lib.hid (fun x y => H3.out.fin x y)
      obtain ⟨d0, d1, f0, f1⟩ := H3.out.out
      go_wp2_with fail
      (try simp only [Exit.inBlock, Exit.then]); refine bodyPost_ret (ret_range (g := w.heap.size + 1) rfl rfl (range_all (HZ.out _ _).1) Tryd.underlying32 rfl Tryd.is32) rfl ?_
      exact ⟨by rw [HE.out] <;> rfl, by rw [HE.out]; exact (HZ.out _ _).2⟩
  | true =>
    have HE : Hid (doR xs o = (no 0, setK xs o.key o.value)) := Lib.hid (by rw [hd, hk]; show putR xs o = _; rw [putR, fullK, ← HZ0.out]; rfl)
    have hlen1 : xs.length ≤ 1000 := by omega
    have k1 : w2.cell? ⟨w.heap.size, 1, none⟩ = some (.string o.key) := H2.out.cell 1 _ rfl
    have k2 : w2.cell? ⟨w.heap.size, 2, none⟩ = some (.string o.value) := H2.out.cell 2 _ rfl
    go_wp2_with (go_at_call 37; refine (rset_any H2.out.led hlen1 o.key o.value).mono ?_)
    rintro E w3 ⟨rfl, r3, c3, hl3, ho3⟩
    have H3 := Lib.hid (H2.out.next hl3 ho3)
    clear H2 hl3 ho3
    have HZ := Lib.hid (fun x y => H3.out.fin x y)
    obtain ⟨d0, d1, f0, f1⟩ := H3.out.out
    go_wp2_with fail
    (try simp only [Exit.inBlock, Exit.then]); refine bodyPost_ret (ret_range (g := w.heap.size + 1) rfl rfl (range_all (HZ.out _ _).1) Tryd.underlying32 rfl Tryd.is32) rfl ?_
    exact ⟨by rw [HE.out] <;> rfl, by rw [HE.out]; exact (HZ.out _ _).2⟩
set_option maxHeartbeats 8000000 in
theorem rdo_4 {w : World} {g : Nat} {r : Option Nat} {c : Nat} {xs : List It} (h : RL w g r c xs) (hs : Rise xs) (hn : xs.length ≤ 900) (hsm : ∀ p ∈ xs, p.2.size ≤ 128) (o : MOp) (hm : mayOp o = true) (hk : o.kind = 4) :
    Calls Tryd.prog 27 #[.pointer (some ⟨g, 0, none⟩), .agg (opC o).toArray] w fun E w' => ROpP w g r (doR xs o) E w' := by
  have H0 := Lib.hid (RAt.start h o)
  have HS := Lib.hid hs
  have HSm := Lib.hid hsm
  have HM : Hid (∀ W, Calls Tryd.prog 35 #[.agg (opC o).toArray] W fun E w' => E = .returned (.bool true) ∧ Below W.heap.size W w') := Lib.hid fun W => (rmay_any o W).mono fun E w' h => by rw [hm] at h; exact h
  have HGet : Hid (∀ W, RL W g r c xs → Calls Tryd.prog 36 #[.pointer (some ⟨g, 0, none⟩), .string o.key] W fun E w' => E = .returned (.tuple #[.string (valK xs o.key), .bool (hasK xs o.key)]) ∧ Below W.heap.size W w') := Lib.hid fun W h => rget_any h (by omega) o.key
  have HI : Hid ((Tryd.prog.info? 49).map (·.size) = some (opC o).length) := Lib.hid Tryd.is49
  have hd := do_kind (xs := xs) hm
  have HMay := Lib.hid hm
  clear h hs hsm hm
  go_enter Tryd.func27, Tryd.ntmps27
  go_wp2_with (first
    | ((with_reducible refine wpList_load_midG ?_ 49 (.tmp 3) ?_ w.heap.size 0 ?_ (opC o) _ ?_ Tryd.underlying49 ?_ ?_ ?_); rotate_left; (· rfl); (· rfl); (· exact range_all H0.out.op); (· rfl); (· exact HI.out); rotate_left; (· rfl))
    | (go_at_call 35; refine (HM.out _).mono ?_))
  rintro E w1 ⟨rfl, b1⟩
  have H1 := Lib.hid (H0.out.below b1)
  clear H0 b1 HM
  have k1 : w1.cell? ⟨w.heap.size, 1, none⟩ = some (.string o.key) := H1.out.cell 1 _ rfl
  go_wp2_with (go_at_call 36; refine (HGet.out _ H1.out.led).mono ?_)
  rintro E w2 ⟨rfl, b2⟩
  have H2 := Lib.hid (H1.out.below b2)
  clear H1 b2 HGet k1
  obtain ⟨z, hz⟩ : ∃ z, z = hasK xs o.key := ⟨_, rfl⟩
  have HZ0 := Lib.hid hz
  rw [← hz]
  clear hz
  have k0 : w2.cell? ⟨w.heap.size, 0, none⟩ = some (.int .u8 4) := by
    have := H2.out.cell 0 (.int .u8 (o.kind.toNat : Int)) rfl
    rw [hk] at this
    exact this
  cases z with
  | false =>
    have HE : Hid (doR xs o = (no 4, xs)) := Lib.hid (by rw [hd, hk]; show swapR xs o = _; rw [swapR, ← HZ0.out]; rfl)
    have HZ := Lib.hid (fun x y => H2.out.fin x y)
    obtain ⟨d0, d1, f0, f1⟩ := H2.out.out
    go_wp2_with fail
    (try simp only [Exit.inBlock, Exit.then]); refine bodyPost_ret (ret_range (g := w.heap.size + 1) rfl rfl (range_all (HZ.out _ _).1) Tryd.underlying32 rfl Tryd.is32) rfl ?_
    exact ⟨by rw [HE.out] <;> rfl, by rw [HE.out]; exact (HZ.out _ _).2⟩
  | true =>
    have k3 : w2.cell? ⟨w.heap.size, 3, none⟩ = some (.string o.old) := H2.out.cell 3 _ rfl
    by_cases ho : valK xs o.key = o.old
    · have ho' : ((valK xs o.key).toList == o.old.toList) = true := by rw [ho]; simp
      have HE : Hid (doR xs o = (no 0, setK xs o.key o.value)) := Lib.hid (by rw [hd, hk]; show swapR xs o = _; rw [swapR, ← HZ0.out, if_pos rfl, if_pos ho])
      have hlen1 : xs.length ≤ 1000 := by omega
      have k1 : w2.cell? ⟨w.heap.size, 1, none⟩ = some (.string o.key) := H2.out.cell 1 _ rfl
      have k2 : w2.cell? ⟨w.heap.size, 2, none⟩ = some (.string o.value) := H2.out.cell 2 _ rfl
      go_wp2_with (go_at_call 37; refine (rset_any H2.out.led hlen1 o.key o.value).mono ?_)
      rintro E w3 ⟨rfl, r3, c3, hl3, ho3⟩
      have H3 := Lib.hid (H2.out.next hl3 ho3)
      clear H2 hl3 ho3
      have HZ := Lib.hid (fun x y => H3.out.fin x y)
      obtain ⟨d0, d1, f0, f1⟩ := H3.out.out
      go_wp2_with fail
      (try simp only [Exit.inBlock, Exit.then]); refine bodyPost_ret (ret_range (g := w.heap.size + 1) rfl rfl (range_all (HZ.out _ _).1) Tryd.underlying32 rfl Tryd.is32) rfl ?_
      exact ⟨by rw [HE.out] <;> rfl, by rw [HE.out]; exact (HZ.out _ _).2⟩
    · have ho' : ((valK xs o.key).toList == o.old.toList) = false := by
        cases h : (valK xs o.key).toList == o.old.toList with
        | false => rfl
        | true => exact absurd (toList_inj (by simpa using h)) ho
      have HE : Hid (doR xs o = ((15, valK xs o.key), xs)) := Lib.hid (by rw [hd, hk]; show swapR xs o = _; rw [swapR, ← HZ0.out, if_pos rfl, if_neg ho])
      have HZ := Lib.hid (fun x y => H2.out.fin x y)
      obtain ⟨d0, d1, f0, f1⟩ := H2.out.out
      go_wp2_with fail
      (try simp only [Exit.inBlock, Exit.then]); refine bodyPost_ret (ret_range (g := w.heap.size + 1) rfl rfl (range_all (HZ.out _ _).1) Tryd.underlying32 rfl Tryd.is32) rfl ?_
      exact ⟨by rw [HE.out] <;> rfl, by rw [HE.out]; exact (HZ.out _ _).2⟩
set_option maxHeartbeats 8000000 in
theorem rdo_5 {w : World} {g : Nat} {r : Option Nat} {c : Nat} {xs : List It} (h : RL w g r c xs) (hs : Rise xs) (hn : xs.length ≤ 900) (hsm : ∀ p ∈ xs, p.2.size ≤ 128) (o : MOp) (hm : mayOp o = true) (hk : o.kind = 5) :
    Calls Tryd.prog 27 #[.pointer (some ⟨g, 0, none⟩), .agg (opC o).toArray] w fun E w' => ROpP w g r (doR xs o) E w' := by
  have H0 := Lib.hid (RAt.start h o)
  have HS := Lib.hid hs
  have HSm := Lib.hid hsm
  have HM : Hid (∀ W, Calls Tryd.prog 35 #[.agg (opC o).toArray] W fun E w' => E = .returned (.bool true) ∧ Below W.heap.size W w') := Lib.hid fun W => (rmay_any o W).mono fun E w' h => by rw [hm] at h; exact h
  have HGet : Hid (∀ W, RL W g r c xs → Calls Tryd.prog 36 #[.pointer (some ⟨g, 0, none⟩), .string o.key] W fun E w' => E = .returned (.tuple #[.string (valK xs o.key), .bool (hasK xs o.key)]) ∧ Below W.heap.size W w') := Lib.hid fun W h => rget_any h (by omega) o.key
  have HI : Hid ((Tryd.prog.info? 49).map (·.size) = some (opC o).length) := Lib.hid Tryd.is49
  have hd := do_kind (xs := xs) hm
  have HMay := Lib.hid hm
  clear h hs hsm hm
  go_enter Tryd.func27, Tryd.ntmps27
  go_wp2_with (first
    | ((with_reducible refine wpList_load_midG ?_ 49 (.tmp 3) ?_ w.heap.size 0 ?_ (opC o) _ ?_ Tryd.underlying49 ?_ ?_ ?_); rotate_left; (· rfl); (· rfl); (· exact range_all H0.out.op); (· rfl); (· exact HI.out); rotate_left; (· rfl))
    | (go_at_call 35; refine (HM.out _).mono ?_))
  rintro E w1 ⟨rfl, b1⟩
  have H1 := Lib.hid (H0.out.below b1)
  clear H0 b1 HM
  have k1 : w1.cell? ⟨w.heap.size, 1, none⟩ = some (.string o.key) := H1.out.cell 1 _ rfl
  go_wp2_with (go_at_call 36; refine (HGet.out _ H1.out.led).mono ?_)
  rintro E w2 ⟨rfl, b2⟩
  have H2 := Lib.hid (H1.out.below b2)
  clear H1 b2 HGet k1
  obtain ⟨z, hz⟩ : ∃ z, z = hasK xs o.key := ⟨_, rfl⟩
  have HZ0 := Lib.hid hz
  rw [← hz]
  clear hz
  have k0 : w2.cell? ⟨w.heap.size, 0, none⟩ = some (.int .u8 5) := by
    have := H2.out.cell 0 (.int .u8 (o.kind.toNat : Int)) rfl
    rw [hk] at this
    exact this
  cases z with
  | false =>
    have HE : Hid (doR xs o = (no 4, xs)) := Lib.hid (by rw [hd, hk]; show moveR xs o = _; rw [moveR, ← HZ0.out]; rfl)
    have HZ := Lib.hid (fun x y => H2.out.fin x y)
    obtain ⟨d0, d1, f0, f1⟩ := H2.out.out
    go_wp2_with fail
    (try simp only [Exit.inBlock, Exit.then]); refine bodyPost_ret (ret_range (g := w.heap.size + 1) rfl rfl (range_all (HZ.out _ _).1) Tryd.underlying32 rfl Tryd.is32) rfl ?_
    exact ⟨by rw [HE.out] <;> rfl, by rw [HE.out]; exact (HZ.out _ _).2⟩
  | true =>
    have ham := (may_val HMay.out).2
    have HMv := Lib.hid (rmove_any H2.out.led HS.out hn HSm.out o ham HZ0.out.symm)
    go_wp2_with (first
      | ((with_reducible refine wpList_load_midG ?_ 49 (.tmp 3) ?_ w.heap.size 0 ?_ (opC o) _ ?_ Tryd.underlying49 ?_ ?_ ?_); rotate_left; (· rfl); (· rfl); (· exact range_all H2.out.op); (· rfl); (· exact HI.out); rotate_left; (· rfl))
      | (go_at_call 39; refine HMv.out.mono ?_))
    rintro E w3 ⟨rfl, r3, c3, hl3, ho3⟩
    have H3 := Lib.hid (H2.out.next hl3 ho3)
    clear H2 hl3 ho3 HMv
    obtain ⟨q, hq⟩ : ∃ q, q = moveR xs o := ⟨_, rfl⟩
    rw [← hq] at H3 ⊢
    obtain ⟨⟨e, s⟩, ys⟩ := q
    rw [show (repC ((e, s), ys).1).toArray = #[.int .i64 (e : Int), .string s] from rfl]
    have HE : Hid (doR xs o = ((e, s), ys)) := Lib.hid (by rw [hd, hk]; exact hq.symm)
    clear hq
    have HZ := Lib.hid (fun x y => H3.out.fin x y)
    obtain ⟨d0, d1, f0, f1⟩ := H3.out.out
    go_wp2_with fail
    (try simp only [Exit.inBlock, Exit.then]); refine bodyPost_ret (ret_range (g := w.heap.size + 1) rfl rfl (range_all (HZ.out _ _).1) Tryd.underlying32 rfl Tryd.is32) rfl ?_
    exact ⟨by rw [HE.out] <;> rfl, by rw [HE.out]; exact (HZ.out _ _).2⟩
end Go.Proofs.YtflenghnmflenaaDoor
