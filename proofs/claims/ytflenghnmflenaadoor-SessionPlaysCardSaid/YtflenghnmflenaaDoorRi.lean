/-
  What is proved: the document's own Do, Of. Conditions as stated.
-/
import Derived.Test.YtflenghnmflenaaDoorRh
namespace Go.Proofs.YtflenghnmflenaaDoor
open Go.RowKit
set_option maxRecDepth 100000

set_option maxHeartbeats 8000000 in
theorem rdo_no {w : World} {g : Nat} {r : Option Nat} {c : Nat} {xs : List It} (h : RL w g r c xs) (o : MOp) (hm : mayOp o = false) :
    Calls Tryd.prog 27 #[.pointer (some ⟨g, 0, none⟩), .agg (opC o).toArray] w fun E w' => ROpP w g r (doR xs o) E w' := by
  have H0 := Lib.hid (RAt.start h o)
  have HM : Hid (∀ W, Calls Tryd.prog 35 #[.agg (opC o).toArray] W fun E w' => E = .returned (.bool false) ∧ Below W.heap.size W w') := Lib.hid fun W => (rmay_any o W).mono fun E w' h => by rw [hm] at h; exact h
  have HI : Hid ((Tryd.prog.info? 49).map (·.size) = some (opC o).length) := Lib.hid Tryd.is49
  have HE : Hid (doR xs o = (no 1, xs)) := Lib.hid (by rw [doR, hm]; rfl)
  clear h hm
  go_enter Tryd.func27, Tryd.ntmps27
  go_wp2_with (first
    | ((with_reducible refine wpList_load_midG ?_ 49 (.tmp 3) ?_ w.heap.size 0 ?_ (opC o) _ ?_ Tryd.underlying49 ?_ ?_ ?_); rotate_left; (· rfl); (· rfl); (· exact range_all H0.out.op); (· rfl); (· exact HI.out); rotate_left; (· rfl))
    | (go_at_call 35; refine (HM.out _).mono ?_))
  rintro E w1 ⟨rfl, b1⟩
  have H1 := Lib.hid (H0.out.below b1)
  clear H0 b1 HM
  have HZ := Lib.hid (fun x y => H1.out.fin x y)
  obtain ⟨d0, d1, f0, f1⟩ := H1.out.out
  go_wp2_with fail
  (try simp only [Exit.inBlock, Exit.then]); refine bodyPost_ret (ret_range (g := w.heap.size + 1) rfl rfl (range_all (HZ.out _ _).1) Tryd.underlying32 rfl Tryd.is32) rfl ?_
  exact ⟨by rw [HE.out] <;> rfl, by rw [HE.out]; exact (HZ.out _ _).2⟩
theorem rdo_any {w : World} {g : Nat} {r : Option Nat} {c : Nat} {xs : List It} (h : RL w g r c xs) (hs : Rise xs) (hn : xs.length ≤ 900) (hsm : ∀ p ∈ xs, p.2.size ≤ 128) (o : MOp) :
    Calls Tryd.prog 27 #[.pointer (some ⟨g, 0, none⟩), .agg (opC o).toArray] w fun E w' => ROpP w g r (doR xs o) E w' := by
  cases hm : mayOp o with
  | false => exact rdo_no h o hm
  | true =>
    rcases may_kind hm with hk | hk | hk | hk | hk
    · exact rdo_1 h hs hn hsm o hm hk
    · exact rdo_2 h hs hn hsm o hm hk
    · exact rdo_3 h hs hn hsm o hm hk
    · exact rdo_4 h hs hn hsm o hm hk
    · exact rdo_5 h hs hn hsm o hm hk

end Go.Proofs.YtflenghnmflenaaDoor
