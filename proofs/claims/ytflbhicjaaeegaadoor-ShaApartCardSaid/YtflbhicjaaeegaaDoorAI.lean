/-
  What is proved: ShaApart's walk over what came in. Conditions as stated.
-/
import Derived.Test.YtflbhicjaaeegaaDoorAG
import Derived.Test.YtflbhicjaaeegaaDoorAH
import Derived.Test.YtflbhicjaaeegaaDoorJ
namespace Go.Proofs.YtflbhicjaaeegaaDoor
open Go.RowKit

theorem shaApart_walk (W : World) (hk : KIs W) (h0 : 0 < W.heap.size) (A : Option Addr) (n c : Nat) (h : ∃ xs, Lists W A n xs ∧ Sl A n c) (T : Option Addr) (nt ct : Nat) (ht : ∃ bs, Rd (fun _ => True) W T nt bs ∧ Sl T nt ct) :
    Calls Tryd.prog 8 #[.slice A n c, .slice T nt ct] W fun E w' => E = .returned (.bool true) ∧ Below W.heap.size W w' := by
  obtain ⟨xs, hx, hs⟩ := h
  obtain ⟨ts, hts, hst⟩ := ht
  exact shaApart_by sumOf sumOf_length xs A n c ts T nt ct W hx hs hts hst works_any hk h0 (fun g al w hl hh hk h0 => hashSum_any g al w hh (by omega) hk h0)
    (fun al A c w hl hr hs hk h0 => sum_any al A c w hr hs (by omega) hk h0)
end Go.Proofs.YtflbhicjaaeegaaDoor
