/-
  What is proved: SessionPlays, of what came in. Conditions as stated.
-/
import Derived.Test.YtflenghnmflenaaDoorUf
import Derived.Test.YtflenghnmflenaaDoorUk
namespace Go.Proofs.YtflenghnmflenaaDoor
open Go.RowKit Go.ChangeShapes Go.WideShapes Go.Deep
theorem Tryd.bytes34 : Tryd.prog.bytesOf 34 = 32 := by kernel_rfl
theorem lss_reach {H : Type} {enc : TypeId × Value → H} {W : World} {base : Nat} {spare : Nat → Bool} {held : Bool} {A : Option Addr} {n c : Nat} {d : DataW H} {p : List MemPlace} {ts : List TypeId} {ds : List (DataW H)} {j : Nat}
    (hsz : (DataW.weightsEach Tryd.prog ts ds).all (· ≤ reachBytes) = true) (ht : ts[j]? = some 22) (hd : ds[j]? = some d) (h : DataW.Trod enc Tryd.prog W base spare held 22 (.slice A n c) d p) : n ≤ 140737488355328 := by
  obtain ⟨fuel, hf⟩ := h
  rcases open_slice Tryd.underlying22 hf with ⟨hcs, _⟩ | ⟨a, len, cap, m, k, D, Pl, hcs, _, hlc, hcm, hm, hx, _⟩
  · simp [Value.cells] at hcs
    omega
  · simp [Value.cells] at hcs
    obtain ⟨rfl, rfl, rfl⟩ := hcs
    injection hx with hx1 hx2
    subst hx1
    have h2 := sized_slice hsz ht hd Tryd.underlying22
    rw [Tryd.bytes34] at h2
    simp at h2
    unfold reachBytes at h2
    omega
theorem plays_in (W : World) (hv : Vars W) (FA : Option Addr) (n0 fc : Nat) (hF : ∃ T : List Lst, T.length = n0 ∧ Lss W FA T ∧ n0 ≤ fc ∧ fc ≤ 9223372036854775807 ∧ (FA = none → fc = 0)) (hb0 : n0 ≤ 140737488355328) (A : Option Addr) (n c : Nat) (h : ∃ qs : List MRq, qs.length = n ∧ Rqs W A qs) (hb : n ≤ 1099511627776) (a : Int) (_ : (Lit.int .i64 a).wf = true) :
    Calls Tryd.prog 3 #[.slice FA n0 fc, .slice A n c, .int .i64 a] W fun E w' => E = .returned (.bool true) ∧ Below W.heap.size W w' := by
  obtain ⟨qs, rfl, hQ⟩ := h
  obtain ⟨T, rfl, hT, _, _, h0⟩ := hF
  exact plays_walk hv FA fc T hT h0 hb0 A c qs hQ hb a
end Go.Proofs.YtflenghnmflenaaDoor
