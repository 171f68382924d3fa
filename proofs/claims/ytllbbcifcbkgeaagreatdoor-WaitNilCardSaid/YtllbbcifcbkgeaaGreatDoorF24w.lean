/- Laws and walks. -/
import Derived.Test.YtllbbcifcbkgeaaGreatDoorF13w
import Derived.Test.YtllbbcifcbkgeaaGreatDoorQaw
set_option maxHeartbeats 16000000
set_option maxRecDepth 100000
namespace Go.Proofs.YtllbbcifcbkgeaaGreatDoor.Sh
open Go.RowKit
structure MAct where
 who : Nat
 other : Nat
 meet : Bool
 kind : Nat
 view : Nat
 k : Nat
 client : Nat
 qa : Option Addr
 qc : Nat
 q : List UInt8
structure MAct.Ok (x : MAct) : Prop where
 who : x.who < 256
 other : x.other < 256
 kind : x.kind < 256
 view : x.view < 256
 k : x.k < 256
 client : x.client < 256
def MBody.at (o : MBody) (A : Option Addr) (c : Nat) : MBody := { o with qa := A, qc := c }
open Go.RowKit
open Go.RowKit
theorem one_prC (p : Int × Nat) : ∀ v ∈ prC p, v.oneCell' = true := by intro v hv; simp [prC] at hv; rcases hv with rfl | rfl <;> rfl
def Oc (W : World) (A : Option Addr) (l : List UInt8) : Prop := 0 < l.length -> ∃ g o, A = some ⟨g, o, none⟩ /\ g < W.heap.size /\ ∀ (j : Nat) (y : UInt8), l[j]? = some y -> W.cell? ⟨g, o + j, none⟩ = some (.int .u8 (y.toNat : Int))
theorem Oc.below {W W' : World} {A : Option Addr} {l : List UInt8} (h : Oc W A l) (hb : Below W.heap.size W W') : Oc W' A l := fun hn =>
 let ⟨g, o, e, hl, hc⟩ := h hn
 ⟨g, o, e, Nat.lt_of_lt_of_le hl hb.size, fun j y hy => (hb.cell (p := ⟨g, _, none⟩) hl).trans (hc j y hy)⟩
end Go.Proofs.YtllbbcifcbkgeaaGreatDoor.Sh
