/-
  No cell of these rows narrows 'for every input' (looked for: loops, veiled, ifaces, maps, wideKeys, modest, calm, conditions, laid).
  DERIVED. THE GIVEN ROWS OF THIS SEAT. 4 by the template 'for every input the law returns true; each argument reads behind the call as it read before'; 0 by the template 'total and deterministic' (their statements: YtolpkoeojljfaaaTotals.lean).
  GIVEN WITH THE SEED: the statements are not yours to turn. If you find one false, say at which input.
  Laid BY PROGRAM, IN A SANDBOX (cutbox-rows.mjs): the forced cells as the released guide's own fill.sh prints them over the translation 8575e129b17ddf00… (all of the seat's roots in one cut). By AI agents, Wed Nov 11 2026. No macro, syntax, notation, axiom, sorry.
-/
import Derived.Test.YtolpkoeojljfaaaChecked
import GoSem.Claim
import GoSem.ClaimJoined
import GoSem.ClaimMapViews
import Derived.JoinedTies
import Derived.KernelRfl
namespace Go.Proofs.Ytolpkoeojljfaaa
/- THE CELL 'sum', in the pinned program and in every row, IS THE sha256 OF THE DUMP (.gsa) THAT YtolpkoeojljfaaaProg.lean LOADS. Nothing in Lean hashes anything: it is a label: what it is worth is what the hold of that sum in a sandbox is worth. -/
noncomputable def Try.pinned : Pinned := { name := "ytolpkoeojljfaaa", sum := "8575e129b17ddf00fe9b0e9d99efa1116a7cafcb0f9aed8255ac69028598205a", checked := Try.checked }
namespace Rows
def none {H : Type} : Left H := { results := [], args := [] }

/-- 'ratchetlaw14.PastPlays': WHATEVER THE INPUT: true; the input reads as it did. -/
def pastPlaysSpec : ChangeSpec := { name := "pastPlays", fn := fun _ => fun
  | [d1, d2] => { results := [.lit (.bool true)], args := [d1, d2] }
  | _ => none }
def pastPlaysRow : OpenClaim := { program := "ytolpkoeojljfaaa", sum := "8575e129b17ddf00fe9b0e9d99efa1116a7cafcb0f9aed8255ac69028598205a", func := "ratchet/ratchetlaw14.PastPlays", spec := "pastPlays", apart := false }
def PastPlaysSaid : Prop := pastPlaysRow.holds Try.pinned (OpenSpec.ofChange pastPlaysSpec)

/-- ITS FALSE NEIGHBOUR: 'it returns false'. Refute it at one input. -/
def pastPlaysWrong : ChangeSpec := { name := "pastPlays", fn := fun _ => fun
  | [d1, d2] => { results := [.lit (.bool false)], args := [d1, d2] }
  | _ => none }
def PastPlaysWrongFalsely : Prop := pastPlaysRow.holds Try.pinned (OpenSpec.ofChange pastPlaysWrong)

/-- 'ratchetlaw14.PastStays': WHATEVER THE INPUT: true; the input reads as it did. -/
def pastStaysSpec : ChangeSpec := { name := "pastStays", fn := fun _ => fun
  | [d] => { results := [.lit (.bool true)], args := [d] }
  | _ => none }
def pastStaysRow : OpenClaim := { program := "ytolpkoeojljfaaa", sum := "8575e129b17ddf00fe9b0e9d99efa1116a7cafcb0f9aed8255ac69028598205a", func := "ratchet/ratchetlaw14.PastStays", spec := "pastStays", apart := false }
def PastStaysSaid : Prop := pastStaysRow.holds Try.pinned (OpenSpec.ofChange pastStaysSpec)

/-- ITS FALSE NEIGHBOUR: 'it returns false'. Refute it at one input. -/
def pastStaysWrong : ChangeSpec := { name := "pastStays", fn := fun _ => fun
  | [d] => { results := [.lit (.bool false)], args := [d] }
  | _ => none }
def PastStaysWrongFalsely : Prop := pastStaysRow.holds Try.pinned (OpenSpec.ofChange pastStaysWrong)

/-- 'ratchetlaw14.PastNil': WHATEVER THE INPUT: true; the input reads as it did. -/
def pastNilSpec : ChangeSpec := { name := "pastNil", fn := fun _ => fun
  | [d] => { results := [.lit (.bool true)], args := [d] }
  | _ => none }
def pastNilRow : OpenClaim := { program := "ytolpkoeojljfaaa", sum := "8575e129b17ddf00fe9b0e9d99efa1116a7cafcb0f9aed8255ac69028598205a", func := "ratchet/ratchetlaw14.PastNil", spec := "pastNil", apart := false }
def PastNilSaid : Prop := pastNilRow.holds Try.pinned (OpenSpec.ofChange pastNilSpec)

/-- ITS FALSE NEIGHBOUR: 'it returns false'. Refute it at one input. -/
def pastNilWrong : ChangeSpec := { name := "pastNil", fn := fun _ => fun
  | [d] => { results := [.lit (.bool false)], args := [d] }
  | _ => none }
def PastNilWrongFalsely : Prop := pastNilRow.holds Try.pinned (OpenSpec.ofChange pastNilWrong)

/-- 'ratchetlaw14.PastOpen': WHATEVER THE INPUT: true; the input reads as it did. -/
def pastOpenSpec : ChangeSpec := { name := "pastOpen", fn := fun _ => fun
  | [d] => { results := [.lit (.bool true)], args := [d] }
  | _ => none }
def pastOpenRow : OpenClaim := { program := "ytolpkoeojljfaaa", sum := "8575e129b17ddf00fe9b0e9d99efa1116a7cafcb0f9aed8255ac69028598205a", func := "ratchet/ratchetlaw14.PastOpen", spec := "pastOpen", apart := false }
def PastOpenSaid : Prop := pastOpenRow.holds Try.pinned (OpenSpec.ofChange pastOpenSpec)

/-- ITS FALSE NEIGHBOUR: 'it returns false'. Refute it at one input. -/
def pastOpenWrong : ChangeSpec := { name := "pastOpen", fn := fun _ => fun
  | [d] => { results := [.lit (.bool false)], args := [d] }
  | _ => none }
def PastOpenWrongFalsely : Prop := pastOpenRow.holds Try.pinned (OpenSpec.ofChange pastOpenWrong)

/- THE SECOND FORM. 'bulk': how many values and letters a reading holds, each counted each time it is reached (what is shared counts as often as it is met; a slice's spare places count too). A statement '..UptoSaid' is the law's where the arguments, and the package variables that the reading takes, are together of bulk at most 1048576: NARROWER than '..Said'. Prove '..Said' where nothing that the law and all that it calls make is longer than what came in: it says more and counts as full. Else prove '..UptoSaid'. A law counts once. -/
mutual
def uptoBulk {H : Type} : DataW H → Nat
  | .lit (.string bytes) => bytes.length + 1
  | .lit _ => 1
  | .nil => 1
  | .ptr d => uptoBulk d + 1
  | .slice elems spare => uptoBulkAll elems + uptoBulkAll spare + 1
  | .agg parts => uptoBulkAll parts + 1
  | .iface _ d => uptoBulk d + 1
  | .map entries => uptoBulkEntries entries + 1
  | .held _ => 1
def uptoBulkAll {H : Type} : List (DataW H) → Nat
  | [] => 0
  | d :: r => uptoBulk d + uptoBulkAll r
def uptoBulkEntries {H : Type} : List (Lit × DataW H) → Nat
  | [] => 0
  | x :: r => uptoBulkEntry x + uptoBulkEntries r
def uptoBulkEntry {H : Type} : Lit × DataW H → Nat
  | (.string bytes, d) => bytes.length + uptoBulk d + 1
  | (_, d) => uptoBulk d + 1
 end
def uptoSmall : (H : Type) → List (DataW H) → Bool := fun _ ds => decide (uptoBulkAll ds ≤ 1048576)
def OpenSpec.upto (s : _root_.Go.ChangeSpec) : _root_.Go.OpenSpec := { _root_.Go.OpenSpec.ofChange s with cond := some uptoSmall }

/-- 'ratchetlaw14.PastPlays', WHERE WHAT IT READS IS OF BULK AT MOST 1048576: true; the input reads as it did. -/
def pastPlaysUptoRow : OpenClaim := { program := "ytolpkoeojljfaaa", sum := "8575e129b17ddf00fe9b0e9d99efa1116a7cafcb0f9aed8255ac69028598205a", func := "ratchet/ratchetlaw14.PastPlays", spec := "pastPlays", apart := false, narrowed := true }
def PastPlaysUptoSaid : Prop := pastPlaysUptoRow.holds Try.pinned (OpenSpec.upto pastPlaysSpec)

/-- 'ratchetlaw14.PastStays', WHERE WHAT IT READS IS OF BULK AT MOST 1048576: true; the input reads as it did. -/
def pastStaysUptoRow : OpenClaim := { program := "ytolpkoeojljfaaa", sum := "8575e129b17ddf00fe9b0e9d99efa1116a7cafcb0f9aed8255ac69028598205a", func := "ratchet/ratchetlaw14.PastStays", spec := "pastStays", apart := false, narrowed := true }
def PastStaysUptoSaid : Prop := pastStaysUptoRow.holds Try.pinned (OpenSpec.upto pastStaysSpec)

/-- 'ratchetlaw14.PastNil', WHERE WHAT IT READS IS OF BULK AT MOST 1048576: true; the input reads as it did. -/
def pastNilUptoRow : OpenClaim := { program := "ytolpkoeojljfaaa", sum := "8575e129b17ddf00fe9b0e9d99efa1116a7cafcb0f9aed8255ac69028598205a", func := "ratchet/ratchetlaw14.PastNil", spec := "pastNil", apart := false, narrowed := true }
def PastNilUptoSaid : Prop := pastNilUptoRow.holds Try.pinned (OpenSpec.upto pastNilSpec)

/-- 'ratchetlaw14.PastOpen', WHERE WHAT IT READS IS OF BULK AT MOST 1048576: true; the input reads as it did. -/
def pastOpenUptoRow : OpenClaim := { program := "ytolpkoeojljfaaa", sum := "8575e129b17ddf00fe9b0e9d99efa1116a7cafcb0f9aed8255ac69028598205a", func := "ratchet/ratchetlaw14.PastOpen", spec := "pastOpen", apart := false, narrowed := true }
def PastOpenUptoSaid : Prop := pastOpenUptoRow.holds Try.pinned (OpenSpec.upto pastOpenSpec)

end Rows
end Go.Proofs.Ytolpkoeojljfaaa
