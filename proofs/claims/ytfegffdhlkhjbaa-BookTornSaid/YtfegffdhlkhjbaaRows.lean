/-
  No cell of these rows narrows 'for every input' (looked for: loops, veiled, ifaces, maps, wideKeys, modest, calm, conditions, laid).
  DERIVED. THE GIVEN ROWS OF THIS SEAT. 5 by the template 'for every input the law returns true; each argument reads behind the call as it read before'; 0 by the template 'total and deterministic' (their statements: YtfegffdhlkhjbaaTotals.lean).
  GIVEN WITH THE SEED: the statements are not yours to turn. If you find one false, say at which input.
  Laid BY PROGRAM, IN A SANDBOX (cutbox-rows.mjs): the forced cells as the released guide's own fill.sh prints them over the translation 355d9efb0ad86b5a… (all of the seat's roots in one cut). By AI agents, Wed Nov 11 2026. No macro, syntax, notation, axiom, sorry.
-/
import Derived.Test.YtfegffdhlkhjbaaChecked
import GoSem.Claim
import GoSem.ClaimJoined
import GoSem.ClaimMapViews
import Derived.JoinedTies
import Derived.KernelRfl
namespace Go.Proofs.Ytfegffdhlkhjbaa
/- THE CELL 'sum', in the pinned program and in every row, IS THE sha256 OF THE DUMP (.gsa) THAT YtfegffdhlkhjbaaProg.lean LOADS. Nothing in Lean hashes anything: it is a label: what it is worth is what the hold of that sum in a sandbox is worth. -/
noncomputable def Try.pinned : Pinned := { name := "ytfegffdhlkhjbaa", sum := "355d9efb0ad86b5a0ab29b1a53801a6001112b7a329802563c60ff10f451c471", checked := Try.checked }
namespace Rows
def none {H : Type} : Left H := { results := [], args := [] }

/-- 'ratchetlaw06.BookPower': WHATEVER THE INPUT: true; the input reads as it did. -/
def bookPowerSpec : ChangeSpec := { name := "bookPower", fn := fun _ => fun
  | [d] => { results := [.lit (.bool true)], args := [d] }
  | _ => none }
def bookPowerRow : OpenClaim := { program := "ytfegffdhlkhjbaa", sum := "355d9efb0ad86b5a0ab29b1a53801a6001112b7a329802563c60ff10f451c471", func := "ratchet/ratchetlaw06.BookPower", spec := "bookPower", unfollowed := true, recurses := true, apart := false }
def BookPowerSaid : Prop := bookPowerRow.holds Try.pinned (OpenSpec.ofChange bookPowerSpec)

/-- ITS FALSE NEIGHBOUR: 'it returns false'. Refute it at one input. -/
def bookPowerWrong : ChangeSpec := { name := "bookPower", fn := fun _ => fun
  | [d] => { results := [.lit (.bool false)], args := [d] }
  | _ => none }
def BookPowerWrongFalsely : Prop := bookPowerRow.holds Try.pinned (OpenSpec.ofChange bookPowerWrong)

/-- 'ratchetlaw06.BookNil': WHATEVER THE INPUT: true; the input reads as it did. -/
def bookNilSpec : ChangeSpec := { name := "bookNil", fn := fun _ => fun
  | [d1, d2, d3] => { results := [.lit (.bool true)], args := [d1, d2, d3] }
  | _ => none }
def bookNilRow : OpenClaim := { program := "ytfegffdhlkhjbaa", sum := "355d9efb0ad86b5a0ab29b1a53801a6001112b7a329802563c60ff10f451c471", func := "ratchet/ratchetlaw06.BookNil", spec := "bookNil", unfollowed := true, recurses := true, apart := false }
def BookNilSaid : Prop := bookNilRow.holds Try.pinned (OpenSpec.ofChange bookNilSpec)

/-- ITS FALSE NEIGHBOUR: 'it returns false'. Refute it at one input. -/
def bookNilWrong : ChangeSpec := { name := "bookNil", fn := fun _ => fun
  | [d1, d2, d3] => { results := [.lit (.bool false)], args := [d1, d2, d3] }
  | _ => none }
def BookNilWrongFalsely : Prop := bookNilRow.holds Try.pinned (OpenSpec.ofChange bookNilWrong)

/-- 'ratchetlaw06.BookRoom': WHATEVER THE INPUT: true; the input reads as it did. -/
def bookRoomSpec : ChangeSpec := { name := "bookRoom", fn := fun _ => fun
  | [d1, d2] => { results := [.lit (.bool true)], args := [d1, d2] }
  | _ => none }
def bookRoomRow : OpenClaim := { program := "ytfegffdhlkhjbaa", sum := "355d9efb0ad86b5a0ab29b1a53801a6001112b7a329802563c60ff10f451c471", func := "ratchet/ratchetlaw06.BookRoom", spec := "bookRoom", unfollowed := true, recurses := true, apart := false }
def BookRoomSaid : Prop := bookRoomRow.holds Try.pinned (OpenSpec.ofChange bookRoomSpec)

/-- ITS FALSE NEIGHBOUR: 'it returns false'. Refute it at one input. -/
def bookRoomWrong : ChangeSpec := { name := "bookRoom", fn := fun _ => fun
  | [d1, d2] => { results := [.lit (.bool false)], args := [d1, d2] }
  | _ => none }
def BookRoomWrongFalsely : Prop := bookRoomRow.holds Try.pinned (OpenSpec.ofChange bookRoomWrong)

/-- 'ratchetlaw06.BookTorn': WHATEVER THE INPUT: true; the input reads as it did. -/
def bookTornSpec : ChangeSpec := { name := "bookTorn", fn := fun _ => fun
  | [d1, d2, d3, d4, d5] => { results := [.lit (.bool true)], args := [d1, d2, d3, d4, d5] }
  | _ => none }
def bookTornRow : OpenClaim := { program := "ytfegffdhlkhjbaa", sum := "355d9efb0ad86b5a0ab29b1a53801a6001112b7a329802563c60ff10f451c471", func := "ratchet/ratchetlaw06.BookTorn", spec := "bookTorn", unfollowed := true, recurses := true, apart := false }
def BookTornSaid : Prop := bookTornRow.holds Try.pinned (OpenSpec.ofChange bookTornSpec)

/-- ITS FALSE NEIGHBOUR: 'it returns false'. Refute it at one input. -/
def bookTornWrong : ChangeSpec := { name := "bookTorn", fn := fun _ => fun
  | [d1, d2, d3, d4, d5] => { results := [.lit (.bool false)], args := [d1, d2, d3, d4, d5] }
  | _ => none }
def BookTornWrongFalsely : Prop := bookTornRow.holds Try.pinned (OpenSpec.ofChange bookTornWrong)

/-- 'ratchetlaw06.BookLives': WHATEVER THE INPUT: true; the input reads as it did. -/
def bookLivesSpec : ChangeSpec := { name := "bookLives", fn := fun _ => fun
  | [d] => { results := [.lit (.bool true)], args := [d] }
  | _ => none }
def bookLivesRow : OpenClaim := { program := "ytfegffdhlkhjbaa", sum := "355d9efb0ad86b5a0ab29b1a53801a6001112b7a329802563c60ff10f451c471", func := "ratchet/ratchetlaw06.BookLives", spec := "bookLives", unfollowed := true, recurses := true, apart := false }
def BookLivesSaid : Prop := bookLivesRow.holds Try.pinned (OpenSpec.ofChange bookLivesSpec)

/-- ITS FALSE NEIGHBOUR: 'it returns false'. Refute it at one input. -/
def bookLivesWrong : ChangeSpec := { name := "bookLives", fn := fun _ => fun
  | [d] => { results := [.lit (.bool false)], args := [d] }
  | _ => none }
def BookLivesWrongFalsely : Prop := bookLivesRow.holds Try.pinned (OpenSpec.ofChange bookLivesWrong)

/- THE SECOND FORM. 'bulk': how many values and letters a reading holds, each counted each time it is reached (what is shared counts as often as it is met; a slice's spare places count too). A statement '..UptoSaid' is the law's where the arguments, and the package variables that the reading takes, are together of bulk at most 1048576: NARROWER than '..Said'. Prove '..Said' where nothing that the law and all that it calls make is longer than what came in: it says more and counts as full. Else prove '..UptoSaid'. A law counts once. -/
mutual
def uptoBulk {H : Type} : DataW H → Nat
  | .lit (.string bytes) => bytes.length + 1
  | .lit _ => 1
  | .nil => 1
  | .ptr d => uptoBulk d + 1
  | .slice elems spare => uptoBulkAll elems + uptoBulkAll spare + 1
  | .agg parts => uptoBulkAll parts + 1
  | .iface _ d => uptoBulk d + 1
  | .map entries => uptoBulkEntries entries + 1
  | .held _ => 1
def uptoBulkAll {H : Type} : List (DataW H) → Nat
  | [] => 0
  | d :: r => uptoBulk d + uptoBulkAll r
def uptoBulkEntries {H : Type} : List (Lit × DataW H) → Nat
  | [] => 0
  | x :: r => uptoBulkEntry x + uptoBulkEntries r
def uptoBulkEntry {H : Type} : Lit × DataW H → Nat
  | (.string bytes, d) => bytes.length + uptoBulk d + 1
  | (_, d) => uptoBulk d + 1
 end
def uptoSmall : (H : Type) → List (DataW H) → Bool := fun _ ds => decide (uptoBulkAll ds ≤ 1048576)
def OpenSpec.upto (s : _root_.Go.ChangeSpec) : _root_.Go.OpenSpec := { _root_.Go.OpenSpec.ofChange s with cond := some uptoSmall }

/-- 'ratchetlaw06.BookPower', WHERE WHAT IT READS IS OF BULK AT MOST 1048576: true; the input reads as it did. -/
def bookPowerUptoRow : OpenClaim := { program := "ytfegffdhlkhjbaa", sum := "355d9efb0ad86b5a0ab29b1a53801a6001112b7a329802563c60ff10f451c471", func := "ratchet/ratchetlaw06.BookPower", spec := "bookPower", unfollowed := true, recurses := true, apart := false, narrowed := true }
def BookPowerUptoSaid : Prop := bookPowerUptoRow.holds Try.pinned (OpenSpec.upto bookPowerSpec)

/-- 'ratchetlaw06.BookNil', WHERE WHAT IT READS IS OF BULK AT MOST 1048576: true; the input reads as it did. -/
def bookNilUptoRow : OpenClaim := { program := "ytfegffdhlkhjbaa", sum := "355d9efb0ad86b5a0ab29b1a53801a6001112b7a329802563c60ff10f451c471", func := "ratchet/ratchetlaw06.BookNil", spec := "bookNil", unfollowed := true, recurses := true, apart := false, narrowed := true }
def BookNilUptoSaid : Prop := bookNilUptoRow.holds Try.pinned (OpenSpec.upto bookNilSpec)

/-- 'ratchetlaw06.BookRoom', WHERE WHAT IT READS IS OF BULK AT MOST 1048576: true; the input reads as it did. -/
def bookRoomUptoRow : OpenClaim := { program := "ytfegffdhlkhjbaa", sum := "355d9efb0ad86b5a0ab29b1a53801a6001112b7a329802563c60ff10f451c471", func := "ratchet/ratchetlaw06.BookRoom", spec := "bookRoom", unfollowed := true, recurses := true, apart := false, narrowed := true }
def BookRoomUptoSaid : Prop := bookRoomUptoRow.holds Try.pinned (OpenSpec.upto bookRoomSpec)

/-- 'ratchetlaw06.BookTorn', WHERE WHAT IT READS IS OF BULK AT MOST 1048576: true; the input reads as it did. -/
def bookTornUptoRow : OpenClaim := { program := "ytfegffdhlkhjbaa", sum := "355d9efb0ad86b5a0ab29b1a53801a6001112b7a329802563c60ff10f451c471", func := "ratchet/ratchetlaw06.BookTorn", spec := "bookTorn", unfollowed := true, recurses := true, apart := false, narrowed := true }
def BookTornUptoSaid : Prop := bookTornUptoRow.holds Try.pinned (OpenSpec.upto bookTornSpec)

/-- 'ratchetlaw06.BookLives', WHERE WHAT IT READS IS OF BULK AT MOST 1048576: true; the input reads as it did. -/
def bookLivesUptoRow : OpenClaim := { program := "ytfegffdhlkhjbaa", sum := "355d9efb0ad86b5a0ab29b1a53801a6001112b7a329802563c60ff10f451c471", func := "ratchet/ratchetlaw06.BookLives", spec := "bookLives", unfollowed := true, recurses := true, apart := false, narrowed := true }
def BookLivesUptoSaid : Prop := bookLivesUptoRow.holds Try.pinned (OpenSpec.upto bookLivesSpec)

end Rows
end Go.Proofs.Ytfegffdhlkhjbaa
