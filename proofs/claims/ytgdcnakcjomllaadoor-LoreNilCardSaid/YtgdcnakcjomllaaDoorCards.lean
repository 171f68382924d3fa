/-
  DERIVED. GIVEN WITH THE SEED: THE CARDS: each row of YtgdcnakcjomllaaDoorRows.lean that lists a variable, with what it lists TIED to the program's text (the seventh form; the later family's looks); each row that meets fmt, with fmt's text TOLD by the authors' own Lean function (tested against real Go, not proved from fmt's source: count such statements apart). THE CARD IS WHAT COUNTS. Prove the row's statement (the work); the ties are given (YtgdcnakcjomllaaDoorTie.lean); close each card by the builder's one call (the guide's Derived/Test/ToyasCard.lean, 'card_holds'). Laid BY PROGRAM, IN A SANDBOX (cutbox-door.mjs). By AI agents, Wed Nov 11 2026. No macro, syntax, notation, axiom, sorry.
-/
import Derived.Test.YtgdcnakcjomllaaDoorRows
import GoSem.ClaimSeven
namespace Go.Proofs.YtgdcnakcjomllaaDoor
namespace Rows

/-- THE TIED CARD OF 'ratchetlaw12.LoreNil'. -/
def loreNilCard : Claim7 := { stood := { row := loreNilRow, standIns := [], harness := (true, "7110e4f41aea6b8fe2cc89552264cf26fda88c1a975bf95ac62e4a0505f531d3"), looks := false }, kinds := [], alts := [], laidByText := true, laidKinds := [.data], laidTests := true, laidLooks := .later }
def LoreNilCardSaid : Prop := Claim7.holds Tryd.pinned (.plain (OpenSpec.ofChange loreNilSpec)) loreNilCard

/-- THE SECOND FORM's CARD OF 'ratchetlaw12.LoreNil'. -/
def loreNilUptoCard : Claim7 := { stood := { row := loreNilUptoRow, standIns := [], harness := (true, "7110e4f41aea6b8fe2cc89552264cf26fda88c1a975bf95ac62e4a0505f531d3"), looks := false }, kinds := [], alts := [], laidByText := true, laidKinds := [.data], laidTests := true, laidLooks := .later }
def LoreNilUptoCardSaid : Prop := Claim7.holds Tryd.pinned (.plain (OpenSpec.upto loreNilSpec)) loreNilUptoCard
end Rows
end Go.Proofs.YtgdcnakcjomllaaDoor
