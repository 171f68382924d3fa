/-
  DERIVED. GIVEN WITH THE SEED: THE CARDS: each row of YtpageppjngbnpaaGreatDoorRows.lean that lists a variable, with what it lists TIED to the program's text (the seventh form; the later family's looks); each row that meets fmt, with fmt's text TOLD by the authors' own Lean function (tested against real Go, not proved from fmt's source: count such statements apart). THE CARD IS WHAT COUNTS. Prove the row's statement (the work); the ties are given (YtpageppjngbnpaaGreatDoorTie.lean); close each card by the builder's one call (the guide's Derived/Test/ToyasCard.lean, 'card_holds'). Laid BY PROGRAM, IN A SANDBOX (cutbox-door.mjs). By AI agents, Wed Nov 11 2026. No macro, syntax, notation, axiom, sorry.
-/
import Derived.Test.YtpageppjngbnpaaGreatDoorRows
import GoSem.ClaimSeven
namespace Go.Proofs.YtpageppjngbnpaaGreatDoor
namespace Rows

/-- THE TIED CARD OF 'ratchetlaw11.StatePlays'. -/
def statePlaysCard : Claim7 := { stood := { row := statePlaysRow, standIns := [], harness := (true, "21eee36bba44583f81ab01965c2f540083db06d783d48fb873a48f0ff5ba9b30"), looks := true }, kinds := [], alts := [], laidByText := true, laidKinds := [.data, .data, .data, .data, .sentinel, .sentinel], laidTests := true, laidLooks := .later }
def StatePlaysCardSaid : Prop := Claim7.holds Tryz.pinned (.plain (OpenSpec.ofChange statePlaysSpec)) statePlaysCard

/-- THE TIED CARD OF 'ratchetlaw11.StateGoesOn'. -/
def stateGoesOnCard : Claim7 := { stood := { row := stateGoesOnRow, standIns := [], harness := (true, "21eee36bba44583f81ab01965c2f540083db06d783d48fb873a48f0ff5ba9b30"), looks := true }, kinds := [], alts := [], laidByText := true, laidKinds := [.data, .data, .data, .data, .sentinel, .sentinel], laidTests := true, laidLooks := .later }
def StateGoesOnCardSaid : Prop := Claim7.holds Tryz.pinned (.plain (OpenSpec.ofChange stateGoesOnSpec)) stateGoesOnCard

/-- THE TIED CARD OF 'ratchetlaw11.StateNil'. -/
def stateNilCard : Claim7 := { stood := { row := stateNilRow, standIns := [], harness := (true, "21eee36bba44583f81ab01965c2f540083db06d783d48fb873a48f0ff5ba9b30"), looks := true }, kinds := [], alts := [], laidByText := true, laidKinds := [.data, .data, .data, .data, .sentinel, .sentinel], laidTests := true, laidLooks := .later }
def StateNilCardSaid : Prop := Claim7.holds Tryz.pinned (.plain (OpenSpec.ofChange stateNilSpec)) stateNilCard

/-- THE TIED CARD OF 'ratchetlaw11.StateWhole'. -/
def stateWholeCard : Claim7 := { stood := { row := stateWholeRow, standIns := [], harness := (true, "21eee36bba44583f81ab01965c2f540083db06d783d48fb873a48f0ff5ba9b30"), looks := true }, kinds := [], alts := [], laidByText := true, laidKinds := [.data, .data, .data, .data, .sentinel, .sentinel], laidTests := true, laidLooks := .later }
def StateWholeCardSaid : Prop := Claim7.holds Tryz.pinned (.plain (OpenSpec.ofChange stateWholeSpec)) stateWholeCard

/-- THE SECOND FORM's CARD OF 'ratchetlaw11.StatePlays'. -/
def statePlaysUptoCard : Claim7 := { stood := { row := statePlaysUptoRow, standIns := [], harness := (true, "21eee36bba44583f81ab01965c2f540083db06d783d48fb873a48f0ff5ba9b30"), looks := true }, kinds := [], alts := [], laidByText := true, laidKinds := [.data, .data, .data, .data, .sentinel, .sentinel], laidTests := true, laidLooks := .later }
def StatePlaysUptoCardSaid : Prop := Claim7.holds Tryz.pinned (.plain (OpenSpec.upto statePlaysSpec)) statePlaysUptoCard

/-- THE SECOND FORM's CARD OF 'ratchetlaw11.StateGoesOn'. -/
def stateGoesOnUptoCard : Claim7 := { stood := { row := stateGoesOnUptoRow, standIns := [], harness := (true, "21eee36bba44583f81ab01965c2f540083db06d783d48fb873a48f0ff5ba9b30"), looks := true }, kinds := [], alts := [], laidByText := true, laidKinds := [.data, .data, .data, .data, .sentinel, .sentinel], laidTests := true, laidLooks := .later }
def StateGoesOnUptoCardSaid : Prop := Claim7.holds Tryz.pinned (.plain (OpenSpec.upto stateGoesOnSpec)) stateGoesOnUptoCard

/-- THE SECOND FORM's CARD OF 'ratchetlaw11.StateNil'. -/
def stateNilUptoCard : Claim7 := { stood := { row := stateNilUptoRow, standIns := [], harness := (true, "21eee36bba44583f81ab01965c2f540083db06d783d48fb873a48f0ff5ba9b30"), looks := true }, kinds := [], alts := [], laidByText := true, laidKinds := [.data, .data, .data, .data, .sentinel, .sentinel], laidTests := true, laidLooks := .later }
def StateNilUptoCardSaid : Prop := Claim7.holds Tryz.pinned (.plain (OpenSpec.upto stateNilSpec)) stateNilUptoCard

/-- THE SECOND FORM's CARD OF 'ratchetlaw11.StateWhole'. -/
def stateWholeUptoCard : Claim7 := { stood := { row := stateWholeUptoRow, standIns := [], harness := (true, "21eee36bba44583f81ab01965c2f540083db06d783d48fb873a48f0ff5ba9b30"), looks := true }, kinds := [], alts := [], laidByText := true, laidKinds := [.data, .data, .data, .data, .sentinel, .sentinel], laidTests := true, laidLooks := .later }
def StateWholeUptoCardSaid : Prop := Claim7.holds Tryz.pinned (.plain (OpenSpec.upto stateWholeSpec)) stateWholeUptoCard
end Rows
end Go.Proofs.YtpageppjngbnpaaGreatDoor
