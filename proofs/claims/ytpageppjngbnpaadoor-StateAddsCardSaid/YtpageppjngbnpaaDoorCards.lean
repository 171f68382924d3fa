/-
  DERIVED. GIVEN WITH THE SEED: THE CARDS: each row of YtpageppjngbnpaaDoorRows.lean that lists a variable, with what it lists TIED to the program's text (the seventh form; the later family's looks); each row that meets fmt, with fmt's text TOLD by the authors' own Lean function (tested against real Go, not proved from fmt's source: count such statements apart). THE CARD IS WHAT COUNTS. Prove the row's statement (the work); the ties are given (YtpageppjngbnpaaDoorTie.lean); close each card by the builder's one call (the guide's Derived/Test/ToyasCard.lean, 'card_holds'). Laid BY PROGRAM, IN A SANDBOX (cutbox-door.mjs). By AI agents, Wed Nov 11 2026. No macro, syntax, notation, axiom, sorry.
-/
import Derived.Test.YtpageppjngbnpaaDoorRows
import GoSem.ClaimSeven
namespace Go.Proofs.YtpageppjngbnpaaDoor
namespace Rows

/-- THE TIED CARD OF 'ratchetlaw11.StateAdds'. -/
def stateAddsCard : Claim7 := { stood := { row := stateAddsRow, standIns := [], harness := (true, "59b8f881628dafb029d6517aa6104a346ee152f019076de7776b228bfe5ebb02"), looks := true }, kinds := [], alts := [], laidByText := true, laidKinds := [.data, .data, .data, .sentinel, .sentinel], laidTests := true, laidLooks := .later }
def StateAddsCardSaid : Prop := Claim7.holds Tryd.pinned (.plain (OpenSpec.ofChange stateAddsSpec)) stateAddsCard

/-- THE SECOND FORM's CARD OF 'ratchetlaw11.StateAdds'. -/
def stateAddsUptoCard : Claim7 := { stood := { row := stateAddsUptoRow, standIns := [], harness := (true, "59b8f881628dafb029d6517aa6104a346ee152f019076de7776b228bfe5ebb02"), looks := true }, kinds := [], alts := [], laidByText := true, laidKinds := [.data, .data, .data, .sentinel, .sentinel], laidTests := true, laidLooks := .later }
def StateAddsUptoCardSaid : Prop := Claim7.holds Tryd.pinned (.plain (OpenSpec.upto stateAddsSpec)) stateAddsUptoCard
end Rows
end Go.Proofs.YtpageppjngbnpaaDoor
