/-
  DERIVED. GIVEN WITH THE SEED: THE CARDS: each row of YtllbbcifcbkgeaaGreatDoorRows.lean that lists a variable, with what it lists TIED to the program's text (the seventh form; the later family's looks); each row that meets fmt, with fmt's text TOLD by the authors' own Lean function (tested against real Go, not proved from fmt's source: count such statements apart). THE CARD IS WHAT COUNTS. Prove the row's statement (the work); the ties are given (YtllbbcifcbkgeaaGreatDoorTie.lean); close each card by the builder's one call (the guide's Derived/Test/ToyasCard.lean, 'card_holds'). Laid BY PROGRAM, IN A SANDBOX (cutbox-door.mjs). By AI agents, Wed Nov 11 2026. No macro, syntax, notation, axiom, sorry.
-/
import Derived.Test.YtllbbcifcbkgeaaGreatDoorRows
import GoSem.ClaimSeven
namespace Go.Proofs.YtllbbcifcbkgeaaGreatDoor
namespace Rows

/-- THE TIED CARD OF 'ratchetlaw12.LorePlays'. -/
def lorePlaysCard : Claim7 := { stood := { row := lorePlaysRow, standIns := [], harness := (true, "598c054ef91fc0b3c8d11cfabb1707046ab0f91b75f2def1c2f862e60e25d450"), looks := false }, kinds := [], alts := [], laidByText := true, laidKinds := [.data], laidTests := true, laidLooks := .later }
def LorePlaysCardSaid : Prop := Claim7.holds Tryz.pinned (.plain (OpenSpec.ofChange lorePlaysSpec)) lorePlaysCard

/-- THE TIED CARD OF 'ratchetlaw12.LoreTells'. -/
def loreTellsCard : Claim7 := { stood := { row := loreTellsRow, standIns := [], harness := (true, "598c054ef91fc0b3c8d11cfabb1707046ab0f91b75f2def1c2f862e60e25d450"), looks := false }, kinds := [], alts := [], laidByText := true, laidKinds := [.data], laidTests := true, laidLooks := .later }
def LoreTellsCardSaid : Prop := Claim7.holds Tryz.pinned (.plain (OpenSpec.ofChange loreTellsSpec)) loreTellsCard

/-- THE TIED CARD OF 'ratchetlaw12.LoreForks'. -/
def loreForksCard : Claim7 := { stood := { row := loreForksRow, standIns := [], harness := (true, "598c054ef91fc0b3c8d11cfabb1707046ab0f91b75f2def1c2f862e60e25d450"), looks := false }, kinds := [], alts := [], laidByText := true, laidKinds := [.data], laidTests := true, laidLooks := .later }
def LoreForksCardSaid : Prop := Claim7.holds Tryz.pinned (.plain (OpenSpec.ofChange loreForksSpec)) loreForksCard

/-- THE TIED CARD OF 'ratchetlaw12.LoreTurned'. -/
def loreTurnedCard : Claim7 := { stood := { row := loreTurnedRow, standIns := [], harness := (true, "598c054ef91fc0b3c8d11cfabb1707046ab0f91b75f2def1c2f862e60e25d450"), looks := false }, kinds := [], alts := [], laidByText := true, laidKinds := [.data], laidTests := true, laidLooks := .later }
def LoreTurnedCardSaid : Prop := Claim7.holds Tryz.pinned (.plain (OpenSpec.ofChange loreTurnedSpec)) loreTurnedCard

/-- THE TIED CARD OF 'ratchetlaw13.WaitPlays'. -/
def waitPlaysCard : Claim7 := { stood := { row := waitPlaysRow, standIns := [], harness := (true, "598c054ef91fc0b3c8d11cfabb1707046ab0f91b75f2def1c2f862e60e25d450"), looks := false }, kinds := [], alts := [], laidByText := true, laidKinds := [.data], laidTests := true, laidLooks := .later }
def WaitPlaysCardSaid : Prop := Claim7.holds Tryz.pinned (.plain (OpenSpec.ofChange waitPlaysSpec)) waitPlaysCard

/-- THE TIED CARD OF 'ratchetlaw13.WaitAll'. -/
def waitAllCard : Claim7 := { stood := { row := waitAllRow, standIns := [], harness := (true, "598c054ef91fc0b3c8d11cfabb1707046ab0f91b75f2def1c2f862e60e25d450"), looks := false }, kinds := [], alts := [], laidByText := true, laidKinds := [.data], laidTests := true, laidLooks := .later }
def WaitAllCardSaid : Prop := Claim7.holds Tryz.pinned (.plain (OpenSpec.ofChange waitAllSpec)) waitAllCard

/-- THE TIED CARD OF 'ratchetlaw13.WaitNil'. -/
def waitNilCard : Claim7 := { stood := { row := waitNilRow, standIns := [], harness := (true, "598c054ef91fc0b3c8d11cfabb1707046ab0f91b75f2def1c2f862e60e25d450"), looks := false }, kinds := [], alts := [], laidByText := true, laidKinds := [.data], laidTests := true, laidLooks := .later }
def WaitNilCardSaid : Prop := Claim7.holds Tryz.pinned (.plain (OpenSpec.ofChange waitNilSpec)) waitNilCard

/-- THE TIED CARD OF 'ratchetlaw13.WaitFlood'. -/
def waitFloodCard : Claim7 := { stood := { row := waitFloodRow, standIns := [], harness := (true, "598c054ef91fc0b3c8d11cfabb1707046ab0f91b75f2def1c2f862e60e25d450"), looks := false }, kinds := [], alts := [], laidByText := true, laidKinds := [.data], laidTests := true, laidLooks := .later }
def WaitFloodCardSaid : Prop := Claim7.holds Tryz.pinned (.plain (OpenSpec.ofChange waitFloodSpec)) waitFloodCard

/-- THE SECOND FORM's CARD OF 'ratchetlaw12.LorePlays'. -/
def lorePlaysUptoCard : Claim7 := { stood := { row := lorePlaysUptoRow, standIns := [], harness := (true, "598c054ef91fc0b3c8d11cfabb1707046ab0f91b75f2def1c2f862e60e25d450"), looks := false }, kinds := [], alts := [], laidByText := true, laidKinds := [.data], laidTests := true, laidLooks := .later }
def LorePlaysUptoCardSaid : Prop := Claim7.holds Tryz.pinned (.plain (OpenSpec.upto lorePlaysSpec)) lorePlaysUptoCard

/-- THE SECOND FORM's CARD OF 'ratchetlaw12.LoreTells'. -/
def loreTellsUptoCard : Claim7 := { stood := { row := loreTellsUptoRow, standIns := [], harness := (true, "598c054ef91fc0b3c8d11cfabb1707046ab0f91b75f2def1c2f862e60e25d450"), looks := false }, kinds := [], alts := [], laidByText := true, laidKinds := [.data], laidTests := true, laidLooks := .later }
def LoreTellsUptoCardSaid : Prop := Claim7.holds Tryz.pinned (.plain (OpenSpec.upto loreTellsSpec)) loreTellsUptoCard

/-- THE SECOND FORM's CARD OF 'ratchetlaw12.LoreForks'. -/
def loreForksUptoCard : Claim7 := { stood := { row := loreForksUptoRow, standIns := [], harness := (true, "598c054ef91fc0b3c8d11cfabb1707046ab0f91b75f2def1c2f862e60e25d450"), looks := false }, kinds := [], alts := [], laidByText := true, laidKinds := [.data], laidTests := true, laidLooks := .later }
def LoreForksUptoCardSaid : Prop := Claim7.holds Tryz.pinned (.plain (OpenSpec.upto loreForksSpec)) loreForksUptoCard

/-- THE SECOND FORM's CARD OF 'ratchetlaw12.LoreTurned'. -/
def loreTurnedUptoCard : Claim7 := { stood := { row := loreTurnedUptoRow, standIns := [], harness := (true, "598c054ef91fc0b3c8d11cfabb1707046ab0f91b75f2def1c2f862e60e25d450"), looks := false }, kinds := [], alts := [], laidByText := true, laidKinds := [.data], laidTests := true, laidLooks := .later }
def LoreTurnedUptoCardSaid : Prop := Claim7.holds Tryz.pinned (.plain (OpenSpec.upto loreTurnedSpec)) loreTurnedUptoCard

/-- THE SECOND FORM's CARD OF 'ratchetlaw13.WaitPlays'. -/
def waitPlaysUptoCard : Claim7 := { stood := { row := waitPlaysUptoRow, standIns := [], harness := (true, "598c054ef91fc0b3c8d11cfabb1707046ab0f91b75f2def1c2f862e60e25d450"), looks := false }, kinds := [], alts := [], laidByText := true, laidKinds := [.data], laidTests := true, laidLooks := .later }
def WaitPlaysUptoCardSaid : Prop := Claim7.holds Tryz.pinned (.plain (OpenSpec.upto waitPlaysSpec)) waitPlaysUptoCard

/-- THE SECOND FORM's CARD OF 'ratchetlaw13.WaitAll'. -/
def waitAllUptoCard : Claim7 := { stood := { row := waitAllUptoRow, standIns := [], harness := (true, "598c054ef91fc0b3c8d11cfabb1707046ab0f91b75f2def1c2f862e60e25d450"), looks := false }, kinds := [], alts := [], laidByText := true, laidKinds := [.data], laidTests := true, laidLooks := .later }
def WaitAllUptoCardSaid : Prop := Claim7.holds Tryz.pinned (.plain (OpenSpec.upto waitAllSpec)) waitAllUptoCard

/-- THE SECOND FORM's CARD OF 'ratchetlaw13.WaitNil'. -/
def waitNilUptoCard : Claim7 := { stood := { row := waitNilUptoRow, standIns := [], harness := (true, "598c054ef91fc0b3c8d11cfabb1707046ab0f91b75f2def1c2f862e60e25d450"), looks := false }, kinds := [], alts := [], laidByText := true, laidKinds := [.data], laidTests := true, laidLooks := .later }
def WaitNilUptoCardSaid : Prop := Claim7.holds Tryz.pinned (.plain (OpenSpec.upto waitNilSpec)) waitNilUptoCard

/-- THE SECOND FORM's CARD OF 'ratchetlaw13.WaitFlood'. -/
def waitFloodUptoCard : Claim7 := { stood := { row := waitFloodUptoRow, standIns := [], harness := (true, "598c054ef91fc0b3c8d11cfabb1707046ab0f91b75f2def1c2f862e60e25d450"), looks := false }, kinds := [], alts := [], laidByText := true, laidKinds := [.data], laidTests := true, laidLooks := .later }
def WaitFloodUptoCardSaid : Prop := Claim7.holds Tryz.pinned (.plain (OpenSpec.upto waitFloodSpec)) waitFloodUptoCard
end Rows
end Go.Proofs.YtllbbcifcbkgeaaGreatDoor
