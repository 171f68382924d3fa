/-
  DERIVED. GIVEN WITH THE SEED: THE CARDS: each row of YtghjogneogkpoaaGreatDoorRows.lean that lists a variable, with what it lists TIED to the program's text (the seventh form; the later family's looks); each row that meets fmt, with fmt's text TOLD by the authors' own Lean function (tested against real Go, not proved from fmt's source: count such statements apart). THE CARD IS WHAT COUNTS. Prove the row's statement (the work); the ties are given (YtghjogneogkpoaaGreatDoorTie.lean); close each card by the builder's one call (the guide's Derived/Test/ToyasCard.lean, 'card_holds'). Laid BY PROGRAM, IN A SANDBOX (cutbox-door.mjs). By AI agents, Wed Nov 11 2026. No macro, syntax, notation, axiom, sorry.
-/
import Derived.Test.YtghjogneogkpoaaGreatDoorRows
import GoSem.ClaimSeven
namespace Go.Proofs.YtghjogneogkpoaaGreatDoor
namespace Rows

/-- THE TIED CARD OF 'ratchetlaw08.MessagePlays'. -/
def messagePlaysCard : Claim7 := { stood := { row := messagePlaysRow, standIns := [], harness := (true, "5bc20577be381f2377fbd8898c35239999b8ab544546f53816bcf59c0b84abf6"), looks := false }, kinds := [], alts := [], laidByText := true, laidKinds := [.data], laidTests := true, laidLooks := .later }
def MessagePlaysCardSaid : Prop := Claim7.holds Tryz.pinned (.plain (OpenSpec.ofChange messagePlaysSpec)) messagePlaysCard

/-- THE TIED CARD OF 'ratchetlaw08.MessageGets'. -/
def messageGetsCard : Claim7 := { stood := { row := messageGetsRow, standIns := [], harness := (true, "5bc20577be381f2377fbd8898c35239999b8ab544546f53816bcf59c0b84abf6"), looks := false }, kinds := [], alts := [], laidByText := true, laidKinds := [.data], laidTests := true, laidLooks := .later }
def MessageGetsCardSaid : Prop := Claim7.holds Tryz.pinned (.plain (OpenSpec.ofChange messageGetsSpec)) messageGetsCard

/-- THE TIED CARD OF 'ratchetlaw08.MessageRequests'. -/
def messageRequestsCard : Claim7 := { stood := { row := messageRequestsRow, standIns := [], harness := (true, "5bc20577be381f2377fbd8898c35239999b8ab544546f53816bcf59c0b84abf6"), looks := false }, kinds := [], alts := [], laidByText := true, laidKinds := [.data], laidTests := true, laidLooks := .later }
def MessageRequestsCardSaid : Prop := Claim7.holds Tryz.pinned (.plain (OpenSpec.ofChange messageRequestsSpec)) messageRequestsCard

/-- THE TIED CARD OF 'ratchetlaw08.MessageBack'. -/
def messageBackCard : Claim7 := { stood := { row := messageBackRow, standIns := [], harness := (true, "5bc20577be381f2377fbd8898c35239999b8ab544546f53816bcf59c0b84abf6"), looks := false }, kinds := [], alts := [], laidByText := true, laidKinds := [.data], laidTests := true, laidLooks := .later }
def MessageBackCardSaid : Prop := Claim7.holds Tryz.pinned (.plain (OpenSpec.ofChange messageBackSpec)) messageBackCard

/-- THE TIED CARD OF 'ratchetlaw08.MessageTags'. -/
def messageTagsCard : Claim7 := { stood := { row := messageTagsRow, standIns := [], harness := (true, "5bc20577be381f2377fbd8898c35239999b8ab544546f53816bcf59c0b84abf6"), looks := false }, kinds := [], alts := [], laidByText := true, laidKinds := [.data], laidTests := true, laidLooks := .later }
def MessageTagsCardSaid : Prop := Claim7.holds Tryz.pinned (.plain (OpenSpec.ofChange messageTagsSpec)) messageTagsCard

/-- THE TIED CARD OF 'ratchetlaw08.MessageSizes'. -/
def messageSizesCard : Claim7 := { stood := { row := messageSizesRow, standIns := [], harness := (true, "5bc20577be381f2377fbd8898c35239999b8ab544546f53816bcf59c0b84abf6"), looks := false }, kinds := [], alts := [], laidByText := true, laidKinds := [.data], laidTests := true, laidLooks := .later }
def MessageSizesCardSaid : Prop := Claim7.holds Tryz.pinned (.plain (OpenSpec.ofChange messageSizesSpec)) messageSizesCard

/-- THE TIED CARD OF 'ratchetlaw08.MessageOwn'. -/
def messageOwnCard : Claim7 := { stood := { row := messageOwnRow, standIns := [], harness := (true, "5bc20577be381f2377fbd8898c35239999b8ab544546f53816bcf59c0b84abf6"), looks := false }, kinds := [], alts := [], laidByText := true, laidKinds := [.data], laidTests := true, laidLooks := .later }
def MessageOwnCardSaid : Prop := Claim7.holds Tryz.pinned (.plain (OpenSpec.ofChange messageOwnSpec)) messageOwnCard

/-- THE SECOND FORM's CARD OF 'ratchetlaw08.MessagePlays'. -/
def messagePlaysUptoCard : Claim7 := { stood := { row := messagePlaysUptoRow, standIns := [], harness := (true, "5bc20577be381f2377fbd8898c35239999b8ab544546f53816bcf59c0b84abf6"), looks := false }, kinds := [], alts := [], laidByText := true, laidKinds := [.data], laidTests := true, laidLooks := .later }
def MessagePlaysUptoCardSaid : Prop := Claim7.holds Tryz.pinned (.plain (OpenSpec.upto messagePlaysSpec)) messagePlaysUptoCard

/-- THE SECOND FORM's CARD OF 'ratchetlaw08.MessageGets'. -/
def messageGetsUptoCard : Claim7 := { stood := { row := messageGetsUptoRow, standIns := [], harness := (true, "5bc20577be381f2377fbd8898c35239999b8ab544546f53816bcf59c0b84abf6"), looks := false }, kinds := [], alts := [], laidByText := true, laidKinds := [.data], laidTests := true, laidLooks := .later }
def MessageGetsUptoCardSaid : Prop := Claim7.holds Tryz.pinned (.plain (OpenSpec.upto messageGetsSpec)) messageGetsUptoCard

/-- THE SECOND FORM's CARD OF 'ratchetlaw08.MessageRequests'. -/
def messageRequestsUptoCard : Claim7 := { stood := { row := messageRequestsUptoRow, standIns := [], harness := (true, "5bc20577be381f2377fbd8898c35239999b8ab544546f53816bcf59c0b84abf6"), looks := false }, kinds := [], alts := [], laidByText := true, laidKinds := [.data], laidTests := true, laidLooks := .later }
def MessageRequestsUptoCardSaid : Prop := Claim7.holds Tryz.pinned (.plain (OpenSpec.upto messageRequestsSpec)) messageRequestsUptoCard

/-- THE SECOND FORM's CARD OF 'ratchetlaw08.MessageBack'. -/
def messageBackUptoCard : Claim7 := { stood := { row := messageBackUptoRow, standIns := [], harness := (true, "5bc20577be381f2377fbd8898c35239999b8ab544546f53816bcf59c0b84abf6"), looks := false }, kinds := [], alts := [], laidByText := true, laidKinds := [.data], laidTests := true, laidLooks := .later }
def MessageBackUptoCardSaid : Prop := Claim7.holds Tryz.pinned (.plain (OpenSpec.upto messageBackSpec)) messageBackUptoCard

/-- THE SECOND FORM's CARD OF 'ratchetlaw08.MessageTags'. -/
def messageTagsUptoCard : Claim7 := { stood := { row := messageTagsUptoRow, standIns := [], harness := (true, "5bc20577be381f2377fbd8898c35239999b8ab544546f53816bcf59c0b84abf6"), looks := false }, kinds := [], alts := [], laidByText := true, laidKinds := [.data], laidTests := true, laidLooks := .later }
def MessageTagsUptoCardSaid : Prop := Claim7.holds Tryz.pinned (.plain (OpenSpec.upto messageTagsSpec)) messageTagsUptoCard

/-- THE SECOND FORM's CARD OF 'ratchetlaw08.MessageSizes'. -/
def messageSizesUptoCard : Claim7 := { stood := { row := messageSizesUptoRow, standIns := [], harness := (true, "5bc20577be381f2377fbd8898c35239999b8ab544546f53816bcf59c0b84abf6"), looks := false }, kinds := [], alts := [], laidByText := true, laidKinds := [.data], laidTests := true, laidLooks := .later }
def MessageSizesUptoCardSaid : Prop := Claim7.holds Tryz.pinned (.plain (OpenSpec.upto messageSizesSpec)) messageSizesUptoCard

/-- THE SECOND FORM's CARD OF 'ratchetlaw08.MessageOwn'. -/
def messageOwnUptoCard : Claim7 := { stood := { row := messageOwnUptoRow, standIns := [], harness := (true, "5bc20577be381f2377fbd8898c35239999b8ab544546f53816bcf59c0b84abf6"), looks := false }, kinds := [], alts := [], laidByText := true, laidKinds := [.data], laidTests := true, laidLooks := .later }
def MessageOwnUptoCardSaid : Prop := Claim7.holds Tryz.pinned (.plain (OpenSpec.upto messageOwnSpec)) messageOwnUptoCard
end Rows
end Go.Proofs.YtghjogneogkpoaaGreatDoor
