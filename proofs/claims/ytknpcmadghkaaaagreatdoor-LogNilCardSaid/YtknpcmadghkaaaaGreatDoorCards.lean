/-
  DERIVED. GIVEN WITH THE SEED: THE CARDS: each row of YtknpcmadghkaaaaGreatDoorRows.lean that lists a variable, with what it lists TIED to the program's text (the seventh form; the later family's looks); each row that meets fmt, with fmt's text TOLD by the authors' own Lean function (tested against real Go, not proved from fmt's source: count such statements apart). THE CARD IS WHAT COUNTS. Prove the row's statement (the work); the ties are given (YtknpcmadghkaaaaGreatDoorTie.lean); close each card by the builder's one call (the guide's Derived/Test/ToyasCard.lean, 'card_holds'). Laid BY PROGRAM, IN A SANDBOX (cutbox-door.mjs). By AI agents, Wed Nov 11 2026. No macro, syntax, notation, axiom, sorry.
-/
import Derived.Test.YtknpcmadghkaaaaGreatDoorRows
import GoSem.ClaimSeven
namespace Go.Proofs.YtknpcmadghkaaaaGreatDoor
namespace Rows

/-- THE TIED CARD OF 'ratchetlaw15.LogPlays'. -/
def logPlaysCard : Claim7 := { stood := { row := logPlaysRow, standIns := [], harness := (true, "a83cad2f523ae538d0e82a3968b4d30d8a9a190e0c207566f81be8fe7675414f"), looks := false }, kinds := [], alts := [], laidByText := true, laidKinds := [.data], laidTests := true, laidLooks := .later }
def LogPlaysCardSaid : Prop := Claim7.holds Tryz.pinned (.plain (OpenSpec.ofChange logPlaysSpec)) logPlaysCard

/-- THE TIED CARD OF 'ratchetlaw15.LogOrder'. -/
def logOrderCard : Claim7 := { stood := { row := logOrderRow, standIns := [], harness := (true, "a83cad2f523ae538d0e82a3968b4d30d8a9a190e0c207566f81be8fe7675414f"), looks := false }, kinds := [], alts := [], laidByText := true, laidKinds := [.data], laidTests := true, laidLooks := .later }
def LogOrderCardSaid : Prop := Claim7.holds Tryz.pinned (.plain (OpenSpec.ofChange logOrderSpec)) logOrderCard

/-- THE TIED CARD OF 'ratchetlaw15.LogGrows'. -/
def logGrowsCard : Claim7 := { stood := { row := logGrowsRow, standIns := [], harness := (true, "a83cad2f523ae538d0e82a3968b4d30d8a9a190e0c207566f81be8fe7675414f"), looks := false }, kinds := [], alts := [], laidByText := true, laidKinds := [.data], laidTests := true, laidLooks := .later }
def LogGrowsCardSaid : Prop := Claim7.holds Tryz.pinned (.plain (OpenSpec.ofChange logGrowsSpec)) logGrowsCard

/-- THE TIED CARD OF 'ratchetlaw15.LogNil'. -/
def logNilCard : Claim7 := { stood := { row := logNilRow, standIns := [], harness := (true, "a83cad2f523ae538d0e82a3968b4d30d8a9a190e0c207566f81be8fe7675414f"), looks := false }, kinds := [], alts := [], laidByText := true, laidKinds := [.data], laidTests := true, laidLooks := .later }
def LogNilCardSaid : Prop := Claim7.holds Tryz.pinned (.plain (OpenSpec.ofChange logNilSpec)) logNilCard

/-- THE TIED CARD OF 'ratchetlaw15.LogPrimaries'. -/
def logPrimariesCard : Claim7 := { stood := { row := logPrimariesRow, standIns := [], harness := (true, "a83cad2f523ae538d0e82a3968b4d30d8a9a190e0c207566f81be8fe7675414f"), looks := false }, kinds := [], alts := [], laidByText := true, laidKinds := [.data], laidTests := true, laidLooks := .later }
def LogPrimariesCardSaid : Prop := Claim7.holds Tryz.pinned (.plain (OpenSpec.ofChange logPrimariesSpec)) logPrimariesCard

/-- THE TIED CARD OF 'ratchetlaw15.LogBegins'. -/
def logBeginsCard : Claim7 := { stood := { row := logBeginsRow, standIns := [], harness := (true, "a83cad2f523ae538d0e82a3968b4d30d8a9a190e0c207566f81be8fe7675414f"), looks := false }, kinds := [], alts := [], laidByText := true, laidKinds := [.data], laidTests := true, laidLooks := .later }
def LogBeginsCardSaid : Prop := Claim7.holds Tryz.pinned (.plain (OpenSpec.ofChange logBeginsSpec)) logBeginsCard

/-- THE TIED CARD OF 'ratchetlaw15.LogVotes'. -/
def logVotesCard : Claim7 := { stood := { row := logVotesRow, standIns := [], harness := (true, "a83cad2f523ae538d0e82a3968b4d30d8a9a190e0c207566f81be8fe7675414f"), looks := false }, kinds := [], alts := [], laidByText := true, laidKinds := [.data], laidTests := true, laidLooks := .later }
def LogVotesCardSaid : Prop := Claim7.holds Tryz.pinned (.plain (OpenSpec.ofChange logVotesSpec)) logVotesCard

/-- THE SECOND FORM's CARD OF 'ratchetlaw15.LogPlays'. -/
def logPlaysUptoCard : Claim7 := { stood := { row := logPlaysUptoRow, standIns := [], harness := (true, "a83cad2f523ae538d0e82a3968b4d30d8a9a190e0c207566f81be8fe7675414f"), looks := false }, kinds := [], alts := [], laidByText := true, laidKinds := [.data], laidTests := true, laidLooks := .later }
def LogPlaysUptoCardSaid : Prop := Claim7.holds Tryz.pinned (.plain (OpenSpec.upto logPlaysSpec)) logPlaysUptoCard

/-- THE SECOND FORM's CARD OF 'ratchetlaw15.LogOrder'. -/
def logOrderUptoCard : Claim7 := { stood := { row := logOrderUptoRow, standIns := [], harness := (true, "a83cad2f523ae538d0e82a3968b4d30d8a9a190e0c207566f81be8fe7675414f"), looks := false }, kinds := [], alts := [], laidByText := true, laidKinds := [.data], laidTests := true, laidLooks := .later }
def LogOrderUptoCardSaid : Prop := Claim7.holds Tryz.pinned (.plain (OpenSpec.upto logOrderSpec)) logOrderUptoCard

/-- THE SECOND FORM's CARD OF 'ratchetlaw15.LogGrows'. -/
def logGrowsUptoCard : Claim7 := { stood := { row := logGrowsUptoRow, standIns := [], harness := (true, "a83cad2f523ae538d0e82a3968b4d30d8a9a190e0c207566f81be8fe7675414f"), looks := false }, kinds := [], alts := [], laidByText := true, laidKinds := [.data], laidTests := true, laidLooks := .later }
def LogGrowsUptoCardSaid : Prop := Claim7.holds Tryz.pinned (.plain (OpenSpec.upto logGrowsSpec)) logGrowsUptoCard

/-- THE SECOND FORM's CARD OF 'ratchetlaw15.LogNil'. -/
def logNilUptoCard : Claim7 := { stood := { row := logNilUptoRow, standIns := [], harness := (true, "a83cad2f523ae538d0e82a3968b4d30d8a9a190e0c207566f81be8fe7675414f"), looks := false }, kinds := [], alts := [], laidByText := true, laidKinds := [.data], laidTests := true, laidLooks := .later }
def LogNilUptoCardSaid : Prop := Claim7.holds Tryz.pinned (.plain (OpenSpec.upto logNilSpec)) logNilUptoCard

/-- THE SECOND FORM's CARD OF 'ratchetlaw15.LogPrimaries'. -/
def logPrimariesUptoCard : Claim7 := { stood := { row := logPrimariesUptoRow, standIns := [], harness := (true, "a83cad2f523ae538d0e82a3968b4d30d8a9a190e0c207566f81be8fe7675414f"), looks := false }, kinds := [], alts := [], laidByText := true, laidKinds := [.data], laidTests := true, laidLooks := .later }
def LogPrimariesUptoCardSaid : Prop := Claim7.holds Tryz.pinned (.plain (OpenSpec.upto logPrimariesSpec)) logPrimariesUptoCard

/-- THE SECOND FORM's CARD OF 'ratchetlaw15.LogBegins'. -/
def logBeginsUptoCard : Claim7 := { stood := { row := logBeginsUptoRow, standIns := [], harness := (true, "a83cad2f523ae538d0e82a3968b4d30d8a9a190e0c207566f81be8fe7675414f"), looks := false }, kinds := [], alts := [], laidByText := true, laidKinds := [.data], laidTests := true, laidLooks := .later }
def LogBeginsUptoCardSaid : Prop := Claim7.holds Tryz.pinned (.plain (OpenSpec.upto logBeginsSpec)) logBeginsUptoCard

/-- THE SECOND FORM's CARD OF 'ratchetlaw15.LogVotes'. -/
def logVotesUptoCard : Claim7 := { stood := { row := logVotesUptoRow, standIns := [], harness := (true, "a83cad2f523ae538d0e82a3968b4d30d8a9a190e0c207566f81be8fe7675414f"), looks := false }, kinds := [], alts := [], laidByText := true, laidKinds := [.data], laidTests := true, laidLooks := .later }
def LogVotesUptoCardSaid : Prop := Claim7.holds Tryz.pinned (.plain (OpenSpec.upto logVotesSpec)) logVotesUptoCard
end Rows
end Go.Proofs.YtknpcmadghkaaaaGreatDoor
