/-
  DERIVED. GIVEN WITH THE SEED: THE CARDS: each row of YtfmmldpemdodkaaDoorRows.lean that lists a variable, with what it lists TIED to the program's text (the seventh form; the later family's looks); each row that meets fmt, with fmt's text TOLD by the authors' own Lean function (tested against real Go, not proved from fmt's source: count such statements apart). THE CARD IS WHAT COUNTS. Prove the row's statement (the work); the ties are given (YtfmmldpemdodkaaDoorTie.lean); close each card by the builder's one call (the guide's Derived/Test/ToyasCard.lean, 'card_holds'). Laid BY PROGRAM, IN A SANDBOX (cutbox-door.mjs). By AI agents, Wed Nov 11 2026. No macro, syntax, notation, axiom, sorry.
-/
import Derived.Test.YtfmmldpemdodkaaDoorRows
import GoSem.ClaimSeven
namespace Go.Proofs.YtfmmldpemdodkaaDoor
namespace Rows

/-- THE TIED CARD OF 'ratchetlaw03.TagPlays'. -/
def tagPlaysCard : Claim7 := { stood := { row := tagPlaysRow, standIns := [], harness := (true, "98adc8a54ced7bb5af105ae1da9b9437a05fc0fb2139ddf266a24996a9ed4aa5"), looks := false }, kinds := [], alts := [], laidByText := true, laidKinds := [.data], laidTests := true, laidLooks := .later }
def TagPlaysCardSaid : Prop := Claim7.holds Tryd.pinned (.plain (OpenSpec.ofChange tagPlaysSpec)) tagPlaysCard

/-- THE TIED CARD OF 'ratchetlaw03.TagSame'. -/
def tagSameCard : Claim7 := { stood := { row := tagSameRow, standIns := [], harness := (true, "98adc8a54ced7bb5af105ae1da9b9437a05fc0fb2139ddf266a24996a9ed4aa5"), looks := false }, kinds := [], alts := [], laidByText := true, laidKinds := [.data], laidTests := true, laidLooks := .later }
def TagSameCardSaid : Prop := Claim7.holds Tryd.pinned (.plain (OpenSpec.ofChange tagSameSpec)) tagSameCard

/-- THE TIED CARD OF 'ratchetlaw03.TagKeys'. -/
def tagKeysCard : Claim7 := { stood := { row := tagKeysRow, standIns := [], harness := (true, "98adc8a54ced7bb5af105ae1da9b9437a05fc0fb2139ddf266a24996a9ed4aa5"), looks := false }, kinds := [], alts := [], laidByText := true, laidKinds := [.data], laidTests := true, laidLooks := .later }
def TagKeysCardSaid : Prop := Claim7.holds Tryd.pinned (.plain (OpenSpec.ofChange tagKeysSpec)) tagKeysCard

/-- THE TIED CARD OF 'ratchetlaw03.TagNoughts'. -/
def tagNoughtsCard : Claim7 := { stood := { row := tagNoughtsRow, standIns := [], harness := (true, "98adc8a54ced7bb5af105ae1da9b9437a05fc0fb2139ddf266a24996a9ed4aa5"), looks := false }, kinds := [], alts := [], laidByText := true, laidKinds := [.data], laidTests := true, laidLooks := .later }
def TagNoughtsCardSaid : Prop := Claim7.holds Tryd.pinned (.plain (OpenSpec.ofChange tagNoughtsSpec)) tagNoughtsCard

/-- THE TIED CARD OF 'ratchetlaw03.TagOthers'. -/
def tagOthersCard : Claim7 := { stood := { row := tagOthersRow, standIns := [], harness := (true, "98adc8a54ced7bb5af105ae1da9b9437a05fc0fb2139ddf266a24996a9ed4aa5"), looks := false }, kinds := [], alts := [], laidByText := true, laidKinds := [.data], laidTests := true, laidLooks := .later }
def TagOthersCardSaid : Prop := Claim7.holds Tryd.pinned (.plain (OpenSpec.ofChange tagOthersSpec)) tagOthersCard

/-- THE SECOND FORM's CARD OF 'ratchetlaw03.TagPlays'. -/
def tagPlaysUptoCard : Claim7 := { stood := { row := tagPlaysUptoRow, standIns := [], harness := (true, "98adc8a54ced7bb5af105ae1da9b9437a05fc0fb2139ddf266a24996a9ed4aa5"), looks := false }, kinds := [], alts := [], laidByText := true, laidKinds := [.data], laidTests := true, laidLooks := .later }
def TagPlaysUptoCardSaid : Prop := Claim7.holds Tryd.pinned (.plain (OpenSpec.upto tagPlaysSpec)) tagPlaysUptoCard

/-- THE SECOND FORM's CARD OF 'ratchetlaw03.TagSame'. -/
def tagSameUptoCard : Claim7 := { stood := { row := tagSameUptoRow, standIns := [], harness := (true, "98adc8a54ced7bb5af105ae1da9b9437a05fc0fb2139ddf266a24996a9ed4aa5"), looks := false }, kinds := [], alts := [], laidByText := true, laidKinds := [.data], laidTests := true, laidLooks := .later }
def TagSameUptoCardSaid : Prop := Claim7.holds Tryd.pinned (.plain (OpenSpec.upto tagSameSpec)) tagSameUptoCard

/-- THE SECOND FORM's CARD OF 'ratchetlaw03.TagKeys'. -/
def tagKeysUptoCard : Claim7 := { stood := { row := tagKeysUptoRow, standIns := [], harness := (true, "98adc8a54ced7bb5af105ae1da9b9437a05fc0fb2139ddf266a24996a9ed4aa5"), looks := false }, kinds := [], alts := [], laidByText := true, laidKinds := [.data], laidTests := true, laidLooks := .later }
def TagKeysUptoCardSaid : Prop := Claim7.holds Tryd.pinned (.plain (OpenSpec.upto tagKeysSpec)) tagKeysUptoCard

/-- THE SECOND FORM's CARD OF 'ratchetlaw03.TagNoughts'. -/
def tagNoughtsUptoCard : Claim7 := { stood := { row := tagNoughtsUptoRow, standIns := [], harness := (true, "98adc8a54ced7bb5af105ae1da9b9437a05fc0fb2139ddf266a24996a9ed4aa5"), looks := false }, kinds := [], alts := [], laidByText := true, laidKinds := [.data], laidTests := true, laidLooks := .later }
def TagNoughtsUptoCardSaid : Prop := Claim7.holds Tryd.pinned (.plain (OpenSpec.upto tagNoughtsSpec)) tagNoughtsUptoCard

/-- THE SECOND FORM's CARD OF 'ratchetlaw03.TagOthers'. -/
def tagOthersUptoCard : Claim7 := { stood := { row := tagOthersUptoRow, standIns := [], harness := (true, "98adc8a54ced7bb5af105ae1da9b9437a05fc0fb2139ddf266a24996a9ed4aa5"), looks := false }, kinds := [], alts := [], laidByText := true, laidKinds := [.data], laidTests := true, laidLooks := .later }
def TagOthersUptoCardSaid : Prop := Claim7.holds Tryd.pinned (.plain (OpenSpec.upto tagOthersSpec)) tagOthersUptoCard
end Rows
end Go.Proofs.YtfmmldpemdodkaaDoor
