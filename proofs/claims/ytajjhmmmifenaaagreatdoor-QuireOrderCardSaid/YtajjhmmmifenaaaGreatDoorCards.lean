/-
  DERIVED. GIVEN WITH THE SEED: THE CARDS: each row of YtajjhmmmifenaaaGreatDoorRows.lean that lists a variable, with what it lists TIED to the program's text (the seventh form; the later family's looks); each row that meets fmt, with fmt's text TOLD by the authors' own Lean function (tested against real Go, not proved from fmt's source: count such statements apart). THE CARD IS WHAT COUNTS. Prove the row's statement (the work); the ties are given (YtajjhmmmifenaaaGreatDoorTie.lean); close each card by the builder's one call (the guide's Derived/Test/ToyasCard.lean, 'card_holds'). Laid BY PROGRAM, IN A SANDBOX (cutbox-door.mjs). By AI agents, Wed Nov 11 2026. No macro, syntax, notation, axiom, sorry.
-/
import Derived.Test.YtajjhmmmifenaaaGreatDoorRows
import GoSem.ClaimSeven
namespace Go.Proofs.YtajjhmmmifenaaaGreatDoor
namespace Rows

/-- THE TIED CARD OF 'duodecimolaw01.QuireTexts'. -/
def quireTextsCard : Claim7 := { stood := { row := quireTextsRow, standIns := [], harness := (true, "886b5ceecbec6cb2e17f90771419267ad0dd322ab0b778f6cd39d704b177d557"), looks := true }, kinds := [], alts := [], laidByText := true, laidKinds := [.data, .data, .data], laidTests := true, laidLooks := .later }
def QuireTextsCardSaid : Prop := Claim7.holds Tryz.pinned (.plain (OpenSpec.ofChange quireTextsSpec)) quireTextsCard

/-- THE TIED CARD OF 'duodecimolaw01.QuireLeaves'. -/
def quireLeavesCard : Claim7 := { stood := { row := quireLeavesRow, standIns := [], harness := (true, "886b5ceecbec6cb2e17f90771419267ad0dd322ab0b778f6cd39d704b177d557"), looks := true }, kinds := [], alts := [], laidByText := true, laidKinds := [.data, .data, .data], laidTests := true, laidLooks := .later }
def QuireLeavesCardSaid : Prop := Claim7.holds Tryz.pinned (.plain (OpenSpec.ofChange quireLeavesSpec)) quireLeavesCard

/-- THE TIED CARD OF 'duodecimolaw01.QuireMates'. -/
def quireMatesCard : Claim7 := { stood := { row := quireMatesRow, standIns := [], harness := (true, "886b5ceecbec6cb2e17f90771419267ad0dd322ab0b778f6cd39d704b177d557"), looks := true }, kinds := [], alts := [], laidByText := true, laidKinds := [.data, .data, .data], laidTests := true, laidLooks := .later }
def QuireMatesCardSaid : Prop := Claim7.holds Tryz.pinned (.plain (OpenSpec.ofChange quireMatesSpec)) quireMatesCard

/-- THE TIED CARD OF 'duodecimolaw01.QuireRound'. -/
def quireRoundCard : Claim7 := { stood := { row := quireRoundRow, standIns := [], harness := (true, "886b5ceecbec6cb2e17f90771419267ad0dd322ab0b778f6cd39d704b177d557"), looks := true }, kinds := [], alts := [], laidByText := true, laidKinds := [.data, .data, .data], laidTests := true, laidLooks := .later }
def QuireRoundCardSaid : Prop := Claim7.holds Tryz.pinned (.plain (OpenSpec.ofChange quireRoundSpec)) quireRoundCard

/-- THE TIED CARD OF 'duodecimolaw01.QuirePlaces'. -/
def quirePlacesCard : Claim7 := { stood := { row := quirePlacesRow, standIns := [], harness := (true, "886b5ceecbec6cb2e17f90771419267ad0dd322ab0b778f6cd39d704b177d557"), looks := true }, kinds := [], alts := [], laidByText := true, laidKinds := [.data, .data, .data], laidTests := true, laidLooks := .later }
def QuirePlacesCardSaid : Prop := Claim7.holds Tryz.pinned (.plain (OpenSpec.ofChange quirePlacesSpec)) quirePlacesCard

/-- THE TIED CARD OF 'duodecimolaw01.QuireShort'. -/
def quireShortCard : Claim7 := { stood := { row := quireShortRow, standIns := [], harness := (true, "886b5ceecbec6cb2e17f90771419267ad0dd322ab0b778f6cd39d704b177d557"), looks := true }, kinds := [], alts := [], laidByText := true, laidKinds := [.data, .data, .data], laidTests := true, laidLooks := .later }
def QuireShortCardSaid : Prop := Claim7.holds Tryz.pinned (.plain (OpenSpec.ofChange quireShortSpec)) quireShortCard

/-- THE TIED CARD OF 'duodecimolaw01.QuireOrder'. -/
def quireOrderCard : Claim7 := { stood := { row := quireOrderRow, standIns := [], harness := (true, "886b5ceecbec6cb2e17f90771419267ad0dd322ab0b778f6cd39d704b177d557"), looks := true }, kinds := [], alts := [], laidByText := true, laidKinds := [.data, .data, .data], laidTests := true, laidLooks := .later }
def QuireOrderCardSaid : Prop := Claim7.holds Tryz.pinned (.plain (OpenSpec.ofChange quireOrderSpec)) quireOrderCard

/-- THE TIED CARD OF 'duodecimolaw01.QuirePairs'. -/
def quirePairsCard : Claim7 := { stood := { row := quirePairsRow, standIns := [], harness := (true, "886b5ceecbec6cb2e17f90771419267ad0dd322ab0b778f6cd39d704b177d557"), looks := true }, kinds := [], alts := [], laidByText := true, laidKinds := [.data, .data, .data], laidTests := true, laidLooks := .later }
def QuirePairsCardSaid : Prop := Claim7.holds Tryz.pinned (.plain (OpenSpec.ofChange quirePairsSpec)) quirePairsCard

/-- THE TIED CARD OF 'duodecimolaw01.QuireSigned'. -/
def quireSignedCard : Claim7 := { stood := { row := quireSignedRow, standIns := [], harness := (true, "886b5ceecbec6cb2e17f90771419267ad0dd322ab0b778f6cd39d704b177d557"), looks := true }, kinds := [], alts := [], laidByText := true, laidKinds := [.data, .data, .data], laidTests := true, laidLooks := .later }
def QuireSignedCardSaid : Prop := Claim7.holds Tryz.pinned (.plain (OpenSpec.ofChange quireSignedSpec)) quireSignedCard

/-- THE TIED CARD OF 'duodecimolaw01.QuireChanged'. -/
def quireChangedCard : Claim7 := { stood := { row := quireChangedRow, standIns := [], harness := (true, "886b5ceecbec6cb2e17f90771419267ad0dd322ab0b778f6cd39d704b177d557"), looks := true }, kinds := [], alts := [], laidByText := true, laidKinds := [.data, .data, .data], laidTests := true, laidLooks := .later }
def QuireChangedCardSaid : Prop := Claim7.holds Tryz.pinned (.plain (OpenSpec.ofChange quireChangedSpec)) quireChangedCard

/-- THE TIED CARD OF 'duodecimolaw01.QuireTogether'. -/
def quireTogetherCard : Claim7 := { stood := { row := quireTogetherRow, standIns := [], harness := (true, "886b5ceecbec6cb2e17f90771419267ad0dd322ab0b778f6cd39d704b177d557"), looks := true }, kinds := [], alts := [], laidByText := true, laidKinds := [.data, .data, .data], laidTests := true, laidLooks := .later }
def QuireTogetherCardSaid : Prop := Claim7.holds Tryz.pinned (.plain (OpenSpec.ofChange quireTogetherSpec)) quireTogetherCard

/-- THE SECOND FORM's CARD OF 'duodecimolaw01.QuireTexts'. -/
def quireTextsUptoCard : Claim7 := { stood := { row := quireTextsUptoRow, standIns := [], harness := (true, "886b5ceecbec6cb2e17f90771419267ad0dd322ab0b778f6cd39d704b177d557"), looks := true }, kinds := [], alts := [], laidByText := true, laidKinds := [.data, .data, .data], laidTests := true, laidLooks := .later }
def QuireTextsUptoCardSaid : Prop := Claim7.holds Tryz.pinned (.plain (OpenSpec.upto quireTextsSpec)) quireTextsUptoCard

/-- THE SECOND FORM's CARD OF 'duodecimolaw01.QuireLeaves'. -/
def quireLeavesUptoCard : Claim7 := { stood := { row := quireLeavesUptoRow, standIns := [], harness := (true, "886b5ceecbec6cb2e17f90771419267ad0dd322ab0b778f6cd39d704b177d557"), looks := true }, kinds := [], alts := [], laidByText := true, laidKinds := [.data, .data, .data], laidTests := true, laidLooks := .later }
def QuireLeavesUptoCardSaid : Prop := Claim7.holds Tryz.pinned (.plain (OpenSpec.upto quireLeavesSpec)) quireLeavesUptoCard

/-- THE SECOND FORM's CARD OF 'duodecimolaw01.QuireMates'. -/
def quireMatesUptoCard : Claim7 := { stood := { row := quireMatesUptoRow, standIns := [], harness := (true, "886b5ceecbec6cb2e17f90771419267ad0dd322ab0b778f6cd39d704b177d557"), looks := true }, kinds := [], alts := [], laidByText := true, laidKinds := [.data, .data, .data], laidTests := true, laidLooks := .later }
def QuireMatesUptoCardSaid : Prop := Claim7.holds Tryz.pinned (.plain (OpenSpec.upto quireMatesSpec)) quireMatesUptoCard

/-- THE SECOND FORM's CARD OF 'duodecimolaw01.QuireRound'. -/
def quireRoundUptoCard : Claim7 := { stood := { row := quireRoundUptoRow, standIns := [], harness := (true, "886b5ceecbec6cb2e17f90771419267ad0dd322ab0b778f6cd39d704b177d557"), looks := true }, kinds := [], alts := [], laidByText := true, laidKinds := [.data, .data, .data], laidTests := true, laidLooks := .later }
def QuireRoundUptoCardSaid : Prop := Claim7.holds Tryz.pinned (.plain (OpenSpec.upto quireRoundSpec)) quireRoundUptoCard

/-- THE SECOND FORM's CARD OF 'duodecimolaw01.QuirePlaces'. -/
def quirePlacesUptoCard : Claim7 := { stood := { row := quirePlacesUptoRow, standIns := [], harness := (true, "886b5ceecbec6cb2e17f90771419267ad0dd322ab0b778f6cd39d704b177d557"), looks := true }, kinds := [], alts := [], laidByText := true, laidKinds := [.data, .data, .data], laidTests := true, laidLooks := .later }
def QuirePlacesUptoCardSaid : Prop := Claim7.holds Tryz.pinned (.plain (OpenSpec.upto quirePlacesSpec)) quirePlacesUptoCard

/-- THE SECOND FORM's CARD OF 'duodecimolaw01.QuireShort'. -/
def quireShortUptoCard : Claim7 := { stood := { row := quireShortUptoRow, standIns := [], harness := (true, "886b5ceecbec6cb2e17f90771419267ad0dd322ab0b778f6cd39d704b177d557"), looks := true }, kinds := [], alts := [], laidByText := true, laidKinds := [.data, .data, .data], laidTests := true, laidLooks := .later }
def QuireShortUptoCardSaid : Prop := Claim7.holds Tryz.pinned (.plain (OpenSpec.upto quireShortSpec)) quireShortUptoCard

/-- THE SECOND FORM's CARD OF 'duodecimolaw01.QuireOrder'. -/
def quireOrderUptoCard : Claim7 := { stood := { row := quireOrderUptoRow, standIns := [], harness := (true, "886b5ceecbec6cb2e17f90771419267ad0dd322ab0b778f6cd39d704b177d557"), looks := true }, kinds := [], alts := [], laidByText := true, laidKinds := [.data, .data, .data], laidTests := true, laidLooks := .later }
def QuireOrderUptoCardSaid : Prop := Claim7.holds Tryz.pinned (.plain (OpenSpec.upto quireOrderSpec)) quireOrderUptoCard

/-- THE SECOND FORM's CARD OF 'duodecimolaw01.QuirePairs'. -/
def quirePairsUptoCard : Claim7 := { stood := { row := quirePairsUptoRow, standIns := [], harness := (true, "886b5ceecbec6cb2e17f90771419267ad0dd322ab0b778f6cd39d704b177d557"), looks := true }, kinds := [], alts := [], laidByText := true, laidKinds := [.data, .data, .data], laidTests := true, laidLooks := .later }
def QuirePairsUptoCardSaid : Prop := Claim7.holds Tryz.pinned (.plain (OpenSpec.upto quirePairsSpec)) quirePairsUptoCard

/-- THE SECOND FORM's CARD OF 'duodecimolaw01.QuireSigned'. -/
def quireSignedUptoCard : Claim7 := { stood := { row := quireSignedUptoRow, standIns := [], harness := (true, "886b5ceecbec6cb2e17f90771419267ad0dd322ab0b778f6cd39d704b177d557"), looks := true }, kinds := [], alts := [], laidByText := true, laidKinds := [.data, .data, .data], laidTests := true, laidLooks := .later }
def QuireSignedUptoCardSaid : Prop := Claim7.holds Tryz.pinned (.plain (OpenSpec.upto quireSignedSpec)) quireSignedUptoCard

/-- THE SECOND FORM's CARD OF 'duodecimolaw01.QuireChanged'. -/
def quireChangedUptoCard : Claim7 := { stood := { row := quireChangedUptoRow, standIns := [], harness := (true, "886b5ceecbec6cb2e17f90771419267ad0dd322ab0b778f6cd39d704b177d557"), looks := true }, kinds := [], alts := [], laidByText := true, laidKinds := [.data, .data, .data], laidTests := true, laidLooks := .later }
def QuireChangedUptoCardSaid : Prop := Claim7.holds Tryz.pinned (.plain (OpenSpec.upto quireChangedSpec)) quireChangedUptoCard

/-- THE SECOND FORM's CARD OF 'duodecimolaw01.QuireTogether'. -/
def quireTogetherUptoCard : Claim7 := { stood := { row := quireTogetherUptoRow, standIns := [], harness := (true, "886b5ceecbec6cb2e17f90771419267ad0dd322ab0b778f6cd39d704b177d557"), looks := true }, kinds := [], alts := [], laidByText := true, laidKinds := [.data, .data, .data], laidTests := true, laidLooks := .later }
def QuireTogetherUptoCardSaid : Prop := Claim7.holds Tryz.pinned (.plain (OpenSpec.upto quireTogetherSpec)) quireTogetherUptoCard
end Rows
end Go.Proofs.YtajjhmmmifenaaaGreatDoor
