/-
  DERIVED. GIVEN WITH THE SEED: THE CARDS: each row of YtockagnnpeoggaaGreatDoorRows.lean that lists a variable, with what it lists TIED to the program's text (the seventh form; the later family's looks); each row that meets fmt, with fmt's text TOLD by the authors' own Lean function (tested against real Go, not proved from fmt's source: count such statements apart). THE CARD IS WHAT COUNTS. Prove the row's statement (the work); the ties are given (YtockagnnpeoggaaGreatDoorTie.lean); close each card by the builder's one call (the guide's Derived/Test/ToyasCard.lean, 'card_holds'). Laid BY PROGRAM, IN A SANDBOX (cutbox-door.mjs). By AI agents, Wed Nov 11 2026. No macro, syntax, notation, axiom, sorry.
-/
import Derived.Test.YtockagnnpeoggaaGreatDoorRows
import GoSem.ClaimSeven
namespace Go.Proofs.YtockagnnpeoggaaGreatDoor
namespace Rows

/-- THE TIED CARD OF 'duodecimolaw01.QuireMates'. -/
def quireMatesCard : Claim7 := { stood := { row := quireMatesRow, standIns := [], harness := (true, "762813b5b0aca40c0edd030137c81c35b16a11fffc438c9064f760fc35ab0ff8"), looks := true }, kinds := [], alts := [], laidByText := true, laidKinds := [.data, .data, .data], laidTests := true, laidLooks := .later }
def QuireMatesCardSaid : Prop := Claim7.holds Tryz.pinned (.plain (OpenSpec.ofChange quireMatesSpec)) quireMatesCard

/-- THE TIED CARD OF 'duodecimolaw01.QuireLeaves'. -/
def quireLeavesCard : Claim7 := { stood := { row := quireLeavesRow, standIns := [], harness := (true, "762813b5b0aca40c0edd030137c81c35b16a11fffc438c9064f760fc35ab0ff8"), looks := true }, kinds := [], alts := [], laidByText := true, laidKinds := [.data, .data, .data], laidTests := true, laidLooks := .later }
def QuireLeavesCardSaid : Prop := Claim7.holds Tryz.pinned (.plain (OpenSpec.ofChange quireLeavesSpec)) quireLeavesCard

/-- THE TIED CARD OF 'duodecimolaw01.QuireTexts'. -/
def quireTextsCard : Claim7 := { stood := { row := quireTextsRow, standIns := [], harness := (true, "762813b5b0aca40c0edd030137c81c35b16a11fffc438c9064f760fc35ab0ff8"), looks := true }, kinds := [], alts := [], laidByText := true, laidKinds := [.data, .data, .data], laidTests := true, laidLooks := .later }
def QuireTextsCardSaid : Prop := Claim7.holds Tryz.pinned (.plain (OpenSpec.ofChange quireTextsSpec)) quireTextsCard

/-- THE TIED CARD OF 'duodecimolaw01.QuireRound'. -/
def quireRoundCard : Claim7 := { stood := { row := quireRoundRow, standIns := [], harness := (true, "762813b5b0aca40c0edd030137c81c35b16a11fffc438c9064f760fc35ab0ff8"), looks := true }, kinds := [], alts := [], laidByText := true, laidKinds := [.data, .data, .data], laidTests := true, laidLooks := .later }
def QuireRoundCardSaid : Prop := Claim7.holds Tryz.pinned (.plain (OpenSpec.ofChange quireRoundSpec)) quireRoundCard

/-- THE TIED CARD OF 'duodecimolaw01.QuireShort'. -/
def quireShortCard : Claim7 := { stood := { row := quireShortRow, standIns := [], harness := (true, "762813b5b0aca40c0edd030137c81c35b16a11fffc438c9064f760fc35ab0ff8"), looks := true }, kinds := [], alts := [], laidByText := true, laidKinds := [.data, .data, .data], laidTests := true, laidLooks := .later }
def QuireShortCardSaid : Prop := Claim7.holds Tryz.pinned (.plain (OpenSpec.ofChange quireShortSpec)) quireShortCard

/-- THE TIED CARD OF 'duodecimolaw01.QuireChanged'. -/
def quireChangedCard : Claim7 := { stood := { row := quireChangedRow, standIns := [], harness := (true, "762813b5b0aca40c0edd030137c81c35b16a11fffc438c9064f760fc35ab0ff8"), looks := true }, kinds := [], alts := [], laidByText := true, laidKinds := [.data, .data, .data], laidTests := true, laidLooks := .later }
def QuireChangedCardSaid : Prop := Claim7.holds Tryz.pinned (.plain (OpenSpec.ofChange quireChangedSpec)) quireChangedCard

/-- THE SECOND FORM's CARD OF 'duodecimolaw01.QuireMates'. -/
def quireMatesUptoCard : Claim7 := { stood := { row := quireMatesUptoRow, standIns := [], harness := (true, "762813b5b0aca40c0edd030137c81c35b16a11fffc438c9064f760fc35ab0ff8"), looks := true }, kinds := [], alts := [], laidByText := true, laidKinds := [.data, .data, .data], laidTests := true, laidLooks := .later }
def QuireMatesUptoCardSaid : Prop := Claim7.holds Tryz.pinned (.plain (OpenSpec.upto quireMatesSpec)) quireMatesUptoCard

/-- THE SECOND FORM's CARD OF 'duodecimolaw01.QuireLeaves'. -/
def quireLeavesUptoCard : Claim7 := { stood := { row := quireLeavesUptoRow, standIns := [], harness := (true, "762813b5b0aca40c0edd030137c81c35b16a11fffc438c9064f760fc35ab0ff8"), looks := true }, kinds := [], alts := [], laidByText := true, laidKinds := [.data, .data, .data], laidTests := true, laidLooks := .later }
def QuireLeavesUptoCardSaid : Prop := Claim7.holds Tryz.pinned (.plain (OpenSpec.upto quireLeavesSpec)) quireLeavesUptoCard

/-- THE SECOND FORM's CARD OF 'duodecimolaw01.QuireTexts'. -/
def quireTextsUptoCard : Claim7 := { stood := { row := quireTextsUptoRow, standIns := [], harness := (true, "762813b5b0aca40c0edd030137c81c35b16a11fffc438c9064f760fc35ab0ff8"), looks := true }, kinds := [], alts := [], laidByText := true, laidKinds := [.data, .data, .data], laidTests := true, laidLooks := .later }
def QuireTextsUptoCardSaid : Prop := Claim7.holds Tryz.pinned (.plain (OpenSpec.upto quireTextsSpec)) quireTextsUptoCard

/-- THE SECOND FORM's CARD OF 'duodecimolaw01.QuireRound'. -/
def quireRoundUptoCard : Claim7 := { stood := { row := quireRoundUptoRow, standIns := [], harness := (true, "762813b5b0aca40c0edd030137c81c35b16a11fffc438c9064f760fc35ab0ff8"), looks := true }, kinds := [], alts := [], laidByText := true, laidKinds := [.data, .data, .data], laidTests := true, laidLooks := .later }
def QuireRoundUptoCardSaid : Prop := Claim7.holds Tryz.pinned (.plain (OpenSpec.upto quireRoundSpec)) quireRoundUptoCard

/-- THE SECOND FORM's CARD OF 'duodecimolaw01.QuireShort'. -/
def quireShortUptoCard : Claim7 := { stood := { row := quireShortUptoRow, standIns := [], harness := (true, "762813b5b0aca40c0edd030137c81c35b16a11fffc438c9064f760fc35ab0ff8"), looks := true }, kinds := [], alts := [], laidByText := true, laidKinds := [.data, .data, .data], laidTests := true, laidLooks := .later }
def QuireShortUptoCardSaid : Prop := Claim7.holds Tryz.pinned (.plain (OpenSpec.upto quireShortSpec)) quireShortUptoCard

/-- THE SECOND FORM's CARD OF 'duodecimolaw01.QuireChanged'. -/
def quireChangedUptoCard : Claim7 := { stood := { row := quireChangedUptoRow, standIns := [], harness := (true, "762813b5b0aca40c0edd030137c81c35b16a11fffc438c9064f760fc35ab0ff8"), looks := true }, kinds := [], alts := [], laidByText := true, laidKinds := [.data, .data, .data], laidTests := true, laidLooks := .later }
def QuireChangedUptoCardSaid : Prop := Claim7.holds Tryz.pinned (.plain (OpenSpec.upto quireChangedSpec)) quireChangedUptoCard
end Rows
end Go.Proofs.YtockagnnpeoggaaGreatDoor
