/-
  DERIVED. GIVEN WITH THE SEED: THE CARDS: each row of YtimdmgkegdlafaaGreatDoorRows.lean that lists a variable, with what it lists TIED to the program's text (the seventh form; the later family's looks); each row that meets fmt, with fmt's text TOLD by the authors' own Lean function (tested against real Go, not proved from fmt's source: count such statements apart). THE CARD IS WHAT COUNTS. Prove the row's statement (the work); the ties are given (YtimdmgkegdlafaaGreatDoorTie.lean); close each card by the builder's one call (the guide's Derived/Test/ToyasCard.lean, 'card_holds'). Laid BY PROGRAM, IN A SANDBOX (cutbox-door.mjs). By AI agents, Wed Nov 11 2026. No macro, syntax, notation, axiom, sorry.
-/
import Derived.Test.YtimdmgkegdlafaaGreatDoorRows
import GoSem.ClaimSeven
namespace Go.Proofs.YtimdmgkegdlafaaGreatDoor
namespace Rows

/-- THE TIED CARD OF 'duodecimolaw01.QuireTexts'. -/
def quireTextsCard : Claim7 := { stood := { row := quireTextsRow, standIns := [], harness := (true, "dfb55099940b79270841897311c77527b3596569acdd93262ed52b286a8413d3"), looks := true }, kinds := [], alts := [], laidByText := true, laidKinds := [.data, .data, .data], laidTests := true, laidLooks := .later }
def QuireTextsCardSaid : Prop := Claim7.holds Tryz.pinned (.plain (OpenSpec.ofChange quireTextsSpec)) quireTextsCard

/-- THE TIED CARD OF 'duodecimolaw01.QuireRound'. -/
def quireRoundCard : Claim7 := { stood := { row := quireRoundRow, standIns := [], harness := (true, "dfb55099940b79270841897311c77527b3596569acdd93262ed52b286a8413d3"), looks := true }, kinds := [], alts := [], laidByText := true, laidKinds := [.data, .data, .data], laidTests := true, laidLooks := .later }
def QuireRoundCardSaid : Prop := Claim7.holds Tryz.pinned (.plain (OpenSpec.ofChange quireRoundSpec)) quireRoundCard

/-- THE TIED CARD OF 'duodecimolaw01.QuireShort'. -/
def quireShortCard : Claim7 := { stood := { row := quireShortRow, standIns := [], harness := (true, "dfb55099940b79270841897311c77527b3596569acdd93262ed52b286a8413d3"), looks := true }, kinds := [], alts := [], laidByText := true, laidKinds := [.data, .data, .data], laidTests := true, laidLooks := .later }
def QuireShortCardSaid : Prop := Claim7.holds Tryz.pinned (.plain (OpenSpec.ofChange quireShortSpec)) quireShortCard

/-- THE TIED CARD OF 'duodecimolaw01.QuireChanged'. -/
def quireChangedCard : Claim7 := { stood := { row := quireChangedRow, standIns := [], harness := (true, "dfb55099940b79270841897311c77527b3596569acdd93262ed52b286a8413d3"), looks := true }, kinds := [], alts := [], laidByText := true, laidKinds := [.data, .data, .data], laidTests := true, laidLooks := .later }
def QuireChangedCardSaid : Prop := Claim7.holds Tryz.pinned (.plain (OpenSpec.ofChange quireChangedSpec)) quireChangedCard

/-- THE SECOND FORM's CARD OF 'duodecimolaw01.QuireTexts'. -/
def quireTextsUptoCard : Claim7 := { stood := { row := quireTextsUptoRow, standIns := [], harness := (true, "dfb55099940b79270841897311c77527b3596569acdd93262ed52b286a8413d3"), looks := true }, kinds := [], alts := [], laidByText := true, laidKinds := [.data, .data, .data], laidTests := true, laidLooks := .later }
def QuireTextsUptoCardSaid : Prop := Claim7.holds Tryz.pinned (.plain (OpenSpec.upto quireTextsSpec)) quireTextsUptoCard

/-- THE SECOND FORM's CARD OF 'duodecimolaw01.QuireRound'. -/
def quireRoundUptoCard : Claim7 := { stood := { row := quireRoundUptoRow, standIns := [], harness := (true, "dfb55099940b79270841897311c77527b3596569acdd93262ed52b286a8413d3"), looks := true }, kinds := [], alts := [], laidByText := true, laidKinds := [.data, .data, .data], laidTests := true, laidLooks := .later }
def QuireRoundUptoCardSaid : Prop := Claim7.holds Tryz.pinned (.plain (OpenSpec.upto quireRoundSpec)) quireRoundUptoCard

/-- THE SECOND FORM's CARD OF 'duodecimolaw01.QuireShort'. -/
def quireShortUptoCard : Claim7 := { stood := { row := quireShortUptoRow, standIns := [], harness := (true, "dfb55099940b79270841897311c77527b3596569acdd93262ed52b286a8413d3"), looks := true }, kinds := [], alts := [], laidByText := true, laidKinds := [.data, .data, .data], laidTests := true, laidLooks := .later }
def QuireShortUptoCardSaid : Prop := Claim7.holds Tryz.pinned (.plain (OpenSpec.upto quireShortSpec)) quireShortUptoCard

/-- THE SECOND FORM's CARD OF 'duodecimolaw01.QuireChanged'. -/
def quireChangedUptoCard : Claim7 := { stood := { row := quireChangedUptoRow, standIns := [], harness := (true, "dfb55099940b79270841897311c77527b3596569acdd93262ed52b286a8413d3"), looks := true }, kinds := [], alts := [], laidByText := true, laidKinds := [.data, .data, .data], laidTests := true, laidLooks := .later }
def QuireChangedUptoCardSaid : Prop := Claim7.holds Tryz.pinned (.plain (OpenSpec.upto quireChangedSpec)) quireChangedUptoCard
end Rows
end Go.Proofs.YtimdmgkegdlafaaGreatDoor
