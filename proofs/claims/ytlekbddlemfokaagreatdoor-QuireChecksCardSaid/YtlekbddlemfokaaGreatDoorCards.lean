/-
  DERIVED. GIVEN WITH THE SEED: THE CARDS: each row of YtlekbddlemfokaaGreatDoorRows.lean that lists a variable, with what it lists TIED to the program's text (the seventh form; the later family's looks); each row that meets fmt, with fmt's text TOLD by the authors' own Lean function (tested against real Go, not proved from fmt's source: count such statements apart). THE CARD IS WHAT COUNTS. Prove the row's statement (the work); the ties are given (YtlekbddlemfokaaGreatDoorTie.lean); close each card by the builder's one call (the guide's Derived/Test/ToyasCard.lean, 'card_holds'). Laid BY PROGRAM, IN A SANDBOX (cutbox-door.mjs). By AI agents, Wed Nov 11 2026. No macro, syntax, notation, axiom, sorry.
-/
import Derived.Test.YtlekbddlemfokaaGreatDoorRows
import GoSem.ClaimSeven
namespace Go.Proofs.YtlekbddlemfokaaGreatDoor
namespace Rows

/-- THE TIED CARD OF 'duodecimolaw01.QuireChecks'. -/
def quireChecksCard : Claim7 := { stood := { row := quireChecksRow, standIns := [], harness := (true, "40f5c4b1f9fc1fad83ae2fe52f7ef726ca59a0d23579a63b6c7c33fb9a6d4ea6"), looks := true }, kinds := [], alts := [], laidByText := true, laidKinds := [.data, .data, .data], laidTests := true, laidLooks := .later }
def QuireChecksCardSaid : Prop := Claim7.holds Tryz.pinned (.plain (OpenSpec.ofChange quireChecksSpec)) quireChecksCard

/-- THE SECOND FORM's CARD OF 'duodecimolaw01.QuireChecks'. -/
def quireChecksUptoCard : Claim7 := { stood := { row := quireChecksUptoRow, standIns := [], harness := (true, "40f5c4b1f9fc1fad83ae2fe52f7ef726ca59a0d23579a63b6c7c33fb9a6d4ea6"), looks := true }, kinds := [], alts := [], laidByText := true, laidKinds := [.data, .data, .data], laidTests := true, laidLooks := .later }
def QuireChecksUptoCardSaid : Prop := Claim7.holds Tryz.pinned (.plain (OpenSpec.upto quireChecksSpec)) quireChecksUptoCard
end Rows
end Go.Proofs.YtlekbddlemfokaaGreatDoor
