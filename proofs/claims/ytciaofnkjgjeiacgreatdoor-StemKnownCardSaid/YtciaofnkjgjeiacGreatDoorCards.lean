/-
  DERIVED. GIVEN WITH THE SEED: THE CARDS: each row of YtciaofnkjgjeiacGreatDoorRows.lean that lists a variable, with what it lists TIED to the program's text (the seventh form; the later family's looks); each row that meets fmt, with fmt's text TOLD by the authors' own Lean function (tested against real Go, not proved from fmt's source: count such statements apart). THE CARD IS WHAT COUNTS. Prove the row's statement (the work); the ties are given (YtciaofnkjgjeiacGreatDoorTie.lean); close each card by the builder's one call (the guide's Derived/Test/ToyasCard.lean, 'card_holds'). Laid BY PROGRAM, IN A SANDBOX (cutbox-door.mjs). By AI agents, Wed Nov 11 2026. No macro, syntax, notation, axiom, sorry.
-/
import Derived.Test.YtciaofnkjgjeiacGreatDoorRows
import GoSem.ClaimSeven
namespace Go.Proofs.YtciaofnkjgjeiacGreatDoor
namespace Rows

/-- THE TIED CARD OF 'duodecimolaw07.StemKnown'. -/
def stemKnownCard : Claim7 := { stood := { row := stemKnownRow, standIns := [], harness := (true, "2ecfd11fcc0f182f02b67dd08cfe19018200ced23527de2195b260ae4989d4ce"), looks := false }, kinds := [], alts := [], laidByText := true, laidKinds := [.data], laidTests := true, laidLooks := .later }
def StemKnownCardSaid : Prop := Claim7.holds Tryz.pinned (.plain (OpenSpec.ofChange stemKnownSpec)) stemKnownCard

/-- THE SECOND FORM's CARD OF 'duodecimolaw07.StemKnown'. -/
def stemKnownUptoCard : Claim7 := { stood := { row := stemKnownUptoRow, standIns := [], harness := (true, "2ecfd11fcc0f182f02b67dd08cfe19018200ced23527de2195b260ae4989d4ce"), looks := false }, kinds := [], alts := [], laidByText := true, laidKinds := [.data], laidTests := true, laidLooks := .later }
def StemKnownUptoCardSaid : Prop := Claim7.holds Tryz.pinned (.plain (OpenSpec.upto stemKnownSpec)) stemKnownUptoCard
end Rows
end Go.Proofs.YtciaofnkjgjeiacGreatDoor
