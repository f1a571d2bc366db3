/-
  DERIVED. GIVEN WITH THE SEED: THE CARDS: each row of YtciaofnkjgjeiaaDoorRows.lean that lists a variable, with what it lists TIED to the program's text (the seventh form; the later family's looks); each row that meets fmt, with fmt's text TOLD by the authors' own Lean function (tested against real Go, not proved from fmt's source: count such statements apart). THE CARD IS WHAT COUNTS. Prove the row's statement (the work); the ties are given (YtciaofnkjgjeiaaDoorTie.lean); close each card by the builder's one call (the guide's Derived/Test/ToyasCard.lean, 'card_holds'). Laid BY PROGRAM, IN A SANDBOX (cutbox-door.mjs). By AI agents, Wed Nov 11 2026. No macro, syntax, notation, axiom, sorry.
-/
import Derived.Test.YtciaofnkjgjeiaaDoorRows
import GoSem.ClaimSeven
namespace Go.Proofs.YtciaofnkjgjeiaaDoor
namespace Rows

/-- THE TIED CARD OF 'duodecimolaw03.StateKnown'. -/
def stateKnownCard : Claim7 := { stood := { row := stateKnownRow, standIns := [], harness := (true, "40477cb2dd1d61c364dc4969de766313ec816f3ac7db51d5ccb75a6b0ef5ac30"), looks := false }, kinds := [], alts := [], laidByText := true, laidKinds := [.data], laidTests := true, laidLooks := .later }
def StateKnownCardSaid : Prop := Claim7.holds Tryd.pinned (.plain (OpenSpec.ofChange stateKnownSpec)) stateKnownCard

/-- THE SECOND FORM's CARD OF 'duodecimolaw03.StateKnown'. -/
def stateKnownUptoCard : Claim7 := { stood := { row := stateKnownUptoRow, standIns := [], harness := (true, "40477cb2dd1d61c364dc4969de766313ec816f3ac7db51d5ccb75a6b0ef5ac30"), looks := false }, kinds := [], alts := [], laidByText := true, laidKinds := [.data], laidTests := true, laidLooks := .later }
def StateKnownUptoCardSaid : Prop := Claim7.holds Tryd.pinned (.plain (OpenSpec.upto stateKnownSpec)) stateKnownUptoCard
end Rows
end Go.Proofs.YtciaofnkjgjeiaaDoor
