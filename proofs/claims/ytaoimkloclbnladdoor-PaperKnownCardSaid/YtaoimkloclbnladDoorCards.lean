/-
  DERIVED. GIVEN WITH THE SEED: THE CARDS: each row of YtaoimkloclbnladDoorRows.lean that lists a variable, with what it lists TIED to the program's text (the seventh form; the later family's looks); each row that meets fmt, with fmt's text TOLD by the authors' own Lean function (tested against real Go, not proved from fmt's source: count such statements apart). THE CARD IS WHAT COUNTS. Prove the row's statement (the work); the ties are given (YtaoimkloclbnladDoorTie.lean); close each card by the builder's one call (the guide's Derived/Test/ToyasCard.lean, 'card_holds'). Laid BY PROGRAM, IN A SANDBOX (cutbox-door.mjs). By AI agents, Wed Nov 11 2026. No macro, syntax, notation, axiom, sorry.
-/
import Derived.Test.YtaoimkloclbnladDoorRows
import GoSem.ClaimSeven
namespace Go.Proofs.YtaoimkloclbnladDoor
namespace Rows

/-- THE TIED CARD OF 'duodecimolaw06.PaperKnown'. -/
def paperKnownCard : Claim7 := { stood := { row := paperKnownRow, standIns := [], harness := (true, "a19d9f20c69fc39f23f230b5745d1ceb5a0e1bc3b08eb1bf9afd58fe4e8fa098"), looks := false }, kinds := [], alts := [], laidByText := true, laidKinds := [.data], laidTests := true, laidLooks := .later }
def PaperKnownCardSaid : Prop := Claim7.holds Tryd.pinned (.plain (OpenSpec.ofChange paperKnownSpec)) paperKnownCard

/-- THE SECOND FORM's CARD OF 'duodecimolaw06.PaperKnown'. -/
def paperKnownUptoCard : Claim7 := { stood := { row := paperKnownUptoRow, standIns := [], harness := (true, "a19d9f20c69fc39f23f230b5745d1ceb5a0e1bc3b08eb1bf9afd58fe4e8fa098"), looks := false }, kinds := [], alts := [], laidByText := true, laidKinds := [.data], laidTests := true, laidLooks := .later }
def PaperKnownUptoCardSaid : Prop := Claim7.holds Tryd.pinned (.plain (OpenSpec.upto paperKnownSpec)) paperKnownUptoCard
end Rows
end Go.Proofs.YtaoimkloclbnladDoor
