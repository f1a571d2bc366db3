/-
  DERIVED. GIVEN WITH THE SEED: THE CARDS: each row of YtpdhdgdbknnllaaGreatDoorRows.lean that lists a variable, with what it lists TIED to the program's text (the seventh form; the later family's looks); each row that meets fmt, with fmt's text TOLD by the authors' own Lean function (tested against real Go, not proved from fmt's source: count such statements apart). THE CARD IS WHAT COUNTS. Prove the row's statement (the work); the ties are given (YtpdhdgdbknnllaaGreatDoorTie.lean); close each card by the builder's one call (the guide's Derived/Test/ToyasCard.lean, 'card_holds'). Laid BY PROGRAM, IN A SANDBOX (cutbox-door.mjs). By AI agents, Wed Nov 11 2026. No macro, syntax, notation, axiom, sorry.
-/
import Derived.Test.YtpdhdgdbknnllaaGreatDoorRows
import GoSem.ClaimSeven
namespace Go.Proofs.YtpdhdgdbknnllaaGreatDoor
namespace Rows

/-- THE TIED CARD OF 'duodecimolaw02.FoldAgrees'. -/
def foldAgreesCard : Claim7 := { stood := { row := foldAgreesRow, standIns := [], harness := (true, "b5cf93fcf032eb28ba5817108855ecbacd8f7271e3fb418352c5b6ce3584cbae"), looks := false }, kinds := [], alts := [], laidByText := true, laidKinds := [.data], laidTests := true, laidLooks := .later }
def FoldAgreesCardSaid : Prop := Claim7.holds Tryz.pinned (.plain (OpenSpec.ofChange foldAgreesSpec)) foldAgreesCard

/-- THE TIED CARD OF 'duodecimolaw02.FoldTrue'. -/
def foldTrueCard : Claim7 := { stood := { row := foldTrueRow, standIns := [], harness := (true, "b5cf93fcf032eb28ba5817108855ecbacd8f7271e3fb418352c5b6ce3584cbae"), looks := false }, kinds := [], alts := [], laidByText := true, laidKinds := [.data], laidTests := true, laidLooks := .later }
def FoldTrueCardSaid : Prop := Claim7.holds Tryz.pinned (.plain (OpenSpec.ofChange foldTrueSpec)) foldTrueCard

/-- THE TIED CARD OF 'duodecimolaw02.FoldMore'. -/
def foldMoreCard : Claim7 := { stood := { row := foldMoreRow, standIns := [], harness := (true, "b5cf93fcf032eb28ba5817108855ecbacd8f7271e3fb418352c5b6ce3584cbae"), looks := false }, kinds := [], alts := [], laidByText := true, laidKinds := [.data], laidTests := true, laidLooks := .later }
def FoldMoreCardSaid : Prop := Claim7.holds Tryz.pinned (.plain (OpenSpec.ofChange foldMoreSpec)) foldMoreCard

/-- THE TIED CARD OF 'duodecimolaw02.FoldWrong'. -/
def foldWrongCard : Claim7 := { stood := { row := foldWrongRow, standIns := [], harness := (true, "b5cf93fcf032eb28ba5817108855ecbacd8f7271e3fb418352c5b6ce3584cbae"), looks := false }, kinds := [], alts := [], laidByText := true, laidKinds := [.data], laidTests := true, laidLooks := .later }
def FoldWrongCardSaid : Prop := Claim7.holds Tryz.pinned (.plain (OpenSpec.ofChange foldWrongSpec)) foldWrongCard

/-- THE TIED CARD OF 'duodecimolaw02.FoldWider'. -/
def foldWiderCard : Claim7 := { stood := { row := foldWiderRow, standIns := [], harness := (true, "b5cf93fcf032eb28ba5817108855ecbacd8f7271e3fb418352c5b6ce3584cbae"), looks := false }, kinds := [], alts := [], laidByText := true, laidKinds := [.data], laidTests := true, laidLooks := .later }
def FoldWiderCardSaid : Prop := Claim7.holds Tryz.pinned (.plain (OpenSpec.ofChange foldWiderSpec)) foldWiderCard

/-- THE SECOND FORM's CARD OF 'duodecimolaw02.FoldAgrees'. -/
def foldAgreesUptoCard : Claim7 := { stood := { row := foldAgreesUptoRow, standIns := [], harness := (true, "b5cf93fcf032eb28ba5817108855ecbacd8f7271e3fb418352c5b6ce3584cbae"), looks := false }, kinds := [], alts := [], laidByText := true, laidKinds := [.data], laidTests := true, laidLooks := .later }
def FoldAgreesUptoCardSaid : Prop := Claim7.holds Tryz.pinned (.plain (OpenSpec.upto foldAgreesSpec)) foldAgreesUptoCard

/-- THE SECOND FORM's CARD OF 'duodecimolaw02.FoldTrue'. -/
def foldTrueUptoCard : Claim7 := { stood := { row := foldTrueUptoRow, standIns := [], harness := (true, "b5cf93fcf032eb28ba5817108855ecbacd8f7271e3fb418352c5b6ce3584cbae"), looks := false }, kinds := [], alts := [], laidByText := true, laidKinds := [.data], laidTests := true, laidLooks := .later }
def FoldTrueUptoCardSaid : Prop := Claim7.holds Tryz.pinned (.plain (OpenSpec.upto foldTrueSpec)) foldTrueUptoCard

/-- THE SECOND FORM's CARD OF 'duodecimolaw02.FoldMore'. -/
def foldMoreUptoCard : Claim7 := { stood := { row := foldMoreUptoRow, standIns := [], harness := (true, "b5cf93fcf032eb28ba5817108855ecbacd8f7271e3fb418352c5b6ce3584cbae"), looks := false }, kinds := [], alts := [], laidByText := true, laidKinds := [.data], laidTests := true, laidLooks := .later }
def FoldMoreUptoCardSaid : Prop := Claim7.holds Tryz.pinned (.plain (OpenSpec.upto foldMoreSpec)) foldMoreUptoCard

/-- THE SECOND FORM's CARD OF 'duodecimolaw02.FoldWrong'. -/
def foldWrongUptoCard : Claim7 := { stood := { row := foldWrongUptoRow, standIns := [], harness := (true, "b5cf93fcf032eb28ba5817108855ecbacd8f7271e3fb418352c5b6ce3584cbae"), looks := false }, kinds := [], alts := [], laidByText := true, laidKinds := [.data], laidTests := true, laidLooks := .later }
def FoldWrongUptoCardSaid : Prop := Claim7.holds Tryz.pinned (.plain (OpenSpec.upto foldWrongSpec)) foldWrongUptoCard

/-- THE SECOND FORM's CARD OF 'duodecimolaw02.FoldWider'. -/
def foldWiderUptoCard : Claim7 := { stood := { row := foldWiderUptoRow, standIns := [], harness := (true, "b5cf93fcf032eb28ba5817108855ecbacd8f7271e3fb418352c5b6ce3584cbae"), looks := false }, kinds := [], alts := [], laidByText := true, laidKinds := [.data], laidTests := true, laidLooks := .later }
def FoldWiderUptoCardSaid : Prop := Claim7.holds Tryz.pinned (.plain (OpenSpec.upto foldWiderSpec)) foldWiderUptoCard
end Rows
end Go.Proofs.YtpdhdgdbknnllaaGreatDoor
