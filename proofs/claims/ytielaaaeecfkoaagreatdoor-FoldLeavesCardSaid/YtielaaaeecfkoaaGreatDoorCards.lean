/-
  DERIVED. GIVEN WITH THE SEED: THE CARDS: each row of YtielaaaeecfkoaaGreatDoorRows.lean that lists a variable, with what it lists TIED to the program's text (the seventh form; the later family's looks); each row that meets fmt, with fmt's text TOLD by the authors' own Lean function (tested against real Go, not proved from fmt's source: count such statements apart). THE CARD IS WHAT COUNTS. Prove the row's statement (the work); the ties are given (YtielaaaeecfkoaaGreatDoorTie.lean); close each card by the builder's one call (the guide's Derived/Test/ToyasCard.lean, 'card_holds'). Laid BY PROGRAM, IN A SANDBOX (cutbox-door.mjs). By AI agents, Wed Nov 11 2026. No macro, syntax, notation, axiom, sorry.
-/
import Derived.Test.YtielaaaeecfkoaaGreatDoorRows
import GoSem.ClaimSeven
namespace Go.Proofs.YtielaaaeecfkoaaGreatDoor
namespace Rows

/-- THE TIED CARD OF 'duodecimolaw02.FoldChecks'. -/
def foldChecksCard : Claim7 := { stood := { row := foldChecksRow, standIns := [], harness := (true, "4ae70c76cd73c85094863924f4287a5611e3b8b3bcc7fc3e628655277369fee3"), looks := false }, kinds := [], alts := [], laidByText := true, laidKinds := [.data], laidTests := true, laidLooks := .later }
def FoldChecksCardSaid : Prop := Claim7.holds Tryz.pinned (.plain (OpenSpec.ofChange foldChecksSpec)) foldChecksCard

/-- THE TIED CARD OF 'duodecimolaw02.FoldLeaves'. -/
def foldLeavesCard : Claim7 := { stood := { row := foldLeavesRow, standIns := [], harness := (true, "4ae70c76cd73c85094863924f4287a5611e3b8b3bcc7fc3e628655277369fee3"), looks := false }, kinds := [], alts := [], laidByText := true, laidKinds := [.data], laidTests := true, laidLooks := .later }
def FoldLeavesCardSaid : Prop := Claim7.holds Tryz.pinned (.plain (OpenSpec.ofChange foldLeavesSpec)) foldLeavesCard

/-- THE TIED CARD OF 'duodecimolaw02.FoldImposed'. -/
def foldImposedCard : Claim7 := { stood := { row := foldImposedRow, standIns := [], harness := (true, "4ae70c76cd73c85094863924f4287a5611e3b8b3bcc7fc3e628655277369fee3"), looks := false }, kinds := [], alts := [], laidByText := true, laidKinds := [.data], laidTests := true, laidLooks := .later }
def FoldImposedCardSaid : Prop := Claim7.holds Tryz.pinned (.plain (OpenSpec.ofChange foldImposedSpec)) foldImposedCard

/-- THE TIED CARD OF 'duodecimolaw02.FoldConjugate'. -/
def foldConjugateCard : Claim7 := { stood := { row := foldConjugateRow, standIns := [], harness := (true, "4ae70c76cd73c85094863924f4287a5611e3b8b3bcc7fc3e628655277369fee3"), looks := false }, kinds := [], alts := [], laidByText := true, laidKinds := [.data], laidTests := true, laidLooks := .later }
def FoldConjugateCardSaid : Prop := Claim7.holds Tryz.pinned (.plain (OpenSpec.ofChange foldConjugateSpec)) foldConjugateCard

/-- THE TIED CARD OF 'duodecimolaw02.FoldWhole'. -/
def foldWholeCard : Claim7 := { stood := { row := foldWholeRow, standIns := [], harness := (true, "4ae70c76cd73c85094863924f4287a5611e3b8b3bcc7fc3e628655277369fee3"), looks := false }, kinds := [], alts := [], laidByText := true, laidKinds := [.data], laidTests := true, laidLooks := .later }
def FoldWholeCardSaid : Prop := Claim7.holds Tryz.pinned (.plain (OpenSpec.ofChange foldWholeSpec)) foldWholeCard

/-- THE TIED CARD OF 'duodecimolaw02.FoldMarks'. -/
def foldMarksCard : Claim7 := { stood := { row := foldMarksRow, standIns := [], harness := (true, "4ae70c76cd73c85094863924f4287a5611e3b8b3bcc7fc3e628655277369fee3"), looks := false }, kinds := [], alts := [], laidByText := true, laidKinds := [.data], laidTests := true, laidLooks := .later }
def FoldMarksCardSaid : Prop := Claim7.holds Tryz.pinned (.plain (OpenSpec.ofChange foldMarksSpec)) foldMarksCard

/-- THE SECOND FORM's CARD OF 'duodecimolaw02.FoldChecks'. -/
def foldChecksUptoCard : Claim7 := { stood := { row := foldChecksUptoRow, standIns := [], harness := (true, "4ae70c76cd73c85094863924f4287a5611e3b8b3bcc7fc3e628655277369fee3"), looks := false }, kinds := [], alts := [], laidByText := true, laidKinds := [.data], laidTests := true, laidLooks := .later }
def FoldChecksUptoCardSaid : Prop := Claim7.holds Tryz.pinned (.plain (OpenSpec.upto foldChecksSpec)) foldChecksUptoCard

/-- THE SECOND FORM's CARD OF 'duodecimolaw02.FoldLeaves'. -/
def foldLeavesUptoCard : Claim7 := { stood := { row := foldLeavesUptoRow, standIns := [], harness := (true, "4ae70c76cd73c85094863924f4287a5611e3b8b3bcc7fc3e628655277369fee3"), looks := false }, kinds := [], alts := [], laidByText := true, laidKinds := [.data], laidTests := true, laidLooks := .later }
def FoldLeavesUptoCardSaid : Prop := Claim7.holds Tryz.pinned (.plain (OpenSpec.upto foldLeavesSpec)) foldLeavesUptoCard

/-- THE SECOND FORM's CARD OF 'duodecimolaw02.FoldImposed'. -/
def foldImposedUptoCard : Claim7 := { stood := { row := foldImposedUptoRow, standIns := [], harness := (true, "4ae70c76cd73c85094863924f4287a5611e3b8b3bcc7fc3e628655277369fee3"), looks := false }, kinds := [], alts := [], laidByText := true, laidKinds := [.data], laidTests := true, laidLooks := .later }
def FoldImposedUptoCardSaid : Prop := Claim7.holds Tryz.pinned (.plain (OpenSpec.upto foldImposedSpec)) foldImposedUptoCard

/-- THE SECOND FORM's CARD OF 'duodecimolaw02.FoldConjugate'. -/
def foldConjugateUptoCard : Claim7 := { stood := { row := foldConjugateUptoRow, standIns := [], harness := (true, "4ae70c76cd73c85094863924f4287a5611e3b8b3bcc7fc3e628655277369fee3"), looks := false }, kinds := [], alts := [], laidByText := true, laidKinds := [.data], laidTests := true, laidLooks := .later }
def FoldConjugateUptoCardSaid : Prop := Claim7.holds Tryz.pinned (.plain (OpenSpec.upto foldConjugateSpec)) foldConjugateUptoCard

/-- THE SECOND FORM's CARD OF 'duodecimolaw02.FoldWhole'. -/
def foldWholeUptoCard : Claim7 := { stood := { row := foldWholeUptoRow, standIns := [], harness := (true, "4ae70c76cd73c85094863924f4287a5611e3b8b3bcc7fc3e628655277369fee3"), looks := false }, kinds := [], alts := [], laidByText := true, laidKinds := [.data], laidTests := true, laidLooks := .later }
def FoldWholeUptoCardSaid : Prop := Claim7.holds Tryz.pinned (.plain (OpenSpec.upto foldWholeSpec)) foldWholeUptoCard

/-- THE SECOND FORM's CARD OF 'duodecimolaw02.FoldMarks'. -/
def foldMarksUptoCard : Claim7 := { stood := { row := foldMarksUptoRow, standIns := [], harness := (true, "4ae70c76cd73c85094863924f4287a5611e3b8b3bcc7fc3e628655277369fee3"), looks := false }, kinds := [], alts := [], laidByText := true, laidKinds := [.data], laidTests := true, laidLooks := .later }
def FoldMarksUptoCardSaid : Prop := Claim7.holds Tryz.pinned (.plain (OpenSpec.upto foldMarksSpec)) foldMarksUptoCard
end Rows
end Go.Proofs.YtielaaaeecfkoaaGreatDoor
