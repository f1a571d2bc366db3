/-
  DERIVED. GIVEN WITH THE SEED: THE CARDS: each row of YtlekbddlemfokaaDoorRows.lean that lists a variable, with what it lists TIED to the program's text (the seventh form; the later family's looks); each row that meets fmt, with fmt's text TOLD by the authors' own Lean function (tested against real Go, not proved from fmt's source: count such statements apart). THE CARD IS WHAT COUNTS. Prove the row's statement (the work); the ties are given (YtlekbddlemfokaaDoorTie.lean); close each card by the builder's one call (the guide's Derived/Test/ToyasCard.lean, 'card_holds'). Laid BY PROGRAM, IN A SANDBOX (cutbox-door.mjs). By AI agents, Wed Nov 11 2026. No macro, syntax, notation, axiom, sorry.
-/
import Derived.Test.YtlekbddlemfokaaDoorRows
import GoSem.ClaimSeven
namespace Go.Proofs.YtlekbddlemfokaaDoor
namespace Rows

/-- THE TIED CARD OF 'duodecimolaw01.QuireKnown'. -/
def quireKnownCard : Claim7 := { stood := { row := quireKnownRow, standIns := [], harness := (true, "ab51c1d043e32f8676d5ffd59db39259c0f4667d0cbb9db07bea21b3d4a7bcca"), looks := true }, kinds := [], alts := [], laidByText := true, laidKinds := [.data, .data, .data], laidTests := true, laidLooks := .later }
def QuireKnownCardSaid : Prop := Claim7.holds Tryd.pinned (.plain (OpenSpec.ofChange quireKnownSpec)) quireKnownCard

/-- THE TIED CARD OF 'duodecimolaw01.QuireNext'. -/
def quireNextCard : Claim7 := { stood := { row := quireNextRow, standIns := [], harness := (true, "ab51c1d043e32f8676d5ffd59db39259c0f4667d0cbb9db07bea21b3d4a7bcca"), looks := true }, kinds := [], alts := [], laidByText := true, laidKinds := [.data, .data, .data], laidTests := true, laidLooks := .later }
def QuireNextCardSaid : Prop := Claim7.holds Tryd.pinned (.plain (OpenSpec.ofChange quireNextSpec)) quireNextCard

/-- THE SECOND FORM's CARD OF 'duodecimolaw01.QuireKnown'. -/
def quireKnownUptoCard : Claim7 := { stood := { row := quireKnownUptoRow, standIns := [], harness := (true, "ab51c1d043e32f8676d5ffd59db39259c0f4667d0cbb9db07bea21b3d4a7bcca"), looks := true }, kinds := [], alts := [], laidByText := true, laidKinds := [.data, .data, .data], laidTests := true, laidLooks := .later }
def QuireKnownUptoCardSaid : Prop := Claim7.holds Tryd.pinned (.plain (OpenSpec.upto quireKnownSpec)) quireKnownUptoCard

/-- THE SECOND FORM's CARD OF 'duodecimolaw01.QuireNext'. -/
def quireNextUptoCard : Claim7 := { stood := { row := quireNextUptoRow, standIns := [], harness := (true, "ab51c1d043e32f8676d5ffd59db39259c0f4667d0cbb9db07bea21b3d4a7bcca"), looks := true }, kinds := [], alts := [], laidByText := true, laidKinds := [.data, .data, .data], laidTests := true, laidLooks := .later }
def QuireNextUptoCardSaid : Prop := Claim7.holds Tryd.pinned (.plain (OpenSpec.upto quireNextSpec)) quireNextUptoCard
end Rows
end Go.Proofs.YtlekbddlemfokaaDoor
