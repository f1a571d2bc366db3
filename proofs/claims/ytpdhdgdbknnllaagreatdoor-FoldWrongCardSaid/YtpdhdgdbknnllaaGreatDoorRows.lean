/-
  NARROWER THAN 'FOR EVERY INPUT', by the rows' own cells (each row's printed sentence says how): FoldAgrees: laid · FoldTrue: laid · FoldMore: laid · FoldWrong: laid · FoldWider: laid.
  DERIVED. THE GIVEN ROWS OF THIS SEAT. 5 by the template 'for every input the law returns true; each argument reads behind the call as it read before'; 0 by the template 'total and deterministic' (their statements: YtpdhdgdbknnllaaGreatDoorTotals.lean).
  GIVEN WITH THE SEED: the statements are not yours to turn. If you find one false, say at which input.
  Laid BY PROGRAM, IN A SANDBOX (cutbox-rows.mjs): the forced cells as the released guide's own fill.sh prints them over the translation 4c2421a0ba6f3f99… (all of the seat's roots in one cut). By AI agents, Wed Nov 11 2026. No macro, syntax, notation, axiom, sorry.
-/
import Derived.Test.YtpdhdgdbknnllaaGreatDoorChecked
import GoSem.Claim
import GoSem.ClaimJoined
import GoSem.ClaimMapViews
import Derived.JoinedTies
import Derived.KernelRfl
namespace Go.Proofs.YtpdhdgdbknnllaaGreatDoor
/- THE CELL 'sum', in the pinned program and in every row, IS THE sha256 OF THE DUMP (.gsa) THAT YtpdhdgdbknnllaaGreatDoorProg.lean LOADS. Nothing in Lean hashes anything: it is a label: what it is worth is what the hold of that sum in a sandbox is worth. -/
noncomputable def Tryz.pinned : Pinned := { name := "ytpdhdgdbknnllaagreatdoor", sum := "4c2421a0ba6f3f998798580c2eaf40b9f0fd40c7a7b054f3b5fe88d9c76d3221", checked := Tryz.checked }
namespace Rows
def none {H : Type} : Left H := { results := [], args := [] }

/- WHAT THE LISTED PACKAGE-LEVEL VARIABLES READ AS WHEN THE CALL BEGINS. Each datum BY PROGRAM (the guide's laid-datum.mjs) off the statement by which the dump's own 'gosem.cut.vars' lays the variable. In a bare row this is a premise. The card (YtpdhdgdbknnllaaGreatDoorCards.lean) ties it to the program's text. -/
def laid_math_bits_deBruijn64tab {H : Type} : DataW H := .agg [.lit (.int .u8 0), .lit (.int .u8 1), .lit (.int .u8 56), .lit (.int .u8 2), .lit (.int .u8 57), .lit (.int .u8 49), .lit (.int .u8 28), .lit (.int .u8 3), .lit (.int .u8 61), .lit (.int .u8 58), .lit (.int .u8 42), .lit (.int .u8 50), .lit (.int .u8 38), .lit (.int .u8 29), .lit (.int .u8 17), .lit (.int .u8 4), .lit (.int .u8 62), .lit (.int .u8 47), .lit (.int .u8 59), .lit (.int .u8 36), .lit (.int .u8 45), .lit (.int .u8 43), .lit (.int .u8 51), .lit (.int .u8 22), .lit (.int .u8 53), .lit (.int .u8 39), .lit (.int .u8 33), .lit (.int .u8 30), .lit (.int .u8 24), .lit (.int .u8 18), .lit (.int .u8 12), .lit (.int .u8 5), .lit (.int .u8 63), .lit (.int .u8 55), .lit (.int .u8 48), .lit (.int .u8 27), .lit (.int .u8 60), .lit (.int .u8 41), .lit (.int .u8 37), .lit (.int .u8 16), .lit (.int .u8 46), .lit (.int .u8 35), .lit (.int .u8 44), .lit (.int .u8 21), .lit (.int .u8 52), .lit (.int .u8 32), .lit (.int .u8 23), .lit (.int .u8 11), .lit (.int .u8 54), .lit (.int .u8 26), .lit (.int .u8 40), .lit (.int .u8 15), .lit (.int .u8 34), .lit (.int .u8 20), .lit (.int .u8 31), .lit (.int .u8 10), .lit (.int .u8 25), .lit (.int .u8 14), .lit (.int .u8 19), .lit (.int .u8 9), .lit (.int .u8 13), .lit (.int .u8 8), .lit (.int .u8 7), .lit (.int .u8 6)]

/-- 'duodecimolaw02.FoldAgrees': WHATEVER THE INPUT: true; the input reads as it did. -/
def foldAgreesSpec : ChangeSpec := { name := "foldAgrees", fn := fun _ => fun
  | [d1, d2, d3] => { results := [.lit (.bool true)], args := [d1, d2, d3] }
  | _ => none }
def foldAgreesRow : OpenClaim := { program := "ytpdhdgdbknnllaagreatdoor", sum := "4c2421a0ba6f3f998798580c2eaf40b9f0fd40c7a7b054f3b5fe88d9c76d3221", func := "duodecimo/duodecimolaw02.FoldAgrees", spec := "foldAgrees", unfollowed := true, recurses := true, named := ["math/bits.deBruijn64tab"], plainKeys := false, apart := false, laid := [("math/bits.deBruijn64tab", laid_math_bits_deBruijn64tab)] }
def FoldAgreesSaid : Prop := foldAgreesRow.holds Tryz.pinned (OpenSpec.ofChange foldAgreesSpec)

/-- ITS FALSE NEIGHBOUR: 'it returns false'. Refute it at one input. -/
def foldAgreesWrong : ChangeSpec := { name := "foldAgrees", fn := fun _ => fun
  | [d1, d2, d3] => { results := [.lit (.bool false)], args := [d1, d2, d3] }
  | _ => none }
def FoldAgreesWrongFalsely : Prop := foldAgreesRow.holds Tryz.pinned (OpenSpec.ofChange foldAgreesWrong)

/-- 'duodecimolaw02.FoldTrue': WHATEVER THE INPUT: true; the input reads as it did. -/
def foldTrueSpec : ChangeSpec := { name := "foldTrue", fn := fun _ => fun
  | [d1, d2, d3] => { results := [.lit (.bool true)], args := [d1, d2, d3] }
  | _ => none }
def foldTrueRow : OpenClaim := { program := "ytpdhdgdbknnllaagreatdoor", sum := "4c2421a0ba6f3f998798580c2eaf40b9f0fd40c7a7b054f3b5fe88d9c76d3221", func := "duodecimo/duodecimolaw02.FoldTrue", spec := "foldTrue", unfollowed := true, recurses := true, named := ["math/bits.deBruijn64tab"], plainKeys := false, apart := false, laid := [("math/bits.deBruijn64tab", laid_math_bits_deBruijn64tab)] }
def FoldTrueSaid : Prop := foldTrueRow.holds Tryz.pinned (OpenSpec.ofChange foldTrueSpec)

/-- ITS FALSE NEIGHBOUR: 'it returns false'. Refute it at one input. -/
def foldTrueWrong : ChangeSpec := { name := "foldTrue", fn := fun _ => fun
  | [d1, d2, d3] => { results := [.lit (.bool false)], args := [d1, d2, d3] }
  | _ => none }
def FoldTrueWrongFalsely : Prop := foldTrueRow.holds Tryz.pinned (OpenSpec.ofChange foldTrueWrong)

/-- 'duodecimolaw02.FoldMore': WHATEVER THE INPUT: true; the input reads as it did. -/
def foldMoreSpec : ChangeSpec := { name := "foldMore", fn := fun _ => fun
  | [d1, d2, d3] => { results := [.lit (.bool true)], args := [d1, d2, d3] }
  | _ => none }
def foldMoreRow : OpenClaim := { program := "ytpdhdgdbknnllaagreatdoor", sum := "4c2421a0ba6f3f998798580c2eaf40b9f0fd40c7a7b054f3b5fe88d9c76d3221", func := "duodecimo/duodecimolaw02.FoldMore", spec := "foldMore", unfollowed := true, recurses := true, named := ["math/bits.deBruijn64tab"], plainKeys := false, apart := false, laid := [("math/bits.deBruijn64tab", laid_math_bits_deBruijn64tab)] }
def FoldMoreSaid : Prop := foldMoreRow.holds Tryz.pinned (OpenSpec.ofChange foldMoreSpec)

/-- ITS FALSE NEIGHBOUR: 'it returns false'. Refute it at one input. -/
def foldMoreWrong : ChangeSpec := { name := "foldMore", fn := fun _ => fun
  | [d1, d2, d3] => { results := [.lit (.bool false)], args := [d1, d2, d3] }
  | _ => none }
def FoldMoreWrongFalsely : Prop := foldMoreRow.holds Tryz.pinned (OpenSpec.ofChange foldMoreWrong)

/-- 'duodecimolaw02.FoldWrong': WHATEVER THE INPUT: true; the input reads as it did. -/
def foldWrongSpec : ChangeSpec := { name := "foldWrong", fn := fun _ => fun
  | [d1, d2, d3] => { results := [.lit (.bool true)], args := [d1, d2, d3] }
  | _ => none }
def foldWrongRow : OpenClaim := { program := "ytpdhdgdbknnllaagreatdoor", sum := "4c2421a0ba6f3f998798580c2eaf40b9f0fd40c7a7b054f3b5fe88d9c76d3221", func := "duodecimo/duodecimolaw02.FoldWrong", spec := "foldWrong", unfollowed := true, recurses := true, named := ["math/bits.deBruijn64tab"], plainKeys := false, apart := false, laid := [("math/bits.deBruijn64tab", laid_math_bits_deBruijn64tab)] }
def FoldWrongSaid : Prop := foldWrongRow.holds Tryz.pinned (OpenSpec.ofChange foldWrongSpec)

/-- ITS FALSE NEIGHBOUR: 'it returns false'. Refute it at one input. -/
def foldWrongWrong : ChangeSpec := { name := "foldWrong", fn := fun _ => fun
  | [d1, d2, d3] => { results := [.lit (.bool false)], args := [d1, d2, d3] }
  | _ => none }
def FoldWrongWrongFalsely : Prop := foldWrongRow.holds Tryz.pinned (OpenSpec.ofChange foldWrongWrong)

/-- 'duodecimolaw02.FoldWider': WHATEVER THE INPUT: true; the input reads as it did. -/
def foldWiderSpec : ChangeSpec := { name := "foldWider", fn := fun _ => fun
  | [d1, d2, d3] => { results := [.lit (.bool true)], args := [d1, d2, d3] }
  | _ => none }
def foldWiderRow : OpenClaim := { program := "ytpdhdgdbknnllaagreatdoor", sum := "4c2421a0ba6f3f998798580c2eaf40b9f0fd40c7a7b054f3b5fe88d9c76d3221", func := "duodecimo/duodecimolaw02.FoldWider", spec := "foldWider", unfollowed := true, recurses := true, named := ["math/bits.deBruijn64tab"], plainKeys := false, apart := false, laid := [("math/bits.deBruijn64tab", laid_math_bits_deBruijn64tab)] }
def FoldWiderSaid : Prop := foldWiderRow.holds Tryz.pinned (OpenSpec.ofChange foldWiderSpec)

/-- ITS FALSE NEIGHBOUR: 'it returns false'. Refute it at one input. -/
def foldWiderWrong : ChangeSpec := { name := "foldWider", fn := fun _ => fun
  | [d1, d2, d3] => { results := [.lit (.bool false)], args := [d1, d2, d3] }
  | _ => none }
def FoldWiderWrongFalsely : Prop := foldWiderRow.holds Tryz.pinned (OpenSpec.ofChange foldWiderWrong)

/- THE SECOND FORM. 'bulk': how many values and letters a reading holds, each counted each time it is reached (what is shared counts as often as it is met; a slice's spare places count too). A statement '..UptoSaid' is the law's where the arguments, and the package variables that the reading takes, are together of bulk at most 1048576: NARROWER than '..Said'. Prove '..Said' where nothing that the law and all that it calls make is longer than what came in: it says more and counts as full. Else prove '..UptoSaid'. A law counts once. -/
mutual
def uptoBulk {H : Type} : DataW H → Nat
  | .lit (.string bytes) => bytes.length + 1
  | .lit _ => 1
  | .nil => 1
  | .ptr d => uptoBulk d + 1
  | .slice elems spare => uptoBulkAll elems + uptoBulkAll spare + 1
  | .agg parts => uptoBulkAll parts + 1
  | .iface _ d => uptoBulk d + 1
  | .map entries => uptoBulkEntries entries + 1
  | .held _ => 1
def uptoBulkAll {H : Type} : List (DataW H) → Nat
  | [] => 0
  | d :: r => uptoBulk d + uptoBulkAll r
def uptoBulkEntries {H : Type} : List (Lit × DataW H) → Nat
  | [] => 0
  | x :: r => uptoBulkEntry x + uptoBulkEntries r
def uptoBulkEntry {H : Type} : Lit × DataW H → Nat
  | (.string bytes, d) => bytes.length + uptoBulk d + 1
  | (_, d) => uptoBulk d + 1
 end
def uptoSmall : (H : Type) → List (DataW H) → Bool := fun _ ds => decide (uptoBulkAll ds ≤ 1048576)
def OpenSpec.upto (s : _root_.Go.ChangeSpec) : _root_.Go.OpenSpec := { _root_.Go.OpenSpec.ofChange s with cond := some uptoSmall }

/-- 'duodecimolaw02.FoldAgrees', WHERE WHAT IT READS IS OF BULK AT MOST 1048576: true; the input reads as it did. -/
def foldAgreesUptoRow : OpenClaim := { program := "ytpdhdgdbknnllaagreatdoor", sum := "4c2421a0ba6f3f998798580c2eaf40b9f0fd40c7a7b054f3b5fe88d9c76d3221", func := "duodecimo/duodecimolaw02.FoldAgrees", spec := "foldAgrees", unfollowed := true, recurses := true, named := ["math/bits.deBruijn64tab"], plainKeys := false, apart := false, laid := [("math/bits.deBruijn64tab", laid_math_bits_deBruijn64tab)], narrowed := true }
def FoldAgreesUptoSaid : Prop := foldAgreesUptoRow.holds Tryz.pinned (OpenSpec.upto foldAgreesSpec)

/-- 'duodecimolaw02.FoldTrue', WHERE WHAT IT READS IS OF BULK AT MOST 1048576: true; the input reads as it did. -/
def foldTrueUptoRow : OpenClaim := { program := "ytpdhdgdbknnllaagreatdoor", sum := "4c2421a0ba6f3f998798580c2eaf40b9f0fd40c7a7b054f3b5fe88d9c76d3221", func := "duodecimo/duodecimolaw02.FoldTrue", spec := "foldTrue", unfollowed := true, recurses := true, named := ["math/bits.deBruijn64tab"], plainKeys := false, apart := false, laid := [("math/bits.deBruijn64tab", laid_math_bits_deBruijn64tab)], narrowed := true }
def FoldTrueUptoSaid : Prop := foldTrueUptoRow.holds Tryz.pinned (OpenSpec.upto foldTrueSpec)

/-- 'duodecimolaw02.FoldMore', WHERE WHAT IT READS IS OF BULK AT MOST 1048576: true; the input reads as it did. -/
def foldMoreUptoRow : OpenClaim := { program := "ytpdhdgdbknnllaagreatdoor", sum := "4c2421a0ba6f3f998798580c2eaf40b9f0fd40c7a7b054f3b5fe88d9c76d3221", func := "duodecimo/duodecimolaw02.FoldMore", spec := "foldMore", unfollowed := true, recurses := true, named := ["math/bits.deBruijn64tab"], plainKeys := false, apart := false, laid := [("math/bits.deBruijn64tab", laid_math_bits_deBruijn64tab)], narrowed := true }
def FoldMoreUptoSaid : Prop := foldMoreUptoRow.holds Tryz.pinned (OpenSpec.upto foldMoreSpec)

/-- 'duodecimolaw02.FoldWrong', WHERE WHAT IT READS IS OF BULK AT MOST 1048576: true; the input reads as it did. -/
def foldWrongUptoRow : OpenClaim := { program := "ytpdhdgdbknnllaagreatdoor", sum := "4c2421a0ba6f3f998798580c2eaf40b9f0fd40c7a7b054f3b5fe88d9c76d3221", func := "duodecimo/duodecimolaw02.FoldWrong", spec := "foldWrong", unfollowed := true, recurses := true, named := ["math/bits.deBruijn64tab"], plainKeys := false, apart := false, laid := [("math/bits.deBruijn64tab", laid_math_bits_deBruijn64tab)], narrowed := true }
def FoldWrongUptoSaid : Prop := foldWrongUptoRow.holds Tryz.pinned (OpenSpec.upto foldWrongSpec)

/-- 'duodecimolaw02.FoldWider', WHERE WHAT IT READS IS OF BULK AT MOST 1048576: true; the input reads as it did. -/
def foldWiderUptoRow : OpenClaim := { program := "ytpdhdgdbknnllaagreatdoor", sum := "4c2421a0ba6f3f998798580c2eaf40b9f0fd40c7a7b054f3b5fe88d9c76d3221", func := "duodecimo/duodecimolaw02.FoldWider", spec := "foldWider", unfollowed := true, recurses := true, named := ["math/bits.deBruijn64tab"], plainKeys := false, apart := false, laid := [("math/bits.deBruijn64tab", laid_math_bits_deBruijn64tab)], narrowed := true }
def FoldWiderUptoSaid : Prop := foldWiderUptoRow.holds Tryz.pinned (OpenSpec.upto foldWiderSpec)

end Rows
end Go.Proofs.YtpdhdgdbknnllaaGreatDoor
