/- The parts Hm, Hn, Hq, Ys, Ya of the proof, joined. It holds without conditions of its own. -/
import Derived.Test.YtpdhdgdbknnllaaGreatDoorFX29
import Derived.Test.YtpdhdgdbknnllaaGreatDoorFX19
import Derived.Test.YtpdhdgdbknnllaaGreatDoorFX8
import Derived.Test.YtpdhdgdbknnllaaGreatDoorFX27
import Derived.Test.YtpdhdgdbknnllaaGreatDoorFX1
import Derived.Test.YtpdhdgdbknnllaaGreatDoorFX3
import Derived.Test.YtpdhdgdbknnllaaGreatDoorFX4
set_option maxRecDepth 100000
set_option maxHeartbeats 20000000
namespace Go.Proofs.YtpdhdgdbknnllaaGreatDoor
section
set_option linter.unusedSimpArgs false
set_option linter.unusedVariables false
open Go
abbrev yN {α : Type} (l : Tr α) (x : Option α) (r : Tr α) : Tr α := Tr.node l x r
abbrev yL {α : Type} : Tr α := Tr.leaf
abbrev yI (n : Nat) : V := V.lit (Value.int IntKind.i64 (Int.ofNat n))
abbrev yM (n : Nat) : V := V.lit (Value.int IntKind.i64 (Int.negSucc n))
abbrev yF : V := V.lit (Value.bool Bool.false)
abbrev yT : V := V.lit (Value.bool Bool.true)
abbrev yS (a b c d : Nat) : V := V.slc a b c d Bool.true
abbrev yZ (a b c d : Nat) : V := V.slc a b c d Bool.false
abbrev yO : V := V.lit (Value.slice none 0 0)
abbrev yG (l : List V) : V := V.agg l
abbrev yU (l : List V) : V := V.tup l
abbrev yW (l : List Nat) : V := V.lit (Value.string (ByteArray.mk (Array.mk (l.map UInt8.ofNat))))
abbrev yIs (n : Nat) : Option V := some (yI n)
abbrev ySs (a b c d : Nat) : Option V := some (yS a b c d)
abbrev yZs (a b c d : Nat) : Option V := some (yZ a b c d)
end
section
set_option linter.unusedSimpArgs false
set_option linter.unusedVariables false
open Go Go.RowKit
noncomputable section
def yfA0 : Fr := ⟨.leaf, (Tryz.f16).ntmps, [], 1⟩
def yfH0 (t : TypeId) : H := h00 tab64 t
def yfA1 : Fr := (Fr.mk (yN yL (some yF) yL) 194 [] 1)
def yfH1 (t : TypeId) : H := ⟨40, 40, 40, .node yL (some (.cells tab64 t)) yL⟩
theorem yfP0 (t : TypeId) : evGc Tryz.prog 100000 (piece 0 (bodyOf Tryz.f16)) yfA0 (yfH0 t) [0] = .ok (.normal, yfA1, yfH1 t) := by kernel_rfl
def yfA2 : Fr := (Fr.mk (yN (yN yL (some (V.ptr 45 0)) (yN (yN yL none (yN yL (some (yG [(yZ 41 0 3 3), (yZ 44 0 1 1), (yI 10), (yI 2)])) yL)) none yL)) (some yF) yL) 194 [] 1)
def yfH2 (t : TypeId) : H := ⟨46, 40, 40, .node (yN yL none (yN (yN yL none (yN (yN yL (some (Ob.cells [(yW [102, 111, 108, 105, 111]), (yW [120]), (yW [113, 117, 97, 114, 116, 111]), (yW [120, 121]), (yW [111, 99, 116, 97, 118, 111]), (yW [120, 121, 120])] 115)) yL) none yL)) none (yN yL none (yN (yN yL (some (Ob.cells [(yZ 41 0 3 3), (yZ 44 0 1 1), (yI 10), (yI 2)] 25)) yL) none yL)))) (some (.cells tab64 t)) (yN (yN yL none (yN yL none (yN (yN yL (some (Ob.cells [(yW [112, 111, 116]), (yI 400), (yI 410), (yI 300), (yI 306)] 67)) yL) none yL))) none yL)⟩
theorem yfP1 (t : TypeId) : evGc Tryz.prog 100000 (piece 1 (bodyOf Tryz.f16)) yfA1 (yfH1 t) [0, 41, 44, 45] = .ok (.normal, yfA2, yfH2 t) := by kernel_rfl
def yfA3 : Fr := (Fr.mk (yN (yN (yN (yN (yN (yN yL (yIs 0) yL) none yL) none yL) (yIs 0) (yN yL none (yN yL (some (yG [(yZ 41 0 3 3), (yZ 44 0 1 1), (yI 10), (yI 2)])) yL))) (some (V.ptr 45 0)) (yN (yN yL none (yN yL (some (yG [(yZ 41 0 3 3), (yZ 44 0 1 1), (yI 10), (yI 2)])) yL)) none (yN yL none (yN yL (some (yU [(yS 130 0 4 4), (yI 0)])) yL)))) (some yF) (yN (yN yL none (yN yL none (yN yL (some (yG [(yI 1), (yI 0), (yI 1), yF])) yL))) (ySs 130 0 4 4) (yN (yN yL none (yN yL (some (yU [(yS 130 0 4 4), (yI 0)])) yL)) none (yN yL none (yN yL (ySs 130 0 4 4) yL))))) 194 [] 1)
def yfH3 (t : TypeId) : H := ⟨132, 40, 40, .node (yN yL none (yN (yN yL none (yN (yN yL (some (Ob.cells [(yW [102, 111, 108, 105, 111]), (yW [120]), (yW [113, 117, 97, 114, 116, 111]), (yW [120, 121]), (yW [111, 99, 116, 97, 118, 111]), (yW [120, 121, 120])] 115)) yL) none yL)) none (yN yL none (yN (yN yL (some (Ob.cells [(yZ 41 0 3 3), (yZ 44 0 1 1), (yI 10), (yI 2)] 25)) yL) none yL)))) (some (.cells tab64 t)) (yN (yN yL none (yN yL none (yN (yN yL (some (Ob.cells [(yW [112, 111, 116]), (yI 400), (yI 410), (yI 300), (yI 306)] 67)) yL) none yL))) none (yN (yN (yN (yN (yN (yN yL (some (Ob.cells [(yI 0), (yI 0), (yI 0), yF, yF, (yI 0), (yI 1), (yI 0), yT, yT, (yI 0), (yI 1), (yI 1), yF, yT, (yI 0), (yI 0), (yI 1), yT, yF] 106)) yL) none yL) none yL) none yL) none yL) none yL))⟩
theorem yfP2 (t : TypeId) : evGc Tryz.prog 100000 (piece 2 (bodyOf Tryz.f16)) yfA2 (yfH2 t) [0, 41, 44, 45, 130] = .ok (.normal, yfA3, yfH3 t) := by kernel_rfl
def yfA4 : Fr := (Fr.mk (yN (yN (yN (yN (yN (yN yL (yIs 0) yL) none yL) none yL) (yIs 0) (yN (yN (yN yL (some (yU [(yS 234 0 4 4), (yI 0)])) yL) none yL) none (yN yL (some (yG [(yZ 41 0 3 3), (yZ 44 0 1 1), (yI 10), (yI 2)])) yL))) (some (V.ptr 45 0)) (yN (yN (yN (yN yL (some (yG [(yZ 41 0 3 3), (yZ 44 0 1 1), (yI 10), (yI 2)])) yL) none yL) none (yN yL (some (yG [(yZ 41 0 3 3), (yZ 44 0 1 1), (yI 10), (yI 2)])) yL)) (yIs 0) (yN (yN (yN yL (yIs 0) yL) none yL) none (yN yL (some (yU [(yS 130 0 4 4), (yI 0)])) yL)))) (some yF) (yN (yN (yN (yN (yN yL (some (yU [(yS 234 0 4 4), (yI 0)])) yL) none yL) none yL) (ySs 234 0 4 4) (yN (yN (yN yL (ySs 234 0 4 4) yL) none yL) none (yN yL (some (yG [(yI 1), (yI 0), (yI 1), yF])) yL))) (ySs 130 0 4 4) (yN (yN (yN (yN yL (some (yG [(yI 1), (yI 0), (yI 1), yF])) yL) none yL) none (yN yL (some (yU [(yS 130 0 4 4), (yI 0)])) yL)) none (yN yL none (yN yL (ySs 130 0 4 4) yL))))) 194 [] 1)
def yfH4 (t : TypeId) : H := ⟨235, 40, 40, .node (yN yL none (yN (yN yL none (yN (yN yL (some (Ob.cells [(yW [102, 111, 108, 105, 111]), (yW [120]), (yW [113, 117, 97, 114, 116, 111]), (yW [120, 121]), (yW [111, 99, 116, 97, 118, 111]), (yW [120, 121, 120])] 115)) yL) none yL)) none (yN yL none (yN (yN yL (some (Ob.cells [(yZ 41 0 3 3), (yZ 44 0 1 1), (yI 10), (yI 2)] 25)) yL) none yL)))) (some (.cells tab64 t)) (yN (yN yL none (yN yL none (yN (yN yL (some (Ob.cells [(yW [112, 111, 116]), (yI 400), (yI 410), (yI 300), (yI 306)] 67)) yL) none yL))) none (yN (yN (yN (yN (yN (yN yL (some (Ob.cells [(yI 0), (yI 0), (yI 0), yF, yF, (yI 0), (yI 1), (yI 0), yT, yT, (yI 0), (yI 1), (yI 1), yF, yT, (yI 0), (yI 0), (yI 1), yT, yF] 106)) yL) none yL) none yL) none yL) none (yN (yN yL none (yN yL none (yN yL (some (Ob.cells [(yI 2), (yM 2), (yI 7), (yM 5)] 3)) yL))) none yL)) none yL))⟩
theorem yfP3 (t : TypeId) : evGc Tryz.prog 100000 (piece 3 (bodyOf Tryz.f16)) yfA3 (yfH3 t) [0, 41, 44, 45, 130, 234] = .ok (.normal, yfA4, yfH4 t) := by kernel_rfl
end
end
end Go.Proofs.YtpdhdgdbknnllaaGreatDoor
