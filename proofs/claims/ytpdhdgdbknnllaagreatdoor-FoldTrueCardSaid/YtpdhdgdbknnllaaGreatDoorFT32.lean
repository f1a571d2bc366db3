/- The parts Yd, Hy, Kfp of the proof, joined. It holds without conditions of its own. -/
import Derived.Test.YtpdhdgdbknnllaaGreatDoorFT31
import Derived.Test.YtpdhdgdbknnllaaGreatDoorFT22
import Derived.Test.YtpdhdgdbknnllaaGreatDoorFT28
import Derived.Test.YtpdhdgdbknnllaaGreatDoorFT29
import Derived.Test.YtpdhdgdbknnllaaGreatDoorFT13
import Derived.Test.YtpdhdgdbknnllaaGreatDoorFT3
import Derived.Test.YtpdhdgdbknnllaaGreatDoorFT4
import Derived.Test.YtpdhdgdbknnllaaGreatDoorCards
import Derived.Test.YtpdhdgdbknnllaaGreatDoorTie
import Derived.ChangeSame
import Derived.SevenTiedAt
set_option maxRecDepth 100000
set_option maxHeartbeats 20000000
namespace Go.Proofs.YtpdhdgdbknnllaaGreatDoor
section
set_option linter.unusedSimpArgs false
set_option linter.unusedVariables false
open Go Go.RowKit
noncomputable section
def yfA11 : Fr := (Fr.mk (yN (yN (yN (yN (yN (yN (yN yL (some (yU [(yS 1110 0 3 3), (yI 0)])) yL) (yIs 0) yL) (ySs 1620 0 1 1) (yN (yN yL (some (yG [(yI 4), (yI 1), (yI 145), (yI 146), (yI 190), (yI 191), yO])) yL) (some (yU [(yS 499 0 7 7), (yI 6), (yI 0)])) yL)) (yIs 0) (yN (yN (yN yL (some (yU [(yS 1620 0 1 1), (yS 1626 0 3 3), (yI 0)])) yL) (some (yG [(yZ 41 0 3 3), (yZ 44 0 1 1), (yI 10), (yI 2)])) yL) none (yN (yN yL (some (yG [(yI 3), (yI 0), (yI 0), (yI 2000), (yI 0), (yI 2000), yO])) yL) (some (yU [(yS 622 0 4 4), (yI 0)])) yL))) (yIs 0) (yN (yN (yN (yN yL (some (yG [(yZ 41 0 3 3), (yZ 44 0 1 1), (yI 10), (yI 2)])) yL) (some (yU [(yS 234 0 4 4), (yI 0)])) yL) (yIs 0) (yN (yN yL (some (yU [yO, (yI 9)])) yL) (some (yU [(yS 622 0 4 4), (yI 0)])) yL)) (ySs 622 0 4 4) (yN (yN (yN yL (some (yU [(yS 2124 0 1 1), (yI 0)])) yL) (yIs 0) yL) (some (yG [(yZ 41 0 3 3), (yZ 44 0 1 1), (yI 10), (yI 2)])) (yN yL (some (yG [(yZ 41 0 3 3), (yZ 44 0 1 1), (yI 10), (yI 2)])) yL)))) (some (V.ptr 45 0)) (yN (yN (yN (yN (yN yL (yIs 0) yL) (some (yG [(yZ 41 0 3 3), (yZ 44 0 1 1), (yI 10), (yI 2)])) yL) (yIs 0) (yN (yN yL (ySs 2124 0 1 1) yL) (yIs 6) yL)) (yIs 6) (yN (yN (yN yL (ySs 1626 0 3 3) yL) (some (yU [(yS 369 0 8 8), (yI 0)])) yL) (some (yG [(yZ 41 0 3 3), (yZ 44 0 1 1), (yI 10), (yI 2)])) (yN (yN yL (some yO) yL) (yIs 0) yL))) (yIs 0) (yN (yN (yN (yN yL (some (yG [(yI 0), (yI 2000)])) yL) (yIs 0) yL) (yIs 9) (yN (yN yL (some (yG [(yI 0), (yI 2000)])) yL) (some (yG [(yI 2), (yI 0), (yI 1), yF])) yL)) (ySs 1110 0 3 3) (yN (yN (yN yL (some (yG [(yI 145), (yI 146)])) yL) (some (yG [(yZ 41 0 3 3), (yZ 44 0 1 1), (yI 10), (yI 2)])) yL) (some (yU [(yS 130 0 4 4), (yI 0)])) (yN yL (some (yG [(yI 0), (yI 2000)])) yL))))) (some yF) (yN (yN (yN (yN (yN (yN yL (ySs 1110 0 3 3) yL) (some (yU [(yS 234 0 4 4), (yI 0)])) yL) (ySs 1626 0 3 3) (yN (yN yL (some (yU [(yS 2124 0 1 1), (yI 0)])) yL) (ySs 499 0 7 7) yL)) (ySs 499 0 7 7) (yN (yN (yN yL (ySs 1620 0 1 1) yL) (some (yG [(yI 2), (yI 0), (yI 1), yF])) yL) none (yN (yN yL (some (yU [yO, (yI 9)])) yL) (ySs 622 0 4 4) yL))) (ySs 234 0 4 4) (yN (yN (yN (yN yL (some (yG [(yI 0), (yI 2000)])) yL) (ySs 234 0 4 4) yL) (some yO) (yN (yN yL (some (yG [(yZ 41 0 3 3), (yZ 44 0 1 1), (yI 10), (yI 2)])) yL) (some (yG [(yZ 41 0 3 3), (yZ 44 0 1 1), (yI 10), (yI 2)])) yL)) (yIs 0) (yN (yN (yN yL (some (yG [(yZ 41 0 3 3), (yZ 44 0 1 1), (yI 10), (yI 2)])) yL) (some (yU [(yS 499 0 7 7), (yI 6), (yI 0)])) yL) (some (yG [(yI 1), (yI 0), (yI 1), yF])) (yN yL (some (yG [(yI 0), (yI 2000)])) yL)))) (ySs 130 0 4 4) (yN (yN (yN (yN (yN yL (some (yU [(yS 1620 0 1 1), (yS 1626 0 3 3), (yI 0)])) yL) (some (yG [(yI 1), (yI 0), (yI 1), yF])) yL) (ySs 2124 0 1 1) (yN (yN yL (yIs 0) yL) (yIs 0) yL)) (yIs 0) (yN (yN (yN yL (yIs 0) yL) (ySs 369 0 8 8) yL) (some (yU [(yS 130 0 4 4), (yI 0)])) (yN (yN yL (yIs 9) yL) (some (yU [(yS 1110 0 3 3), (yI 0)])) yL))) (ySs 369 0 8 8) (yN (yN (yN (yN yL (some (yG [(yI 4), (yI 0), (yI 0), (yI 2000), (yI 0), (yI 2000), yO])) yL) (some (yU [(yS 369 0 8 8), (yI 0)])) yL) none (yN (yN yL (some (yG [(yI 0), (yI 2000)])) yL) (yZs 500 0 1 1) yL)) (yIs 0) (yN (yN (yN yL (some (yG [(yI 190), (yI 191)])) yL) (some (yG [(yI 2), (yI 0), (yI 1), yF])) yL) (ySs 130 0 4 4) (yN yL (some (yG [(yI 4), (yI 0), (yI 0), (yI 2000), (yI 0), (yI 2000), yO])) yL)))))) 194 [] 1)
def yfH11 (t : TypeId) : H := ⟨2544, 40, 40, .node (yN (yN yL none (yN (yN yL none (yN yL none (yN yL none (yN yL none (yN yL (some (Ob.cells [(yI 0), (yI 2), (yI 3), (yI 4), (yI 5), (yI 6), (yI 7)] 3)) yL))))) none yL)) none (yN (yN (yN yL none (yN yL none (yN yL none (yN (yN yL (some (Ob.cells [(yI 1), (yI 16), (yI 13), (yI 4), (yM 7), (yM 8), (yM 11), (yM 4)] 3)) yL) none yL)))) none (yN (yN yL (some (Ob.cells [(yW [102, 111, 108, 105, 111]), (yW [120]), (yW [113, 117, 97, 114, 116, 111]), (yW [120, 121]), (yW [111, 99, 116, 97, 118, 111]), (yW [120, 121, 120])] 115)) yL) none yL)) none (yN yL none (yN (yN yL (some (Ob.cells [(yZ 41 0 3 3), (yZ 44 0 1 1), (yI 10), (yI 2)] 25)) yL) none yL)))) (some (.cells tab64 t)) (yN (yN yL none (yN (yN yL none (yN (yN yL none (yN (yN (yN yL none (yN yL (some (Ob.cells [(yI 3)] 3)) yL)) none yL) none yL)) none (yN yL none (yN yL none (yN yL (some (Ob.cells [(yI 0)] 3)) yL))))) none (yN (yN (yN yL none (yN (yN (yN (yN (yN yL (some (Ob.cells [(yI 0)] 3)) yL) none yL) none yL) none yL) none yL)) (some (Ob.cells [(yW [112, 111, 116]), (yI 400), (yI 410), (yI 300), (yI 306)] 67)) yL) none yL))) none (yN (yN (yN (yN (yN (yN yL (some (Ob.cells [(yI 0), (yI 0), (yI 0), yF, yF, (yI 0), (yI 1), (yI 0), yT, yT, (yI 0), (yI 1), (yI 1), yF, yT, (yI 0), (yI 0), (yI 1), yT, yF] 106)) yL) none yL) none yL) none yL) none (yN (yN yL none (yN yL none (yN yL (some (Ob.cells [(yI 2), (yM 2), (yI 7), (yM 5)] 3)) yL))) none (yN (yN yL none (yN (yN (yN yL none (yN yL (some (Ob.cells [(yI 1), (yI 2), (yI 3)] 3)) yL)) none yL) none yL)) none yL))) none (yN (yN yL none (yN (yN yL none (yN (yN (yN (yN yL (some (Ob.cells [(yI 0), (yI 0), (yI 2), yF, (yI 1), (yI 0), (yI 1), yF, (yI 2), (yI 0), (yI 1), yT] 50)) yL) none yL) none yL) none yL)) none yL)) none (yN (yN yL none (yN yL none (yN (yN (yN yL (some (Ob.cells [(yI 0), (yI 3), (yI 4), (yI 7)] 3)) yL) none yL) none yL))) none yL))))⟩
theorem yfP10 (t : TypeId) : evGc Tryz.prog 100000 (piece 10 (bodyOf Tryz.f16)) yfA10 (yfH10 t) [0, 41, 44, 45, 130, 234, 369, 499, 500, 622, 1110, 1620, 1626, 2124] = .ok (.normal, yfA11, yfH11 t) := by kernel_rfl
def yfA12 : Fr := (Fr.mk (yN (yN (yN (yN (yN (yN (yN yL (some (yU [(yS 1110 0 3 3), (yI 0)])) yL) (yIs 0) (yN yL (some (yG [(yI 4), (yI 1), (yI 145), (yI 146), (yI 0), (yI 2000), yO])) yL)) (ySs 1620 0 1 1) (yN (yN yL (some (yG [(yI 4), (yI 1), (yI 145), (yI 146), (yI 190), (yI 191), yO])) yL) (some (yU [(yS 499 0 7 7), (yI 6), (yI 0)])) yL)) (yIs 0) (yN (yN (yN yL (some (yU [(yS 1620 0 1 1), (yS 1626 0 3 3), (yI 0)])) yL) (some (yG [(yZ 41 0 3 3), (yZ 44 0 1 1), (yI 10), (yI 2)])) yL) (some yO) (yN (yN yL (some (yG [(yI 3), (yI 0), (yI 0), (yI 2000), (yI 0), (yI 2000), yO])) yL) (some (yU [(yS 622 0 4 4), (yI 0)])) yL))) (yIs 0) (yN (yN (yN (yN yL (some (yG [(yZ 41 0 3 3), (yZ 44 0 1 1), (yI 10), (yI 2)])) yL) (some (yU [(yS 234 0 4 4), (yI 0)])) (yN yL (yIs 8) yL)) (yIs 0) (yN (yN yL (some (yU [yO, (yI 9)])) yL) (some (yU [(yS 622 0 4 4), (yI 0)])) yL)) (ySs 622 0 4 4) (yN (yN (yN yL (some (yU [(yS 2124 0 1 1), (yI 0)])) yL) (yIs 0) yL) (some (yG [(yZ 41 0 3 3), (yZ 44 0 1 1), (yI 10), (yI 2)])) (yN (yN yL (some (yU [yO, yO, (yI 8)])) yL) (some (yG [(yZ 41 0 3 3), (yZ 44 0 1 1), (yI 10), (yI 2)])) yL)))) (some (V.ptr 45 0)) (yN (yN (yN (yN (yN yL (yIs 0) yL) (some (yG [(yZ 41 0 3 3), (yZ 44 0 1 1), (yI 10), (yI 2)])) (yN yL (some yO) yL)) (yIs 0) (yN (yN yL (ySs 2124 0 1 1) yL) (yIs 6) yL)) (yIs 6) (yN (yN (yN yL (ySs 1626 0 3 3) yL) (some (yU [(yS 369 0 8 8), (yI 0)])) yL) (some (yG [(yZ 41 0 3 3), (yZ 44 0 1 1), (yI 10), (yI 2)])) (yN (yN yL (some yO) yL) (yIs 0) yL))) (yIs 0) (yN (yN (yN (yN yL (some (yG [(yI 0), (yI 2000)])) yL) (yIs 0) yL) (yIs 9) (yN (yN yL (some (yG [(yI 0), (yI 2000)])) yL) (some (yG [(yI 2), (yI 0), (yI 1), yF])) yL)) (ySs 1110 0 3 3) (yN (yN (yN yL (some (yG [(yI 145), (yI 146)])) yL) (some (yG [(yZ 41 0 3 3), (yZ 44 0 1 1), (yI 10), (yI 2)])) yL) (some (yU [(yS 130 0 4 4), (yI 0)])) (yN (yN yL (some (yG [(yI 145), (yI 146)])) yL) (some (yG [(yI 0), (yI 2000)])) yL))))) (some yF) (yN (yN (yN (yN (yN (yN yL (ySs 1110 0 3 3) yL) (some (yU [(yS 234 0 4 4), (yI 0)])) (yN yL (some (yU [yO, yO, (yI 8)])) yL)) (ySs 1626 0 3 3) (yN (yN yL (some (yU [(yS 2124 0 1 1), (yI 0)])) yL) (ySs 499 0 7 7) yL)) (ySs 499 0 7 7) (yN (yN (yN yL (ySs 1620 0 1 1) yL) (some (yG [(yI 2), (yI 0), (yI 1), yF])) yL) (yIs 8) (yN (yN yL (some (yU [yO, (yI 9)])) yL) (ySs 622 0 4 4) yL))) (ySs 234 0 4 4) (yN (yN (yN (yN yL (some (yG [(yI 0), (yI 2000)])) yL) (ySs 234 0 4 4) yL) (some yO) (yN (yN yL (some (yG [(yZ 41 0 3 3), (yZ 44 0 1 1), (yI 10), (yI 2)])) yL) (some (yG [(yZ 41 0 3 3), (yZ 44 0 1 1), (yI 10), (yI 2)])) yL)) (yIs 0) (yN (yN (yN yL (some (yG [(yZ 41 0 3 3), (yZ 44 0 1 1), (yI 10), (yI 2)])) yL) (some (yU [(yS 499 0 7 7), (yI 6), (yI 0)])) yL) (some (yG [(yI 1), (yI 0), (yI 1), yF])) (yN (yN yL (some (yG [(yZ 41 0 3 3), (yZ 44 0 1 1), (yI 10), (yI 2)])) yL) (some (yG [(yI 0), (yI 2000)])) yL)))) (ySs 130 0 4 4) (yN (yN (yN (yN (yN yL (some (yU [(yS 1620 0 1 1), (yS 1626 0 3 3), (yI 0)])) yL) (some (yG [(yI 1), (yI 0), (yI 1), yF])) (yN yL (some yO) yL)) (ySs 2124 0 1 1) (yN (yN yL (yIs 0) yL) (yIs 0) yL)) (yIs 0) (yN (yN (yN yL (yIs 0) yL) (ySs 369 0 8 8) yL) (some (yU [(yS 130 0 4 4), (yI 0)])) (yN (yN yL (yIs 9) yL) (some (yU [(yS 1110 0 3 3), (yI 0)])) yL))) (ySs 369 0 8 8) (yN (yN (yN (yN yL (some (yG [(yI 4), (yI 0), (yI 0), (yI 2000), (yI 0), (yI 2000), yO])) yL) (some (yU [(yS 369 0 8 8), (yI 0)])) yL) (some yO) (yN (yN yL (some (yG [(yI 0), (yI 2000)])) yL) (yZs 500 0 1 1) yL)) (yIs 0) (yN (yN (yN yL (some (yG [(yI 190), (yI 191)])) yL) (some (yG [(yI 2), (yI 0), (yI 1), yF])) yL) (ySs 130 0 4 4) (yN (yN yL (some (yG [(yI 0), (yI 2000)])) yL) (some (yG [(yI 4), (yI 0), (yI 0), (yI 2000), (yI 0), (yI 2000), yO])) yL)))))) 194 [] 1)
def yfH12 (t : TypeId) : H := ⟨3026, 40, 40, .node (yN (yN yL none (yN (yN yL none (yN yL none (yN yL none (yN yL none (yN yL (some (Ob.cells [(yI 0), (yI 2), (yI 3), (yI 4), (yI 5), (yI 6), (yI 7)] 3)) yL))))) none yL)) none (yN (yN (yN yL none (yN yL none (yN yL none (yN (yN yL (some (Ob.cells [(yI 1), (yI 16), (yI 13), (yI 4), (yM 7), (yM 8), (yM 11), (yM 4)] 3)) yL) none yL)))) none (yN (yN yL (some (Ob.cells [(yW [102, 111, 108, 105, 111]), (yW [120]), (yW [113, 117, 97, 114, 116, 111]), (yW [120, 121]), (yW [111, 99, 116, 97, 118, 111]), (yW [120, 121, 120])] 115)) yL) none yL)) none (yN yL none (yN (yN yL (some (Ob.cells [(yZ 41 0 3 3), (yZ 44 0 1 1), (yI 10), (yI 2)] 25)) yL) none yL)))) (some (.cells tab64 t)) (yN (yN yL none (yN (yN yL none (yN (yN yL none (yN (yN (yN yL none (yN yL (some (Ob.cells [(yI 3)] 3)) yL)) none yL) none yL)) none (yN yL none (yN yL none (yN yL (some (Ob.cells [(yI 0)] 3)) yL))))) none (yN (yN (yN yL none (yN (yN (yN (yN (yN yL (some (Ob.cells [(yI 0)] 3)) yL) none yL) none yL) none yL) none yL)) (some (Ob.cells [(yW [112, 111, 116]), (yI 400), (yI 410), (yI 300), (yI 306)] 67)) yL) none yL))) none (yN (yN (yN (yN (yN (yN yL (some (Ob.cells [(yI 0), (yI 0), (yI 0), yF, yF, (yI 0), (yI 1), (yI 0), yT, yT, (yI 0), (yI 1), (yI 1), yF, yT, (yI 0), (yI 0), (yI 1), yT, yF] 106)) yL) none yL) none yL) none yL) none (yN (yN yL none (yN yL none (yN yL (some (Ob.cells [(yI 2), (yM 2), (yI 7), (yM 5)] 3)) yL))) none (yN (yN yL none (yN (yN (yN yL none (yN yL (some (Ob.cells [(yI 1), (yI 2), (yI 3)] 3)) yL)) none yL) none yL)) none yL))) none (yN (yN yL none (yN (yN yL none (yN (yN (yN (yN yL (some (Ob.cells [(yI 0), (yI 0), (yI 2), yF, (yI 1), (yI 0), (yI 1), yF, (yI 2), (yI 0), (yI 1), yT] 50)) yL) none yL) none yL) none yL)) none yL)) none (yN (yN yL none (yN yL none (yN (yN (yN yL (some (Ob.cells [(yI 0), (yI 3), (yI 4), (yI 7)] 3)) yL) none yL) none yL))) none yL))))⟩
theorem yfP11 (t : TypeId) : evGc Tryz.prog 100000 (piece 11 (bodyOf Tryz.f16)) yfA11 (yfH11 t) [0, 41, 44, 45, 130, 234, 369, 499, 500, 622, 1110, 1620, 1626, 2124] = .ok (.normal, yfA12, yfH12 t) := by kernel_rfl
def yfA13 : Fr := (Fr.mk (yN (yN (yN (yN (yN (yN (yN (yN yL (yIs 0) yL) (some (yU [(yS 1110 0 3 3), (yI 0)])) (yN yL (yZs 3034 0 1 1) yL)) (yIs 0) (yN (yN yL (yZs 3029 0 7 7) yL) (some (yG [(yI 4), (yI 1), (yI 145), (yI 146), (yI 0), (yI 2000), yO])) yL)) (ySs 1620 0 1 1) (yN (yN (yN yL (some (yG [(yI 0), (yI 0), (yI 1), yT, yF])) yL) (some (yG [(yI 4), (yI 1), (yI 145), (yI 146), (yI 190), (yI 191), yO])) yL) (some (yU [(yS 499 0 7 7), (yI 6), (yI 0)])) (yN (yN yL (some (yG [(yI 2), (yI 0), (yI 1), yT])) yL) (yIs 0) yL))) (yIs 0) (yN (yN (yN (yN yL (yIs 8) yL) (some (yU [(yS 1620 0 1 1), (yS 1626 0 3 3), (yI 0)])) yL) (some (yG [(yZ 41 0 3 3), (yZ 44 0 1 1), (yI 10), (yI 2)])) (yN (yN yL (ySs 622 0 4 4) yL) (yIs 0) yL)) (some yO) (yN (yN (yN yL (some yT) yL) (some (yG [(yI 3), (yI 0), (yI 0), (yI 2000), (yI 0), (yI 2000), yO])) yL) (some (yU [(yS 622 0 4 4), (yI 0)])) (yN (yN yL (some yT) yL) (yIs 0) yL)))) (yIs 0) (yN (yN (yN (yN (yN yL (yIs 9) yL) (some (yG [(yZ 41 0 3 3), (yZ 44 0 1 1), (yI 10), (yI 2)])) yL) (some (yU [(yS 234 0 4 4), (yI 0)])) (yN (yN yL (yIs 6) yL) (yIs 8) yL)) (yIs 0) (yN (yN (yN yL (some yT) yL) (some (yU [yO, (yI 9)])) yL) (some (yU [(yS 622 0 4 4), (yI 0)])) (yN (yN yL (some yT) yL) (yIs 0) yL))) (ySs 622 0 4 4) (yN (yN (yN (yN yL (ySs 130 0 4 4) yL) (some (yU [(yS 2124 0 1 1), (yI 0)])) yL) (yIs 0) (yN (yN yL (some yT) yL) (yIs 0) yL)) (some (yG [(yZ 41 0 3 3), (yZ 44 0 1 1), (yI 10), (yI 2)])) (yN (yN (yN yL (some yT) yL) (some (yU [yO, yO, (yI 8)])) yL) (some (yG [(yZ 41 0 3 3), (yZ 44 0 1 1), (yI 10), (yI 2)])) (yN (yN yL (some yT) yL) (yIs 0) yL))))) (some (V.ptr 45 0)) (yN (yN (yN (yN (yN (yN yL (some yT) yL) (yIs 0) (yN yL (some yT) yL)) (some (yG [(yZ 41 0 3 3), (yZ 44 0 1 1), (yI 10), (yI 2)])) (yN (yN yL (some yT) yL) (some yO) yL)) (yIs 0) (yN (yN (yN yL (some yT) yL) (ySs 2124 0 1 1) yL) (yIs 6) (yN (yN yL (some yT) yL) (some yT) yL))) (yIs 6) (yN (yN (yN (yN yL (some yT) yL) (ySs 1626 0 3 3) yL) (some (yU [(yS 369 0 8 8), (yI 0)])) (yN (yN yL (some yT) yL) (some yT) yL)) (some (yG [(yZ 41 0 3 3), (yZ 44 0 1 1), (yI 10), (yI 2)])) (yN (yN (yN yL (ySs 369 0 8 8) yL) (some yO) yL) (yIs 0) (yN (yN yL (ySs 1626 0 3 3) yL) (some yT) yL)))) (yIs 0) (yN (yN (yN (yN (yN yL (some yT) yL) (some (yG [(yI 0), (yI 2000)])) yL) (yIs 0) (yN (yN yL (some yT) yL) (some yT) yL)) (yIs 9) (yN (yN (yN yL (yZs 3027 0 4 4) yL) (some (yG [(yI 0), (yI 2000)])) yL) (some (yG [(yI 2), (yI 0), (yI 1), yF])) (yN (yN yL (yZs 3032 0 1 1) yL) (some yT) yL))) (ySs 1110 0 3 3) (yN (yN (yN (yN yL (some (yG [(yI 0), (yI 1), (yI 0), yT, yT])) yL) (some (yG [(yI 145), (yI 146)])) yL) (some (yG [(yZ 41 0 3 3), (yZ 44 0 1 1), (yI 10), (yI 2)])) (yN (yN yL (some (yG [(yI 0), (yI 0), (yI 2), yF])) yL) (some yT) yL)) (some (yU [(yS 130 0 4 4), (yI 0)])) (yN (yN (yN yL (some yT) yL) (some (yG [(yI 145), (yI 146)])) yL) (some (yG [(yI 0), (yI 2000)])) (yN (yN yL (some yT) yL) (some yT) yL)))))) (some yT) (yN (yN (yN (yN (yN (yN (yN yL (some yT) yL) (ySs 1110 0 3 3) (yN yL (some yT) yL)) (some (yU [(yS 234 0 4 4), (yI 0)])) (yN (yN yL (some yT) yL) (some (yU [yO, yO, (yI 8)])) yL)) (ySs 1626 0 3 3) (yN (yN (yN yL (yZs 3026 0 4 4) yL) (some (yU [(yS 2124 0 1 1), (yI 0)])) yL) (ySs 499 0 7 7) (yN (yN yL (yZs 3031 0 3 3) yL) (some yT) yL))) (ySs 499 0 7 7) (yN (yN (yN (yN yL (some yT) yL) (ySs 1620 0 1 1) yL) (some (yG [(yI 2), (yI 0), (yI 1), yF])) (yN (yN yL (yZs 3030 0 4 4) yL) (some yT) yL)) (yIs 8) (yN (yN (yN yL (some yT) yL) (some (yU [yO, (yI 9)])) yL) (ySs 622 0 4 4) (yN (yN yL (some yT) yL) (some yT) yL)))) (ySs 234 0 4 4) (yN (yN (yN (yN (yN yL (some yT) yL) (some (yG [(yI 0), (yI 2000)])) yL) (ySs 234 0 4 4) (yN (yN yL (some yT) yL) (yIs 0) yL)) (some yO) (yN (yN (yN yL (ySs 234 0 4 4) yL) (some (yG [(yZ 41 0 3 3), (yZ 44 0 1 1), (yI 10), (yI 2)])) yL) (some (yG [(yZ 41 0 3 3), (yZ 44 0 1 1), (yI 10), (yI 2)])) (yN (yN yL (ySs 1620 0 1 1) yL) (some yT) yL))) (yIs 0) (yN (yN (yN (yN yL (some (yG [(yI 0), (yI 0), (yI 0), yF, yF])) yL) (some (yG [(yZ 41 0 3 3), (yZ 44 0 1 1), (yI 10), (yI 2)])) yL) (some (yU [(yS 499 0 7 7), (yI 6), (yI 0)])) (yN (yN yL (ySs 1110 0 3 3) yL) (some yT) yL)) (some (yG [(yI 1), (yI 0), (yI 1), yF])) (yN (yN (yN yL (some yT) yL) (some (yG [(yZ 41 0 3 3), (yZ 44 0 1 1), (yI 10), (yI 2)])) yL) (some (yG [(yI 0), (yI 2000)])) (yN (yN yL (some yT) yL) (some yT) yL))))) (ySs 130 0 4 4) (yN (yN (yN (yN (yN (yN yL (some yT) yL) (some (yU [(yS 1620 0 1 1), (yS 1626 0 3 3), (yI 0)])) yL) (some (yG [(yI 1), (yI 0), (yI 1), yF])) (yN (yN yL (some yT) yL) (some yO) yL)) (ySs 2124 0 1 1) (yN (yN (yN yL (some yT) yL) (yIs 0) yL) (yIs 0) (yN (yN yL (some yT) yL) (some yT) yL))) (yIs 0) (yN (yN (yN (yN yL (some yT) yL) (yIs 0) yL) (ySs 369 0 8 8) (yN (yN yL (some yT) yL) (some yT) yL)) (some (yU [(yS 130 0 4 4), (yI 0)])) (yN (yN (yN yL (yZs 3028 0 8 8) yL) (yIs 9) yL) (some (yU [(yS 1110 0 3 3), (yI 0)])) (yN (yN yL (yZs 3033 0 3 3) yL) (some yT) yL)))) (ySs 369 0 8 8) (yN (yN (yN (yN (yN yL (some yT) yL) (some (yG [(yI 4), (yI 0), (yI 0), (yI 2000), (yI 0), (yI 2000), yO])) yL) (some (yU [(yS 369 0 8 8), (yI 0)])) (yN (yN yL (some yT) yL) (some yT) yL)) (some yO) (yN (yN (yN yL (some yT) yL) (some (yG [(yI 0), (yI 2000)])) yL) (yZs 500 0 1 1) (yN (yN yL (some yT) yL) (some yT) yL))) (yIs 0) (yN (yN (yN (yN yL (some (yG [(yI 0), (yI 1), (yI 1), yF, yT])) yL) (some (yG [(yI 190), (yI 191)])) yL) (some (yG [(yI 2), (yI 0), (yI 1), yF])) (yN (yN yL (some (yG [(yI 1), (yI 0), (yI 1), yF])) yL) (some yT) yL)) (ySs 130 0 4 4) (yN (yN (yN yL (ySs 499 0 7 7) yL) (some (yG [(yI 0), (yI 2000)])) yL) (some (yG [(yI 4), (yI 0), (yI 0), (yI 2000), (yI 0), (yI 2000), yO])) (yN (yN yL (ySs 2124 0 1 1) yL) (some yT) yL))))))) 194 [] 1)
def yfH13 (t : TypeId) : H := ⟨3035, 40, 40, .node (yN (yN (yN yL none (yN yL none (yN (yN yL none (yN yL none (yN yL none (yN yL none (yN (yN yL (some (Ob.cells [(yI 0), (yI 0), (yI 2), yF, (yI 1), (yI 0), (yI 1), yF, (yI 2), (yI 0), (yI 1), yT] 50)) yL) none yL))))) none yL))) none (yN (yN yL none (yN (yN yL none (yN yL none (yN yL none (yN yL none (yN (yN yL (some (Ob.cells [(yI 2), (yM 2), (yI 7), (yM 5)] 3)) yL) none yL))))) none (yN yL none (yN yL none (yN yL (some (Ob.cells [(yI 0), (yI 2), (yI 3), (yI 4), (yI 5), (yI 6), (yI 7)] 3)) yL))))) none yL)) none (yN (yN (yN yL none (yN yL none (yN yL none (yN (yN yL (some (Ob.cells [(yI 1), (yI 16), (yI 13), (yI 4), (yM 7), (yM 8), (yM 11), (yM 4)] 3)) yL) none yL)))) none (yN (yN yL (some (Ob.cells [(yW [102, 111, 108, 105, 111]), (yW [120]), (yW [113, 117, 97, 114, 116, 111]), (yW [120, 121]), (yW [111, 99, 116, 97, 118, 111]), (yW [120, 121, 120])] 115)) yL) none (yN (yN yL none (yN yL none (yN yL none (yN yL none (yN (yN yL (some (Ob.cells [(yI 1), (yI 2), (yI 3)] 3)) yL) none yL))))) none yL))) none (yN (yN yL none (yN (yN yL none (yN yL none (yN yL none (yN yL none (yN (yN yL (some (Ob.cells [(yI 0), (yI 2), (yI 3), (yI 4), (yI 5), (yI 6), (yI 7)] 3)) yL) none yL))))) none yL)) none (yN (yN yL (some (Ob.cells [(yZ 41 0 3 3), (yZ 44 0 1 1), (yI 10), (yI 2)] 25)) yL) none yL)))) (some (.cells tab64 t)) (yN (yN (yN yL none (yN yL none (yN (yN yL none (yN yL none (yN yL none (yN yL none (yN (yN yL (some (Ob.cells [(yI 3)] 3)) yL) none yL))))) none yL))) none (yN (yN yL none (yN (yN yL none (yN (yN (yN yL none (yN yL (some (Ob.cells [(yI 3)] 3)) yL)) none yL) none (yN yL none (yN yL none (yN (yN yL (some (Ob.cells [(yI 1), (yI 16), (yI 13), (yI 4), (yM 7), (yM 8), (yM 11), (yM 4)] 3)) yL) none yL))))) none (yN yL none (yN yL none (yN yL (some (Ob.cells [(yI 0)] 3)) yL))))) none (yN (yN (yN yL none (yN (yN (yN (yN (yN yL (some (Ob.cells [(yI 0)] 3)) yL) none yL) none yL) none yL) none yL)) (some (Ob.cells [(yW [112, 111, 116]), (yI 400), (yI 410), (yI 300), (yI 306)] 67)) yL) none yL))) none (yN (yN (yN (yN (yN (yN yL (some (Ob.cells [(yI 0), (yI 0), (yI 0), yF, yF, (yI 0), (yI 1), (yI 0), yT, yT, (yI 0), (yI 1), (yI 1), yF, yT, (yI 0), (yI 0), (yI 1), yT, yF] 106)) yL) none yL) none yL) none (yN (yN yL none (yN yL none (yN yL none (yN yL none (yN (yN yL (some (Ob.cells [(yI 0), (yI 0), (yI 0), yF, yF, (yI 0), (yI 1), (yI 0), yT, yT, (yI 0), (yI 1), (yI 1), yF, yT, (yI 0), (yI 0), (yI 1), yT, yF] 106)) yL) none yL))))) none yL)) none (yN (yN yL none (yN yL none (yN yL (some (Ob.cells [(yI 2), (yM 2), (yI 7), (yM 5)] 3)) yL))) none (yN (yN yL none (yN (yN (yN yL none (yN yL (some (Ob.cells [(yI 1), (yI 2), (yI 3)] 3)) yL)) none yL) none (yN yL none (yN yL none (yN (yN yL (some (Ob.cells [(yI 0)] 3)) yL) none yL))))) none yL))) none (yN (yN yL none (yN (yN yL none (yN (yN (yN (yN yL (some (Ob.cells [(yI 0), (yI 0), (yI 2), yF, (yI 1), (yI 0), (yI 1), yF, (yI 2), (yI 0), (yI 1), yT] 50)) yL) none yL) none yL) none (yN yL none (yN yL none (yN (yN yL (some (Ob.cells [(yI 0), (yI 3), (yI 4), (yI 7)] 3)) yL) none yL))))) none yL)) none (yN (yN yL none (yN yL none (yN (yN (yN yL (some (Ob.cells [(yI 0), (yI 3), (yI 4), (yI 7)] 3)) yL) none yL) none yL))) none yL))))⟩
theorem yfP12 (t : TypeId) : evGc Tryz.prog 100000 (piece 12 (bodyOf Tryz.f16)) yfA12 (yfH12 t) [0, 41, 44, 45, 130, 234, 369, 499, 500, 622, 1110, 1620, 1626, 2124, 3026, 3027, 3028, 3029, 3030, 3031, 3032, 3033, 3034] = .ok (.normal, yfA13, yfH13 t) := by kernel_rfl
theorem yf_body : bodyOf Tryz.f16 = .seq (piece 0 (bodyOf Tryz.f16)) (.seq (piece 1 (bodyOf Tryz.f16)) (.seq (piece 2 (bodyOf Tryz.f16)) (.seq (piece 3 (bodyOf Tryz.f16)) (.seq (piece 4 (bodyOf Tryz.f16)) (.seq (piece 5 (bodyOf Tryz.f16)) (.seq (piece 6 (bodyOf Tryz.f16)) (.seq (piece 7 (bodyOf Tryz.f16)) (.seq (piece 8 (bodyOf Tryz.f16)) (.seq (piece 9 (bodyOf Tryz.f16)) (.seq (piece 10 (bodyOf Tryz.f16)) (.seq (piece 11 (bodyOf Tryz.f16)) (.seq (piece 12 (bodyOf Tryz.f16)) (.ret))))))))))))) := by kernel_rfl
theorem yf_seg (t : TypeId) : Seg Tryz.prog (bodyOf Tryz.f16) yfA0 (yfH0 t) .ret yfA13 (yfH13 t) := by
 rw [yf_body]
 exact seg_seq (seg_of follows (yfP0 t)) (seg_seq (seg_of follows (yfP1 t)) (seg_seq (seg_of follows (yfP2 t)) (seg_seq (seg_of follows (yfP3 t)) (seg_seq (seg_of follows (yfP4 t)) (seg_seq (seg_of follows (yfP5 t)) (seg_seq (seg_of follows (yfP6 t)) (seg_seq (seg_of follows (yfP7 t)) (seg_seq (seg_of follows (yfP8 t)) (seg_seq (seg_of follows (yfP9 t)) (seg_seq (seg_of follows (yfP10 t)) (seg_seq (seg_of follows (yfP11 t)) (seg_seq (seg_of follows (yfP12 t)) (seg_ret)))))))))))))
theorem awake_any2 {W : World} {t : TypeId} (hW : W.heap[0]? = some (.cells tabL.toArray t (0, 0))) : Calls Tryz.prog 16 #[] W fun en W' => en = .returned (.bool true) /\ Below W.heap.size W W' :=
 closed_ok (h' := yfH13 t) hW Tryz.func16 (by kernel_rfl) (yf_seg t) (fun _ h => by cases h) (by kernel_rfl)
end
end
section
set_option linter.unusedSimpArgs false
set_option linter.unusedVariables false
open Go Go.RowKit Go.Sort Go.BigFrame
theorem mates_len2 (ls : List Fl) (i : Nat) : (matesF ls i).length <= ls.length := by
 unfold matesF
 exact Nat.le_trans (List.length_filter_le _ _) (by simp)
theorem FoldTrue_any (p : Prs) (vp : Value) (ma sa ha la : List Nat) (mv sv hv lv : Value) (n : Nat) (hn : n < 65536) (w : World) (t : TypeId) (hp : PrsAt w.heap.size w vp p) (h1 : U16sAt w mv ma) (h2 : U16sAt w sv sa) (h3 : U16sAt w hv ha) (h4 : U16sAt w lv la) (hW : w.heap[0]? = some (.cells tabL.toArray t (0, 0))) :
  Calls Tryz.prog 4 #[vp, .agg #[mv, sv, hv, lv], .int .u16 n] w fun e w' => e = .returned (.bool true) /\ Below w.heap.size w w' := by
 have HP := Lib.hid hp
 have HW := Lib.hid hW
 have H1 := Lib.hid h1
 have H2 := Lib.hid h2
 have H3 := Lib.hid h3
 have H4 := Lib.hid h4
 obtain ⟨fv, pv, rfl, ⟨a, cap, rfl, -⟩, ⟨a2, cap2, rfl, -⟩, -⟩ := hp
 obtain ⟨a3, cap3, rfl, -⟩ := h1
 obtain ⟨a4, cap4, rfl, -⟩ := h2
 obtain ⟨a5, cap5, rfl, -⟩ := h3
 obtain ⟨a6, cap6, rfl, -⟩ := h4
 obtain ⟨n1, hn1⟩ : ∃ n, n = p.fmts.length := ⟨_, rfl⟩
 obtain ⟨n2, hn2⟩ : ∃ n, n = p.pprs.length := ⟨_, rfl⟩
 obtain ⟨n3, hn3⟩ : ∃ n, n = ma.length := ⟨_, rfl⟩
 obtain ⟨n4, hn4⟩ : ∃ n, n = sa.length := ⟨_, rfl⟩
 obtain ⟨n5, hn5⟩ : ∃ n, n = ha.length := ⟨_, rfl⟩
 obtain ⟨n6, hn6⟩ : ∃ n, n = la.length := ⟨_, rfl⟩
 rw [<- hn1, <- hn2] at HP ⊢
 rw [<- hn3] at H1 ⊢
 rw [<- hn4] at H2 ⊢
 rw [<- hn5] at H3 ⊢
 rw [<- hn6] at H4 ⊢
 clear hn1 hn2 hn3 hn4 hn5 hn6 hW
 go_enter Tryz.func4, Tryz.ntmps4
 go_wp2_with fail
 obtain ⟨w1, hw1⟩ : ∃ w1, w1 = ((w.alloc (.cells #[.slice a n1 cap, .slice a2 n2 cap2, .int .i64 p.trim, .int .i64 p.sheets] 25)).alloc (.cells #[.slice a3 n3 cap3, .slice a4 n4 cap4, .slice a5 n5 cap5, .slice a6 n6 cap6] 46)) := ⟨_, rfl⟩
 have hb1 : Below w.heap.size w w1 := by rw [hw1]; exact (by repeat (first | exact Below.refl _ _ | assumption | (refine Below.alloc ?_ ?_ _; rotate_left; · (first | omega | (simp; done) | (simp; omega) | fail)) | (refine Below.setCell ?_ ?_ _; rotate_left; · (first | omega | (simp; done) | (simp; omega) | fail)) | refine Below.drew ?_ | fail))
 have x1 : w1.heap[w.heap.size]? = some (.cells #[.slice a n1 cap, .slice a2 n2 cap2, .int .i64 p.trim, .int .i64 p.sheets] 25 (0, 0)) := by rw [hw1]; exact (by repeat (first | exact heap_alloc_at _ _ _ (by (first | omega | (simp; done) | (simp; omega) | (simp at *; omega) | fail)) | assumption | rw [heap_alloc_past _ _ _ (by (first | omega | (simp; done) | (simp; omega) | (simp at *; omega) | fail))] | rw [heap_setCell_past _ _ _ _ (by (first | omega | (simp; done) | (simp; omega) | (simp at *; omega) | fail))] | fail))
 have x2 : w1.heap[w.heap.size + 1]? = some (.cells #[.slice a3 n3 cap3, .slice a4 n4 cap4, .slice a5 n5 cap5, .slice a6 n6 cap6] 46 (0, 0)) := by rw [hw1]; exact (by repeat (first | exact heap_alloc_at _ _ _ (by (first | omega | (simp; done) | (simp; omega) | (simp at *; omega) | fail)) | assumption | rw [heap_alloc_past _ _ _ (by (first | omega | (simp; done) | (simp; omega) | (simp at *; omega) | fail))] | rw [heap_setCell_past _ _ _ _ (by (first | omega | (simp; done) | (simp; omega) | (simp at *; omega) | fail))] | fail))
 rw [<- hw1]
 clear hw1
 refine (valid2_any p _ w1 (HP.out.later hb1)).mono ?_
 rintro e w2 ⟨rfl, hb2⟩
 have HB2 := Lib.hid (hb1.trans (hb2.mono hb1.size))
 have Y1 := Lib.hid (blk_later hb2 x1)
 have Y2 := Lib.hid (blk_later hb2 x2)
 obtain ⟨z, hz⟩ : ∃ z, z = (errP p == 0) := ⟨_, rfl⟩
 rw [<- hz]
 have HZ := Lib.hid hz
 clear hb1 hb2 x1 x2 hz
 have p0 := blk_cell Y1.out 0
 have p1 := blk_cell Y1.out 1
 have p2 := blk_cell Y1.out 2
 have p3 := blk_cell Y1.out 3
 cases z with
 | false =>
   obtain ⟨b0, hb0⟩ : ∃ b : Bok, b = ⟨0, 0, 0, 0, 0, 0, []⟩ := ⟨_, rfl⟩
   have hne : (checkK p b0).2.2 ≠ 0 := fun h => by
    have h1 := (checkK_zero.1 h).1
    have h2 := HZ.out
    rw [h1] at h2
    cases h2
   have HBAD := (fun W h1 h2 => Agree_bad p b0 (.agg #[.slice a n1 cap, .slice a2 n2 cap2, .int .i64 p.trim, .int .i64 p.sheets]) (.slice none 0 0) W h1 h2 hne)
   obtain ⟨ek, hek⟩ : ∃ e, e = (checkK p b0).2.2 := ⟨_, rfl⟩
   rw [<- hek] at HBAD hne
   rw [hb0] at HBAD
   have HBAD := Lib.hid HBAD
   have hq : (ek == 0) = false := by simpa using hne
   have hq2 : (ek != 0) = true := by simpa using hne
   clear hb0 hek
   go_wp2_with fail
   refine (HBAD.out w2 (HP.out.later HB2.out) ⟨none, 0, rfl, fun h => absurd rfl h⟩).mono ?_
   rintro e w3 ⟨rfl, hb3⟩
   have HB3 := Lib.hid (HB2.out.trans (hb3.mono HB2.out.size))
   clear HBAD hb3 p0 p1 p2 p3
   go_wp2_with fail
   refine (awake_any2 (t := t) (blk_later HB3.out HW.out)).mono ?_
   rintro e wz ⟨rfl, hbz⟩
   have hb99 := (HB3.out).trans (hbz.mono (HB3.out).size)
   clear hbz
   go_wp2_with fail
   go_ret
   exact ⟨rfl, hb99⟩
 | true =>
   have hee : errP p = 0 := by have := HZ.out; simpa using this.symm
   have HE := Lib.hid hee
   have p4 := blk_cell Y2.out 0
   have p5 := blk_cell Y2.out 1
   have p6 := blk_cell Y2.out 2
   have p7 := blk_cell Y2.out 3
   clear hee HZ
   go_wp2_with fail
   refine (show Calls Tryz.prog 18 #[_, _, .int .u8 ((0 : Nat) : Int)] _ _ from ((Told_any p ma sa ha la _ _ _ _ 0 (by decide) _ w2 (HP.out.later HB2.out) HE.out (H1.out.later HB2.out) (H2.out.later HB2.out) (H3.out.later HB2.out) (H4.out.later HB2.out)).mono ?_))
   rintro e w3 ⟨⟨m, mk, hm, rfl, hmk⟩, hb3⟩
   obtain ⟨mo, mc, hmv, -⟩ := id hmk
   obtain ⟨ML, hML⟩ : ∃ n, n = (toldT p m sa ha la 0).marks.length := ⟨_, rfl⟩
   rw [<- hML] at hmv
   subst hmv
   clear hML
   have hmw := makes_ok hm
   obtain ⟨hl1, hl2⟩ := told_num HE.out hmw
   obtain ⟨c, hc⟩ : ∃ c, c = toldT p m sa ha la 0 := ⟨_, rfl⟩
   have hec : (checkK p c).2.2 = 0 := by
    rw [hc]
    refine told_fine HE.out hmw _ _ _ _ _ _ ?_ ?_
    · unfold toldJ; rw [List.length_map, List.length_range]; omega
    · intro j hj
      unfold toldJ at hj
      obtain ⟨i, -, rfl⟩ := List.mem_map.1 hj
      exact Nat.mod_lt _ (by omega)
   have hag : m ∈ agreeL p c := by
    rw [hc]
    exact told_agrees HE.out hmw hm _ _ _ _ (fun s => by have := Nat.mod_lt (turnN ha s) (show 0 < 2 by decide); omega) _
   have hcl : c.leaves = ((lvOf p m).length : Nat) := by rw [hc]; rfl
   obtain ⟨-, i1, -, -⟩ := fine_at HE.out hmw
   obtain ⟨f, hf⟩ : ∃ f, p.fmts[m.fmt.toNat]? = some f := ⟨_, List.getElem?_eq_getElem i1⟩
   have hls : lvOf p m = leavesF (fdsB f.folds) m.sheets.toNat m.half := by unfold lvOf fldsOf; rw [hf]
   obtain ⟨NL, hNL⟩ : ∃ n, n = (lvOf p m).length := ⟨_, rfl⟩
   obtain ⟨i, hi⟩ : ∃ i, i = n % NL := ⟨_, rfl⟩
   have hilt : i < NL := by rw [hi]; exact Nat.mod_lt _ (by omega)
   have HNE : Hid (agreeL p c ≠ []) := Lib.hid (fun h => by rw [h] at hag; cases hag)
   have HWY : Hid (waysW p c (makesW p) ≠ []) := Lib.hid (fun h => by
    unfold agreeL at hag
    have := (List.mem_filter.1 hag).1
    rw [h] at this
    cases this)
   have HBE := Lib.hid (agree_best hec HNE.out)
   have HMU : Hid (∀ j ∈ mustL p c i, j ∈ matesF (lvOf p m) i) := Lib.hid (fun j hj => must_mates HE.out hmw hcl hag hj)
   have HMA : Hid (∀ j ∈ matesF (lvOf p m) i, j ∈ mayL p c i) := Lib.hid (fun j hj => mates_may HE.out hmw hcl hag hj)
   rw [<- hc] at hmk ⊢
   have HAG := (fun W h1 h2 => Agree_good p c (.agg #[.slice a n1 cap, .slice a2 n2 cap2, .int .i64 p.trim, .int .i64 p.sheets]) (.slice mo ML mc) W h1 h2 hec)
   have HWR := (fun W h1 h2 h3 => Wrong_good p c (.agg #[.slice a n1 cap, .slice a2 n2 cap2, .int .i64 p.trim, .int .i64 p.sheets]) (.slice mo ML mc) W t h1 h2 hec h3)
   have HTG := (fun W h1 h2 => Together_good p c (i : Int) (.agg #[.slice a n1 cap, .slice a2 n2 cap2, .int .i64 p.trim, .int .i64 p.sheets]) (.slice mo ML mc) W h1 h2 hec)
   have HLN := Lib.hid (agreeL_lenB hec)
   have HCL := Lib.hid hcl
   rw [hcl, <- hNL] at HAG HWR HTG ⊢
   have HAG := Lib.hid HAG
   have HWR := Lib.hid HWR
   have HTG := Lib.hid HTG
   have HIN : Hid (inI 0 ((NL : Int) - 1) (i : Int) = true) := Lib.hid (by simp only [inI, Bool.and_eq_true, decide_eq_true_eq]; omega)
   have HMK := Lib.hid hmk
   have HAGM := Lib.hid hag
   have HLS := Lib.hid hls
   have HF := Lib.hid hf
   have HNL := Lib.hid hNL
   have HMW := Lib.hid hmw
   have HI := Lib.hid hi
   have hnl : 1 <= NL /\ NL <= 64 := by omega
   have HBb := Lib.hid (HB2.out.trans (hb3.mono HB2.out.size))
   have X1 := Lib.hid (blk_later hb3 Y1.out)
   clear hm hmw hl1 hl2 hc hec hag hcl i1 hf hls hNL hmk hi hb3 HB2 Y1 Y2 p0 p1 p2 p3 p4 p5 p6 p7
   have hz3 : w.heap.size < w3.heap.size := blk_lt X1.out
   go_upto_region 5 with fail
   obtain ⟨w4, hw4⟩ : ∃ v, v = (w3.alloc (.cells #[.int .i64 NL, .int .i64 c.chain, .int .i64 c.wlo, .int .i64 c.whi, .int .i64 c.hlo, .int .i64 c.hhi, .slice mo ML mc] 30)).alloc (.cells #[.int .i64 m.fmt, .int .i64 m.ppr, .int .i64 m.sheets, .bool m.half] 50) := ⟨_, rfl⟩
   have hb4 : Below w3.heap.size w3 w4 := by rw [hw4]; exact (by repeat (first | exact Below.refl _ _ | assumption | (refine Below.alloc ?_ ?_ _; rotate_left; · (first | omega | (simp; done) | (simp; omega) | fail)) | (refine Below.setCell ?_ ?_ _; rotate_left; · (first | omega | (simp; done) | (simp; omega) | fail)) | refine Below.drew ?_ | fail))
   have x3 : w4.heap[w3.heap.size]? = some (.cells #[.int .i64 NL, .int .i64 c.chain, .int .i64 c.wlo, .int .i64 c.whi, .int .i64 c.hlo, .int .i64 c.hhi, .slice mo ML mc] 30 (0, 0)) := by rw [hw4]; exact (by repeat (first | exact heap_alloc_at _ _ _ (by (first | omega | (simp; done) | (simp; omega) | (simp at *; omega) | fail)) | assumption | rw [heap_alloc_past _ _ _ (by (first | omega | (simp; done) | (simp; omega) | (simp at *; omega) | fail))] | rw [heap_setCell_past _ _ _ _ (by (first | omega | (simp; done) | (simp; omega) | (simp at *; omega) | fail))] | fail))
   have x4 : w4.heap[w3.heap.size + 1]? = some (.cells #[.int .i64 m.fmt, .int .i64 m.ppr, .int .i64 m.sheets, .bool m.half] 50 (0, 0)) := by rw [hw4]; exact (by repeat (first | exact heap_alloc_at _ _ _ (by (first | omega | (simp; done) | (simp; omega) | (simp at *; omega) | fail)) | assumption | rw [heap_alloc_past _ _ _ (by (first | omega | (simp; done) | (simp; omega) | (simp at *; omega) | fail))] | rw [heap_setCell_past _ _ _ _ (by (first | omega | (simp; done) | (simp; omega) | (simp at *; omega) | fail))] | fail))
   rw [<- hw4]
   clear hw4
   have Y1 := Lib.hid (blk_later hb4 X1.out)
   have Y3 := Lib.hid x3
   have Y4 := Lib.hid x4
   have HBb := Lib.hid (HBb.out.trans (hb4.mono HBb.out.size))
   have HMK := Lib.hid (HMK.out.later hb4)
   clear x3 x4 hb4 X1 hz3
   have p0 := blk_cell (blk_later (Below.refl w4.heap.size w4) Y1.out) 0
   have p1 := blk_cell (blk_later (Below.refl w4.heap.size w4) Y1.out) 1
   have p2 := blk_cell (blk_later (Below.refl w4.heap.size w4) Y1.out) 2
   have p3 := blk_cell (blk_later (Below.refl w4.heap.size w4) Y1.out) 3
   have e0 := blk_cell (blk_later (Below.refl w4.heap.size w4) Y3.out) 0
   have e1 := blk_cell (blk_later (Below.refl w4.heap.size w4) Y3.out) 1
   have e2 := blk_cell (blk_later (Below.refl w4.heap.size w4) Y3.out) 2
   have e3 := blk_cell (blk_later (Below.refl w4.heap.size w4) Y3.out) 3
   have e4 := blk_cell (blk_later (Below.refl w4.heap.size w4) Y3.out) 4
   have e5 := blk_cell (blk_later (Below.refl w4.heap.size w4) Y3.out) 5
   have e6 := blk_cell (blk_later (Below.refl w4.heap.size w4) Y3.out) 6
   have k0 := blk_cell (blk_later (Below.refl w4.heap.size w4) Y4.out) 0
   have k1 := blk_cell (blk_later (Below.refl w4.heap.size w4) Y4.out) 1
   have k2 := blk_cell (blk_later (Below.refl w4.heap.size w4) Y4.out) 2
   have k3 := blk_cell (blk_later (Below.refl w4.heap.size w4) Y4.out) 3
   go_wp2_with fail
   refine (HAG.out w4 (HP.out.later HBb.out) HMK.out).mono ?_
   rintro e w5 ⟨⟨lv', rfl, hlv⟩, hb5⟩
   have HB5 := Lib.hid hb5
   have HL1 := Lib.hid (rows_of_own (enc := mkC) (fun _ => rfl) hlv)
   clear HAG hlv hb5 p0 p1 p2 p3 e0 e1 e2 e3 e4 e5 e6 k0 k1 k2 k3
   have p0 := blk_cell (blk_later (HB5.out) Y1.out) 0
   have p1 := blk_cell (blk_later (HB5.out) Y1.out) 1
   have p2 := blk_cell (blk_later (HB5.out) Y1.out) 2
   have p3 := blk_cell (blk_later (HB5.out) Y1.out) 3
   have e0 := blk_cell (blk_later (HB5.out) Y3.out) 0
   have e1 := blk_cell (blk_later (HB5.out) Y3.out) 1
   have e2 := blk_cell (blk_later (HB5.out) Y3.out) 2
   have e3 := blk_cell (blk_later (HB5.out) Y3.out) 3
   have e4 := blk_cell (blk_later (HB5.out) Y3.out) 4
   have e5 := blk_cell (blk_later (HB5.out) Y3.out) 5
   have e6 := blk_cell (blk_later (HB5.out) Y3.out) 6
   have k0 := blk_cell (blk_later (HB5.out) Y4.out) 0
   have k1 := blk_cell (blk_later (HB5.out) Y4.out) 1
   have k2 := blk_cell (blk_later (HB5.out) Y4.out) 2
   have k3 := blk_cell (blk_later (HB5.out) Y4.out) 3
   go_wp2_with fail
   refine (HWR.out w5 (HP.out.later (HBb.out.trans (HB5.out.mono HBb.out.size))) (HMK.out.later HB5.out) (blk_later (HBb.out.trans (HB5.out.mono HBb.out.size)) HW.out)).mono ?_
   rintro e w6 ⟨hres, hb6⟩
   rcases hres with ⟨h, -⟩ | ⟨-, wv, rfl, hwv⟩
   · exact absurd h HWY.out
   rw [HBE.out] at hwv
   obtain ⟨wa, wcap, rfl, -⟩ := hwv
   have HB6 := Lib.hid (HB5.out.trans (hb6.mono HB5.out.size))
   have HL1 := Lib.hid (HL1.out.later hb6)
   clear HWR hb6 p0 p1 p2 p3 e0 e1 e2 e3 e4 e5 e6 k0 k1 k2 k3
   have p0 := blk_cell (blk_later (HB6.out) Y1.out) 0
   have p1 := blk_cell (blk_later (HB6.out) Y1.out) 1
   have p2 := blk_cell (blk_later (HB6.out) Y1.out) 2
   have p3 := blk_cell (blk_later (HB6.out) Y1.out) 3
   have e0 := blk_cell (blk_later (HB6.out) Y3.out) 0
   have e1 := blk_cell (blk_later (HB6.out) Y3.out) 1
   have e2 := blk_cell (blk_later (HB6.out) Y3.out) 2
   have e3 := blk_cell (blk_later (HB6.out) Y3.out) 3
   have e4 := blk_cell (blk_later (HB6.out) Y3.out) 4
   have e5 := blk_cell (blk_later (HB6.out) Y3.out) 5
   have e6 := blk_cell (blk_later (HB6.out) Y3.out) 6
   have k0 := blk_cell (blk_later (HB6.out) Y4.out) 0
   have k1 := blk_cell (blk_later (HB6.out) Y4.out) 1
   have k2 := blk_cell (blk_later (HB6.out) Y4.out) 2
   have k3 := blk_cell (blk_later (HB6.out) Y4.out) 3
   have hm7 : (n : Int).tmod (NL : Int) = (i : Int) := by rw [HI.out, Int.tmod_eq_emod_of_nonneg (Int.natCast_nonneg _)]; exact (Int.natCast_emod n NL).symm
   have hnz : ((NL : Int) == 0) = false := by simp; omega
   have hnz2 : ¬ (NL : Int) = 0 := by omega
   go_wp2_with fail
   refine (HTG.out w6 (HP.out.later (HBb.out.trans (HB6.out.mono HBb.out.size))) (HMK.out.later HB6.out)).mono ?_
   rintro e w7 ⟨hres, hb7⟩
   rcases hres with ⟨ha, -⟩ | ⟨-, ha, -⟩ | ⟨-, -, av, nv, rfl, hav, hnv⟩
   · rw [HIN.out] at ha
     cases ha
   · exact absurd ha HNE.out
   rw [Int.toNat_natCast] at hav hnv
   have HAV := Lib.hid hav
   have HNV := Lib.hid hnv
   have HB7 := Lib.hid (HB6.out.trans (hb7.mono HB6.out.size))
   have HL1 := Lib.hid (HL1.out.later hb7)
   clear HTG hav hnv hb7 hm7 hnz hnz2 p0 p1 p2 p3 e0 e1 e2 e3 e4 e5 e6 k0 k1 k2 k3
   have p0 := blk_cell (blk_later (HB7.out) Y1.out) 0
   have p1 := blk_cell (blk_later (HB7.out) Y1.out) 1
   have p2 := blk_cell (blk_later (HB7.out) Y1.out) 2
   have p3 := blk_cell (blk_later (HB7.out) Y1.out) 3
   have e0 := blk_cell (blk_later (HB7.out) Y3.out) 0
   have e1 := blk_cell (blk_later (HB7.out) Y3.out) 1
   have e2 := blk_cell (blk_later (HB7.out) Y3.out) 2
   have e3 := blk_cell (blk_later (HB7.out) Y3.out) 3
   have e4 := blk_cell (blk_later (HB7.out) Y3.out) 4
   have e5 := blk_cell (blk_later (HB7.out) Y3.out) 5
   have e6 := blk_cell (blk_later (HB7.out) Y3.out) 6
   have k0 := blk_cell (blk_later (HB7.out) Y4.out) 0
   have k1 := blk_cell (blk_later (HB7.out) Y4.out) 1
   have k2 := blk_cell (blk_later (HB7.out) Y4.out) 2
   have k3 := blk_cell (blk_later (HB7.out) Y4.out) 3
   go_wp2_with fail
   refine (Mates_any p m f (lvOf p m) i _ w7 (HP.out.later (HBb.out.trans (HB7.out.mono HBb.out.size))) HE.out HMW.out HF.out HLS.out (by rw [<- HNL.out]; omega) (by rw [<- HNL.out]; exact hilt)).mono ?_
   rintro e w8 ⟨⟨tv, rfl, htv⟩, hb8⟩
   have HTV := Lib.hid htv
   have HAV := Lib.hid (HAV.out.later hb8)
   have HNV := Lib.hid (HNV.out.later hb8)
   have HB8 := Lib.hid (HB7.out.trans (hb8.mono HB7.out.size))
   have HL1 := Lib.hid (HL1.out.later hb8)
   clear htv hb8 p0 p1 p2 p3 e0 e1 e2 e3 e4 e5 e6 k0 k1 k2 k3
   have p0 := blk_cell (blk_later (HB8.out) Y1.out) 0
   have p1 := blk_cell (blk_later (HB8.out) Y1.out) 1
   have p2 := blk_cell (blk_later (HB8.out) Y1.out) 2
   have p3 := blk_cell (blk_later (HB8.out) Y1.out) 3
   have e0 := blk_cell (blk_later (HB8.out) Y3.out) 0
   have e1 := blk_cell (blk_later (HB8.out) Y3.out) 1
   have e2 := blk_cell (blk_later (HB8.out) Y3.out) 2
   have e3 := blk_cell (blk_later (HB8.out) Y3.out) 3
   have e4 := blk_cell (blk_later (HB8.out) Y3.out) 4
   have e5 := blk_cell (blk_later (HB8.out) Y3.out) 5
   have e6 := blk_cell (blk_later (HB8.out) Y3.out) 6
   have k0 := blk_cell (blk_later (HB8.out) Y4.out) 0
   have k1 := blk_cell (blk_later (HB8.out) Y4.out) 1
   have k2 := blk_cell (blk_later (HB8.out) Y4.out) 2
   have k3 := blk_cell (blk_later (HB8.out) Y4.out) 3
   go_wp2_with fail
   refine (one_any (agreeL p c) _ m _ w8 HL1.out (Nat.le_refl _) (by have := HLN.out; omega)).mono ?_
   rintro e w9 ⟨rfl, hb9⟩
   rw [decide_eq_true HAGM.out]
   have HTV := Lib.hid (HTV.out.later hb9)
   have HAV := Lib.hid (HAV.out.later hb9)
   have HNV := Lib.hid (HNV.out.later hb9)
   have HB9 := Lib.hid (HB8.out.trans (hb9.mono HB8.out.size))
   clear hb9 p0 p1 p2 p3 e0 e1 e2 e3 e4 e5 e6 k0 k1 k2 k3
   go_wp2_with fail
   refine (lpart_any _ _ av tv w9 HAV.out HTV.out (by rw [List.length_map]; have := must_len p c i; have := HCL.out; have := HNL.out; omega) (by rw [List.length_map]; have := mates_len2 (lvOf p m) i; have := HNL.out; omega) (fun x hx => by
    obtain ⟨j, hj, rfl⟩ := List.mem_map.1 hx
    exact List.mem_map_of_mem (HMU.out j hj))).mono ?_
   rintro e w10 ⟨rfl, hb10⟩
   have HTV := Lib.hid (HTV.out.later hb10)
   have HNV := Lib.hid (HNV.out.later hb10)
   have HB10 := Lib.hid (HB9.out.trans (hb10.mono HB9.out.size))
   clear hb10
   go_wp2_with fail
   refine (lpart_any _ _ tv nv w10 HTV.out HNV.out (by rw [List.length_map]; have := mates_len2 (lvOf p m) i; have := HNL.out; omega) (by rw [List.length_map]; have := may_len p c i; have := HCL.out; have := HNL.out; omega) (fun x hx => by
    obtain ⟨j, hj, rfl⟩ := List.mem_map.1 hx
    exact List.mem_map_of_mem (HMA.out j hj))).mono ?_
   rintro e w11 ⟨rfl, hb11⟩
   have HB11 := Lib.hid (HBb.out.trans ((HB10.out.trans (hb11.mono HB10.out.size)).mono HBb.out.size))
   clear hb11
   go_wp2_with fail
   refine (awake_any2 (t := t) (blk_later HB11.out HW.out)).mono ?_
   rintro e wz ⟨rfl, hbz⟩
   have hb99 := (HB11.out).trans (hbz.mono (HB11.out).size)
   clear hbz
   go_wp2_with fail
   go_ret
   exact ⟨rfl, hb99⟩
end
section
set_option linter.unusedSimpArgs false
set_option linter.unusedVariables false
open Go Go.ChangeShapes Go.WideShapes Go.ChangeAt Go.RowKit
theorem foldTrue_lifted (os : Os) (started : os.Started) (H : Type) (enc : TypeId × Value -> H) :
  ReturnsInHanded {} Tryz.checked os 4 .any (fun w args => (Rows.foldTrueSpec.pre enc Tryz.prog Tryz.f4 [] false w args /\ laidMetH Tryz.prog laidVs w) /\ sizedMet enc Tryz.prog Tryz.f4 (OpenSpec.ofChange Rows.foldTrueSpec) false w args)
   (Rows.foldTrueSpec.post enc Tryz.prog Tryz.f4 false true false false) := by
 refine returnsInHanded_of_change_and (C := Tryz.checked) (X := fun w _ => laidMetH Tryz.prog laidVs w) (fun _ _ _ hh h => h.of_heap hh) own started (by kernel_rfl) Tryz.func4
  (ChangeSpec.witness_shaped (enc := enc) (C := Tryz.checked) (os := os) (X := fun w _ => laidMetH Tryz.prog laidVs w) false (World.doorLaid Tryz.prog 400 os) #[.agg #[.slice none 0 0, .slice none 0 0, .int .i64 0, .int .i64 0], .agg #[.slice none 0 0, .slice none 0 0, .slice none 0 0, .slice none 0 0], .int .u16 0] 8 rfl (World.shaped_of_RefB (by kernel_rfl) (by kernel_rfl)) (by kernel_rfl) (by kernel_rfl) (by kernel_rfl) (door_met os _)) ?_
 intro W base args ds gs before hval0 hW _ _ hL _
 have hval : ∀ (j : Nat) t v, (Tryz.f4).params[j]? = some t -> args[j]? = some v -> Value.okWide Tryz.prog W .any base t v := hval0
 have hW' := hW
 obtain ⟨p, q, hA0, hV, rfl, hfz, hnd⟩ := hW
 have hA : DataW.TrodAll enc Tryz.prog W 0 (fun _ => true) true (Tryz.f4).params.toList args.toList ds p := hA0
 rw [Tryz.params4] at hA hval
 obtain ⟨t0, hW0⟩ := tab_laid hL
 obtain ⟨v0, v1, v2, d0, d1, d2, p0, p1, p2, rfl, rfl, rfl, h0, h1, h2⟩ := trodAll_three hA
 obtain ⟨rfl, rfl⟩ := trodVars_none hV
 obtain ⟨f0, hx0⟩ := h0
 obtain ⟨b0, hb0⟩ := press_in (hval 0 25 v0 rfl rfl) hx0
 obtain ⟨f1, hx1⟩ := h1
 obtain ⟨va1, vb1, vc1, vd1, xa1, xb1, xc1, xd1, rfl, ha1, hb1, hc1, hd1⟩ := past_in (hval 1 46 v1 rfl rfl) hx1
 obtain ⟨f2, hx2⟩ := h2
 obtain ⟨n2, rfl, hn2⟩ := u16g_in (hval 2 47 v2 rfl rfl) hx2
 clear hA0 hval0
 simp only [List.append_nil] at hW'
 refine (FoldTrue_any b0 v0 xa1 xb1 xc1 xd1 va1 vb1 vc1 vd1 n2 hn2 W t0 hb0 ha1 hb1 hc1 hd1 hW0).mono fun e W' ⟨he, hb⟩ => ?_
 subst he
 exact ⟨_, rfl, law_post (tb := 4) laidOut2 hW' rfl rfl (by kernel_rfl) Tryz.underlying4 (by kernel_rfl) hb⟩
theorem foldTrue_holds : Rows.FoldTrueSaid :=
 OpenClaim.holds_of_wide 4 Tryz.f4 rfl rfl rfl rfl rfl rfl rfl ⟨rfl, rfl, rfl, rfl, rfl⟩ rfl rfl rfl rfl rfl (by kernel_rfl) Tryz.func4 (by kernel_rfl)
  (of_decide_eq_true (by kernel_rfl)) (by unfold Func.isWrapper; first | (rw [if_pos (by decide +kernel)]; kernel_rfl) | (rw [if_neg (by decide +kernel)]; exact ⟨rfl, rfl⟩))
  (fun os started H enc _ => foldTrue_lifted os started H enc)
theorem foldTrue_card : Rows.FoldTrueCardSaid :=
 Claim7.holds_tied_plain_at .later [] [.data] true (true, "b5cf93fcf032eb28ba5817108855ecbacd8f7271e3fb418352c5b6ce3584cbae") false
  foldTrue_holds (fun _ h => by cases h) (by kernel_rfl) (fun _ h => by cases h) foldTrue_row_tie rfl ⟨rfl, rfl⟩ (by kernel_rfl) rfl
  (fun f fn hf hfn => by
   obtain rfl : f = 4 := Option.some.inj ((show Tryz.prog.funcNamed "duodecimo/duodecimolaw02.FoldTrue" = some 4 by kernel_rfl).symm.trans hf) |>.symm
   obtain rfl : fn = Tryz.f4 := (Option.some.inj ((Tryz.func4).symm.trans hfn)).symm
   exact ⟨by kernel_rfl, fun j t ht => by
    rw [Tryz.params4] at ht
    have hm : t ∈ [25, 46, 47] := by simpa using Array.mem_of_getElem? ht
    have hall : ([25, 46, 47].all fun u => !Tryz.prog.wantsStandIn u) = true := by kernel_rfl
    exact (show Tryz.prog.wantsStandIn t = false by simpa using List.all_eq_true.1 hall t hm)⟩)
  (by kernel_rfl)
end
end Go.Proofs.YtpdhdgdbknnllaaGreatDoor
