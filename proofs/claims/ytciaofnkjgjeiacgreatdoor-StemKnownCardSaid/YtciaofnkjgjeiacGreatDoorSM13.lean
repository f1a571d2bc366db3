/- The parts Y7f of the proof, joined. It holds without conditions of its own. -/
import Derived.Test.YtciaofnkjgjeiacGreatDoorSM11
/- awake_any7, worked out by the machine: pieces. -/
namespace Go.Proofs.YtciaofnkjgjeiacGreatDoor
set_option linter.unusedSimpArgs false
set_option linter.unusedVariables false
open Go Go.RowKit
set_option maxRecDepth 10000
theorem y7P12 (t : TypeId) : stepsG Tryz.prog 100000 y7I 999999 11 [0, 41, 43, 45, 47, 49, 50, 51, 52, 149, 150, 308, 452, 593, 594, 595, 596, 682, 684, 685, 686, 687, 688, 689, 690, 691, 692, 693, 694, 695, 696, 699, 700, 1336] (y7S12 t) = .ok (y7S13 t) := by kernel_rfl
theorem y7P13 (t : TypeId) : stepsG Tryz.prog 100000 y7I 999999 10 [0, 41, 43, 45, 47, 49, 50, 51, 52, 149, 150, 308, 452, 593, 594, 595, 596, 682, 684, 685, 686, 687, 688, 689, 690, 691, 692, 693, 694, 695, 696, 699, 700, 1336] (y7S13 t) = .ok (y7S14 t) := by kernel_rfl
theorem y7P14 (t : TypeId) : stepsG Tryz.prog 100000 y7I 999999 12 [0, 41, 43, 45, 47, 49, 50, 51, 52, 149, 150, 308, 452, 593, 594, 595, 596, 682, 684, 685, 686, 687, 688, 689, 690, 691, 692, 693, 694, 695, 696, 699, 700, 1336] (y7S14 t) = .ok (y7S15 t) := by kernel_rfl
end Go.Proofs.YtciaofnkjgjeiacGreatDoor
