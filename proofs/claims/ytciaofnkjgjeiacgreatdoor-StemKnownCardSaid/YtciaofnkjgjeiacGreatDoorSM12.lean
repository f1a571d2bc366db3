/- The parts Y7d, Y7e of the proof, joined. It holds without conditions of its own. -/
import Derived.Test.YtciaofnkjgjeiacGreatDoorSM11
/- awake_any7, worked out by the machine: pieces. -/
namespace Go.Proofs.YtciaofnkjgjeiacGreatDoor
set_option linter.unusedSimpArgs false
set_option linter.unusedVariables false
open Go Go.RowKit
set_option maxRecDepth 10000
theorem y7P6 (t : TypeId) : stepsG Tryz.prog 100000 y7I 999999 7 [0, 41, 43, 45, 47, 49, 50, 51, 52, 149, 150, 308, 452, 593, 594, 595, 596, 682, 684, 685, 686, 687, 688, 689, 690, 691, 692, 693, 694, 695, 696, 699, 700] (y7S6 t) = .ok (y7S7 t) := by kernel_rfl
theorem y7P7 (t : TypeId) : stepsG Tryz.prog 100000 y7I 999999 9 [0, 41, 43, 45, 47, 49, 50, 51, 52, 149, 150, 308, 452, 593, 594, 595, 596, 682, 684, 685, 686, 687, 688, 689, 690, 691, 692, 693, 694, 695, 696, 699, 700, 711] (y7S7 t) = .ok (y7S8 t) := by kernel_rfl
theorem y7P8 (t : TypeId) : stepsG Tryz.prog 100000 y7I 999999 11 [0, 41, 43, 45, 47, 49, 50, 51, 52, 149, 150, 308, 452, 593, 594, 595, 596, 682, 684, 685, 686, 687, 688, 689, 690, 691, 692, 693, 694, 695, 696, 699, 700, 946] (y7S8 t) = .ok (y7S9 t) := by kernel_rfl
end Go.Proofs.YtciaofnkjgjeiacGreatDoor

/- awake_any7, worked out by the machine: pieces. -/
namespace Go.Proofs.YtciaofnkjgjeiacGreatDoor
set_option linter.unusedSimpArgs false
set_option linter.unusedVariables false
open Go Go.RowKit
set_option maxRecDepth 10000
theorem y7P9 (t : TypeId) : stepsG Tryz.prog 100000 y7I 999999 10 [0, 41, 43, 45, 47, 49, 50, 51, 52, 149, 150, 308, 452, 593, 594, 595, 596, 682, 684, 685, 686, 687, 688, 689, 690, 691, 692, 693, 694, 695, 696, 699, 700, 1092] (y7S9 t) = .ok (y7S10 t) := by kernel_rfl
theorem y7P10 (t : TypeId) : stepsG Tryz.prog 100000 y7I 999999 9 [0, 41, 43, 45, 47, 49, 50, 51, 52, 149, 150, 308, 452, 593, 594, 595, 596, 682, 684, 685, 686, 687, 688, 689, 690, 691, 692, 693, 694, 695, 696, 699, 700, 1092] (y7S10 t) = .ok (y7S11 t) := by kernel_rfl
theorem y7P11 (t : TypeId) : stepsG Tryz.prog 100000 y7I 999999 11 [0, 41, 43, 45, 47, 49, 50, 51, 52, 149, 150, 308, 452, 593, 594, 595, 596, 682, 684, 685, 686, 687, 688, 689, 690, 691, 692, 693, 694, 695, 696, 699, 700, 1196] (y7S11 t) = .ok (y7S12 t) := by kernel_rfl
end Go.Proofs.YtciaofnkjgjeiacGreatDoor
