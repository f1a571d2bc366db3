/- The parts Z7d of the proof, joined. It holds without conditions of its own. -/
import Derived.Test.YtciaofnkjgjeiacGreatDoorSM5
/- stemKnown_any, worked out by the machine: pieces. -/
namespace Go.Proofs.YtciaofnkjgjeiacGreatDoor
set_option linter.unusedSimpArgs false
set_option linter.unusedVariables false
open Go Go.RowKit
set_option maxRecDepth 10000
theorem z7P6 (t : TypeId) : stepsG Tryz.prog 100000 z7I 10 9 [0, 41, 43, 45, 47, 49, 50, 51, 146, 147, 305, 432, 433, 434, 435, 436, 522, 524, 525, 526, 527, 528, 529, 530, 531, 532, 533, 534, 535, 536, 539, 540, 551] (z7S6 t) = .ok (z7S7 t) := by kernel_rfl
theorem z7P7 (t : TypeId) : stepsG Tryz.prog 100000 z7I 10 11 [0, 41, 43, 45, 47, 49, 50, 51, 146, 147, 305, 432, 433, 434, 435, 436, 522, 524, 525, 526, 527, 528, 529, 530, 531, 532, 533, 534, 535, 536, 539, 540, 786] (z7S7 t) = .ok (z7S8 t) := by kernel_rfl
theorem z7P8 (t : TypeId) : stepsG Tryz.prog 100000 z7I 10 10 [0, 41, 43, 45, 47, 49, 50, 51, 146, 147, 305, 432, 433, 434, 435, 436, 522, 524, 525, 526, 527, 528, 529, 530, 531, 532, 533, 534, 535, 536, 539, 540, 932] (z7S8 t) = .ok (z7S9 t) := by kernel_rfl
end Go.Proofs.YtciaofnkjgjeiacGreatDoor
