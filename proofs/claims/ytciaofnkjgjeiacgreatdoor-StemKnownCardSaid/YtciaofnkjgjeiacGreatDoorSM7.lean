/- The parts Z7e, Z7f of the proof, joined. It holds without conditions of its own. -/
import Derived.Test.YtciaofnkjgjeiacGreatDoorSM5
/- stemKnown_any, worked out by the machine: pieces. -/
namespace Go.Proofs.YtciaofnkjgjeiacGreatDoor
set_option linter.unusedSimpArgs false
set_option linter.unusedVariables false
open Go Go.RowKit
set_option maxRecDepth 10000
theorem z7P9 (t : TypeId) : stepsG Tryz.prog 100000 z7I 10 9 [0, 41, 43, 45, 47, 49, 50, 51, 146, 147, 305, 432, 433, 434, 435, 436, 522, 524, 525, 526, 527, 528, 529, 530, 531, 532, 533, 534, 535, 536, 539, 540, 932] (z7S9 t) = .ok (z7S10 t) := by kernel_rfl
theorem z7P10 (t : TypeId) : stepsG Tryz.prog 100000 z7I 10 11 [0, 41, 43, 45, 47, 49, 50, 51, 146, 147, 305, 432, 433, 434, 435, 436, 522, 524, 525, 526, 527, 528, 529, 530, 531, 532, 533, 534, 535, 536, 539, 540, 1036] (z7S10 t) = .ok (z7S11 t) := by kernel_rfl
theorem z7P11 (t : TypeId) : stepsG Tryz.prog 100000 z7I 10 11 [0, 41, 43, 45, 47, 49, 50, 51, 146, 147, 305, 432, 433, 434, 435, 436, 522, 524, 525, 526, 527, 528, 529, 530, 531, 532, 533, 534, 535, 536, 539, 540, 1176] (z7S11 t) = .ok (z7S12 t) := by kernel_rfl
end Go.Proofs.YtciaofnkjgjeiacGreatDoor

/- stemKnown_any, worked out by the machine: pieces. -/
namespace Go.Proofs.YtciaofnkjgjeiacGreatDoor
set_option linter.unusedSimpArgs false
set_option linter.unusedVariables false
open Go Go.RowKit
set_option maxRecDepth 10000
theorem z7P12 (t : TypeId) : stepsG Tryz.prog 100000 z7I 10 10 [0, 41, 43, 45, 47, 49, 50, 51, 146, 147, 305, 432, 433, 434, 435, 436, 522, 524, 525, 526, 527, 528, 529, 530, 531, 532, 533, 534, 535, 536, 539, 540, 1176] (z7S12 t) = .ok (z7S13 t) := by kernel_rfl
theorem z7P13 (t : TypeId) : stepsG Tryz.prog 100000 z7I 10 12 [0, 41, 43, 45, 47, 49, 50, 51, 146, 147, 305, 432, 433, 434, 435, 436, 522, 524, 525, 526, 527, 528, 529, 530, 531, 532, 533, 534, 535, 536, 539, 540, 1176] (z7S13 t) = .ok (z7S14 t) := by kernel_rfl
theorem z7P14 (t : TypeId) : stepsG Tryz.prog 100000 z7I 10 13 [0, 41, 43, 45, 47, 49, 50, 51, 146, 147, 305, 432, 433, 434, 435, 436, 522, 524, 525, 526, 527, 528, 529, 530, 531, 532, 533, 534, 535, 536, 539, 540, 1176] (z7S14 t) = .ok (z7S15 t) := by kernel_rfl
end Go.Proofs.YtciaofnkjgjeiacGreatDoor
