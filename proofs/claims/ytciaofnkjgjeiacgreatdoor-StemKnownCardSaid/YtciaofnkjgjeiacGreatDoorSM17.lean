/- The parts Y7j, Y7k of the proof, joined. It holds without conditions of its own. -/
import Derived.Test.YtciaofnkjgjeiacGreatDoorSM11
/- awake_any7, worked out by the machine: pieces. -/
namespace Go.Proofs.YtciaofnkjgjeiacGreatDoor
set_option linter.unusedSimpArgs false
set_option linter.unusedVariables false
open Go Go.RowKit
set_option maxRecDepth 10000
theorem y7P24 (t : TypeId) : stepsG Tryz.prog 100000 y7I 999999 11 [0, 41, 43, 45, 47, 49, 50, 51, 52, 149, 150, 308, 452, 593, 1939, 3307, 3308, 3309, 3310, 3311, 3312, 3398, 3400, 3401, 3402, 3403, 3404, 3405, 3406, 3407, 3408, 3409, 3410, 3411, 3412, 3415, 3416, 4052] (y7S24 t) = .ok (y7S25 t) := by kernel_rfl
theorem y7P25 (t : TypeId) : stepsG Tryz.prog 100000 y7I 999999 10 [0, 41, 43, 45, 47, 49, 50, 51, 52, 149, 150, 308, 452, 593, 1939, 3307, 3308, 3309, 3310, 3311, 3312, 3398, 3400, 3401, 3402, 3403, 3404, 3405, 3406, 3407, 3408, 3409, 3410, 3411, 3412, 3415, 3416, 4052] (y7S25 t) = .ok (y7S26 t) := by kernel_rfl
theorem y7P26 (t : TypeId) : stepsG Tryz.prog 100000 y7I 999999 12 [0, 41, 43, 45, 47, 49, 50, 51, 52, 149, 150, 308, 452, 593, 1939, 3307, 3308, 3309, 3310, 3311, 3312, 3398, 3400, 3401, 3402, 3403, 3404, 3405, 3406, 3407, 3408, 3409, 3410, 3411, 3412, 3415, 3416, 4052] (y7S26 t) = .ok (y7S27 t) := by kernel_rfl
end Go.Proofs.YtciaofnkjgjeiacGreatDoor

/- awake_any7, worked out by the machine: pieces. -/
namespace Go.Proofs.YtciaofnkjgjeiacGreatDoor
set_option linter.unusedSimpArgs false
set_option linter.unusedVariables false
open Go Go.RowKit
set_option maxRecDepth 10000
theorem y7P27 (t : TypeId) : stepsG Tryz.prog 100000 y7I 999999 13 [0, 41, 43, 45, 47, 49, 50, 51, 52, 149, 150, 308, 452, 593, 1939, 3307, 3308, 3309, 3310, 3311, 3312, 3398, 3400, 3401, 3402, 3403, 3404, 3405, 3406, 3407, 3408, 3409, 3410, 3411, 3412, 3415, 3416, 4052] (y7S27 t) = .ok (y7S28 t) := by kernel_rfl
theorem y7P28 (t : TypeId) : stepsG Tryz.prog 100000 y7I 999999 12 [0, 41, 43, 45, 47, 49, 50, 51, 52, 149, 150, 308, 452, 593, 1939, 3307, 3308, 3309, 3310, 3311, 3312, 3398, 3400, 3401, 3402, 3403, 3404, 3405, 3406, 3407, 3408, 3409, 3410, 3411, 3412, 3415, 3416, 4052, 4598] (y7S28 t) = .ok (y7S29 t) := by kernel_rfl
theorem y7P29 (t : TypeId) : stepsG Tryz.prog 100000 y7I 999999 11 [0, 41, 43, 45, 47, 49, 50, 51, 52, 149, 150, 308, 452, 593, 1939, 3307, 3308, 3309, 3310, 3398, 4052, 4653, 4654, 4655, 4656, 4657, 4658, 4659, 4660, 4661, 4662, 4663] (y7S29 t) = .ok (y7S30 t) := by kernel_rfl
end Go.Proofs.YtciaofnkjgjeiacGreatDoor
