/- The parts Y7i of the proof, joined. It holds without conditions of its own. -/
import Derived.Test.YtciaofnkjgjeiacGreatDoorSM11
/- awake_any7, worked out by the machine: pieces. -/
namespace Go.Proofs.YtciaofnkjgjeiacGreatDoor
set_option linter.unusedSimpArgs false
set_option linter.unusedVariables false
open Go Go.RowKit
set_option maxRecDepth 10000
theorem y7P21 (t : TypeId) : stepsG Tryz.prog 100000 y7I 999999 13 [0, 41, 43, 45, 47, 49, 50, 51, 52, 149, 150, 308, 452, 593, 1939, 1940, 1941, 1942, 2028, 2030, 2031, 2032, 2033, 2034, 2035, 2036, 2037, 2038, 2039, 2040, 2041, 2042, 2045, 2046, 2682] (y7S21 t) = .ok (y7S22 t) := by kernel_rfl
theorem y7P22 (t : TypeId) : stepsG Tryz.prog 100000 y7I 999999 13 [0, 41, 43, 45, 47, 49, 50, 51, 52, 149, 150, 308, 452, 593, 1939, 3307, 3308, 3309, 3310, 3311, 3312, 3398, 3400, 3401, 3402, 3403, 3404, 3405, 3406, 3407, 3408, 3409, 3410, 3411, 3412, 3415, 3416, 3615] (y7S22 t) = .ok (y7S23 t) := by kernel_rfl
theorem y7P23 (t : TypeId) : stepsG Tryz.prog 100000 y7I 999999 12 [0, 41, 43, 45, 47, 49, 50, 51, 52, 149, 150, 308, 452, 593, 1939, 3307, 3308, 3309, 3310, 3311, 3312, 3398, 3400, 3401, 3402, 3403, 3404, 3405, 3406, 3407, 3408, 3409, 3410, 3411, 3412, 3415, 3416, 3912, 3917] (y7S23 t) = .ok (y7S24 t) := by kernel_rfl
end Go.Proofs.YtciaofnkjgjeiacGreatDoor
