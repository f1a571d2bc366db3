/- The parts Y7h of the proof, joined. It holds without conditions of its own. -/
import Derived.Test.YtciaofnkjgjeiacGreatDoorSM11
/- awake_any7, worked out by the machine: pieces. -/
namespace Go.Proofs.YtciaofnkjgjeiacGreatDoor
set_option linter.unusedSimpArgs false
set_option linter.unusedVariables false
open Go Go.RowKit
set_option maxRecDepth 10000
theorem y7P18 (t : TypeId) : stepsG Tryz.prog 100000 y7I 999999 11 [0, 41, 43, 45, 47, 49, 50, 51, 52, 149, 150, 308, 452, 593, 1939, 1940, 1941, 1942, 2028, 2030, 2031, 2032, 2033, 2034, 2035, 2036, 2037, 2038, 2039, 2040, 2041, 2042, 2045, 2046, 2682] (y7S18 t) = .ok (y7S19 t) := by kernel_rfl
theorem y7P19 (t : TypeId) : stepsG Tryz.prog 100000 y7I 999999 10 [0, 41, 43, 45, 47, 49, 50, 51, 52, 149, 150, 308, 452, 593, 1939, 1940, 1941, 1942, 2028, 2030, 2031, 2032, 2033, 2034, 2035, 2036, 2037, 2038, 2039, 2040, 2041, 2042, 2045, 2046, 2682] (y7S19 t) = .ok (y7S20 t) := by kernel_rfl
theorem y7P20 (t : TypeId) : stepsG Tryz.prog 100000 y7I 999999 12 [0, 41, 43, 45, 47, 49, 50, 51, 52, 149, 150, 308, 452, 593, 1939, 1940, 1941, 1942, 2028, 2030, 2031, 2032, 2033, 2034, 2035, 2036, 2037, 2038, 2039, 2040, 2041, 2042, 2045, 2046, 2682] (y7S20 t) = .ok (y7S21 t) := by kernel_rfl
end Go.Proofs.YtciaofnkjgjeiacGreatDoor
