/- The parts Y7l, Y7m of the proof, joined. It holds without conditions of its own. -/
import Derived.Test.YtciaofnkjgjeiacGreatDoorSM11
/- awake_any7, worked out by the machine: pieces. -/
namespace Go.Proofs.YtciaofnkjgjeiacGreatDoor
set_option linter.unusedSimpArgs false
set_option linter.unusedVariables false
open Go Go.RowKit
set_option maxRecDepth 10000
theorem y7P30 (t : TypeId) : stepsG Tryz.prog 100000 y7I 999999 10 [0, 41, 43, 45, 47, 49, 50, 51, 52, 149, 150, 308, 452, 593, 1939, 3307, 4860, 4863, 4949, 4951, 4952, 4953, 4954, 4955, 4956, 4957, 4958, 4959, 4960, 4961, 4962, 4963, 4964, 4965, 4966, 4967, 4970, 4971] (y7S30 t) = .ok (y7S31 t) := by kernel_rfl
theorem y7P31 (t : TypeId) : stepsG Tryz.prog 100000 y7I 999999 9 [0, 41, 43, 45, 47, 49, 50, 51, 52, 149, 150, 308, 452, 593, 1939, 3307, 4860, 4863, 4949, 4951, 4952, 4953, 4954, 4955, 4956, 4957, 4958, 4959, 4960, 4961, 4962, 4963, 4964, 4965, 4966, 4967, 4970, 4971, 5013] (y7S31 t) = .ok (y7S32 t) := by kernel_rfl
theorem y7P32 (t : TypeId) : stepsG Tryz.prog 100000 y7I 999999 9 [0, 41, 43, 45, 47, 49, 50, 51, 52, 149, 150, 308, 452, 593, 1939, 3307, 4860, 4863, 4949, 4951, 4952, 4953, 4954, 4955, 4956, 4957, 4958, 4959, 4960, 4961, 4962, 4963, 4964, 4965, 4966, 4967, 4970, 4971] (y7S32 t) = .ok (y7S33 t) := by kernel_rfl
end Go.Proofs.YtciaofnkjgjeiacGreatDoor

/- awake_any7, worked out by the machine: pieces. -/
namespace Go.Proofs.YtciaofnkjgjeiacGreatDoor
set_option linter.unusedSimpArgs false
set_option linter.unusedVariables false
open Go Go.RowKit
set_option maxRecDepth 10000
theorem y7P33 (t : TypeId) : stepsG Tryz.prog 100000 y7I 999999 8 [0, 41, 43, 45, 47, 49, 50, 51, 52, 149, 150, 308, 452, 593, 1939, 3307, 4860, 4863, 4949, 4951, 4952, 4953, 4954, 4955, 4956, 4957, 4958, 4959, 4960, 4961, 4962, 4963, 4964, 4965, 4966, 4967, 4970, 4971] (y7S33 t) = .ok (y7S34 t) := by kernel_rfl
theorem y7P34 (t : TypeId) : stepsG Tryz.prog 100000 y7I 999999 10 [0, 41, 43, 45, 47, 49, 50, 51, 52, 149, 150, 308, 452, 593, 1939, 3307, 4860, 4863, 4949, 4951, 4952, 4953, 4954, 4955, 4956, 4957, 4958, 4959, 4960, 4961, 4962, 4963, 4964, 4965, 4966, 4967, 4970, 4971] (y7S34 t) = .ok (y7S35 t) := by kernel_rfl
theorem y7P35 (t : TypeId) : stepsG Tryz.prog 100000 y7I 999999 9 [0, 41, 43, 45, 47, 49, 50, 51, 52, 149, 150, 308, 452, 593, 1939, 3307, 4860, 4863, 4949, 4951, 4952, 4953, 4954, 4955, 4956, 4957, 4958, 4959, 4960, 4961, 4962, 4963, 4964, 4965, 4966, 4967, 4970, 4971] (y7S35 t) = .ok (y7S36 t) := by kernel_rfl
end Go.Proofs.YtciaofnkjgjeiacGreatDoor
