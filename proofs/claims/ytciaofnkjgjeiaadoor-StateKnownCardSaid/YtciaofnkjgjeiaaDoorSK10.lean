/- The parts Z3l, Z3m, Z3n of the proof, joined. It holds without conditions of its own. -/
import Derived.Test.YtciaofnkjgjeiaaDoorSK6
/- stateKnown_any, worked out by the machine: pieces. -/
namespace Go.Proofs.YtciaofnkjgjeiaaDoor
set_option linter.unusedSimpArgs false
set_option linter.unusedVariables false
open Go Go.RowKit
set_option maxRecDepth 10000
theorem skP20 (t : TypeId) : stepsG Tryd.prog 100000 skI 14 11 [0, 41, 43, 45, 47, 49, 50, 52, 53, 54, 55, 56, 57, 58, 59, 4532, 8764, 8817, 8818, 8819, 8820, 8821, 8822, 8823, 8824, 8825, 8826, 8827, 8828, 8829, 8830, 8831, 8832, 8833, 8834, 8835, 8836, 8838, 8839, 8841, 8842, 8844, 9295, 9500, 9502, 9503, 9505, 9594, 9595, 9596, 9597, 9598, 9599, 9600, 9601, 9608, 9609, 9614, 9705] (skS20 t) = .ok (skS21 t) := by kernel_rfl
theorem skP21 (t : TypeId) : stepsG Tryd.prog 100000 skI 14 11 [0, 41, 43, 45, 47, 49, 50, 52, 53, 54, 55, 56, 57, 58, 59, 4532, 8764, 8817, 8818, 8819, 8820, 8821, 8822, 8823, 8824, 8825, 8826, 8827, 8828, 8829, 8830, 8831, 8832, 8833, 8834, 8835, 8836, 8838, 8839, 8841, 9295, 10154, 10156] (skS21 t) = .ok (skS22 t) := by kernel_rfl
end Go.Proofs.YtciaofnkjgjeiaaDoor

/- stateKnown_any, worked out by the machine: pieces. -/
namespace Go.Proofs.YtciaofnkjgjeiaaDoor
set_option linter.unusedSimpArgs false
set_option linter.unusedVariables false
open Go Go.RowKit
set_option maxRecDepth 10000
theorem skP22 (t : TypeId) : stepsG Tryd.prog 100000 skI 14 12 [0, 41, 43, 45, 47, 49, 50, 52, 53, 54, 55, 56, 57, 58, 59, 4532, 8764, 8817, 8818, 8819, 8820, 8821, 8822, 8823, 8824, 8825, 8826, 8827, 8828, 8829, 8830, 8831, 8832, 8833, 8834, 8835, 8836, 8838, 8839, 8841, 10154, 10156, 10832, 10835, 10837, 10838, 10840, 10929, 10930, 10931, 10932, 10933, 10934, 10935, 10936, 10943, 11127, 11132, 11226, 11229, 11230, 11232] (skS22 t) = .ok (skS23 t) := by kernel_rfl
theorem skP23 (t : TypeId) : stepsG Tryd.prog 100000 skI 14 11 [0, 41, 43, 45, 47, 49, 50, 52, 53, 54, 55, 56, 57, 58, 59, 4532] (skS23 t) = .ok (skS24 t) := by kernel_rfl
end Go.Proofs.YtciaofnkjgjeiaaDoor

/- stateKnown_any, worked out by the machine: pieces. -/
namespace Go.Proofs.YtciaofnkjgjeiaaDoor
set_option linter.unusedSimpArgs false
set_option linter.unusedVariables false
open Go Go.RowKit
set_option maxRecDepth 10000
theorem skP25 (t : TypeId) : stepsG Tryd.prog 100000 skI 14 11 [0] (skS25 t) = .ok (skS26 t) := by kernel_rfl
end Go.Proofs.YtciaofnkjgjeiaaDoor
