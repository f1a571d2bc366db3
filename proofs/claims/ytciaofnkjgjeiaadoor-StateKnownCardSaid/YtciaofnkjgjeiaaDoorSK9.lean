/- The parts Z3j, Z3k of the proof, joined. It holds without conditions of its own. -/
import Derived.Test.YtciaofnkjgjeiaaDoorSK6
/- stateKnown_any, worked out by the machine: pieces. -/
namespace Go.Proofs.YtciaofnkjgjeiaaDoor
set_option linter.unusedSimpArgs false
set_option linter.unusedVariables false
open Go Go.RowKit
set_option maxRecDepth 10000
theorem skP16 (t : TypeId) : stepsG Tryd.prog 100000 skI 14 12 [0, 41, 43, 45, 47, 49, 50, 52, 53, 54, 55, 56, 57, 58, 59, 4532, 6697, 6750, 6751, 6752, 6753, 6754, 6755, 6756, 6757, 6758, 6759, 6760, 6761, 6762, 6763, 6764, 6765, 6766, 6767, 6768, 6770, 6771, 6773, 7247, 7249, 7485, 7487, 7488] (skS16 t) = .ok (skS17 t) := by kernel_rfl
theorem skP17 (t : TypeId) : stepsG Tryd.prog 100000 skI 14 12 [0, 41, 43, 45, 47, 49, 50, 52, 53, 54, 55, 56, 57, 58, 59, 4532, 7741, 7794, 7795, 7796, 7797, 7798, 7799, 7800, 7801, 7802, 7803, 7804, 7805, 7806, 7807, 7808, 7809, 7810, 7811, 7812, 7814, 7815, 7817, 7818, 7820, 8056] (skS17 t) = .ok (skS18 t) := by kernel_rfl
end Go.Proofs.YtciaofnkjgjeiaaDoor

/- stateKnown_any, worked out by the machine: pieces. -/
namespace Go.Proofs.YtciaofnkjgjeiaaDoor
set_option linter.unusedSimpArgs false
set_option linter.unusedVariables false
open Go Go.RowKit
set_option maxRecDepth 10000
theorem skP18 (t : TypeId) : stepsG Tryd.prog 100000 skI 14 11 [0, 41, 43, 45, 47, 49, 50, 52, 53, 54, 55, 56, 57, 58, 59, 4532, 7741, 7794, 7795, 7796, 7797, 7798, 7799, 7800, 7801, 7802, 7803, 7804, 7805, 7806, 7807, 7808, 7809, 7810, 7811, 7812, 7814, 7815, 7817, 8291, 8293, 8294, 8296, 8297, 8299, 8388, 8389, 8390, 8391, 8392, 8393, 8394, 8395, 8402, 8403, 8408, 8427, 8430, 8431] (skS18 t) = .ok (skS19 t) := by kernel_rfl
theorem skP19 (t : TypeId) : stepsG Tryd.prog 100000 skI 14 12 [0, 41, 43, 45, 47, 49, 50, 52, 53, 54, 55, 56, 57, 58, 59, 4532, 8764, 8817, 8818, 8819, 8820, 8821, 8822, 8823, 8824, 8825, 8826, 8827, 8828, 8829, 8830, 8831, 8832, 8833, 8834, 8835, 8836, 8838, 8839, 8841, 8842, 8844, 8845, 8847, 8848, 8850, 8939, 8940, 8941, 8942, 8943, 8944, 8945, 8946, 8953, 9111, 9130, 9135, 9136, 9139] (skS19 t) = .ok (skS20 t) := by kernel_rfl
end Go.Proofs.YtciaofnkjgjeiaaDoor
