/- The parts Z3h, Z3i of the proof, joined. It holds without conditions of its own. -/
import Derived.Test.YtciaofnkjgjeiaaDoorSK6
/- stateKnown_any, worked out by the machine: pieces. -/
namespace Go.Proofs.YtciaofnkjgjeiaaDoor
set_option linter.unusedSimpArgs false
set_option linter.unusedVariables false
open Go Go.RowKit
set_option maxRecDepth 10000
theorem skP12 (t : TypeId) : stepsG Tryd.prog 100000 skI 14 12 [0, 41, 43, 45, 47, 49, 50, 52, 53, 54, 55, 56, 57, 58, 59, 4532, 4533, 4534, 4535, 4588, 4589, 4590, 4591, 4592, 4593, 4594, 4595, 4596, 4597, 4598, 4599, 4600, 4601, 4602, 4603, 4604, 4605, 4607, 4608, 4610, 4616, 4619, 4735, 4869, 4872, 5076, 5094, 5115, 5117, 5118, 5120, 5121, 5123, 5212, 5213, 5214, 5215, 5216, 5217, 5218, 5219, 5226, 5227, 5232, 5252] (skS12 t) = .ok (skS13 t) := by kernel_rfl
theorem skP13 (t : TypeId) : stepsG Tryd.prog 100000 skI 14 12 [0, 41, 43, 45, 47, 49, 50, 52, 53, 54, 55, 56, 57, 58, 59, 4532, 5615, 5616, 5617, 5670, 5671, 5672, 5673, 5674, 5675, 5676, 5677, 5678, 5679, 5680, 5681, 5682, 5683, 5684, 5685, 5686, 5687, 5689, 5690, 5692, 5693, 5695, 5696, 5698, 5699, 5701, 5790, 5791, 5792, 5793, 5794, 5795, 5796, 5797, 5804, 5805, 5810, 5811, 5814, 5815, 5817, 5828] (skS13 t) = .ok (skS14 t) := by kernel_rfl
end Go.Proofs.YtciaofnkjgjeiaaDoor

/- stateKnown_any, worked out by the machine: pieces. -/
namespace Go.Proofs.YtciaofnkjgjeiaaDoor
set_option linter.unusedSimpArgs false
set_option linter.unusedVariables false
open Go Go.RowKit
set_option maxRecDepth 10000
theorem skP14 (t : TypeId) : stepsG Tryd.prog 100000 skI 14 12 [0, 41, 43, 45, 47, 49, 50, 52, 53, 54, 55, 56, 57, 58, 59, 4532, 5615, 5616, 5617, 5670, 5671, 5672, 5673, 5674, 5675, 5676, 5677, 5678, 5679, 5680, 5681, 5682, 5683, 5684, 5685, 5686, 5687, 5689, 5690, 5692, 5698, 5701, 5817, 5951, 5954, 6158, 6176, 6197, 6199, 6200, 6202, 6203, 6205, 6294, 6295, 6296, 6297, 6298, 6299, 6300, 6301, 6308, 6309, 6314, 6334, 6337, 6338] (skS14 t) = .ok (skS15 t) := by kernel_rfl
theorem skP15 (t : TypeId) : stepsG Tryd.prog 100000 skI 14 12 [0, 41, 43, 45, 47, 49, 50, 52, 53, 54, 55, 56, 57, 58, 59, 4532, 6697, 6750, 6751, 6752, 6753, 6754, 6755, 6756, 6757, 6758, 6759, 6760, 6761, 6762, 6763, 6764, 6765, 6766, 6767, 6768, 6770, 6771, 6773, 6774, 6776, 6777, 6779, 6780, 6782, 6871, 6872, 6873, 6874, 6875, 6876, 6877, 6878, 6885, 6928] (skS15 t) = .ok (skS16 t) := by kernel_rfl
end Go.Proofs.YtciaofnkjgjeiaaDoor
