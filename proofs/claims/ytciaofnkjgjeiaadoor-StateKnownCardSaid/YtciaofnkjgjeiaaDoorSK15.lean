/- The parts Y3h, Y3i of the proof, joined. It holds without conditions of its own. -/
import Derived.Test.YtciaofnkjgjeiaaDoorSK13
/- awake_any3, worked out by the machine: pieces. -/
namespace Go.Proofs.YtciaofnkjgjeiaaDoor
set_option linter.unusedSimpArgs false
set_option linter.unusedVariables false
open Go Go.RowKit
set_option maxRecDepth 10000
theorem saP12 (t : TypeId) : stepsG Tryd.prog 100000 saI 999999 12 [0, 41, 43, 45, 47, 49, 50, 53, 55, 57, 59, 61, 65, 67, 68, 69, 70, 71, 72, 73, 74, 75, 76, 240, 324, 443, 1315, 4550, 4551, 4552, 4553, 4606, 4607, 4608, 4609, 4610, 4611, 4612, 4613, 4614, 4615, 4616, 4617, 4618, 4619, 4620, 4621, 4622, 4623, 4625, 4626, 4628, 4634, 4637, 4753, 4887, 4890, 5094, 5112, 5133, 5135, 5136, 5138, 5139, 5141, 5230, 5231, 5232, 5233, 5234, 5235, 5236, 5237, 5244, 5245, 5250, 5251] (saS12 t) = .ok (saS13 t) := by kernel_rfl
theorem saP13 (t : TypeId) : stepsG Tryd.prog 100000 saI 999999 12 [0, 41, 43, 45, 47, 49, 50, 53, 55, 57, 59, 61, 65, 67, 68, 69, 70, 71, 72, 73, 74, 75, 76, 240, 324, 443, 1315, 4550, 5633, 5634, 5687, 5688, 5689, 5690, 5691, 5692, 5693, 5694, 5695, 5696, 5697, 5698, 5699, 5700, 5701, 5702, 5703, 5704, 5706, 5707, 5709, 5710, 5712, 5713, 5715, 5716, 5718, 5807, 5808, 5809, 5810, 5811, 5812, 5813, 5814, 5821, 5822, 5827, 5828, 5831, 5832, 5834, 5845] (saS13 t) = .ok (saS14 t) := by kernel_rfl
end Go.Proofs.YtciaofnkjgjeiaaDoor

/- awake_any3, worked out by the machine: pieces. -/
namespace Go.Proofs.YtciaofnkjgjeiaaDoor
set_option linter.unusedSimpArgs false
set_option linter.unusedVariables false
open Go Go.RowKit
set_option maxRecDepth 10000
theorem saP14 (t : TypeId) : stepsG Tryd.prog 100000 saI 999999 12 [0, 41, 43, 45, 47, 49, 50, 53, 55, 57, 59, 61, 65, 67, 68, 69, 70, 71, 72, 73, 74, 75, 76, 240, 324, 443, 1315, 4550, 5633, 5634, 5687, 5688, 5689, 5690, 5691, 5692, 5693, 5694, 5695, 5696, 5697, 5698, 5699, 5700, 5701, 5702, 5703, 5704, 5706, 5707, 5709, 5715, 5718, 5834, 5968, 5971, 6175, 6193, 6214, 6216, 6217, 6219, 6220, 6222, 6311, 6312, 6313, 6314, 6315, 6316, 6317, 6318, 6325, 6326, 6331, 6351, 6354, 6355] (saS14 t) = .ok (saS15 t) := by kernel_rfl
theorem saP15 (t : TypeId) : stepsG Tryd.prog 100000 saI 999999 12 [0, 41, 43, 45, 47, 49, 50, 53, 55, 57, 59, 61, 65, 67, 68, 69, 70, 71, 72, 73, 74, 75, 76, 240, 324, 443, 1315, 4550, 6717, 6718, 6719, 6720, 6778, 6779, 6780, 6781, 6782, 6783, 6784, 6785, 6786, 6787, 6788, 6789, 6790, 6791, 6792, 6793, 6794, 6795, 6797, 6798, 6800, 6801, 6803, 6804, 6806, 6807, 6809, 6898, 6899, 6900, 6901, 6902, 6903, 6904, 6905, 6912, 6913, 6918, 6919] (saS15 t) = .ok (saS16 t) := by kernel_rfl
end Go.Proofs.YtciaofnkjgjeiaaDoor
