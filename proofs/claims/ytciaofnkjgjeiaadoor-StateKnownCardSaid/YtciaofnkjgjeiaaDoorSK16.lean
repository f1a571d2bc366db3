/- The parts Y3j, Y3k of the proof, joined. It holds without conditions of its own. -/
import Derived.Test.YtciaofnkjgjeiaaDoorSK13
/- awake_any3, worked out by the machine: pieces. -/
namespace Go.Proofs.YtciaofnkjgjeiaaDoor
set_option linter.unusedSimpArgs false
set_option linter.unusedVariables false
open Go Go.RowKit
set_option maxRecDepth 10000
theorem saP16 (t : TypeId) : stepsG Tryd.prog 100000 saI 999999 12 [0, 41, 43, 45, 47, 49, 50, 53, 55, 57, 59, 61, 65, 67, 68, 69, 70, 71, 72, 73, 74, 75, 76, 240, 324, 443, 1315, 4550, 6717, 6718, 6719, 6720, 6778, 6779, 6780, 6781, 6782, 6783, 6784, 6785, 6786, 6787, 6788, 6789, 6790, 6791, 6792, 6793, 6794, 6795, 6797, 6798, 6800, 7301, 7303, 7304, 7306, 7307, 7309, 7398, 7399, 7400, 7401, 7402, 7403, 7404, 7405, 7412, 7457, 7462, 7463] (saS16 t) = .ok (saS17 t) := by kernel_rfl
theorem saP17 (t : TypeId) : stepsG Tryd.prog 100000 saI 999999 12 [0, 41, 43, 45, 47, 49, 50, 53, 55, 57, 59, 61, 65, 67, 68, 69, 70, 71, 72, 73, 74, 75, 76, 240, 324, 443, 1315, 4550, 6717, 7793, 7794, 7852, 7853, 7854, 7855, 7856, 7857, 7858, 7859, 7860, 7861, 7862, 7863, 7864, 7865, 7866, 7867, 7868, 7869, 7870, 7872, 7873, 7875, 7876, 7878, 7879, 7881, 7882, 7884, 7973, 7974, 7975, 7976, 7977, 7978, 7979, 7980, 7987, 8030, 8035, 8054] (saS17 t) = .ok (saS18 t) := by kernel_rfl
end Go.Proofs.YtciaofnkjgjeiaaDoor

/- awake_any3, worked out by the machine: pieces. -/
namespace Go.Proofs.YtciaofnkjgjeiaaDoor
set_option linter.unusedSimpArgs false
set_option linter.unusedVariables false
open Go Go.RowKit
set_option maxRecDepth 10000
theorem saP18 (t : TypeId) : stepsG Tryd.prog 100000 saI 999999 12 [0, 41, 43, 45, 47, 49, 50, 53, 55, 57, 59, 61, 65, 67, 68, 69, 70, 71, 72, 73, 74, 75, 76, 240, 324, 443, 1315, 4550, 6717, 7793, 7794, 7852, 7853, 7854, 7855, 7856, 7857, 7858, 7859, 7860, 7861, 7862, 7863, 7864, 7865, 7866, 7867, 7868, 7869, 7870, 7872, 7873, 7875, 8349, 8351, 8587, 8589, 8590, 8592, 8681, 8682, 8683, 8684, 8685, 8686, 8687, 8688, 8695, 8696, 8701, 8702, 8705, 8706, 8708, 8719] (saS18 t) = .ok (saS19 t) := by kernel_rfl
theorem saP19 (t : TypeId) : stepsG Tryd.prog 100000 saI 999999 12 [0, 41, 43, 45, 47, 49, 50, 53, 55, 57, 59, 61, 65, 67, 68, 69, 70, 71, 72, 73, 74, 75, 76, 240, 324, 443, 1315, 4550, 6717, 7793, 8866, 8867, 8925, 8926, 8927, 8928, 8929, 8930, 8931, 8932, 8933, 8934, 8935, 8936, 8937, 8938, 8939, 8940, 8941, 8942, 8943, 8945, 8946, 8948, 8949, 8951, 8952, 8954, 8955, 8957, 9046, 9047, 9048, 9049, 9050, 9051, 9052, 9053, 9060, 9145, 9150, 9151, 9154, 9155] (saS19 t) = .ok (saS20 t) := by kernel_rfl
end Go.Proofs.YtciaofnkjgjeiaaDoor
