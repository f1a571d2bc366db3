/- The parts Y3l, Y3m of the proof, joined. It holds without conditions of its own. -/
import Derived.Test.YtciaofnkjgjeiaaDoorSK13
/- awake_any3, worked out by the machine: pieces. -/
namespace Go.Proofs.YtciaofnkjgjeiaaDoor
set_option linter.unusedSimpArgs false
set_option linter.unusedVariables false
open Go Go.RowKit
set_option maxRecDepth 10000
theorem saP20 (t : TypeId) : stepsG Tryd.prog 100000 saI 999999 12 [0, 41, 43, 45, 47, 49, 50, 53, 55, 57, 59, 61, 65, 67, 68, 69, 70, 71, 72, 73, 74, 75, 76, 240, 324, 443, 1315, 4550, 6717, 7793, 8866, 8867, 8925, 8926, 8927, 8928, 8929, 8930, 8931, 8932, 8933, 8934, 8935, 8936, 8937, 8938, 8939, 8940, 8941, 8942, 8943, 8945, 8946, 8948, 9422, 9424, 9660, 9662, 9663, 9665, 9754, 9755, 9756, 9757, 9758, 9759, 9760, 9761, 9768, 9769, 9774, 9793, 9796, 9797, 9799, 9810] (saS20 t) = .ok (saS21 t) := by kernel_rfl
theorem saP21 (t : TypeId) : stepsG Tryd.prog 100000 saI 999999 12 [0, 41, 43, 45, 47, 49, 50, 53, 55, 57, 59, 61, 65, 67, 68, 69, 70, 71, 72, 73, 74, 75, 76, 240, 324, 443, 1315, 4550, 6717, 7793, 8866, 9896, 9897, 9955, 9956, 9957, 9958, 9959, 9960, 9961, 9962, 9963, 9964, 9965, 9966, 9967, 9968, 9969, 9970, 9971, 9972, 9973, 9974, 9976, 9977, 9979, 9980, 9982, 9983, 9985, 9986, 9988, 10077, 10078, 10079, 10080, 10081, 10082, 10083, 10084, 10091, 10417, 10525, 10530, 10638, 10641] (saS21 t) = .ok (saS22 t) := by kernel_rfl
end Go.Proofs.YtciaofnkjgjeiaaDoor

/- awake_any3, worked out by the machine: pieces. -/
namespace Go.Proofs.YtciaofnkjgjeiaaDoor
set_option linter.unusedSimpArgs false
set_option linter.unusedVariables false
open Go Go.RowKit
set_option maxRecDepth 10000
theorem saP22 (t : TypeId) : stepsG Tryd.prog 100000 saI 999999 11 [0, 41, 43, 45, 47, 49, 50, 53, 55, 57, 59, 61, 65, 67, 68, 69, 70, 71, 72, 73, 74, 75, 76, 240, 324, 443, 1315, 4550, 6717, 7793, 8866, 9896, 9897, 9955, 9956, 9957, 9958, 9959, 9960, 9961, 9962, 9963, 9964, 9965, 9966, 9967, 9968, 9969, 9970, 9971, 9972, 9973, 9974, 9976, 9977, 9979, 9980, 9982, 10417, 10638, 10750, 10752, 10753, 10755, 10844, 10845, 10846, 10847, 10848, 10849, 10850, 10851, 10858, 11301, 11306, 11307, 11310, 11311, 11313, 11324] (saS22 t) = .ok (saS23 t) := by kernel_rfl
theorem saP23 (t : TypeId) : stepsG Tryd.prog 100000 saI 999999 11 [0, 41, 43, 45, 47, 49, 50, 53, 55, 57, 59, 61, 65, 67, 68, 69, 70, 71, 72, 73, 74, 75, 76, 240, 324, 443, 1315, 4550, 6717, 7793, 8866, 9896, 9897, 9955, 9956, 9957, 9958, 9959, 9960, 9961, 9962, 9963, 9964, 9965, 9966, 9967, 9968, 9969, 9970, 9971, 9972, 9973, 9974, 9976, 9977, 9979, 10638, 11515, 11517, 11518, 11520, 11521, 11523, 11612, 11613, 11614, 11615, 11616, 11617, 11618, 11619, 11626, 11735, 11843, 11848, 11849, 11852, 11853, 11855, 11866] (saS23 t) = .ok (saS24 t) := by kernel_rfl
end Go.Proofs.YtciaofnkjgjeiaaDoor
