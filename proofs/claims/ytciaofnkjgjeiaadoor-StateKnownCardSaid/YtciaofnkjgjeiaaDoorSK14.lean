/- The parts Y3f, Y3g of the proof, joined. It holds without conditions of its own. -/
import Derived.Test.YtciaofnkjgjeiaaDoorSK13
/- awake_any3, worked out by the machine: pieces. -/
namespace Go.Proofs.YtciaofnkjgjeiaaDoor
set_option linter.unusedSimpArgs false
set_option linter.unusedVariables false
open Go Go.RowKit
set_option maxRecDepth 10000
theorem saP8 (t : TypeId) : stepsG Tryd.prog 100000 saI 999999 12 [0, 41, 43, 45, 47, 49, 50, 53, 55, 57, 59, 61, 65, 67, 68, 69, 70, 71, 72, 73, 74, 75, 76, 240, 324, 443, 1315, 2392, 2445, 2446, 2447, 2448, 2449, 2450, 2451, 2452, 2453, 2454, 2455, 2456, 2457, 2458, 2459, 2460, 2461, 2462, 2463, 2465, 2466, 2468, 2474, 2477, 2593, 2727, 2730, 2934, 2952, 2973, 2975, 2976, 2978, 2979, 2981, 3070, 3071, 3072, 3073] (saS8 t) = .ok (saS9 t) := by kernel_rfl
theorem saP9 (t : TypeId) : stepsG Tryd.prog 100000 saI 999999 12 [0, 41, 43, 45, 47, 49, 50, 53, 55, 57, 59, 61, 65, 67, 68, 69, 70, 71, 72, 73, 74, 75, 76, 240, 324, 443, 1315, 3473, 3474, 3475, 3476, 3529, 3530, 3531, 3532, 3533, 3534, 3535, 3536, 3537, 3538, 3539, 3540, 3541, 3542, 3543, 3544, 3545, 3546, 3548, 3549, 3551, 3552, 3554, 3555, 3557, 3558, 3560, 3649] (saS9 t) = .ok (saS10 t) := by kernel_rfl
end Go.Proofs.YtciaofnkjgjeiaaDoor

/- awake_any3, worked out by the machine: pieces. -/
namespace Go.Proofs.YtciaofnkjgjeiaaDoor
set_option linter.unusedSimpArgs false
set_option linter.unusedVariables false
open Go Go.RowKit
set_option maxRecDepth 10000
theorem saP10 (t : TypeId) : stepsG Tryd.prog 100000 saI 999999 12 [0, 41, 43, 45, 47, 49, 50, 53, 55, 57, 59, 61, 65, 67, 68, 69, 70, 71, 72, 73, 74, 75, 76, 240, 324, 443, 1315, 3473, 3474, 3475, 3476, 3529, 3530, 3531, 3532, 3533, 3534, 3535, 3536, 3537, 3538, 3539, 3540, 3541, 3542, 3543, 3544, 3545, 3546, 3548, 3549, 3551, 3557, 3560, 3676, 3810, 3813, 4017, 4035, 4056, 4058, 4059, 4061, 4062, 4064, 4153, 4154, 4155, 4156, 4157, 4158, 4159, 4160, 4167, 4168, 4173, 4174, 4177, 4178] (saS10 t) = .ok (saS11 t) := by kernel_rfl
theorem saP11 (t : TypeId) : stepsG Tryd.prog 100000 saI 999999 12 [0, 41, 43, 45, 47, 49, 50, 53, 55, 57, 59, 61, 65, 67, 68, 69, 70, 71, 72, 73, 74, 75, 76, 240, 324, 443, 1315, 4550, 4551, 4552, 4553, 4606, 4607, 4608, 4609, 4610, 4611, 4612, 4613, 4614, 4615, 4616, 4617, 4618, 4619, 4620, 4621, 4622, 4623, 4625, 4626, 4628, 4629, 4631, 4632, 4634, 4635, 4637, 4726, 4727, 4728, 4729, 4730, 4731, 4732, 4733, 4740, 4741, 4746, 4747, 4750] (saS11 t) = .ok (saS12 t) := by kernel_rfl
end Go.Proofs.YtciaofnkjgjeiaaDoor
