/- The parts Z3f, Z3g of the proof, joined. It holds without conditions of its own. -/
import Derived.Test.YtciaofnkjgjeiaaDoorSK6
/- stateKnown_any, worked out by the machine: pieces. -/
namespace Go.Proofs.YtciaofnkjgjeiaaDoor
set_option linter.unusedSimpArgs false
set_option linter.unusedVariables false
open Go Go.RowKit
set_option maxRecDepth 10000
theorem skP8 (t : TypeId) : stepsG Tryd.prog 100000 skI 14 12 [0, 41, 43, 45, 47, 49, 50, 52, 53, 54, 55, 56, 57, 58, 59, 2374, 2427, 2428, 2429, 2430, 2431, 2432, 2433, 2434, 2435, 2436, 2437, 2438, 2439, 2440, 2441, 2442, 2443, 2444, 2445, 2447, 2448, 2450, 2456, 2459, 2575, 2709, 2712, 2916, 2934, 2955, 2957, 2958, 2960, 2961, 2963, 3052, 3053, 3054, 3055, 3056] (skS8 t) = .ok (skS9 t) := by kernel_rfl
theorem skP9 (t : TypeId) : stepsG Tryd.prog 100000 skI 14 12 [0, 41, 43, 45, 47, 49, 50, 52, 53, 54, 55, 56, 57, 58, 59, 3455, 3456, 3457, 3458, 3511, 3512, 3513, 3514, 3515, 3516, 3517, 3518, 3519, 3520, 3521, 3522, 3523, 3524, 3525, 3526, 3527, 3528, 3530, 3531, 3533, 3534, 3536, 3537, 3539, 3540, 3542, 3631, 3632, 3633, 3634] (skS9 t) = .ok (skS10 t) := by kernel_rfl
end Go.Proofs.YtciaofnkjgjeiaaDoor

/- stateKnown_any, worked out by the machine: pieces. -/
namespace Go.Proofs.YtciaofnkjgjeiaaDoor
set_option linter.unusedSimpArgs false
set_option linter.unusedVariables false
open Go Go.RowKit
set_option maxRecDepth 10000
theorem skP10 (t : TypeId) : stepsG Tryd.prog 100000 skI 14 12 [0, 41, 43, 45, 47, 49, 50, 52, 53, 54, 55, 56, 57, 58, 59, 3455, 3456, 3457, 3458, 3511, 3512, 3513, 3514, 3515, 3516, 3517, 3518, 3519, 3520, 3521, 3522, 3523, 3524, 3525, 3526, 3527, 3528, 3530, 3531, 3533, 3539, 3542, 3658, 3792, 3795, 3999, 4017, 4038, 4040, 4041, 4043, 4044, 4046, 4135, 4136, 4137, 4138, 4139, 4140, 4141, 4142, 4149, 4150, 4155, 4156, 4159, 4160] (skS10 t) = .ok (skS11 t) := by kernel_rfl
theorem skP11 (t : TypeId) : stepsG Tryd.prog 100000 skI 14 12 [0, 41, 43, 45, 47, 49, 50, 52, 53, 54, 55, 56, 57, 58, 59, 4532, 4533, 4534, 4535, 4588, 4589, 4590, 4591, 4592, 4593, 4594, 4595, 4596, 4597, 4598, 4599, 4600, 4601, 4602, 4603, 4604, 4605, 4607, 4608, 4610, 4611, 4613, 4614, 4616, 4617, 4619, 4708, 4709, 4710, 4711, 4712, 4713, 4714, 4715, 4722, 4723, 4728, 4729, 4732] (skS11 t) = .ok (skS12 t) := by kernel_rfl
end Go.Proofs.YtciaofnkjgjeiaaDoor
