/- The parts Ab of the proof, joined. It holds without conditions of its own. -/
import Derived.Test.YtajjhmmmifenaaaGreatDoorOM31
import Derived.Test.YtajjhmmmifenaaaGreatDoorOM36
import Derived.Test.YtajjhmmmifenaaaGreatDoorOM37
import Derived.Test.YtajjhmmmifenaaaGreatDoorOM38
import Derived.Test.YtajjhmmmifenaaaGreatDoorOM45
import Derived.Test.YtajjhmmmifenaaaGreatDoorOM23
import Derived.Test.YtajjhmmmifenaaaGreatDoorOM28
/- What the functions answer for the book of the examples. -/
namespace Go.Proofs.YtajjhmmmifenaaaGreatDoor
set_option linter.unusedSimpArgs false
set_option linter.unusedVariables false
open Go Go.RowKit

/-- The formula of the examples' book. -/
def exText : Bs := [112, 105, 50, 32, 65, 45, 67, 56, 32, 68, 56, 40, 45, 51, 44, 61, 53, 44, 56, 43, 49, 41, 32, 99, 104, 105, 49, 32, 36, 52]

theorem ex_err0 : errF (exBook 0) = 0 := by kernel_rfl
theorem ex_err1 : errF (exBook 1) = 0 := by kernel_rfl
theorem ex_write : writeF (exBook 0) = exText := by kernel_rfl
theorem ex_read : readF exText = (exBook 0, 0) := by kernel_rfl
theorem ex_leaf : leafTR (exBook 0) (getL (lvs (exBook 0)) 28) = .tuple #[S [68, 52], .int .i64 0] := by kernel_rfl
theorem ex_find : findR (exBook 0) [68, 56, 43, 49] = .tuple #[.int .i64 33, .int .i64 0] := by kernel_rfl
theorem ex_lost : findR (exBook 0) [68, 51] = .tuple #[.int .i64 0, .int .i64 4] := by kernel_rfl
theorem ex_mate : mateR (mateF (exBook 0) 32) = .tuple #[.int .i64 26, .int .i64 0] := by kernel_rfl
theorem ex_single : mateR (mateF (exBook 0) 34) = .tuple #[.int .i64 0, .int .i64 4] := by kernel_rfl
theorem ex_signs : signsF (exBook 0) = [2, 3, 4, 5, 10, 11, 12, 13, 18, 19, 20, 21, 26, 27, 28] := by kernel_rfl
theorem ex_differ : differR (diffAt 0 (namesF (exBook 0)) (namesF (exBook 1))) = .tuple #[.int .i64 33, .int .i64 0] := by kernel_rfl
theorem ex_name : nameB [97, 46, 57] = true := by kernel_rfl
theorem ex_noname : nameB [57, 97] = false := by kernel_rfl

end Go.Proofs.YtajjhmmmifenaaaGreatDoor
