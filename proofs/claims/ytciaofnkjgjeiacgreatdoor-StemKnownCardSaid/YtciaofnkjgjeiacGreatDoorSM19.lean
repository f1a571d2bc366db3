/- The parts Y7n, Y7o, Y7p, Y7z, Z7z of the proof, joined. It holds without conditions of its own. -/
import Derived.Test.YtciaofnkjgjeiacGreatDoorSM11
import Derived.Test.YtciaofnkjgjeiacGreatDoorSM12
import Derived.Test.YtciaofnkjgjeiacGreatDoorSM13
import Derived.Test.YtciaofnkjgjeiacGreatDoorSM14
import Derived.Test.YtciaofnkjgjeiacGreatDoorSM15
import Derived.Test.YtciaofnkjgjeiacGreatDoorSM16
import Derived.Test.YtciaofnkjgjeiacGreatDoorSM17
import Derived.Test.YtciaofnkjgjeiacGreatDoorSM18
import Derived.Test.YtciaofnkjgjeiacGreatDoorSM5
import Derived.Test.YtciaofnkjgjeiacGreatDoorSM6
import Derived.Test.YtciaofnkjgjeiacGreatDoorSM7
import Derived.Test.YtciaofnkjgjeiacGreatDoorSM8
import Derived.Test.YtciaofnkjgjeiacGreatDoorSM9
/- awake_any7, worked out by the machine: pieces. -/
namespace Go.Proofs.YtciaofnkjgjeiacGreatDoor
set_option linter.unusedSimpArgs false
set_option linter.unusedVariables false
open Go Go.RowKit
set_option maxRecDepth 10000
theorem y7P36 (t : TypeId) : stepsG Tryz.prog 100000 y7I 999999 9 [0, 41, 43, 45, 47, 49, 50, 51, 52, 149, 150, 308, 452, 593, 1939, 3307, 4860, 4863, 4949, 4951, 4952, 4953, 4954, 4955, 4956, 4957, 4958, 4959, 4960, 4961, 4962, 4963, 4964, 4965, 4966, 4967, 4970, 4971] (y7S36 t) = .ok (y7S37 t) := by kernel_rfl
theorem y7P37 (t : TypeId) : stepsG Tryz.prog 100000 y7I 999999 9 [0, 41, 43, 45, 47, 49, 50, 51, 52, 149, 150, 308, 452, 593, 1939, 3307, 4860, 4863, 4949, 4951, 4952, 4953, 4954, 4955, 4956, 4957, 4958, 4959, 4960, 4961, 4962, 4963, 4964, 4965, 4966, 4967, 4970, 4971] (y7S37 t) = .ok (y7S38 t) := by kernel_rfl
theorem y7P38 (t : TypeId) : stepsG Tryz.prog 100000 y7I 999999 11 [0, 41, 43, 45, 47, 49, 50, 51, 52, 149, 150, 308, 452, 593, 1939, 3307, 4860, 4863, 4949, 4951, 4952, 4953, 4954, 4955, 4956, 4957, 4958, 4959, 4960, 4961, 4962, 4963, 4964, 4965, 4966, 4967, 4970, 4971] (y7S38 t) = .ok (y7S39 t) := by kernel_rfl
end Go.Proofs.YtciaofnkjgjeiacGreatDoor

/- awake_any7, worked out by the machine: pieces. -/
namespace Go.Proofs.YtciaofnkjgjeiacGreatDoor
set_option linter.unusedSimpArgs false
set_option linter.unusedVariables false
open Go Go.RowKit
set_option maxRecDepth 10000
theorem y7P39 (t : TypeId) : stepsG Tryz.prog 100000 y7I 999999 11 [0, 41, 43, 45, 47, 49, 50, 51, 52, 149, 150, 308, 452, 593, 1939, 3307, 4860, 4863, 4949, 4951, 4952, 4953, 4954, 4955, 4956, 4957, 4958, 4959, 4960, 4961, 4962, 4963, 4964, 4965, 4966, 4967, 4970, 4971] (y7S39 t) = .ok (y7S40 t) := by kernel_rfl
theorem y7P40 (t : TypeId) : stepsG Tryz.prog 100000 y7I 999999 10 [0, 41, 43, 45, 47, 49, 50, 51, 52, 149, 150, 308, 452, 593, 1939, 3307, 4860, 4863, 4949, 4951, 4952, 4953, 4954, 4955, 4956, 4957, 4958, 4959, 4960, 4961, 4962, 4963, 4964, 4965, 4966, 4967, 4970, 4971] (y7S40 t) = .ok (y7S41 t) := by kernel_rfl
theorem y7P41 (t : TypeId) : stepsG Tryz.prog 100000 y7I 999999 12 [0, 41, 43, 45, 47, 49, 50, 51, 52, 149, 150, 308, 452, 593, 1939, 3307, 4860, 4863, 4949, 4951, 4952, 4953, 4954, 4955, 4956, 4957, 4958, 4959, 4960, 4961, 4962, 4963, 4964, 4965, 4966, 4967, 4970, 4971] (y7S41 t) = .ok (y7S42 t) := by kernel_rfl
end Go.Proofs.YtciaofnkjgjeiacGreatDoor

/- awake_any7, worked out by the machine: pieces. -/
namespace Go.Proofs.YtciaofnkjgjeiacGreatDoor
set_option linter.unusedSimpArgs false
set_option linter.unusedVariables false
open Go Go.RowKit
set_option maxRecDepth 10000
theorem y7P42 (t : TypeId) : stepsG Tryz.prog 100000 y7I 999999 13 [0, 41, 43, 45, 47, 49, 50, 51, 52, 149, 150, 308, 452, 593, 1939, 3307, 4860, 4863, 4949, 4951, 4952, 4953, 4954, 4955, 4956, 4957, 4958, 4959, 4960, 4961, 4962, 4963, 4964, 4965, 4966, 4967, 4970, 4971] (y7S42 t) = .ok (y7S43 t) := by kernel_rfl
theorem y7P43 (t : TypeId) : stepsG Tryz.prog 100000 y7I 999999 13 [0] (y7S43 t) = .ok (y7S44 t) := by kernel_rfl
end Go.Proofs.YtciaofnkjgjeiacGreatDoor

/- awake_any7: what the function comes to, worked out by the machine. -/
namespace Go.Proofs.YtciaofnkjgjeiacGreatDoor
set_option linter.unusedSimpArgs false
set_option linter.unusedVariables false
open Go Go.RowKit
set_option maxRecDepth 10000
theorem y7G44 {W : World} {t : TypeId} (hW : W.heap[0]? = some (.cells tabL.toArray t (0, 0))) : Good Tryz.prog e00 (h00 tab64 t) W (.bool true) (y7S44 t) := top_good rfl rfl (rel_start hW)
theorem y7G43 {W : World} {t : TypeId} (hW : W.heap[0]? = some (.cells tabL.toArray t (0, 0))) : Good Tryz.prog e00 (h00 tab64 t) W (.bool true) (y7S43 t) := piece_good follows (y7P43 t) (y7G44 hW)
theorem y7G42 {W : World} {t : TypeId} (hW : W.heap[0]? = some (.cells tabL.toArray t (0, 0))) : Good Tryz.prog e00 (h00 tab64 t) W (.bool true) (y7S42 t) := piece_good follows (y7P42 t) (y7G43 hW)
theorem y7G41 {W : World} {t : TypeId} (hW : W.heap[0]? = some (.cells tabL.toArray t (0, 0))) : Good Tryz.prog e00 (h00 tab64 t) W (.bool true) (y7S41 t) := piece_good follows (y7P41 t) (y7G42 hW)
theorem y7G40 {W : World} {t : TypeId} (hW : W.heap[0]? = some (.cells tabL.toArray t (0, 0))) : Good Tryz.prog e00 (h00 tab64 t) W (.bool true) (y7S40 t) := piece_good follows (y7P40 t) (y7G41 hW)
theorem y7G39 {W : World} {t : TypeId} (hW : W.heap[0]? = some (.cells tabL.toArray t (0, 0))) : Good Tryz.prog e00 (h00 tab64 t) W (.bool true) (y7S39 t) := piece_good follows (y7P39 t) (y7G40 hW)
theorem y7G38 {W : World} {t : TypeId} (hW : W.heap[0]? = some (.cells tabL.toArray t (0, 0))) : Good Tryz.prog e00 (h00 tab64 t) W (.bool true) (y7S38 t) := piece_good follows (y7P38 t) (y7G39 hW)
theorem y7G37 {W : World} {t : TypeId} (hW : W.heap[0]? = some (.cells tabL.toArray t (0, 0))) : Good Tryz.prog e00 (h00 tab64 t) W (.bool true) (y7S37 t) := piece_good follows (y7P37 t) (y7G38 hW)
theorem y7G36 {W : World} {t : TypeId} (hW : W.heap[0]? = some (.cells tabL.toArray t (0, 0))) : Good Tryz.prog e00 (h00 tab64 t) W (.bool true) (y7S36 t) := piece_good follows (y7P36 t) (y7G37 hW)
theorem y7G35 {W : World} {t : TypeId} (hW : W.heap[0]? = some (.cells tabL.toArray t (0, 0))) : Good Tryz.prog e00 (h00 tab64 t) W (.bool true) (y7S35 t) := piece_good follows (y7P35 t) (y7G36 hW)
theorem y7G34 {W : World} {t : TypeId} (hW : W.heap[0]? = some (.cells tabL.toArray t (0, 0))) : Good Tryz.prog e00 (h00 tab64 t) W (.bool true) (y7S34 t) := piece_good follows (y7P34 t) (y7G35 hW)
theorem y7G33 {W : World} {t : TypeId} (hW : W.heap[0]? = some (.cells tabL.toArray t (0, 0))) : Good Tryz.prog e00 (h00 tab64 t) W (.bool true) (y7S33 t) := piece_good follows (y7P33 t) (y7G34 hW)
theorem y7G32 {W : World} {t : TypeId} (hW : W.heap[0]? = some (.cells tabL.toArray t (0, 0))) : Good Tryz.prog e00 (h00 tab64 t) W (.bool true) (y7S32 t) := piece_good follows (y7P32 t) (y7G33 hW)
theorem y7G31 {W : World} {t : TypeId} (hW : W.heap[0]? = some (.cells tabL.toArray t (0, 0))) : Good Tryz.prog e00 (h00 tab64 t) W (.bool true) (y7S31 t) := piece_good follows (y7P31 t) (y7G32 hW)
theorem y7G30 {W : World} {t : TypeId} (hW : W.heap[0]? = some (.cells tabL.toArray t (0, 0))) : Good Tryz.prog e00 (h00 tab64 t) W (.bool true) (y7S30 t) := piece_good follows (y7P30 t) (y7G31 hW)
theorem y7G29 {W : World} {t : TypeId} (hW : W.heap[0]? = some (.cells tabL.toArray t (0, 0))) : Good Tryz.prog e00 (h00 tab64 t) W (.bool true) (y7S29 t) := piece_good follows (y7P29 t) (y7G30 hW)
theorem y7G28 {W : World} {t : TypeId} (hW : W.heap[0]? = some (.cells tabL.toArray t (0, 0))) : Good Tryz.prog e00 (h00 tab64 t) W (.bool true) (y7S28 t) := piece_good follows (y7P28 t) (y7G29 hW)
theorem y7G27 {W : World} {t : TypeId} (hW : W.heap[0]? = some (.cells tabL.toArray t (0, 0))) : Good Tryz.prog e00 (h00 tab64 t) W (.bool true) (y7S27 t) := piece_good follows (y7P27 t) (y7G28 hW)
theorem y7G26 {W : World} {t : TypeId} (hW : W.heap[0]? = some (.cells tabL.toArray t (0, 0))) : Good Tryz.prog e00 (h00 tab64 t) W (.bool true) (y7S26 t) := piece_good follows (y7P26 t) (y7G27 hW)
theorem y7G25 {W : World} {t : TypeId} (hW : W.heap[0]? = some (.cells tabL.toArray t (0, 0))) : Good Tryz.prog e00 (h00 tab64 t) W (.bool true) (y7S25 t) := piece_good follows (y7P25 t) (y7G26 hW)
theorem y7G24 {W : World} {t : TypeId} (hW : W.heap[0]? = some (.cells tabL.toArray t (0, 0))) : Good Tryz.prog e00 (h00 tab64 t) W (.bool true) (y7S24 t) := piece_good follows (y7P24 t) (y7G25 hW)
theorem y7G23 {W : World} {t : TypeId} (hW : W.heap[0]? = some (.cells tabL.toArray t (0, 0))) : Good Tryz.prog e00 (h00 tab64 t) W (.bool true) (y7S23 t) := piece_good follows (y7P23 t) (y7G24 hW)
theorem y7G22 {W : World} {t : TypeId} (hW : W.heap[0]? = some (.cells tabL.toArray t (0, 0))) : Good Tryz.prog e00 (h00 tab64 t) W (.bool true) (y7S22 t) := piece_good follows (y7P22 t) (y7G23 hW)
theorem y7G21 {W : World} {t : TypeId} (hW : W.heap[0]? = some (.cells tabL.toArray t (0, 0))) : Good Tryz.prog e00 (h00 tab64 t) W (.bool true) (y7S21 t) := piece_good follows (y7P21 t) (y7G22 hW)
theorem y7G20 {W : World} {t : TypeId} (hW : W.heap[0]? = some (.cells tabL.toArray t (0, 0))) : Good Tryz.prog e00 (h00 tab64 t) W (.bool true) (y7S20 t) := piece_good follows (y7P20 t) (y7G21 hW)
theorem y7G19 {W : World} {t : TypeId} (hW : W.heap[0]? = some (.cells tabL.toArray t (0, 0))) : Good Tryz.prog e00 (h00 tab64 t) W (.bool true) (y7S19 t) := piece_good follows (y7P19 t) (y7G20 hW)
theorem y7G18 {W : World} {t : TypeId} (hW : W.heap[0]? = some (.cells tabL.toArray t (0, 0))) : Good Tryz.prog e00 (h00 tab64 t) W (.bool true) (y7S18 t) := piece_good follows (y7P18 t) (y7G19 hW)
theorem y7G17 {W : World} {t : TypeId} (hW : W.heap[0]? = some (.cells tabL.toArray t (0, 0))) : Good Tryz.prog e00 (h00 tab64 t) W (.bool true) (y7S17 t) := piece_good follows (y7P17 t) (y7G18 hW)
theorem y7G16 {W : World} {t : TypeId} (hW : W.heap[0]? = some (.cells tabL.toArray t (0, 0))) : Good Tryz.prog e00 (h00 tab64 t) W (.bool true) (y7S16 t) := piece_good follows (y7P16 t) (y7G17 hW)
theorem y7G15 {W : World} {t : TypeId} (hW : W.heap[0]? = some (.cells tabL.toArray t (0, 0))) : Good Tryz.prog e00 (h00 tab64 t) W (.bool true) (y7S15 t) := piece_good follows (y7P15 t) (y7G16 hW)
theorem y7G14 {W : World} {t : TypeId} (hW : W.heap[0]? = some (.cells tabL.toArray t (0, 0))) : Good Tryz.prog e00 (h00 tab64 t) W (.bool true) (y7S14 t) := piece_good follows (y7P14 t) (y7G15 hW)
theorem y7G13 {W : World} {t : TypeId} (hW : W.heap[0]? = some (.cells tabL.toArray t (0, 0))) : Good Tryz.prog e00 (h00 tab64 t) W (.bool true) (y7S13 t) := piece_good follows (y7P13 t) (y7G14 hW)
theorem y7G12 {W : World} {t : TypeId} (hW : W.heap[0]? = some (.cells tabL.toArray t (0, 0))) : Good Tryz.prog e00 (h00 tab64 t) W (.bool true) (y7S12 t) := piece_good follows (y7P12 t) (y7G13 hW)
theorem y7G11 {W : World} {t : TypeId} (hW : W.heap[0]? = some (.cells tabL.toArray t (0, 0))) : Good Tryz.prog e00 (h00 tab64 t) W (.bool true) (y7S11 t) := piece_good follows (y7P11 t) (y7G12 hW)
theorem y7G10 {W : World} {t : TypeId} (hW : W.heap[0]? = some (.cells tabL.toArray t (0, 0))) : Good Tryz.prog e00 (h00 tab64 t) W (.bool true) (y7S10 t) := piece_good follows (y7P10 t) (y7G11 hW)
theorem y7G9 {W : World} {t : TypeId} (hW : W.heap[0]? = some (.cells tabL.toArray t (0, 0))) : Good Tryz.prog e00 (h00 tab64 t) W (.bool true) (y7S9 t) := piece_good follows (y7P9 t) (y7G10 hW)
theorem y7G8 {W : World} {t : TypeId} (hW : W.heap[0]? = some (.cells tabL.toArray t (0, 0))) : Good Tryz.prog e00 (h00 tab64 t) W (.bool true) (y7S8 t) := piece_good follows (y7P8 t) (y7G9 hW)
theorem y7G7 {W : World} {t : TypeId} (hW : W.heap[0]? = some (.cells tabL.toArray t (0, 0))) : Good Tryz.prog e00 (h00 tab64 t) W (.bool true) (y7S7 t) := piece_good follows (y7P7 t) (y7G8 hW)
theorem y7G6 {W : World} {t : TypeId} (hW : W.heap[0]? = some (.cells tabL.toArray t (0, 0))) : Good Tryz.prog e00 (h00 tab64 t) W (.bool true) (y7S6 t) := piece_good follows (y7P6 t) (y7G7 hW)
theorem y7G5 {W : World} {t : TypeId} (hW : W.heap[0]? = some (.cells tabL.toArray t (0, 0))) : Good Tryz.prog e00 (h00 tab64 t) W (.bool true) (y7S5 t) := piece_good follows (y7P5 t) (y7G6 hW)
theorem y7G4 {W : World} {t : TypeId} (hW : W.heap[0]? = some (.cells tabL.toArray t (0, 0))) : Good Tryz.prog e00 (h00 tab64 t) W (.bool true) (y7S4 t) := piece_good follows (y7P4 t) (y7G5 hW)
theorem y7G3 {W : World} {t : TypeId} (hW : W.heap[0]? = some (.cells tabL.toArray t (0, 0))) : Good Tryz.prog e00 (h00 tab64 t) W (.bool true) (y7S3 t) := piece_good follows (y7P3 t) (y7G4 hW)
theorem y7G2 {W : World} {t : TypeId} (hW : W.heap[0]? = some (.cells tabL.toArray t (0, 0))) : Good Tryz.prog e00 (h00 tab64 t) W (.bool true) (y7S2 t) := piece_good follows (y7P2 t) (y7G3 hW)
theorem y7G1 {W : World} {t : TypeId} (hW : W.heap[0]? = some (.cells tabL.toArray t (0, 0))) : Good Tryz.prog e00 (h00 tab64 t) W (.bool true) (y7S1 t) := piece_good follows (y7P1 t) (y7G2 hW)
theorem y7G0 {W : World} {t : TypeId} (hW : W.heap[0]? = some (.cells tabL.toArray t (0, 0))) : Good Tryz.prog e00 (h00 tab64 t) W (.bool true) (y7S0 t) := piece_good follows (y7P0 t) (y7G1 hW)
theorem awake_any7 {W : World} {t : TypeId} (hW : W.heap[0]? = some (.cells tabL.toArray t (0, 0))) : Calls Tryz.prog 10 #[] W fun en W' => en = .returned (.bool true) ∧ Below W.heap.size W W' :=
  whole_ok Tryz.func10 (c := bodyOf Tryz.f10) (by kernel_rfl) (rel_start hW) (gl := 1) (by intro g hg; obtain rfl : g = 0 := Nat.lt_one_iff.1 hg; exact ⟨rfl, rfl⟩) (y7G0 hW)
end Go.Proofs.YtciaofnkjgjeiacGreatDoor

/- stemKnown_any: what the function comes to, worked out by the machine. -/
namespace Go.Proofs.YtciaofnkjgjeiacGreatDoor
set_option linter.unusedSimpArgs false
set_option linter.unusedVariables false
open Go Go.RowKit
set_option maxRecDepth 10000
theorem z7G24 {W : World} {t : TypeId} (hW : W.heap[0]? = some (.cells tabL.toArray t (0, 0))) : Good Tryz.prog e00 (h00 tab64 t) W (.bool true) (z7S24 t) := top_good rfl rfl (rel_start hW)
theorem z7G23 {W : World} {t : TypeId} (hW : W.heap[0]? = some (.cells tabL.toArray t (0, 0))) : Good Tryz.prog e00 (h00 tab64 t) W (.bool true) (z7S23 t) := piece_good follows (z7P23 t) (z7G24 hW)
noncomputable def z7O : Oper := ((opsIn (cF Tryz.f3 [1, 1, 1, 1, 1, 1, 1, 1, 0])).toList.drop 45).headD opNo
theorem z7G22 {W : World} {t : TypeId} (hW : W.heap[0]? = some (.cells tabL.toArray t (0, 0))) : Good Tryz.prog e00 (h00 tab64 t) W (.bool true) (z7S22 t) :=
  known_good (z := .bool true) (o := z7O) (by kernel_rfl) (by kernel_rfl) (by kernel_rfl) (by kernel_rfl) Tryz.func10 (by kernel_rfl) (by kernel_rfl) (fun w hk => awake_any7 ((hk.keep 0 (Array.getElem?_eq_some_iff.1 hW).1).trans hW)) rfl rfl (rel_start hW) (z7G23 hW)
theorem z7G21 {W : World} {t : TypeId} (hW : W.heap[0]? = some (.cells tabL.toArray t (0, 0))) : Good Tryz.prog e00 (h00 tab64 t) W (.bool true) (z7S21 t) := piece_good follows (z7P21 t) (z7G22 hW)
theorem z7G20 {W : World} {t : TypeId} (hW : W.heap[0]? = some (.cells tabL.toArray t (0, 0))) : Good Tryz.prog e00 (h00 tab64 t) W (.bool true) (z7S20 t) := piece_good follows (z7P20 t) (z7G21 hW)
theorem z7G19 {W : World} {t : TypeId} (hW : W.heap[0]? = some (.cells tabL.toArray t (0, 0))) : Good Tryz.prog e00 (h00 tab64 t) W (.bool true) (z7S19 t) := piece_good follows (z7P19 t) (z7G20 hW)
theorem z7G18 {W : World} {t : TypeId} (hW : W.heap[0]? = some (.cells tabL.toArray t (0, 0))) : Good Tryz.prog e00 (h00 tab64 t) W (.bool true) (z7S18 t) := piece_good follows (z7P18 t) (z7G19 hW)
theorem z7G17 {W : World} {t : TypeId} (hW : W.heap[0]? = some (.cells tabL.toArray t (0, 0))) : Good Tryz.prog e00 (h00 tab64 t) W (.bool true) (z7S17 t) := piece_good follows (z7P17 t) (z7G18 hW)
theorem z7G16 {W : World} {t : TypeId} (hW : W.heap[0]? = some (.cells tabL.toArray t (0, 0))) : Good Tryz.prog e00 (h00 tab64 t) W (.bool true) (z7S16 t) := piece_good follows (z7P16 t) (z7G17 hW)
theorem z7G15 {W : World} {t : TypeId} (hW : W.heap[0]? = some (.cells tabL.toArray t (0, 0))) : Good Tryz.prog e00 (h00 tab64 t) W (.bool true) (z7S15 t) := piece_good follows (z7P15 t) (z7G16 hW)
theorem z7G14 {W : World} {t : TypeId} (hW : W.heap[0]? = some (.cells tabL.toArray t (0, 0))) : Good Tryz.prog e00 (h00 tab64 t) W (.bool true) (z7S14 t) := piece_good follows (z7P14 t) (z7G15 hW)
theorem z7G13 {W : World} {t : TypeId} (hW : W.heap[0]? = some (.cells tabL.toArray t (0, 0))) : Good Tryz.prog e00 (h00 tab64 t) W (.bool true) (z7S13 t) := piece_good follows (z7P13 t) (z7G14 hW)
theorem z7G12 {W : World} {t : TypeId} (hW : W.heap[0]? = some (.cells tabL.toArray t (0, 0))) : Good Tryz.prog e00 (h00 tab64 t) W (.bool true) (z7S12 t) := piece_good follows (z7P12 t) (z7G13 hW)
theorem z7G11 {W : World} {t : TypeId} (hW : W.heap[0]? = some (.cells tabL.toArray t (0, 0))) : Good Tryz.prog e00 (h00 tab64 t) W (.bool true) (z7S11 t) := piece_good follows (z7P11 t) (z7G12 hW)
theorem z7G10 {W : World} {t : TypeId} (hW : W.heap[0]? = some (.cells tabL.toArray t (0, 0))) : Good Tryz.prog e00 (h00 tab64 t) W (.bool true) (z7S10 t) := piece_good follows (z7P10 t) (z7G11 hW)
theorem z7G9 {W : World} {t : TypeId} (hW : W.heap[0]? = some (.cells tabL.toArray t (0, 0))) : Good Tryz.prog e00 (h00 tab64 t) W (.bool true) (z7S9 t) := piece_good follows (z7P9 t) (z7G10 hW)
theorem z7G8 {W : World} {t : TypeId} (hW : W.heap[0]? = some (.cells tabL.toArray t (0, 0))) : Good Tryz.prog e00 (h00 tab64 t) W (.bool true) (z7S8 t) := piece_good follows (z7P8 t) (z7G9 hW)
theorem z7G7 {W : World} {t : TypeId} (hW : W.heap[0]? = some (.cells tabL.toArray t (0, 0))) : Good Tryz.prog e00 (h00 tab64 t) W (.bool true) (z7S7 t) := piece_good follows (z7P7 t) (z7G8 hW)
theorem z7G6 {W : World} {t : TypeId} (hW : W.heap[0]? = some (.cells tabL.toArray t (0, 0))) : Good Tryz.prog e00 (h00 tab64 t) W (.bool true) (z7S6 t) := piece_good follows (z7P6 t) (z7G7 hW)
theorem z7G5 {W : World} {t : TypeId} (hW : W.heap[0]? = some (.cells tabL.toArray t (0, 0))) : Good Tryz.prog e00 (h00 tab64 t) W (.bool true) (z7S5 t) := piece_good follows (z7P5 t) (z7G6 hW)
theorem z7G4 {W : World} {t : TypeId} (hW : W.heap[0]? = some (.cells tabL.toArray t (0, 0))) : Good Tryz.prog e00 (h00 tab64 t) W (.bool true) (z7S4 t) := piece_good follows (z7P4 t) (z7G5 hW)
theorem z7G3 {W : World} {t : TypeId} (hW : W.heap[0]? = some (.cells tabL.toArray t (0, 0))) : Good Tryz.prog e00 (h00 tab64 t) W (.bool true) (z7S3 t) := piece_good follows (z7P3 t) (z7G4 hW)
theorem z7G2 {W : World} {t : TypeId} (hW : W.heap[0]? = some (.cells tabL.toArray t (0, 0))) : Good Tryz.prog e00 (h00 tab64 t) W (.bool true) (z7S2 t) := piece_good follows (z7P2 t) (z7G3 hW)
theorem z7G1 {W : World} {t : TypeId} (hW : W.heap[0]? = some (.cells tabL.toArray t (0, 0))) : Good Tryz.prog e00 (h00 tab64 t) W (.bool true) (z7S1 t) := piece_good follows (z7P1 t) (z7G2 hW)
theorem z7G0 {W : World} {t : TypeId} (hW : W.heap[0]? = some (.cells tabL.toArray t (0, 0))) : Good Tryz.prog e00 (h00 tab64 t) W (.bool true) (z7S0 t) := piece_good follows (z7P0 t) (z7G1 hW)
theorem stemKnown_any {W : World} {t : TypeId} (hW : W.heap[0]? = some (.cells tabL.toArray t (0, 0))) : Calls Tryz.prog 3 #[] W fun en W' => en = .returned (.bool true) ∧ Below W.heap.size W W' :=
  whole_ok Tryz.func3 (c := bodyOf Tryz.f3) (by kernel_rfl) (rel_start hW) (gl := 1) (by intro g hg; obtain rfl : g = 0 := Nat.lt_one_iff.1 hg; exact ⟨rfl, rfl⟩) (z7G0 hW)
end Go.Proofs.YtciaofnkjgjeiacGreatDoor
