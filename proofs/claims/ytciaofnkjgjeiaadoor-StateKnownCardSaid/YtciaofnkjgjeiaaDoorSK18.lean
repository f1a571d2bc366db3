/- The parts Y3n, Y3o, Y3z, Z3z, Ku3 of the proof, joined. It holds without conditions of its own. -/
import Derived.Test.YtciaofnkjgjeiaaDoorSK13
import Derived.Test.YtciaofnkjgjeiaaDoorSK14
import Derived.Test.YtciaofnkjgjeiaaDoorSK15
import Derived.Test.YtciaofnkjgjeiaaDoorSK16
import Derived.Test.YtciaofnkjgjeiaaDoorSK17
import Derived.Test.YtciaofnkjgjeiaaDoorSK6
import Derived.Test.YtciaofnkjgjeiaaDoorSK7
import Derived.Test.YtciaofnkjgjeiaaDoorSK8
import Derived.Test.YtciaofnkjgjeiaaDoorSK9
import Derived.Test.YtciaofnkjgjeiaaDoorSK10
import Derived.Test.YtciaofnkjgjeiaaDoorSK3
import Derived.Test.YtciaofnkjgjeiaaDoorCards
import Derived.Test.YtciaofnkjgjeiaaDoorTie
import Derived.ChangeSame
import Derived.SevenTiedAt
/- awake_any3, worked out by the machine: pieces. -/
namespace Go.Proofs.YtciaofnkjgjeiaaDoor
set_option linter.unusedSimpArgs false
set_option linter.unusedVariables false
open Go Go.RowKit
set_option maxRecDepth 10000
theorem saP24 (t : TypeId) : stepsG Tryd.prog 100000 saI 999999 11 [0, 41, 43, 45, 47, 49, 50, 53, 55, 57, 59, 61, 65, 67, 68, 69, 70, 71, 72, 73, 74, 75, 76, 240, 324, 443, 1315, 4550, 6717, 7793, 8866, 9896, 9897, 9955, 9956, 9957, 9958, 9959, 9960, 9961, 9962, 9963, 9964, 9965, 9966, 9967, 9968, 9969, 9970, 9971, 9972, 9973, 9974, 9976, 9977, 9979, 11515, 11517, 11735, 12273, 12292, 12294, 12295, 12297, 12386, 12387, 12388, 12389, 12390, 12391, 12392, 12393, 12400, 12401, 12406, 12516, 12519] (saS24 t) = .ok (saS25 t) := by kernel_rfl
theorem saP25 (t : TypeId) : stepsG Tryd.prog 100000 saI 999999 11 [0, 41, 43, 45, 47, 49, 50, 53, 55, 57, 59, 61, 65, 67, 68, 69, 70, 71, 72, 73, 74, 75, 76, 240, 324, 443, 1315, 4550, 6717, 7793, 8866, 9896, 9897, 9955, 9956, 9957, 9958, 9959, 9960, 9961, 9962, 9963, 9964, 9965, 9966, 9967, 9968, 9969, 9970, 9971, 9972, 9973, 9974, 9976, 9977, 9979, 11515, 11517, 11735, 12273, 12292, 12294, 12295, 12297, 12386, 12387, 12388, 12389, 12390, 12391, 12392, 12393, 12400, 12849] (saS25 t) = .ok (saS26 t) := by kernel_rfl
end Go.Proofs.YtciaofnkjgjeiaaDoor

/- awake_any3, worked out by the machine: pieces. -/
namespace Go.Proofs.YtciaofnkjgjeiaaDoor
set_option linter.unusedSimpArgs false
set_option linter.unusedVariables false
open Go Go.RowKit
set_option maxRecDepth 10000
theorem saP26 (t : TypeId) : stepsG Tryd.prog 100000 saI 999999 11 [0] (saS26 t) = .ok (saS27 t) := by kernel_rfl
end Go.Proofs.YtciaofnkjgjeiaaDoor

/- awake_any3: what the function comes to, worked out by the machine. -/
namespace Go.Proofs.YtciaofnkjgjeiaaDoor
set_option linter.unusedSimpArgs false
set_option linter.unusedVariables false
open Go Go.RowKit
set_option maxRecDepth 10000
theorem saG27 {W : World} {t : TypeId} (hW : W.heap[0]? = some (.cells tabL.toArray t (0, 0))) : Good Tryd.prog e00 (h00 tab64 t) W (.bool true) (saS27 t) := top_good rfl rfl (rel_start hW)
theorem saG26 {W : World} {t : TypeId} (hW : W.heap[0]? = some (.cells tabL.toArray t (0, 0))) : Good Tryd.prog e00 (h00 tab64 t) W (.bool true) (saS26 t) := piece_good follows (saP26 t) (saG27 hW)
theorem saG25 {W : World} {t : TypeId} (hW : W.heap[0]? = some (.cells tabL.toArray t (0, 0))) : Good Tryd.prog e00 (h00 tab64 t) W (.bool true) (saS25 t) := piece_good follows (saP25 t) (saG26 hW)
theorem saG24 {W : World} {t : TypeId} (hW : W.heap[0]? = some (.cells tabL.toArray t (0, 0))) : Good Tryd.prog e00 (h00 tab64 t) W (.bool true) (saS24 t) := piece_good follows (saP24 t) (saG25 hW)
theorem saG23 {W : World} {t : TypeId} (hW : W.heap[0]? = some (.cells tabL.toArray t (0, 0))) : Good Tryd.prog e00 (h00 tab64 t) W (.bool true) (saS23 t) := piece_good follows (saP23 t) (saG24 hW)
theorem saG22 {W : World} {t : TypeId} (hW : W.heap[0]? = some (.cells tabL.toArray t (0, 0))) : Good Tryd.prog e00 (h00 tab64 t) W (.bool true) (saS22 t) := piece_good follows (saP22 t) (saG23 hW)
theorem saG21 {W : World} {t : TypeId} (hW : W.heap[0]? = some (.cells tabL.toArray t (0, 0))) : Good Tryd.prog e00 (h00 tab64 t) W (.bool true) (saS21 t) := piece_good follows (saP21 t) (saG22 hW)
theorem saG20 {W : World} {t : TypeId} (hW : W.heap[0]? = some (.cells tabL.toArray t (0, 0))) : Good Tryd.prog e00 (h00 tab64 t) W (.bool true) (saS20 t) := piece_good follows (saP20 t) (saG21 hW)
theorem saG19 {W : World} {t : TypeId} (hW : W.heap[0]? = some (.cells tabL.toArray t (0, 0))) : Good Tryd.prog e00 (h00 tab64 t) W (.bool true) (saS19 t) := piece_good follows (saP19 t) (saG20 hW)
theorem saG18 {W : World} {t : TypeId} (hW : W.heap[0]? = some (.cells tabL.toArray t (0, 0))) : Good Tryd.prog e00 (h00 tab64 t) W (.bool true) (saS18 t) := piece_good follows (saP18 t) (saG19 hW)
theorem saG17 {W : World} {t : TypeId} (hW : W.heap[0]? = some (.cells tabL.toArray t (0, 0))) : Good Tryd.prog e00 (h00 tab64 t) W (.bool true) (saS17 t) := piece_good follows (saP17 t) (saG18 hW)
theorem saG16 {W : World} {t : TypeId} (hW : W.heap[0]? = some (.cells tabL.toArray t (0, 0))) : Good Tryd.prog e00 (h00 tab64 t) W (.bool true) (saS16 t) := piece_good follows (saP16 t) (saG17 hW)
theorem saG15 {W : World} {t : TypeId} (hW : W.heap[0]? = some (.cells tabL.toArray t (0, 0))) : Good Tryd.prog e00 (h00 tab64 t) W (.bool true) (saS15 t) := piece_good follows (saP15 t) (saG16 hW)
theorem saG14 {W : World} {t : TypeId} (hW : W.heap[0]? = some (.cells tabL.toArray t (0, 0))) : Good Tryd.prog e00 (h00 tab64 t) W (.bool true) (saS14 t) := piece_good follows (saP14 t) (saG15 hW)
theorem saG13 {W : World} {t : TypeId} (hW : W.heap[0]? = some (.cells tabL.toArray t (0, 0))) : Good Tryd.prog e00 (h00 tab64 t) W (.bool true) (saS13 t) := piece_good follows (saP13 t) (saG14 hW)
theorem saG12 {W : World} {t : TypeId} (hW : W.heap[0]? = some (.cells tabL.toArray t (0, 0))) : Good Tryd.prog e00 (h00 tab64 t) W (.bool true) (saS12 t) := piece_good follows (saP12 t) (saG13 hW)
theorem saG11 {W : World} {t : TypeId} (hW : W.heap[0]? = some (.cells tabL.toArray t (0, 0))) : Good Tryd.prog e00 (h00 tab64 t) W (.bool true) (saS11 t) := piece_good follows (saP11 t) (saG12 hW)
theorem saG10 {W : World} {t : TypeId} (hW : W.heap[0]? = some (.cells tabL.toArray t (0, 0))) : Good Tryd.prog e00 (h00 tab64 t) W (.bool true) (saS10 t) := piece_good follows (saP10 t) (saG11 hW)
theorem saG9 {W : World} {t : TypeId} (hW : W.heap[0]? = some (.cells tabL.toArray t (0, 0))) : Good Tryd.prog e00 (h00 tab64 t) W (.bool true) (saS9 t) := piece_good follows (saP9 t) (saG10 hW)
theorem saG8 {W : World} {t : TypeId} (hW : W.heap[0]? = some (.cells tabL.toArray t (0, 0))) : Good Tryd.prog e00 (h00 tab64 t) W (.bool true) (saS8 t) := piece_good follows (saP8 t) (saG9 hW)
theorem saG7 {W : World} {t : TypeId} (hW : W.heap[0]? = some (.cells tabL.toArray t (0, 0))) : Good Tryd.prog e00 (h00 tab64 t) W (.bool true) (saS7 t) := piece_good follows (saP7 t) (saG8 hW)
theorem saG6 {W : World} {t : TypeId} (hW : W.heap[0]? = some (.cells tabL.toArray t (0, 0))) : Good Tryd.prog e00 (h00 tab64 t) W (.bool true) (saS6 t) := piece_good follows (saP6 t) (saG7 hW)
theorem saG5 {W : World} {t : TypeId} (hW : W.heap[0]? = some (.cells tabL.toArray t (0, 0))) : Good Tryd.prog e00 (h00 tab64 t) W (.bool true) (saS5 t) := piece_good follows (saP5 t) (saG6 hW)
theorem saG4 {W : World} {t : TypeId} (hW : W.heap[0]? = some (.cells tabL.toArray t (0, 0))) : Good Tryd.prog e00 (h00 tab64 t) W (.bool true) (saS4 t) := piece_good follows (saP4 t) (saG5 hW)
theorem saG3 {W : World} {t : TypeId} (hW : W.heap[0]? = some (.cells tabL.toArray t (0, 0))) : Good Tryd.prog e00 (h00 tab64 t) W (.bool true) (saS3 t) := piece_good follows (saP3 t) (saG4 hW)
theorem saG2 {W : World} {t : TypeId} (hW : W.heap[0]? = some (.cells tabL.toArray t (0, 0))) : Good Tryd.prog e00 (h00 tab64 t) W (.bool true) (saS2 t) := piece_good follows (saP2 t) (saG3 hW)
theorem saG1 {W : World} {t : TypeId} (hW : W.heap[0]? = some (.cells tabL.toArray t (0, 0))) : Good Tryd.prog e00 (h00 tab64 t) W (.bool true) (saS1 t) := piece_good follows (saP1 t) (saG2 hW)
theorem saG0 {W : World} {t : TypeId} (hW : W.heap[0]? = some (.cells tabL.toArray t (0, 0))) : Good Tryd.prog e00 (h00 tab64 t) W (.bool true) (saS0 t) := piece_good follows (saP0 t) (saG1 hW)
theorem awake_any3 {W : World} {t : TypeId} (hW : W.heap[0]? = some (.cells tabL.toArray t (0, 0))) : Calls Tryd.prog 14 #[] W fun en W' => en = .returned (.bool true) ∧ Below W.heap.size W W' :=
  whole_ok Tryd.func14 (c := bodyOf Tryd.f14) (by kernel_rfl) (rel_start hW) (gl := 1) (by intro g hg; obtain rfl : g = 0 := Nat.lt_one_iff.1 hg; exact ⟨rfl, rfl⟩) (saG0 hW)
end Go.Proofs.YtciaofnkjgjeiaaDoor

/- stateKnown_any: what the function comes to, worked out by the machine. -/
namespace Go.Proofs.YtciaofnkjgjeiaaDoor
set_option linter.unusedSimpArgs false
set_option linter.unusedVariables false
open Go Go.RowKit
set_option maxRecDepth 10000
theorem skG26 {W : World} {t : TypeId} (hW : W.heap[0]? = some (.cells tabL.toArray t (0, 0))) : Good Tryd.prog e00 (h00 tab64 t) W (.bool true) (skS26 t) := top_good rfl rfl (rel_start hW)
theorem skG25 {W : World} {t : TypeId} (hW : W.heap[0]? = some (.cells tabL.toArray t (0, 0))) : Good Tryd.prog e00 (h00 tab64 t) W (.bool true) (skS25 t) := piece_good follows (skP25 t) (skG26 hW)
noncomputable def skO : Oper := ((opsIn (cF Tryd.f3 [1, 1, 1, 1, 1, 1, 1, 1, 1, 1, 1, 1, 0])).toList.drop 79).headD opNo
theorem skG24 {W : World} {t : TypeId} (hW : W.heap[0]? = some (.cells tabL.toArray t (0, 0))) : Good Tryd.prog e00 (h00 tab64 t) W (.bool true) (skS24 t) :=
  known_good (z := .bool true) (o := skO) (by kernel_rfl) (by kernel_rfl) (by kernel_rfl) (by kernel_rfl) Tryd.func14 (by kernel_rfl) (by kernel_rfl) (fun w hk => awake_any3 ((hk.keep 0 (Array.getElem?_eq_some_iff.1 hW).1).trans hW)) rfl rfl (rel_start hW) (skG25 hW)
theorem skG23 {W : World} {t : TypeId} (hW : W.heap[0]? = some (.cells tabL.toArray t (0, 0))) : Good Tryd.prog e00 (h00 tab64 t) W (.bool true) (skS23 t) := piece_good follows (skP23 t) (skG24 hW)
theorem skG22 {W : World} {t : TypeId} (hW : W.heap[0]? = some (.cells tabL.toArray t (0, 0))) : Good Tryd.prog e00 (h00 tab64 t) W (.bool true) (skS22 t) := piece_good follows (skP22 t) (skG23 hW)
theorem skG21 {W : World} {t : TypeId} (hW : W.heap[0]? = some (.cells tabL.toArray t (0, 0))) : Good Tryd.prog e00 (h00 tab64 t) W (.bool true) (skS21 t) := piece_good follows (skP21 t) (skG22 hW)
theorem skG20 {W : World} {t : TypeId} (hW : W.heap[0]? = some (.cells tabL.toArray t (0, 0))) : Good Tryd.prog e00 (h00 tab64 t) W (.bool true) (skS20 t) := piece_good follows (skP20 t) (skG21 hW)
theorem skG19 {W : World} {t : TypeId} (hW : W.heap[0]? = some (.cells tabL.toArray t (0, 0))) : Good Tryd.prog e00 (h00 tab64 t) W (.bool true) (skS19 t) := piece_good follows (skP19 t) (skG20 hW)
theorem skG18 {W : World} {t : TypeId} (hW : W.heap[0]? = some (.cells tabL.toArray t (0, 0))) : Good Tryd.prog e00 (h00 tab64 t) W (.bool true) (skS18 t) := piece_good follows (skP18 t) (skG19 hW)
theorem skG17 {W : World} {t : TypeId} (hW : W.heap[0]? = some (.cells tabL.toArray t (0, 0))) : Good Tryd.prog e00 (h00 tab64 t) W (.bool true) (skS17 t) := piece_good follows (skP17 t) (skG18 hW)
theorem skG16 {W : World} {t : TypeId} (hW : W.heap[0]? = some (.cells tabL.toArray t (0, 0))) : Good Tryd.prog e00 (h00 tab64 t) W (.bool true) (skS16 t) := piece_good follows (skP16 t) (skG17 hW)
theorem skG15 {W : World} {t : TypeId} (hW : W.heap[0]? = some (.cells tabL.toArray t (0, 0))) : Good Tryd.prog e00 (h00 tab64 t) W (.bool true) (skS15 t) := piece_good follows (skP15 t) (skG16 hW)
theorem skG14 {W : World} {t : TypeId} (hW : W.heap[0]? = some (.cells tabL.toArray t (0, 0))) : Good Tryd.prog e00 (h00 tab64 t) W (.bool true) (skS14 t) := piece_good follows (skP14 t) (skG15 hW)
theorem skG13 {W : World} {t : TypeId} (hW : W.heap[0]? = some (.cells tabL.toArray t (0, 0))) : Good Tryd.prog e00 (h00 tab64 t) W (.bool true) (skS13 t) := piece_good follows (skP13 t) (skG14 hW)
theorem skG12 {W : World} {t : TypeId} (hW : W.heap[0]? = some (.cells tabL.toArray t (0, 0))) : Good Tryd.prog e00 (h00 tab64 t) W (.bool true) (skS12 t) := piece_good follows (skP12 t) (skG13 hW)
theorem skG11 {W : World} {t : TypeId} (hW : W.heap[0]? = some (.cells tabL.toArray t (0, 0))) : Good Tryd.prog e00 (h00 tab64 t) W (.bool true) (skS11 t) := piece_good follows (skP11 t) (skG12 hW)
theorem skG10 {W : World} {t : TypeId} (hW : W.heap[0]? = some (.cells tabL.toArray t (0, 0))) : Good Tryd.prog e00 (h00 tab64 t) W (.bool true) (skS10 t) := piece_good follows (skP10 t) (skG11 hW)
theorem skG9 {W : World} {t : TypeId} (hW : W.heap[0]? = some (.cells tabL.toArray t (0, 0))) : Good Tryd.prog e00 (h00 tab64 t) W (.bool true) (skS9 t) := piece_good follows (skP9 t) (skG10 hW)
theorem skG8 {W : World} {t : TypeId} (hW : W.heap[0]? = some (.cells tabL.toArray t (0, 0))) : Good Tryd.prog e00 (h00 tab64 t) W (.bool true) (skS8 t) := piece_good follows (skP8 t) (skG9 hW)
theorem skG7 {W : World} {t : TypeId} (hW : W.heap[0]? = some (.cells tabL.toArray t (0, 0))) : Good Tryd.prog e00 (h00 tab64 t) W (.bool true) (skS7 t) := piece_good follows (skP7 t) (skG8 hW)
theorem skG6 {W : World} {t : TypeId} (hW : W.heap[0]? = some (.cells tabL.toArray t (0, 0))) : Good Tryd.prog e00 (h00 tab64 t) W (.bool true) (skS6 t) := piece_good follows (skP6 t) (skG7 hW)
theorem skG5 {W : World} {t : TypeId} (hW : W.heap[0]? = some (.cells tabL.toArray t (0, 0))) : Good Tryd.prog e00 (h00 tab64 t) W (.bool true) (skS5 t) := piece_good follows (skP5 t) (skG6 hW)
theorem skG4 {W : World} {t : TypeId} (hW : W.heap[0]? = some (.cells tabL.toArray t (0, 0))) : Good Tryd.prog e00 (h00 tab64 t) W (.bool true) (skS4 t) := piece_good follows (skP4 t) (skG5 hW)
theorem skG3 {W : World} {t : TypeId} (hW : W.heap[0]? = some (.cells tabL.toArray t (0, 0))) : Good Tryd.prog e00 (h00 tab64 t) W (.bool true) (skS3 t) := piece_good follows (skP3 t) (skG4 hW)
theorem skG2 {W : World} {t : TypeId} (hW : W.heap[0]? = some (.cells tabL.toArray t (0, 0))) : Good Tryd.prog e00 (h00 tab64 t) W (.bool true) (skS2 t) := piece_good follows (skP2 t) (skG3 hW)
theorem skG1 {W : World} {t : TypeId} (hW : W.heap[0]? = some (.cells tabL.toArray t (0, 0))) : Good Tryd.prog e00 (h00 tab64 t) W (.bool true) (skS1 t) := piece_good follows (skP1 t) (skG2 hW)
theorem skG0 {W : World} {t : TypeId} (hW : W.heap[0]? = some (.cells tabL.toArray t (0, 0))) : Good Tryd.prog e00 (h00 tab64 t) W (.bool true) (skS0 t) := piece_good follows (skP0 t) (skG1 hW)
theorem stateKnown_any {W : World} {t : TypeId} (hW : W.heap[0]? = some (.cells tabL.toArray t (0, 0))) : Calls Tryd.prog 3 #[] W fun en W' => en = .returned (.bool true) ∧ Below W.heap.size W W' :=
  whole_ok Tryd.func3 (c := bodyOf Tryd.f3) (by kernel_rfl) (rel_start hW) (gl := 1) (by intro g hg; obtain rfl : g = 0 := Nat.lt_one_iff.1 hg; exact ⟨rfl, rfl⟩) (skG0 hW)
end Go.Proofs.YtciaofnkjgjeiaaDoor

/- The statement StateKnown: the law, which calls the program on the examples of the document, returns true, and changes nothing that was there. No condition. -/
namespace Go.Proofs.YtciaofnkjgjeiaaDoor
set_option linter.unusedSimpArgs false
set_option linter.unusedVariables false
open Go Go.ChangeShapes Go.WideShapes Go.ChangeAt Go.RowKit

set_option maxHeartbeats 800000 in
set_option maxRecDepth 100000 in
theorem stateKnown_lifted (os : Os) (started : os.Started) (H : Type) (enc : TypeId × Value → H) :
    ReturnsInHanded {} Tryd.checked os 3 .any (fun w args => (Rows.stateKnownSpec.pre enc Tryd.prog Tryd.f3 [] false w args ∧ laidMetH Tryd.prog laidVs w) ∧ sizedMet enc Tryd.prog Tryd.f3 (OpenSpec.ofChange Rows.stateKnownSpec) false w args)
      (Rows.stateKnownSpec.post enc Tryd.prog Tryd.f3 false true false false) := by
  refine returnsInHanded_of_change_and (C := Tryd.checked) (X := fun w _ => laidMetH Tryd.prog laidVs w) (fun _ _ _ hh h => h.of_heap hh) own started (by kernel_rfl) Tryd.func3
    (ChangeSpec.witness_shaped (enc := enc) (C := Tryd.checked) (os := os) (X := fun w _ => laidMetH Tryd.prog laidVs w) false (World.doorLaid Tryd.prog 400 os) #[] 8 rfl (World.shaped_of_RefB (by kernel_rfl) (by kernel_rfl)) (by kernel_rfl) (by kernel_rfl) (by kernel_rfl) (door_met os _)) ?_
  intro W base args ds gs before hval0 hW _ _ hL _
  obtain ⟨t0, hW0⟩ := tab_laid hL
  have hW' := hW
  obtain ⟨p, q, hA0, hV, rfl, hfz, hnd⟩ := hW
  have hA : DataW.TrodAll enc Tryd.prog W 0 (fun _ => true) true (Tryd.f3).params.toList args.toList ds p := hA0
  rw [Tryd.params3] at hA
  obtain ⟨rfl, rfl, rfl⟩ := trodAll_none hA
  obtain ⟨rfl, rfl⟩ := trodVars_none hV
  clear hA0 hval0
  simp only [List.append_nil] at hW'
  refine (stateKnown_any hW0).mono fun e W' ⟨he, hb⟩ => ?_
  subst he
  exact ⟨_, rfl, law_post (tb := 4) laidOut2 hW' rfl rfl (by kernel_rfl) Tryd.underlying4 (by kernel_rfl) hb⟩

theorem stateKnown_holds : Rows.StateKnownSaid :=
  OpenClaim.holds_of_wide 3 Tryd.f3 rfl rfl rfl rfl rfl rfl rfl ⟨rfl, rfl, rfl, rfl, rfl⟩ rfl rfl rfl rfl rfl (by kernel_rfl) Tryd.func3 (by kernel_rfl)
    (of_decide_eq_true (by kernel_rfl)) (by unfold Func.isWrapper; first | (rw [if_pos (by decide +kernel)]; kernel_rfl) | (rw [if_neg (by decide +kernel)]; exact ⟨rfl, rfl⟩))
    (fun os started H enc _ => stateKnown_lifted os started H enc)

theorem stateKnown_card : Rows.StateKnownCardSaid :=
  Claim7.holds_tied_plain_at .later [] [.data] true (true, "40477cb2dd1d61c364dc4969de766313ec816f3ac7db51d5ccb75a6b0ef5ac30") false
    stateKnown_holds (fun _ h => by cases h) (by kernel_rfl) (fun _ h => by cases h) stateKnown_row_tie rfl ⟨rfl, rfl⟩ (by kernel_rfl) rfl
    (fun f fn hf hfn => by
      obtain rfl : f = 3 := Option.some.inj ((show Tryd.prog.funcNamed "duodecimo/duodecimolaw03.StateKnown" = some 3 by kernel_rfl).symm.trans hf) |>.symm
      obtain rfl : fn = Tryd.f3 := (Option.some.inj ((Tryd.func3).symm.trans hfn)).symm
      exact ⟨by kernel_rfl, fun j t ht => by
        rw [Tryd.params3] at ht
        simp at ht⟩)
    (by kernel_rfl)
end Go.Proofs.YtciaofnkjgjeiaaDoor
