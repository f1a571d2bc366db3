/- The parts Kfv of the proof, joined. It holds without conditions of its own. -/
import Derived.Test.YtielaaaeecfkoaaGreatDoorFL3
import Derived.Test.YtielaaaeecfkoaaGreatDoorFL15
import Derived.Test.YtielaaaeecfkoaaGreatDoorFL21
import Derived.Test.YtielaaaeecfkoaaGreatDoorCards
import Derived.Test.YtielaaaeecfkoaaGreatDoorTie
import Derived.ChangeSame
import Derived.SevenTiedAt
/- The statement FoldLeaves: for any press, way of making, sheet, leaf, forme and halves, what Leaves, Forme, Mates and Marked hand back is what the reference says. No condition. -/
namespace Go.Proofs.YtielaaaeecfkoaaGreatDoor
set_option linter.unusedSimpArgs false
set_option linter.unusedVariables false
open Go Go.ChangeShapes Go.WideShapes Go.ChangeAt Go.RowKit

set_option maxHeartbeats 800000 in
set_option maxRecDepth 100000 in
theorem foldLeaves_lifted (os : Os) (started : os.Started) (H : Type) (enc : TypeId × Value → H) :
    ReturnsInHanded {} Tryz.checked os 4 .any (fun w args => (Rows.foldLeavesSpec.pre enc Tryz.prog Tryz.f4 [] false w args ∧ laidMetH Tryz.prog laidVs w) ∧ sizedMet enc Tryz.prog Tryz.f4 (OpenSpec.ofChange Rows.foldLeavesSpec) false w args)
      (Rows.foldLeavesSpec.post enc Tryz.prog Tryz.f4 false true false false) := by
  refine returnsInHanded_of_change_and (C := Tryz.checked) (X := fun w _ => laidMetH Tryz.prog laidVs w) (fun _ _ _ hh h => h.of_heap hh) own started (by kernel_rfl) Tryz.func4
    (ChangeSpec.witness_shaped (enc := enc) (C := Tryz.checked) (os := os) (X := fun w _ => laidMetH Tryz.prog laidVs w) false (World.doorLaid Tryz.prog 400 os) #[.agg #[.slice none 0 0, .slice none 0 0, .int .i64 0, .int .i64 0], .agg #[.int .i64 0, .int .i64 0, .int .i64 0, .bool false], .agg #[.int .i64 0, .int .i64 0, .bool false, .slice none 0 0]] 8 rfl (World.shaped_of_RefB (by kernel_rfl) (by kernel_rfl)) (by kernel_rfl) (by kernel_rfl) (by kernel_rfl) (door_met os _)) ?_
  intro W base args ds gs before hval0 hW _ _ hL _
  have hval : ∀ (j : Nat) t v, (Tryz.f4).params[j]? = some t → args[j]? = some v → Value.okWide Tryz.prog W .any base t v := hval0
  have hW' := hW
  obtain ⟨p, q, hA0, hV, rfl, hfz, hnd⟩ := hW
  have hA : DataW.TrodAll enc Tryz.prog W 0 (fun _ => true) true (Tryz.f4).params.toList args.toList ds p := hA0
  rw [Tryz.params4] at hA hval
  obtain ⟨t0, hW0⟩ := tab_laid hL
  obtain ⟨v0, v1, v2, d0, d1, d2, p0, p1, p2, rfl, rfl, rfl, h0, h1, h2⟩ := trodAll_three hA
  obtain ⟨rfl, rfl⟩ := trodVars_none hV
  obtain ⟨f0, hx0⟩ := h0
  obtain ⟨b0, hb0⟩ := press_in (hval 0 25 v0 rfl rfl) hx0
  obtain ⟨f1, hx1⟩ := h1
  obtain ⟨b1, rfl⟩ := mkw_in (hval 1 38 v1 rfl rfl) hx1
  obtain ⟨f2, hx2⟩ := h2
  obtain ⟨n2, m2, q2, l2, s2, rfl, hb2⟩ := ask_in (hval 2 41 v2 rfl rfl) hx2
  clear hA0 hval0
  simp only [List.append_nil] at hW'
  refine (FoldLeaves_any b0 v0 b1 n2 m2 q2 l2 s2 W t0 hb0 hb2 hW0).mono fun e W' ⟨he, hb⟩ => ?_
  subst he
  exact ⟨_, rfl, law_post (tb := 4) laidOut2 hW' rfl rfl (by kernel_rfl) Tryz.underlying4 (by kernel_rfl) hb⟩

theorem foldLeaves_holds : Rows.FoldLeavesSaid :=
  OpenClaim.holds_of_wide 4 Tryz.f4 rfl rfl rfl rfl rfl rfl rfl ⟨rfl, rfl, rfl, rfl, rfl⟩ rfl rfl rfl rfl rfl (by kernel_rfl) Tryz.func4 (by kernel_rfl)
    (of_decide_eq_true (by kernel_rfl)) (by unfold Func.isWrapper; first | (rw [if_pos (by decide +kernel)]; kernel_rfl) | (rw [if_neg (by decide +kernel)]; exact ⟨rfl, rfl⟩))
    (fun os started H enc _ => foldLeaves_lifted os started H enc)

theorem foldLeaves_card : Rows.FoldLeavesCardSaid :=
  Claim7.holds_tied_plain_at .later [] [.data] true (true, "4ae70c76cd73c85094863924f4287a5611e3b8b3bcc7fc3e628655277369fee3") false
    foldLeaves_holds (fun _ h => by cases h) (by kernel_rfl) (fun _ h => by cases h) foldLeaves_row_tie rfl ⟨rfl, rfl⟩ (by kernel_rfl) rfl
    (fun f fn hf hfn => by
      obtain rfl : f = 4 := Option.some.inj ((show Tryz.prog.funcNamed "duodecimo/duodecimolaw02.FoldLeaves" = some 4 by kernel_rfl).symm.trans hf) |>.symm
      obtain rfl : fn = Tryz.f4 := (Option.some.inj ((Tryz.func4).symm.trans hfn)).symm
      exact ⟨by kernel_rfl, fun j t ht => by
        rw [Tryz.params4] at ht
        have hm : t ∈ [25, 38, 41] := by simpa using Array.mem_of_getElem? ht
        have hall : ([25, 38, 41].all fun u => !Tryz.prog.wantsStandIn u) = true := by kernel_rfl
        exact (show Tryz.prog.wantsStandIn t = false by simpa using List.all_eq_true.1 hall t hm)⟩)
    (by kernel_rfl)
end Go.Proofs.YtielaaaeecfkoaaGreatDoor
