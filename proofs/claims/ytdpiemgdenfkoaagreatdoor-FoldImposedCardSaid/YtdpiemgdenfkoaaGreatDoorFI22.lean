/- The parts Kfi of the proof, joined. It holds without conditions of its own. -/
import Derived.Test.YtdpiemgdenfkoaaGreatDoorFI3
import Derived.Test.YtdpiemgdenfkoaaGreatDoorFI4
import Derived.Test.YtdpiemgdenfkoaaGreatDoorFI21
import Derived.Test.YtdpiemgdenfkoaaGreatDoorCards
import Derived.Test.YtdpiemgdenfkoaaGreatDoorTie
import Derived.ChangeSame
import Derived.SevenTiedAt
/- The statement FoldImposed: for any press and any way of making (by a number) the law of pages and formes is true. No condition. -/
namespace Go.Proofs.YtdpiemgdenfkoaaGreatDoor
set_option linter.unusedSimpArgs false
set_option linter.unusedVariables false
open Go Go.ChangeShapes Go.WideShapes Go.ChangeAt Go.RowKit

set_option maxHeartbeats 800000 in
set_option maxRecDepth 100000 in
theorem foldImposed_lifted (os : Os) (started : os.Started) (H : Type) (enc : TypeId × Value → H) :
    ReturnsInHanded {} Tryz.checked os 5 .any (fun w args => (Rows.foldImposedSpec.pre enc Tryz.prog Tryz.f5 [] false w args ∧ laidMetH Tryz.prog laidVs w) ∧ sizedMet enc Tryz.prog Tryz.f5 (OpenSpec.ofChange Rows.foldImposedSpec) false w args)
      (Rows.foldImposedSpec.post enc Tryz.prog Tryz.f5 false true false false) := by
  refine returnsInHanded_of_change_and (C := Tryz.checked) (X := fun w _ => laidMetH Tryz.prog laidVs w) (fun _ _ _ hh h => h.of_heap hh) own started (by kernel_rfl) Tryz.func5
    (ChangeSpec.witness_shaped (enc := enc) (C := Tryz.checked) (os := os) (X := fun w _ => laidMetH Tryz.prog laidVs w) false (World.doorLaid Tryz.prog 400 os) #[.agg #[.slice none 0 0, .slice none 0 0, .int .i64 0, .int .i64 0], .int .u16 0] 8 rfl (World.shaped_of_RefB (by kernel_rfl) (by kernel_rfl)) (by kernel_rfl) (by kernel_rfl) (by kernel_rfl) (door_met os _)) ?_
  intro W base args ds gs before hval0 hW _ _ hL _
  have hval : ∀ (j : Nat) t v, (Tryz.f5).params[j]? = some t → args[j]? = some v → Value.okWide Tryz.prog W .any base t v := hval0
  have hW' := hW
  obtain ⟨p, q, hA0, hV, rfl, hfz, hnd⟩ := hW
  have hA : DataW.TrodAll enc Tryz.prog W 0 (fun _ => true) true (Tryz.f5).params.toList args.toList ds p := hA0
  rw [Tryz.params5] at hA hval
  obtain ⟨t0, hW0⟩ := tab_laid hL
  obtain ⟨v0, v1, d0, d1, p0, p1, rfl, rfl, rfl, h0, h1⟩ := trodAll_two hA
  obtain ⟨rfl, rfl⟩ := trodVars_none hV
  obtain ⟨f0, hx0⟩ := h0
  obtain ⟨b0, hb0⟩ := press_in (hval 0 25 v0 rfl rfl) hx0
  obtain ⟨f1, hx1⟩ := h1
  obtain ⟨n1, rfl, hn1⟩ := u16f_in (hval 1 53 v1 rfl rfl) hx1
  clear hA0 hval0
  simp only [List.append_nil] at hW'
  refine (FoldImposed_any b0 v0 n1 hn1 W t0 hb0 hW0).mono fun e W' ⟨he, hb⟩ => ?_
  subst he
  exact ⟨_, rfl, law_post (tb := 4) laidOut2 hW' rfl rfl (by kernel_rfl) Tryz.underlying4 (by kernel_rfl) hb⟩

theorem foldImposed_holds : Rows.FoldImposedSaid :=
  OpenClaim.holds_of_wide 5 Tryz.f5 rfl rfl rfl rfl rfl rfl rfl ⟨rfl, rfl, rfl, rfl, rfl⟩ rfl rfl rfl rfl rfl (by kernel_rfl) Tryz.func5 (by kernel_rfl)
    (of_decide_eq_true (by kernel_rfl)) (by unfold Func.isWrapper; first | (rw [if_pos (by decide +kernel)]; kernel_rfl) | (rw [if_neg (by decide +kernel)]; exact ⟨rfl, rfl⟩))
    (fun os started H enc _ => foldImposed_lifted os started H enc)

theorem foldImposed_card : Rows.FoldImposedCardSaid :=
  Claim7.holds_tied_plain_at .later [] [.data] true (true, "4ae70c76cd73c85094863924f4287a5611e3b8b3bcc7fc3e628655277369fee3") false
    foldImposed_holds (fun _ h => by cases h) (by kernel_rfl) (fun _ h => by cases h) foldImposed_row_tie rfl ⟨rfl, rfl⟩ (by kernel_rfl) rfl
    (fun f fn hf hfn => by
      obtain rfl : f = 5 := Option.some.inj ((show Tryz.prog.funcNamed "duodecimo/duodecimolaw02.FoldImposed" = some 5 by kernel_rfl).symm.trans hf) |>.symm
      obtain rfl : fn = Tryz.f5 := (Option.some.inj ((Tryz.func5).symm.trans hfn)).symm
      exact ⟨by kernel_rfl, fun j t ht => by
        rw [Tryz.params5] at ht
        have hm : t ∈ [25, 53] := by simpa using Array.mem_of_getElem? ht
        have hall : ([25, 53].all fun u => !Tryz.prog.wantsStandIn u) = true := by kernel_rfl
        exact (show Tryz.prog.wantsStandIn t = false by simpa using List.all_eq_true.1 hall t hm)⟩)
    (by kernel_rfl)
end Go.Proofs.YtdpiemgdenfkoaaGreatDoor
