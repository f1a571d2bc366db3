/- The parts Kfd of the proof, joined. It holds without conditions of its own. -/
import Derived.Test.YtpdhdgdbknnllaaGreatDoorFX3
import Derived.Test.YtpdhdgdbknnllaaGreatDoorFX4
import Derived.Test.YtpdhdgdbknnllaaGreatDoorFX13
import Derived.Test.YtpdhdgdbknnllaaGreatDoorFX34
import Derived.Test.YtpdhdgdbknnllaaGreatDoorCards
import Derived.Test.YtpdhdgdbknnllaaGreatDoorTie
import Derived.ChangeSame
import Derived.SevenTiedAt
set_option maxRecDepth 100000
set_option maxHeartbeats 20000000
namespace Go.Proofs.YtpdhdgdbknnllaaGreatDoor
section
set_option linter.unusedSimpArgs false
set_option linter.unusedVariables false
open Go Go.ChangeShapes Go.WideShapes Go.ChangeAt Go.RowKit
theorem foldWrong_lifted (os : Os) (started : os.Started) (H : Type) (enc : TypeId × Value -> H) :
  ReturnsInHanded {} Tryz.checked os 6 .any (fun w args => (Rows.foldWrongSpec.pre enc Tryz.prog Tryz.f6 [] false w args /\ laidMetH Tryz.prog laidVs w) /\ sizedMet enc Tryz.prog Tryz.f6 (OpenSpec.ofChange Rows.foldWrongSpec) false w args)
   (Rows.foldWrongSpec.post enc Tryz.prog Tryz.f6 false true false false) := by
 refine returnsInHanded_of_change_and (C := Tryz.checked) (X := fun w _ => laidMetH Tryz.prog laidVs w) (fun _ _ _ hh h => h.of_heap hh) own started (by kernel_rfl) Tryz.func6
  (ChangeSpec.witness_shaped (enc := enc) (C := Tryz.checked) (os := os) (X := fun w _ => laidMetH Tryz.prog laidVs w) false (World.doorLaid Tryz.prog 400 os) #[.agg #[.slice none 0 0, .slice none 0 0, .int .i64 0, .int .i64 0], .agg #[.int .i64 0, .int .i64 0, .int .i64 0, .int .i64 0, .int .i64 0, .int .i64 0, .slice none 0 0], .agg #[.slice none 0 0, .slice none 0 0, .slice none 0 0, .slice none 0 0, .int .u16 0]] 8 rfl (World.shaped_of_RefB (by kernel_rfl) (by kernel_rfl)) (by kernel_rfl) (by kernel_rfl) (by kernel_rfl) (door_met os _)) ?_
 intro W base args ds gs before hval0 hW _ _ hL _
 have hval : ∀ (j : Nat) t v, (Tryz.f6).params[j]? = some t -> args[j]? = some v -> Value.okWide Tryz.prog W .any base t v := hval0
 have hW' := hW
 obtain ⟨p, q, hA0, hV, rfl, hfz, hnd⟩ := hW
 have hA : DataW.TrodAll enc Tryz.prog W 0 (fun _ => true) true (Tryz.f6).params.toList args.toList ds p := hA0
 rw [Tryz.params6] at hA hval
 obtain ⟨t0, hW0⟩ := tab_laid hL
 obtain ⟨v0, v1, v2, d0, d1, d2, p0, p1, p2, rfl, rfl, rfl, h0, h1, h2⟩ := trodAll_three hA
 obtain ⟨rfl, rfl⟩ := trodVars_none hV
 obtain ⟨f0, hx0⟩ := h0
 obtain ⟨b0, hb0⟩ := press_in (hval 0 25 v0 rfl rfl) hx0
 obtain ⟨f1, hx1⟩ := h1
 obtain ⟨b1, hb1⟩ := bok_in (hval 1 30 v1 rfl rfl) hx1
 obtain ⟨f2, hx2⟩ := h2
 obtain ⟨va2, vb2, vc2, vd2, xa2, xb2, xc2, xd2, n2, rfl, hn2, ha2, hb2, hc2, hd2⟩ := doubt_in (hval 2 62 v2 rfl rfl) hx2
 clear hA0 hval0
 simp only [List.append_nil] at hW'
 refine (FoldWrong_any b0 v0 b1 v1 xa2 xb2 xc2 xd2 va2 vb2 vc2 vd2 n2 hn2 W t0 hb0 hb1 ha2 hb2 hc2 hd2 hW0).mono fun e W' ⟨he, hb⟩ => ?_
 subst he
 exact ⟨_, rfl, law_post (tb := 4) laidOut2 hW' rfl rfl (by kernel_rfl) Tryz.underlying4 (by kernel_rfl) hb⟩
theorem foldWrong_holds : Rows.FoldWrongSaid :=
 OpenClaim.holds_of_wide 6 Tryz.f6 rfl rfl rfl rfl rfl rfl rfl ⟨rfl, rfl, rfl, rfl, rfl⟩ rfl rfl rfl rfl rfl (by kernel_rfl) Tryz.func6 (by kernel_rfl)
  (of_decide_eq_true (by kernel_rfl)) (by unfold Func.isWrapper; first | (rw [if_pos (by decide +kernel)]; kernel_rfl) | (rw [if_neg (by decide +kernel)]; exact ⟨rfl, rfl⟩))
  (fun os started H enc _ => foldWrong_lifted os started H enc)
theorem foldWrong_card : Rows.FoldWrongCardSaid :=
 Claim7.holds_tied_plain_at .later [] [.data] true (true, "b5cf93fcf032eb28ba5817108855ecbacd8f7271e3fb418352c5b6ce3584cbae") false
  foldWrong_holds (fun _ h => by cases h) (by kernel_rfl) (fun _ h => by cases h) foldWrong_row_tie rfl ⟨rfl, rfl⟩ (by kernel_rfl) rfl
  (fun f fn hf hfn => by
   obtain rfl : f = 6 := Option.some.inj ((show Tryz.prog.funcNamed "duodecimo/duodecimolaw02.FoldWrong" = some 6 by kernel_rfl).symm.trans hf) |>.symm
   obtain rfl : fn = Tryz.f6 := (Option.some.inj ((Tryz.func6).symm.trans hfn)).symm
   exact ⟨by kernel_rfl, fun j t ht => by
    rw [Tryz.params6] at ht
    have hm : t ∈ [25, 30, 62] := by simpa using Array.mem_of_getElem? ht
    have hall : ([25, 30, 62].all fun u => !Tryz.prog.wantsStandIn u) = true := by kernel_rfl
    exact (show Tryz.prog.wantsStandIn t = false by simpa using List.all_eq_true.1 hall t hm)⟩)
  (by kernel_rfl)
end
end Go.Proofs.YtpdhdgdbknnllaaGreatDoor
