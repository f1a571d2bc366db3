/- The parts Kb of the proof, joined. It holds without conditions of its own. -/
import Derived.Test.YtlekbddlemfokaaDoorM49
import Derived.Test.YtlekbddlemfokaaDoorM48
import Derived.Test.YtlekbddlemfokaaDoorCards
import Derived.Test.YtlekbddlemfokaaDoorTie
import Derived.ChangeSame
import Derived.SevenTiedAt
/- The statement QuireNext: the law returns true for every signature, and changes nothing that was there. No condition. -/
namespace Go.Proofs.YtlekbddlemfokaaDoor
set_option linter.unusedSimpArgs false
set_option linter.unusedVariables false
open Go Go.ChangeShapes Go.WideShapes Go.ChangeAt Go.RowKit

theorem arr_two {cs : Array Value} (h : cs.size = 2) : ∃ a b, cs = #[a, b] := by
  obtain ⟨l⟩ := cs
  match l, h with
  | [a, b], _ => exact ⟨a, b, rfl⟩
theorem kb_cellsSig : Tryd.prog.cellsOf 39 = 2 := by kernel_rfl
theorem kb_cellsInt : Tryd.prog.cellsOf 3 = 1 := by kernel_rfl

set_option maxHeartbeats 800000 in
set_option maxRecDepth 100000 in
theorem quireNext_lifted (os : Os) (started : os.Started) (H : Type) (enc : TypeId × Value → H) :
    ReturnsInHanded {} Tryd.checked os 4 .any (fun w args => (Rows.quireNextSpec.pre enc Tryd.prog Tryd.f4 [] false w args ∧ laidMetH Tryd.prog laidVs w) ∧ sizedMet enc Tryd.prog Tryd.f4 (OpenSpec.ofChange Rows.quireNextSpec) false w args)
      (Rows.quireNextSpec.post enc Tryd.prog Tryd.f4 false true false false) := by
  refine returnsInHanded_of_change_and (C := Tryd.checked) (X := fun w _ => laidMetH Tryd.prog laidVs w) (fun _ _ _ hh h => h.of_heap hh) own started (by kernel_rfl) Tryd.func4
    (ChangeSpec.witness_shaped (enc := enc) (C := Tryd.checked) (os := os) (X := fun w _ => laidMetH Tryd.prog laidVs w) false (World.doorLaid Tryd.prog 400 os) #[.agg #[.int .i64 0, .int .i64 0]] 8 rfl (World.shaped_of_RefB (by kernel_rfl) (by kernel_rfl)) (by kernel_rfl) (by kernel_rfl) (by kernel_rfl) (door_met os _)) ?_
  intro W base args ds gs before hval0 hW _ _ _ _
  have hval : ∀ (j : Nat) t v, (Tryd.f4).params[j]? = some t → args[j]? = some v → Value.okWide Tryd.prog W .any base t v := hval0
  have hW' := hW
  obtain ⟨p, q, hA0, hV, rfl, hfz, hnd⟩ := hW
  have hA : DataW.TrodAll enc Tryd.prog W 0 (fun _ => true) true (Tryd.f4).params.toList args.toList ds p := hA0
  rw [Tryd.params4] at hA hval
  obtain ⟨v0, d0, rfl, rfl, h0⟩ := trodAll_one hA
  obtain ⟨rfl, rfl⟩ := trodVars_none hV
  have hv := hval 0 39 v0 rfl rfl
  simp only [Value.okWide, Tryd.underlying39] at hv
  obtain ⟨cs, rfl, hcs, -⟩ := hv
  obtain ⟨fu, hx⟩ := h0
  obtain ⟨y0, y1, n, he, hl, hy0, hy1⟩ := trod_struct2 Tryd.underlying39 hx
  obtain ⟨k0, e0, rfl, hw0⟩ := DataW.trod_int Tryd.underlying3 hy0
  obtain ⟨k1, e1, rfl, hw1⟩ := DataW.trod_int Tryd.underlying3 hy1
  rw [kb_cellsSig] at hcs
  obtain ⟨c0, c1, rfl⟩ := arr_two hcs
  simp [kb_cellsInt, Value.cells] at e0 e1
  subst e0 e1
  simp only [Prod.mk.injEq, List.append_nil] at he
  obtain ⟨rfl, rfl⟩ := he
  clear hA0 hval0
  simp only [List.append_nil] at hW'
  refine (QuireNext_any k0 k1 W).mono fun e W' ⟨he, hb⟩ => ?_
  subst he
  exact ⟨_, rfl, law_post (tb := 4) laidOut hW' rfl rfl (by kernel_rfl) Tryd.underlying4 (by kernel_rfl) hb⟩

theorem quireNext_holds : Rows.QuireNextSaid :=
  OpenClaim.holds_of_wide 4 Tryd.f4 rfl rfl rfl rfl rfl rfl rfl ⟨rfl, rfl, rfl, rfl, rfl⟩ rfl rfl rfl rfl rfl (by kernel_rfl) Tryd.func4 (by kernel_rfl)
    (of_decide_eq_true (by kernel_rfl)) (by unfold Func.isWrapper; first | (rw [if_pos (by decide +kernel)]; kernel_rfl) | (rw [if_neg (by decide +kernel)]; exact ⟨rfl, rfl⟩))
    (fun os started H enc _ => quireNext_lifted os started H enc)

theorem quireNext_card : Rows.QuireNextCardSaid :=
  Claim7.holds_tied_plain_at .later [] [.data, .data, .data] true (true, "ab51c1d043e32f8676d5ffd59db39259c0f4667d0cbb9db07bea21b3d4a7bcca") true
    quireNext_holds (fun _ h => by cases h) (by kernel_rfl) (fun _ h => by cases h) quireNext_row_tie rfl ⟨rfl, rfl⟩ (by kernel_rfl) rfl
    (fun f fn hf hfn => by
      obtain rfl : f = 4 := Option.some.inj ((show Tryd.prog.funcNamed "duodecimo/duodecimolaw01.QuireNext" = some 4 by kernel_rfl).symm.trans hf) |>.symm
      obtain rfl : fn = Tryd.f4 := (Option.some.inj ((Tryd.func4).symm.trans hfn)).symm
      exact ⟨by kernel_rfl, fun j t ht => by
        rw [Tryd.params4] at ht
        have hm : t ∈ [39] := by simpa using Array.mem_of_getElem? ht
        have hall : ([39].all fun u => !Tryd.prog.wantsStandIn u) = true := by kernel_rfl
        exact (show Tryd.prog.wantsStandIn t = false by simpa using List.all_eq_true.1 hall t hm)⟩)
    (by kernel_rfl)
end Go.Proofs.YtlekbddlemfokaaDoor
