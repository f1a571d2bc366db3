/- The parts Lg, Km of the proof, joined. It holds without conditions of its own. -/
import Derived.Test.YtockagnnpeoggaaGreatDoorMT47
import Derived.Test.YtockagnnpeoggaaGreatDoorMT48
import Derived.Test.YtockagnnpeoggaaGreatDoorMT32
import Derived.Test.YtockagnnpeoggaaGreatDoorMT52
import Derived.Test.YtockagnnpeoggaaGreatDoorMT1
import Derived.Test.YtockagnnpeoggaaGreatDoorCards
import Derived.Test.YtockagnnpeoggaaGreatDoorTie
import Derived.ChangeSame
import Derived.SevenTiedAt
/- The law QuireMates: it returns true. -/
namespace Go.Proofs.YtockagnnpeoggaaGreatDoor
set_option linter.unusedSimpArgs false
set_option linter.unusedVariables false
open Go Go.RowKit Go.Sort Go.BigFrame Go.Shelf
attribute [local go_sem] Oper.semAt_some putAll

theorem Mate_both (b : Bk) (n : Int) : ∃ t y : Int, (∀ (v : Value) (w : World), BookAt w.heap.size w v b → Calls Tryz.prog 9 #[v, .int .i64 n] w fun e w' => e = .returned (.tuple #[.int .i64 t, .int .i64 y]) ∧ Below w.heap.size w w') ∧
    (∀ (v : Value) (w : World), BookAt w.heap.size w v b → Calls Tryz.prog 10 #[v, .int .i64 n] w fun e w' => e = .returned (.tuple #[.int .i64 t, .int .i64 y]) ∧ Below w.heap.size w w') := by
  by_cases he : errF b = 0
  · cases hm : mateF b n with
    | none => exact ⟨0, 4, fun v w hb => by have h := Mate_good b v n w hb he; rwa [hm] at h, fun v w hb => by have h := refMate_good b v n w hb he; rwa [hm] at h⟩
    | some m => exact ⟨m, 0, fun v w hb => by have h := Mate_good b v n w hb he; rwa [hm] at h, fun v w hb => by have h := refMate_good b v n w hb he; rwa [hm] at h⟩
  · exact ⟨0, errF b, fun v w hb => Mate_bad b v n w hb he, fun v w hb => refMate_bad b v n w hb he⟩
theorem signs_few (b : Bk) (he : errF b = 0) : (signsF b).length ≤ 1950 := by
  refine Nat.le_trans ?_ (lvs_few (errF_zero he))
  unfold signsF signsOf
  rw [List.length_map]
  exact Nat.le_trans (List.length_filter_le _ _) (by simp)
theorem Signs_both (b : Bk) : ∃ (xs : List Int) (y : Int), xs.length < 1000000 ∧ (∀ (v : Value) (w : World), BookAt w.heap.size w v b → Calls Tryz.prog 11 #[v] w fun e w' => (∃ v', e = .returned (.tuple #[v', .int .i64 y]) ∧ IntsAt w' v' xs) ∧ Below w.heap.size w w') ∧
    (∀ (v : Value) (w : World), BookAt w.heap.size w v b → Calls Tryz.prog 12 #[v] w fun e w' => (∃ v', e = .returned (.tuple #[v', .int .i64 y]) ∧ IntsAt w' v' xs) ∧ Below w.heap.size w w') := by
  by_cases he : errF b = 0
  · refine ⟨(signsF b).map fun n : Nat => (n : Int), 0, by have := signs_few b he; rw [List.length_map]; omega, fun v w hb => ?_, fun v w hb => ?_⟩
    · exact (Signs_good b v w hb he).mono fun e w' ⟨⟨v', h1, h2⟩, h3⟩ => ⟨⟨v', h1, IntsAt.of_row h2⟩, h3⟩
    · exact (refSigns_good b v w hb he).mono fun e w' ⟨⟨v', base, h1, h2⟩, h3⟩ => ⟨⟨v', h1, IntsAt.of_row h2⟩, h3⟩
  · have hn : ∀ w' : World, IntsAt w' (.slice none 0 0) [] := fun w' => ⟨none, 0, rfl, fun h => absurd rfl h⟩
    exact ⟨[], errF b, by simp, fun v w hb => (Signs_bad b v w hb he).mono fun e w' ⟨h1, h2⟩ => ⟨⟨_, h1, hn w'⟩, h2⟩, fun v w hb => (refSigns_bad b v w hb he).mono fun e w' ⟨h1, h2⟩ => ⟨⟨_, h1, hn w'⟩, h2⟩⟩
theorem Differ_both (b c : Bk) : ∃ t y : Int, (∀ (v u : Value) (w : World), BookAt w.heap.size w v b → BookAt w.heap.size w u c → Calls Tryz.prog 14 #[v, u] w fun e w' => e = .returned (.tuple #[.int .i64 t, .int .i64 y]) ∧ Below w.heap.size w w') ∧
    (∀ (v u : Value) (w : World), BookAt w.heap.size w v b → BookAt w.heap.size w u c → Calls Tryz.prog 15 #[v, u] w fun e w' => e = .returned (.tuple #[.int .i64 t, .int .i64 y]) ∧ Below w.heap.size w w') := by
  by_cases he : errF b = 0
  · by_cases hf : errF c = 0
    · cases hm : diffAt 0 (namesF b) (namesF c) with
      | none => exact ⟨0, 4, fun v u w hb hc => by have h := Differ_good b c v u w hb hc he hf; rwa [hm] at h, fun v u w hb hc => by have h := refDiffer_good b c v u w hb hc he hf; rwa [hm] at h⟩
      | some m => exact ⟨m, 0, fun v u w hb hc => by have h := Differ_good b c v u w hb hc he hf; rwa [hm] at h, fun v u w hb hc => by have h := refDiffer_good b c v u w hb hc he hf; rwa [hm] at h⟩
    · exact ⟨0, errF c, fun v u w hb hc => Differ_bad2 b c v u w hb hc he hf, fun v u w hb hc => refDiffer_bad2 b c v u w hb hc he hf⟩
  · exact ⟨0, errF b, fun v u w hb hc => Differ_bad1 b c v u w hb hc he, fun v u w hb hc => refDiffer_bad1 b c v u w hb hc he⟩

set_option maxRecDepth 100000 in
set_option maxHeartbeats 1600000 in
theorem QuireMates_any (b : Bk) (v : Value) (c : Bk) (u : Value) (n : Int) (w : World) (hb : BookAt w.heap.size w v b) (hc : BookAt w.heap.size w u c) :
    Calls Tryz.prog 3 #[v, u, .int .i64 n] w fun e w' => e = .returned (.bool true) ∧ Below w.heap.size w w' := by
  obtain ⟨t, y, h1, h2⟩ := Mate_both b n
  have HM1 := Lib.hid h1
  have HM2 := Lib.hid h2
  obtain ⟨xs, z, hl, h3, h4⟩ := Signs_both b
  have HS1 := Lib.hid h3
  have HS2 := Lib.hid h4
  obtain ⟨d, q, h5, h6⟩ := Differ_both b c
  have HD1 := Lib.hid h5
  have HD2 := Lib.hid h6
  clear h1 h2 h3 h4 h5 h6
  have hb' := hb
  have hc' := hc
  obtain ⟨sv, rfl, hgs⟩ := hb
  obtain ⟨a, cap, rfl, -⟩ := hgs
  obtain ⟨sv2, rfl, hgs2⟩ := hc
  obtain ⟨a2, cap2, rfl, -⟩ := hgs2
  have HC := Lib.hid hc'
  have HB := Lib.hid hb'
  clear hc' hb'
  go_enter Tryz.func3, Tryz.ntmps3
  go_wp2_with fail
  have HH := Lib.hid (twoB_start b c a a2 cap cap2 w)
  revert HH
  generalize (w.alloc (.cells #[.int .i64 b.signed, .slice a b.gs.length cap] 24)).alloc (.cells #[.int .i64 c.signed, .slice a2 c.gs.length cap2] 24) = w1
  intro HH
  have h0 := HH.out.get 0 rfl
  have q0 := blk_cell h0 0; have q1 := blk_cell h0 1
  clear h0
  go_wp2_with fail
  refine (HM1.out _ _ (HB.out.below (B := w.heap.size) HH.out.below (Nat.le_refl _) |>.mono HH.out.below.size)).mono ?_
  rintro e w2 ⟨rfl, hb2⟩
  have HH := Lib.hid (HH.out.below' hb2)
  clear hb2 q0 q1
  have h0 := HH.out.get 0 rfl
  have q0 := blk_cell h0 0; have q1 := blk_cell h0 1
  clear h0
  go_wp2_with fail
  refine (HM2.out _ _ (HB.out.below (B := w.heap.size) HH.out.below (Nat.le_refl _) |>.mono HH.out.below.size)).mono ?_
  rintro e w3 ⟨rfl, hb3⟩
  have HH := Lib.hid (HH.out.below' hb3)
  clear hb3 q0 q1
  have h0 := HH.out.get 0 rfl
  have q0 := blk_cell h0 0; have q1 := blk_cell h0 1
  clear h0
  go_wp2_with fail
  refine (HS1.out _ _ (HB.out.below (B := w.heap.size) HH.out.below (Nat.le_refl _) |>.mono HH.out.below.size)).mono ?_
  rintro e w4 ⟨⟨x1, rfl, hx1⟩, hb4⟩
  have HX1 := Lib.hid hx1
  have HH := Lib.hid (HH.out.below' hb4)
  clear hb4 q0 q1 hx1
  have h0 := HH.out.get 0 rfl
  have q0 := blk_cell h0 0; have q1 := blk_cell h0 1
  clear h0
  go_wp2_with fail
  refine (HS2.out _ _ (HB.out.below (B := w.heap.size) HH.out.below (Nat.le_refl _) |>.mono HH.out.below.size)).mono ?_
  rintro e w5 ⟨⟨x2, rfl, hx2⟩, hb5⟩
  have HX1 := Lib.hid (HX1.out.later hb5)
  have HX2 := Lib.hid hx2
  have HH := Lib.hid (HH.out.below' hb5)
  clear hb5 q0 q1 hx2
  go_wp2_with fail
  refine (Ints_any xs xs _ _ _ HX1.out HX2.out hl hl).mono ?_
  rintro e w6 ⟨rfl, hb6⟩
  rw [decide_eq_true (rfl : xs = xs)]
  have HH := Lib.hid (HH.out.below' hb6)
  clear hb6
  have h0 := HH.out.get 0 rfl
  have h1 := HH.out.get 1 rfl
  have q0 := blk_cell h0 0; have q1 := blk_cell h0 1
  have p0 := blk_cell h1 0; have p1 := blk_cell h1 1
  clear h0 h1
  go_wp2_with fail
  refine (HD1.out _ _ _ (HB.out.below (B := w.heap.size) HH.out.below (Nat.le_refl _) |>.mono HH.out.below.size) (HC.out.below (B := w.heap.size) HH.out.below (Nat.le_refl _) |>.mono HH.out.below.size)).mono ?_
  rintro e w7 ⟨rfl, hb7⟩
  have HH := Lib.hid (HH.out.below' hb7)
  clear hb7 q0 q1 p0 p1
  have h0 := HH.out.get 0 rfl
  have h1 := HH.out.get 1 rfl
  have q0 := blk_cell h0 0; have q1 := blk_cell h0 1
  have p0 := blk_cell h1 0; have p1 := blk_cell h1 1
  clear h0 h1
  go_wp2_with fail
  refine (HD2.out _ _ _ (HB.out.below (B := w.heap.size) HH.out.below (Nat.le_refl _) |>.mono HH.out.below.size) (HC.out.below (B := w.heap.size) HH.out.below (Nat.le_refl _) |>.mono HH.out.below.size)).mono ?_
  rintro e w8 ⟨rfl, hb8⟩
  have HH := Lib.hid (HH.out.below' hb8)
  clear hb8 q0 q1 p0 p1
  go_wp2_with fail
  refine (Awake_any _).mono ?_
  rintro e w9 ⟨rfl, hb9⟩
  have HH := Lib.hid (HH.out.below' hb9)
  clear hb9
  go_wp2_with fail
  go_ret
  exact ⟨rfl, HH.out.below⟩
end Go.Proofs.YtockagnnpeoggaaGreatDoor

/- The statement QuireMates: the law returns true for every two books and number, and changes nothing that was there. No condition. -/
namespace Go.Proofs.YtockagnnpeoggaaGreatDoor
set_option linter.unusedSimpArgs false
set_option linter.unusedVariables false
open Go Go.ChangeShapes Go.WideShapes Go.ChangeAt Go.RowKit

set_option maxHeartbeats 800000 in
set_option maxRecDepth 100000 in
theorem quireMates_lifted (os : Os) (started : os.Started) (H : Type) (enc : TypeId × Value → H) :
    ReturnsInHanded {} Tryz.checked os 3 .any (fun w args => (Rows.quireMatesSpec.pre enc Tryz.prog Tryz.f3 [] false w args ∧ laidMetH Tryz.prog laidVs w) ∧ sizedMet enc Tryz.prog Tryz.f3 (OpenSpec.ofChange Rows.quireMatesSpec) false w args)
      (Rows.quireMatesSpec.post enc Tryz.prog Tryz.f3 false true false false) := by
  refine returnsInHanded_of_change_and (C := Tryz.checked) (X := fun w _ => laidMetH Tryz.prog laidVs w) (fun _ _ _ hh h => h.of_heap hh) own started (by kernel_rfl) Tryz.func3
    (ChangeSpec.witness_shaped (enc := enc) (C := Tryz.checked) (os := os) (X := fun w _ => laidMetH Tryz.prog laidVs w) false (World.doorLaid Tryz.prog 400 os) #[.agg #[.int .i64 0, .slice none 0 0], .agg #[.int .i64 0, .slice none 0 0], .int .i64 0] 8 rfl (World.shaped_of_RefB (by kernel_rfl) (by kernel_rfl)) (by kernel_rfl) (by kernel_rfl) (by kernel_rfl) (door_met os _)) ?_
  intro W base args ds gs before hval0 hW _ _ _ _
  have hval : ∀ (j : Nat) t v, (Tryz.f3).params[j]? = some t → args[j]? = some v → Value.okWide Tryz.prog W .any base t v := hval0
  have hW' := hW
  obtain ⟨p, q, hA0, hV, rfl, hfz, hnd⟩ := hW
  have hA : DataW.TrodAll enc Tryz.prog W 0 (fun _ => true) true (Tryz.f3).params.toList args.toList ds p := hA0
  rw [Tryz.params3] at hA hval
  obtain ⟨v0, v1, v2, d0, d1, d2, p0, p1, p2, rfl, rfl, rfl, h0, h1, h2⟩ := trodAll_three hA
  obtain ⟨rfl, rfl⟩ := trodVars_none hV
  obtain ⟨f0, hx0⟩ := h0
  obtain ⟨b0, hb0⟩ := book_in (hval 0 24 v0 rfl rfl) hx0
  obtain ⟨f1, hx1⟩ := h1
  obtain ⟨b1, hb1⟩ := book_in (hval 1 24 v1 rfl rfl) hx1
  obtain ⟨f2, hx2⟩ := h2
  obtain ⟨n2, rfl, hn2⟩ := int_in (hval 2 3 v2 rfl rfl) hx2
  clear hA0 hval0
  simp only [List.append_nil] at hW'
  refine (QuireMates_any b0 v0 b1 v1 n2 W hb0 hb1).mono fun e W' ⟨he, hb⟩ => ?_
  subst he
  exact ⟨_, rfl, law_post (tb := 4) laidOut hW' rfl rfl (by kernel_rfl) Tryz.underlying4 (by kernel_rfl) hb⟩

theorem quireMates_holds : Rows.QuireMatesSaid :=
  OpenClaim.holds_of_wide 3 Tryz.f3 rfl rfl rfl rfl rfl rfl rfl ⟨rfl, rfl, rfl, rfl, rfl⟩ rfl rfl rfl rfl rfl (by kernel_rfl) Tryz.func3 (by kernel_rfl)
    (of_decide_eq_true (by kernel_rfl)) (by unfold Func.isWrapper; first | (rw [if_pos (by decide +kernel)]; kernel_rfl) | (rw [if_neg (by decide +kernel)]; exact ⟨rfl, rfl⟩))
    (fun os started H enc _ => quireMates_lifted os started H enc)

theorem quireMates_card : Rows.QuireMatesCardSaid :=
  Claim7.holds_tied_plain_at .later [] [.data, .data, .data] true (true, "762813b5b0aca40c0edd030137c81c35b16a11fffc438c9064f760fc35ab0ff8") true
    quireMates_holds (fun _ h => by cases h) (by kernel_rfl) (fun _ h => by cases h) quireMates_row_tie rfl ⟨rfl, rfl⟩ (by kernel_rfl) rfl
    (fun f fn hf hfn => by
      obtain rfl : f = 3 := Option.some.inj ((show Tryz.prog.funcNamed "duodecimo/duodecimolaw01.QuireMates" = some 3 by kernel_rfl).symm.trans hf) |>.symm
      obtain rfl : fn = Tryz.f3 := (Option.some.inj ((Tryz.func3).symm.trans hfn)).symm
      exact ⟨by kernel_rfl, fun j t ht => by
        rw [Tryz.params3] at ht
        have hm : t ∈ [24, 24, 3] := by simpa using Array.mem_of_getElem? ht
        have hall : ([24, 24, 3].all fun u => !Tryz.prog.wantsStandIn u) = true := by kernel_rfl
        exact (show Tryz.prog.wantsStandIn t = false by simpa using List.all_eq_true.1 hall t hm)⟩)
    (by kernel_rfl)
end Go.Proofs.YtockagnnpeoggaaGreatDoor
