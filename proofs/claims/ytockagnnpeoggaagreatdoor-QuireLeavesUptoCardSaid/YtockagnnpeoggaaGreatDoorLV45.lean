/- The parts Li, Kn of the proof, joined. It holds without conditions of its own. -/
import Derived.Test.YtockagnnpeoggaaGreatDoorLV40
import Derived.Test.YtockagnnpeoggaaGreatDoorLV30
import Derived.Test.YtockagnnpeoggaaGreatDoorLV11
import Derived.Test.YtockagnnpeoggaaGreatDoorLV44
import Derived.Test.YtockagnnpeoggaaGreatDoorLV1
import Derived.Test.YtockagnnpeoggaaGreatDoorCards
import Derived.Test.YtockagnnpeoggaaGreatDoorTie
import Derived.ChangeSame
import Derived.SevenTiedAt
import Derived.JoinedCond
import Derived.Deep.DeepHandedRow
/- The law QuireLeaves: it returns true, for strings of at most 1048576 bytes. -/
namespace Go.Proofs.YtockagnnpeoggaaGreatDoor
set_option linter.unusedSimpArgs false
set_option linter.unusedVariables false
open Go Go.RowKit Go.Sort Go.BigFrame Go.Shelf
attribute [local go_sem] Oper.semAt_some putAll

theorem Leaves_both (b : Bk) : ∃ (xs : List Lf) (y : Int), xs.length < 1000000 ∧ (∀ (v : Value) (w : World), BookAt w.heap.size w v b → Calls Tryz.prog 17 #[v] w fun e w' => (∃ v', e = .returned (.tuple #[v', .int .i64 y]) ∧ LfsAt w' v' xs) ∧ Below w.heap.size w w') ∧
    (∀ (v : Value) (w : World), BookAt w.heap.size w v b → Calls Tryz.prog 18 #[v] w fun e w' => (∃ v', e = .returned (.tuple #[v', .int .i64 y]) ∧ LfsAt w' v' xs) ∧ Below w.heap.size w w') := by
  by_cases he : errF b = 0
  · refine ⟨lvs b, 0, by have := lvs_few (errF_zero he); omega, fun v w hb => ?_, fun v w hb => refLeaves_good b v w hb he⟩
    exact (Leaves_good b v w hb he).mono fun e w' ⟨⟨v', h1, h2⟩, h3⟩ => ⟨⟨v', h1, LfsAt.of_row h2⟩, h3⟩
  · have hn : ∀ w' : World, LfsAt w' (.slice none 0 0) [] := fun w' => ⟨none, 0, rfl, fun h => absurd rfl h⟩
    exact ⟨[], errF b, by simp, fun v w hb => (Leaves_bad b v w hb he).mono fun e w' ⟨h1, h2⟩ => ⟨⟨_, h1, hn w'⟩, h2⟩, fun v w hb => (refLeaves_bad b v w hb he).mono fun e w' ⟨h1, h2⟩ => ⟨⟨_, h1, hn w'⟩, h2⟩⟩
theorem Leaf_both (b : Bk) (n : Int) : ∃ (t : Bs) (y : Int), (∀ (v : Value) (w : World), BookAt w.heap.size w v b → Calls Tryz.prog 20 #[v, .int .i64 n] w fun e w' => e = .returned (.tuple #[S t, .int .i64 y]) ∧ Below w.heap.size w w') ∧
    (∀ (v : Value) (w : World), BookAt w.heap.size w v b → Calls Tryz.prog 21 #[v, .int .i64 n] w fun e w' => e = .returned (.tuple #[S t, .int .i64 y]) ∧ Below w.heap.size w w') := by
  by_cases he : errF b = 0
  · cases hm : getL (lvs b) n with
    | none => exact ⟨[], 4, fun v w hb => by have h := Leaf_good b v n w hb he; rwa [hm] at h, fun v w hb => by have h := refLeaf_good b v n w hb he; rwa [hm] at h⟩
    | some x => exact ⟨lfText b x, 0, fun v w hb => by have h := Leaf_good b v n w hb he; rwa [hm] at h, fun v w hb => by have h := refLeaf_good b v n w hb he; rwa [hm] at h⟩
  · exact ⟨[], errF b, fun v w hb => Leaf_bad b v n w hb he, fun v w hb => refLeaf_bad b v n w hb he⟩
theorem findR_is (b : Bk) (s : Bs) : ∃ t y : Int, findR b s = .tuple #[.int .i64 t, .int .i64 y] := by
  unfold findR
  split
  · exact ⟨_, _, rfl⟩
  · unfold mateR
    split <;> exact ⟨_, _, rfl⟩
theorem Find_both (b : Bk) (s : Bs) (hs : s.length ≤ 1048576) : ∃ t y : Int, (∀ (v : Value) (w : World), BookAt w.heap.size w v b → Calls Tryz.prog 22 #[v, S s] w fun e w' => e = .returned (.tuple #[.int .i64 t, .int .i64 y]) ∧ Below w.heap.size w w') ∧
    (∀ (v : Value) (w : World), BookAt w.heap.size w v b → Calls Tryz.prog 23 #[v, S s] w fun e w' => e = .returned (.tuple #[.int .i64 t, .int .i64 y]) ∧ Below w.heap.size w w') := by
  by_cases he : errF b = 0
  · obtain ⟨t, y, e⟩ := findR_is b s
    exact ⟨t, y, fun v w hb => by have h := Find_good b v s w hb he; rwa [e] at h, fun v w hb => by have h := refFind_good b v s w hb he hs; rwa [e] at h⟩
  · exact ⟨0, errF b, fun v w hb => Find_bad b v s w hb he, fun v w hb => refFind_bad b v s w hb he⟩

set_option maxRecDepth 100000 in
set_option maxHeartbeats 1600000 in
theorem QuireLeaves_any (b : Bk) (v : Value) (n : Int) (s : Bs) (w : World) (hb : BookAt w.heap.size w v b) (hs : s.length ≤ 1048576) :
    Calls Tryz.prog 4 #[v, .int .i64 n, S s] w fun e w' => e = .returned (.bool true) ∧ Below w.heap.size w w' := by
  obtain ⟨xs, z, hl, h3, h4⟩ := Leaves_both b
  have HS1 := Lib.hid h3
  have HS2 := Lib.hid h4
  obtain ⟨t, y, h1, h2⟩ := Leaf_both b n
  have HM1 := Lib.hid h1
  have HM2 := Lib.hid h2
  obtain ⟨d, q, h5, h6⟩ := Find_both b s hs
  have HD1 := Lib.hid h5
  have HD2 := Lib.hid h6
  clear h1 h2 h3 h4 h5 h6 hs
  obtain ⟨sv, rfl, hgs⟩ := hb
  have hb : BookAt w.heap.size w (.agg #[.int .i64 b.signed, sv]) b := ⟨sv, rfl, hgs⟩
  obtain ⟨a, cap, rfl, -⟩ := hgs
  have HK := Lib.hid (BkBox.start hb)
  clear hb
  have c0 := blk_cell HK.out.box 0; have c1 := blk_cell HK.out.box 1
  go_enter Tryz.func4, Tryz.ntmps4
  go_wp2_with fail
  refine (HS1.out _ _ HK.out.book).mono ?_
  rintro e w1 ⟨⟨x1, rfl, hx1⟩, hb1⟩
  have HX1 := Lib.hid hx1
  have HK := Lib.hid (HK.out.later hb1)
  clear hb1 c0 c1 hx1
  have c0 := blk_cell HK.out.box 0; have c1 := blk_cell HK.out.box 1
  go_wp2_with fail
  refine (HS2.out _ _ HK.out.book).mono ?_
  rintro e w2 ⟨⟨x2, rfl, hx2⟩, hb2⟩
  have HX1 := Lib.hid (HX1.out.later hb2)
  have HX2 := Lib.hid hx2
  have HK := Lib.hid (HK.out.later hb2)
  clear hb2 c0 c1 hx2
  go_wp2_with fail
  refine (refAlike_any xs xs _ _ _ HX1.out HX2.out hl hl).mono ?_
  rintro e w3 ⟨rfl, hb3⟩
  rw [decide_eq_true (rfl : xs = xs)]
  have HK := Lib.hid (HK.out.later hb3)
  clear hb3 HX1 HX2
  have c0 := blk_cell HK.out.box 0; have c1 := blk_cell HK.out.box 1
  go_wp2_with fail
  refine (HM1.out _ _ HK.out.book).mono ?_
  rintro e w4 ⟨rfl, hb4⟩
  have HK := Lib.hid (HK.out.later hb4)
  clear hb4 c0 c1
  have c0 := blk_cell HK.out.box 0; have c1 := blk_cell HK.out.box 1
  go_wp2_with fail
  refine (HM2.out _ _ HK.out.book).mono ?_
  rintro e w5 ⟨rfl, hb5⟩
  have HK := Lib.hid (HK.out.later hb5)
  clear hb5 c0 c1
  have c0 := blk_cell HK.out.box 0; have c1 := blk_cell HK.out.box 1
  go_wp2_with fail
  refine (HD1.out _ _ HK.out.book).mono ?_
  rintro e w6 ⟨rfl, hb6⟩
  have HK := Lib.hid (HK.out.later hb6)
  clear hb6 c0 c1
  have c0 := blk_cell HK.out.box 0; have c1 := blk_cell HK.out.box 1
  go_wp2_with fail
  refine (HD2.out _ _ HK.out.book).mono ?_
  rintro e w7 ⟨rfl, hb7⟩
  have HK := Lib.hid (HK.out.later hb7)
  clear hb7 c0 c1
  go_wp2_with fail
  refine (Awake_any _).mono ?_
  rintro e w8 ⟨rfl, hb8⟩
  have HK := Lib.hid (HK.out.later hb8)
  clear hb8
  go_wp2_with fail
  go_ret
  exact ⟨rfl, HK.out.below⟩
end Go.Proofs.YtockagnnpeoggaaGreatDoor

/- The statement QuireLeaves in its second form: the law returns true for every book, number and string, and changes nothing that was there. Its condition: what comes in is of bulk at most 1048576. -/
namespace Go.Proofs.YtockagnnpeoggaaGreatDoor
set_option linter.unusedSimpArgs false
set_option linter.unusedVariables false
open Go Go.ChangeShapes Go.WideShapes Go.ChangeAt Go.RowKit

set_option maxRecDepth 100000 in
theorem quireLeaves_reads (os : Os) {H : Type} (enc : TypeId × Value → H) : ∃ places, DataW.whole enc Tryz.prog ((World.doorLaid Tryz.prog 400 os).forCall (fun _ _ => 0) ⟨#[], #[.agg #[.int .i64 0, .slice none 0 0], .int .i64 0, .string ⟨#[]⟩], []⟩).memory (Tryz.f4).params.toList Rows.quireLeavesSpec.vars false (#[.agg #[.int .i64 0, .slice none 0 0], .int .i64 0, .string ⟨#[]⟩] : Array Value).toList 8 = some ([.agg [.lit (.int .i64 0), .nil], .lit (.int .i64 0), .lit (.string [])], [], places) :=
  ⟨[], by kernel_rfl⟩

set_option maxHeartbeats 800000 in
set_option maxRecDepth 100000 in
theorem quireLeaves_liftedUpto (os : Os) (started : os.Started) (H : Type) (enc : TypeId × Value → H) (F : Stop.Interp) :
    ReturnsInHanded {} Tryz.checked os 4 .any ((Rows.OpenSpec.upto Rows.quireLeavesSpec).preRow enc Tryz.prog Tryz.f4 Rows.quireLeavesUptoRow.domain false Rows.quireLeavesUptoRow.laid) (((Rows.OpenSpec.upto Rows.quireLeavesSpec).at F).post enc Tryz.prog Tryz.f4 false true false false) := by
  obtain ⟨places, hx⟩ := quireLeaves_reads os enc
  have hok : Input.okWideB Tryz.prog ((World.doorLaid Tryz.prog 400 os).forCall (fun _ _ => 0) ⟨#[], #[.agg #[.int .i64 0, .slice none 0 0], .int .i64 0, .string ⟨#[]⟩], []⟩) 4 ⟨#[], #[.agg #[.int .i64 0, .slice none 0 0], .int .i64 0, .string ⟨#[]⟩], []⟩ = true := by kernel_rfl
  refine returnsInHanded_of_row (C := Tryz.checked) (s := Rows.OpenSpec.upto Rows.quireLeavesSpec) own started (by kernel_rfl) Tryz.func4
    ⟨World.doorLaid Tryz.prog 400 os, fun _ _ => 0, ⟨#[], #[.agg #[.int .i64 0, .slice none 0 0], .int .i64 0, .string ⟨#[]⟩], []⟩, rfl, World.shaped_of_RefB (by kernel_rfl) (by kernel_rfl), (Input.okWide_of_okWideB (base := 0) hok).1, (Input.okWide_of_okWideB hok).2,
      OpenSpec.preRow_of_cond 8 hx (by kernel_rfl) (fun k hk => by cases hk; kernel_rfl) (by kernel_rfl) (door_met os _), by
        simp only [Assume.holds]
        exact ⟨by simp, by simp, fun _ => Modest.zero, by simp, by simp⟩⟩ ?_
  intro W base args ds gs before hval0 hW _ hcond _ _ _ _
  have hk0 : Rows.uptoSmall H (ds ++ gs) = true := hcond _ rfl
  have hval : ∀ (j : Nat) t v, (Tryz.f4).params[j]? = some t → args[j]? = some v → Value.okWide Tryz.prog W .any base t v := hval0
  have hW' : DataW.Whole enc Tryz.prog (Tryz.f4).params.toList Rows.quireLeavesSpec.vars false W args.toList ds gs before := hW
  have hW2 := hW'
  obtain ⟨p, q, hA0, hV, rfl, hfz, hnd⟩ := hW2
  have hA : DataW.TrodAll enc Tryz.prog W 0 (fun _ => true) true (Tryz.f4).params.toList args.toList ds p := hA0
  rw [Tryz.params4] at hA hval
  obtain ⟨v0, v1, v2, d0, d1, d2, p0, p1, p2, rfl, rfl, rfl, h0, h1, h2⟩ := trodAll_three hA
  obtain ⟨rfl, rfl⟩ := trodVars_none hV
  obtain ⟨f0, hx0⟩ := h0
  obtain ⟨b0, hb0⟩ := book_in (hval 0 24 v0 rfl rfl) hx0
  obtain ⟨f1, hx1⟩ := h1
  obtain ⟨n1, rfl, hn1⟩ := int_in (hval 1 3 v1 rfl rfl) hx1
  obtain ⟨f2, hx2⟩ := h2
  obtain ⟨s2, rfl, -, hd2⟩ := string_in2 (hval 2 9 v2 rfl rfl) hx2
  clear hA0 hval0
  simp only [List.append_nil] at hW'
  have hk := hk0
  refine (QuireLeaves_any b0 v0 n1 s2 W hb0 (upto_string hk (by simp) hd2)).mono fun e W' ⟨he, hb⟩ => ?_
  subst he
  exact ⟨_, rfl, law_post (tb := 4) laidOut hW' rfl rfl (by kernel_rfl) Tryz.underlying4 (by kernel_rfl) hb⟩

theorem quireLeaves_upto : Rows.QuireLeavesUptoSaid :=
  OpenClaim.holds_of_cond 4 Tryz.f4 rfl rfl rfl rfl rfl rfl rfl ⟨rfl, rfl, rfl, rfl, rfl⟩ rfl rfl rfl rfl rfl (by kernel_rfl) Tryz.func4 (by kernel_rfl)
    (of_decide_eq_true (by kernel_rfl)) (by unfold Func.isWrapper; first | (rw [if_pos (by decide +kernel)]; kernel_rfl) | (rw [if_neg (by decide +kernel)]; exact ⟨rfl, rfl⟩))
    (fun os started H enc _ F => by rw [OpenClaim.pre_eq_preRow]; exact quireLeaves_liftedUpto os started H enc F)

theorem quireLeaves_cardUpto : Rows.QuireLeavesUptoCardSaid :=
  Claim7.holds_tied_plain_at .later [] [.data, .data, .data] true (true, "762813b5b0aca40c0edd030137c81c35b16a11fffc438c9064f760fc35ab0ff8") true
    quireLeaves_upto (fun _ h => by cases h) (by kernel_rfl) (fun _ h => by cases h) quireLeavesUpto_row_tie rfl ⟨rfl, rfl⟩ (by kernel_rfl) rfl
    (fun f fn hf hfn => by
      obtain rfl : f = 4 := Option.some.inj ((show Tryz.prog.funcNamed "duodecimo/duodecimolaw01.QuireLeaves" = some 4 by kernel_rfl).symm.trans hf) |>.symm
      obtain rfl : fn = Tryz.f4 := (Option.some.inj ((Tryz.func4).symm.trans hfn)).symm
      exact ⟨by kernel_rfl, fun j t ht => by
        rw [Tryz.params4] at ht
        have hm : t ∈ [24, 3, 9] := by simpa using Array.mem_of_getElem? ht
        have hall : ([24, 3, 9].all fun u => !Tryz.prog.wantsStandIn u) = true := by kernel_rfl
        exact (show Tryz.prog.wantsStandIn t = false by simpa using List.all_eq_true.1 hall t hm)⟩)
    (by kernel_rfl)
end Go.Proofs.YtockagnnpeoggaaGreatDoor
