/- The parts Lo, Ko of the proof, joined. It holds without conditions of its own. -/
import Derived.Test.YtimdmgkegdlafaaGreatDoorRO39
import Derived.Test.YtimdmgkegdlafaaGreatDoorRO40
import Derived.Test.YtimdmgkegdlafaaGreatDoorRO30
import Derived.Test.YtimdmgkegdlafaaGreatDoorRO46
import Derived.Test.YtimdmgkegdlafaaGreatDoorRO1
import Derived.Test.YtimdmgkegdlafaaGreatDoorCards
import Derived.Test.YtimdmgkegdlafaaGreatDoorTie
import Derived.ChangeSame
import Derived.SevenTiedAt
/- The law QuireRound: it returns true. -/
namespace Go.Proofs.YtimdmgkegdlafaaGreatDoor
set_option linter.unusedSimpArgs false
set_option linter.unusedVariables false
open Go Go.RowKit Go.Sort Go.BigFrame Go.Shelf
attribute [local go_sem] Oper.semAt_some putAll

/-- What is read: nothing, or a book without an error, whose text is no longer. -/
theorem readF_cases (s : Bs) : ((readF s).2 ≠ 0 ∧ (readF s).1 = ⟨0, []⟩) ∨ ((readF s).2 = 0 ∧ errF (readF s).1 = 0 ∧ (writeF (readF s).1).length ≤ s.length) := by
  unfold readF
  by_cases h1 : 1000 < s.length
  · rw [if_pos h1]
    exact Or.inl ⟨by decide, rfl⟩
  · rw [if_neg h1]
    cases h : allF (bookF s) with
    | none => exact Or.inl ⟨by decide, rfl⟩
    | some b =>
      dsimp only
      by_cases he : errF b = 0
      · rw [if_pos he]
        refine Or.inr ⟨rfl, he, ?_⟩
        rcases write_short h with e | e
        · exact Nat.le_of_eq (congrArg List.length e.symm)
        · exact Nat.le_of_lt e
      · rw [if_neg he]
        exact Or.inl ⟨by decide, rfl⟩
theorem same_few {b : Bk} (he : errF b = 0) : b.gs.length < 1000000 ∧ ∀ g ∈ b.gs, g.chs.length < 1000000 :=
  ⟨by have := (errF_zero he).len; omega, fun g hg => by have := ((errF_zero he).gs g hg).few; omega⟩

set_option maxRecDepth 100000 in
set_option maxHeartbeats 1600000 in
theorem QuireRound_any (b : Bk) (v : Value) (s : Bs) (w : World) (hb : BookAt w.heap.size w v b) (hs : s.length ≤ 9223372036854775807) :
    Calls Tryz.prog 4 #[v, S s] w fun e w' => e = .returned (.bool true) ∧ Below w.heap.size w w' := by
  obtain ⟨sv, rfl, hgs⟩ := hb
  have hb : BookAt w.heap.size w (.agg #[.int .i64 b.signed, sv]) b := ⟨sv, rfl, hgs⟩
  obtain ⟨a, cap, rfl, -⟩ := hgs
  have HK := Lib.hid (BkBox.start hb)
  have HS := Lib.hid hs
  clear hb hs
  have c0 := blk_cell HK.out.box 0; have c1 := blk_cell HK.out.box 1
  go_enter Tryz.func4, Tryz.ntmps4
  by_cases he : errF b = 0
  · have heq : (errF b == 0) = true := by simp [he]
    have HE := Lib.hid he
    have hfew0 := Lib.hid (same_few he)
    have hl0 : ¬ (1000 : Int) < ((writeF b).length : Int) := by have := write_len he; omega
    have hl1 : decide ((1000 : Int) < ((writeF b).length : Int)) = false := decide_eq_false hl0
    clear he
    go_wp2_with fail
    refine (Write_good b _ _ HK.out.book HE.out).mono ?_
    rintro e w1 ⟨rfl, hb1⟩
    have HK := Lib.hid (HK.out.later hb1)
    clear hb1 c0 c1
    have c0 := blk_cell HK.out.box 0; have c1 := blk_cell HK.out.box 1
    go_wp2_with fail
    refine (valid_any b _ _ HK.out.book).mono ?_
    rintro e w2 ⟨rfl, hb2⟩
    rw [heq]
    have HK := Lib.hid (HK.out.later hb2)
    clear hb2 c0 c1 heq
    go_wp2_with fail
    refine (Read_any (writeF b) _ (by have := write_len HE.out; omega)).mono ?_
    rintro e w3 ⟨⟨qv, rfl, hrd⟩, hb3⟩
    rw [write_read HE.out] at hrd ⊢
    dsimp only at hrd ⊢
    have hat := hrd.at_
    obtain ⟨qs, rfl, hqg⟩ := hat
    obtain ⟨qa, qcap, rfl, -⟩ := hqg
    have HQ := Lib.hid (BkBox.start hrd.at_)
    have HK := Lib.hid ((HK.out.later hb3).later ((Below.refl _ w3).alloc (Nat.le_refl _) (.cells #[.int .i64 b.signed, .slice qa b.gs.length qcap] 24)))
    clear hb3 hrd
    have c0 := blk_cell HK.out.box 0; have c1 := blk_cell HK.out.box 1
    have q0 := blk_cell HQ.out.box 0; have q1 := blk_cell HQ.out.box 1
    go_wp2_with fail
    refine (Same_any b b _ _ _ HQ.out.book HK.out.book hfew0.out.1 hfew0.out.2).mono ?_
    rintro e w4 ⟨hsm, hb4⟩
    have hsm' := hsm.self
    subst hsm'
    have HK := Lib.hid (HK.out.later hb4)
    clear hb4 c0 c1 q0 q1 hsm HQ
    have c0 := blk_cell HK.out.box 0; have c1 := blk_cell HK.out.box 1
    go_wp2_with fail
    refine (Read_any s _ HS.out).mono ?_
    rintro e wA ⟨⟨rv, rfl, hrd⟩, hbA⟩
    have hcs := readF_cases s
    obtain ⟨p, hp⟩ : ∃ p, p = readF s := ⟨_, rfl⟩
    rw [← hp] at hrd hcs ⊢
    obtain ⟨r, er⟩ := p
    dsimp only at hrd hcs ⊢
    have HB := Lib.hid (HK.out.below.trans (hbA.mono HK.out.below.size))
    clear hbA c0 c1 HK hp
    have hat := hrd.at_
    obtain ⟨rs, rfl, hrg⟩ := hat
    obtain ⟨ra, rcap, rfl, -⟩ := hrg
    have HR := Lib.hid (BkBox.start hrd.at_)
    clear hrd
    rcases hcs with ⟨h1, rfl⟩ | ⟨rfl, h2, h3⟩
    · have hne : (er != 0) = true := by simp [h1]
      clear h1
      have d0 := blk_cell HR.out.box 0; have d1 := blk_cell HR.out.box 1
      dsimp only [List.length_nil] at d0 d1
      go_wp2_with fail
      refine (Awake_any _).mono ?_
      rintro e wB ⟨rfl, hbB⟩
      have HR := Lib.hid (HR.out.later hbB)
      clear hbB d0 d1
      go_wp2_with fail
      go_ret
      exact ⟨rfl, HB.out.trans (HR.out.below.mono HB.out.size)⟩
    · have hfew := same_few h2
      have HG := Lib.hid h2
      have hlen : ((writeF r).length : Int) ≤ (s.length : Int) := by omega
      have hlen2 : decide (((writeF r).length : Int) ≤ (s.length : Int)) = true := decide_eq_true hlen
      clear h2 h3
      have d0 := blk_cell HR.out.box 0; have d1 := blk_cell HR.out.box 1
      go_wp2_with fail
      refine (Write_good r _ _ HR.out.book HG.out).mono ?_
      rintro e wB ⟨rfl, hbB⟩
      have HR := Lib.hid (HR.out.later hbB)
      clear hbB d0 d1
      go_wp2_with fail
      refine (Read_any (writeF r) _ (by have := write_len HG.out; omega)).mono ?_
      rintro e wC ⟨⟨qv, rfl, hrd⟩, hbC⟩
      rw [write_read HG.out] at hrd ⊢
      dsimp only at hrd ⊢
      have hat := hrd.at_
      obtain ⟨qs, rfl, hqg⟩ := hat
      obtain ⟨qa, qcap, rfl, -⟩ := hqg
      have HQ := Lib.hid (BkBox.start hrd.at_)
      have HR := Lib.hid ((HR.out.later hbC).later ((Below.refl _ wC).alloc (Nat.le_refl _) (.cells #[.int .i64 r.signed, .slice qa r.gs.length qcap] 24)))
      clear hbC hrd
      have d0 := blk_cell HR.out.box 0; have d1 := blk_cell HR.out.box 1
      have q0 := blk_cell HQ.out.box 0; have q1 := blk_cell HQ.out.box 1
      go_wp2_with fail
      refine (Same_any r r _ _ _ HQ.out.book HR.out.book hfew.1 hfew.2).mono ?_
      rintro e wD ⟨hsm, hbD⟩
      have hsm' := hsm.self
      subst hsm'
      have HR := Lib.hid (HR.out.later hbD)
      clear hbD d0 d1 q0 q1 hsm HQ
      go_wp2_with fail
      refine (Awake_any _).mono ?_
      rintro e wE ⟨rfl, hbE⟩
      have HR := Lib.hid (HR.out.later hbE)
      clear hbE
      go_wp2_with fail
      go_ret
      exact ⟨rfl, HB.out.trans (HR.out.below.mono HB.out.size)⟩
  · have heq : (errF b == 0) = false := by simp [he]
    have HE := Lib.hid he
    clear he
    go_wp2_with fail
    refine (Write_bad b _ _ HK.out.book HE.out).mono ?_
    rintro e w1 ⟨rfl, hb1⟩
    have HK := Lib.hid (HK.out.later hb1)
    clear hb1 c0 c1
    have c0 := blk_cell HK.out.box 0; have c1 := blk_cell HK.out.box 1
    go_wp2_with fail
    refine (valid_any b _ _ HK.out.book).mono ?_
    rintro e w2 ⟨rfl, hb2⟩
    rw [heq]
    have HK := Lib.hid (HK.out.later hb2)
    clear hb2 c0 c1
    have c0 := blk_cell HK.out.box 0; have c1 := blk_cell HK.out.box 1
    go_wp2_with fail
    refine (Read_any s _ HS.out).mono ?_
    rintro e wA ⟨⟨rv, rfl, hrd⟩, hbA⟩
    have hcs := readF_cases s
    obtain ⟨p, hp⟩ : ∃ p, p = readF s := ⟨_, rfl⟩
    rw [← hp] at hrd hcs ⊢
    obtain ⟨r, er⟩ := p
    dsimp only at hrd hcs ⊢
    have HB := Lib.hid (HK.out.below.trans (hbA.mono HK.out.below.size))
    clear hbA c0 c1 HK hp
    have hat := hrd.at_
    obtain ⟨rs, rfl, hrg⟩ := hat
    obtain ⟨ra, rcap, rfl, -⟩ := hrg
    have HR := Lib.hid (BkBox.start hrd.at_)
    clear hrd
    rcases hcs with ⟨h1, rfl⟩ | ⟨rfl, h2, h3⟩
    · have hne : (er != 0) = true := by simp [h1]
      clear h1
      have d0 := blk_cell HR.out.box 0; have d1 := blk_cell HR.out.box 1
      dsimp only [List.length_nil] at d0 d1
      go_wp2_with fail
      refine (Awake_any _).mono ?_
      rintro e wB ⟨rfl, hbB⟩
      have HR := Lib.hid (HR.out.later hbB)
      clear hbB d0 d1
      go_wp2_with fail
      go_ret
      exact ⟨rfl, HB.out.trans (HR.out.below.mono HB.out.size)⟩
    · have hfew := same_few h2
      have HG := Lib.hid h2
      have hlen : ((writeF r).length : Int) ≤ (s.length : Int) := by omega
      have hlen2 : decide (((writeF r).length : Int) ≤ (s.length : Int)) = true := decide_eq_true hlen
      clear h2 h3
      have d0 := blk_cell HR.out.box 0; have d1 := blk_cell HR.out.box 1
      go_wp2_with fail
      refine (Write_good r _ _ HR.out.book HG.out).mono ?_
      rintro e wB ⟨rfl, hbB⟩
      have HR := Lib.hid (HR.out.later hbB)
      clear hbB d0 d1
      go_wp2_with fail
      refine (Read_any (writeF r) _ (by have := write_len HG.out; omega)).mono ?_
      rintro e wC ⟨⟨qv, rfl, hrd⟩, hbC⟩
      rw [write_read HG.out] at hrd ⊢
      dsimp only at hrd ⊢
      have hat := hrd.at_
      obtain ⟨qs, rfl, hqg⟩ := hat
      obtain ⟨qa, qcap, rfl, -⟩ := hqg
      have HQ := Lib.hid (BkBox.start hrd.at_)
      have HR := Lib.hid ((HR.out.later hbC).later ((Below.refl _ wC).alloc (Nat.le_refl _) (.cells #[.int .i64 r.signed, .slice qa r.gs.length qcap] 24)))
      clear hbC hrd
      have d0 := blk_cell HR.out.box 0; have d1 := blk_cell HR.out.box 1
      have q0 := blk_cell HQ.out.box 0; have q1 := blk_cell HQ.out.box 1
      go_wp2_with fail
      refine (Same_any r r _ _ _ HQ.out.book HR.out.book hfew.1 hfew.2).mono ?_
      rintro e wD ⟨hsm, hbD⟩
      have hsm' := hsm.self
      subst hsm'
      have HR := Lib.hid (HR.out.later hbD)
      clear hbD d0 d1 q0 q1 hsm HQ
      go_wp2_with fail
      refine (Awake_any _).mono ?_
      rintro e wE ⟨rfl, hbE⟩
      have HR := Lib.hid (HR.out.later hbE)
      clear hbE
      go_wp2_with fail
      go_ret
      exact ⟨rfl, HB.out.trans (HR.out.below.mono HB.out.size)⟩
end Go.Proofs.YtimdmgkegdlafaaGreatDoor

/- The statement QuireRound: the law returns true for every book and string, and changes nothing that was there. No condition. -/
namespace Go.Proofs.YtimdmgkegdlafaaGreatDoor
set_option linter.unusedSimpArgs false
set_option linter.unusedVariables false
open Go Go.ChangeShapes Go.WideShapes Go.ChangeAt Go.RowKit

set_option maxHeartbeats 800000 in
set_option maxRecDepth 100000 in
theorem quireRound_lifted (os : Os) (started : os.Started) (H : Type) (enc : TypeId × Value → H) :
    ReturnsInHanded {} Tryz.checked os 4 .any (fun w args => (Rows.quireRoundSpec.pre enc Tryz.prog Tryz.f4 [] false w args ∧ laidMetH Tryz.prog laidVs w) ∧ sizedMet enc Tryz.prog Tryz.f4 (OpenSpec.ofChange Rows.quireRoundSpec) false w args)
      (Rows.quireRoundSpec.post enc Tryz.prog Tryz.f4 false true false false) := by
  refine returnsInHanded_of_change_and (C := Tryz.checked) (X := fun w _ => laidMetH Tryz.prog laidVs w) (fun _ _ _ hh h => h.of_heap hh) own started (by kernel_rfl) Tryz.func4
    (ChangeSpec.witness_shaped (enc := enc) (C := Tryz.checked) (os := os) (X := fun w _ => laidMetH Tryz.prog laidVs w) false (World.doorLaid Tryz.prog 400 os) #[.agg #[.int .i64 0, .slice none 0 0], .string ⟨#[]⟩] 8 rfl (World.shaped_of_RefB (by kernel_rfl) (by kernel_rfl)) (by kernel_rfl) (by kernel_rfl) (by kernel_rfl) (door_met os _)) ?_
  intro W base args ds gs before hval0 hW _ _ _ _
  have hval : ∀ (j : Nat) t v, (Tryz.f4).params[j]? = some t → args[j]? = some v → Value.okWide Tryz.prog W .any base t v := hval0
  have hW' := hW
  obtain ⟨p, q, hA0, hV, rfl, hfz, hnd⟩ := hW
  have hA : DataW.TrodAll enc Tryz.prog W 0 (fun _ => true) true (Tryz.f4).params.toList args.toList ds p := hA0
  rw [Tryz.params4] at hA hval
  obtain ⟨v0, v1, d0, d1, p0, p1, rfl, rfl, rfl, h0, h1⟩ := trodAll_two hA
  obtain ⟨rfl, rfl⟩ := trodVars_none hV
  obtain ⟨f0, hx0⟩ := h0
  obtain ⟨b0, hb0⟩ := book_in (hval 0 24 v0 rfl rfl) hx0
  obtain ⟨f1, hx1⟩ := h1
  obtain ⟨s1, rfl, hs1⟩ := string_in (hval 1 9 v1 rfl rfl) hx1
  clear hA0 hval0
  simp only [List.append_nil] at hW'
  refine (QuireRound_any b0 v0 s1 W hb0 hs1).mono fun e W' ⟨he, hb⟩ => ?_
  subst he
  exact ⟨_, rfl, law_post (tb := 4) laidOut hW' rfl rfl (by kernel_rfl) Tryz.underlying4 (by kernel_rfl) hb⟩

theorem quireRound_holds : Rows.QuireRoundSaid :=
  OpenClaim.holds_of_wide 4 Tryz.f4 rfl rfl rfl rfl rfl rfl rfl ⟨rfl, rfl, rfl, rfl, rfl⟩ rfl rfl rfl rfl rfl (by kernel_rfl) Tryz.func4 (by kernel_rfl)
    (of_decide_eq_true (by kernel_rfl)) (by unfold Func.isWrapper; first | (rw [if_pos (by decide +kernel)]; kernel_rfl) | (rw [if_neg (by decide +kernel)]; exact ⟨rfl, rfl⟩))
    (fun os started H enc _ => quireRound_lifted os started H enc)

theorem quireRound_card : Rows.QuireRoundCardSaid :=
  Claim7.holds_tied_plain_at .later [] [.data, .data, .data] true (true, "dfb55099940b79270841897311c77527b3596569acdd93262ed52b286a8413d3") true
    quireRound_holds (fun _ h => by cases h) (by kernel_rfl) (fun _ h => by cases h) quireRound_row_tie rfl ⟨rfl, rfl⟩ (by kernel_rfl) rfl
    (fun f fn hf hfn => by
      obtain rfl : f = 4 := Option.some.inj ((show Tryz.prog.funcNamed "duodecimo/duodecimolaw01.QuireRound" = some 4 by kernel_rfl).symm.trans hf) |>.symm
      obtain rfl : fn = Tryz.f4 := (Option.some.inj ((Tryz.func4).symm.trans hfn)).symm
      exact ⟨by kernel_rfl, fun j t ht => by
        rw [Tryz.params4] at ht
        have hm : t ∈ [24, 9] := by simpa using Array.mem_of_getElem? ht
        have hall : ([24, 9].all fun u => !Tryz.prog.wantsStandIn u) = true := by kernel_rfl
        exact (show Tryz.prog.wantsStandIn t = false by simpa using List.all_eq_true.1 hall t hm)⟩)
    (by kernel_rfl)
end Go.Proofs.YtimdmgkegdlafaaGreatDoor
