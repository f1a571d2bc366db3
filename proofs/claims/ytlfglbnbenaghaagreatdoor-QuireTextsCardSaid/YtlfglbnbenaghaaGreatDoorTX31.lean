/- The parts Lo, Gd, Lr of the proof, joined. It holds without conditions of its own. -/
import Derived.Test.YtlfglbnbenaghaaGreatDoorTX19
import Derived.Test.YtlfglbnbenaghaaGreatDoorTX20
import Derived.Test.YtlfglbnbenaghaaGreatDoorTX21
import Derived.Test.YtlfglbnbenaghaaGreatDoorTX15
import Derived.Test.YtlfglbnbenaghaaGreatDoorTX28
import Derived.Test.YtlfglbnbenaghaaGreatDoorTX24
import Derived.Test.YtlfglbnbenaghaaGreatDoorTX30
/- The law QuireRound: it returns true. -/
namespace Go.Proofs.YtlfglbnbenaghaaGreatDoor
set_option linter.unusedSimpArgs false
set_option linter.unusedVariables false
open Go Go.RowKit Go.Sort Go.BigFrame Go.Shelf
attribute [local go_sem] Oper.semAt_some putAll

/-- What is read: nothing, or a book without an error, whose text is no longer. -/
theorem readF_cases (s : Bs) : ((readF s).2 ≠ 0 ∧ (readF s).1 = ⟨0, []⟩) ∨ ((readF s).2 = 0 ∧ errF (readF s).1 = 0 ∧ (writeF (readF s).1).length ≤ s.length) := by
  unfold readF
  by_cases h1 : 1000 < s.length
  · rw [if_pos h1]
    exact Or.inl ⟨by decide, rfl⟩
  · rw [if_neg h1]
    cases h : allF (bookF s) with
    | none => exact Or.inl ⟨by decide, rfl⟩
    | some b =>
      dsimp only
      by_cases he : errF b = 0
      · rw [if_pos he]
        refine Or.inr ⟨rfl, he, ?_⟩
        rcases write_short h with e | e
        · exact Nat.le_of_eq (congrArg List.length e.symm)
        · exact Nat.le_of_lt e
      · rw [if_neg he]
        exact Or.inl ⟨by decide, rfl⟩
theorem same_few {b : Bk} (he : errF b = 0) : b.gs.length < 1000000 ∧ ∀ g ∈ b.gs, g.chs.length < 1000000 :=
  ⟨by have := (errF_zero he).len; omega, fun g hg => by have := ((errF_zero he).gs g hg).few; omega⟩

set_option maxRecDepth 100000 in
set_option maxHeartbeats 1600000 in
theorem QuireRound_any (b : Bk) (v : Value) (s : Bs) (w : World) (hb : BookAt w.heap.size w v b) (hs : s.length ≤ 9223372036854775807) :
    Calls Tryz.prog 4 #[v, S s] w fun e w' => e = .returned (.bool true) ∧ Below w.heap.size w w' := by
  obtain ⟨sv, rfl, hgs⟩ := hb
  have hb : BookAt w.heap.size w (.agg #[.int .i64 b.signed, sv]) b := ⟨sv, rfl, hgs⟩
  obtain ⟨a, cap, rfl, -⟩ := hgs
  have HK := Lib.hid (BkBox.start hb)
  have HS := Lib.hid hs
  clear hb hs
  have c0 := blk_cell HK.out.box 0; have c1 := blk_cell HK.out.box 1
  go_enter Tryz.func4, Tryz.ntmps4
  by_cases he : errF b = 0
  · have heq : (errF b == 0) = true := by simp [he]
    have HE := Lib.hid he
    have hfew0 := Lib.hid (same_few he)
    have hl0 : ¬ (1000 : Int) < ((writeF b).length : Int) := by have := write_len he; omega
    have hl1 : decide ((1000 : Int) < ((writeF b).length : Int)) = false := decide_eq_false hl0
    clear he
    go_wp2_with fail
    refine (Write_good b _ _ HK.out.book HE.out).mono ?_
    rintro e w1 ⟨rfl, hb1⟩
    have HK := Lib.hid (HK.out.later hb1)
    clear hb1 c0 c1
    have c0 := blk_cell HK.out.box 0; have c1 := blk_cell HK.out.box 1
    go_wp2_with fail
    refine (valid_any b _ _ HK.out.book).mono ?_
    rintro e w2 ⟨rfl, hb2⟩
    rw [heq]
    have HK := Lib.hid (HK.out.later hb2)
    clear hb2 c0 c1 heq
    go_wp2_with fail
    refine (Read_any (writeF b) _ (by have := write_len HE.out; omega)).mono ?_
    rintro e w3 ⟨⟨qv, rfl, hrd⟩, hb3⟩
    rw [write_read HE.out] at hrd ⊢
    dsimp only at hrd ⊢
    have hat := hrd.at_
    obtain ⟨qs, rfl, hqg⟩ := hat
    obtain ⟨qa, qcap, rfl, -⟩ := hqg
    have HQ := Lib.hid (BkBox.start hrd.at_)
    have HK := Lib.hid ((HK.out.later hb3).later ((Below.refl _ w3).alloc (Nat.le_refl _) (.cells #[.int .i64 b.signed, .slice qa b.gs.length qcap] 24)))
    clear hb3 hrd
    have c0 := blk_cell HK.out.box 0; have c1 := blk_cell HK.out.box 1
    have q0 := blk_cell HQ.out.box 0; have q1 := blk_cell HQ.out.box 1
    go_wp2_with fail
    refine (Same_any b b _ _ _ HQ.out.book HK.out.book hfew0.out.1 hfew0.out.2).mono ?_
    rintro e w4 ⟨hsm, hb4⟩
    have hsm' := hsm.self
    subst hsm'
    have HK := Lib.hid (HK.out.later hb4)
    clear hb4 c0 c1 q0 q1 hsm HQ
    have c0 := blk_cell HK.out.box 0; have c1 := blk_cell HK.out.box 1
    go_wp2_with fail
    refine (Read_any s _ HS.out).mono ?_
    rintro e wA ⟨⟨rv, rfl, hrd⟩, hbA⟩
    have hcs := readF_cases s
    obtain ⟨p, hp⟩ : ∃ p, p = readF s := ⟨_, rfl⟩
    rw [← hp] at hrd hcs ⊢
    obtain ⟨r, er⟩ := p
    dsimp only at hrd hcs ⊢
    have HB := Lib.hid (HK.out.below.trans (hbA.mono HK.out.below.size))
    clear hbA c0 c1 HK hp
    have hat := hrd.at_
    obtain ⟨rs, rfl, hrg⟩ := hat
    obtain ⟨ra, rcap, rfl, -⟩ := hrg
    have HR := Lib.hid (BkBox.start hrd.at_)
    clear hrd
    rcases hcs with ⟨h1, rfl⟩ | ⟨rfl, h2, h3⟩
    · have hne : (er != 0) = true := by simp [h1]
      clear h1
      have d0 := blk_cell HR.out.box 0; have d1 := blk_cell HR.out.box 1
      dsimp only [List.length_nil] at d0 d1
      go_wp2_with fail
      refine (Awake_any _).mono ?_
      rintro e wB ⟨rfl, hbB⟩
      have HR := Lib.hid (HR.out.later hbB)
      clear hbB d0 d1
      go_wp2_with fail
      go_ret
      exact ⟨rfl, HB.out.trans (HR.out.below.mono HB.out.size)⟩
    · have hfew := same_few h2
      have HG := Lib.hid h2
      have hlen : ((writeF r).length : Int) ≤ (s.length : Int) := by omega
      have hlen2 : decide (((writeF r).length : Int) ≤ (s.length : Int)) = true := decide_eq_true hlen
      clear h2 h3
      have d0 := blk_cell HR.out.box 0; have d1 := blk_cell HR.out.box 1
      go_wp2_with fail
      refine (Write_good r _ _ HR.out.book HG.out).mono ?_
      rintro e wB ⟨rfl, hbB⟩
      have HR := Lib.hid (HR.out.later hbB)
      clear hbB d0 d1
      go_wp2_with fail
      refine (Read_any (writeF r) _ (by have := write_len HG.out; omega)).mono ?_
      rintro e wC ⟨⟨qv, rfl, hrd⟩, hbC⟩
      rw [write_read HG.out] at hrd ⊢
      dsimp only at hrd ⊢
      have hat := hrd.at_
      obtain ⟨qs, rfl, hqg⟩ := hat
      obtain ⟨qa, qcap, rfl, -⟩ := hqg
      have HQ := Lib.hid (BkBox.start hrd.at_)
      have HR := Lib.hid ((HR.out.later hbC).later ((Below.refl _ wC).alloc (Nat.le_refl _) (.cells #[.int .i64 r.signed, .slice qa r.gs.length qcap] 24)))
      clear hbC hrd
      have d0 := blk_cell HR.out.box 0; have d1 := blk_cell HR.out.box 1
      have q0 := blk_cell HQ.out.box 0; have q1 := blk_cell HQ.out.box 1
      go_wp2_with fail
      refine (Same_any r r _ _ _ HQ.out.book HR.out.book hfew.1 hfew.2).mono ?_
      rintro e wD ⟨hsm, hbD⟩
      have hsm' := hsm.self
      subst hsm'
      have HR := Lib.hid (HR.out.later hbD)
      clear hbD d0 d1 q0 q1 hsm HQ
      go_wp2_with fail
      refine (Awake_any _).mono ?_
      rintro e wE ⟨rfl, hbE⟩
      have HR := Lib.hid (HR.out.later hbE)
      clear hbE
      go_wp2_with fail
      go_ret
      exact ⟨rfl, HB.out.trans (HR.out.below.mono HB.out.size)⟩
  · have heq : (errF b == 0) = false := by simp [he]
    have HE := Lib.hid he
    clear he
    go_wp2_with fail
    refine (Write_bad b _ _ HK.out.book HE.out).mono ?_
    rintro e w1 ⟨rfl, hb1⟩
    have HK := Lib.hid (HK.out.later hb1)
    clear hb1 c0 c1
    have c0 := blk_cell HK.out.box 0; have c1 := blk_cell HK.out.box 1
    go_wp2_with fail
    refine (valid_any b _ _ HK.out.book).mono ?_
    rintro e w2 ⟨rfl, hb2⟩
    rw [heq]
    have HK := Lib.hid (HK.out.later hb2)
    clear hb2 c0 c1
    have c0 := blk_cell HK.out.box 0; have c1 := blk_cell HK.out.box 1
    go_wp2_with fail
    refine (Read_any s _ HS.out).mono ?_
    rintro e wA ⟨⟨rv, rfl, hrd⟩, hbA⟩
    have hcs := readF_cases s
    obtain ⟨p, hp⟩ : ∃ p, p = readF s := ⟨_, rfl⟩
    rw [← hp] at hrd hcs ⊢
    obtain ⟨r, er⟩ := p
    dsimp only at hrd hcs ⊢
    have HB := Lib.hid (HK.out.below.trans (hbA.mono HK.out.below.size))
    clear hbA c0 c1 HK hp
    have hat := hrd.at_
    obtain ⟨rs, rfl, hrg⟩ := hat
    obtain ⟨ra, rcap, rfl, -⟩ := hrg
    have HR := Lib.hid (BkBox.start hrd.at_)
    clear hrd
    rcases hcs with ⟨h1, rfl⟩ | ⟨rfl, h2, h3⟩
    · have hne : (er != 0) = true := by simp [h1]
      clear h1
      have d0 := blk_cell HR.out.box 0; have d1 := blk_cell HR.out.box 1
      dsimp only [List.length_nil] at d0 d1
      go_wp2_with fail
      refine (Awake_any _).mono ?_
      rintro e wB ⟨rfl, hbB⟩
      have HR := Lib.hid (HR.out.later hbB)
      clear hbB d0 d1
      go_wp2_with fail
      go_ret
      exact ⟨rfl, HB.out.trans (HR.out.below.mono HB.out.size)⟩
    · have hfew := same_few h2
      have HG := Lib.hid h2
      have hlen : ((writeF r).length : Int) ≤ (s.length : Int) := by omega
      have hlen2 : decide (((writeF r).length : Int) ≤ (s.length : Int)) = true := decide_eq_true hlen
      clear h2 h3
      have d0 := blk_cell HR.out.box 0; have d1 := blk_cell HR.out.box 1
      go_wp2_with fail
      refine (Write_good r _ _ HR.out.book HG.out).mono ?_
      rintro e wB ⟨rfl, hbB⟩
      have HR := Lib.hid (HR.out.later hbB)
      clear hbB d0 d1
      go_wp2_with fail
      refine (Read_any (writeF r) _ (by have := write_len HG.out; omega)).mono ?_
      rintro e wC ⟨⟨qv, rfl, hrd⟩, hbC⟩
      rw [write_read HG.out] at hrd ⊢
      dsimp only at hrd ⊢
      have hat := hrd.at_
      obtain ⟨qs, rfl, hqg⟩ := hat
      obtain ⟨qa, qcap, rfl, -⟩ := hqg
      have HQ := Lib.hid (BkBox.start hrd.at_)
      have HR := Lib.hid ((HR.out.later hbC).later ((Below.refl _ wC).alloc (Nat.le_refl _) (.cells #[.int .i64 r.signed, .slice qa r.gs.length qcap] 24)))
      clear hbC hrd
      have d0 := blk_cell HR.out.box 0; have d1 := blk_cell HR.out.box 1
      have q0 := blk_cell HQ.out.box 0; have q1 := blk_cell HQ.out.box 1
      go_wp2_with fail
      refine (Same_any r r _ _ _ HQ.out.book HR.out.book hfew.1 hfew.2).mono ?_
      rintro e wD ⟨hsm, hbD⟩
      have hsm' := hsm.self
      subst hsm'
      have HR := Lib.hid (HR.out.later hbD)
      clear hbD d0 d1 q0 q1 hsm HQ
      go_wp2_with fail
      refine (Awake_any _).mono ?_
      rintro e wE ⟨rfl, hbE⟩
      have HR := Lib.hid (HR.out.later hbE)
      clear hbE
      go_wp2_with fail
      go_ret
      exact ⟨rfl, HB.out.trans (HR.out.below.mono HB.out.size)⟩
end Go.Proofs.YtlfglbnbenaghaaGreatDoor

/- The reference's Write. -/
namespace Go.Proofs.YtlfglbnbenaghaaGreatDoor
set_option linter.unusedSimpArgs false
set_option linter.unusedVariables false
open Go Go.RowKit Go.Sort Go.BigFrame Go.Shelf
attribute [local go_sem] Oper.semAt_some putAll

set_option maxRecDepth 100000 in
set_option maxHeartbeats 400000 in
theorem refWrite_bad (b : Bk) (v : Value) (w : World) (hb : BookAt w.heap.size w v b) (he : errF b ≠ 0) :
    Calls Tryz.prog 8 #[v] w fun e w' => e = .returned (.tuple #[S [], .int .i64 (errF b)]) ∧ Below w.heap.size w w' := by
  have hne : (errF b != 0) = true := by simp [he]
  clear he
  obtain ⟨sv, rfl, hgs⟩ := hb
  have hb : BookAt w.heap.size w (.agg #[.int .i64 b.signed, sv]) b := ⟨sv, rfl, hgs⟩
  obtain ⟨a, cap, rfl, -⟩ := hgs
  have HK := Lib.hid (BkBox.start hb)
  clear hb
  have HVR : Hid (checkR b = .tuple #[.int .i64 (checkF b).1, .int .i64 (checkF b).2.1, .int .i64 (errF b)]) := Lib.hid rfl
  have c0 := blk_cell HK.out.box 0; have c1 := blk_cell HK.out.box 1
  go_enter Tryz.func8, Tryz.ntmps8
  go_wp2_with fail
  refine (refCheck_any b _ _ HK.out.book).mono ?_
  rintro e w1 ⟨rfl, hb1⟩
  rw [HVR.out]
  have HK := Lib.hid (HK.out.later hb1)
  clear hb1 c0 c1 HVR
  have c0 := blk_cell HK.out.box 0; have c1 := blk_cell HK.out.box 1
  go_wp2_with fail
  go_ret2
  exact ⟨rfl, HK.out.below⟩
set_option maxRecDepth 100000 in
set_option maxHeartbeats 400000 in
theorem refWrite_good (b : Bk) (v : Value) (w : World) (hb : BookAt w.heap.size w v b) (he : errF b = 0) :
    Calls Tryz.prog 8 #[v] w fun e w' => e = .returned (.tuple #[S (writeF b), .int .i64 0]) ∧ Below w.heap.size w w' := by
  have hne : (errF b != 0) = false := by simp [he]
  have HE := Lib.hid he
  clear he
  obtain ⟨sv, rfl, hgs⟩ := hb
  have hb : BookAt w.heap.size w (.agg #[.int .i64 b.signed, sv]) b := ⟨sv, rfl, hgs⟩
  obtain ⟨a, cap, rfl, -⟩ := hgs
  have HK := Lib.hid (BkBox.start hb)
  clear hb
  have HVR : Hid (checkR b = .tuple #[.int .i64 (checkF b).1, .int .i64 (checkF b).2.1, .int .i64 (errF b)]) := Lib.hid rfl
  have c0 := blk_cell HK.out.box 0; have c1 := blk_cell HK.out.box 1
  go_enter Tryz.func8, Tryz.ntmps8
  go_wp2_with fail
  refine (refCheck_any b _ _ HK.out.book).mono ?_
  rintro e w1 ⟨rfl, hb1⟩
  rw [HVR.out]
  have HK := Lib.hid (HK.out.later hb1)
  clear hb1 c0 c1 HVR
  have c0 := blk_cell HK.out.box 0; have c1 := blk_cell HK.out.box 1
  go_wp2_with fail
  refine (refText_any b _ _ HK.out.book HE.out).mono ?_
  rintro e w2 ⟨rfl, hb2⟩
  have HK := Lib.hid (HK.out.later hb2)
  clear hb2 c0 c1
  go_wp2_with fail
  go_ret2
  exact ⟨rfl, HK.out.below⟩
end Go.Proofs.YtlfglbnbenaghaaGreatDoor

/- The law QuireTexts: it returns true. -/
namespace Go.Proofs.YtlfglbnbenaghaaGreatDoor
set_option linter.unusedSimpArgs false
set_option linter.unusedVariables false
open Go Go.RowKit Go.Sort Go.BigFrame Go.Shelf
attribute [local go_sem] Oper.semAt_some putAll

theorem Write_both (b : Bk) : ∃ (t : Bs) (y : Int), (∀ (v : Value) (w : World), BookAt w.heap.size w v b → Calls Tryz.prog 7 #[v] w fun e w' => e = .returned (.tuple #[S t, .int .i64 y]) ∧ Below w.heap.size w w') ∧
    (∀ (v : Value) (w : World), BookAt w.heap.size w v b → Calls Tryz.prog 8 #[v] w fun e w' => e = .returned (.tuple #[S t, .int .i64 y]) ∧ Below w.heap.size w w') := by
  by_cases he : errF b = 0
  · exact ⟨writeF b, 0, fun v w hb => Write_good b v w hb he, fun v w hb => refWrite_good b v w hb he⟩
  · exact ⟨[], errF b, fun v w hb => Write_bad b v w hb he, fun v w hb => refWrite_bad b v w hb he⟩
theorem read_few (s : Bs) : (readF s).1.gs.length < 1000000 ∧ ∀ g ∈ (readF s).1.gs, g.chs.length < 1000000 := by
  rcases readF_cases s with ⟨-, h⟩ | ⟨-, h, -⟩
  · rw [h]
    exact ⟨by simp, fun g hg => by cases hg⟩
  · exact same_few h

set_option maxRecDepth 100000 in
set_option maxHeartbeats 1600000 in
theorem QuireTexts_any (b : Bk) (v : Value) (s : Bs) (w : World) (hb : BookAt w.heap.size w v b) (hs : s.length ≤ 9223372036854775807) :
    Calls Tryz.prog 3 #[v, S s] w fun e w' => e = .returned (.bool true) ∧ Below w.heap.size w w' := by
  obtain ⟨t, y, h1, h2⟩ := Write_both b
  have HW1 := Lib.hid h1
  have HW2 := Lib.hid h2
  obtain ⟨sv, rfl, hgs⟩ := hb
  have hb : BookAt w.heap.size w (.agg #[.int .i64 b.signed, sv]) b := ⟨sv, rfl, hgs⟩
  obtain ⟨a, cap, rfl, -⟩ := hgs
  have HK := Lib.hid (BkBox.start hb)
  have HS := Lib.hid hs
  have HFEW := Lib.hid (read_few s)
  clear hb hs h1 h2
  have c0 := blk_cell HK.out.box 0; have c1 := blk_cell HK.out.box 1
  go_enter Tryz.func3, Tryz.ntmps3
  go_wp2_with fail
  refine (HW1.out _ _ HK.out.book).mono ?_
  rintro e w1 ⟨rfl, hb1⟩
  have HK := Lib.hid (HK.out.later hb1)
  clear hb1 c0 c1
  have c0 := blk_cell HK.out.box 0; have c1 := blk_cell HK.out.box 1
  go_wp2_with fail
  refine (HW2.out _ _ HK.out.book).mono ?_
  rintro e w2 ⟨rfl, hb2⟩
  have HK := Lib.hid (HK.out.later hb2)
  clear hb2 c0 c1
  go_wp2_with fail
  refine (Read_any s _ HS.out).mono ?_
  rintro e w3 ⟨⟨rv, rfl, hrd⟩, hb3⟩
  obtain ⟨p, hp⟩ : ∃ p, p = readF s := ⟨_, rfl⟩
  have HP := Lib.hid hp
  rw [← hp] at hrd HFEW ⊢
  obtain ⟨r, er⟩ := p
  dsimp only at hrd HFEW ⊢
  have HB := Lib.hid (HK.out.below.trans (hb3.mono HK.out.below.size))
  clear hb3 HK hp
  have hat := hrd.at_
  obtain ⟨rs, rfl, hrg⟩ := hat
  obtain ⟨ra, rcap, rfl, -⟩ := hrg
  have HR := Lib.hid (BkBox.start hrd.at_)
  clear hrd
  go_wp2_with fail
  refine (refRead_any s _).mono ?_
  rintro e w4 ⟨⟨qv, rfl, hrd⟩, hb4⟩
  rw [← HP.out] at hrd ⊢
  dsimp only at hrd ⊢
  have hat := hrd
  obtain ⟨qs, rfl, hqg⟩ := hat
  obtain ⟨qa, qcap, rfl, -⟩ := hqg
  have HQ := Lib.hid (BkBox.start hrd)
  have HR := Lib.hid ((HR.out.later hb4).later ((Below.refl _ w4).alloc (Nat.le_refl _) (.cells #[.int .i64 r.signed, .slice qa r.gs.length qcap] 24)))
  clear hb4 hrd
  have d0 := blk_cell HR.out.box 0; have d1 := blk_cell HR.out.box 1
  have q0 := blk_cell HQ.out.box 0; have q1 := blk_cell HQ.out.box 1
  go_wp2_with fail
  refine (Same_any r r _ _ _ HR.out.book HQ.out.book HFEW.out.1 HFEW.out.2).mono ?_
  rintro e w5 ⟨hsm, hb5⟩
  have hsm' := hsm.self
  subst hsm'
  have HR := Lib.hid (HR.out.later hb5)
  clear hb5 d0 d1 q0 q1 hsm HQ
  go_wp2_with fail
  refine (Awake_any _).mono ?_
  rintro e w6 ⟨rfl, hb6⟩
  have HR := Lib.hid (HR.out.later hb6)
  clear hb6
  go_wp2_with fail
  go_ret
  exact ⟨rfl, HB.out.trans (HR.out.below.mono HB.out.size)⟩
end Go.Proofs.YtlfglbnbenaghaaGreatDoor
