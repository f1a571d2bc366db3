/- The parts Lo, Lq of the proof, joined. It holds without conditions of its own. -/
import Derived.Test.YtimdmgkegdlafaaGreatDoorSH39
import Derived.Test.YtimdmgkegdlafaaGreatDoorSH41
import Derived.Test.YtimdmgkegdlafaaGreatDoorSH30
import Derived.Test.YtimdmgkegdlafaaGreatDoorSH49
import Derived.Test.YtimdmgkegdlafaaGreatDoorSH45
/- The law QuireRound: it returns true. -/
namespace Go.Proofs.YtimdmgkegdlafaaGreatDoor
set_option linter.unusedSimpArgs false
set_option linter.unusedVariables false
open Go Go.RowKit Go.Sort Go.BigFrame Go.Shelf
attribute [local go_sem] Oper.semAt_some putAll

/-- What is read: nothing, or a book without an error, whose text is no longer. -/
theorem readF_cases (s : Bs) : ((readF s).2 ≠ 0 ∧ (readF s).1 = ⟨0, []⟩) ∨ ((readF s).2 = 0 ∧ errF (readF s).1 = 0 ∧ (writeF (readF s).1).length ≤ s.length) := by
  unfold readF
  by_cases h1 : 1000 < s.length
  · rw [if_pos h1]
    exact Or.inl ⟨by decide, rfl⟩
  · rw [if_neg h1]
    cases h : allF (bookF s) with
    | none => exact Or.inl ⟨by decide, rfl⟩
    | some b =>
      dsimp only
      by_cases he : errF b = 0
      · rw [if_pos he]
        refine Or.inr ⟨rfl, he, ?_⟩
        rcases write_short h with e | e
        · exact Nat.le_of_eq (congrArg List.length e.symm)
        · exact Nat.le_of_lt e
      · rw [if_neg he]
        exact Or.inl ⟨by decide, rfl⟩
theorem same_few {b : Bk} (he : errF b = 0) : b.gs.length < 1000000 ∧ ∀ g ∈ b.gs, g.chs.length < 1000000 :=
  ⟨by have := (errF_zero he).len; omega, fun g hg => by have := ((errF_zero he).gs g hg).few; omega⟩

set_option maxRecDepth 100000 in
set_option maxHeartbeats 1600000 in
theorem QuireRound_any (b : Bk) (v : Value) (s : Bs) (w : World) (hb : BookAt w.heap.size w v b) (hs : s.length ≤ 9223372036854775807) :
    Calls Tryz.prog 4 #[v, S s] w fun e w' => e = .returned (.bool true) ∧ Below w.heap.size w w' := by
  obtain ⟨sv, rfl, hgs⟩ := hb
  have hb : BookAt w.heap.size w (.agg #[.int .i64 b.signed, sv]) b := ⟨sv, rfl, hgs⟩
  obtain ⟨a, cap, rfl, -⟩ := hgs
  have HK := Lib.hid (BkBox.start hb)
  have HS := Lib.hid hs
  clear hb hs
  have c0 := blk_cell HK.out.box 0; have c1 := blk_cell HK.out.box 1
  go_enter Tryz.func4, Tryz.ntmps4
  by_cases he : errF b = 0
  · have heq : (errF b == 0) = true := by simp [he]
    have HE := Lib.hid he
    have hfew0 := Lib.hid (same_few he)
    have hl0 : ¬ (1000 : Int) < ((writeF b).length : Int) := by have := write_len he; omega
    have hl1 : decide ((1000 : Int) < ((writeF b).length : Int)) = false := decide_eq_false hl0
    clear he
    go_wp2_with fail
    refine (Write_good b _ _ HK.out.book HE.out).mono ?_
    rintro e w1 ⟨rfl, hb1⟩
    have HK := Lib.hid (HK.out.later hb1)
    clear hb1 c0 c1
    have c0 := blk_cell HK.out.box 0; have c1 := blk_cell HK.out.box 1
    go_wp2_with fail
    refine (valid_any b _ _ HK.out.book).mono ?_
    rintro e w2 ⟨rfl, hb2⟩
    rw [heq]
    have HK := Lib.hid (HK.out.later hb2)
    clear hb2 c0 c1 heq
    go_wp2_with fail
    refine (Read_any (writeF b) _ (by have := write_len HE.out; omega)).mono ?_
    rintro e w3 ⟨⟨qv, rfl, hrd⟩, hb3⟩
    rw [write_read HE.out] at hrd ⊢
    dsimp only at hrd ⊢
    have hat := hrd.at_
    obtain ⟨qs, rfl, hqg⟩ := hat
    obtain ⟨qa, qcap, rfl, -⟩ := hqg
    have HQ := Lib.hid (BkBox.start hrd.at_)
    have HK := Lib.hid ((HK.out.later hb3).later ((Below.refl _ w3).alloc (Nat.le_refl _) (.cells #[.int .i64 b.signed, .slice qa b.gs.length qcap] 24)))
    clear hb3 hrd
    have c0 := blk_cell HK.out.box 0; have c1 := blk_cell HK.out.box 1
    have q0 := blk_cell HQ.out.box 0; have q1 := blk_cell HQ.out.box 1
    go_wp2_with fail
    refine (Same_any b b _ _ _ HQ.out.book HK.out.book hfew0.out.1 hfew0.out.2).mono ?_
    rintro e w4 ⟨hsm, hb4⟩
    have hsm' := hsm.self
    subst hsm'
    have HK := Lib.hid (HK.out.later hb4)
    clear hb4 c0 c1 q0 q1 hsm HQ
    have c0 := blk_cell HK.out.box 0; have c1 := blk_cell HK.out.box 1
    go_wp2_with fail
    refine (Read_any s _ HS.out).mono ?_
    rintro e wA ⟨⟨rv, rfl, hrd⟩, hbA⟩
    have hcs := readF_cases s
    obtain ⟨p, hp⟩ : ∃ p, p = readF s := ⟨_, rfl⟩
    rw [← hp] at hrd hcs ⊢
    obtain ⟨r, er⟩ := p
    dsimp only at hrd hcs ⊢
    have HB := Lib.hid (HK.out.below.trans (hbA.mono HK.out.below.size))
    clear hbA c0 c1 HK hp
    have hat := hrd.at_
    obtain ⟨rs, rfl, hrg⟩ := hat
    obtain ⟨ra, rcap, rfl, -⟩ := hrg
    have HR := Lib.hid (BkBox.start hrd.at_)
    clear hrd
    rcases hcs with ⟨h1, rfl⟩ | ⟨rfl, h2, h3⟩
    · have hne : (er != 0) = true := by simp [h1]
      clear h1
      have d0 := blk_cell HR.out.box 0; have d1 := blk_cell HR.out.box 1
      dsimp only [List.length_nil] at d0 d1
      go_wp2_with fail
      refine (Awake_any _).mono ?_
      rintro e wB ⟨rfl, hbB⟩
      have HR := Lib.hid (HR.out.later hbB)
      clear hbB d0 d1
      go_wp2_with fail
      go_ret
      exact ⟨rfl, HB.out.trans (HR.out.below.mono HB.out.size)⟩
    · have hfew := same_few h2
      have HG := Lib.hid h2
      have hlen : ((writeF r).length : Int) ≤ (s.length : Int) := by omega
      have hlen2 : decide (((writeF r).length : Int) ≤ (s.length : Int)) = true := decide_eq_true hlen
      clear h2 h3
      have d0 := blk_cell HR.out.box 0; have d1 := blk_cell HR.out.box 1
      go_wp2_with fail
      refine (Write_good r _ _ HR.out.book HG.out).mono ?_
      rintro e wB ⟨rfl, hbB⟩
      have HR := Lib.hid (HR.out.later hbB)
      clear hbB d0 d1
      go_wp2_with fail
      refine (Read_any (writeF r) _ (by have := write_len HG.out; omega)).mono ?_
      rintro e wC ⟨⟨qv, rfl, hrd⟩, hbC⟩
      rw [write_read HG.out] at hrd ⊢
      dsimp only at hrd ⊢
      have hat := hrd.at_
      obtain ⟨qs, rfl, hqg⟩ := hat
      obtain ⟨qa, qcap, rfl, -⟩ := hqg
      have HQ := Lib.hid (BkBox.start hrd.at_)
      have HR := Lib.hid ((HR.out.later hbC).later ((Below.refl _ wC).alloc (Nat.le_refl _) (.cells #[.int .i64 r.signed, .slice qa r.gs.length qcap] 24)))
      clear hbC hrd
      have d0 := blk_cell HR.out.box 0; have d1 := blk_cell HR.out.box 1
      have q0 := blk_cell HQ.out.box 0; have q1 := blk_cell HQ.out.box 1
      go_wp2_with fail
      refine (Same_any r r _ _ _ HQ.out.book HR.out.book hfew.1 hfew.2).mono ?_
      rintro e wD ⟨hsm, hbD⟩
      have hsm' := hsm.self
      subst hsm'
      have HR := Lib.hid (HR.out.later hbD)
      clear hbD d0 d1 q0 q1 hsm HQ
      go_wp2_with fail
      refine (Awake_any _).mono ?_
      rintro e wE ⟨rfl, hbE⟩
      have HR := Lib.hid (HR.out.later hbE)
      clear hbE
      go_wp2_with fail
      go_ret
      exact ⟨rfl, HB.out.trans (HR.out.below.mono HB.out.size)⟩
  · have heq : (errF b == 0) = false := by simp [he]
    have HE := Lib.hid he
    clear he
    go_wp2_with fail
    refine (Write_bad b _ _ HK.out.book HE.out).mono ?_
    rintro e w1 ⟨rfl, hb1⟩
    have HK := Lib.hid (HK.out.later hb1)
    clear hb1 c0 c1
    have c0 := blk_cell HK.out.box 0; have c1 := blk_cell HK.out.box 1
    go_wp2_with fail
    refine (valid_any b _ _ HK.out.book).mono ?_
    rintro e w2 ⟨rfl, hb2⟩
    rw [heq]
    have HK := Lib.hid (HK.out.later hb2)
    clear hb2 c0 c1
    have c0 := blk_cell HK.out.box 0; have c1 := blk_cell HK.out.box 1
    go_wp2_with fail
    refine (Read_any s _ HS.out).mono ?_
    rintro e wA ⟨⟨rv, rfl, hrd⟩, hbA⟩
    have hcs := readF_cases s
    obtain ⟨p, hp⟩ : ∃ p, p = readF s := ⟨_, rfl⟩
    rw [← hp] at hrd hcs ⊢
    obtain ⟨r, er⟩ := p
    dsimp only at hrd hcs ⊢
    have HB := Lib.hid (HK.out.below.trans (hbA.mono HK.out.below.size))
    clear hbA c0 c1 HK hp
    have hat := hrd.at_
    obtain ⟨rs, rfl, hrg⟩ := hat
    obtain ⟨ra, rcap, rfl, -⟩ := hrg
    have HR := Lib.hid (BkBox.start hrd.at_)
    clear hrd
    rcases hcs with ⟨h1, rfl⟩ | ⟨rfl, h2, h3⟩
    · have hne : (er != 0) = true := by simp [h1]
      clear h1
      have d0 := blk_cell HR.out.box 0; have d1 := blk_cell HR.out.box 1
      dsimp only [List.length_nil] at d0 d1
      go_wp2_with fail
      refine (Awake_any _).mono ?_
      rintro e wB ⟨rfl, hbB⟩
      have HR := Lib.hid (HR.out.later hbB)
      clear hbB d0 d1
      go_wp2_with fail
      go_ret
      exact ⟨rfl, HB.out.trans (HR.out.below.mono HB.out.size)⟩
    · have hfew := same_few h2
      have HG := Lib.hid h2
      have hlen : ((writeF r).length : Int) ≤ (s.length : Int) := by omega
      have hlen2 : decide (((writeF r).length : Int) ≤ (s.length : Int)) = true := decide_eq_true hlen
      clear h2 h3
      have d0 := blk_cell HR.out.box 0; have d1 := blk_cell HR.out.box 1
      go_wp2_with fail
      refine (Write_good r _ _ HR.out.book HG.out).mono ?_
      rintro e wB ⟨rfl, hbB⟩
      have HR := Lib.hid (HR.out.later hbB)
      clear hbB d0 d1
      go_wp2_with fail
      refine (Read_any (writeF r) _ (by have := write_len HG.out; omega)).mono ?_
      rintro e wC ⟨⟨qv, rfl, hrd⟩, hbC⟩
      rw [write_read HG.out] at hrd ⊢
      dsimp only at hrd ⊢
      have hat := hrd.at_
      obtain ⟨qs, rfl, hqg⟩ := hat
      obtain ⟨qa, qcap, rfl, -⟩ := hqg
      have HQ := Lib.hid (BkBox.start hrd.at_)
      have HR := Lib.hid ((HR.out.later hbC).later ((Below.refl _ wC).alloc (Nat.le_refl _) (.cells #[.int .i64 r.signed, .slice qa r.gs.length qcap] 24)))
      clear hbC hrd
      have d0 := blk_cell HR.out.box 0; have d1 := blk_cell HR.out.box 1
      have q0 := blk_cell HQ.out.box 0; have q1 := blk_cell HQ.out.box 1
      go_wp2_with fail
      refine (Same_any r r _ _ _ HQ.out.book HR.out.book hfew.1 hfew.2).mono ?_
      rintro e wD ⟨hsm, hbD⟩
      have hsm' := hsm.self
      subst hsm'
      have HR := Lib.hid (HR.out.later hbD)
      clear hbD d0 d1 q0 q1 hsm HQ
      go_wp2_with fail
      refine (Awake_any _).mono ?_
      rintro e wE ⟨rfl, hbE⟩
      have HR := Lib.hid (HR.out.later hbE)
      clear hbE
      go_wp2_with fail
      go_ret
      exact ⟨rfl, HB.out.trans (HR.out.below.mono HB.out.size)⟩
end Go.Proofs.YtimdmgkegdlafaaGreatDoor

/- The law QuireShort: it returns true. -/
namespace Go.Proofs.YtimdmgkegdlafaaGreatDoor
set_option linter.unusedSimpArgs false
set_option linter.unusedVariables false
open Go Go.RowKit Go.Sort Go.BigFrame Go.Shelf
attribute [local go_sem] Oper.semAt_some putAll

set_option maxRecDepth 100000 in
set_option maxHeartbeats 1600000 in
theorem QuireShort_any (b : Bk) (v : Value) (xs : List Nat) (u : Value) (w : World) (hb : BookAt w.heap.size w v b) (hcap : ∀ s a n cap, v = .agg #[.int .i64 s, .slice a n cap] → n ≤ cap ∧ cap ≤ 9223372036854775807) (hu : U8sAt w.heap.size w u xs) :
    Calls Tryz.prog 5 #[v, u] w fun e w' => e = .returned (.bool true) ∧ Below w.heap.size w w' := by
  obtain ⟨sv, rfl, hgs⟩ := hb
  have hb : BookAt w.heap.size w (.agg #[.int .i64 b.signed, sv]) b := ⟨sv, rfl, hgs⟩
  obtain ⟨a, cap, rfl, -⟩ := hgs
  have HCAP := Lib.hid hcap
  have HK := Lib.hid (BkBox.start hb)
  have HX := Lib.hid hu
  obtain ⟨-, xa, xcap, rfl, -⟩ := hu
  clear hb hcap
  have c0 := blk_cell HK.out.box 0; have c1 := blk_cell HK.out.box 1
  by_cases he : errF b = 0
  · have heq : (errF b == 0) = true := by simp [he]
    have HE := Lib.hid he
    have HF0 := Lib.hid (same_few he)
    obtain ⟨T, hT⟩ : ∃ T, T = writeF b := ⟨_, rfl⟩
    have HT := Lib.hid hT
    have hTl : T.length ≤ 1000 := by rw [hT]; exact write_len he
    clear he hT
    go_enter Tryz.func5, Tryz.ntmps5
    go_wp2_with fail
    refine (Write_good b _ _ HK.out.book HE.out).mono ?_
    rintro e w1 ⟨rfl, hb1⟩
    rw [← HT.out]
    have HK := Lib.hid (HK.out.later hb1)
    clear hb1 c0 c1
    have c0 := blk_cell HK.out.box 0; have c1 := blk_cell HK.out.box 1
    go_wp2_with fail
    refine (valid_any b _ _ HK.out.book).mono ?_
    rintro e w2 ⟨rfl, hb2⟩
    rw [heq]
    have HK := Lib.hid (HK.out.later hb2)
    clear hb2 c0 c1 heq
    have c0 := blk_cell HK.out.box 0; have c1 := blk_cell HK.out.box 1
    go_wp2_with fail
    refine (Other_any b _ xs _ _ HK.out.book HCAP.out (HX.out.later HK.out.below HK.out.below.size) HE.out).mono ?_
    rintro e w3 ⟨⟨f, ys, hoth, hyl, rfl⟩, hb3⟩
    have HK := Lib.hid (HK.out.later hb3)
    obtain ⟨O, hO⟩ : ∃ O, O = itemsT ys ++ 36 :: dec b.signed := ⟨_, rfl⟩
    have hrd := hoth.read HE.out
    rw [← hO] at hrd ⊢
    have hOl : O.length ≤ 1400 := by rw [hO, List.length_append, List.length_cons]; have := dec_len b.signed; omega
    have HRD := Lib.hid hrd.1
    have HLT : Hid (O ≠ T → T.length < O.length) := Lib.hid (fun h => by
      rw [HT.out] at h ⊢
      exact hrd.2.resolve_left h)
    clear hb3 hO hrd hoth hyl c0 c1
    by_cases hl : O.length ≤ 1000
    · have hl1 : (O.length : Int) ≤ 1000 := by omega
      have hl2 : decide ((O.length : Int) ≤ 1000) = true := decide_eq_true hl1
      go_wp2_with fail
      refine (Read_any O _ (by omega)).mono ?_
      rintro e w4 ⟨⟨qv, rfl, hrd⟩, hb4⟩
      rw [HRD.out hl] at hrd ⊢
      dsimp only at hrd ⊢
      have hat := hrd.at_
      obtain ⟨qs, rfl, hqg⟩ := hat
      obtain ⟨qa, qcap, rfl, -⟩ := hqg
      have HQ := Lib.hid (BkBox.start hrd.at_)
      have HK := Lib.hid ((HK.out.later hb4).later ((Below.refl _ w4).alloc (Nat.le_refl _) (.cells #[.int .i64 b.signed, .slice qa b.gs.length qcap] 24)))
      clear hb4 hrd
      have c0 := blk_cell HK.out.box 0; have c1 := blk_cell HK.out.box 1
      have q0 := blk_cell HQ.out.box 0; have q1 := blk_cell HQ.out.box 1
      go_wp2_with fail
      refine (Same_any b b _ _ _ HQ.out.book HK.out.book HF0.out.1 HF0.out.2).mono ?_
      rintro e w5 ⟨hsm, hb5⟩
      have hsm' := hsm.self
      subst hsm'
      have HK := Lib.hid (HK.out.later hb5)
      clear hb5 c0 c1 q0 q1 hsm HQ
      by_cases hO : O = T
      · have HO2 := Lib.hid hO
        subst hO
        go_wp2_with fail
        refine (Awake_any _).mono ?_
        rintro e wE ⟨rfl, hbE⟩
        have HK := Lib.hid (HK.out.later hbE)
        clear hbE
        go_wp2_with fail
        go_ret
        exact ⟨rfl, HK.out.below⟩
      · have eb := bytes_no hO
        have eb2 : (O == T) = false := by simp [hO]
        have hlt : T.length < O.length := HLT.out hO
        have hlt2 : (T.length : Int) < (O.length : Int) := by omega
        have hlt3 : decide ((T.length : Int) < (O.length : Int)) = true := decide_eq_true hlt2
        clear hO
        go_wp2_with fail
        refine (Awake_any _).mono ?_
        rintro e wE ⟨rfl, hbE⟩
        have HK := Lib.hid (HK.out.later hbE)
        clear hbE
        go_wp2_with fail
        go_ret
        exact ⟨rfl, HK.out.below⟩
    · have hl1 : ¬ (O.length : Int) ≤ 1000 := by omega
      have hl2 : decide ((O.length : Int) ≤ 1000) = false := decide_eq_false hl1
      by_cases hO : O = T
      · have HO2 := Lib.hid hO
        subst hO
        go_wp2_with fail
        refine (Awake_any _).mono ?_
        rintro e wE ⟨rfl, hbE⟩
        have HK := Lib.hid (HK.out.later hbE)
        clear hbE
        go_wp2_with fail
        go_ret
        exact ⟨rfl, HK.out.below⟩
      · have eb := bytes_no hO
        have eb2 : (O == T) = false := by simp [hO]
        have hlt : T.length < O.length := HLT.out hO
        have hlt2 : (T.length : Int) < (O.length : Int) := by omega
        have hlt3 : decide ((T.length : Int) < (O.length : Int)) = true := decide_eq_true hlt2
        clear hO
        go_wp2_with fail
        refine (Awake_any _).mono ?_
        rintro e wE ⟨rfl, hbE⟩
        have HK := Lib.hid (HK.out.later hbE)
        clear hbE
        go_wp2_with fail
        go_ret
        exact ⟨rfl, HK.out.below⟩
  · have heq : (errF b == 0) = false := by simp [he]
    have hne : (errF b != 0) = true := by simp [he]
    have HE := Lib.hid he
    clear he
    go_enter Tryz.func5, Tryz.ntmps5
    go_wp2_with fail
    refine (Write_bad b _ _ HK.out.book HE.out).mono ?_
    rintro e w1 ⟨rfl, hb1⟩
    have HK := Lib.hid (HK.out.later hb1)
    clear hb1 c0 c1
    have c0 := blk_cell HK.out.box 0; have c1 := blk_cell HK.out.box 1
    go_wp2_with fail
    refine (valid_any b _ _ HK.out.book).mono ?_
    rintro e w2 ⟨rfl, hb2⟩
    rw [heq]
    have HK := Lib.hid (HK.out.later hb2)
    clear hb2 c0 c1 heq
    go_wp2_with fail
    refine (Awake_any _).mono ?_
    rintro e wE ⟨rfl, hbE⟩
    have HK := Lib.hid (HK.out.later hbE)
    clear hbE
    go_wp2_with fail
    go_ret
    exact ⟨rfl, HK.out.below⟩
end Go.Proofs.YtimdmgkegdlafaaGreatDoor
