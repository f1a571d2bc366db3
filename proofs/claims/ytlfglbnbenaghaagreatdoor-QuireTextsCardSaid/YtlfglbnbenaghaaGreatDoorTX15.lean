/- The parts Ce, Cf, Pc, Lx, Ck, Cm, Cn of the proof, joined. It holds without conditions of its own. -/
import Derived.Test.YtlfglbnbenaghaaGreatDoorTX14
import Derived.Test.YtlfglbnbenaghaaGreatDoorTX10
import Derived.Test.YtlfglbnbenaghaaGreatDoorTX6
import Derived.Test.YtlfglbnbenaghaaGreatDoorTX1
import Derived.Test.YtlfglbnbenaghaaGreatDoorTX7
import Derived.BigRegion
/- The reference's error of a gathering. -/
namespace Go.Proofs.YtlfglbnbenaghaaGreatDoor
set_option linter.unusedSimpArgs false
set_option linter.unusedVariables false
open Go Go.RowKit Go.Sort Go.BigFrame

set_option maxRecDepth 100000 in
set_option maxHeartbeats 400000 in
theorem refGathering_sig (s : Int) (gs : List Gth) (a : Option Addr) (n cap : Nat) (i : Nat) (g : Gth) (w : World) (hgs : GsAt w.heap.size w (.slice a n cap) gs) (hi : gs[i]? = some g) (hn : gs.length ≤ 100) (hsg : sigB g.round g.letter = false) :
    Calls Tryz.prog 53 #[.agg #[.int .i64 s, .slice a n cap], .int .i64 i] w fun e w' => e = .returned (.int .i64 7) ∧ Below w.heap.size w w' := by
  obtain ⟨a', cap', hav, hcell⟩ := hgs
  simp only [Value.slice.injEq] at hav
  obtain ⟨rfl, rfl, rfl⟩ := hav
  have hlt := (List.getElem?_eq_some_iff.1 hi).1
  obtain ⟨b, off, rfl, hb, hcell⟩ := hcell (fun e => by rw [e] at hlt; simp at hlt)
  have HC := Lib.hid hcell
  obtain ⟨cv, hch, q0, q1, q2, q3⟩ := hcell i _ hi
  have HCH := Lib.hid hch
  obtain ⟨ca, ccap, rfl, -⟩ := hch
  have HG := Lib.hid hi
  have d2 : ((i : Int) < gs.length) := by omega
  clear hcell hi
  try clear hcell
  go_enter Tryz.func53, Tryz.ntmps53
  go_wp2_with fail
  refine (refSignature_any g.round g.letter _).mono ?_
  rintro e w1 ⟨rfl, hb1⟩
  rw [hsg]
  have hb0 : Below w.heap.size w w1 := Below.trans (by exact (by repeat (first | (refine Below.setCell ?_ ?_ _; rotate_left; · (first | omega | (simp; done) | (simp; omega) | fail)) | (refine Below.alloc ?_ ?_ _; rotate_left; · (first | omega | (simp; done) | (simp; omega) | fail)) | refine Below.drew ?_ | exact Below.refl _ _ | fail))) (hb1.mono (by simp; try omega))
  have b1 : w1.cell? ⟨w.heap.size, 1, none⟩ = some (.slice (some ⟨b, off, none⟩) gs.length cap) := cell_later' hb1 (by simp [World.cell?_alloc_at, World.cell?_alloc_past])
  have k0 : w1.cell? ⟨w.heap.size + 1, 0, none⟩ = some (.int .i64 g.round) := cell_later' hb1 (by simp [World.cell?_alloc_at])
  have k1 : w1.cell? ⟨w.heap.size + 1, 1, none⟩ = some (.int .i64 g.letter) := cell_later' hb1 (by simp [World.cell?_alloc_at])
  have k2 : w1.cell? ⟨w.heap.size + 1, 2, none⟩ = some (.int .i64 g.leaves) := cell_later' hb1 (by simp [World.cell?_alloc_at])
  have k3 : w1.cell? ⟨w.heap.size + 1, 3, none⟩ = some (.slice ca g.chs.length ccap) := cell_later' hb1 (by simp [World.cell?_alloc_at])
  clear hb1 q0 q1 q2 q3
  go_wp2_with fail
  go_ret
  exact ⟨rfl, hb0⟩

theorem any_false {before : List Gth} {g : Gth} (h : ∀ x ∈ before, ¬ (x.round = g.round ∧ x.letter = g.letter)) : before.any (fun h => decide (h.round = g.round ∧ h.letter = g.letter)) = false := by
  rw [List.any_eq_false]
  intro x hx
  simpa using h x hx
theorem any_true {gs : List Gth} {g x : Gth} {i k : Nat} (hx : gs[k]? = some x) (hk : k < i) (h1 : x.round = g.round) (h2 : x.letter = g.letter) : (gs.take i).any (fun h => decide (h.round = g.round ∧ h.letter = g.letter)) = true := by
  rw [List.any_eq_true]
  refine ⟨x, ?_, by simp [h1, h2]⟩
  have : (gs.take i)[k]? = some x := by rw [List.getElem?_take, if_pos hk]; exact hx
  exact List.mem_of_getElem? this
theorem ranksMax_step {gs : List Gth} {x : Gth} {k : Nat} (hx : gs[k]? = some x) : ranksMax (gs.take (k + 1)) = max (ranksMax (gs.take k)) (rankG x) := by
  rw [List.take_add_one, hx]
  exact ranksMax_snoc _ _
theorem max_ite (a b : Int) : (if a < b then b else a) = max a b := by split <;> omega
theorem rankG_is (g : Gth) : rankG g = rankF g.round g.letter := rfl
theorem rankG_range {g : Gth} (h : sigB g.round g.letter = true) : -1 ≤ rankG g ∧ rankG g ≤ 68 := by
  have := sigB_is h
  unfold rankG
  split <;> omega

set_option maxRecDepth 100000 in
set_option maxHeartbeats 1600000 in
theorem refGathering_rest (s : Int) (gs : List Gth) (a : Option Addr) (n cap : Nat) (i : Nat) (g : Gth) (w : World) (hgs : GsAt w.heap.size w (.slice a n cap) gs) (hi : gs[i]? = some g) (hn : gs.length ≤ 100) (hsg : sigB g.round g.letter = true) (hs : ∀ x ∈ gs.take i, sigB x.round x.letter = true) :
    Calls Tryz.prog 53 #[.agg #[.int .i64 s, .slice a n cap], .int .i64 i] w fun e w' => e = .returned (.int .i64 (refGth (gs.take i) g)) ∧ Below w.heap.size w w' := by
  have HS := Lib.hid hs
  clear hs
  obtain ⟨a', cap', hav, hcell⟩ := hgs
  simp only [Value.slice.injEq] at hav
  obtain ⟨rfl, rfl, rfl⟩ := hav
  have hlt := (List.getElem?_eq_some_iff.1 hi).1
  obtain ⟨b, off, rfl, hb, hcell⟩ := hcell (fun e => by rw [e] at hlt; simp at hlt)
  have HC := Lib.hid hcell
  obtain ⟨cv, hch, q0, q1, q2, q3⟩ := hcell i _ hi
  have HCH := Lib.hid hch
  obtain ⟨ca, ccap, rfl, -⟩ := hch
  have HG := Lib.hid hi
  have d2 : ((i : Int) < gs.length) := by omega
  clear hcell hi
  try clear hcell
  go_enter Tryz.func53, Tryz.ntmps53
  go_wp2_with fail
  refine (refSignature_any g.round g.letter _).mono ?_
  rintro e w1 ⟨rfl, hb1⟩
  rw [hsg]
  have hb0 : Below w.heap.size w w1 := Below.trans (by exact (by repeat (first | (refine Below.setCell ?_ ?_ _; rotate_left; · (first | omega | (simp; done) | (simp; omega) | fail)) | (refine Below.alloc ?_ ?_ _; rotate_left; · (first | omega | (simp; done) | (simp; omega) | fail)) | refine Below.drew ?_ | exact Below.refl _ _ | fail))) (hb1.mono (by simp; try omega))
  have b1 : w1.cell? ⟨w.heap.size, 1, none⟩ = some (.slice (some ⟨b, off, none⟩) gs.length cap) := cell_later' hb1 (by simp [World.cell?_alloc_at, World.cell?_alloc_past])
  have k0 : w1.cell? ⟨w.heap.size + 1, 0, none⟩ = some (.int .i64 g.round) := cell_later' hb1 (by simp [World.cell?_alloc_at])
  have k1 : w1.cell? ⟨w.heap.size + 1, 1, none⟩ = some (.int .i64 g.letter) := cell_later' hb1 (by simp [World.cell?_alloc_at])
  have k2 : w1.cell? ⟨w.heap.size + 1, 2, none⟩ = some (.int .i64 g.leaves) := cell_later' hb1 (by simp [World.cell?_alloc_at])
  have k3 : w1.cell? ⟨w.heap.size + 1, 3, none⟩ = some (.slice ca g.chs.length ccap) := cell_later' hb1 (by simp [World.cell?_alloc_at])
  clear hb1 q0 q1 q2 q3
  have HSG := Lib.hid hsg
  clear hsg
  go_wp2_with fail
  go_loopw [6, 7] (fun l q wr => ∃ (k : Nat), k ≤ i ∧ q = .int .i64 k ∧ l = .int .i64 (ranksMax (gs.take k)) ∧ Hid (∀ x ∈ gs.take k, ¬ (x.round = g.round ∧ x.letter = g.letter)) ∧ Hid (-1 ≤ ranksMax (gs.take k) ∧ ranksMax (gs.take k) ≤ 68) ∧ Below w1.heap.size w1 wr) (fun l q _ => i - (intOf q).toNat)
  case atStart => exact ⟨0, by omega, rfl, rfl, (fun x h => by simp at h), Lib.hid (by simp [ranksMax]), Below.refl _ _⟩
  case round =>
    obtain ⟨k, hk, rfl, rfl, hT, hR, hbr⟩ := hrel
    have k0 := cell_later' hbr k0
    have k1 := cell_later' hbr k1
    have k2 := cell_later' hbr k2
    have k3 := cell_later' hbr k3
    have b1 := cell_later' hbr b1
    have hb0 := hb0.trans (hbr.mono hb0.size)
    by_cases hlt : k < i
    · obtain ⟨x, hx⟩ : ∃ x, gs[k]? = some x := ⟨_, List.getElem?_eq_getElem (by omega)⟩
      obtain ⟨xv, -, x0, x1, x2, x3⟩ := HC.out k x hx
      have hxs : sigB x.round x.letter = true := HS.out x (by
        refine List.mem_of_getElem? (i := k) ?_
        rw [List.getElem?_take, if_pos hlt]; exact hx)
      have HX := Lib.hid hx
      have HXS := Lib.hid hxs
      have x0 := cell_later' hb0 x0
      have x1 := cell_later' hb0 x1
      have d3 : ((k : Int) < gs.length) := by omega
      clear hx hxs x2 x3
      by_cases e1 : x.round = g.round
      · by_cases e2 : x.letter = g.letter
        · rw [e1] at x0
          rw [e2] at x1
          have HF : Hid (refGth (gs.take i) g = 5) := by
            show refGth _ _ = 5
            unfold refGth
            rw [if_neg (by rw [HSG.out]; decide), if_pos (any_true HX.out hlt e1 e2)]
          clear e1 e2
          go_wp2_with fail
          go_quiet (fail)
          go_wp2_with fail
          go_ret
          exact ⟨by rw [HF.out]; rfl, bdrewN hb0 _⟩
        · have HNE : Hid (¬ (x.round = g.round ∧ x.letter = g.letter)) := Lib.hid (fun h => e2 h.2)
          have HXR : Hid (sigB g.round x.letter = true) := (by
            have h := HXS.out
            rw [e1] at h
            exact h)
          have HXG : Hid (max (ranksMax (gs.take k)) (rankF g.round x.letter) = ranksMax (gs.take (k + 1))) := Lib.hid (by rw [ranksMax_step HX.out, rankG_is x, e1])
          go_wp2_with fail
          go_quiet (fail)
          have hbd : Below wr.heap.size wr (wr.drewN nq) := bdrewN (Below.refl _ _) _
          have y0 := cell_later' hbd x0
          have y1 := cell_later' hbd x1
          have c1 := cell_later' hbd b1
          have HB2 := Lib.hid (hbr.trans (hbd.mono hbr.size))
          clear hbd x0 x1 k0 k1 k2 k3 b1
          revert HB2
          generalize wr.drewN nq = w2 at *
          intro HB2
          go_wp2_with fail
          refine (refRank_any g.round x.letter _ HXR.out).mono ?_
          rintro e w3 ⟨rfl, hb3⟩
          have HB3 := Lib.hid (HB2.out.trans (hb3.mono HB2.out.size))
          clear hb3 c1 y0 y1
          go_wp2_with fail
          go_roundw
          case rel => exact ⟨k + 1, by omega, by go_num, (by rw [← HXG.out] <;> first | rfl | rw [max_ite]), Lib.hid (by
            intro z hz
            rw [List.take_add_one, HX.out] at hz
            rcases List.mem_append.1 hz with hz | hz
            · exact hT.out z hz
            · simp at hz; rw [hz]; exact HNE.out), Lib.hid (by have := rankG_range HXS.out; have := hR.out; rw [ranksMax_step HX.out]; omega), HB3.out⟩
          case measure => simp [intOf]; omega
      · have HNE : Hid (¬ (x.round = g.round ∧ x.letter = g.letter)) := Lib.hid (fun h => e1 h.1)
        have HXR := HXS
        have HXG : Hid (max (ranksMax (gs.take k)) (rankF x.round x.letter) = ranksMax (gs.take (k + 1))) := Lib.hid (by rw [ranksMax_step HX.out, rankG_is x])
        go_wp2_with fail
        go_quiet (fail)
        have hbd : Below wr.heap.size wr (wr.drewN nq) := bdrewN (Below.refl _ _) _
        have y0 := cell_later' hbd x0
        have y1 := cell_later' hbd x1
        have c1 := cell_later' hbd b1
        have HB2 := Lib.hid (hbr.trans (hbd.mono hbr.size))
        clear hbd x0 x1 k0 k1 k2 k3 b1
        revert HB2
        generalize wr.drewN nq = w2 at *
        intro HB2
        go_wp2_with fail
        refine (refRank_any x.round x.letter _ HXR.out).mono ?_
        rintro e w3 ⟨rfl, hb3⟩
        have HB3 := Lib.hid (HB2.out.trans (hb3.mono HB2.out.size))
        clear hb3 c1 y0 y1
        go_wp2_with fail
        go_roundw
        case rel => exact ⟨k + 1, by omega, by go_num, (by rw [← HXG.out] <;> first | rfl | rw [max_ite]), Lib.hid (by
          intro z hz
          rw [List.take_add_one, HX.out] at hz
          rcases List.mem_append.1 hz with hz | hz
          · exact hT.out z hz
          · simp at hz; rw [hz]; exact HNE.out), Lib.hid (by have := rankG_range HXS.out; have := hR.out; rw [ranksMax_step HX.out]; omega), HB3.out⟩
        case measure => simp [intOf]; omega
    · have hki : k = i := by omega
      subst hki
      have HF : Hid (refGth (gs.take k) g = if 0 ≤ rankF g.round g.letter ∧ rankF g.round g.letter < ranksMax (gs.take k) then 2 else if g.leaves ≠ 1 ∧ (inB 2 12 g.leaves = false ∨ g.leaves % 2 = 1) then 7 else if 4 < g.chs.length then 3 else (chsErr g.leaves none 0 g.chs).2) := Lib.hid (by
        unfold refGth
        rw [if_neg (by rw [HSG.out]; decide), if_neg (by rw [any_false hT.out]; decide), rankG_is])
      clear hlt hk hT HC hR b1
      obtain ⟨M, hM⟩ : ∃ M, M = ranksMax (gs.take k) := ⟨_, rfl⟩
      rw [← hM] at HF ⊢
      clear hM
      go_wp2_with fail
      refine (refRank_any g.round g.letter _ HSG.out).mono ?_
      rintro e w3 ⟨rfl, hb3⟩
      have k0 := cell_later' hb3 k0
      have k1 := cell_later' hb3 k1
      have k2 := cell_later' hb3 k2
      have k3 := cell_later' hb3 k3
      have HB3 := Lib.hid (hb0.trans (hb3.mono hb0.size))
      clear hb3 hb0 hbr
      obtain ⟨R, hR⟩ : ∃ R, R = rankF g.round g.letter := ⟨_, rfl⟩
      rw [← hR] at HF ⊢
      have HRR := Lib.hid hR
      clear hR
      by_cases h0 : 0 ≤ R
      · have e0 : decide (0 ≤ R) = true := decide_eq_true h0
        go_wp2_with fail
        refine (refRank_any g.round g.letter _ HSG.out).mono ?_
        rintro e w4 ⟨rfl, hb4⟩
        have k2 := cell_later' hb4 k2
        have k3 := cell_later' hb4 k3
        have HB4 := Lib.hid (HB3.out.trans (hb4.mono HB3.out.size))
        have k0 := cell_later' hb4 k0
        have k1 := cell_later' hb4 k1
        clear hb4 HB3
        rw [← HRR.out]
        by_cases h1 : R < M
        · have e1 : decide (R < M) = true := decide_eq_true h1
          have HV := Lib.hid (HF.out.trans (if_pos ⟨h0, h1⟩))
          clear h0 h1 HF
          go_wp2_with fail
          go_ret
          exact ⟨by rw [HV.out]; rfl, HB4.out⟩
        · have e1 : decide (R < M) = false := decide_eq_false h1
          have HV := Lib.hid (HF.out.trans (if_neg (fun h => h1 h.2)))
          clear h0 h1 HF
          by_cases hl : g.leaves = 1
          · have e2 : (g.leaves != 1) = false := by simp [hl]
            have HV2 := Lib.hid (HV.out.trans (if_neg (fun h => h.1 hl)))
            clear HV hl
            by_cases h4 : 4 < g.chs.length
            · have e4 : decide ((4 : Int) < (g.chs.length : Int)) = true := decide_eq_true (by omega)
              have HV3 := Lib.hid (HV2.out.trans (if_pos h4))
              clear h4 HV2
              go_wp2_with fail
              go_ret
              exact ⟨by rw [HV3.out]; rfl, HB4.out⟩
            · have e4 : decide ((4 : Int) < (g.chs.length : Int)) = false := decide_eq_false (by omega)
              have HV3 := Lib.hid (HV2.out.trans (if_neg h4))
              clear HV2
              go_wp2_with fail
              go_loopw [8] (fun q wr => ∃ (j : Nat), j ≤ g.chs.length ∧ q = .int .i64 j ∧ Hid (chsErr g.leaves none 0 g.chs = chsErr g.leaves (prevAt g.chs j) j (g.chs.drop j)) ∧ Below w4.heap.size w4 wr) (fun q _ => g.chs.length - (intOf q).toNat)
              case atStart => exact ⟨0, by omega, rfl, rfl, Below.refl _ _⟩
              case round =>
                obtain ⟨j, hj, rfl, hT, hbr⟩ := hrel
                have k0 := cell_later' hbr k0
                have k1 := cell_later' hbr k1
                have k2 := cell_later' hbr k2
                have k3 := cell_later' hbr k3
                have hb0 := HB4.out.trans (hbr.mono HB4.out.size)
                by_cases hlt : j < g.chs.length
                · obtain ⟨c, hc⟩ : ∃ c, g.chs[j]? = some c := ⟨_, List.getElem?_eq_getElem hlt⟩
                  have HCJ := Lib.hid hc
                  have hca := refChange_any g ca _ ccap j c (prevAt g.chs j) _ ((HCH.out.below hb0 (Nat.le_refl _)).mono hb0.size) hc (by omega) (by
                    rcases j with _ | j
                    · exact Or.inl ⟨rfl, rfl⟩
                    · obtain ⟨p, hp⟩ : ∃ p, g.chs[j]? = some p := ⟨_, List.getElem?_eq_getElem (by omega)⟩
                      exact Or.inr ⟨j, p, rfl, hp, by simp [prevAt, hp]⟩)
                  have HCA := Lib.hid hca
                  clear hca hc
                  go_wp2_with fail
                  refine HCA.out.mono ?_
                  rintro e w7 ⟨rfl, hb7⟩
                  have HB7 := Lib.hid (hbr.trans (hb7.mono hbr.size))
                  have HB8 := Lib.hid (hb0.trans (hb7.mono hb0.size))
                  clear hb7 HCA k0 k1 k2 k3 hb0 hbr
                  obtain ⟨er, her⟩ : ∃ er, er = refCh g.leaves (prevAt g.chs j) c := ⟨_, rfl⟩
                  rw [← her]
                  have her2 : er = chErr g.leaves (prevAt g.chs j) c := her.trans (refCh_is _ _ _)
                  have HER := Lib.hid her2
                  clear her her2
                  by_cases h0 : er = 0
                  · subst h0
                    go_wp2_with fail
                    go_roundw
                    case rel => exact ⟨j + 1, by omega, by go_num, hT.out.trans (chsErr_step HCJ.out HER.out.symm), HB7.out⟩
                    case measure => simp [intOf]; omega
                  · have e0 : (er != 0) = true := by simp [h0]
                    have HV4 := Lib.hid (HV3.out.trans (congrArg Prod.snd (hT.out.trans (chsErr_stop HCJ.out (fun h => h0 (HER.out.trans h))))))
                    clear h0 HV3 hT
                    go_wp2_with fail
                    go_ret
                    exact ⟨by rw [HV4.out, ← HER.out]; rfl, HB8.out⟩
                · have HV4 := Lib.hid (HV3.out.trans (congrArg Prod.snd (hT.out.trans (by rw [List.drop_of_length_le (by omega)]))))
                  clear HV3 hT
                  go_wp2_with fail
                  go_ret
                  exact ⟨by rw [HV4.out]; rfl, hb0⟩
          · have e2 : (g.leaves != 1) = true := by simp [hl]
            go_wp2_with fail
            refine (refIn_any g.leaves 2 12 _).mono ?_
            rintro e w6 ⟨rfl, hb6⟩
            have k0 := cell_later' hb6 k0
            have k1 := cell_later' hb6 k1
            have k2 := cell_later' hb6 k2
            have k3 := cell_later' hb6 k3
            have HB6 := Lib.hid (HB4.out.trans (hb6.mono HB4.out.size))
            clear hb6 HB4
            cases hin : inB 2 12 g.leaves with
            | false =>
              have HV2 := Lib.hid (HV.out.trans (if_pos ⟨hl, Or.inl hin⟩))
              clear HV hl hin
              go_wp2_with fail
              go_ret
              exact ⟨by rw [HV2.out]; rfl, HB6.out⟩
            | true =>
              have hrange : 2 ≤ g.leaves ∧ g.leaves ≤ 12 := by simpa [inB] using hin
              by_cases ho : g.leaves % 2 = 1
              · have e3 : (g.leaves.tmod 2 == 1) = true := by rw [beq_iff_eq, Int.tmod_eq_emod_of_nonneg (by omega)]; exact ho
                have HV2 := Lib.hid (HV.out.trans (if_pos ⟨hl, Or.inr ho⟩))
                clear HV hl hin hrange ho
                go_wp2_with fail
                go_ret
                exact ⟨by rw [HV2.out]; rfl, HB6.out⟩
              · have e3 : (g.leaves.tmod 2 == 1) = false := by rw [beq_eq_false_iff_ne, Ne, Int.tmod_eq_emod_of_nonneg (by omega)]; exact ho
                have HV2 := Lib.hid (HV.out.trans (if_neg (fun h => h.2.elim (fun f => by rw [hin] at f; cases f) ho)))
                have HB4 := HB6
                clear HV hl hin hrange ho HB6
                by_cases h4 : 4 < g.chs.length
                · have e4 : decide ((4 : Int) < (g.chs.length : Int)) = true := decide_eq_true (by omega)
                  have HV3 := Lib.hid (HV2.out.trans (if_pos h4))
                  clear h4 HV2
                  go_wp2_with fail
                  go_ret
                  exact ⟨by rw [HV3.out]; rfl, HB4.out⟩
                · have e4 : decide ((4 : Int) < (g.chs.length : Int)) = false := decide_eq_false (by omega)
                  have HV3 := Lib.hid (HV2.out.trans (if_neg h4))
                  clear HV2
                  go_wp2_with fail
                  go_loopw [8] (fun q wr => ∃ (j : Nat), j ≤ g.chs.length ∧ q = .int .i64 j ∧ Hid (chsErr g.leaves none 0 g.chs = chsErr g.leaves (prevAt g.chs j) j (g.chs.drop j)) ∧ Below w6.heap.size w6 wr) (fun q _ => g.chs.length - (intOf q).toNat)
                  case atStart => exact ⟨0, by omega, rfl, rfl, Below.refl _ _⟩
                  case round =>
                    obtain ⟨j, hj, rfl, hT, hbr⟩ := hrel
                    have k0 := cell_later' hbr k0
                    have k1 := cell_later' hbr k1
                    have k2 := cell_later' hbr k2
                    have k3 := cell_later' hbr k3
                    have hb0 := HB4.out.trans (hbr.mono HB4.out.size)
                    by_cases hlt : j < g.chs.length
                    · obtain ⟨c, hc⟩ : ∃ c, g.chs[j]? = some c := ⟨_, List.getElem?_eq_getElem hlt⟩
                      have HCJ := Lib.hid hc
                      have hca := refChange_any g ca _ ccap j c (prevAt g.chs j) _ ((HCH.out.below hb0 (Nat.le_refl _)).mono hb0.size) hc (by omega) (by
                        rcases j with _ | j
                        · exact Or.inl ⟨rfl, rfl⟩
                        · obtain ⟨p, hp⟩ : ∃ p, g.chs[j]? = some p := ⟨_, List.getElem?_eq_getElem (by omega)⟩
                          exact Or.inr ⟨j, p, rfl, hp, by simp [prevAt, hp]⟩)
                      have HCA := Lib.hid hca
                      clear hca hc
                      go_wp2_with fail
                      refine HCA.out.mono ?_
                      rintro e w7 ⟨rfl, hb7⟩
                      have HB7 := Lib.hid (hbr.trans (hb7.mono hbr.size))
                      have HB8 := Lib.hid (hb0.trans (hb7.mono hb0.size))
                      clear hb7 HCA k0 k1 k2 k3 hb0 hbr
                      obtain ⟨er, her⟩ : ∃ er, er = refCh g.leaves (prevAt g.chs j) c := ⟨_, rfl⟩
                      rw [← her]
                      have her2 : er = chErr g.leaves (prevAt g.chs j) c := her.trans (refCh_is _ _ _)
                      have HER := Lib.hid her2
                      clear her her2
                      by_cases h0 : er = 0
                      · subst h0
                        go_wp2_with fail
                        go_roundw
                        case rel => exact ⟨j + 1, by omega, by go_num, hT.out.trans (chsErr_step HCJ.out HER.out.symm), HB7.out⟩
                        case measure => simp [intOf]; omega
                      · have e0 : (er != 0) = true := by simp [h0]
                        have HV4 := Lib.hid (HV3.out.trans (congrArg Prod.snd (hT.out.trans (chsErr_stop HCJ.out (fun h => h0 (HER.out.trans h))))))
                        clear h0 HV3 hT
                        go_wp2_with fail
                        go_ret
                        exact ⟨by rw [HV4.out, ← HER.out]; rfl, HB8.out⟩
                    · have HV4 := Lib.hid (HV3.out.trans (congrArg Prod.snd (hT.out.trans (by rw [List.drop_of_length_le (by omega)]))))
                      clear HV3 hT
                      go_wp2_with fail
                      go_ret
                      exact ⟨by rw [HV4.out]; rfl, hb0⟩
      · have e0 : decide (0 ≤ R) = false := decide_eq_false h0
        have HV := Lib.hid (HF.out.trans (if_neg (fun h => h0 h.1)))
        have HB4 := HB3
        clear h0 HF HB3
        by_cases hl : g.leaves = 1
        · have e2 : (g.leaves != 1) = false := by simp [hl]
          have HV2 := Lib.hid (HV.out.trans (if_neg (fun h => h.1 hl)))
          clear HV hl
          by_cases h4 : 4 < g.chs.length
          · have e4 : decide ((4 : Int) < (g.chs.length : Int)) = true := decide_eq_true (by omega)
            have HV3 := Lib.hid (HV2.out.trans (if_pos h4))
            clear h4 HV2
            go_wp2_with fail
            go_ret
            exact ⟨by rw [HV3.out]; rfl, HB4.out⟩
          · have e4 : decide ((4 : Int) < (g.chs.length : Int)) = false := decide_eq_false (by omega)
            have HV3 := Lib.hid (HV2.out.trans (if_neg h4))
            clear HV2
            go_wp2_with fail
            go_loopw [8] (fun q wr => ∃ (j : Nat), j ≤ g.chs.length ∧ q = .int .i64 j ∧ Hid (chsErr g.leaves none 0 g.chs = chsErr g.leaves (prevAt g.chs j) j (g.chs.drop j)) ∧ Below w3.heap.size w3 wr) (fun q _ => g.chs.length - (intOf q).toNat)
            case atStart => exact ⟨0, by omega, rfl, rfl, Below.refl _ _⟩
            case round =>
              obtain ⟨j, hj, rfl, hT, hbr⟩ := hrel
              have k0 := cell_later' hbr k0
              have k1 := cell_later' hbr k1
              have k2 := cell_later' hbr k2
              have k3 := cell_later' hbr k3
              have hb0 := HB4.out.trans (hbr.mono HB4.out.size)
              by_cases hlt : j < g.chs.length
              · obtain ⟨c, hc⟩ : ∃ c, g.chs[j]? = some c := ⟨_, List.getElem?_eq_getElem hlt⟩
                have HCJ := Lib.hid hc
                have hca := refChange_any g ca _ ccap j c (prevAt g.chs j) _ ((HCH.out.below hb0 (Nat.le_refl _)).mono hb0.size) hc (by omega) (by
                  rcases j with _ | j
                  · exact Or.inl ⟨rfl, rfl⟩
                  · obtain ⟨p, hp⟩ : ∃ p, g.chs[j]? = some p := ⟨_, List.getElem?_eq_getElem (by omega)⟩
                    exact Or.inr ⟨j, p, rfl, hp, by simp [prevAt, hp]⟩)
                have HCA := Lib.hid hca
                clear hca hc
                go_wp2_with fail
                refine HCA.out.mono ?_
                rintro e w7 ⟨rfl, hb7⟩
                have HB7 := Lib.hid (hbr.trans (hb7.mono hbr.size))
                have HB8 := Lib.hid (hb0.trans (hb7.mono hb0.size))
                clear hb7 HCA k0 k1 k2 k3 hb0 hbr
                obtain ⟨er, her⟩ : ∃ er, er = refCh g.leaves (prevAt g.chs j) c := ⟨_, rfl⟩
                rw [← her]
                have her2 : er = chErr g.leaves (prevAt g.chs j) c := her.trans (refCh_is _ _ _)
                have HER := Lib.hid her2
                clear her her2
                by_cases h0 : er = 0
                · subst h0
                  go_wp2_with fail
                  go_roundw
                  case rel => exact ⟨j + 1, by omega, by go_num, hT.out.trans (chsErr_step HCJ.out HER.out.symm), HB7.out⟩
                  case measure => simp [intOf]; omega
                · have e0 : (er != 0) = true := by simp [h0]
                  have HV4 := Lib.hid (HV3.out.trans (congrArg Prod.snd (hT.out.trans (chsErr_stop HCJ.out (fun h => h0 (HER.out.trans h))))))
                  clear h0 HV3 hT
                  go_wp2_with fail
                  go_ret
                  exact ⟨by rw [HV4.out, ← HER.out]; rfl, HB8.out⟩
              · have HV4 := Lib.hid (HV3.out.trans (congrArg Prod.snd (hT.out.trans (by rw [List.drop_of_length_le (by omega)]))))
                clear HV3 hT
                go_wp2_with fail
                go_ret
                exact ⟨by rw [HV4.out]; rfl, hb0⟩
        · have e2 : (g.leaves != 1) = true := by simp [hl]
          go_wp2_with fail
          refine (refIn_any g.leaves 2 12 _).mono ?_
          rintro e w6 ⟨rfl, hb6⟩
          have k0 := cell_later' hb6 k0
          have k1 := cell_later' hb6 k1
          have k2 := cell_later' hb6 k2
          have k3 := cell_later' hb6 k3
          have HB6 := Lib.hid (HB4.out.trans (hb6.mono HB4.out.size))
          clear hb6 HB4
          cases hin : inB 2 12 g.leaves with
          | false =>
            have HV2 := Lib.hid (HV.out.trans (if_pos ⟨hl, Or.inl hin⟩))
            clear HV hl hin
            go_wp2_with fail
            go_ret
            exact ⟨by rw [HV2.out]; rfl, HB6.out⟩
          | true =>
            have hrange : 2 ≤ g.leaves ∧ g.leaves ≤ 12 := by simpa [inB] using hin
            by_cases ho : g.leaves % 2 = 1
            · have e3 : (g.leaves.tmod 2 == 1) = true := by rw [beq_iff_eq, Int.tmod_eq_emod_of_nonneg (by omega)]; exact ho
              have HV2 := Lib.hid (HV.out.trans (if_pos ⟨hl, Or.inr ho⟩))
              clear HV hl hin hrange ho
              go_wp2_with fail
              go_ret
              exact ⟨by rw [HV2.out]; rfl, HB6.out⟩
            · have e3 : (g.leaves.tmod 2 == 1) = false := by rw [beq_eq_false_iff_ne, Ne, Int.tmod_eq_emod_of_nonneg (by omega)]; exact ho
              have HV2 := Lib.hid (HV.out.trans (if_neg (fun h => h.2.elim (fun f => by rw [hin] at f; cases f) ho)))
              have HB4 := HB6
              clear HV hl hin hrange ho HB6
              by_cases h4 : 4 < g.chs.length
              · have e4 : decide ((4 : Int) < (g.chs.length : Int)) = true := decide_eq_true (by omega)
                have HV3 := Lib.hid (HV2.out.trans (if_pos h4))
                clear h4 HV2
                go_wp2_with fail
                go_ret
                exact ⟨by rw [HV3.out]; rfl, HB4.out⟩
              · have e4 : decide ((4 : Int) < (g.chs.length : Int)) = false := decide_eq_false (by omega)
                have HV3 := Lib.hid (HV2.out.trans (if_neg h4))
                clear HV2
                go_wp2_with fail
                go_loopw [8] (fun q wr => ∃ (j : Nat), j ≤ g.chs.length ∧ q = .int .i64 j ∧ Hid (chsErr g.leaves none 0 g.chs = chsErr g.leaves (prevAt g.chs j) j (g.chs.drop j)) ∧ Below w6.heap.size w6 wr) (fun q _ => g.chs.length - (intOf q).toNat)
                case atStart => exact ⟨0, by omega, rfl, rfl, Below.refl _ _⟩
                case round =>
                  obtain ⟨j, hj, rfl, hT, hbr⟩ := hrel
                  have k0 := cell_later' hbr k0
                  have k1 := cell_later' hbr k1
                  have k2 := cell_later' hbr k2
                  have k3 := cell_later' hbr k3
                  have hb0 := HB4.out.trans (hbr.mono HB4.out.size)
                  by_cases hlt : j < g.chs.length
                  · obtain ⟨c, hc⟩ : ∃ c, g.chs[j]? = some c := ⟨_, List.getElem?_eq_getElem hlt⟩
                    have HCJ := Lib.hid hc
                    have hca := refChange_any g ca _ ccap j c (prevAt g.chs j) _ ((HCH.out.below hb0 (Nat.le_refl _)).mono hb0.size) hc (by omega) (by
                      rcases j with _ | j
                      · exact Or.inl ⟨rfl, rfl⟩
                      · obtain ⟨p, hp⟩ : ∃ p, g.chs[j]? = some p := ⟨_, List.getElem?_eq_getElem (by omega)⟩
                        exact Or.inr ⟨j, p, rfl, hp, by simp [prevAt, hp]⟩)
                    have HCA := Lib.hid hca
                    clear hca hc
                    go_wp2_with fail
                    refine HCA.out.mono ?_
                    rintro e w7 ⟨rfl, hb7⟩
                    have HB7 := Lib.hid (hbr.trans (hb7.mono hbr.size))
                    have HB8 := Lib.hid (hb0.trans (hb7.mono hb0.size))
                    clear hb7 HCA k0 k1 k2 k3 hb0 hbr
                    obtain ⟨er, her⟩ : ∃ er, er = refCh g.leaves (prevAt g.chs j) c := ⟨_, rfl⟩
                    rw [← her]
                    have her2 : er = chErr g.leaves (prevAt g.chs j) c := her.trans (refCh_is _ _ _)
                    have HER := Lib.hid her2
                    clear her her2
                    by_cases h0 : er = 0
                    · subst h0
                      go_wp2_with fail
                      go_roundw
                      case rel => exact ⟨j + 1, by omega, by go_num, hT.out.trans (chsErr_step HCJ.out HER.out.symm), HB7.out⟩
                      case measure => simp [intOf]; omega
                    · have e0 : (er != 0) = true := by simp [h0]
                      have HV4 := Lib.hid (HV3.out.trans (congrArg Prod.snd (hT.out.trans (chsErr_stop HCJ.out (fun h => h0 (HER.out.trans h))))))
                      clear h0 HV3 hT
                      go_wp2_with fail
                      go_ret
                      exact ⟨by rw [HV4.out, ← HER.out]; rfl, HB8.out⟩
                  · have HV4 := Lib.hid (HV3.out.trans (congrArg Prod.snd (hT.out.trans (by rw [List.drop_of_length_le (by omega)]))))
                    clear HV3 hT
                    go_wp2_with fail
                    go_ret
                    exact ⟨by rw [HV4.out]; rfl, hb0⟩

/-- THE ERROR OF A GATHERING. -/
theorem refGathering_any (s : Int) (gs : List Gth) (a : Option Addr) (n cap : Nat) (i : Nat) (g : Gth) (w : World) (hgs : GsAt w.heap.size w (.slice a n cap) gs) (hi : gs[i]? = some g) (hn : gs.length ≤ 100) (hs : ∀ x ∈ gs.take i, sigB x.round x.letter = true) :
    Calls Tryz.prog 53 #[.agg #[.int .i64 s, .slice a n cap], .int .i64 i] w fun e w' => e = .returned (.int .i64 (refGth (gs.take i) g)) ∧ Below w.heap.size w w' := by
  cases hsg : sigB g.round g.letter with
  | false =>
    have e : refGth (gs.take i) g = 7 := if_pos hsg
    rw [e]
    exact refGathering_sig s gs a n cap i g w hgs hi hn hsg
  | true => exact refGathering_rest s gs a n cap i g w hgs hi hn hsg hs
end Go.Proofs.YtlfglbnbenaghaaGreatDoor

/- The reference's Check: it answers as the program's. -/
namespace Go.Proofs.YtlfglbnbenaghaaGreatDoor
set_option linter.unusedSimpArgs false
set_option linter.unusedVariables false
open Go Go.RowKit Go.Sort Go.BigFrame

theorem refGs_step {gs : List Gth} {k : Nat} {g : Gth} (hk : gs[k]? = some g) (h0 : refGth (gs.take k) g = 0) : refGs (gs.take k) k (gs.drop k) = refGs (gs.take (k + 1)) (k + 1) (gs.drop (k + 1)) := by
  have hl := (List.getElem?_eq_some_iff.1 hk).1
  have e : gs.drop k = g :: gs.drop (k + 1) := by
    rw [List.drop_eq_getElem_cons hl]; congr 1; exact Option.some.inj ((List.getElem?_eq_getElem hl).symm.trans hk)
  rw [e, refGs, if_pos h0, List.take_add_one, hk]
  rfl
theorem refGs_stop {gs : List Gth} {k : Nat} {g : Gth} (hk : gs[k]? = some g) (h0 : refGth (gs.take k) g ≠ 0) : refGs (gs.take k) k (gs.drop k) = (k, refGth (gs.take k) g) := by
  have hl := (List.getElem?_eq_some_iff.1 hk).1
  have e : gs.drop k = g :: gs.drop (k + 1) := by
    rw [List.drop_eq_getElem_cons hl]; congr 1; exact Option.some.inj ((List.getElem?_eq_getElem hl).symm.trans hk)
  rw [e, refGs, if_neg h0]
theorem okG_take {gs : List Gth} {k : Nat} {g : Gth} (hk : gs[k]? = some g) (h : OkG (gs.take k)) (h0 : refGth (gs.take k) g = 0) : OkG (gs.take (k + 1)) := by
  rw [List.take_add_one, hk]
  exact okG_snoc h g h0

set_option maxRecDepth 100000 in
set_option maxHeartbeats 800000 in
/-- CHECK, AS THE REFERENCE HAS IT. -/
theorem refCheck_any (b : Bk) (v : Value) (w : World) (hb : BookAt w.heap.size w v b) :
    Calls Tryz.prog 25 #[v] w fun e w' => e = .returned (checkR b) ∧ Below w.heap.size w w' := by
  obtain ⟨sv, rfl, hgs⟩ := hb
  have HG := Lib.hid hgs
  obtain ⟨a, cap, rfl, -⟩ := hgs
  cases h1 : inB 0 12 b.signed with
  | false =>
    have HV : Hid (checkR b = .tuple #[.int .i64 1, .int .i64 0, .int .i64 7]) := Lib.hid (by simp [checkR, checkF, h1])
    have H1 := Lib.hid h1
    clear h1
    go_enter Tryz.func25, Tryz.ntmps25
    go_wp2_with fail
    refine (refIn_any b.signed 0 12 _).mono ?_
    rintro e w1 ⟨rfl, hb1⟩
    rw [H1.out]
    have hb0 : Below w.heap.size w w1 := Below.trans (by exact (by repeat (first | (refine Below.setCell ?_ ?_ _; rotate_left; · (first | omega | (simp; done) | (simp; omega) | fail)) | (refine Below.alloc ?_ ?_ _; rotate_left; · (first | omega | (simp; done) | (simp; omega) | fail)) | refine Below.drew ?_ | exact Below.refl _ _ | fail))) (hb1.mono (by simp; try omega))
    clear hb1
    go_wp2_with fail
    go_ret3
    exact ⟨by rw [HV.out]; rfl, hb0⟩
  | true =>
  have H1 := Lib.hid h1
  cases h2 : inB 1 30 b.gs.length with
  | false =>
    have HV : Hid (checkR b = .tuple #[.int .i64 1, .int .i64 0, .int .i64 3]) := Lib.hid (by simp [checkR, checkF, h1, h2])
    have H2 := Lib.hid h2
    clear h1 h2
    go_enter Tryz.func25, Tryz.ntmps25
    go_wp2_with fail
    refine (refIn_any b.signed 0 12 _).mono ?_
    rintro e w1 ⟨rfl, hb1⟩
    rw [H1.out]
    have k1 : w1.cell? ⟨w.heap.size, 1, none⟩ = some (.slice a b.gs.length cap) := cell_later' hb1 (by simp [World.cell?_alloc_at])
    have hb0 : Below w.heap.size w w1 := Below.trans (by exact (by repeat (first | (refine Below.setCell ?_ ?_ _; rotate_left; · (first | omega | (simp; done) | (simp; omega) | fail)) | (refine Below.alloc ?_ ?_ _; rotate_left; · (first | omega | (simp; done) | (simp; omega) | fail)) | refine Below.drew ?_ | exact Below.refl _ _ | fail))) (hb1.mono (by simp; try omega))
    clear hb1
    go_wp2_with fail
    refine (refIn_any b.gs.length 1 30 _).mono ?_
    rintro e w2 ⟨rfl, hb2⟩
    rw [H2.out]
    have hb0 := hb0.trans (hb2.mono hb0.size)
    clear hb2
    go_wp2_with fail
    go_ret3
    exact ⟨by rw [HV.out]; rfl, hb0⟩
  | true =>
    have hlen : 1 ≤ b.gs.length ∧ b.gs.length ≤ 30 := by simp [inB] at h2; omega
    have HV : Hid (checkR b = if (refGs [] 0 b.gs).2 = 0 then .tuple #[.int .i64 0, .int .i64 0, .int .i64 0] else .tuple #[.int .i64 2, .int .i64 (refGs [] 0 b.gs).1, .int .i64 (refGs [] 0 b.gs).2]) := Lib.hid (by
      rw [refGs_is b.gs [] 0 okG_nil]
      show checkR b = if (gsErr [] (0, 0) 0 b.gs).2 = 0 then _ else _
      unfold checkR checkF
      rw [if_neg (by rw [h1]; decide), if_neg (by rw [h2]; decide)]
      split <;> rfl)
    have H2 := Lib.hid h2
    clear h1 h2
    go_enter Tryz.func25, Tryz.ntmps25
    go_wp2_with fail
    refine (refIn_any b.signed 0 12 _).mono ?_
    rintro e w1 ⟨rfl, hb1⟩
    rw [H1.out]
    have k0 : w1.cell? ⟨w.heap.size, 0, none⟩ = some (.int .i64 b.signed) := cell_later' hb1 (by simp [World.cell?_alloc_at])
    have k1 : w1.cell? ⟨w.heap.size, 1, none⟩ = some (.slice a b.gs.length cap) := cell_later' hb1 (by simp [World.cell?_alloc_at])
    have hb0 : Below w.heap.size w w1 := Below.trans (by exact (by repeat (first | (refine Below.setCell ?_ ?_ _; rotate_left; · (first | omega | (simp; done) | (simp; omega) | fail)) | (refine Below.alloc ?_ ?_ _; rotate_left; · (first | omega | (simp; done) | (simp; omega) | fail)) | refine Below.drew ?_ | exact Below.refl _ _ | fail))) (hb1.mono (by simp; try omega))
    clear hb1
    go_wp2_with fail
    refine (refIn_any b.gs.length 1 30 _).mono ?_
    rintro e w2 ⟨rfl, hb2⟩
    rw [H2.out]
    have k0 := cell_later' hb2 k0
    have k1 := cell_later' hb2 k1
    have HB2 := Lib.hid (hb0.trans (hb2.mono hb0.size))
    clear hb2 hb0
    go_wp2_with fail
    go_loopw [5] (fun q wr => ∃ (j : Nat), j ≤ b.gs.length ∧ q = .int .i64 j ∧ Hid (refGs [] 0 b.gs = refGs (b.gs.take j) j (b.gs.drop j)) ∧ Hid (OkG (b.gs.take j)) ∧ Below w2.heap.size w2 wr) (fun q _ => b.gs.length - (intOf q).toNat)
    case atStart => exact ⟨0, by omega, rfl, rfl, okG_nil, Below.refl _ _⟩
    case round =>
      obtain ⟨j, hj, rfl, hT, hO, hbr⟩ := hrel
      have k0 := cell_later' hbr k0
      have k1 := cell_later' hbr k1
      have hb0 := HB2.out.trans (hbr.mono HB2.out.size)
      by_cases hlt : j < b.gs.length
      · obtain ⟨g, hg⟩ : ∃ g, b.gs[j]? = some g := ⟨_, List.getElem?_eq_getElem hlt⟩
        have HGJ := Lib.hid hg
        have hca := refGathering_any b.signed b.gs a _ cap j g _ ((HG.out.below hb0 (Nat.le_refl _)).mono hb0.size) hg (by omega) hO.out.sig
        have HCA := Lib.hid hca
        clear hca hg
        go_wp2_with fail
        refine HCA.out.mono ?_
        rintro e w7 ⟨rfl, hb7⟩
        have HB7 := Lib.hid (hbr.trans (hb7.mono hbr.size))
        have HB8 := Lib.hid (hb0.trans (hb7.mono hb0.size))
        clear hb7 HCA k0 k1 hb0 hbr
        obtain ⟨er, her⟩ : ∃ er, er = refGth (b.gs.take j) g := ⟨_, rfl⟩
        rw [← her]
        have HER := Lib.hid her
        clear her
        by_cases h0 : er = 0
        · subst h0
          go_wp2_with fail
          go_roundw
          case rel => exact ⟨j + 1, by omega, by go_num, hT.out.trans (refGs_step HGJ.out HER.out.symm), okG_take HGJ.out hO.out HER.out.symm, HB7.out⟩
          case measure => simp [intOf]; omega
        · have e0 : (er != 0) = true := by simp [h0]
          have HV4 := Lib.hid (hT.out.trans (refGs_stop HGJ.out (fun h => h0 (HER.out.trans h))))
          have HV5 : Hid (checkR b = .tuple #[.int .i64 2, .int .i64 j, .int .i64 er]) := Lib.hid (by
            rw [HV.out, HV4.out, ← HER.out]
            exact if_neg h0)
          clear h0 HV HV4 hT
          go_wp2_with fail
          go_ret3
          exact ⟨by rw [HV5.out]; rfl, HB8.out⟩
      · have HV5 : Hid (checkR b = .tuple #[.int .i64 0, .int .i64 0, .int .i64 0]) := Lib.hid (by
          rw [HV.out, hT.out, List.drop_of_length_le (by omega)]
          rfl)
        clear HV hT
        go_wp2_with fail
        go_ret3
        exact ⟨by rw [HV5.out]; rfl, hb0⟩
end Go.Proofs.YtlfglbnbenaghaaGreatDoor

/- A list of leaves in memory. -/
namespace Go.Proofs.YtlfglbnbenaghaaGreatDoor
set_option linter.unusedSimpArgs false
set_option linter.unusedVariables false
open Go Go.RowKit Go.Sort Go.BigFrame Go.Shelf

/-- A slice of leaves. -/
def LfsAt (W : World) (v : Value) (xs : List Lf) : Prop :=
  ∃ (a : Option Addr) (cap : Nat), v = .slice a xs.length cap ∧ (xs ≠ [] → ∃ g, a = some ⟨g, 0, none⟩ ∧ g < W.heap.size ∧ ∀ i x, xs[i]? = some x → W.cell? ⟨g, i * 4, none⟩ = some (.int .i64 x.gat) ∧ W.cell? ⟨g, i * 4 + 1, none⟩ = some (.int .i64 x.num) ∧
    W.cell? ⟨g, i * 4 + 2, none⟩ = some (.int .i64 x.plus) ∧ W.cell? ⟨g, i * 4 + 3, none⟩ = some (.int .i64 x.kind))
theorem LfsAt.of_row {W : World} {base : Nat} {v : Value} {e : TypeId} {xs : List Lf} (h : W.ownsRow base e 4 v xs.length (lfCells xs)) : LfsAt W v xs := by
  rcases h.2 with ⟨rfl, h0⟩ | ⟨g, cap, cur, rfl, hb, hg, rest⟩
  · exact ⟨none, 0, by rw [h0], fun hne => absurd (List.length_eq_zero_iff.1 h0) hne⟩
  · refine ⟨_, cap, rfl, fun _ => ⟨g, rfl, blk_lt hg, fun i x hx => ?_⟩⟩
    have hcl := h.cells (g := g) (by simp [Value.ownBlock])
    have hf := flat_at (f := fun x : Lf => [Value.int .i64 x.gat, .int .i64 x.num, .int .i64 x.plus, .int .i64 x.kind]) (n := 4) (fun _ => rfl) hx
    have q : ∀ j u, j < 4 → ([Value.int .i64 x.gat, .int .i64 x.num, .int .i64 x.plus, .int .i64 x.kind])[j]? = some u → W.cell? ⟨g, i * 4 + j, none⟩ = some u := fun j u hj hu => by
      have := hcl _ _ ((hf j hj).trans hu)
      rwa [add_off'] at this
    exact ⟨q 0 _ (by omega) rfl, q 1 _ (by omega) rfl, q 2 _ (by omega) rfl, q 3 _ (by omega) rfl⟩
theorem LfsAt.later {W W' : World} {v : Value} {xs : List Lf} (h : LfsAt W v xs) (hb : Below W.heap.size W W') : LfsAt W' v xs := by
  obtain ⟨a, cap, rfl, h⟩ := h
  refine ⟨a, cap, rfl, fun hne => ?_⟩
  obtain ⟨g, rfl, hg, hc⟩ := h hne
  refine ⟨g, rfl, Nat.lt_of_lt_of_le hg hb.size, fun i x hx => ?_⟩
  obtain ⟨h0, h1, h2, h3⟩ := hc i x hx
  have hq : ∀ j u, W.cell? ⟨g, j, none⟩ = some u → W'.cell? ⟨g, j, none⟩ = some u := fun j u hu => (hb.cell (p := ⟨g, j, none⟩) hg).trans hu
  exact ⟨hq _ _ h0, hq _ _ h1, hq _ _ h2, hq _ _ h3⟩
theorem LfsAt.get {W : World} {a : Option Addr} {n cap : Nat} {xs : List Lf} (h : LfsAt W (.slice a n cap) xs) {i : Nat} {x : Lf} (hx : xs[i]? = some x) : ∃ g, a = some ⟨g, 0, none⟩ ∧ g < W.heap.size ∧ W.cell? ⟨g, i * 4, none⟩ = some (.int .i64 x.gat) ∧ W.cell? ⟨g, i * 4 + 1, none⟩ = some (.int .i64 x.num) ∧
    W.cell? ⟨g, i * 4 + 2, none⟩ = some (.int .i64 x.plus) ∧ W.cell? ⟨g, i * 4 + 3, none⟩ = some (.int .i64 x.kind) := by
  obtain ⟨a', cap', e, hc⟩ := h
  cases e
  obtain ⟨g, h1, h2, h3⟩ := hc (fun e => by rw [e] at hx; cases hx)
  exact ⟨g, h1, h2, h3 i x hx⟩
/-- How many leaves a book has, at most. -/
theorem lvs_few {b : Bk} (hok : BOk b) : (lvs b).length ≤ 1950 := by
  have h1 : ∀ (gs : List Gth) (i : Nat), (∀ g ∈ gs, GOk g) → (lvsFrom i gs).length ≤ gs.length * 65 := by
    intro gs
    induction gs with
    | nil => intro i _; simp [lvsFrom]
    | cons g gs ih =>
      intro i h
      have h2 := ih (i + 1) (fun x hx => h x (by simp [hx]))
      have hg := h g (by simp)
      have hl := hg.leaves
      have h3 : (lvsG i g).length ≤ 13 * 5 := by
        unfold lvsG
        refine Nat.le_trans (flatMap_len (n := 5) fun k _ => ?_) (by rw [List.length_range]; omega)
        have := lvsNum_len (i := i) (k := k) (f := fateF g.chs k)
        have := fate_added (cs := g.chs) (num := k) fun c hc => ⟨(hg.ch hc).2.2.2.1, (hg.ch hc).2.2.2.2⟩
        omega
      simp only [lvsFrom, List.length_append, List.length_cons]
      omega
  have := h1 b.gs 0 hok.gs
  have := hok.len
  show (lvsFrom 0 b.gs).length ≤ _
  omega
end Go.Proofs.YtlfglbnbenaghaaGreatDoor

/- What the laws of books share: a valid book, and its box. -/
namespace Go.Proofs.YtlfglbnbenaghaaGreatDoor
set_option linter.unusedSimpArgs false
set_option linter.unusedVariables false
open Go Go.RowKit Go.Sort Go.BigFrame Go.Shelf
attribute [local go_sem] Oper.semAt_some putAll

set_option maxRecDepth 100000 in
set_option maxHeartbeats 400000 in
theorem valid_any (b : Bk) (v : Value) (w : World) (hb : BookAt w.heap.size w v b) :
    Calls Tryz.prog 13 #[v] w fun e w' => e = .returned (.bool (errF b == 0)) ∧ Below w.heap.size w w' := by
  have HB := Lib.hid hb
  obtain ⟨sv, rfl, hgs⟩ := hb
  obtain ⟨a, cap, rfl, -⟩ := hgs
  have HR : Hid (checkR b = .tuple #[.int .i64 (checkF b).1, .int .i64 (checkF b).2.1, .int .i64 (errF b)]) := Lib.hid rfl
  go_enter Tryz.func13, Tryz.ntmps13
  go_wp2_with fail
  refine (refCheck_any b _ _ ((HB.out.below (by exact (by repeat (first | (refine Below.setCell ?_ ?_ _; rotate_left; · (first | omega | (simp; done) | (simp; omega) | fail)) | (refine Below.alloc ?_ ?_ _; rotate_left; · (first | omega | (simp; done) | (simp; omega) | fail)) | refine Below.drew ?_ | exact Below.refl _ _ | fail))) (Nat.le_refl _)).mono (by simp; try omega))).mono ?_
  rintro e w1 ⟨rfl, hb1⟩
  rw [HR.out]
  have hb0 : Below w.heap.size w w1 := Below.trans (by exact (by repeat (first | (refine Below.setCell ?_ ?_ _; rotate_left; · (first | omega | (simp; done) | (simp; omega) | fail)) | (refine Below.alloc ?_ ?_ _; rotate_left; · (first | omega | (simp; done) | (simp; omega) | fail)) | refine Below.drew ?_ | exact Below.refl _ _ | fail))) (hb1.mono (by simp; try omega))
  clear hb1
  go_wp2_with fail
  go_ret
  exact ⟨rfl, hb0⟩

/-- A book in its box. -/
structure BkBox (w W : World) (X : Nat) (b : Bk) (a : Option Addr) (cap : Nat) : Prop where
  box : W.heap[X]? = some (.cells #[.int .i64 b.signed, .slice a b.gs.length cap] 24)
  book : BookAt W.heap.size W (.agg #[.int .i64 b.signed, .slice a b.gs.length cap]) b
  below : Below w.heap.size w W
theorem BkBox.later {w W W' : World} {X : Nat} {b : Bk} {a : Option Addr} {cap : Nat} (h : BkBox w W X b a cap) (hb : Below W.heap.size W W') : BkBox w W' X b a cap :=
  ⟨blk_later hb h.box, (h.book.below hb (Nat.le_refl _)).mono hb.size, h.below.trans (hb.mono h.below.size)⟩
theorem BkBox.start {w : World} {b : Bk} {a : Option Addr} {cap : Nat} (h : BookAt w.heap.size w (.agg #[.int .i64 b.signed, .slice a b.gs.length cap]) b) : BkBox w (w.alloc (.cells #[.int .i64 b.signed, .slice a b.gs.length cap] 24)) w.heap.size b a cap :=
  ⟨World.alloc_heap_new _ _, (h.below ((Below.refl _ w).alloc (Nat.le_refl _) _) (Nat.le_refl _)).mono (by simp), (Below.refl _ w).alloc (Nat.le_refl _) _⟩
theorem BkBox.gth {w W : World} {X : Nat} {b : Bk} {a : Option Addr} {cap : Nat} (h : BkBox w W X b a cap) {i : Nat} {g : Gth} (hg : b.gs[i]? = some g) :
    ∃ bb off, a = some ⟨bb, off, none⟩ ∧ bb < W.heap.size ∧ ∃ ca ccap, ChsAt W.heap.size W (.slice ca g.chs.length ccap) g.chs ∧ W.cell? ⟨bb, off + i * 4, none⟩ = some (.int .i64 g.round) ∧ W.cell? ⟨bb, off + i * 4 + 1, none⟩ = some (.int .i64 g.letter) ∧
      W.cell? ⟨bb, off + i * 4 + 2, none⟩ = some (.int .i64 g.leaves) ∧ W.cell? ⟨bb, off + i * 4 + 3, none⟩ = some (.slice ca g.chs.length ccap) := by
  obtain ⟨sv, e, hgs⟩ := h.book
  have : sv = .slice a b.gs.length cap := by
    simp only [Value.agg.injEq, Array.mk.injEq, List.cons.injEq, true_and, and_true] at e
    exact e.symm
  subst this
  exact hgs.get hg
theorem cell_al {W : World} {b i : Nat} {v : Value} (h : W.cell? ⟨b, i, none⟩ = some v) (hb : b < W.heap.size) (o : Obj) : (W.alloc o).cell? ⟨b, i, none⟩ = some v := by
  rw [← h]; exact World.cell?_of_block (heap_alloc_past _ _ _ (by omega))
theorem cell_al2 {W : World} {b i : Nat} {v : Value} (h : W.cell? ⟨b, i, none⟩ = some v) (hb : b < W.heap.size) (o o' : Obj) : ((W.alloc o).alloc o').cell? ⟨b, i, none⟩ = some v :=
  cell_al (cell_al h hb o) (by simp; omega) o'
end Go.Proofs.YtlfglbnbenaghaaGreatDoor

/- The reference's list of all leaves: what its loops keep. (The walk itself is yet to be written.) -/
namespace Go.Proofs.YtlfglbnbenaghaaGreatDoor
set_option linter.unusedSimpArgs false
set_option linter.unusedVariables false
open Go Go.RowKit Go.Sort Go.BigFrame Go.Shelf

theorem ty_ne1 : (24 : TypeId) ≠ 89 := by decide
theorem ty_ne2 : (42 : TypeId) ≠ 89 := by decide
/-- A block of another type stays when a row of leaves grows. -/
theorem grown_block {W W' : World} {base : Nat} {v : Value} {n k : Nat} {xs : List Value} {c : Array Value} {t : TypeId} {f : Nat × Nat} (hr : W.ownsRow base 89 4 v n xs) (hg : W.grownBy W' v.ownBlock) (hk : W.heap[k]? = some (.cells c t f)) (ht : t ≠ 89) : W'.heap[k]? = some (.cells c t f) := by
  rw [← hk]
  refine hg.block k (Array.getElem?_eq_some_iff.1 hk).1 fun e => ?_
  rcases hr.2 with ⟨rfl, _⟩ | ⟨g, cap, cur, rfl, _, h, _⟩
  · simp [Value.ownBlock] at e
  · simp only [Value.ownBlock, Option.some.injEq] at e
    subst e
    rw [hk] at h
    simp only [Option.some.injEq, Obj.cells.injEq] at h
    exact ht h.2.1
/-- What is kept while the leaves are gathered: the book's box, and the row. -/
structure Al (w W : World) (b : Bk) (a : Option Addr) (cap : Nat) (v : Value) (xs : List Lf) : Prop where
  box : W.heap[w.heap.size]? = some (.cells #[.int .i64 b.signed, .slice a b.gs.length cap] 24)
  gs : GsAt w.heap.size W (.slice a b.gs.length cap) b.gs
  row : W.ownsRow (w.heap.size + 1) 89 4 v xs.length (lfCells xs)
  below : Below w.heap.size w W
theorem Al.later {w W W' : World} {b : Bk} {a : Option Addr} {cap : Nat} {v : Value} {xs : List Lf} (h : Al w W b a cap v xs) (hb : Below W.heap.size W W') : Al w W' b a cap v xs :=
  ⟨blk_later hb h.box, h.gs.below hb h.below.size, row_later h.row hb, h.below.trans (hb.mono h.below.size)⟩
/-- One more leaf. -/
theorem Al.add {w W W' : World} {b : Bk} {a : Option Addr} {cap : Nat} {v v' : Value} {xs : List Lf} {x : Lf} (h : Al w W b a cap v xs)
    (hr : W'.ownsRow (w.heap.size + 1) 89 4 v' (xs.length + 1) (lfCells xs ++ [.int .i64 x.gat, .int .i64 x.num, .int .i64 x.plus, .int .i64 x.kind])) (hg : W.grownBy W' v.ownBlock) : Al w W' b a cap v' (xs ++ [x]) := by
  have hbl : Below w.heap.size W W' := ((Below.refl _ W).mono h.below.size).grown hg h.below.size (fun k hk => by
    have := (h.row.lt k hk).1
    omega)
  refine ⟨grown_block h.row hg h.box ty_ne1, h.gs.below hbl (Nat.le_refl _), ?_, h.below.trans hbl⟩
  rw [List.length_append]
  simpa [lfCells] using hr
end Go.Proofs.YtlfglbnbenaghaaGreatDoor

/- The reference's list of all leaves: it is lvs. -/
namespace Go.Proofs.YtlfglbnbenaghaaGreatDoor
set_option linter.unusedSimpArgs false
set_option linter.unusedVariables false
open Go Go.RowKit Go.Sort Go.BigFrame Go.Shelf

theorem cells_at (W : World) (l : List Value) (t : TypeId) (n : Nat) (hn : n = W.heap.size) : ∀ j u, l[j]? = some u → (W.alloc (.cells l.toArray t)).cell? ((⟨n, 0, none⟩ : Addr).add j) = some u := by
  subst hn
  intro j u h
  rw [add_off']
  unfold World.cell?
  rw [World.alloc_heap_new]
  simpa using h

end Go.Proofs.YtlfglbnbenaghaaGreatDoor

/- The reference's Leaves. -/
namespace Go.Proofs.YtlfglbnbenaghaaGreatDoor
set_option linter.unusedSimpArgs false
set_option linter.unusedVariables false
open Go Go.RowKit Go.Sort Go.BigFrame Go.Shelf
attribute [local go_sem] Oper.semAt_some putAll

end Go.Proofs.YtlfglbnbenaghaaGreatDoor
