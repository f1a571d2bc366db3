/- The parts Ce of the proof, joined. It holds without conditions of its own. -/
import Derived.Test.YtimdmgkegdlafaaGreatDoorCH28
/- The reference's error of a gathering. -/
namespace Go.Proofs.YtimdmgkegdlafaaGreatDoor
set_option linter.unusedSimpArgs false
set_option linter.unusedVariables false
open Go Go.RowKit Go.Sort Go.BigFrame

set_option maxRecDepth 100000 in
set_option maxHeartbeats 400000 in
theorem refGathering_sig (s : Int) (gs : List Gth) (a : Option Addr) (n cap : Nat) (i : Nat) (g : Gth) (w : World) (hgs : GsAt w.heap.size w (.slice a n cap) gs) (hi : gs[i]? = some g) (hn : gs.length ≤ 100) (hsg : sigB g.round g.letter = false) :
    Calls Tryz.prog 53 #[.agg #[.int .i64 s, .slice a n cap], .int .i64 i] w fun e w' => e = .returned (.int .i64 7) ∧ Below w.heap.size w w' := by
  obtain ⟨a', cap', hav, hcell⟩ := hgs
  simp only [Value.slice.injEq] at hav
  obtain ⟨rfl, rfl, rfl⟩ := hav
  have hlt := (List.getElem?_eq_some_iff.1 hi).1
  obtain ⟨b, off, rfl, hb, hcell⟩ := hcell (fun e => by rw [e] at hlt; simp at hlt)
  have HC := Lib.hid hcell
  obtain ⟨cv, hch, q0, q1, q2, q3⟩ := hcell i _ hi
  have HCH := Lib.hid hch
  obtain ⟨ca, ccap, rfl, -⟩ := hch
  have HG := Lib.hid hi
  have d2 : ((i : Int) < gs.length) := by omega
  clear hcell hi
  try clear hcell
  go_enter Tryz.func53, Tryz.ntmps53
  go_wp2_with fail
  refine (refSignature_any g.round g.letter _).mono ?_
  rintro e w1 ⟨rfl, hb1⟩
  rw [hsg]
  have hb0 : Below w.heap.size w w1 := Below.trans (by exact (by repeat (first | (refine Below.setCell ?_ ?_ _; rotate_left; · (first | omega | (simp; done) | (simp; omega) | fail)) | (refine Below.alloc ?_ ?_ _; rotate_left; · (first | omega | (simp; done) | (simp; omega) | fail)) | refine Below.drew ?_ | exact Below.refl _ _ | fail))) (hb1.mono (by simp; try omega))
  have b1 : w1.cell? ⟨w.heap.size, 1, none⟩ = some (.slice (some ⟨b, off, none⟩) gs.length cap) := cell_later' hb1 (by simp [World.cell?_alloc_at, World.cell?_alloc_past])
  have k0 : w1.cell? ⟨w.heap.size + 1, 0, none⟩ = some (.int .i64 g.round) := cell_later' hb1 (by simp [World.cell?_alloc_at])
  have k1 : w1.cell? ⟨w.heap.size + 1, 1, none⟩ = some (.int .i64 g.letter) := cell_later' hb1 (by simp [World.cell?_alloc_at])
  have k2 : w1.cell? ⟨w.heap.size + 1, 2, none⟩ = some (.int .i64 g.leaves) := cell_later' hb1 (by simp [World.cell?_alloc_at])
  have k3 : w1.cell? ⟨w.heap.size + 1, 3, none⟩ = some (.slice ca g.chs.length ccap) := cell_later' hb1 (by simp [World.cell?_alloc_at])
  clear hb1 q0 q1 q2 q3
  go_wp2_with fail
  go_ret
  exact ⟨rfl, hb0⟩

theorem any_false {before : List Gth} {g : Gth} (h : ∀ x ∈ before, ¬ (x.round = g.round ∧ x.letter = g.letter)) : before.any (fun h => decide (h.round = g.round ∧ h.letter = g.letter)) = false := by
  rw [List.any_eq_false]
  intro x hx
  simpa using h x hx
theorem any_true {gs : List Gth} {g x : Gth} {i k : Nat} (hx : gs[k]? = some x) (hk : k < i) (h1 : x.round = g.round) (h2 : x.letter = g.letter) : (gs.take i).any (fun h => decide (h.round = g.round ∧ h.letter = g.letter)) = true := by
  rw [List.any_eq_true]
  refine ⟨x, ?_, by simp [h1, h2]⟩
  have : (gs.take i)[k]? = some x := by rw [List.getElem?_take, if_pos hk]; exact hx
  exact List.mem_of_getElem? this
theorem ranksMax_step {gs : List Gth} {x : Gth} {k : Nat} (hx : gs[k]? = some x) : ranksMax (gs.take (k + 1)) = max (ranksMax (gs.take k)) (rankG x) := by
  rw [List.take_add_one, hx]
  exact ranksMax_snoc _ _
theorem max_ite (a b : Int) : (if a < b then b else a) = max a b := by split <;> omega
theorem rankG_is (g : Gth) : rankG g = rankF g.round g.letter := rfl
theorem rankG_range {g : Gth} (h : sigB g.round g.letter = true) : -1 ≤ rankG g ∧ rankG g ≤ 68 := by
  have := sigB_is h
  unfold rankG
  split <;> omega

set_option maxRecDepth 100000 in
set_option maxHeartbeats 1600000 in
theorem refGathering_rest (s : Int) (gs : List Gth) (a : Option Addr) (n cap : Nat) (i : Nat) (g : Gth) (w : World) (hgs : GsAt w.heap.size w (.slice a n cap) gs) (hi : gs[i]? = some g) (hn : gs.length ≤ 100) (hsg : sigB g.round g.letter = true) (hs : ∀ x ∈ gs.take i, sigB x.round x.letter = true) :
    Calls Tryz.prog 53 #[.agg #[.int .i64 s, .slice a n cap], .int .i64 i] w fun e w' => e = .returned (.int .i64 (refGth (gs.take i) g)) ∧ Below w.heap.size w w' := by
  have HS := Lib.hid hs
  clear hs
  obtain ⟨a', cap', hav, hcell⟩ := hgs
  simp only [Value.slice.injEq] at hav
  obtain ⟨rfl, rfl, rfl⟩ := hav
  have hlt := (List.getElem?_eq_some_iff.1 hi).1
  obtain ⟨b, off, rfl, hb, hcell⟩ := hcell (fun e => by rw [e] at hlt; simp at hlt)
  have HC := Lib.hid hcell
  obtain ⟨cv, hch, q0, q1, q2, q3⟩ := hcell i _ hi
  have HCH := Lib.hid hch
  obtain ⟨ca, ccap, rfl, -⟩ := hch
  have HG := Lib.hid hi
  have d2 : ((i : Int) < gs.length) := by omega
  clear hcell hi
  try clear hcell
  go_enter Tryz.func53, Tryz.ntmps53
  go_wp2_with fail
  refine (refSignature_any g.round g.letter _).mono ?_
  rintro e w1 ⟨rfl, hb1⟩
  rw [hsg]
  have hb0 : Below w.heap.size w w1 := Below.trans (by exact (by repeat (first | (refine Below.setCell ?_ ?_ _; rotate_left; · (first | omega | (simp; done) | (simp; omega) | fail)) | (refine Below.alloc ?_ ?_ _; rotate_left; · (first | omega | (simp; done) | (simp; omega) | fail)) | refine Below.drew ?_ | exact Below.refl _ _ | fail))) (hb1.mono (by simp; try omega))
  have b1 : w1.cell? ⟨w.heap.size, 1, none⟩ = some (.slice (some ⟨b, off, none⟩) gs.length cap) := cell_later' hb1 (by simp [World.cell?_alloc_at, World.cell?_alloc_past])
  have k0 : w1.cell? ⟨w.heap.size + 1, 0, none⟩ = some (.int .i64 g.round) := cell_later' hb1 (by simp [World.cell?_alloc_at])
  have k1 : w1.cell? ⟨w.heap.size + 1, 1, none⟩ = some (.int .i64 g.letter) := cell_later' hb1 (by simp [World.cell?_alloc_at])
  have k2 : w1.cell? ⟨w.heap.size + 1, 2, none⟩ = some (.int .i64 g.leaves) := cell_later' hb1 (by simp [World.cell?_alloc_at])
  have k3 : w1.cell? ⟨w.heap.size + 1, 3, none⟩ = some (.slice ca g.chs.length ccap) := cell_later' hb1 (by simp [World.cell?_alloc_at])
  clear hb1 q0 q1 q2 q3
  have HSG := Lib.hid hsg
  clear hsg
  go_wp2_with fail
  go_loopw [6, 7] (fun l q wr => ∃ (k : Nat), k ≤ i ∧ q = .int .i64 k ∧ l = .int .i64 (ranksMax (gs.take k)) ∧ Hid (∀ x ∈ gs.take k, ¬ (x.round = g.round ∧ x.letter = g.letter)) ∧ Hid (-1 ≤ ranksMax (gs.take k) ∧ ranksMax (gs.take k) ≤ 68) ∧ Below w1.heap.size w1 wr) (fun l q _ => i - (intOf q).toNat)
  case atStart => exact ⟨0, by omega, rfl, rfl, (fun x h => by simp at h), Lib.hid (by simp [ranksMax]), Below.refl _ _⟩
  case round =>
    obtain ⟨k, hk, rfl, rfl, hT, hR, hbr⟩ := hrel
    have k0 := cell_later' hbr k0
    have k1 := cell_later' hbr k1
    have k2 := cell_later' hbr k2
    have k3 := cell_later' hbr k3
    have b1 := cell_later' hbr b1
    have hb0 := hb0.trans (hbr.mono hb0.size)
    by_cases hlt : k < i
    · obtain ⟨x, hx⟩ : ∃ x, gs[k]? = some x := ⟨_, List.getElem?_eq_getElem (by omega)⟩
      obtain ⟨xv, -, x0, x1, x2, x3⟩ := HC.out k x hx
      have hxs : sigB x.round x.letter = true := HS.out x (by
        refine List.mem_of_getElem? (i := k) ?_
        rw [List.getElem?_take, if_pos hlt]; exact hx)
      have HX := Lib.hid hx
      have HXS := Lib.hid hxs
      have x0 := cell_later' hb0 x0
      have x1 := cell_later' hb0 x1
      have d3 : ((k : Int) < gs.length) := by omega
      clear hx hxs x2 x3
      by_cases e1 : x.round = g.round
      · by_cases e2 : x.letter = g.letter
        · rw [e1] at x0
          rw [e2] at x1
          have HF : Hid (refGth (gs.take i) g = 5) := by
            show refGth _ _ = 5
            unfold refGth
            rw [if_neg (by rw [HSG.out]; decide), if_pos (any_true HX.out hlt e1 e2)]
          clear e1 e2
          go_wp2_with fail
          go_quiet (fail)
          go_wp2_with fail
          go_ret
          exact ⟨by rw [HF.out]; rfl, bdrewN hb0 _⟩
        · have HNE : Hid (¬ (x.round = g.round ∧ x.letter = g.letter)) := Lib.hid (fun h => e2 h.2)
          have HXR : Hid (sigB g.round x.letter = true) := (by
            have h := HXS.out
            rw [e1] at h
            exact h)
          have HXG : Hid (max (ranksMax (gs.take k)) (rankF g.round x.letter) = ranksMax (gs.take (k + 1))) := Lib.hid (by rw [ranksMax_step HX.out, rankG_is x, e1])
          go_wp2_with fail
          go_quiet (fail)
          have hbd : Below wr.heap.size wr (wr.drewN nq) := bdrewN (Below.refl _ _) _
          have y0 := cell_later' hbd x0
          have y1 := cell_later' hbd x1
          have c1 := cell_later' hbd b1
          have HB2 := Lib.hid (hbr.trans (hbd.mono hbr.size))
          clear hbd x0 x1 k0 k1 k2 k3 b1
          revert HB2
          generalize wr.drewN nq = w2 at *
          intro HB2
          go_wp2_with fail
          refine (refRank_any g.round x.letter _ HXR.out).mono ?_
          rintro e w3 ⟨rfl, hb3⟩
          have HB3 := Lib.hid (HB2.out.trans (hb3.mono HB2.out.size))
          clear hb3 c1 y0 y1
          go_wp2_with fail
          go_roundw
          case rel => exact ⟨k + 1, by omega, by go_num, (by rw [← HXG.out] <;> first | rfl | rw [max_ite]), Lib.hid (by
            intro z hz
            rw [List.take_add_one, HX.out] at hz
            rcases List.mem_append.1 hz with hz | hz
            · exact hT.out z hz
            · simp at hz; rw [hz]; exact HNE.out), Lib.hid (by have := rankG_range HXS.out; have := hR.out; rw [ranksMax_step HX.out]; omega), HB3.out⟩
          case measure => simp [intOf]; omega
      · have HNE : Hid (¬ (x.round = g.round ∧ x.letter = g.letter)) := Lib.hid (fun h => e1 h.1)
        have HXR := HXS
        have HXG : Hid (max (ranksMax (gs.take k)) (rankF x.round x.letter) = ranksMax (gs.take (k + 1))) := Lib.hid (by rw [ranksMax_step HX.out, rankG_is x])
        go_wp2_with fail
        go_quiet (fail)
        have hbd : Below wr.heap.size wr (wr.drewN nq) := bdrewN (Below.refl _ _) _
        have y0 := cell_later' hbd x0
        have y1 := cell_later' hbd x1
        have c1 := cell_later' hbd b1
        have HB2 := Lib.hid (hbr.trans (hbd.mono hbr.size))
        clear hbd x0 x1 k0 k1 k2 k3 b1
        revert HB2
        generalize wr.drewN nq = w2 at *
        intro HB2
        go_wp2_with fail
        refine (refRank_any x.round x.letter _ HXR.out).mono ?_
        rintro e w3 ⟨rfl, hb3⟩
        have HB3 := Lib.hid (HB2.out.trans (hb3.mono HB2.out.size))
        clear hb3 c1 y0 y1
        go_wp2_with fail
        go_roundw
        case rel => exact ⟨k + 1, by omega, by go_num, (by rw [← HXG.out] <;> first | rfl | rw [max_ite]), Lib.hid (by
          intro z hz
          rw [List.take_add_one, HX.out] at hz
          rcases List.mem_append.1 hz with hz | hz
          · exact hT.out z hz
          · simp at hz; rw [hz]; exact HNE.out), Lib.hid (by have := rankG_range HXS.out; have := hR.out; rw [ranksMax_step HX.out]; omega), HB3.out⟩
        case measure => simp [intOf]; omega
    · have hki : k = i := by omega
      subst hki
      have HF : Hid (refGth (gs.take k) g = if 0 ≤ rankF g.round g.letter ∧ rankF g.round g.letter < ranksMax (gs.take k) then 2 else if g.leaves ≠ 1 ∧ (inB 2 12 g.leaves = false ∨ g.leaves % 2 = 1) then 7 else if 4 < g.chs.length then 3 else (chsErr g.leaves none 0 g.chs).2) := Lib.hid (by
        unfold refGth
        rw [if_neg (by rw [HSG.out]; decide), if_neg (by rw [any_false hT.out]; decide), rankG_is])
      clear hlt hk hT HC hR b1
      obtain ⟨M, hM⟩ : ∃ M, M = ranksMax (gs.take k) := ⟨_, rfl⟩
      rw [← hM] at HF ⊢
      clear hM
      go_wp2_with fail
      refine (refRank_any g.round g.letter _ HSG.out).mono ?_
      rintro e w3 ⟨rfl, hb3⟩
      have k0 := cell_later' hb3 k0
      have k1 := cell_later' hb3 k1
      have k2 := cell_later' hb3 k2
      have k3 := cell_later' hb3 k3
      have HB3 := Lib.hid (hb0.trans (hb3.mono hb0.size))
      clear hb3 hb0 hbr
      obtain ⟨R, hR⟩ : ∃ R, R = rankF g.round g.letter := ⟨_, rfl⟩
      rw [← hR] at HF ⊢
      have HRR := Lib.hid hR
      clear hR
      by_cases h0 : 0 ≤ R
      · have e0 : decide (0 ≤ R) = true := decide_eq_true h0
        go_wp2_with fail
        refine (refRank_any g.round g.letter _ HSG.out).mono ?_
        rintro e w4 ⟨rfl, hb4⟩
        have k2 := cell_later' hb4 k2
        have k3 := cell_later' hb4 k3
        have HB4 := Lib.hid (HB3.out.trans (hb4.mono HB3.out.size))
        have k0 := cell_later' hb4 k0
        have k1 := cell_later' hb4 k1
        clear hb4 HB3
        rw [← HRR.out]
        by_cases h1 : R < M
        · have e1 : decide (R < M) = true := decide_eq_true h1
          have HV := Lib.hid (HF.out.trans (if_pos ⟨h0, h1⟩))
          clear h0 h1 HF
          go_wp2_with fail
          go_ret
          exact ⟨by rw [HV.out]; rfl, HB4.out⟩
        · have e1 : decide (R < M) = false := decide_eq_false h1
          have HV := Lib.hid (HF.out.trans (if_neg (fun h => h1 h.2)))
          clear h0 h1 HF
          by_cases hl : g.leaves = 1
          · have e2 : (g.leaves != 1) = false := by simp [hl]
            have HV2 := Lib.hid (HV.out.trans (if_neg (fun h => h.1 hl)))
            clear HV hl
            by_cases h4 : 4 < g.chs.length
            · have e4 : decide ((4 : Int) < (g.chs.length : Int)) = true := decide_eq_true (by omega)
              have HV3 := Lib.hid (HV2.out.trans (if_pos h4))
              clear h4 HV2
              go_wp2_with fail
              go_ret
              exact ⟨by rw [HV3.out]; rfl, HB4.out⟩
            · have e4 : decide ((4 : Int) < (g.chs.length : Int)) = false := decide_eq_false (by omega)
              have HV3 := Lib.hid (HV2.out.trans (if_neg h4))
              clear HV2
              go_wp2_with fail
              go_loopw [8] (fun q wr => ∃ (j : Nat), j ≤ g.chs.length ∧ q = .int .i64 j ∧ Hid (chsErr g.leaves none 0 g.chs = chsErr g.leaves (prevAt g.chs j) j (g.chs.drop j)) ∧ Below w4.heap.size w4 wr) (fun q _ => g.chs.length - (intOf q).toNat)
              case atStart => exact ⟨0, by omega, rfl, rfl, Below.refl _ _⟩
              case round =>
                obtain ⟨j, hj, rfl, hT, hbr⟩ := hrel
                have k0 := cell_later' hbr k0
                have k1 := cell_later' hbr k1
                have k2 := cell_later' hbr k2
                have k3 := cell_later' hbr k3
                have hb0 := HB4.out.trans (hbr.mono HB4.out.size)
                by_cases hlt : j < g.chs.length
                · obtain ⟨c, hc⟩ : ∃ c, g.chs[j]? = some c := ⟨_, List.getElem?_eq_getElem hlt⟩
                  have HCJ := Lib.hid hc
                  have hca := refChange_any g ca _ ccap j c (prevAt g.chs j) _ ((HCH.out.below hb0 (Nat.le_refl _)).mono hb0.size) hc (by omega) (by
                    rcases j with _ | j
                    · exact Or.inl ⟨rfl, rfl⟩
                    · obtain ⟨p, hp⟩ : ∃ p, g.chs[j]? = some p := ⟨_, List.getElem?_eq_getElem (by omega)⟩
                      exact Or.inr ⟨j, p, rfl, hp, by simp [prevAt, hp]⟩)
                  have HCA := Lib.hid hca
                  clear hca hc
                  go_wp2_with fail
                  refine HCA.out.mono ?_
                  rintro e w7 ⟨rfl, hb7⟩
                  have HB7 := Lib.hid (hbr.trans (hb7.mono hbr.size))
                  have HB8 := Lib.hid (hb0.trans (hb7.mono hb0.size))
                  clear hb7 HCA k0 k1 k2 k3 hb0 hbr
                  obtain ⟨er, her⟩ : ∃ er, er = refCh g.leaves (prevAt g.chs j) c := ⟨_, rfl⟩
                  rw [← her]
                  have her2 : er = chErr g.leaves (prevAt g.chs j) c := her.trans (refCh_is _ _ _)
                  have HER := Lib.hid her2
                  clear her her2
                  by_cases h0 : er = 0
                  · subst h0
                    go_wp2_with fail
                    go_roundw
                    case rel => exact ⟨j + 1, by omega, by go_num, hT.out.trans (chsErr_step HCJ.out HER.out.symm), HB7.out⟩
                    case measure => simp [intOf]; omega
                  · have e0 : (er != 0) = true := by simp [h0]
                    have HV4 := Lib.hid (HV3.out.trans (congrArg Prod.snd (hT.out.trans (chsErr_stop HCJ.out (fun h => h0 (HER.out.trans h))))))
                    clear h0 HV3 hT
                    go_wp2_with fail
                    go_ret
                    exact ⟨by rw [HV4.out, ← HER.out]; rfl, HB8.out⟩
                · have HV4 := Lib.hid (HV3.out.trans (congrArg Prod.snd (hT.out.trans (by rw [List.drop_of_length_le (by omega)]))))
                  clear HV3 hT
                  go_wp2_with fail
                  go_ret
                  exact ⟨by rw [HV4.out]; rfl, hb0⟩
          · have e2 : (g.leaves != 1) = true := by simp [hl]
            go_wp2_with fail
            refine (refIn_any g.leaves 2 12 _).mono ?_
            rintro e w6 ⟨rfl, hb6⟩
            have k0 := cell_later' hb6 k0
            have k1 := cell_later' hb6 k1
            have k2 := cell_later' hb6 k2
            have k3 := cell_later' hb6 k3
            have HB6 := Lib.hid (HB4.out.trans (hb6.mono HB4.out.size))
            clear hb6 HB4
            cases hin : inB 2 12 g.leaves with
            | false =>
              have HV2 := Lib.hid (HV.out.trans (if_pos ⟨hl, Or.inl hin⟩))
              clear HV hl hin
              go_wp2_with fail
              go_ret
              exact ⟨by rw [HV2.out]; rfl, HB6.out⟩
            | true =>
              have hrange : 2 ≤ g.leaves ∧ g.leaves ≤ 12 := by simpa [inB] using hin
              by_cases ho : g.leaves % 2 = 1
              · have e3 : (g.leaves.tmod 2 == 1) = true := by rw [beq_iff_eq, Int.tmod_eq_emod_of_nonneg (by omega)]; exact ho
                have HV2 := Lib.hid (HV.out.trans (if_pos ⟨hl, Or.inr ho⟩))
                clear HV hl hin hrange ho
                go_wp2_with fail
                go_ret
                exact ⟨by rw [HV2.out]; rfl, HB6.out⟩
              · have e3 : (g.leaves.tmod 2 == 1) = false := by rw [beq_eq_false_iff_ne, Ne, Int.tmod_eq_emod_of_nonneg (by omega)]; exact ho
                have HV2 := Lib.hid (HV.out.trans (if_neg (fun h => h.2.elim (fun f => by rw [hin] at f; cases f) ho)))
                have HB4 := HB6
                clear HV hl hin hrange ho HB6
                by_cases h4 : 4 < g.chs.length
                · have e4 : decide ((4 : Int) < (g.chs.length : Int)) = true := decide_eq_true (by omega)
                  have HV3 := Lib.hid (HV2.out.trans (if_pos h4))
                  clear h4 HV2
                  go_wp2_with fail
                  go_ret
                  exact ⟨by rw [HV3.out]; rfl, HB4.out⟩
                · have e4 : decide ((4 : Int) < (g.chs.length : Int)) = false := decide_eq_false (by omega)
                  have HV3 := Lib.hid (HV2.out.trans (if_neg h4))
                  clear HV2
                  go_wp2_with fail
                  go_loopw [8] (fun q wr => ∃ (j : Nat), j ≤ g.chs.length ∧ q = .int .i64 j ∧ Hid (chsErr g.leaves none 0 g.chs = chsErr g.leaves (prevAt g.chs j) j (g.chs.drop j)) ∧ Below w6.heap.size w6 wr) (fun q _ => g.chs.length - (intOf q).toNat)
                  case atStart => exact ⟨0, by omega, rfl, rfl, Below.refl _ _⟩
                  case round =>
                    obtain ⟨j, hj, rfl, hT, hbr⟩ := hrel
                    have k0 := cell_later' hbr k0
                    have k1 := cell_later' hbr k1
                    have k2 := cell_later' hbr k2
                    have k3 := cell_later' hbr k3
                    have hb0 := HB4.out.trans (hbr.mono HB4.out.size)
                    by_cases hlt : j < g.chs.length
                    · obtain ⟨c, hc⟩ : ∃ c, g.chs[j]? = some c := ⟨_, List.getElem?_eq_getElem hlt⟩
                      have HCJ := Lib.hid hc
                      have hca := refChange_any g ca _ ccap j c (prevAt g.chs j) _ ((HCH.out.below hb0 (Nat.le_refl _)).mono hb0.size) hc (by omega) (by
                        rcases j with _ | j
                        · exact Or.inl ⟨rfl, rfl⟩
                        · obtain ⟨p, hp⟩ : ∃ p, g.chs[j]? = some p := ⟨_, List.getElem?_eq_getElem (by omega)⟩
                          exact Or.inr ⟨j, p, rfl, hp, by simp [prevAt, hp]⟩)
                      have HCA := Lib.hid hca
                      clear hca hc
                      go_wp2_with fail
                      refine HCA.out.mono ?_
                      rintro e w7 ⟨rfl, hb7⟩
                      have HB7 := Lib.hid (hbr.trans (hb7.mono hbr.size))
                      have HB8 := Lib.hid (hb0.trans (hb7.mono hb0.size))
                      clear hb7 HCA k0 k1 k2 k3 hb0 hbr
                      obtain ⟨er, her⟩ : ∃ er, er = refCh g.leaves (prevAt g.chs j) c := ⟨_, rfl⟩
                      rw [← her]
                      have her2 : er = chErr g.leaves (prevAt g.chs j) c := her.trans (refCh_is _ _ _)
                      have HER := Lib.hid her2
                      clear her her2
                      by_cases h0 : er = 0
                      · subst h0
                        go_wp2_with fail
                        go_roundw
                        case rel => exact ⟨j + 1, by omega, by go_num, hT.out.trans (chsErr_step HCJ.out HER.out.symm), HB7.out⟩
                        case measure => simp [intOf]; omega
                      · have e0 : (er != 0) = true := by simp [h0]
                        have HV4 := Lib.hid (HV3.out.trans (congrArg Prod.snd (hT.out.trans (chsErr_stop HCJ.out (fun h => h0 (HER.out.trans h))))))
                        clear h0 HV3 hT
                        go_wp2_with fail
                        go_ret
                        exact ⟨by rw [HV4.out, ← HER.out]; rfl, HB8.out⟩
                    · have HV4 := Lib.hid (HV3.out.trans (congrArg Prod.snd (hT.out.trans (by rw [List.drop_of_length_le (by omega)]))))
                      clear HV3 hT
                      go_wp2_with fail
                      go_ret
                      exact ⟨by rw [HV4.out]; rfl, hb0⟩
      · have e0 : decide (0 ≤ R) = false := decide_eq_false h0
        have HV := Lib.hid (HF.out.trans (if_neg (fun h => h0 h.1)))
        have HB4 := HB3
        clear h0 HF HB3
        by_cases hl : g.leaves = 1
        · have e2 : (g.leaves != 1) = false := by simp [hl]
          have HV2 := Lib.hid (HV.out.trans (if_neg (fun h => h.1 hl)))
          clear HV hl
          by_cases h4 : 4 < g.chs.length
          · have e4 : decide ((4 : Int) < (g.chs.length : Int)) = true := decide_eq_true (by omega)
            have HV3 := Lib.hid (HV2.out.trans (if_pos h4))
            clear h4 HV2
            go_wp2_with fail
            go_ret
            exact ⟨by rw [HV3.out]; rfl, HB4.out⟩
          · have e4 : decide ((4 : Int) < (g.chs.length : Int)) = false := decide_eq_false (by omega)
            have HV3 := Lib.hid (HV2.out.trans (if_neg h4))
            clear HV2
            go_wp2_with fail
            go_loopw [8] (fun q wr => ∃ (j : Nat), j ≤ g.chs.length ∧ q = .int .i64 j ∧ Hid (chsErr g.leaves none 0 g.chs = chsErr g.leaves (prevAt g.chs j) j (g.chs.drop j)) ∧ Below w3.heap.size w3 wr) (fun q _ => g.chs.length - (intOf q).toNat)
            case atStart => exact ⟨0, by omega, rfl, rfl, Below.refl _ _⟩
            case round =>
              obtain ⟨j, hj, rfl, hT, hbr⟩ := hrel
              have k0 := cell_later' hbr k0
              have k1 := cell_later' hbr k1
              have k2 := cell_later' hbr k2
              have k3 := cell_later' hbr k3
              have hb0 := HB4.out.trans (hbr.mono HB4.out.size)
              by_cases hlt : j < g.chs.length
              · obtain ⟨c, hc⟩ : ∃ c, g.chs[j]? = some c := ⟨_, List.getElem?_eq_getElem hlt⟩
                have HCJ := Lib.hid hc
                have hca := refChange_any g ca _ ccap j c (prevAt g.chs j) _ ((HCH.out.below hb0 (Nat.le_refl _)).mono hb0.size) hc (by omega) (by
                  rcases j with _ | j
                  · exact Or.inl ⟨rfl, rfl⟩
                  · obtain ⟨p, hp⟩ : ∃ p, g.chs[j]? = some p := ⟨_, List.getElem?_eq_getElem (by omega)⟩
                    exact Or.inr ⟨j, p, rfl, hp, by simp [prevAt, hp]⟩)
                have HCA := Lib.hid hca
                clear hca hc
                go_wp2_with fail
                refine HCA.out.mono ?_
                rintro e w7 ⟨rfl, hb7⟩
                have HB7 := Lib.hid (hbr.trans (hb7.mono hbr.size))
                have HB8 := Lib.hid (hb0.trans (hb7.mono hb0.size))
                clear hb7 HCA k0 k1 k2 k3 hb0 hbr
                obtain ⟨er, her⟩ : ∃ er, er = refCh g.leaves (prevAt g.chs j) c := ⟨_, rfl⟩
                rw [← her]
                have her2 : er = chErr g.leaves (prevAt g.chs j) c := her.trans (refCh_is _ _ _)
                have HER := Lib.hid her2
                clear her her2
                by_cases h0 : er = 0
                · subst h0
                  go_wp2_with fail
                  go_roundw
                  case rel => exact ⟨j + 1, by omega, by go_num, hT.out.trans (chsErr_step HCJ.out HER.out.symm), HB7.out⟩
                  case measure => simp [intOf]; omega
                · have e0 : (er != 0) = true := by simp [h0]
                  have HV4 := Lib.hid (HV3.out.trans (congrArg Prod.snd (hT.out.trans (chsErr_stop HCJ.out (fun h => h0 (HER.out.trans h))))))
                  clear h0 HV3 hT
                  go_wp2_with fail
                  go_ret
                  exact ⟨by rw [HV4.out, ← HER.out]; rfl, HB8.out⟩
              · have HV4 := Lib.hid (HV3.out.trans (congrArg Prod.snd (hT.out.trans (by rw [List.drop_of_length_le (by omega)]))))
                clear HV3 hT
                go_wp2_with fail
                go_ret
                exact ⟨by rw [HV4.out]; rfl, hb0⟩
        · have e2 : (g.leaves != 1) = true := by simp [hl]
          go_wp2_with fail
          refine (refIn_any g.leaves 2 12 _).mono ?_
          rintro e w6 ⟨rfl, hb6⟩
          have k0 := cell_later' hb6 k0
          have k1 := cell_later' hb6 k1
          have k2 := cell_later' hb6 k2
          have k3 := cell_later' hb6 k3
          have HB6 := Lib.hid (HB4.out.trans (hb6.mono HB4.out.size))
          clear hb6 HB4
          cases hin : inB 2 12 g.leaves with
          | false =>
            have HV2 := Lib.hid (HV.out.trans (if_pos ⟨hl, Or.inl hin⟩))
            clear HV hl hin
            go_wp2_with fail
            go_ret
            exact ⟨by rw [HV2.out]; rfl, HB6.out⟩
          | true =>
            have hrange : 2 ≤ g.leaves ∧ g.leaves ≤ 12 := by simpa [inB] using hin
            by_cases ho : g.leaves % 2 = 1
            · have e3 : (g.leaves.tmod 2 == 1) = true := by rw [beq_iff_eq, Int.tmod_eq_emod_of_nonneg (by omega)]; exact ho
              have HV2 := Lib.hid (HV.out.trans (if_pos ⟨hl, Or.inr ho⟩))
              clear HV hl hin hrange ho
              go_wp2_with fail
              go_ret
              exact ⟨by rw [HV2.out]; rfl, HB6.out⟩
            · have e3 : (g.leaves.tmod 2 == 1) = false := by rw [beq_eq_false_iff_ne, Ne, Int.tmod_eq_emod_of_nonneg (by omega)]; exact ho
              have HV2 := Lib.hid (HV.out.trans (if_neg (fun h => h.2.elim (fun f => by rw [hin] at f; cases f) ho)))
              have HB4 := HB6
              clear HV hl hin hrange ho HB6
              by_cases h4 : 4 < g.chs.length
              · have e4 : decide ((4 : Int) < (g.chs.length : Int)) = true := decide_eq_true (by omega)
                have HV3 := Lib.hid (HV2.out.trans (if_pos h4))
                clear h4 HV2
                go_wp2_with fail
                go_ret
                exact ⟨by rw [HV3.out]; rfl, HB4.out⟩
              · have e4 : decide ((4 : Int) < (g.chs.length : Int)) = false := decide_eq_false (by omega)
                have HV3 := Lib.hid (HV2.out.trans (if_neg h4))
                clear HV2
                go_wp2_with fail
                go_loopw [8] (fun q wr => ∃ (j : Nat), j ≤ g.chs.length ∧ q = .int .i64 j ∧ Hid (chsErr g.leaves none 0 g.chs = chsErr g.leaves (prevAt g.chs j) j (g.chs.drop j)) ∧ Below w6.heap.size w6 wr) (fun q _ => g.chs.length - (intOf q).toNat)
                case atStart => exact ⟨0, by omega, rfl, rfl, Below.refl _ _⟩
                case round =>
                  obtain ⟨j, hj, rfl, hT, hbr⟩ := hrel
                  have k0 := cell_later' hbr k0
                  have k1 := cell_later' hbr k1
                  have k2 := cell_later' hbr k2
                  have k3 := cell_later' hbr k3
                  have hb0 := HB4.out.trans (hbr.mono HB4.out.size)
                  by_cases hlt : j < g.chs.length
                  · obtain ⟨c, hc⟩ : ∃ c, g.chs[j]? = some c := ⟨_, List.getElem?_eq_getElem hlt⟩
                    have HCJ := Lib.hid hc
                    have hca := refChange_any g ca _ ccap j c (prevAt g.chs j) _ ((HCH.out.below hb0 (Nat.le_refl _)).mono hb0.size) hc (by omega) (by
                      rcases j with _ | j
                      · exact Or.inl ⟨rfl, rfl⟩
                      · obtain ⟨p, hp⟩ : ∃ p, g.chs[j]? = some p := ⟨_, List.getElem?_eq_getElem (by omega)⟩
                        exact Or.inr ⟨j, p, rfl, hp, by simp [prevAt, hp]⟩)
                    have HCA := Lib.hid hca
                    clear hca hc
                    go_wp2_with fail
                    refine HCA.out.mono ?_
                    rintro e w7 ⟨rfl, hb7⟩
                    have HB7 := Lib.hid (hbr.trans (hb7.mono hbr.size))
                    have HB8 := Lib.hid (hb0.trans (hb7.mono hb0.size))
                    clear hb7 HCA k0 k1 k2 k3 hb0 hbr
                    obtain ⟨er, her⟩ : ∃ er, er = refCh g.leaves (prevAt g.chs j) c := ⟨_, rfl⟩
                    rw [← her]
                    have her2 : er = chErr g.leaves (prevAt g.chs j) c := her.trans (refCh_is _ _ _)
                    have HER := Lib.hid her2
                    clear her her2
                    by_cases h0 : er = 0
                    · subst h0
                      go_wp2_with fail
                      go_roundw
                      case rel => exact ⟨j + 1, by omega, by go_num, hT.out.trans (chsErr_step HCJ.out HER.out.symm), HB7.out⟩
                      case measure => simp [intOf]; omega
                    · have e0 : (er != 0) = true := by simp [h0]
                      have HV4 := Lib.hid (HV3.out.trans (congrArg Prod.snd (hT.out.trans (chsErr_stop HCJ.out (fun h => h0 (HER.out.trans h))))))
                      clear h0 HV3 hT
                      go_wp2_with fail
                      go_ret
                      exact ⟨by rw [HV4.out, ← HER.out]; rfl, HB8.out⟩
                  · have HV4 := Lib.hid (HV3.out.trans (congrArg Prod.snd (hT.out.trans (by rw [List.drop_of_length_le (by omega)]))))
                    clear HV3 hT
                    go_wp2_with fail
                    go_ret
                    exact ⟨by rw [HV4.out]; rfl, hb0⟩

/-- THE ERROR OF A GATHERING. -/
theorem refGathering_any (s : Int) (gs : List Gth) (a : Option Addr) (n cap : Nat) (i : Nat) (g : Gth) (w : World) (hgs : GsAt w.heap.size w (.slice a n cap) gs) (hi : gs[i]? = some g) (hn : gs.length ≤ 100) (hs : ∀ x ∈ gs.take i, sigB x.round x.letter = true) :
    Calls Tryz.prog 53 #[.agg #[.int .i64 s, .slice a n cap], .int .i64 i] w fun e w' => e = .returned (.int .i64 (refGth (gs.take i) g)) ∧ Below w.heap.size w w' := by
  cases hsg : sigB g.round g.letter with
  | false =>
    have e : refGth (gs.take i) g = 7 := if_pos hsg
    rw [e]
    exact refGathering_sig s gs a n cap i g w hgs hi hn hsg
  | true => exact refGathering_rest s gs a n cap i g w hgs hi hn hsg hs
end Go.Proofs.YtimdmgkegdlafaaGreatDoor
