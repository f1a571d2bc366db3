/- The parts Ut of the proof, joined. It holds without conditions of its own. -/
import Derived.Test.YtdpiemgdenfkoaaGreatDoorFI17
import Derived.Test.YtdpiemgdenfkoaaGreatDoorFI18
import Derived.Test.YtdpiemgdenfkoaaGreatDoorFI20
import Derived.Laws.OwnMore
/- FoldImposed. -/
namespace Go.Proofs.YtdpiemgdenfkoaaGreatDoor
set_option linter.unusedSimpArgs false
set_option linter.unusedVariables false
open Go Go.RowKit Go.Sort Go.BigFrame

theorem intZs_set (xs : List Int) (s : Nat) (z : Int) : (intZs xs).set s (.int .i64 z) = intZs (xs.set s z) := by
  unfold intZs
  rw [List.map_set]
theorem row_formJ {W : World} {base : Nat} {v : Value} {e : TypeId} {s n : Nat} {xs : List Value} (h : W.ownsRow base e s v n xs) (hn : 0 < n) : ∃ g cap, v = .slice (some ⟨g, 0, none⟩) n cap ∧ base ≤ g ∧ g < W.heap.size := by
  rcases h.2 with ⟨_, h0⟩ | ⟨g, cap, cur, rfl, hb, hg, _⟩
  · omega
  · exact ⟨g, cap, rfl, hb, blk_lt hg⟩

set_option maxRecDepth 100000 in
set_option maxHeartbeats 4000000 in
theorem FoldImposed_any (p : Prs) (vp : Value) (x0 : Nat) (hx0 : x0 < 65536) (w : World) (t : TypeId) (hp : PrsAt w.heap.size w vp p) (hW : w.heap[0]? = some (.cells tabL.toArray t (0, 0))) :
    Calls Tryz.prog 5 #[vp, .int .u16 x0] w fun e w' => e = .returned (.bool true) ∧ Below w.heap.size w w' := by
  have HP := Lib.hid hp
  have HW := Lib.hid hW
  obtain ⟨fv, pv, rfl, ⟨a, cap, rfl, -⟩, ⟨a2, cap2, rfl, -⟩, -⟩ := hp
  obtain ⟨n1, hn1⟩ : ∃ n, n = p.fmts.length := ⟨_, rfl⟩
  obtain ⟨n2, hn2⟩ : ∃ n, n = p.pprs.length := ⟨_, rfl⟩
  rw [← hn1, ← hn2] at HP ⊢
  have HN1 := Lib.hid hn1
  clear hn1 hn2 hW
  go_enter Tryz.func5, Tryz.ntmps5
  go_wp2_with fail
  have hb0 : Below w.heap.size w (w.alloc (.cells #[.slice a n1 cap, .slice a2 n2 cap2, .int .i64 p.trim, .int .i64 p.sheets] 25)) := by exact (by repeat (first | exact Below.refl _ _ | assumption | (refine Below.alloc ?_ ?_ _; rotate_left; · (first | omega | (simp; done) | (simp; omega) | fail)) | (refine Below.setCell ?_ ?_ _; rotate_left; · (first | omega | (simp; done) | (simp; omega) | fail)) | refine Below.drew ?_ | fail))
  have b1 : (w.alloc (.cells #[.slice a n1 cap, .slice a2 n2 cap2, .int .i64 p.trim, .int .i64 p.sheets] 25)).heap[w.heap.size]? = some (.cells #[.slice a n1 cap, .slice a2 n2 cap2, .int .i64 p.trim, .int .i64 p.sheets] 25 (0, 0)) := World.alloc_heap_new _ _
  generalize (w.alloc (.cells #[.slice a n1 cap, .slice a2 n2 cap2, .int .i64 p.trim, .int .i64 p.sheets] 25)) = w1 at *
  have p0 := blk_cell b1 0
  have p1 := blk_cell b1 1
  have p2 := blk_cell b1 2
  have p3 := blk_cell b1 3
  obtain ⟨ep, hep⟩ : ∃ ep, ep = errP p := ⟨_, rfl⟩
  have HEP := Lib.hid hep
  refine (valid2_any p _ _ (HP.out.later hb0)).mono ?_
  rintro e w9 ⟨rfl, hb⟩
  rw [← hep]
  clear hep
  replace b1 := blk_later hb b1
  replace hb0 := hb0.trans (hb.mono hb0.size)
  clear p0 p1 p2 p3 hb
  generalize w9 = w2 at *
  have p0 := blk_cell b1 0
  have p1 := blk_cell b1 1
  have p2 := blk_cell b1 2
  have p3 := blk_cell b1 3
  by_cases h0 : ep = 0
  · have e0 : (ep == 0) = true := by simp [h0]
    have HE := Lib.hid (show errP p = 0 by rw [← HEP.out]; exact h0)
    clear HEP
    subst h0
    clear e0
    go_wp2_with fail
    refine (Made2_any p _ x0 _ (HP.out.later hb0) HE.out hx0).mono ?_
    rintro e w9 ⟨⟨m, rfl, hm⟩, hb⟩
    have HM := Lib.hid hm
    clear hm
    replace b1 := blk_later hb b1
    replace hb0 := hb0.trans (hb.mono hb0.size)
    clear p0 p1 p2 p3 hb
    generalize w9 = w3 at *
    have p0 := blk_cell b1 0
    have p1 := blk_cell b1 1
    have p2 := blk_cell b1 2
    have p3 := blk_cell b1 3
    obtain ⟨m1, m2, m3, m4⟩ := fine_at HE.out HM.out
    obtain ⟨f, hf⟩ : ∃ f, p.fmts[m.fmt.toNat]? = some f := ⟨_, List.getElem?_eq_getElem m2⟩
    have HF := Lib.hid hf
    have FN := Lib.hid (fine_of HE.out HM.out hf)
    clear hf m1 m2 m3 m4
    have hb : Below w3.heap.size w3 (w3.alloc (.cells #[.int .i64 m.fmt, .int .i64 m.ppr, .int .i64 m.sheets, .bool m.half] 38)) := (Below.refl _ _).alloc (Nat.le_refl _) _
    have b3 : (w3.alloc (.cells #[.int .i64 m.fmt, .int .i64 m.ppr, .int .i64 m.sheets, .bool m.half] 38)).heap[w3.heap.size]? = some (.cells #[.int .i64 m.fmt, .int .i64 m.ppr, .int .i64 m.sheets, .bool m.half] 38 (0, 0)) := World.alloc_heap_new _ _
    replace b1 := blk_later hb b1
    replace hb0 := hb0.trans (hb.mono hb0.size)
    clear p0 p1 p2 p3 hb
    have p0 := blk_cell b1 0
    have p1 := blk_cell b1 1
    have p2 := blk_cell b1 2
    have p3 := blk_cell b1 3
    have q0 := blk_cell b3 0
    have q1 := blk_cell b3 1
    have q2 := blk_cell b3 2
    have q3 := blk_cell b3 3
    go_wp2_with fail
    refine (Leaves2_any p m _ _ (HP.out.later hb0) HE.out HM.out).mono ?_
    rintro e w9 ⟨⟨f', lv, g, hfx, rfl, hl, -⟩, hb⟩
    obtain rfl : f' = f := Option.some.inj (hfx.symm.trans HF.out)
    clear hfx
    obtain ⟨ls, hls⟩ : ∃ ls, ls = leavesW m f' := ⟨_, rfl⟩
    have hcnt := FN.out.count
    rw [← hls] at hcnt
    rw [show leavesF (fdsB f'.folds) m.sheets.toNat m.half = ls from hls.symm] at hl
    have HLS := Lib.hid hls
    have HL := Lib.hid hl
    obtain ⟨k7, rest, rfl, -⟩ := hl
    obtain ⟨N, hN⟩ : ∃ N, N = ls.length := ⟨_, rfl⟩
    rw [← hN] at HL hcnt ⊢
    have HN := Lib.hid hN
    obtain ⟨hc1, hc64⟩ := hcnt
    obtain ⟨sn, hsn⟩ : ∃ s, s = m.sheets.toNat := ⟨_, rfl⟩
    have hsn1 := FN.out.sh1
    have hsn4 := FN.out.sh4
    rw [← hsn] at hsn1 hsn4
    have hms : m.sheets = (sn : Int) := by omega
    have HMS := Lib.hid hms
    have HSN := Lib.hid hsn
    obtain ⟨RR, hRR⟩ : ∃ r, r = rowsF (madeF (fdsB f'.folds) m.half) := ⟨_, rfl⟩
    obtain ⟨CC, hCC⟩ : ∃ c, c = colsF (madeF (fdsB f'.folds) m.half) := ⟨_, rfl⟩
    have HIM := Lib.hid (show Impd ls RR CC sn by
      have := impd_of FN.out.imposed
      rwa [← hRR, ← hCC, ← hls, ← hsn] at this)
    have HRR := Lib.hid hRR
    have HCC := Lib.hid hCC
    clear hls hN hms hsn hRR hCC
    replace b1 := blk_later hb b1
    replace b3 := blk_later hb b3
    replace hb0 := hb0.trans (hb.mono hb0.size)
    clear p0 p1 p2 p3 q0 q1 q2 q3 hb
    generalize w9 = w4 at *
    have p0 := blk_cell b1 0
    have p1 := blk_cell b1 1
    have p2 := blk_cell b1 2
    have p3 := blk_cell b1 3
    have q0 := blk_cell b3 0
    have q1 := blk_cell b3 1
    have q2 := blk_cell b3 2
    have q3 := blk_cell b3 3
    have e1 : ((N : Int) == 0) = false := by simp; omega
    obtain ⟨ei, hi1, hi2, hi3, hi4⟩ := elemInt
    obtain ⟨M, hM⟩ : ∃ M, M = 2 * N + 1 := ⟨_, rfl⟩
    have hMI : (M : Int) = 2 * (N : Int) + 1 := by omega
    obtain ⟨w5, hmk, hr5, hg5⟩ := run_make_full (P := Tryz.prog) w4 w4.heap.size 39 3 ei _ 1 undInts hi1 hi2 hi3 .i64 .i64 M (by rw [hi4]; omega) (by unfold maxLen; omega) (Nat.le_refl _)
    rw [hMI] at hmk
    have hb : Below w4.heap.size w4 w5 := (Below.refl _ w4).grown hg5 (Nat.le_refl _) (fun k hk => by cases hk)
    have HR5 := Lib.hid hr5
    have HMM := Lib.hid hM
    have HB5 := Lib.hid hb
    have B1 := Lib.hid b1
    have B3 := Lib.hid b3
    have HB0 := Lib.hid hb0
    clear hi1 hi2 hi3 hi4 hg5 hr5 hb hM
    go_wp2_with fail
    clear hmk p0 p1 p2 p3 q0 q1 q2 q3 b1 b3 hb0 e1
    obtain ⟨g9, hg9⟩ : ∃ g, g = w4.heap.size := ⟨_, rfl⟩
    rw [← hg9] at HR5 HB5 ⊢
    have HG9 := Lib.hid hg9
    clear hg9
    have hM129 : M ≤ 129 := by omega
    have hM1 : 1 ≤ M := by omega
    have hmi : (M : Int) = 2 * (N : Int) + 1 := hMI
    go_loopw [11] (fun j wr => ∃ (k : Nat) (cs : List Value), k ≤ M ∧ j = .int .i64 k ∧ Hid (wr.ownsRow g9 3 1 (.slice (some ⟨g9, 0, none⟩) M M) M cs) ∧ Hid (∀ i, i < k → cs[i]? = some (.int .i64 (-1))) ∧ Hid (Below g9 w4 wr)) (fun j _ => M - (intOf j).toNat)
    case atStart => exact ⟨0, _, by omega, rfl, HR5.out, (fun i h => by omega), HB5.out⟩
    case round =>
      obtain ⟨k, cs, hk, rfl, HR, HC, HB⟩ := hrel
      by_cases hlt : k < M
      · have hlen : cs.length = M := by have := HR.out.1; omega
        obtain ⟨c, hc⟩ : ∃ c, cs[k]? = some c := ⟨_, List.getElem?_eq_getElem (by omega)⟩
        have r0 := (HR.out.cellAt k (by omega)).trans hc
        have f0 := HR.out.frozenAt k
        have hst := (HR.out.stored k (.int .i64 (-1))).1
        have HST := Lib.hid hst
        have HBS := Lib.hid (show Below g9 w4 (wr.setCell ⟨g9, k, none⟩ (.int .i64 (-1))) from HB.out.setCell (Nat.le_refl _) _)
        clear hc hst
        go_wp2_with fail
        go_roundw
        case rel => exact ⟨k + 1, _, by omega, by go_num, HST.out, (fun i hi => by
          rw [List.getElem?_set]
          by_cases e : k = i
          · rw [if_pos e, if_pos (by omega)]
          · rw [if_neg e]; exact HC.out i (by omega)), HBS.out⟩
        case measure => simp [intOf]; omega
      · obtain rfl : M = k := by omega
        have hcs : cs = intZs (arrF [] M) := by
          have hlen : cs.length = M := by have := HR.out.1; omega
          refine List.ext_getElem? fun i => ?_
          unfold intZs
          rw [arrF_nil, List.getElem?_map, List.getElem?_replicate]
          by_cases h : i < M
          · rw [if_pos h, HC.out i h]; rfl
          · rw [if_neg h, List.getElem?_eq_none (by omega)]; rfl
        subst hcs
        clear HC hk hlt HR5 HB5 hMI hmi
        generalize hw6 : wr = w6 at *
        clear hw6
        go_wp2_with fail
        go_loopw [12, 13] (fun al j wr => ∃ (s : Nat), s ≤ sn ∧ j = .int .i64 s ∧ al = .int .i64 ((visS ls RR CC s).length : Nat) ∧ Hid (wr.ownsRow g9 3 1 (.slice (some ⟨g9, 0, none⟩) M M) M (intZs (arrF (visS ls RR CC s) M))) ∧ Hid (Below g9 w4 wr)) (fun _ j _ => sn - (intOf j).toNat)
        case atStart => exact ⟨0, by omega, rfl, rfl, HR.out, HB.out⟩
        case round =>
          clear HR HB
          obtain ⟨s, hs, rfl, rfl, HR, HB⟩ := hrel
          have hbw : Below w4.heap.size w4 wr := by rw [← HG9.out]; exact HB.out
          have b1 := blk_later hbw B1.out
          have b3 := blk_later hbw B3.out
          have hb0 := HB0.out.trans (hbw.mono HB0.out.size)
          obtain ⟨al, hal⟩ : ∃ n, n = (visS ls RR CC s).length := ⟨_, rfl⟩
          rw [← hal]
          have HAL := Lib.hid hal
          have hz9 : g9 ≤ wr.heap.size := by rw [HG9.out]; exact HB.out.size
          have hal200 : al ≤ 128 := by
            have h1 := HIM.out.many
            rw [visS_len, ← HN.out] at h1
            rw [hal, visS_len]
            have := Nat.mul_le_mul_right (2 * (RR * CC)) hs
            omega
          by_cases hlt : s < sn
          · have g1 : decide ((s : Int) < m.sheets) = true := by rw [HMS.out]; exact decide_eq_true (by omega)
            have p0 := blk_cell b1 0
            have p1 := blk_cell b1 1
            have p2 := blk_cell b1 2
            have p3 := blk_cell b1 3
            have q0 := blk_cell b3 0
            have q1 := blk_cell b3 1
            have q2 := blk_cell b3 2
            have q3 := blk_cell b3 3
            clear hal
            go_wp2_with fail
            refine (Forme_any p m f' ls s false _ _ (HP.out.later hb0) HE.out HM.out HF.out HLS.out (by rw [← HSN.out]; exact hlt)).mono ?_
            rintro e w9 ⟨⟨v14, rfl, hv14⟩, hb⟩
            rw [← HRR.out, ← HCC.out, forme_len] at hv14
            have hg9w : g9 < wr.heap.size := by
              obtain ⟨g', c', e', -, hlt'⟩ := row_formJ HR.out (by omega)
              injection e' with e1 e2 e3
              injection e1 with e1
              injection e1 with e1
              rw [e1]; exact hlt'
            have HR2 := Lib.hid (row_later HR.out hb)
            have HB2 := Lib.hid (show Below g9 w4 w9 from HB.out.trans (hb.mono hz9))
            replace b1 := blk_later hb b1
            replace b3 := blk_later hb b3
            replace hb0 := hb0.trans (hb.mono hb0.size)
            clear p0 p1 p2 p3 q0 q1 q2 q3 hb
            generalize w9 = w7 at *
            have p0 := blk_cell b1 0
            have p1 := blk_cell b1 1
            have p2 := blk_cell b1 2
            have p3 := blk_cell b1 3
            have q0 := blk_cell b3 0
            have q1 := blk_cell b3 1
            have q2 := blk_cell b3 2
            have q3 := blk_cell b3 3
            generalize wr.heap.size = Z14 at *
            clear HR HB hbw hz9
            go_wp2_with fail
            refine (Forme_any p m f' ls s true _ _ (HP.out.later hb0) HE.out HM.out HF.out HLS.out (by rw [← HSN.out]; exact hlt)).mono ?_
            rintro e w9 ⟨⟨v16, rfl, hv16⟩, hb⟩
            rw [← HRR.out, ← HCC.out, forme_len] at hv16
            have hz9 : g9 ≤ w7.heap.size := by rw [HG9.out]; exact HB2.out.size
            have hz14 : g9 < w7.heap.size := by
              obtain ⟨g', c', e', -, hlt'⟩ := row_formJ HR2.out (by omega)
              injection e' with e1 e2 e3
              injection e1 with e1
              injection e1 with e1
              rw [e1]; exact hlt'
            have HR3 := Lib.hid (row_later HR2.out hb)
            have HB3 := Lib.hid (show Below g9 w4 w9 from HB2.out.trans (hb.mono hz9))
            replace hv14 := row_later hv14 hb
            replace b1 := blk_later hb b1
            replace b3 := blk_later hb b3
            replace hb0 := hb0.trans (hb.mono hb0.size)
            clear p0 p1 p2 p3 q0 q1 q2 q3 hb
            generalize w9 = w8 at *
            have p0 := blk_cell b1 0
            have p1 := blk_cell b1 1
            have p2 := blk_cell b1 2
            have p3 := blk_cell b1 3
            have q0 := blk_cell b3 0
            have q1 := blk_cell b3 1
            have q2 := blk_cell b3 2
            have q3 := blk_cell b3 3
            clear HR2 HB2 hz9 p0 p1 p2 p3 q0 q1 q2 q3 b1 b3
            obtain ⟨Q, hQ⟩ : ∃ q, q = RR * CC := ⟨_, rfl⟩
            have hQ64 : 1 ≤ Q ∧ Q ≤ 64 := by
              have h1 := HIM.out.many
              rw [visS_len, ← HN.out, ← hQ] at h1
              have h2 := Nat.mul_le_mul_right (2 * Q) (show 1 ≤ sn by omega)
              have h3 : Q ≠ 0 := fun e => by rw [e] at h1; simp at h1; omega
              omega
            rw [← hQ] at hv14 hv16
            have HQ := Lib.hid hQ
            obtain ⟨fa, hfa⟩ : ∃ l, l = formeF ls RR CC s false := ⟨_, rfl⟩
            obtain ⟨fb, hfb⟩ : ∃ l, l = formeF ls RR CC s true := ⟨_, rfl⟩
            rw [← hfa] at hv14
            rw [← hfb] at hv16
            have hfal : fa.length = Q := by rw [hfa, forme_len, ← HQ.out]
            have hfbl : fb.length = Q := by rw [hfb, forme_len, ← HQ.out]
            obtain ⟨g14, cap14, rfl, hg14, hg14b⟩ := row_formJ hv14 (by omega)
            obtain ⟨g16, cap16, rfl, hg16, hg16b⟩ := row_formJ hv16 (by omega)
            have H14 : Hid (∀ i x, fa[i]? = some x → w8.cell? ⟨g14, i, none⟩ = some (.int .i64 x)) := Lib.hid fun i x hx => (hv14.cellAt i (by have := (List.getElem?_eq_some_iff.1 hx).1; omega)).trans (by unfold intZs; rw [List.getElem?_map, hx]; rfl)
            have H16 : Hid (∀ i x, fb[i]? = some x → w8.cell? ⟨g16, i, none⟩ = some (.int .i64 x)) := Lib.hid fun i x hx => (hv16.cellAt i (by have := (List.getElem?_eq_some_iff.1 hx).1; omega)).trans (by unfold intZs; rw [List.getElem?_map, hx]; rfl)
            have n14 : g14 ≠ g9 := by omega
            have n16 : g16 ≠ g9 := by omega
            have HFA := Lib.hid hfa
            have HFB := Lib.hid hfb
            have HFL := Lib.hid (And.intro hfal hfbl)
            have hz8 : g9 < w8.heap.size := by
              obtain ⟨g', c', e', -, hlt'⟩ := row_formJ HR3.out (by omega)
              injection e' with e1 e2 e3
              injection e1 with e1
              injection e1 with e1
              rw [e1]; exact hlt'
            clear hQ hfa hfb hfal hfbl hv14 hv16 hg14 hg16 hz14 hg9w
            go_wp2_with fail
            go_loopw [12, 18] (fun c j wx => ∃ (k : Nat), k ≤ Q ∧ j = .int .i64 k ∧ c = .int .i64 ((visS ls RR CC s ++ visK ls RR CC s k).length : Nat) ∧ Hid (wx.ownsRow g9 3 1 (.slice (some ⟨g9, 0, none⟩) M M) M (intZs (arrF (visS ls RR CC s ++ visK ls RR CC s k) M))) ∧ Hid (OnlyIn (· = g9) w8 wx)) (fun _ j _ => Q - (intOf j).toNat)
            case atStart => exact ⟨0, by omega, rfl, (by rw [HAL.out]; simp [visK]), (by have h := HR3.out; show World.ownsRow _ _ _ _ _ _ _; simpa [visK] using h), OnlyIn.refl _ _⟩
            case round =>
              obtain ⟨k, hk, rfl, rfl, HR, HO⟩ := hrel
              obtain ⟨vk, hvk⟩ : ∃ v, v = visS ls RR CC s ++ visK ls RR CC s k := ⟨_, rfl⟩
              rw [← hvk] at HR ⊢
              have hvk200 : vk.length ≤ 256 := by
                have h1 := HIM.out.many
                rw [visS_len, ← HN.out, ← HQ.out] at h1
                rw [hvk, List.length_append, visS_len, visK_len, ← HQ.out]
                have := Nat.mul_le_mul_right (2 * Q) (show s ≤ sn by omega)
                omega
              have HVK := Lib.hid hvk
              clear hvk
              by_cases hltk : k < Q
              · obtain ⟨x, hx⟩ : ∃ x, fa[k]? = some x := ⟨_, List.getElem?_eq_getElem (by rw [HFL.out.1]; exact hltk)⟩
                obtain ⟨y, hy⟩ : ∃ y, fb[k]? = some y := ⟨_, List.getElem?_eq_getElem (by rw [HFL.out.2]; exact hltk)⟩
                have hfr := HIM.out.fresh s k hlt (by rw [← HQ.out]; exact hltk) fa fb HFA.out.symm HFB.out.symm x y hx hy
                have c14 := (only_cell HO.out hg14b n14).trans (H14.out k x hx)
                have c16 := (only_cell HO.out hg16b n16).trans (H16.out k y hy)
                have HFR := Lib.hid hfr
                have HX := Lib.hid hx
                have HY := Lib.hid hy
                clear hx hy hfr
                have pc14 := cell_regrown c14
                have pc16 := cell_regrown c16
                clear c14 c16
                go_wp2_with fail
                refine wp_region_below_tail 0 8 (by kernel_rfl) (by kernel_rfl) fun R hR => ?_; simp only [List.take_succ_cons, List.take_zero, List.drop_succ_cons, List.drop_zero, leadA, leadV, Act.put, Act.eval, List.setIfInBounds_toArray, List.set_cons_zero, List.set_cons_succ, Array.getD_eq_getD_getElem?, List.getElem?_toArray, List.getElem?_cons_zero, List.getElem?_cons_succ, Option.getD_some]; (repeat (go_big_quiet_step (fail))); refine wpQuiet_nil ?_; rintro w6 ⟨⟨d6, os6⟩, rfl⟩; have hR := Lib.hid hR
                have hb6 := below_regrown wr d6 os6
                have HR6 := Lib.hid (row_later HR.out hb6)
                have HO6 := Lib.hid (HO.out.trans (OnlyIn.of_below hb6))
                clear pc14 pc16 hb6 HR HO
                dsimp only
                generalize grow (redrawn wr d6) os6 = w6 at *
                go_upto_region 25 with fail
                have HO7 : Hid (OnlyIn (· = g9) w8 (w6.alloc (.cells #[.int .i64 x, .int .i64 y] 3))) := Lib.hid (HO6.out.trans (OnlyIn.alloc _ _ _))
                have HR7 : Hid ((w6.alloc (.cells #[.int .i64 x, .int .i64 y] 3)).ownsRow g9 3 1 (.slice (some ⟨g9, 0, none⟩) M M) M (intZs (arrF vk M))) := Lib.hid (HR6.out.alloc _)
                have HBC : Hid ((w6.alloc (.cells #[.int .i64 x, .int .i64 y] 3)).heap[w6.heap.size]? = some (.cells #[.int .i64 x, .int .i64 y] 3 (0, 0))) := Lib.hid (World.alloc_heap_new _ _)
                have hgb : w6.heap.size ≠ g9 := by have := HO6.out.size; omega
                clear HO6 HR6
                generalize (w6.alloc (.cells #[.int .i64 x, .int .i64 y] 3)) = w10 at *
                generalize w6.heap.size = gb at *
                go_wp2_with fail
                obtain ⟨pr, hpr⟩ : ∃ l : List (Nat × Nat), l = [(x.natAbs, 2 * s), (y.natAbs, 2 * s + 1)] := ⟨_, rfl⟩
                have HPR := Lib.hid hpr
                clear hpr
                have hs4 : s < 4 := by omega
                go_loopw [12, 20] (fun c j wx => ∃ (d : Nat), d ≤ 2 ∧ j = .int .i64 d ∧ c = .int .i64 ((vk ++ pr.take d).length : Nat) ∧ Hid (wx.ownsRow g9 3 1 (.slice (some ⟨g9, 0, none⟩) M M) M (intZs (arrF (vk ++ pr.take d) M))) ∧ Hid (OnlyIn (· = g9) w10 wx)) (fun _ j _ => 2 - (intOf j).toNat)
                case atStart => exact ⟨0, by omega, rfl, by simp, (by have h := HR7.out; show World.ownsRow _ _ _ _ _ _ _; simpa using h), OnlyIn.refl _ _⟩
                case round =>
                  clear HR7
                  obtain ⟨d, hd, rfl, rfl, HR, HO⟩ := hrel
                  obtain ⟨f1, f2, f3, f4, f5, f6, f7⟩ := HFR.out
                  by_cases hd0 : d = 0
                  · subst hd0
                    have HV1 : Hid (vk ++ pr.take 0 = vk) := Lib.hid (by simp)
                    have HV2 : Hid (vk ++ pr.take 1 = vk ++ [(x.natAbs, 2 * s)]) := Lib.hid (by rw [HPR.out]; rfl)
                    have fn : x.natAbs ∉ vk.map (·.1) := by rw [HVK.out]; exact f1
                    as_aux_lemma =>
                      rw [HV1.out] at HR ⊢
                      obtain ⟨vd, hvd⟩ : ∃ v, v = (vk ++ pr.take 0) := ⟨_, rfl⟩
                      have hvd2 := HV1.out
                      rw [← hvd] at hvd2
                      rw [← hvd2] at HR fn ⊢
                      have hvl : vd.length ≤ 258 := by rw [hvd2]; first | omega | (simp only [List.length_append, List.length_cons, List.length_nil]; omega)
                      obtain ⟨P, hP⟩ : ∃ P, P = (x).natAbs := ⟨_, rfl⟩
                      have hP1 : 1 ≤ P := by rw [hP]; exact f3
                      have hPN : P ≤ 2 * N := by rw [hP, HN.out]; exact f4
                      have hmx : max x (-x) = (P : Int) := by omega
                      have hz1 : -130 ≤ x := by omega
                      have hz2 : x ≤ 130 := by omega
                      have bc := (only_cell (i := 0) HO.out (blk_lt HBC.out) hgb).trans (blk_cell HBC.out 0)
                      have g1 : decide (P < 1) = false := decide_eq_false (by omega)
                      have g2 : decide (M ≤ P) = false := decide_eq_false (by have := HMM.out; omega)
                      have hPM : P < M := by have := HMM.out; omega
                      rw [← hP] at fn
                      have r0 := (HR.out.cellAt P (by omega)).trans (show (intZs (arrF vd M))[P]? = some (.int .i64 (-1)) by
                        unfold intZs
                        rw [List.getElem?_map, arrF_at hPM, whF_new fn]; rfl)
                      have f0 := HR.out.frozenAt P
                      have HFN := Lib.hid fn
                      have HVD := Lib.hid hvd2
                      have HPZ := Lib.hid hP
                      have HR0 := Lib.hid r0
                      clear fn hvd hvd2 hP f1 f2 f3 f4 f5 f6 f7 HV1 r0 f0
                      go_wp2_with fail
                      go_quiet (fail)
                      rw [show (if x < -x then -x else x) = (P : Int) by split <;> omega]
                      have hbq : Below wr.heap.size wr (wr.drewN nq) := bdrewN (Below.refl _ _) nq
                      have HR2 := Lib.hid (row_later HR.out hbq)
                      have HO2 := Lib.hid (HO.out.trans (OnlyIn.of_below hbq))
                      clear HR HO HR0 hbq bc hmx hz1 hz2
                      generalize wr.drewN nq = w11 at *
                      have r0 := (HR2.out.cellAt P (by omega)).trans (show (intZs (arrF vd M))[P]? = some (.int .i64 (-1)) by
                        unfold intZs
                        rw [List.getElem?_map, arrF_at hPM, whF_new HFN.out]; rfl)
                      have f0 := HR2.out.frozenAt P
                      have hst := (HR2.out.stored P (.int .i64 (2 * (s : Int)))).1
                      rw [intZs_set, show (arrF vd M).set P (2 * (s : Int)) = arrF (vd ++ [(P, 2 * s)]) M from by rw [show (2 * (s : Int)) = ((2 * s : Nat) : Int) by omega]; exact arrF_set HFN.out] at hst
                      have HST := Lib.hid hst
                      have HO3 := Lib.hid (HO2.out.trans (OnlyIn.setCell (X := (· = g9)) w11 ⟨g9, P, none⟩ (.int .i64 (2 * (s : Int))) rfl))
                      clear hst
                      go_wp2_with fail
                      refine ⟨⟨0 + 1, by omega, by go_num, ?_, ?_, HO3.out⟩, by simp [intOf]⟩
                      · first | rw [HV2.out] | rw [show vd ++ pr.take 1 = vd ++ [(P, 2 * s)] from by rw [HPR.out, HPZ.out]; rfl]
                        first | (rw [List.length_append]; go_num) | (rw [← HVD.out, List.length_append]; go_num)
                      · show World.ownsRow _ _ _ _ _ _ _
                        have h := HST.out
                        first | (rw [HV2.out, ← HVD.out, ← HPZ.out]; exact h) | (rw [show vd ++ pr.take 1 = vd ++ [(P, 2 * s)] from by rw [HPR.out, HPZ.out]; rfl]; exact h)
                  · by_cases hd1 : d = 1
                    · subst hd1
                      have HV1 : Hid (vk ++ pr.take 1 = vk ++ [(x.natAbs, 2 * s)]) := Lib.hid (by rw [HPR.out]; rfl)
                      have HV2 : Hid (vk ++ pr.take 2 = (vk ++ [(x.natAbs, 2 * s)]) ++ [(y.natAbs, 2 * s + 1)]) := Lib.hid (by rw [HPR.out]; simp)
                      have fn : y.natAbs ∉ (vk ++ [(x.natAbs, 2 * s)]).map (·.1) := by rw [HVK.out]; exact f2
                      as_aux_lemma =>
                        rw [HV1.out] at HR ⊢
                        obtain ⟨vd, hvd⟩ : ∃ v, v = (vk ++ pr.take 1) := ⟨_, rfl⟩
                        have hvd2 := HV1.out
                        rw [← hvd] at hvd2
                        rw [← hvd2] at HR fn ⊢
                        have hvl : vd.length ≤ 258 := by rw [hvd2]; first | omega | (simp only [List.length_append, List.length_cons, List.length_nil]; omega)
                        obtain ⟨P, hP⟩ : ∃ P, P = (y).natAbs := ⟨_, rfl⟩
                        have hP1 : 1 ≤ P := by rw [hP]; exact f5
                        have hPN : P ≤ 2 * N := by rw [hP, HN.out]; exact f6
                        have hmx : max y (-y) = (P : Int) := by omega
                        have hz1 : -130 ≤ y := by omega
                        have hz2 : y ≤ 130 := by omega
                        have bc := (only_cell (i := 1) HO.out (blk_lt HBC.out) hgb).trans (blk_cell HBC.out 1)
                        have g1 : decide (P < 1) = false := decide_eq_false (by omega)
                        have g2 : decide (M ≤ P) = false := decide_eq_false (by have := HMM.out; omega)
                        have hPM : P < M := by have := HMM.out; omega
                        rw [← hP] at fn
                        have r0 := (HR.out.cellAt P (by omega)).trans (show (intZs (arrF vd M))[P]? = some (.int .i64 (-1)) by
                          unfold intZs
                          rw [List.getElem?_map, arrF_at hPM, whF_new fn]; rfl)
                        have f0 := HR.out.frozenAt P
                        have HFN := Lib.hid fn
                        have HVD := Lib.hid hvd2
                        have HPZ := Lib.hid hP
                        have HR0 := Lib.hid r0
                        clear fn hvd hvd2 hP f1 f2 f3 f4 f5 f6 f7 HV1 r0 f0
                        go_wp2_with fail
                        go_quiet (fail)
                        rw [show (if y < -y then -y else y) = (P : Int) by split <;> omega]
                        have hbq : Below wr.heap.size wr (wr.drewN nq) := bdrewN (Below.refl _ _) nq
                        have HR2 := Lib.hid (row_later HR.out hbq)
                        have HO2 := Lib.hid (HO.out.trans (OnlyIn.of_below hbq))
                        clear HR HO HR0 hbq bc hmx hz1 hz2
                        generalize wr.drewN nq = w11 at *
                        have r0 := (HR2.out.cellAt P (by omega)).trans (show (intZs (arrF vd M))[P]? = some (.int .i64 (-1)) by
                          unfold intZs
                          rw [List.getElem?_map, arrF_at hPM, whF_new HFN.out]; rfl)
                        have f0 := HR2.out.frozenAt P
                        have hst := (HR2.out.stored P (.int .i64 (2 * (s : Int) + 1))).1
                        rw [intZs_set, show (arrF vd M).set P (2 * (s : Int) + 1) = arrF (vd ++ [(P, 2 * s + 1)]) M from by rw [show (2 * (s : Int) + 1) = ((2 * s + 1 : Nat) : Int) by omega]; exact arrF_set HFN.out] at hst
                        have HST := Lib.hid hst
                        have HO3 := Lib.hid (HO2.out.trans (OnlyIn.setCell (X := (· = g9)) w11 ⟨g9, P, none⟩ (.int .i64 (2 * (s : Int) + 1)) rfl))
                        clear hst
                        go_wp2_with fail
                        refine ⟨⟨1 + 1, by omega, by go_num, ?_, ?_, HO3.out⟩, by simp [intOf]⟩
                        · first | rw [HV2.out] | rw [show vd ++ pr.take 1 = vd ++ [(P, 2 * s + 1)] from by rw [HPR.out, HPZ.out]; rfl]
                          first | (rw [List.length_append]; go_num) | (rw [← HVD.out, List.length_append]; go_num)
                        · show World.ownsRow _ _ _ _ _ _ _
                          have h := HST.out
                          first | (rw [HV2.out, ← HVD.out, ← HPZ.out]; exact h) | (rw [show vd ++ pr.take 1 = vd ++ [(P, 2 * s + 1)] from by rw [HPR.out, HPZ.out]; rfl]; exact h)
                    · obtain rfl : d = 2 := by omega
                      clear hd0 hd1 hd
                      have HV3 : Hid (vk ++ pr.take 2 = visS ls RR CC s ++ visK ls RR CC s (k + 1)) := Lib.hid (by
                        rw [visK_succ, ← List.append_assoc, ← HVK.out, HPR.out]
                        unfold pairI
                        rw [← HFA.out, ← HFB.out, HX.out, HY.out]; rfl)
                      have HOw := Lib.hid (HO7.out.trans HO.out)
                      have c14 := (only_cell HOw.out hg14b n14).trans (H14.out k x HX.out)
                      have c16 := (only_cell HOw.out hg16b n16).trans (H16.out k y HY.out)
                      have hxN : x.natAbs ≤ 128 := by have := HN.out; omega
                      have hyN : y.natAbs ≤ 128 := by have := HN.out; omega
                      unfold backB at f7
                      simp only [Bool.and_eq_true, beq_iff_eq, bne_iff_ne, ne_eq, decide_eq_true_eq] at f7
                      obtain ⟨⟨⟨⟨k1, k2⟩, k3⟩, k4⟩, k5⟩ := f7
                      have k6 : (x == y) = false := beq_eq_false_iff_ne.2 k3
                      have k1' : (x < 0) ↔ (y < 0) := decide_eq_decide.1 k1
                      have HAL2 : Hid ((vk ++ pr.take 2).length ≤ 260) := Lib.hid (by rw [List.length_append, HPR.out]; simp; omega)
                      clear f1 f2 f3 f4 f5 f6 k1 k3
                      by_cases hx0 : x < 0
                      · have hy0 : y < 0 := k1'.1 hx0
                        have d1 : decide (x < 0) = true := decide_eq_true hx0
                        have d2 : decide (y < 0) = true := decide_eq_true hy0
                        have l1 : x < -x := by omega
                        have l2 : y < -y := by omega
                        have b1 : -130 ≤ x := by omega
                        have b2 : -130 ≤ y := by omega
                        have m1 : ((-x - 1) / 2 != (-y - 1) / 2) = false := by
                          have : (-x - 1) / 2 = (-y - 1) / 2 := by omega
                          simp [this]
                        clear k1' k2 k4 k5
                        as_aux_lemma =>
                          go_wp2_with fail
                          go_quiet (fail)
                          go_wp2_with fail
                          go_roundw
                          case rel => exact ⟨k + 1, by omega, by go_num, (by have e := congrArg List.length HV3.out; first | rw [e] | (rw [List.length_append, List.length_take] at e; rw [← e]; go_num)), (by show World.ownsRow _ _ _ _ _ _ _; rw [← HV3.out]; exact row_later HR.out (bdrewN (Below.refl _ _) nq)), HOw.out.trans (OnlyIn.of_below (bdrewN (Below.refl _ _) nq))⟩
                          case measure => simp [intOf]; omega
                      · have hy0 : ¬ y < 0 := fun h => hx0 (k1'.2 h)
                        have d1 : decide (x < 0) = false := decide_eq_false hx0
                        have d2 : decide (y < 0) = false := decide_eq_false hy0
                        have l1 : ¬ x < -x := by omega
                        have l2 : ¬ y < -y := by omega
                        have b1 : x ≤ 130 := by omega
                        have b2 : y ≤ 130 := by omega
                        have b3 : 1 ≤ x := by omega
                        have b4 : 1 ≤ y := by omega
                        have m1 : ((x - 1) / 2 != (y - 1) / 2) = false := by
                          have : (x - 1) / 2 = (y - 1) / 2 := by omega
                          simp [this]
                        clear k1' k2 k4 k5
                        as_aux_lemma =>
                          go_wp2_with fail
                          go_quiet (fail)
                          go_wp2_with fail
                          go_roundw
                          case rel => exact ⟨k + 1, by omega, by go_num, (by have e := congrArg List.length HV3.out; first | rw [e] | (rw [List.length_append, List.length_take] at e; rw [← e]; go_num)), (by show World.ownsRow _ _ _ _ _ _ _; rw [← HV3.out]; exact row_later HR.out (bdrewN (Below.refl _ _) nq)), HOw.out.trans (OnlyIn.of_below (bdrewN (Below.refl _ _) nq))⟩
                          case measure => simp [intOf]; omega
              · obtain rfl : Q = k := by omega
                go_wp2_with fail
                go_roundw
                case rel => exact ⟨s + 1, by omega, by go_num, by rw [visS_succ, ← HQ.out, ← HVK.out], (by show World.ownsRow _ _ _ _ _ _ _; rw [visS_succ, ← HQ.out, ← HVK.out]; exact HR.out), HO.out.below HB3.out (Nat.le_of_lt hz8) (fun k hk => by rw [hk]; exact Nat.le_refl _)⟩
                case measure => simp [intOf]; omega
          · obtain rfl : sn = s := by omega
            have g1 : decide ((sn : Int) < m.sheets) = false := by rw [HMS.out]; exact decide_eq_false (by omega)
            have hal2 : al = 2 * N := by rw [hal, HIM.out.many, HN.out]
            have g2 : ((al : Int) != 2 * (N : Int)) = false := by rw [hal2]; simp
            have p0 := blk_cell b1 0
            have p1 := blk_cell b1 1
            have p2 := blk_cell b1 2
            have p3 := blk_cell b1 3
            have q0 := blk_cell b3 0
            have q1 := blk_cell b3 1
            have q2 := blk_cell b3 2
            have q3 := blk_cell b3 3
            have HLr := Lib.hid (HL.out.later hbw)
            have hb0r := Lib.hid hb0
            clear hal hal2 hlt
            go_wp2_with fail
            clear p0 p1 p2 p3 q0 q1 q2 q3 b1 b3 hb0
            go_loopw [22] (fun j wx => ∃ (i q : Nat), i + 1 ≤ N ∧ j = .int .i64 i ∧ wx = wr.drewN q) (fun j _ => N - (intOf j).toNat)
            case atStart => exact ⟨0, 0, by omega, rfl, rfl⟩
            case round =>
              obtain ⟨i, q, hi, rfl, rfl⟩ := hrel
              by_cases hli : i + 1 < N
              · obtain ⟨y, hy⟩ : ∃ y, ls[i]? = some y := ⟨_, List.getElem?_eq_getElem (by have := HN.out; omega)⟩
                obtain ⟨z, hz⟩ : ∃ z, ls[i + 1]? = some z := ⟨_, List.getElem?_eq_getElem (by have := HN.out; omega)⟩
                obtain ⟨k1, k2, k3⟩ := HIM.out.at_ i y hy
                have k3 := k3 z hz
                have y0 := (leaf_cells HLr.out hy).1
                have z0 := (leaf_cells HLr.out hz).1
                have wh : ∀ j, j < M → wr.cell? ⟨g9, j, none⟩ = some (.int .i64 (whF (visS ls RR CC sn) j)) := fun j hj => (HR.out.cellAt j (by omega)).trans (by unfold intZs; rw [List.getElem?_map, arrF_at hj]; rfl)
                have w1 := wh (2 * i + 1) (by have := HMM.out; omega)
                have w2 := wh (2 * i + 2) (by have := HMM.out; omega)
                have w3' := wh (2 * i + 3) (by have := HMM.out; omega)
                generalize whF (visS ls RR CC sn) (2 * i + 1) = v1 at *
                generalize whF (visS ls RR CC sn) (2 * i + 2) = v2 at *
                generalize whF (visS ls RR CC sn) (2 * i + 3) = v3 at *
                have hys : y.sheet < 1000 := (FN.out.places_ok y (by rw [← HLS.out]; exact List.mem_of_getElem? hy)).1
                have f1 : (wrap64 (v1.tdiv 2) != (y.sheet : Int)) = false := by
                  rw [Int.tdiv_eq_ediv_of_nonneg k2, k1, show wrap64 (y.sheet : Int) = (y.sheet : Int) by unfold wrap64; omega]
                  simp
                have hiM : 2 * i + 3 < M := by have := HMM.out; omega
                clear hy hz wh
                by_cases hyz : y.sheet = z.sheet
                · have f2 : ((y.sheet : Int) == (z.sheet : Int)) = true := by simp [hyz]
                  have f3 : (v2 != v3) = false := by rw [k3 hyz]; simp
                  clear k1 k3 hyz
                  go_wp2_with fail
                  go_quiet (fail)
                  go_wp2_with fail
                  go_roundw
                  case rel => exact ⟨i + 1, _, by omega, by go_num, rfl⟩
                  case measure => simp [intOf]; omega
                · have f2 : ((y.sheet : Int) == (z.sheet : Int)) = false := beq_eq_false_iff_ne.2 (by omega)
                  clear k1 k3 hyz
                  go_wp2_with fail
                  go_quiet (fail)
                  go_wp2_with fail
                  go_roundw
                  case rel => exact ⟨i + 1, _, by omega, by go_num, rfl⟩
                  case measure => simp [intOf]; omega
              · obtain rfl : N = i + 1 := by omega
                have HB7 := Lib.hid (bdrewN hb0r.out q)
                clear hi hli
                go_wp2_with fail
                refine (awake_any2 (t := t) (blk_later HB7.out HW.out)).mono ?_
                rintro e w6 ⟨rfl, hb⟩
                have hb6 := HB7.out.trans (hb.mono HB7.out.size)
                clear hb
                go_wp2_with fail
                go_ret
                exact ⟨rfl, hb6⟩
  · have e0 : (ep == 0) = false := by simp [h0]
    have HE := Lib.hid (show errP p ≠ 0 by rw [← HEP.out]; exact h0)
    go_wp2_with fail
    refine (Forme_bad p ⟨0, 0, 1, false⟩ 0 true _ _ (HP.out.later hb0) HE.out).mono ?_
    rintro e w9 ⟨rfl, hb⟩
    rw [← HEP.out]
    have hz0 : (ep != 0) = true := by simpa using h0
    clear HEP
    replace b1 := blk_later hb b1
    replace hb0 := hb0.trans (hb.mono hb0.size)
    clear p0 p1 p2 p3 hb
    generalize w9 = w4 at *
    have p0 := blk_cell b1 0
    have p1 := blk_cell b1 1
    have p2 := blk_cell b1 2
    have p3 := blk_cell b1 3
    go_wp2_with fail
    refine (awake_any2 (t := t) (blk_later hb0 HW.out)).mono ?_
    rintro e w6 ⟨rfl, hb⟩
    have hb6 := hb0.trans (hb.mono hb0.size)
    clear hb0 hb b1 p0 p1 p2 p3
    go_wp2_with fail
    go_ret
    exact ⟨rfl, hb6⟩
end Go.Proofs.YtdpiemgdenfkoaaGreatDoor
