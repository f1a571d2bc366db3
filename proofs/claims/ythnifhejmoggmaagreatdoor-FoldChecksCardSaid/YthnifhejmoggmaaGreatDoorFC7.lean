/- The parts Iq, Ir, Vz, Ya of the proof, joined. It holds without conditions of its own. -/
import Derived.Test.YthnifhejmoggmaaGreatDoorFC6
import Derived.Test.YthnifhejmoggmaaGreatDoorFC3
/- The reference: Check of a press. -/
namespace Go.Proofs.YthnifhejmoggmaaGreatDoor
set_option linter.unusedSimpArgs false
set_option linter.unusedVariables false
open Go Go.RowKit Go.Sort Go.BigFrame
attribute [local go_sem] Oper.semAt_some putAll

/-- The names that were met ahead of one. -/
def seenF (xs : List Fmt) (k : Nat) : List Bs := (xs.take k).map Fmt.name
def seenP (xs : List Ppr) (k : Nat) : List Bs := (xs.take k).map Ppr.name
theorem seenF_next {xs : List Fmt} {k : Nat} {x : Fmt} (h : xs[k]? = some x) : seenF xs (k + 1) = seenF xs k ++ [x.name] := by
  unfold seenF; rw [List.take_add_one, h]; simp
theorem seenP_next {xs : List Ppr} {k : Nat} {x : Ppr} (h : xs[k]? = some x) : seenP xs (k + 1) = seenP xs k ++ [x.name] := by
  unfold seenP; rw [List.take_add_one, h]; simp
theorem seenF_len {xs : List Fmt} {k : Nat} (h : k ≤ xs.length) : (seenF xs k).length = k := by unfold seenF; simp; omega
theorem seenP_len {xs : List Ppr} {k : Nat} (h : k ≤ xs.length) : (seenP xs k).length = k := by unfold seenP; simp; omega

theorem both2_is (a b c d lo hi x : Int) (hx : x = spansErr lo hi a b c d) (w : World) :
    Calls Tryz.prog 36 #[.agg #[.int .i64 a, .int .i64 b], .agg #[.int .i64 c, .int .i64 d], .int .i64 lo, .int .i64 hi] w fun e w' => e = .returned (.int .i64 x) ∧ Below w.heap.size w w' := by
  subst hx; exact both_any a b c d lo hi w

set_option maxRecDepth 100000 in
set_option maxHeartbeats 4000000 in
theorem refCheck2_any (p : Prs) (v : Value) (w : World) (hp : PrsAt w.heap.size w v p) :
    Calls Tryz.prog 10 #[v] w fun e w' => e = .returned (.tuple #[.int .i64 ((checkP p).1 : Nat), .int .i64 ((checkP p).2.1 : Nat), .int .i64 (checkP p).2.2]) ∧ Below w.heap.size w w' := by
  obtain ⟨fv, pv, rfl, hf, hq, hs1, hs2⟩ := hp
  have HF := Lib.hid hf
  have HQ := Lib.hid hq
  have HS1 := Lib.hid hs1
  have HS2 := Lib.hid hs2
  obtain ⟨a, cap, rfl, hfc⟩ := hf
  obtain ⟨a2, cap2, rfl, hqc⟩ := hq
  obtain ⟨n1, hn1⟩ : ∃ n, n = p.fmts.length := ⟨_, rfl⟩
  obtain ⟨n2, hn2⟩ : ∃ n, n = p.pprs.length := ⟨_, rfl⟩
  rw [← hn1] at HF ⊢
  rw [← hn2] at HQ ⊢
  have HN1 := Lib.hid hn1
  have HN2 := Lib.hid hn2
  have HFC := Lib.hid hfc
  have HQC := Lib.hid hqc
  clear hs1 hs2 hfc hqc hn1 hn2
  obtain ⟨⟨r1, r2, r3⟩, hr⟩ : ∃ r, r = checkP p := ⟨_, rfl⟩
  rw [← hr]
  obtain ⟨⟨x1, x2⟩, hx⟩ : ∃ x, x = fmtsErr p.fmts := ⟨_, rfl⟩
  obtain ⟨⟨y1, y2⟩, hy⟩ : ∃ y, y = pprsErr p.pprs := ⟨_, rfl⟩
  have HR : Hid ((r1, r2, r3) = if x2 ≠ 0 then (1, x1, x2) else if y2 ≠ 0 then (2, y1, y2) else if (inI 0 60 p.trim && inI 1 4 p.sheets) = false then (3, 0, 7) else (0, 0, 0)) := Lib.hid (by
    rw [hr]; unfold checkP; rw [← hx, ← hy])
  have HX1 : Hid ((x1, x2) = listR 1 6 Fmt.name fmtErr p.fmts) := Lib.hid hx
  have HY1 : Hid ((y1, y2) = listR 1 4 Ppr.name pprErr p.pprs) := Lib.hid hy
  clear hr hx hy
  dsimp only
  go_enter Tryz.func10, Tryz.ntmps10
  go_wp2_with fail
  refine (in2_any _ 1 6 _).mono ?_
  rintro e w1 ⟨rfl, hw⟩
  have hb0 : Below w.heap.size w w1 := by rw [hw]; exact (by repeat (first | exact Below.refl _ _ | assumption | (refine Below.alloc ?_ ?_ _; rotate_left; · (first | omega | (simp; done) | (simp; omega) | fail)) | (refine Below.setCell ?_ ?_ _; rotate_left; · (first | omega | (simp; done) | (simp; omega) | fail)) | refine Below.drew ?_ | fail))
  have b1 : w1.heap[w.heap.size]? = some (.cells #[.slice a n1 cap, .slice a2 n2 cap2, .int .i64 p.trim, .int .i64 p.sheets] 25) := by rw [hw]; exact (by repeat (first | exact heap_alloc_at _ _ _ (by (first | omega | (simp; done) | (simp; omega) | (simp at *; omega) | fail)) | assumption | rw [heap_alloc_past _ _ _ (by (first | omega | (simp; done) | (simp; omega) | (simp at *; omega) | fail))] | rw [heap_setCell_past _ _ _ _ (by (first | omega | (simp; done) | (simp; omega) | (simp at *; omega) | fail))] | fail))
  clear hw
  have HB0 := Lib.hid hb0
  have HBz := HB0
  have hz0 := hb0.size
  obtain ⟨ei, hi1, hi2, hi3, hi4⟩ := elemStr
  have HI := Lib.hid (And.intro hi1 (And.intro hi2 (And.intro hi3 hi4)))
  have HB1 := Lib.hid b1
  clear hi1 hi2 hi3 hi4 hb0
  cases hi : inI 1 6 n1 with
  | false =>
    have HX2 : Hid (r1 = 1 ∧ r2 = 0 ∧ r3 = 3) := Lib.hid (by
      have h1 : (x1, x2) = (0, 3) := by rw [HX1.out]; unfold listR; rw [← HN1.out, if_pos hi]
      have h2 := HR.out
      simp at h1
      rw [h1.1, h1.2] at h2
      simpa using h2)
    clear hi
    go_wp2_with fail
    go_ret3
    exact ⟨by rw [(HX2).out.1, (HX2).out.2.1, (HX2).out.2.2]; rfl, HBz.out⟩
  | true =>
    have HX2 : Hid ((x1, x2) = firstE Fmt.name fmtErr [] 0 p.fmts) := Lib.hid (by rw [HX1.out]; unfold listR; rw [← HN1.out, if_neg (by rw [hi]; decide)])
    have hle1 : n1 ≤ 6 := by simp only [inI, Bool.and_eq_true, decide_eq_true_eq] at hi; omega
    clear hi
    have HR0 : Hid (w1.ownsRow w1.heap.size 9 1 (.slice none 0 0) 0 []) := Lib.hid (World.ownsRow_nil _ _ _ _)
    have HBB : Hid (Below w1.heap.size w1 w1) := Lib.hid (Below.refl _ _)
    have c0 := blk_cell b1 0
    have c1 := blk_cell b1 1
    have c2 := blk_cell b1 2
    have c3 := blk_cell b1 3
    go_wp2_with fail
    go_loopw [5, 6] (fun v i wr => ∃ (k : Nat), k ≤ n1 ∧ i = .int .i64 k ∧ Hid (wr.ownsRow w1.heap.size 9 1 v k ((seenF p.fmts k).map S)) ∧ Hid (Below w1.heap.size w1 wr) ∧ Hid ((x1, x2) = firstE Fmt.name fmtErr (seenF p.fmts k) k (p.fmts.drop k))) (fun _ i _ => n1 - (intOf i).toNat)
    case atStart => exact ⟨0, by omega, rfl, (by have h := HR0.out; show World.ownsRow _ _ _ _ _ _ _; simpa [seenF] using h), HBB, HX2⟩
    case round =>
      clear HR0 HBB c0 c1 c2 c3
      obtain ⟨k, hk, rfl, HRo, HB, HZ⟩ := hrel
      have hb3 := blk_later HB.out HB1.out
      have hzr := HB.out.size
      have c0 := blk_cell hb3 0
      have c1 := blk_cell hb3 1
      have c2 := blk_cell hb3 2
      have c3 := blk_cell hb3 3
      by_cases hlt : k < n1
      · obtain ⟨x, hx⟩ : ∃ x, p.fmts[k]? = some x := ⟨_, List.getElem?_eq_getElem (by have := HN1.out; omega)⟩
        obtain ⟨b', off, rfl, hb', hc⟩ := HFC.out (fun h => by rw [h] at hx; simp at hx)
        have q0 : wr.cell? ⟨b', off + k * 2, none⟩ = some (S x.name) := cell_later' (HB0.out.trans (HB.out.mono hz0)) (by have := hc k x hx 0 _ rfl; simpa using this)
        have q1 : wr.cell? ⟨b', off + k * 2 + 1, none⟩ = some (S x.folds) := cell_later' (HB0.out.trans (HB.out.mono hz0)) (by have := hc k x hx 1 _ rfl; simpa using this)
        have HQ1 : Hid (w.cell? ⟨b', off + k * 2 + 1, none⟩ = some (S x.folds)) := Lib.hid (by have := hc k x hx 1 _ rfl; simpa using this)
        have HX := Lib.hid hx
        have HSx := Lib.hid (HS1.out x (List.mem_of_getElem? hx))
        have hln : (seenF p.fmts k).length = k := seenF_len (by have := HN1.out; omega)
        have HLN := Lib.hid hln
        obtain ⟨er, her⟩ : ∃ er, er = nmErr (seenF p.fmts k) x.name := ⟨_, rfl⟩
        have HER := Lib.hid her
        clear hx hc hln her
        go_wp2_with fail
        refine (refFresh_any x.name (seenF p.fmts k) u5 _ (strs_of_row (by rw [HLN.out]; exact HRo.out)) (by rw [HLN.out]; omega) HSx.out.1).mono ?_
        rintro e w6 ⟨rfl, hb6⟩
        rw [← HER.out]
        have HB6 := Lib.hid (HB.out.trans (hb6.mono hzr))
        have HR6 := Lib.hid (row_later HRo.out hb6)
        have hb3 := blk_later hb6 hb3
        have q0 := cell_later' hb6 q0
        have q1 := cell_later' hb6 q1
        have hz6 := HB6.out.size
        clear c0 c1 c2 c3 hb6 HRo
        have c0 := blk_cell hb3 0
        have c1 := blk_cell hb3 1
        have c2 := blk_cell hb3 2
        have c3 := blk_cell hb3 3
        obtain ⟨hi1, hi2, hi3, hi4⟩ := HI.out
        go_wp2_with (at_builtin; refine wpList_append_own _ rfl _ _ 80 rfl w1.heap.size 9 ei _ 1 16 undStrs hi1 hi2 hi3 hi4 rfl (by decide) u5 k ((seenF p.fmts k).map S) rfl (HR6.out.alloc _) ⟨w6.heap.size, 0, none⟩ 1 1 [S x.name] rfl rfl ?c1 ?c2 ?c3 ?c4 ?c5 ?c6)
        case c1 => exact cells_new _ _ _
        case c2 => simp [Value.oneCell']
        case c3 => simp only [maxLen]; omega
        case c4 => omega
        case c5 => simp; omega
        case c6 =>
          rintro v' w7 hown hgrow -
          have HB7 := Lib.hid (HB6.out.trans ((((Below.refl _ w6).alloc (Nat.le_refl _) (.cells #[S x.name] 9)).mono hz6).trans (below_row (HR6.out.alloc _) (by simp; omega) hgrow)))
          have HO := Lib.hid hown
          have hb3 := blk_later HB7.out HB1.out
          have q1 : w7.cell? ⟨b', off + k * 2 + 1, none⟩ = some (S x.folds) := cell_later' (HB0.out.trans (HB7.out.mono hz0)) (HQ1.out)
          have hz7 := HB7.out.size
          clear hgrow hown hi1 hi2 hi3 hi4 HB6 HR6 c0 c1 c2 c3 HB
          have c0 := blk_cell hb3 0
          have c1 := blk_cell hb3 1
          have c2 := blk_cell hb3 2
          have c3 := blk_cell hb3 3
          by_cases h0 : er = 0
          · have HFE : Hid (fmtErr (seenF p.fmts k) x = fdsErr x.folds) := Lib.hid (by unfold fmtErr; rw [← HER.out, if_pos h0])
            clear HER
            subst h0
            go_wp2_with fail
            refine (refFolds_any x.folds _ HSx.out.2).mono ?_
            rintro e w8 ⟨rfl, hb8⟩
            obtain ⟨ef, hef⟩ : ∃ ef, ef = fdsErr x.folds := ⟨_, rfl⟩
            rw [← hef]
            have HEF : Hid (fmtErr (seenF p.fmts k) x = ef) := Lib.hid (HFE.out.trans hef.symm)
            have HB8 := Lib.hid (HB7.out.trans (hb8.mono hz7))
            have HR8 := Lib.hid (row_later HO.out hb8)
            clear hef HFE hb8 HO HB7 c0 c1 c2 c3
            by_cases h1 : ef = 0
            · have HZ2 : Hid ((x1, x2) = firstE Fmt.name fmtErr (seenF p.fmts (k + 1)) (k + 1) (p.fmts.drop (k + 1))) := Lib.hid (by rw [HZ.out, firstE_step HX.out (HEF.out.trans h1), seenF_next HX.out])
              clear HEF HZ
              subst h1
              go_wp2_with fail
              go_roundw
              case rel => exact ⟨k + 1, by omega, by go_num, (by
                have h := HR8.out
                rw [seenF_next HX.out, List.map_append]
                show World.ownsRow _ _ _ _ _ _ _
                simpa using h), HB8, HZ2⟩
              case measure => simp [intOf]; omega
            · have HXX : Hid (x1 = k ∧ x2 = ef) := Lib.hid (by
                have h2 := HZ.out.trans (firstE_stop HX.out (fun h => h1 (HEF.out.symm.trans h)))
                rw [HEF.out] at h2
                simpa using h2)
              have HX2 : Hid (r1 = 1 ∧ r2 = k ∧ r3 = ef) := Lib.hid (by
                have h2 := HR.out
                rw [HXX.out.1, HXX.out.2, if_pos h1] at h2
                simpa using h2)
              have HBz := Lib.hid (HB0.out.trans (HB8.out.mono hz0))
              have h0b : (ef != 0) = true := by simp [h1]
              clear h1 HXX HEF
              go_wp2_with fail
              go_ret3
              exact ⟨by rw [(HX2).out.1, (HX2).out.2.1, (HX2).out.2.2]; rfl, HBz.out⟩
          · have HFE : Hid (fmtErr (seenF p.fmts k) x = er) := Lib.hid (by unfold fmtErr; rw [← HER.out, if_neg h0])
            have HXX : Hid (x1 = k ∧ x2 = er) := Lib.hid (by
              have h2 := HZ.out.trans (firstE_stop HX.out (fun h => h0 (HFE.out.symm.trans h)))
              rw [HFE.out] at h2
              simpa using h2)
            have HX2 : Hid (r1 = 1 ∧ r2 = k ∧ r3 = er) := Lib.hid (by
              have h2 := HR.out
              rw [HXX.out.1, HXX.out.2, if_pos h0] at h2
              simpa using h2)
            have HBz := Lib.hid (HB0.out.trans (HB7.out.mono hz0))
            have h0b : (er != 0) = true := by simp [h0]
            have h0c : (er == 0) = false := by simp [h0]
            clear h0 HXX HFE
            go_wp2_with fail
            go_ret3
            exact ⟨by rw [(HX2).out.1, (HX2).out.2.1, (HX2).out.2.2]; rfl, HBz.out⟩
      · have hkN : k = n1 := by omega
        have hx2 : x1 = 0 ∧ x2 = 0 := by
          have h := HZ.out.trans (firstE_end (by have := HN1.out; omega))
          simpa using h
        have HRP : Hid ((r1, r2, r3) = if y2 ≠ 0 then (2, y1, y2) else if (inI 0 60 p.trim && inI 1 4 p.sheets) = false then (3, 0, 7) else (0, 0, 0)) := Lib.hid (by rw [HR.out, if_neg (by rw [hx2.2]; decide)])
        have HB0 := Lib.hid (HB0.out.trans (HB.out.mono hz0))
        have HB1 := Lib.hid hb3
        clear HZ HRo HR HX1 HX2 hx2 HFC HF HS1 hkN HB HBz
        clear hle1 hk
        go_wp2_with fail
        refine (in2_any _ 1 4 _).mono ?_
        rintro e wv ⟨rfl, hw⟩
        subst hw
        have HBv := HB0
        have HBz := HB0
        have hz9 := HBv.out.size
        have HB9 := HB1
        cases hi : inI 1 4 n2 with
        | false =>
          have HX2 : Hid (r1 = 2 ∧ r2 = 0 ∧ r3 = 3) := Lib.hid (by
            have h1 : (y1, y2) = (0, 3) := by rw [HY1.out]; unfold listR; rw [← HN2.out, if_pos hi]
            have h2 := HRP.out
            simp at h1
            rw [h1.1, h1.2] at h2
            simpa using h2)
          clear hi
          go_wp2_with fail
          go_ret3
          exact ⟨by rw [(HX2).out.1, (HX2).out.2.1, (HX2).out.2.2]; rfl, HBz.out⟩
        | true =>
          have HX3 : Hid ((y1, y2) = firstE Ppr.name pprErr [] 0 p.pprs) := Lib.hid (by rw [HY1.out]; unfold listR; rw [← HN2.out, if_neg (by rw [hi]; decide)])
          have hle1 : n2 ≤ 4 := by simp only [inI, Bool.and_eq_true, decide_eq_true_eq] at hi; omega
          clear hi
          have HR0 : Hid (wv.ownsRow wv.heap.size 9 1 (.slice none 0 0) 0 []) := Lib.hid (World.ownsRow_nil _ _ _ _)
          have HBB : Hid (Below wv.heap.size wv wv) := Lib.hid (Below.refl _ _)
          clear hzr b1 hz0
          go_wp2_with fail
          go_loopw [5, 8] (fun v i wr => ∃ (k : Nat), k ≤ n2 ∧ i = .int .i64 k ∧ Hid (wr.ownsRow wv.heap.size 9 1 v k ((seenP p.pprs k).map S)) ∧ Hid (Below wv.heap.size wv wr) ∧ Hid ((y1, y2) = firstE Ppr.name pprErr (seenP p.pprs k) k (p.pprs.drop k))) (fun _ i _ => n2 - (intOf i).toNat)
          case atStart => exact ⟨0, by omega, rfl, (by have h := HR0.out; show World.ownsRow _ _ _ _ _ _ _; simpa [seenP] using h), HBB, HX3⟩
          case round =>
            clear HR0 HBB c0 c1 c2 c3
            obtain ⟨k, hk, rfl, HRo, HB, HZ⟩ := hrel
            have hb3 := blk_later HB.out HB9.out
            have hzr := HB.out.size
            have c0 := blk_cell hb3 0
            have c1 := blk_cell hb3 1
            have c2 := blk_cell hb3 2
            have c3 := blk_cell hb3 3
            by_cases hlt : k < n2
            · obtain ⟨x, hx⟩ : ∃ x, p.pprs[k]? = some x := ⟨_, List.getElem?_eq_getElem (by have := HN2.out; omega)⟩
              obtain ⟨b', off, rfl, hb', hc⟩ := HQC.out (fun h => by rw [h] at hx; simp at hx)
              have q0 : wr.cell? ⟨b', off + k * 5, none⟩ = some (S x.name) := cell_later' (HBv.out.trans (HB.out.mono hz9)) (by have := hc k x hx 0 _ rfl; simpa using this)
              have HQ1 : Hid (w.cell? ⟨b', off + k * 5 + 1, none⟩ = some (.int .i64 x.wlo)) := Lib.hid (by have := hc k x hx 1 _ rfl; simpa using this)
              have HQ2 : Hid (w.cell? ⟨b', off + k * 5 + 2, none⟩ = some (.int .i64 x.whi)) := Lib.hid (by have := hc k x hx 2 _ rfl; simpa using this)
              have HQ3 : Hid (w.cell? ⟨b', off + k * 5 + 3, none⟩ = some (.int .i64 x.hlo)) := Lib.hid (by have := hc k x hx 3 _ rfl; simpa using this)
              have HQ4 : Hid (w.cell? ⟨b', off + k * 5 + 4, none⟩ = some (.int .i64 x.hhi)) := Lib.hid (by have := hc k x hx 4 _ rfl; simpa using this)
              have HX := Lib.hid hx
              have HSx := Lib.hid (HS2.out x (List.mem_of_getElem? hx))
              have hln : (seenP p.pprs k).length = k := seenP_len (by have := HN2.out; omega)
              have HLN := Lib.hid hln
              obtain ⟨er, her⟩ : ∃ er, er = nmErr (seenP p.pprs k) x.name := ⟨_, rfl⟩
              have HER := Lib.hid her
              clear hx hc hln her
              go_wp2_with fail
              refine (refFresh_any x.name (seenP p.pprs k) u5 _ (strs_of_row (by rw [HLN.out]; exact HRo.out)) (by rw [HLN.out]; omega) HSx.out).mono ?_
              rintro e w6 ⟨rfl, hb6⟩
              rw [← HER.out]
              have HB6 := Lib.hid (HB.out.trans (hb6.mono hzr))
              have HR6 := Lib.hid (row_later HRo.out hb6)
              have hb3 := blk_later hb6 hb3
              have q0 := cell_later' hb6 q0
              have hz6 := HB6.out.size
              clear c0 c1 c2 c3 hb6 HRo
              have c0 := blk_cell hb3 0
              have c1 := blk_cell hb3 1
              have c2 := blk_cell hb3 2
              have c3 := blk_cell hb3 3
              obtain ⟨hi1, hi2, hi3, hi4⟩ := HI.out
              go_wp2_with (at_builtin; refine wpList_append_own _ rfl _ _ 80 rfl wv.heap.size 9 ei _ 1 16 undStrs hi1 hi2 hi3 hi4 rfl (by decide) u5 k ((seenP p.pprs k).map S) rfl (HR6.out.alloc _) ⟨w6.heap.size, 0, none⟩ 1 1 [S x.name] rfl rfl ?c1 ?c2 ?c3 ?c4 ?c5 ?c6)
              case c1 => exact cells_new _ _ _
              case c2 => simp [Value.oneCell']
              case c3 => simp only [maxLen]; omega
              case c4 => omega
              case c5 => simp; omega
              case c6 =>
                rintro v' w7 hown hgrow -
                have HB7 := Lib.hid (HB6.out.trans ((((Below.refl _ w6).alloc (Nat.le_refl _) (.cells #[S x.name] 9)).mono hz6).trans (below_row (HR6.out.alloc _) (by simp; omega) hgrow)))
                have HO := Lib.hid hown
                have hb3 := blk_later HB7.out HB9.out
                have q1 : w7.cell? ⟨b', off + k * 5 + 1, none⟩ = some (.int .i64 x.wlo) := cell_later' (HBv.out.trans (HB7.out.mono hz9)) (HQ1.out)
                have q2 : w7.cell? ⟨b', off + k * 5 + 2, none⟩ = some (.int .i64 x.whi) := cell_later' (HBv.out.trans (HB7.out.mono hz9)) (HQ2.out)
                have q3 : w7.cell? ⟨b', off + k * 5 + 3, none⟩ = some (.int .i64 x.hlo) := cell_later' (HBv.out.trans (HB7.out.mono hz9)) (HQ3.out)
                have q4 : w7.cell? ⟨b', off + k * 5 + 4, none⟩ = some (.int .i64 x.hhi) := cell_later' (HBv.out.trans (HB7.out.mono hz9)) (HQ4.out)
                have hz7 := HB7.out.size
                clear hgrow hown hi1 hi2 hi3 hi4 HB6 HR6 c0 c1 c2 c3 HB
                have c0 := blk_cell hb3 0
                have c1 := blk_cell hb3 1
                have c2 := blk_cell hb3 2
                have c3 := blk_cell hb3 3
                by_cases h0 : er = 0
                · obtain ⟨ef, hef⟩ : ∃ ef, ef = spansErr 1 2000 x.wlo x.whi x.hlo x.hhi := ⟨_, rfl⟩
                  have HEF : Hid (pprErr (seenP p.pprs k) x = ef) := Lib.hid (by unfold pprErr; rw [← HER.out, if_pos h0, hef])
                  have HEV := Lib.hid hef
                  clear HER hef
                  subst h0
                  go_wp2_with fail
                  have r0 := cell_regrown c0
                  have r1' := cell_regrown c1
                  have s1 := cell_regrown q1
                  have s2 := cell_regrown q2
                  have s3 := cell_regrown q3
                  have s4 := cell_regrown q4
                  have cC : ∀ d os, Calls Tryz.prog 36 #[.agg #[.int .i64 x.wlo, .int .i64 x.whi], .agg #[.int .i64 x.hlo, .int .i64 x.hhi], .int .i64 1, .int .i64 2000] (grow (redrawn w7 d) os) (fun e w'' => e = .returned (.int .i64 ef) ∧ ∃ p : Regrown, w'' = grow (redrawn w7 p.d) p.os) := fun d os => Calls.regrown_of (both2_is _ _ _ _ _ _ ef HEV.out _)
                  clear c0 c1 c2 c3 q1 q2 q3 q4 q0
                  refine wp_region_quiet_below (by kernel_rfl) (by kernel_rfl) ?_; (repeat (go_big_quiet_step (exact cC _ _))); refine wpQuiet_nil ?_; rintro w8 ⟨⟨d8, os8⟩, rfl⟩
                  have hb8 := below_regrown w7 d8 os8
                  clear r0 r1' s1 s2 s3 s4 cC HEV
                  have HB8 := Lib.hid (HB7.out.trans (hb8.mono hz7))
                  have HR8 := Lib.hid (row_later HO.out hb8)
                  clear hb8 HO HB7
                  generalize grow (redrawn w7 d8) os8 = w8 at *
                  by_cases h1 : ef = 0
                  · have HZ2 : Hid ((y1, y2) = firstE Ppr.name pprErr (seenP p.pprs (k + 1)) (k + 1) (p.pprs.drop (k + 1))) := Lib.hid (by rw [HZ.out, firstE_step HX.out (HEF.out.trans h1), seenP_next HX.out])
                    clear HEF HZ
                    subst h1
                    go_wp2_with fail
                    go_roundw
                    case rel => exact ⟨k + 1, by omega, by go_num, (by
                      have h := HR8.out
                      rw [seenP_next HX.out, List.map_append]
                      show World.ownsRow _ _ _ _ _ _ _
                      simpa using h), HB8, HZ2⟩
                    case measure => simp [intOf]; omega
                  · have HXX : Hid (y1 = k ∧ y2 = ef) := Lib.hid (by
                      have h2 := HZ.out.trans (firstE_stop HX.out (fun h => h1 (HEF.out.symm.trans h)))
                      rw [HEF.out] at h2
                      simpa using h2)
                    have HX3 : Hid (r1 = 2 ∧ r2 = k ∧ r3 = ef) := Lib.hid (by
                      have h2 := HRP.out
                      rw [HXX.out.1, HXX.out.2, if_pos h1] at h2
                      simpa using h2)
                    have HBz := Lib.hid (HBv.out.trans (HB8.out.mono hz9))
                    have h0b : (ef != 0) = true := by simp [h1]
                    clear h1 HXX HEF
                    go_wp2_with fail
                    go_ret3
                    exact ⟨by rw [(HX3).out.1, (HX3).out.2.1, (HX3).out.2.2]; rfl, HBz.out⟩
                · have HFE : Hid (pprErr (seenP p.pprs k) x = er) := Lib.hid (by unfold pprErr; rw [← HER.out, if_neg h0])
                  have HXX : Hid (y1 = k ∧ y2 = er) := Lib.hid (by
                    have h2 := HZ.out.trans (firstE_stop HX.out (fun h => h0 (HFE.out.symm.trans h)))
                    rw [HFE.out] at h2
                    simpa using h2)
                  have HX3 : Hid (r1 = 2 ∧ r2 = k ∧ r3 = er) := Lib.hid (by
                    have h2 := HRP.out
                    rw [HXX.out.1, HXX.out.2, if_pos h0] at h2
                    simpa using h2)
                  have HBz := Lib.hid (HBv.out.trans (HB7.out.mono hz9))
                  have h0b : (er != 0) = true := by simp [h0]
                  have h0c : (er == 0) = false := by simp [h0]
                  clear h0 HXX HFE
                  go_wp2_with fail
                  go_ret3
                  exact ⟨by rw [(HX3).out.1, (HX3).out.2.1, (HX3).out.2.2]; rfl, HBz.out⟩
            · have hy2 : y1 = 0 ∧ y2 = 0 := by
                have h := HZ.out.trans (firstE_end (by have := HN2.out; omega))
                simpa using h
              have HRT : Hid ((r1, r2, r3) = if (inI 0 60 p.trim && inI 1 4 p.sheets) = false then (3, 0, 7) else (0, 0, 0)) := Lib.hid (by rw [HRP.out, if_neg (by rw [hy2.2]; decide)])
              have HBz := Lib.hid (HBv.out.trans (HB.out.mono hz9))
              clear HZ HRo HRP HY1 HX3 hy2 HQC HQ HS2 HB
              go_wp2_with fail
              refine (in2_any p.trim 0 60 _).mono ?_
              rintro e w9 ⟨rfl, hw⟩
              subst hw
              cases h1 : inI 0 60 p.trim with
              | false =>
                have HX2 : Hid (r1 = 3 ∧ r2 = 0 ∧ r3 = 7) := Lib.hid (by have := HRT.out; rw [h1] at this; simpa using this)
                clear HRT
                go_wp2_with fail
                go_ret3
                exact ⟨by rw [(HX2).out.1, (HX2).out.2.1, (HX2).out.2.2]; rfl, HBz.out⟩
              | true =>
                go_wp2_with fail
                refine (in2_any p.sheets 1 4 _).mono ?_
                rintro e w9 ⟨rfl, hw⟩
                subst hw
                cases h2 : inI 1 4 p.sheets with
                | false =>
                  have HX2 : Hid (r1 = 3 ∧ r2 = 0 ∧ r3 = 7) := Lib.hid (by have := HRT.out; rw [h1, h2] at this; simpa using this)
                  clear HRT
                  go_wp2_with fail
                  go_ret3
                  exact ⟨by rw [(HX2).out.1, (HX2).out.2.1, (HX2).out.2.2]; rfl, HBz.out⟩
                | true =>
                  have HX2 : Hid (r1 = 0 ∧ r2 = 0 ∧ r3 = 0) := Lib.hid (by have := HRT.out; rw [h1, h2] at this; simpa using this)
                  clear HRT
                  go_wp2_with fail
                  go_ret3
                  exact ⟨by rw [(HX2).out.1, (HX2).out.2.1, (HX2).out.2.2]; rfl, HBz.out⟩
end Go.Proofs.YthnifhejmoggmaaGreatDoor

/- The reference: Check of what is seen of a gathering. -/
namespace Go.Proofs.YthnifhejmoggmaaGreatDoor
set_option linter.unusedSimpArgs false
set_option linter.unusedVariables false
open Go Go.RowKit Go.Sort Go.BigFrame

theorem in2_is (n lo hi : Int) (x : Bool) (hx : x = inI lo hi n) (w : World) :
    Calls Tryz.prog 33 #[.int .i64 n, .int .i64 lo, .int .i64 hi] w fun e w' => e = .returned (.bool x) ∧ Below w.heap.size w w' := by
  subst hx
  exact (in2_any n lo hi w).mono fun e w' ⟨h1, h2⟩ => ⟨h1, by rw [h2]; exact Below.refl _ _⟩

set_option maxRecDepth 100000 in
set_option maxHeartbeats 2000000 in
theorem refCheckBook2_any (p : Prs) (b : Bok) (vp vb : Value) (w : World) (hp : PrsAt w.heap.size w vp p) (hb : BokAt w.heap.size w vb b) :
    Calls Tryz.prog 12 #[vp, vb] w fun e w' => e = .returned (.tuple #[.int .i64 ((checkK p b).1 : Nat), .int .i64 ((checkK p b).2.1 : Nat), .int .i64 (checkK p b).2.2]) ∧ Below w.heap.size w w' := by
  have HP := Lib.hid hp
  obtain ⟨fv, pv, rfl, ⟨a, cap, rfl, -⟩, ⟨a2, cap2, rfl, -⟩, -⟩ := hp
  obtain ⟨n1, hn1⟩ : ∃ n, n = p.fmts.length := ⟨_, rfl⟩
  obtain ⟨n2, hn2⟩ : ∃ n, n = p.pprs.length := ⟨_, rfl⟩
  rw [← hn1, ← hn2] at HP ⊢
  clear hn1 hn2
  obtain ⟨mv, rfl, hm⟩ := hb
  obtain ⟨a3, cap3, rfl, hmc⟩ := hm
  obtain ⟨n3, hn3⟩ : ∃ n, n = b.marks.length := ⟨_, rfl⟩
  rw [← hn3]
  have HN3 := Lib.hid hn3
  have HMC := Lib.hid hmc
  clear hmc hn3
  obtain ⟨⟨r1, r2, r3⟩, hr⟩ : ∃ r, r = checkK p b := ⟨_, rfl⟩
  rw [← hr]
  obtain ⟨⟨c1, c2, ep⟩, hep⟩ : ∃ c, c = checkP p := ⟨_, rfl⟩
  obtain ⟨es, hes⟩ : ∃ es, es = spansErr 0 2000 b.wlo b.whi b.hlo b.hhi := ⟨_, rfl⟩
  obtain ⟨⟨m1, m2⟩, hmm⟩ : ∃ m, m = marksR 0 8 b.leaves b.marks := ⟨_, rfl⟩
  have HR : Hid ((r1, r2, r3) = if ep ≠ 0 then (0, 0, ep) else if inI 1 64 b.leaves = false then (1, 0, 7) else if inI 0 2 b.chain = false then (2, 0, 2) else if es ≠ 0 then (3, 0, es) else if m2 ≠ 0 then (4, m1, m2) else (0, 0, 0)) := Lib.hid (by
    rw [hr, checkK_is, show errP p = ep by unfold errP; rw [← hep], ← hes, ← hmm])
  have HEP := Lib.hid hep
  have HES := Lib.hid hes
  have HMM := Lib.hid hmm
  clear hr hep hes hmm
  dsimp only
  go_enter Tryz.func12, Tryz.ntmps12
  go_wp2_with fail
  have hb0 : Below w.heap.size w ((w.alloc (.cells #[.slice a n1 cap, .slice a2 n2 cap2, .int .i64 p.trim, .int .i64 p.sheets] 25)).alloc (.cells #[.int .i64 b.leaves, .int .i64 b.chain, .int .i64 b.wlo, .int .i64 b.whi, .int .i64 b.hlo, .int .i64 b.hhi, .slice a3 n3 cap3] 30)) := by exact (by repeat (first | exact Below.refl _ _ | assumption | (refine Below.alloc ?_ ?_ _; rotate_left; · (first | omega | (simp; done) | (simp; omega) | fail)) | (refine Below.setCell ?_ ?_ _; rotate_left; · (first | omega | (simp; done) | (simp; omega) | fail)) | refine Below.drew ?_ | fail))
  have b2 : ((w.alloc (.cells #[.slice a n1 cap, .slice a2 n2 cap2, .int .i64 p.trim, .int .i64 p.sheets] 25)).alloc (.cells #[.int .i64 b.leaves, .int .i64 b.chain, .int .i64 b.wlo, .int .i64 b.whi, .int .i64 b.hlo, .int .i64 b.hhi, .slice a3 n3 cap3] 30)).heap[w.heap.size + 1]? = some (.cells #[.int .i64 b.leaves, .int .i64 b.chain, .int .i64 b.wlo, .int .i64 b.whi, .int .i64 b.hlo, .int .i64 b.hhi, .slice a3 n3 cap3] 30) := (by repeat (first | exact heap_alloc_at _ _ _ (by (first | omega | (simp; done) | (simp; omega) | (simp at *; omega) | fail)) | assumption | rw [heap_alloc_past _ _ _ (by (first | omega | (simp; done) | (simp; omega) | (simp at *; omega) | fail))] | rw [heap_setCell_past _ _ _ _ (by (first | omega | (simp; done) | (simp; omega) | (simp at *; omega) | fail))] | fail))
  revert hb0 b2
  generalize ((w.alloc (.cells #[.slice a n1 cap, .slice a2 n2 cap2, .int .i64 p.trim, .int .i64 p.sheets] 25)).alloc (.cells #[.int .i64 b.leaves, .int .i64 b.chain, .int .i64 b.wlo, .int .i64 b.whi, .int .i64 b.hlo, .int .i64 b.hhi, .slice a3 n3 cap3] 30)) = w1
  intro hb0 b2
  refine (refCheck2_any p _ _ (HP.out.later hb0)).mono ?_
  rintro e w2 ⟨rfl, hb2⟩
  rw [← HEP.out]
  have b2 := blk_later hb2 b2
  have HB3 := Lib.hid (hb0.trans (hb2.mono hb0.size))
  clear hb0 hb2
  have HB2 := Lib.hid b2
  dsimp only
  by_cases h0 : ep = 0
  · have HR1 : Hid ((r1, r2, r3) = if inI 1 64 b.leaves = false then (1, 0, 7) else if inI 0 2 b.chain = false then (2, 0, 2) else if es ≠ 0 then (3, 0, es) else if m2 ≠ 0 then (4, m1, m2) else (0, 0, 0)) := Lib.hid (by rw [HR.out, if_neg (by rw [h0]; decide)])
    clear HR HEP
    subst h0
    have e0 := blk_cell b2 0
    have e1 := blk_cell b2 1
    have e2 := blk_cell b2 2
    have e3 := blk_cell b2 3
    have e4 := blk_cell b2 4
    have e5 := blk_cell b2 5
    have e6 := blk_cell b2 6
    go_wp2_with fail
    refine (in2_any b.leaves 1 64 _).mono ?_
    rintro e w3 ⟨rfl, hw⟩
    subst hw
    cases h1 : inI 1 64 b.leaves with
    | false =>
      have HR2 : Hid (r1 = 1 ∧ r2 = 0 ∧ r3 = 7) := Lib.hid (by have := HR1.out; rw [h1] at this; simpa using this)
      clear HR1
      go_wp2_with fail
      go_ret3
      exact ⟨by rw [HR2.out.1, HR2.out.2.1, HR2.out.2.2]; rfl, HB3.out⟩
    | true =>
      have HR2 : Hid ((r1, r2, r3) = if inI 0 2 b.chain = false then (2, 0, 2) else if es ≠ 0 then (3, 0, es) else if m2 ≠ 0 then (4, m1, m2) else (0, 0, 0)) := Lib.hid (by rw [HR1.out, if_neg (by rw [h1]; decide)])
      have hl : 1 ≤ b.leaves ∧ b.leaves ≤ 64 := by simpa [inI] using h1
      clear HR1 h1
      go_wp2_with fail
      refine (in2_any b.chain 0 2 _).mono ?_
      rintro e w3 ⟨rfl, hw⟩
      subst hw
      cases h2 : inI 0 2 b.chain with
      | false =>
        have HR2 : Hid (r1 = 2 ∧ r2 = 0 ∧ r3 = 2) := Lib.hid (by have := HR2.out; rw [h2] at this; simpa using this)
        go_wp2_with fail
        go_ret3
        exact ⟨by rw [HR2.out.1, HR2.out.2.1, HR2.out.2.2]; rfl, HB3.out⟩
      | true =>
        have HR3 : Hid ((r1, r2, r3) = if es ≠ 0 then (3, 0, es) else if m2 ≠ 0 then (4, m1, m2) else (0, 0, 0)) := Lib.hid (by rw [HR2.out, if_neg (by rw [h2]; decide)])
        clear HR2 h2
        go_wp2_with fail
        refine (both2_is b.wlo b.whi b.hlo b.hhi 0 2000 es HES.out _).mono ?_
        rintro e w4 ⟨rfl, hb4⟩
        have b4 := blk_later hb4 HB2.out
        have HB3 := Lib.hid (HB3.out.trans (hb4.mono HB3.out.size))
        clear hb4 e0 e1 e2 e3 e4 e5 e6 HB2 b2
        by_cases h3 : es = 0
        · have HR4 : Hid ((r1, r2, r3) = if m2 ≠ 0 then (4, m1, m2) else (0, 0, 0)) := Lib.hid (by rw [HR3.out, if_neg (by rw [h3]; decide)])
          clear HR3 HES
          subst h3
          have e0 := blk_cell b4 0
          have e1 := blk_cell b4 1
          have e2 := blk_cell b4 2
          have e3 := blk_cell b4 3
          have e4 := blk_cell b4 4
          have e5 := blk_cell b4 5
          have e6 := blk_cell b4 6
          by_cases h8 : 8 < n3
          · have HR2 : Hid (r1 = 4 ∧ r2 = 0 ∧ r3 = 3) := Lib.hid (by
              have h9 : (m1, m2) = (0, 3) := by
                rw [HMM.out]; unfold marksR; rw [if_pos]
                rw [← HN3.out]; unfold inI; rw [decide_eq_false (p := (n3 : Int) ≤ 8) (by omega)]; simp
              have := HR4.out
              simp at h9
              rw [h9.1, h9.2] at this
              simpa using this)
            clear HR4
            go_wp2_with fail
            go_ret3
            exact ⟨by rw [HR2.out.1, HR2.out.2.1, HR2.out.2.2]; rfl, HB3.out⟩
          · have HZ0 : Hid ((m1, m2) = marksErr b.leaves 0 b.marks) := Lib.hid (by
              rw [HMM.out]; unfold marksR; rw [if_neg]
              rw [← HN3.out]; unfold inI; rw [decide_eq_true (p := (n3 : Int) ≤ 8) (by omega), decide_eq_true (p := (0 : Int) ≤ n3) (by omega)]; decide)
            have HB4 := Lib.hid b4
            clear HMM
            go_wp2_with fail
            clear e0 e1 e2 e3 e4 e5 e6 b4
            go_loopw [10] (fun q wr => ∃ (k : Nat), k ≤ n3 ∧ q = .int .i64 k ∧ Hid (Below w4.heap.size w4 wr) ∧ Hid ((m1, m2) = marksErr b.leaves k (b.marks.drop k))) (fun q _ => n3 - (intOf q).toNat)
            case atStart => exact ⟨0, by omega, rfl, Lib.hid (Below.refl _ _), HZ0⟩
            case round =>
              obtain ⟨k, hk, rfl, HB, HZ⟩ := hrel
              have b5 := blk_later HB.out HB4.out
              have e0 := blk_cell b5 0
              have e1 := blk_cell b5 1
              have e2 := blk_cell b5 2
              have e3 := blk_cell b5 3
              have e4 := blk_cell b5 4
              have e5 := blk_cell b5 5
              have e6 := blk_cell b5 6
              have HBr := Lib.hid (HB3.out.trans (HB.out.mono HB3.out.size))
              by_cases hlt : k < n3
              · obtain ⟨x, hx⟩ : ∃ x, b.marks[k]? = some x := ⟨_, List.getElem?_eq_getElem (by have := HN3.out; omega)⟩
                obtain ⟨b', off, rfl, hb', hc⟩ := HMC.out (fun h => by rw [h] at hx; simp at hx)
                have q0 : wr.cell? ⟨b', off + k * 2, none⟩ = some (.int .i64 x.1) := cell_later' HBr.out (by have := hc k x hx 0 _ rfl; simpa using this)
                have HX := Lib.hid hx
                obtain ⟨ef, hef⟩ : ∃ ef, ef = inI 0 (b.leaves - 1) x.1 := ⟨_, rfl⟩
                have HEF := Lib.hid hef
                clear hx hc hef
                go_wp2_with fail
                have s0 := cell_regrown e0
                have s6 := cell_regrown e6
                have t0 := cell_regrown q0
                have cC : ∀ d os, Calls Tryz.prog 33 #[.int .i64 x.1, .int .i64 0, .int .i64 (b.leaves - 1)] (grow (redrawn wr d) os) (fun e w'' => e = .returned (.bool ef) ∧ ∃ p : Regrown, w'' = grow (redrawn wr p.d) p.os) := fun d os => Calls.regrown_of (in2_is _ _ _ ef HEF.out _)
                clear e0 e1 e2 e3 e4 e5 e6 q0 b5
                refine wp_region_quiet_below (by kernel_rfl) (by kernel_rfl) ?_; (repeat (go_big_quiet_step (exact cC _ _))); refine wpQuiet_nil ?_; rintro w8 ⟨⟨d8, os8⟩, rfl⟩
                have hb8 := below_regrown wr d8 os8
                have HB8 := Lib.hid (HB.out.trans (hb8.mono HB.out.size))
                clear s0 s6 t0 cC hb8
                generalize grow (redrawn wr d8) os8 = w8 at *
                cases hf : ef with
                | false =>
                  have HR2 : Hid (r1 = 4 ∧ r2 = k ∧ r3 = 4) := Lib.hid (by
                    have h9 : m1 = k ∧ m2 = 4 := by
                      have h := HZ.out.trans (marksErr_stop HX.out (by rw [← HEF.out, hf]))
                      simpa using h
                    have := HR4.out
                    rw [h9.1, h9.2] at this
                    simpa using this)
                  have HB3 := Lib.hid (HB3.out.trans (HB8.out.mono HB3.out.size))
                  clear HZ HR4
                  go_wp2_with fail
                  go_ret3
                  exact ⟨by rw [HR2.out.1, HR2.out.2.1, HR2.out.2.2]; rfl, HB3.out⟩
                | true =>
                  have HZ2 : Hid ((m1, m2) = marksErr b.leaves (k + 1) (b.marks.drop (k + 1))) := Lib.hid (HZ.out.trans (marksErr_step HX.out (by rw [← HEF.out, hf])))
                  clear HZ
                  go_wp2_with fail
                  go_roundw
                  case rel => exact ⟨k + 1, by omega, by go_num, HB8, HZ2⟩
                  case measure => simp [intOf]; omega
              · have HR2 : Hid (r1 = 0 ∧ r2 = 0 ∧ r3 = 0) := Lib.hid (by
                  have h9 : m1 = 0 ∧ m2 = 0 := by
                    have h := HZ.out.trans (marksErr_end (by have := HN3.out; omega))
                    simpa using h
                  have := HR4.out
                  rw [h9.1, h9.2] at this
                  simpa using this)
                have HB3 := HBr
                clear HZ HR4
                go_wp2_with fail
                go_ret3
                exact ⟨by rw [HR2.out.1, HR2.out.2.1, HR2.out.2.2]; rfl, HB3.out⟩
        · have HR2 : Hid (r1 = 3 ∧ r2 = 0 ∧ r3 = es) := Lib.hid (by have := HR3.out; rw [if_pos h3] at this; simpa using this)
          have h0b : (es != 0) = true := by simp [h3]
          clear h3 HR3
          go_wp2_with fail
          go_ret3
          exact ⟨by rw [HR2.out.1, HR2.out.2.1, HR2.out.2.2]; rfl, HB3.out⟩
  · have HR2 : Hid (r1 = 0 ∧ r2 = 0 ∧ r3 = ep) := Lib.hid (by have := HR.out; rw [if_pos h0] at this; simpa using this)
    have h0b : (ep != 0) = true := by simp [h0]
    clear h0 HR HEP
    go_wp2_with fail
    go_ret3
    exact ⟨by rw [HR2.out.1, HR2.out.2.1, HR2.out.2.2]; rfl, HB3.out⟩
end Go.Proofs.YthnifhejmoggmaaGreatDoor

/- A function worked out piece by piece, one of whose pieces calls a function that was worked out before. -/
namespace Go.Proofs.YthnifhejmoggmaaGreatDoor
set_option linter.unusedSimpArgs false
set_option linter.unusedVariables false
open Go Go.RowKit

noncomputable section
/-- A piece does what was worked out, in all worlds that are reached from where all started. -/
def SegS (P : Program) (e0 : Env) (h0 : H) (W : World) (c : Code) (a : Fr) (h : H) (x : X) (a' : Fr) (h' : H) : Prop :=
  ∀ (e : Env) (w : World) (act : Act), Rel P e h w → FrR e a act → Step h0 e0 W h e w →
    ∀ Q : Exit → Act → World → Prop, (∀ e' act' w', Rel P e' h' w' → FrR e' a' act' → Step h0 e0 W h' e' w' → Q x.out act' w') → c.wpIn (fence e none) 9 P Q act w
def evOps (P : Program) (f : Nat) (ops : Array Oper) (l : List Oper) (a : Fr) (h : H) (keep : List Nat) : E (Fr × H) := eb (opsW P (evCode P f) ops l a h) fun s => .ok (s.1, gcH keep s.2)
/-- The operations of a region. -/
def opsIn : Code → Array Oper
  | .region _ ops _ => ops
  | _ => #[]
def idIn : Code → Nat
  | .region id _ _ => id
  | _ => 0
section
variable {P : Program} {e e0 : Env} {w W : World} {v : V} {h h0 h1 h2 h' : H} {a a1 a2 a' : Fr} {x : X} {c c1 c2 : Code}
theorem Seg.start (k : Seg P c a h x a' h') : SegS P e0 h0 W c a h x a' h' := fun e w act re fr s Q hQ => k e w act re fr Q fun e' act' w' r' fr' s' => hQ e' act' w' r' fr' (s.trans s')
theorem segS_seq (k1 : SegS P e0 h0 W c1 a h .normal a1 h1) (k2 : SegS P e0 h0 W c2 a1 h1 x a' h') : SegS P e0 h0 W (.seq c1 c2) a h x a' h' := fun e w act re fr s Q hQ =>
  wpIn_seq (k1 e w act re fr s _ fun e1 act1 w1 r1 fr1 s1 => by
    have := k2 e1 w1 act1 r1 fr1 s1 Q hQ
    exact this)
/-- Operations in the order of the text, with others behind them. -/
theorem ops_before {go : Run} {ops : Array Oper} (hgo : GoOk P go) {Q : Exit → Act → World → Prop} {n : Nat} : ∀ (rest pre tail : List Oper) (a : Fr) (h : H) (a' : Fr) (h' : H), ops.toList = pre ++ rest ++ tail → opsW P go ops rest a h = .ok (a', h') → ∀ (e : Env) (w : World) (act : Act), Rel P e h w → FrR e a act →
    (∀ e' act' w', Rel P e' h' w' → FrR e' a' act' → Step h e w h' e' w' → wpOpsIn (fence e none) 9 P ops Q (List.range' (pre.length + rest.length) n) act' w') → wpOpsIn (fence e none) 9 P ops Q (List.range' pre.length (rest.length + n)) act w
  | [], pre, tail, a, h, a', h', _, k, e, w, act, r, fr, hQ => by
    cases k
    have := hQ e act w r fr (Step.refl h e w)
    simpa using this
  | o :: rest, pre, tail, a, h, a', h', hsp, k, e, w, act, r, fr, hQ => by
    have ho : ops[pre.length]? = some o := by
      rw [← Array.getElem?_toList, hsp]
      simp
    rw [List.length_cons, show rest.length + 1 + n = (rest.length + n) + 1 by omega, List.range'_succ]
    unfold wpOpsIn
    rw [ho]
    simp only
    rw [opsW_cons] at k
    obtain ⟨hgk, k⟩ := ec_ok k
    have hw : Region.wanted o (yielded ops act.tmps) = wantedT ops a o := wanted_ok fr.size (fun j want d _ _ => fr.tmp d) hgk
    have next : ∀ (e1 : Env) (a1 : Fr) (h1 : H) (act1 : Act) (w1 : World), Rel P e1 h1 w1 → FrR e1 a1 act1 → Step h e w h1 e1 w1 → opsW P go ops rest a1 h1 = .ok (a', h') → wpOpsIn (fence e none) 9 P ops Q (List.range' (pre.length + 1) (rest.length + n)) act1 w1 := fun e1 a1 h1 act1 w1 r1 fr1 s1 k1 => by
      have ih := ops_before hgo (Q := Q) (n := n) rest (pre ++ [o]) tail a1 h1 a' h' (by rw [hsp]; simp) k1 e1 w1 act1 r1 fr1 (fun e' act' w' r' fr' s' => by
        have := hQ e' act' w' r' fr' (s1.trans s')
        have hfe : fence e1 none = fence e none := rfl
        rw [hfe]
        simpa [Nat.add_comm, Nat.add_left_comm, Nat.add_assoc] using this)
      have hfe : fence e1 none = fence e none := rfl
      rw [hfe] at ih
      simpa using ih
    rw [hw]
    cases hwt : wantedT ops a o with
    | true =>
      rw [hwt] at k
      simp only at k
      obtain ⟨⟨v, h1⟩, ho1, k⟩ := eb_ok k
      simp only [if_true]
      refine op_ok (rr := none) hgo r (fr.ops _) fr.glob ho1 fun x w' hx => ?_
      obtain ⟨e1, r1, s1, hv⟩ := hx
      have k' : opsW P go ops rest (a.put o.dst v) h1 = .ok (a', h') := (putK_eq a o.dst v fun a' => opsW P go ops rest a' h1).symm.trans k
      exact next e1 _ h1 _ w' r1 ((fr.mono s1.le).put o.dst hv) s1 k'
    | false =>
      rw [hwt] at k
      simp only [putK_eq] at k
      simp only [Bool.false_eq_true, if_false]
      exact ⟨fun f _ => trivial, next e _ h _ w r (fr.put o.dst uV_ok) (Step.refl h e w) k⟩
/-- A region in the order of the text, with a call of a function without arguments that yields a bare value. -/
theorem seg_call {f fid : Nat} {fn : Func} {ops : Array Oper} {id : Nat} {pre post : List Oper} {keep : List Nat} {d : Option Tmp} {ty : TypeId} {pos : String} {af : Array Edge} {gd : Option (Nat × Bool)} {y : Value} (hm : P.follows .mixedOrders = true)
    (hsp : ops.toList = pre ++ (⟨d, .call { callee := .value (.func fid), args := #[], argTypes := #[] }, ty, pos, af, gd⟩ :: post))
    (hfn : P.funcs[fid]? = some fn) (hnm : (fn.name == "runtime.NumGoroutine") = false) (hb : fn.body.isNone = false)
    (hc : ∀ w, VKept W w → Calls P fid #[] w fun en w' => en = .returned y ∧ Below w.heap.size w w') (hp : h0.p = h0.n) (hx : h0.x = h0.n) (hlt : Rel P e0 h0 W)
    (k1 : opsW P (evCode P f) ops pre a h = .ok (a1, h1)) (hwt : wantedT ops a1 ⟨d, .call { callee := .value (.func fid), args := #[], argTypes := #[] }, ty, pos, af, gd⟩ = true) (hgk : guardOk ops a1 ⟨d, .call { callee := .value (.func fid), args := #[], argTypes := #[] }, ty, pos, af, gd⟩ = true) (k2 : evOps P f ops post (a1.put d (.lit y)) h1 keep = .ok (a2, h2)) : SegS P e0 h0 W (.region id ops false) a h .normal a2 h2 := fun e w act re fr s Q hQ => by
  refine wpIn_region ?_
  have hlen : ops.size = pre.length + (post.length + 1) := by rw [← Array.length_toList, hsp]; simp
  rw [List.range_eq_range', hlen]
  have e0 : ops.toList = ([] : List Oper) ++ pre ++ (⟨d, .call { callee := .value (.func fid), args := #[], argTypes := #[] }, ty, pos, af, gd⟩ :: post) := by rw [hsp]; simp
  refine ops_before (evCode_ok hm f) pre [] _ a h a1 h1 e0 k1 e w act re fr fun e1 act1 w1 r1 fr1 s1 => ?_
  have ho : ops[pre.length]? = some ⟨d, .call { callee := .value (.func fid), args := #[], argTypes := #[] }, ty, pos, af, gd⟩ := by
    rw [← Array.getElem?_toList, hsp]
    simp
  simp only [List.length_nil, Nat.zero_add]
  rw [List.range'_succ]
  unfold wpOpsIn
  rw [ho]
  simp only
  rw [wanted_ok fr1.size (fun j want d _ _ => fr1.tmp d) hgk, hwt]
  simp only [if_true]
  have hk0 : VKept W w1 := VKept.of (s.trans s1) hlt hp hx
  refine ⟨fun f _ => trivial, ?_⟩
  rw [Oper.semAt_eq _ _ _ (fun c hc => by cases hc)]
  have e2 : (execOp act1.eval ⟨d, .call { callee := .value (.func fid), args := #[], argTypes := #[] }, ty, pos, af, gd⟩).run P w1 = .ok (.enter fid #[]) w1 := by
    have e3 : (execOp act1.eval ⟨d, .call { callee := .value (.func fid), args := #[], argTypes := #[] }, ty, pos, af, gd⟩) = (do let d ← Deferred.ofValue (act1.eval (.func fid)) ((#[] : Array Operand).map act1.eval); invoke d.target d.args) := rfl
    rw [e3]
    simp only [Array.map_empty, Sem.run_bind, Act.eval, Deferred.ofValue, Sem.run_pure, Result.andThen_ok, invoke]
    rw [enter_run hfn hnm hb]
    rfl
  rw [e2]
  refine ⟨fun hd => (by rw [fence_depth] at hd; cases hd), fence_calls (Calls.mono (hc w1 hk0) ?_)⟩
  rintro en w2 ⟨rfl, hbel⟩
  have hk : VKept w1 w2 := ⟨hbel.size, hbel.block, hbel.os, hbel.tape, hbel.output⟩
  have r2 := hk.rel r1
  have s2 : Step h1 e1 w1 h1 e1 w2 := hk.step h1 e1
  unfold evOps at k2
  obtain ⟨⟨a3, h3⟩, k3, k4⟩ := eb_ok k2
  cases k4
  have fin := ops_ok (rr := none) (Q := Q) (evCode_ok hm f) post (pre ++ [⟨d, .call { callee := .value (.func fid), args := #[], argTypes := #[] }, ty, pos, af, gd⟩]) (a1.put d (.lit y)) h1 a3 h3 (by rw [hsp]; simp) k3 e1 w2 (act1.put d y) r2 (fr1.put d (VR_lit.2 rfl)) (fun l hl => by cases hl)
    fun e' act' w' r' fr' s' => hQ e' act' w' (r'.less (Nat.le_refl _) (gcH_get keep h3)) fr' ((((s.trans s1).trans s2).trans s').gc keep)
  have hfe : fence e1 none = fence e none := rfl
  rw [hfe] at fin
  simpa using fin
def opNo : Oper := ⟨none, .move (.const (.bool false)), 0, "", #[], none⟩
def opAt (c : Code) (k : Nat) : Oper := ((opsIn c).toList.drop k).headD opNo
theorem segS_call {f fid k : Nat} {fn : Func} {keep : List Nat} {y : Value} (hm : P.follows .mixedOrders = true)
    (hsp : (opsIn c).toList = (opsIn c).toList.take k ++ opAt c k :: (opsIn c).toList.drop (k + 1)) (hop : (opAt c k).op = .call { callee := .value (.func fid), args := #[], argTypes := #[] })
    (hfn : P.funcs[fid]? = some fn) (hnm : (fn.name == "runtime.NumGoroutine") = false) (hb : fn.body.isNone = false)
    (hc : ∀ w, VKept W w → Calls P fid #[] w fun en w' => en = .returned y ∧ Below w.heap.size w w') (hp : h0.p = h0.n) (hx : h0.x = h0.n) (hlt : Rel P e0 h0 W)
    (k1 : opsW P (evCode P f) (opsIn c) ((opsIn c).toList.take k) a h = .ok (a1, h1)) (hwt : wantedT (opsIn c) a1 (opAt c k) = true) (hgk : guardOk (opsIn c) a1 (opAt c k) = true) (k2 : evOps P f (opsIn c) ((opsIn c).toList.drop (k + 1)) (a1.put (opAt c k).dst (.lit y)) h1 keep = .ok (a2, h2)) : SegS P e0 h0 W (.region (idIn c) (opsIn c) false) a h .normal a2 h2 := by
  generalize opAt c k = o at *
  obtain ⟨d, op, ty, pos, af, gd⟩ := o
  change op = _ at hop
  subst hop
  exact seg_call hm hsp hfn hnm hb hc hp hx hlt k1 hwt hgk k2
/-- A function without arguments that was worked out to a bare result, from pieces. -/
theorem closedS_ok {l : List Value} {t : TypeId} {f : FuncId} {fn : Func} {y : Value} (hW : W.heap[0]? = some (.cells l.toArray t (0, 0))) (hfn : P.funcs[f]? = some fn) (hc : fn.body = some c)
    (hs : SegS P e00 (h00 (l.map .lit) t) W c ⟨.leaf, fn.ntmps, [], 1⟩ (h00 (l.map .lit) t) x a1 h1) (hx : ∀ id, x ≠ .exit id) (k : finish P fn a1 h1 = .ok (.lit y, h')) : Calls P f #[] W fun en W' => en = .returned y ∧ Below W.heap.size W W' := by
  have hg : ∀ g, g < 1 → e00.dom g ∧ e00.σ g = g := fun g hg => by
    have h0 : g = 0 := by omega
    subst h0
    exact ⟨rfl, rfl⟩
  refine (callsIn_wide (n := 9)).1 ?_
  refine callsIn_of_wp_marks hfn hc trivial ?_ rfl
  have fr0 := ofList_fr (e := e00) (vs := []) (xs := []) (VRs_nil.2 rfl) fn.ntmps 1 hg
  have hmax : Nat.max fn.ntmps ([] : List V).length = fn.ntmps := Nat.max_eq_left (Nat.zero_le _)
  rw [hmax] at fr0
  refine hs e00 W _ (rel_start hW) fr0 (Step.refl _ _ _) _ fun e' act' w' r' fr' s' => ?_
  unfold finish at k
  obtain ⟨h2, hm, k1⟩ := eb_ok k
  obtain ⟨us, hus, k2⟩ := eb_ok k1
  have e5 : packT us = .lit y := (Prod.mk.inj (Except.ok.inj k2)).1
  have key := marks_ok (fn := fn) (tmps := act'.tmps) (R := fun en W' => en = .returned y ∧ Below W.heap.size W W') a1.df h1 w' h2 r' hm fun w2 r2 s2 => by
    obtain ⟨z, g1, g2⟩ := pack_ok r2 fr' hus
    rw [e5] at g2
    have hk := VKept.of (P := P) (s'.trans s2) (rel_start hW) rfl rfl
    exact ⟨z, g1, by rw [VR_lit.1 g2], hk.os, hk.tape, hk.output, hk.size, fun k hk' => hk.keep k hk'⟩
  rw [← fr'.df] at key
  cases x with
  | normal => exact key
  | ret => exact key
  | exit id => exact absurd rfl (hx id)
/-- No package variable is known. -/
def e01 : Env := ⟨id, fun _ => 0, fun _ => False⟩
def h01 : H := ⟨40, 40, 40, .leaf⟩
theorem rel_start0 {P : Program} {W : World} : Rel P e01 h01 W := by
  have no : ∀ b o, h01.get b = some o → False := fun b o k => by
    change (Tr.leaf : Tr Ob).get b = _ at k
    rw [Tr.get_leaf] at k
    cases k
  exact ⟨fun b hb => hb.elim, fun b hb => hb.elim, fun b o k => (no b o k).elim, fun b c o o' k _ _ => (no b o k).elim⟩
theorem closed0_ok {f : FuncId} {fn : Func} {y : Value} (hfn : P.funcs[f]? = some fn) (hc : fn.body = some c)
    (hs : SegS P e01 h01 W c ⟨.leaf, fn.ntmps, [], 0⟩ h01 x a1 h1) (hx : ∀ id, x ≠ .exit id) (k : finish P fn a1 h1 = .ok (.lit y, h')) : Calls P f #[] W fun en W' => en = .returned y ∧ Below W.heap.size W W' := by
  have hg : ∀ g, g < 0 → e01.dom g ∧ e01.σ g = g := fun g hg => by omega
  refine (callsIn_wide (n := 9)).1 ?_
  refine callsIn_of_wp_marks hfn hc trivial ?_ rfl
  have fr0 := ofList_fr (e := e01) (vs := []) (xs := []) (VRs_nil.2 rfl) fn.ntmps 0 hg
  have hmax : Nat.max fn.ntmps ([] : List V).length = fn.ntmps := Nat.max_eq_left (Nat.zero_le _)
  rw [hmax] at fr0
  refine hs e01 W _ (rel_start0) fr0 (Step.refl _ _ _) _ fun e' act' w' r' fr' s' => ?_
  unfold finish at k
  obtain ⟨h2, hm, k1⟩ := eb_ok k
  obtain ⟨us, hus, k2⟩ := eb_ok k1
  have e5 : packT us = .lit y := (Prod.mk.inj (Except.ok.inj k2)).1
  have key := marks_ok (fn := fn) (tmps := act'.tmps) (R := fun en W' => en = .returned y ∧ Below W.heap.size W W') a1.df h1 w' h2 r' hm fun w2 r2 s2 => by
    obtain ⟨z, g1, g2⟩ := pack_ok r2 fr' hus
    rw [e5] at g2
    have hk := VKept.of (P := P) (s'.trans s2) (rel_start0) rfl rfl
    exact ⟨z, g1, by rw [VR_lit.1 g2], hk.os, hk.tape, hk.output, hk.size, fun k hk' => hk.keep k hk'⟩
  rw [← fr'.df] at key
  cases x with
  | normal => exact key
  | ret => exact key
  | exit id => exact absurd rfl (hx id)
end
end
end Go.Proofs.YthnifhejmoggmaaGreatDoor

/- awake_any2, worked out: pieces 0 to 3. -/
namespace Go.Proofs.YthnifhejmoggmaaGreatDoor
set_option linter.unusedSimpArgs false
set_option linter.unusedVariables false
open Go Go.RowKit
noncomputable section
def yfA0 : Fr := ⟨.leaf, (Tryz.f13).ntmps, [], 1⟩
def yfH0 (t : TypeId) : H := h00 tab64 t
def yfA1 : Fr := (Fr.mk (Tr.node Tr.leaf (some (V.lit (Value.bool Bool.false))) Tr.leaf) 194 [] 1)
def yfH1 (t : TypeId) : H := ⟨40, 40, 40, .node Tr.leaf (some (.cells tab64 t)) Tr.leaf⟩
theorem yfP0 (t : TypeId) : evGc Tryz.prog 100000 (piece 0 (bodyOf Tryz.f13)) yfA0 (yfH0 t) [0] = .ok (.normal, yfA1, yfH1 t) := by kernel_rfl
def yfA2 : Fr := (Fr.mk (Tr.node (Tr.node Tr.leaf (some (V.ptr 45 0)) (Tr.node (Tr.node Tr.leaf none (Tr.node Tr.leaf (some (V.agg [(V.slc 41 0 3 3 Bool.false), (V.slc 44 0 1 1 Bool.false), (V.lit (Value.int IntKind.i64 (Int.ofNat 10))), (V.lit (Value.int IntKind.i64 (Int.ofNat 2)))])) Tr.leaf)) none Tr.leaf)) (some (V.lit (Value.bool Bool.false))) Tr.leaf) 194 [] 1)
def yfH2 (t : TypeId) : H := ⟨46, 40, 40, .node (Tr.node Tr.leaf none (Tr.node (Tr.node Tr.leaf none (Tr.node (Tr.node Tr.leaf (some (Ob.cells [(V.lit (Value.string (ByteArray.mk (Array.mk [(UInt8.ofNat 102), (UInt8.ofNat 111), (UInt8.ofNat 108), (UInt8.ofNat 105), (UInt8.ofNat 111)])))), (V.lit (Value.string (ByteArray.mk (Array.mk [(UInt8.ofNat 120)])))), (V.lit (Value.string (ByteArray.mk (Array.mk [(UInt8.ofNat 113), (UInt8.ofNat 117), (UInt8.ofNat 97), (UInt8.ofNat 114), (UInt8.ofNat 116), (UInt8.ofNat 111)])))), (V.lit (Value.string (ByteArray.mk (Array.mk [(UInt8.ofNat 120), (UInt8.ofNat 121)])))), (V.lit (Value.string (ByteArray.mk (Array.mk [(UInt8.ofNat 111), (UInt8.ofNat 99), (UInt8.ofNat 116), (UInt8.ofNat 97), (UInt8.ofNat 118), (UInt8.ofNat 111)])))), (V.lit (Value.string (ByteArray.mk (Array.mk [(UInt8.ofNat 120), (UInt8.ofNat 121), (UInt8.ofNat 120)]))))] 62)) Tr.leaf) none Tr.leaf)) none (Tr.node Tr.leaf none (Tr.node (Tr.node Tr.leaf (some (Ob.cells [(V.slc 41 0 3 3 Bool.false), (V.slc 44 0 1 1 Bool.false), (V.lit (Value.int IntKind.i64 (Int.ofNat 10))), (V.lit (Value.int IntKind.i64 (Int.ofNat 2)))] 25)) Tr.leaf) none Tr.leaf)))) (some (.cells tab64 t)) (Tr.node (Tr.node Tr.leaf none (Tr.node Tr.leaf none (Tr.node (Tr.node Tr.leaf (some (Ob.cells [(V.lit (Value.string (ByteArray.mk (Array.mk [(UInt8.ofNat 112), (UInt8.ofNat 111), (UInt8.ofNat 116)])))), (V.lit (Value.int IntKind.i64 (Int.ofNat 400))), (V.lit (Value.int IntKind.i64 (Int.ofNat 410))), (V.lit (Value.int IntKind.i64 (Int.ofNat 300))), (V.lit (Value.int IntKind.i64 (Int.ofNat 306)))] 75)) Tr.leaf) none Tr.leaf))) none Tr.leaf)⟩
theorem yfP1 (t : TypeId) : evGc Tryz.prog 100000 (piece 1 (bodyOf Tryz.f13)) yfA1 (yfH1 t) [0, 41, 44, 45] = .ok (.normal, yfA2, yfH2 t) := by kernel_rfl
def yfA3 : Fr := (Fr.mk (Tr.node (Tr.node (Tr.node (Tr.node (Tr.node (Tr.node Tr.leaf (some (V.lit (Value.int IntKind.i64 (Int.ofNat 0)))) Tr.leaf) none Tr.leaf) none Tr.leaf) (some (V.lit (Value.int IntKind.i64 (Int.ofNat 0)))) (Tr.node Tr.leaf none (Tr.node Tr.leaf (some (V.agg [(V.slc 41 0 3 3 Bool.false), (V.slc 44 0 1 1 Bool.false), (V.lit (Value.int IntKind.i64 (Int.ofNat 10))), (V.lit (Value.int IntKind.i64 (Int.ofNat 2)))])) Tr.leaf))) (some (V.ptr 45 0)) (Tr.node (Tr.node Tr.leaf none (Tr.node Tr.leaf (some (V.agg [(V.slc 41 0 3 3 Bool.false), (V.slc 44 0 1 1 Bool.false), (V.lit (Value.int IntKind.i64 (Int.ofNat 10))), (V.lit (Value.int IntKind.i64 (Int.ofNat 2)))])) Tr.leaf)) none (Tr.node Tr.leaf none (Tr.node Tr.leaf (some (V.tup [(V.slc 130 0 4 4 Bool.true), (V.lit (Value.int IntKind.i64 (Int.ofNat 0)))])) Tr.leaf)))) (some (V.lit (Value.bool Bool.false))) (Tr.node (Tr.node Tr.leaf none (Tr.node Tr.leaf none (Tr.node Tr.leaf (some (V.agg [(V.lit (Value.int IntKind.i64 (Int.ofNat 1))), (V.lit (Value.int IntKind.i64 (Int.ofNat 0))), (V.lit (Value.int IntKind.i64 (Int.ofNat 1))), (V.lit (Value.bool Bool.false))])) Tr.leaf))) (some (V.slc 130 0 4 4 Bool.true)) (Tr.node (Tr.node Tr.leaf none (Tr.node Tr.leaf (some (V.tup [(V.slc 130 0 4 4 Bool.true), (V.lit (Value.int IntKind.i64 (Int.ofNat 0)))])) Tr.leaf)) none (Tr.node Tr.leaf none (Tr.node Tr.leaf (some (V.slc 130 0 4 4 Bool.true)) Tr.leaf))))) 194 [] 1)
def yfH3 (t : TypeId) : H := ⟨132, 40, 40, .node (Tr.node Tr.leaf none (Tr.node (Tr.node Tr.leaf none (Tr.node (Tr.node Tr.leaf (some (Ob.cells [(V.lit (Value.string (ByteArray.mk (Array.mk [(UInt8.ofNat 102), (UInt8.ofNat 111), (UInt8.ofNat 108), (UInt8.ofNat 105), (UInt8.ofNat 111)])))), (V.lit (Value.string (ByteArray.mk (Array.mk [(UInt8.ofNat 120)])))), (V.lit (Value.string (ByteArray.mk (Array.mk [(UInt8.ofNat 113), (UInt8.ofNat 117), (UInt8.ofNat 97), (UInt8.ofNat 114), (UInt8.ofNat 116), (UInt8.ofNat 111)])))), (V.lit (Value.string (ByteArray.mk (Array.mk [(UInt8.ofNat 120), (UInt8.ofNat 121)])))), (V.lit (Value.string (ByteArray.mk (Array.mk [(UInt8.ofNat 111), (UInt8.ofNat 99), (UInt8.ofNat 116), (UInt8.ofNat 97), (UInt8.ofNat 118), (UInt8.ofNat 111)])))), (V.lit (Value.string (ByteArray.mk (Array.mk [(UInt8.ofNat 120), (UInt8.ofNat 121), (UInt8.ofNat 120)]))))] 62)) Tr.leaf) none Tr.leaf)) none (Tr.node Tr.leaf none (Tr.node (Tr.node Tr.leaf (some (Ob.cells [(V.slc 41 0 3 3 Bool.false), (V.slc 44 0 1 1 Bool.false), (V.lit (Value.int IntKind.i64 (Int.ofNat 10))), (V.lit (Value.int IntKind.i64 (Int.ofNat 2)))] 25)) Tr.leaf) none Tr.leaf)))) (some (.cells tab64 t)) (Tr.node (Tr.node Tr.leaf none (Tr.node Tr.leaf none (Tr.node (Tr.node Tr.leaf (some (Ob.cells [(V.lit (Value.string (ByteArray.mk (Array.mk [(UInt8.ofNat 112), (UInt8.ofNat 111), (UInt8.ofNat 116)])))), (V.lit (Value.int IntKind.i64 (Int.ofNat 400))), (V.lit (Value.int IntKind.i64 (Int.ofNat 410))), (V.lit (Value.int IntKind.i64 (Int.ofNat 300))), (V.lit (Value.int IntKind.i64 (Int.ofNat 306)))] 75)) Tr.leaf) none Tr.leaf))) none (Tr.node (Tr.node (Tr.node (Tr.node (Tr.node (Tr.node Tr.leaf (some (Ob.cells [(V.lit (Value.int IntKind.i64 (Int.ofNat 0))), (V.lit (Value.int IntKind.i64 (Int.ofNat 0))), (V.lit (Value.int IntKind.i64 (Int.ofNat 0))), (V.lit (Value.bool Bool.false)), (V.lit (Value.bool Bool.false)), (V.lit (Value.int IntKind.i64 (Int.ofNat 0))), (V.lit (Value.int IntKind.i64 (Int.ofNat 1))), (V.lit (Value.int IntKind.i64 (Int.ofNat 0))), (V.lit (Value.bool Bool.true)), (V.lit (Value.bool Bool.true)), (V.lit (Value.int IntKind.i64 (Int.ofNat 0))), (V.lit (Value.int IntKind.i64 (Int.ofNat 1))), (V.lit (Value.int IntKind.i64 (Int.ofNat 1))), (V.lit (Value.bool Bool.false)), (V.lit (Value.bool Bool.true)), (V.lit (Value.int IntKind.i64 (Int.ofNat 0))), (V.lit (Value.int IntKind.i64 (Int.ofNat 0))), (V.lit (Value.int IntKind.i64 (Int.ofNat 1))), (V.lit (Value.bool Bool.true)), (V.lit (Value.bool Bool.false))] 57)) Tr.leaf) none Tr.leaf) none Tr.leaf) none Tr.leaf) none Tr.leaf) none Tr.leaf))⟩
theorem yfP2 (t : TypeId) : evGc Tryz.prog 100000 (piece 2 (bodyOf Tryz.f13)) yfA2 (yfH2 t) [0, 41, 44, 45, 130] = .ok (.normal, yfA3, yfH3 t) := by kernel_rfl
def yfA4 : Fr := (Fr.mk (Tr.node (Tr.node (Tr.node (Tr.node (Tr.node (Tr.node Tr.leaf (some (V.lit (Value.int IntKind.i64 (Int.ofNat 0)))) Tr.leaf) none Tr.leaf) none Tr.leaf) (some (V.lit (Value.int IntKind.i64 (Int.ofNat 0)))) (Tr.node (Tr.node (Tr.node Tr.leaf (some (V.tup [(V.slc 234 0 4 4 Bool.true), (V.lit (Value.int IntKind.i64 (Int.ofNat 0)))])) Tr.leaf) none Tr.leaf) none (Tr.node Tr.leaf (some (V.agg [(V.slc 41 0 3 3 Bool.false), (V.slc 44 0 1 1 Bool.false), (V.lit (Value.int IntKind.i64 (Int.ofNat 10))), (V.lit (Value.int IntKind.i64 (Int.ofNat 2)))])) Tr.leaf))) (some (V.ptr 45 0)) (Tr.node (Tr.node (Tr.node (Tr.node Tr.leaf (some (V.agg [(V.slc 41 0 3 3 Bool.false), (V.slc 44 0 1 1 Bool.false), (V.lit (Value.int IntKind.i64 (Int.ofNat 10))), (V.lit (Value.int IntKind.i64 (Int.ofNat 2)))])) Tr.leaf) none Tr.leaf) none (Tr.node Tr.leaf (some (V.agg [(V.slc 41 0 3 3 Bool.false), (V.slc 44 0 1 1 Bool.false), (V.lit (Value.int IntKind.i64 (Int.ofNat 10))), (V.lit (Value.int IntKind.i64 (Int.ofNat 2)))])) Tr.leaf)) (some (V.lit (Value.int IntKind.i64 (Int.ofNat 0)))) (Tr.node (Tr.node (Tr.node Tr.leaf (some (V.lit (Value.int IntKind.i64 (Int.ofNat 0)))) Tr.leaf) none Tr.leaf) none (Tr.node Tr.leaf (some (V.tup [(V.slc 130 0 4 4 Bool.true), (V.lit (Value.int IntKind.i64 (Int.ofNat 0)))])) Tr.leaf)))) (some (V.lit (Value.bool Bool.false))) (Tr.node (Tr.node (Tr.node (Tr.node (Tr.node Tr.leaf (some (V.tup [(V.slc 234 0 4 4 Bool.true), (V.lit (Value.int IntKind.i64 (Int.ofNat 0)))])) Tr.leaf) none Tr.leaf) none Tr.leaf) (some (V.slc 234 0 4 4 Bool.true)) (Tr.node (Tr.node (Tr.node Tr.leaf (some (V.slc 234 0 4 4 Bool.true)) Tr.leaf) none Tr.leaf) none (Tr.node Tr.leaf (some (V.agg [(V.lit (Value.int IntKind.i64 (Int.ofNat 1))), (V.lit (Value.int IntKind.i64 (Int.ofNat 0))), (V.lit (Value.int IntKind.i64 (Int.ofNat 1))), (V.lit (Value.bool Bool.false))])) Tr.leaf))) (some (V.slc 130 0 4 4 Bool.true)) (Tr.node (Tr.node (Tr.node (Tr.node Tr.leaf (some (V.agg [(V.lit (Value.int IntKind.i64 (Int.ofNat 1))), (V.lit (Value.int IntKind.i64 (Int.ofNat 0))), (V.lit (Value.int IntKind.i64 (Int.ofNat 1))), (V.lit (Value.bool Bool.false))])) Tr.leaf) none Tr.leaf) none (Tr.node Tr.leaf (some (V.tup [(V.slc 130 0 4 4 Bool.true), (V.lit (Value.int IntKind.i64 (Int.ofNat 0)))])) Tr.leaf)) none (Tr.node Tr.leaf none (Tr.node Tr.leaf (some (V.slc 130 0 4 4 Bool.true)) Tr.leaf))))) 194 [] 1)
def yfH4 (t : TypeId) : H := ⟨235, 40, 40, .node (Tr.node Tr.leaf none (Tr.node (Tr.node Tr.leaf none (Tr.node (Tr.node Tr.leaf (some (Ob.cells [(V.lit (Value.string (ByteArray.mk (Array.mk [(UInt8.ofNat 102), (UInt8.ofNat 111), (UInt8.ofNat 108), (UInt8.ofNat 105), (UInt8.ofNat 111)])))), (V.lit (Value.string (ByteArray.mk (Array.mk [(UInt8.ofNat 120)])))), (V.lit (Value.string (ByteArray.mk (Array.mk [(UInt8.ofNat 113), (UInt8.ofNat 117), (UInt8.ofNat 97), (UInt8.ofNat 114), (UInt8.ofNat 116), (UInt8.ofNat 111)])))), (V.lit (Value.string (ByteArray.mk (Array.mk [(UInt8.ofNat 120), (UInt8.ofNat 121)])))), (V.lit (Value.string (ByteArray.mk (Array.mk [(UInt8.ofNat 111), (UInt8.ofNat 99), (UInt8.ofNat 116), (UInt8.ofNat 97), (UInt8.ofNat 118), (UInt8.ofNat 111)])))), (V.lit (Value.string (ByteArray.mk (Array.mk [(UInt8.ofNat 120), (UInt8.ofNat 121), (UInt8.ofNat 120)]))))] 62)) Tr.leaf) none Tr.leaf)) none (Tr.node Tr.leaf none (Tr.node (Tr.node Tr.leaf (some (Ob.cells [(V.slc 41 0 3 3 Bool.false), (V.slc 44 0 1 1 Bool.false), (V.lit (Value.int IntKind.i64 (Int.ofNat 10))), (V.lit (Value.int IntKind.i64 (Int.ofNat 2)))] 25)) Tr.leaf) none Tr.leaf)))) (some (.cells tab64 t)) (Tr.node (Tr.node Tr.leaf none (Tr.node Tr.leaf none (Tr.node (Tr.node Tr.leaf (some (Ob.cells [(V.lit (Value.string (ByteArray.mk (Array.mk [(UInt8.ofNat 112), (UInt8.ofNat 111), (UInt8.ofNat 116)])))), (V.lit (Value.int IntKind.i64 (Int.ofNat 400))), (V.lit (Value.int IntKind.i64 (Int.ofNat 410))), (V.lit (Value.int IntKind.i64 (Int.ofNat 300))), (V.lit (Value.int IntKind.i64 (Int.ofNat 306)))] 75)) Tr.leaf) none Tr.leaf))) none (Tr.node (Tr.node (Tr.node (Tr.node (Tr.node (Tr.node Tr.leaf (some (Ob.cells [(V.lit (Value.int IntKind.i64 (Int.ofNat 0))), (V.lit (Value.int IntKind.i64 (Int.ofNat 0))), (V.lit (Value.int IntKind.i64 (Int.ofNat 0))), (V.lit (Value.bool Bool.false)), (V.lit (Value.bool Bool.false)), (V.lit (Value.int IntKind.i64 (Int.ofNat 0))), (V.lit (Value.int IntKind.i64 (Int.ofNat 1))), (V.lit (Value.int IntKind.i64 (Int.ofNat 0))), (V.lit (Value.bool Bool.true)), (V.lit (Value.bool Bool.true)), (V.lit (Value.int IntKind.i64 (Int.ofNat 0))), (V.lit (Value.int IntKind.i64 (Int.ofNat 1))), (V.lit (Value.int IntKind.i64 (Int.ofNat 1))), (V.lit (Value.bool Bool.false)), (V.lit (Value.bool Bool.true)), (V.lit (Value.int IntKind.i64 (Int.ofNat 0))), (V.lit (Value.int IntKind.i64 (Int.ofNat 0))), (V.lit (Value.int IntKind.i64 (Int.ofNat 1))), (V.lit (Value.bool Bool.true)), (V.lit (Value.bool Bool.false))] 57)) Tr.leaf) none Tr.leaf) none Tr.leaf) none Tr.leaf) none (Tr.node (Tr.node Tr.leaf none (Tr.node Tr.leaf none (Tr.node Tr.leaf (some (Ob.cells [(V.lit (Value.int IntKind.i64 (Int.ofNat 2))), (V.lit (Value.int IntKind.i64 (Int.negSucc 2))), (V.lit (Value.int IntKind.i64 (Int.ofNat 7))), (V.lit (Value.int IntKind.i64 (Int.negSucc 5)))] 3)) Tr.leaf))) none Tr.leaf)) none Tr.leaf))⟩
theorem yfP3 (t : TypeId) : evGc Tryz.prog 100000 (piece 3 (bodyOf Tryz.f13)) yfA3 (yfH3 t) [0, 41, 44, 45, 130, 234] = .ok (.normal, yfA4, yfH4 t) := by kernel_rfl
end
end Go.Proofs.YthnifhejmoggmaaGreatDoor
