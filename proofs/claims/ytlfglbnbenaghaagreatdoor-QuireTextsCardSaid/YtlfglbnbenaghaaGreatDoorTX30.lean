/- The parts Cz, Lv, Lw of the proof, joined. It holds without conditions of its own. -/
import Derived.Test.YtlfglbnbenaghaaGreatDoorTX16
import Derived.Test.YtlfglbnbenaghaaGreatDoorTX14
import Derived.Test.YtlfglbnbenaghaaGreatDoorTX29
import Derived.Test.YtlfglbnbenaghaaGreatDoorTX20
/- The reference's Behind. -/
namespace Go.Proofs.YtlfglbnbenaghaaGreatDoor
set_option linter.unusedSimpArgs false
set_option linter.unusedVariables false
open Go Go.RowKit Go.Sort Go.BigFrame

set_option maxRecDepth 100000 in
set_option maxHeartbeats 400000 in
theorem refBehind_any (n : Nat) (hn : n < 1000) (r' l' : Int) (hr : r' = 1 + (n : Int) / 23) (hl : l' = (n : Int) % 23) (w : World) :
    Calls Tryz.prog 70 #[.int .i64 n] w fun e w' => e = .returned (.agg #[.int .i64 r', .int .i64 l']) ∧ Below w.heap.size w w' := by
  have e1 : IntKind.i64.wrap ((n : Int) / 23) = (n : Int) / 23 := IntWalk.i64_in _ (by omega)
  have e2 : IntKind.i64.wrap (1 + (n : Int) / 23) = 1 + (n : Int) / 23 := IntWalk.i64_in _ (by omega)
  subst hr hl
  go_enter Tryz.func70, Tryz.ntmps70
  go_wp2_with fail
  exact bodyPost_ret (v := .agg #[.int .i64 (1 + (n : Int) / 23), .int .i64 ((n : Int) % 23)]) (by simp [results, Tryz.results70, go_sem]) rfl ⟨rfl, (by repeat (first | exact Below.refl _ _ | assumption | (refine Below.alloc ?_ ?_ _; rotate_left; · (first | omega | (simp; done) | (simp; omega) | (simp at *; omega) | fail)) | (refine Below.setCell ?_ ?_ _; rotate_left; · (first | omega | (simp; done) | (simp; omega) | (simp at *; omega) | fail)) | refine Below.drew ?_ | fail))⟩

end Go.Proofs.YtlfglbnbenaghaaGreatDoor

/- The reference's items: a range. -/
namespace Go.Proofs.YtlfglbnbenaghaaGreatDoor
set_option linter.unusedSimpArgs false
set_option linter.unusedVariables false
open Go Go.RowKit Go.Sort Go.BigFrame Go.Shelf
attribute [local go_sem] Oper.semAt_some putAll

/-- The signature of a place. -/
def rkS (n : Nat) : Int × Int := (1 + (n : Int) / 23, (n : Int) % 23)
theorem rkS_is {s : Int × Int} {n : Nat} (h : rankS s.1 s.2 = n) (h0 : 0 ≤ s.2 ∧ s.2 < 23) : rkS n = s := by
  unfold rankS at h
  unfold rkS
  exact Prod.ext (by show 1 + (n : Int) / 23 = s.1; omega) (by show (n : Int) % 23 = s.2; omega)
theorem runS_range : ∀ (k : Nat) (s l : Int × Int) (n : Nat), rankS s.1 s.2 = n → rankS l.1 l.2 = n + k → 0 ≤ s.2 ∧ s.2 < 23 → 0 ≤ l.2 ∧ l.2 < 23 → runS k s l = (List.range (k + 1)).map fun j => rkS (n + j)
  | 0, s, l, n, h1, h2, h3, h4 => by
    show [s] = [rkS (n + 0)]
    rw [Nat.add_zero, rkS_is h1 h3]
  | k + 1, s, l, n, h1, h2, h3, h4 => by
    have hne : s ≠ l := fun e => by
      rw [← e] at h2
      omega
    have ho := nextS_ok (r := s.1) h3
    have hr := rank_next' h3.2
    have ih := runS_range k (nextS s.1 s.2) l (n + 1) (by rw [hr, h1]; rfl) (by rw [h2]; omega) ⟨ho.1, ho.2.1⟩ h4
    rw [runS, if_neg hne, ih, List.range_succ_eq_map (n := k + 1), List.map_cons, List.map_map]
    show s :: _ = rkS n :: _
    rw [rkS_is h1 h3]
    congr 1
    apply List.map_congr_left
    intro j _
    show rkS (n + 1 + j) = rkS (n + (j + 1))
    congr 1
    omega
/-- The gatherings of a range. -/
def mkG (R0 : Nat) (D : Int) (j : Nat) : Gth := ⟨(rkS (R0 + j)).1, (rkS (R0 + j)).2, D, []⟩
def rgZ (R0 : Nat) (D : Int) (k : Nat) : List (Gth × Value) := (List.range k).map fun j => (mkG R0 D j, Value.slice none 0 0)
theorem rgZ_succ (R0 : Nat) (D : Int) (k : Nat) : gtCells (rgZ R0 D (k + 1)) = gtCells (rgZ R0 D k) ++ [.int .i64 (mkG R0 D k).round, .int .i64 (mkG R0 D k).letter, .int .i64 (mkG R0 D k).leaves, .slice none 0 0] := by
  unfold rgZ gtCells
  rw [List.range_succ, List.map_append, List.flatMap_append]
  rfl
theorem rankF_le {r l : Int} (h : sigB r l = true) : rankF r l ≤ 68 := by
  have := sigB_iff.1 h
  unfold rankF
  split <;> omega
theorem rankF_nat {r l : Int} {n : Nat} (h : sigB r l = true) (e : (n : Int) = rankF r l) : l < 23 ∧ 0 ≤ l ∧ rankS r l = n := by
  have h1 := sigB_iff.1 h
  unfold rankF at e
  unfold rankS
  split at e <;> omega
theorem tail_run {a b : Int × Int} {v : Bs} (hne : b ≠ a) : ∀ x, cutF 40 v = [x] → tailF a b v = if 0 ≤ decF x then some ((runS (rankS b.1 b.2 - rankS a.1 a.2).toNat a b).map fun s => ⟨s.1, s.2, decF x, []⟩) else none := fun x h => by
  unfold tailF
  rw [h]
  dsimp only
  rw [if_neg hne]
theorem tail_run2 {a b : Int × Int} {v : Bs} (hne : b ≠ a) : ∀ x y, cutF 40 v = [x, y] → tailF a b v = none := fun x y h => by
  unfold tailF
  rw [h]
  dsimp only
  rw [if_neg (fun e => hne e.2)]

set_option maxRecDepth 100000 in
set_option maxHeartbeats 3200000 in
theorem refItems_range (s : Bs) (w : World) (hs : s.length ≤ 1048576) (a1 a2 : Int) (u : Bs) (hq : sigF s = some ((a1, a2), 45 :: u)) :
    Calls Tryz.prog 32 #[S s] w fun e w' => ItemsR (itemsF2 s) w.heap.size e w' ∧ Below w.heap.size w w' := by
  have HR : Hid (begR s = .tuple #[.agg #[.int .i64 a1, .int .i64 a2], S (45 :: u), .bool true]) := Lib.hid (by unfold begR; rw [hq])
  have HF0 : Hid (itemsF2 s = match sigF u with
    | none => none
    | some (b, v) => if 0 ≤ rankF a1 a2 ∧ rankF a1 a2 < rankF b.1 b.2 then tailF (a1, a2) b v else none) := Lib.hid (by unfold itemsF2; rw [hq]; rfl)
  have HS := Lib.hid hs
  have HSA := Lib.hid (sigF_len hq).2
  have HUL : Hid (u.length ≤ 1048576) := Lib.hid (by have := (sigF_len hq).1; simp at this; omega)
  obtain ⟨t, ht⟩ : ∃ t, t = (45 : UInt8) :: u := ⟨_, rfl⟩
  rw [← ht] at HR
  have hb0 : ∀ h : 0 < (⟨t.toArray⟩ : ByteArray).size, (⟨t.toArray⟩ : ByteArray)[0]'h = 45 := fun h => by
    subst ht
    rfl
  obtain ⟨N, hN⟩ : ∃ N, N = t.length := ⟨_, rfl⟩
  have hzt : (⟨t.toArray⟩ : ByteArray).size = N := by rw [size_bytes, hN]
  have g1 : (0 : Int) < (N : Int) := by rw [hN, ht]; simp
  have g0 : decide ((0 : Int) < (N : Int)) = true := decide_eq_true g1
  have g2 : (1 : Int) ≤ (N : Int) := by omega
  have hex : (⟨t.toArray⟩ : ByteArray).extract 1 N = ⟨u.toArray⟩ := by
    rw [hN, ext_drop t 1 (by rw [ht]; simp), ht]
    rfl
  clear hq hs hN ht
  go_enter Tryz.func32, Tryz.ntmps32
  go_wp2_with fail
  refine (refBegins_any s _ HS.out).mono ?_
  rintro e w1 ⟨rfl, hb1⟩
  rw [HR.out]
  have HB1 := Lib.hid hb1
  clear hb1
  go_wp2_with fail
  refine (refBegins_any u _ HUL.out).mono ?_
  rintro e w2 ⟨rfl, hb2⟩
  have hX := blk_later hb2 (show ((w1.alloc (.cells #[.int .i64 a1, .int .i64 a2] 39)).alloc (.cells #[.int .i64 a1, .int .i64 a2] 39)).heap[w1.heap.size]? = some (.cells #[.int .i64 a1, .int .i64 a2] 39) from (by repeat (first | exact heap_alloc_at _ _ _ (by (first | omega | (simp; done) | (simp; omega) | fail)) | (refine (heap_alloc_past _ _ _ ?_).trans ?_; · (first | omega | (simp; done) | (simp; omega) | fail)) | fail)))
  have hY := blk_later hb2 (show ((w1.alloc (.cells #[.int .i64 a1, .int .i64 a2] 39)).alloc (.cells #[.int .i64 a1, .int .i64 a2] 39)).heap[w1.heap.size + 1]? = some (.cells #[.int .i64 a1, .int .i64 a2] 39) from (by repeat (first | exact heap_alloc_at _ _ _ (by (first | omega | (simp; done) | (simp; omega) | fail)) | (refine (heap_alloc_past _ _ _ ?_).trans ?_; · (first | omega | (simp; done) | (simp; omega) | fail)) | fail)))
  have hzz1 := HB1.out.size
  have HB2 := Lib.hid (show Below w.heap.size w w2 from Below.trans (by exact (by repeat (first | (refine Below.setCell ?_ ?_ _; rotate_left; · (first | omega | (simp; done) | (simp; omega) | fail)) | (refine Below.alloc ?_ ?_ _; rotate_left; · (first | omega | (simp; done) | (simp; omega) | fail)) | refine Below.drew ?_ | exact HB1.out | fail))) (hb2.mono (by simp; omega)))
  have HX2 := Lib.hid hX
  have HY2 := Lib.hid hY
  clear hb2 hX hY hb0 hex g0 g1 g2 hzt
  cases hq2 : sigF u with
  | none =>
    have HR2 : Hid (begR u = .tuple #[.agg #[.int .i64 0, .int .i64 0], S u, .bool false]) := Lib.hid (by unfold begR; rw [hq2])
    have HNO : Hid (itemsF2 s = none) := Lib.hid (by rw [HF0.out, hq2])
    rw [HR2.out]
    clear hq2
    have d0 := blk_cell HY2.out 0; have d1 := blk_cell HY2.out 1
    have f0 := blk_free HY2.out 0; have f1 := blk_free HY2.out 1
    go_wp2_with fail
    refine wp_region_quiet_below (by kernel_rfl) (by kernel_rfl) ?_; (repeat (go_big_quiet_step (fail))); refine wpQuiet_nil ?_; rintro w6 ⟨⟨d6, os6⟩, rfl⟩
    go_wp2_with fail
    go_ret2
    exact ⟨⟨_, _, rfl, by rw [HNO.out]⟩, ((HB2.out.setCell (by simp; omega) _).setCell (by simp; omega) _).trans ((below_regrown _ d6 os6).mono (by have := HB2.out.size; simp; omega))⟩
  | some p =>
    obtain ⟨⟨b1, b2⟩, v⟩ := p
    have HR2 : Hid (begR u = .tuple #[.agg #[.int .i64 b1, .int .i64 b2], S v, .bool true]) := Lib.hid (by unfold begR; rw [hq2])
    have HSB := Lib.hid (sigF_len hq2).2
    have HVL : Hid (v.length ≤ 1048576) := Lib.hid (by have := (sigF_len hq2).1; have := HUL.out; omega)
    have HF : Hid (itemsF2 s = if 0 ≤ rankF a1 a2 ∧ rankF a1 a2 < rankF b1 b2 then tailF (a1, a2) (b1, b2) v else none) := Lib.hid (by rw [HF0.out, hq2])
    rw [HR2.out]
    clear hq2 HF0
    have d0 := blk_cell HY2.out 0; have d1 := blk_cell HY2.out 1
    have f0 := blk_free HY2.out 0; have f1 := blk_free HY2.out 1
    go_upto_region 7 with fail
    obtain ⟨W, hW⟩ : ∃ W, W = (w2.setCell ⟨w1.heap.size + 1, 0, none⟩ (.int .i64 b1)).setCell ⟨w1.heap.size + 1, 1, none⟩ (.int .i64 b2) := ⟨_, rfl⟩
    rw [← hW]
    have HXW : Hid (W.heap[w1.heap.size]? = some (.cells #[.int .i64 a1, .int .i64 a2] 39)) := Lib.hid (by rw [hW]; exact (heap_setCell_past _ _ _ _ (by simp)).trans ((heap_setCell_past _ _ _ _ (by simp)).trans HX2.out))
    have HYW : Hid (W.heap[w1.heap.size + 1]? = some (.cells #[.int .i64 b1, .int .i64 b2] 39)) := Lib.hid (by rw [hW]; exact blk_setRow HY2.out _ _)
    have HBW := Lib.hid (show Below w.heap.size w W by rw [hW]; exact (HB2.out.setCell (by simp; omega) _).setCell (by simp; omega) _)
    clear hW d0 d1 f0 f1 HX2 HY2 HB2 HR2 HR
    have c0 := cell_regrown (blk_cell HXW.out 0)
    have c1 := cell_regrown (blk_cell HXW.out 1)
    have d0 := cell_regrown (blk_cell HYW.out 0)
    have d1 := cell_regrown (blk_cell HYW.out 1)
    obtain ⟨RA, hRA⟩ : ∃ RA, RA = rankF a1 a2 := ⟨_, rfl⟩
    obtain ⟨RB, hRB⟩ : ∃ RB, RB = rankF b1 b2 := ⟨_, rfl⟩
    have cA : ∀ d os, Calls Tryz.prog 68 #[.agg #[.int .i64 a1, .int .i64 a2]] (grow (redrawn W d) os) (fun e w'' => e = .returned (.int .i64 RA) ∧ ∃ p : Regrown, w'' = grow (redrawn W p.d) p.os) := fun d os => Calls.regrown_of (by rw [hRA]; exact refRank_any a1 a2 _ HSA.out)
    have cB : ∀ d os, Calls Tryz.prog 68 #[.agg #[.int .i64 b1, .int .i64 b2]] (grow (redrawn W d) os) (fun e w'' => e = .returned (.int .i64 RB) ∧ ∃ p : Regrown, w'' = grow (redrawn W p.d) p.os) := fun d os => Calls.regrown_of (by rw [hRB]; exact refRank_any b1 b2 _ HSB.out)
    have HCA : Hid (∀ w', Calls Tryz.prog 68 #[.agg #[.int .i64 a1, .int .i64 a2]] w' fun e w'' => e = .returned (.int .i64 RA) ∧ Below w'.heap.size w' w'') := Lib.hid (fun w' => by rw [hRA]; exact refRank_any a1 a2 w' HSA.out)
    have HCB : Hid (∀ w', Calls Tryz.prog 68 #[.agg #[.int .i64 b1, .int .i64 b2]] w' fun e w'' => e = .returned (.int .i64 RB) ∧ Below w'.heap.size w' w'') := Lib.hid (fun w' => by rw [hRB]; exact refRank_any b1 b2 w' HSB.out)
    rw [← hRA, ← hRB] at HF
    have HRA := Lib.hid hRA
    have HRB := Lib.hid hRB
    clear hRA hRB
    by_cases hA0 : RA < 0
    · have e1 : decide (RA < 0) = true := decide_eq_true hA0
      have HNO : Hid (itemsF2 s = none) := Lib.hid (by rw [HF.out, if_neg (by omega)])
      refine wp_region_quiet_below (by kernel_rfl) (by kernel_rfl) ?_; (repeat (go_big_quiet_step (first | (with_reducible exact cA _ _) | (with_reducible exact cB _ _)))); refine wpQuiet_nil ?_; rintro w6 ⟨⟨d6, os6⟩, rfl⟩
      have HB6 := Lib.hid (HBW.out.trans ((below_regrown W d6 os6).mono HBW.out.size))
      go_wp2_with fail
      go_ret2
      exact ⟨⟨_, _, rfl, by rw [HNO.out]⟩, HB6.out⟩
    · have e1 : decide (RA < 0) = false := decide_eq_false hA0
      by_cases hAB : RB ≤ RA
      · have e2 : decide (RB ≤ RA) = true := decide_eq_true hAB
        have HNO : Hid (itemsF2 s = none) := Lib.hid (by rw [HF.out, if_neg (by omega)])
        refine wp_region_quiet_below (by kernel_rfl) (by kernel_rfl) ?_; (repeat (go_big_quiet_step (first | (with_reducible exact cA _ _) | (with_reducible exact cB _ _)))); refine wpQuiet_nil ?_; rintro w6 ⟨⟨d6, os6⟩, rfl⟩
        have HB6 := Lib.hid (HBW.out.trans ((below_regrown W d6 os6).mono HBW.out.size))
        go_wp2_with fail
        go_ret2
        exact ⟨⟨_, _, rfl, by rw [HNO.out]⟩, HB6.out⟩
      · have e2 : decide (RB ≤ RA) = false := decide_eq_false hAB
        have HF2 : Hid (itemsF2 s = tailF (a1, a2) (b1, b2) v) := Lib.hid (by rw [HF.out, if_pos (by omega)])
        have HNE : Hid (((b1, b2) : Int × Int) ≠ (a1, a2)) := Lib.hid (fun e => by
          cases e
          have h1 := HRA.out
          have h2 := HRB.out
          omega)
        refine wp_region_quiet_below (by kernel_rfl) (by kernel_rfl) ?_; (repeat (go_big_quiet_step (first | (with_reducible exact cA _ _) | (with_reducible exact cB _ _)))); refine wpQuiet_nil ?_; rintro w6 ⟨⟨d6, os6⟩, rfl⟩
        have hB6 := below_regrown W d6 os6
        have HX6 := Lib.hid (blk_later hB6 HXW.out)
        have HY6 := Lib.hid (blk_later hB6 HYW.out)
        have HB6 := Lib.hid (HBW.out.trans (hB6.mono HBW.out.size))
        clear c0 c1 d0 d1 cA cB e1 e2 hB6 HXW HYW HBW HF
        revert HX6 HY6 HB6
        dsimp only
        generalize grow (redrawn W d6) os6 = w6
        intro HX6 HY6 HB6
        go_wp2_with fail
        refine (refCut_any v 40 _ HVL.out).mono ?_
        rintro e w3 ⟨⟨v', rfl, hrow⟩, hb3⟩
        have hX := blk_later hb3 HX6.out
        have hY := blk_later hb3 HY6.out
        have HB3 := Lib.hid (HB6.out.trans (hb3.mono HB6.out.size))
        have hps := strs_of_row hrow
        have hcl := cutF_short 40 v
        have hne := cutF_ne 40 v
        have HP1 := Lib.hid (tail_run (v := v) HNE.out)
        have HP2 := Lib.hid (tail_run2 (v := v) HNE.out)
        have HPN := Lib.hid (tail_no (a := (a1, a2)) (b := (b1, b2)) (v := v))
        obtain ⟨ps, hps'⟩ : ∃ ps, ps = cutF 40 v := ⟨_, rfl⟩
        rw [← hps'] at hps hcl hne HP1 HP2 HPN
        clear hps' hb3 hrow
        obtain ⟨q, cap, rfl, hc⟩ := hps
        obtain ⟨g, rfl, hg, hc⟩ := hc hne
        obtain ⟨x, ps', rfl⟩ : ∃ x ps', ps = x :: ps' := by
          cases ps with
          | nil => exact absurd rfl hne
          | cons x ps' => exact ⟨x, ps', rfl⟩
        have x0 := hc 0 x rfl
        have HU : Hid (x.length ≤ 1048576) := Lib.hid (Nat.le_trans (hcl x (by simp)) HVL.out)
        obtain ⟨D, hD⟩ : ∃ D, D = decF x := ⟨_, rfl⟩
        have HD := Lib.hid hD
        have HXX := Lib.hid hX
        have HYY := Lib.hid hY
        obtain ⟨n, hn⟩ : ∃ n, n = ps'.length := ⟨_, rfl⟩
        have hn1 : (x :: ps').length = n + 1 := by rw [hn]; rfl
        rw [hn1]
        have HN := Lib.hid hn
        clear hc hcl hne hD hX hY hg hn hn1 hzz1
        go_wp2_with fail
        refine (refDecimal_any x _ HU.out).mono ?_
        rintro e w4 ⟨rfl, hb4⟩
        rw [← HD.out]
        go_upto_region 11 with fail
        obtain ⟨W, hW⟩ : ∃ W, W = w4.alloc (.cells #[.int .i64 0, .int .i64 0, .int .i64 D, .slice none 0 0] 42) := ⟨_, rfl⟩
        rw [← hW]
        have hb4' : Below w3.heap.size w3 W := by rw [hW]; exact hb4.alloc hb4.size _
        have HGW : Hid (W.heap[w4.heap.size]? = some (.cells #[.int .i64 0, .int .i64 0, .int .i64 D, .slice none 0 0] 42)) := Lib.hid (by rw [hW]; exact (by repeat (first | exact heap_alloc_at _ _ _ (by (first | omega | (simp; done) | (simp; omega) | fail)) | (refine (heap_alloc_past _ _ _ ?_).trans ?_; · (first | omega | (simp; done) | (simp; omega) | fail)) | fail)))
        have HXW := Lib.hid (blk_later hb4' HXX.out)
        have HYW := Lib.hid (blk_later hb4' HYY.out)
        have HBW := Lib.hid (HB3.out.trans (hb4'.mono HB3.out.size))
        clear hW hb4 hb4' x0 HXX HYY HB3 HU
        by_cases hD0 : D < 0
        · have e1 : decide (D < 0) = true := decide_eq_true hD0
          have HNO : Hid (itemsF2 s = none) := Lib.hid (by
            rw [HF2.out]
            rcases ps' with _ | ⟨y, _ | ⟨z, ps'⟩⟩
            · rw [HP1.out x rfl, if_neg (by rw [← HD.out]; omega)]
            · exact HP2.out x y rfl
            · exact HPN.out (by simp) (by simp))
          have z0 := blk_cell HGW.out 0; have z1 := blk_cell HGW.out 1; have z2 := blk_cell HGW.out 2; have z3 := blk_cell HGW.out 3
          go_wp2_with fail
          go_ret2
          exact ⟨⟨_, _, rfl, by rw [HNO.out]⟩, HBW.out⟩
        · have e1 : decide (D < 0) = false := decide_eq_false hD0
          have z0 := blk_cell HGW.out 0; have z1 := blk_cell HGW.out 1; have z2 := blk_cell HGW.out 2; have z3 := blk_cell HGW.out 3
          have c0 := blk_cell HXW.out 0; have c1 := blk_cell HXW.out 1
          have d0 := blk_cell HYW.out 0; have d1 := blk_cell HYW.out 1
          have hne2 : ¬ (b1 = a1 ∧ b2 = a2) := fun h => HNE.out (by rw [h.1, h.2])
          rcases ps' with _ | ⟨y, _ | ⟨y2, ps'⟩⟩
          · obtain rfl : n = 0 := HN.out
            clear hne2
            by_cases hb1e : b1 = a1
            · subst hb1e
              have hb2e : ¬ b2 = a2 := fun h => HNE.out (by rw [h])
              go_wp2_with fail
              clear c0 c1 d0 d1 z0 z1 z2 z3 e1 hb2e
              refine (HCA.out _).mono ?_
              rintro e w5 ⟨rfl, hb5⟩
              obtain ⟨R0, rfl⟩ : ∃ R0 : Nat, RA = (R0 : Int) := ⟨RA.toNat, by omega⟩
              obtain ⟨K, rfl⟩ : ∃ K : Nat, RB = ((R0 + K : Nat) : Int) := ⟨(RB - R0).toNat, by omega⟩
              have hRK : R0 + K ≤ 68 := by have := rankF_le HSB.out; rw [← HRB.out] at this; omega
              obtain ⟨ha23, ha0, hra⟩ := rankF_nat HSA.out HRA.out
              obtain ⟨hb23, hb0, hrb⟩ := rankF_nat HSB.out HRB.out
              have HRUN : Hid (itemsF2 s = some ((List.range (K + 1)).map (mkG R0 D))) := Lib.hid (by
                rw [HF2.out, HP1.out x rfl, if_pos (by rw [← HD.out]; omega), ← HD.out]
                try dsimp only
                rw [hra, hrb, show (((R0 + K : Nat) : Int) - (R0 : Int)).toNat = K by omega, runS_range K _ _ R0 hra (by rw [hrb]; omega) ⟨ha0, ha23⟩ ⟨hb0, hb23⟩, List.map_map]
                rfl)
              have HG5 := Lib.hid (blk_later hb5 HGW.out)
              have HY5 := Lib.hid (blk_later hb5 HYW.out)
              have HB5 := Lib.hid (HBW.out.trans (hb5.mono HBW.out.size))
              have HR0 : Hid (w5.ownsRow w5.heap.size 42 4 (.slice none 0 0) 0 []) := Lib.hid (World.ownsRow_nil _ _ _ _)
              have HBL : Hid (Below w5.heap.size w5 w5) := Lib.hid (Below.refl _ _)
              obtain ⟨ei, hi1, hi2, hi3, hi4⟩ := elemGth
              have HI := Lib.hid (And.intro hi1 (And.intro hi2 (And.intro hi3 hi4)))
              clear hi1 hi2 hi3 hi4 hb5 ha23 ha0 hra hb23 hb0 hrb
              go_wp2_with fail
              go_loopw [15, 16] (fun o n wr => ∃ k : Nat, k ≤ K + 1 ∧ n = .int .i64 ((R0 + k : Nat) : Int) ∧ Hid (wr.ownsRow w5.heap.size 42 4 o k (gtCells (rgZ R0 D k))) ∧ Hid (Below w5.heap.size w5 wr)) (fun _ n _ => R0 + K + 1 - (intOf n).toNat)
              case atStart => exact ⟨0, by omega, rfl, HR0, HBL⟩
              case round =>
                clear HR0 HBL
                obtain ⟨k, hk, rfl, HRW, HBL⟩ := hrel
                have hYb := blk_later HBL.out HY5.out
                have d0 := blk_cell hYb 0; have d1 := blk_cell hYb 1
                clear hYb
                go_wp2_with fail
                refine (HCB.out _).mono ?_
                rintro e wA ⟨rfl, hbA⟩
                have HRW := Lib.hid (row_later HRW.out hbA)
                have HBL := Lib.hid (HBL.out.trans (hbA.mono HBL.out.size))
                clear hbA d0 d1
                by_cases hlt : k ≤ K
                · have d1 : ((R0 + k : Nat) : Int) ≤ ((R0 + K : Nat) : Int) := by omega
                  have d2 : decide (((R0 + k : Nat) : Int) ≤ ((R0 + K : Nat) : Int)) = true := decide_eq_true d1
                  have hG := blk_later HBL.out HG5.out
                  have s2 := cell_regrown (blk_cell hG 2)
                  obtain ⟨r', hr'⟩ : ∃ r', r' = (rkS (R0 + k)).1 := ⟨_, rfl⟩
                  obtain ⟨l', hl'⟩ : ∃ l', l' = (rkS (R0 + k)).2 := ⟨_, rfl⟩
                  have cC : ∀ d os, Calls Tryz.prog 70 #[.int .i64 ((R0 + k : Nat) : Int)] (grow (redrawn wA d) os) (fun e w'' => e = .returned (.agg #[.int .i64 r', .int .i64 l']) ∧ ∃ p : Regrown, w'' = grow (redrawn wA p.d) p.os) := fun d os => Calls.regrown_of (refBehind_any (R0 + k) (by omega) r' l' hr' hl' _)
                  have HMG : Hid (mkG R0 D k = ⟨r', l', D, []⟩) := Lib.hid (by rw [hr', hl']; rfl)
                  clear hG hr' hl'
                  go_wp2_with fail
                  refine wp_region_below_tail 1 6 (by kernel_rfl) (by kernel_rfl) fun R hR => ?_; simp only [List.take_succ_cons, List.take_zero, List.drop_succ_cons, List.drop_zero, leadA, leadV, Act.put, Act.eval, List.setIfInBounds_toArray, List.set_cons_zero, List.set_cons_succ, Array.getD_eq_getD_getElem?, List.getElem?_toArray, List.getElem?_cons_zero, List.getElem?_cons_succ, Option.getD_some]; (repeat (go_big_quiet_step (exact cC _ _))); refine wpQuiet_nil ?_; rintro w6 ⟨⟨d6, os6⟩, rfl⟩; have hR := Lib.hid hR
                  have HB7 := Lib.hid (HBL.out.trans ((below_regrown wA d6 os6).mono HBL.out.size))
                  have HR6 := Lib.hid (row_later HRW.out (below_regrown wA d6 os6))
                  clear s2 cC HRW HBL
                  dsimp only
                  generalize grow (redrawn wA d6) os6 = w6 at *
                  obtain ⟨hi1, hi2, hi3, hi4⟩ := HI.out
                  have hz6 := HB7.out.size
                  go_wp2_with (at_builtin; refine wpList_append_own _ rfl _ _ 22 rfl w5.heap.size 42 ei _ 4 48 undGths hi1 hi2 hi3 hi4 rfl (by decide) u15 k (gtCells (rgZ R0 D k)) rfl (HR6.out.alloc _) ⟨w6.heap.size, 0, none⟩ 1 1 [.int .i64 r', .int .i64 l', .int .i64 D, .slice none 0 0] rfl rfl ?c1 ?c2 ?c3 ?c4 ?c5 ?c6)
                  case c1 => exact cells_at w6 _ _ _ rfl
                  case c2 => simp [Value.oneCell']
                  case c3 => simp only [maxLen]; omega
                  case c4 => omega
                  case c5 => simp; omega
                  case c6 =>
                    rintro v' w7 hown hgrow -
                    have HB8 := Lib.hid (HB7.out.trans ((((Below.refl _ w6).alloc (Nat.le_refl _) (.cells #[.int .i64 r', .int .i64 l', .int .i64 D, .slice none 0 0] 42)).mono hz6).trans (below_row (HR6.out.alloc _) (by simp; omega) hgrow)))
                    have HO : Hid (w7.ownsRow w5.heap.size 42 4 v' (k + 1) (gtCells (rgZ R0 D (k + 1)))) := Lib.hid (by
                      rw [rgZ_succ, HMG.out]
                      exact hown)
                    clear hgrow hown hi1 hi2 hi3 hi4
                    go_wp2_with fail
                    go_roundw
                    case rel => exact ⟨k + 1, by omega, by go_num, HO, HB8⟩
                    case measure => simp [intOf]; omega
                · have d1 : ¬ ((R0 + k : Nat) : Int) ≤ ((R0 + K : Nat) : Int) := by omega
                  have d2 : decide (((R0 + k : Nat) : Int) ≤ ((R0 + K : Nat) : Int)) = false := decide_eq_false d1
                  have hkK : k = K + 1 := by omega
                  have HRW := Lib.hid (row_mono HRW.out HB5.out.size)
                  have HBE := Lib.hid (HB5.out.trans (HBL.out.mono HB5.out.size))
                  have HKK := Lib.hid hkK
                  clear hkK
                  go_wp2_with fail
                  go_ret2
                  refine ⟨⟨_, _, rfl, ?_⟩, HBE.out⟩
                  rw [HRUN.out, ← HKK.out]
                  refine ⟨rfl, rgZ R0 D k, by unfold rgZ; rw [List.map_map]; rfl, by rw [List.length_map, List.length_range]; exact HRW.out, fun z hz => ?_⟩
                  obtain ⟨j, -, rfl⟩ := List.mem_map.1 hz
                  exact ⟨none, 0, rfl, fun h => absurd rfl h⟩
            · skip
              go_wp2_with fail
              clear c0 c1 d0 d1 z0 z1 z2 z3 e1 hb1e
              refine (HCA.out _).mono ?_
              rintro e w5 ⟨rfl, hb5⟩
              obtain ⟨R0, rfl⟩ : ∃ R0 : Nat, RA = (R0 : Int) := ⟨RA.toNat, by omega⟩
              obtain ⟨K, rfl⟩ : ∃ K : Nat, RB = ((R0 + K : Nat) : Int) := ⟨(RB - R0).toNat, by omega⟩
              have hRK : R0 + K ≤ 68 := by have := rankF_le HSB.out; rw [← HRB.out] at this; omega
              obtain ⟨ha23, ha0, hra⟩ := rankF_nat HSA.out HRA.out
              obtain ⟨hb23, hb0, hrb⟩ := rankF_nat HSB.out HRB.out
              have HRUN : Hid (itemsF2 s = some ((List.range (K + 1)).map (mkG R0 D))) := Lib.hid (by
                rw [HF2.out, HP1.out x rfl, if_pos (by rw [← HD.out]; omega), ← HD.out]
                try dsimp only
                rw [hra, hrb, show (((R0 + K : Nat) : Int) - (R0 : Int)).toNat = K by omega, runS_range K _ _ R0 hra (by rw [hrb]; omega) ⟨ha0, ha23⟩ ⟨hb0, hb23⟩, List.map_map]
                rfl)
              have HG5 := Lib.hid (blk_later hb5 HGW.out)
              have HY5 := Lib.hid (blk_later hb5 HYW.out)
              have HB5 := Lib.hid (HBW.out.trans (hb5.mono HBW.out.size))
              have HR0 : Hid (w5.ownsRow w5.heap.size 42 4 (.slice none 0 0) 0 []) := Lib.hid (World.ownsRow_nil _ _ _ _)
              have HBL : Hid (Below w5.heap.size w5 w5) := Lib.hid (Below.refl _ _)
              obtain ⟨ei, hi1, hi2, hi3, hi4⟩ := elemGth
              have HI := Lib.hid (And.intro hi1 (And.intro hi2 (And.intro hi3 hi4)))
              clear hi1 hi2 hi3 hi4 hb5 ha23 ha0 hra hb23 hb0 hrb
              go_wp2_with fail
              go_loopw [15, 16] (fun o n wr => ∃ k : Nat, k ≤ K + 1 ∧ n = .int .i64 ((R0 + k : Nat) : Int) ∧ Hid (wr.ownsRow w5.heap.size 42 4 o k (gtCells (rgZ R0 D k))) ∧ Hid (Below w5.heap.size w5 wr)) (fun _ n _ => R0 + K + 1 - (intOf n).toNat)
              case atStart => exact ⟨0, by omega, rfl, HR0, HBL⟩
              case round =>
                clear HR0 HBL
                obtain ⟨k, hk, rfl, HRW, HBL⟩ := hrel
                have hYb := blk_later HBL.out HY5.out
                have d0 := blk_cell hYb 0; have d1 := blk_cell hYb 1
                clear hYb
                go_wp2_with fail
                refine (HCB.out _).mono ?_
                rintro e wA ⟨rfl, hbA⟩
                have HRW := Lib.hid (row_later HRW.out hbA)
                have HBL := Lib.hid (HBL.out.trans (hbA.mono HBL.out.size))
                clear hbA d0 d1
                by_cases hlt : k ≤ K
                · have d1 : ((R0 + k : Nat) : Int) ≤ ((R0 + K : Nat) : Int) := by omega
                  have d2 : decide (((R0 + k : Nat) : Int) ≤ ((R0 + K : Nat) : Int)) = true := decide_eq_true d1
                  have hG := blk_later HBL.out HG5.out
                  have s2 := cell_regrown (blk_cell hG 2)
                  obtain ⟨r', hr'⟩ : ∃ r', r' = (rkS (R0 + k)).1 := ⟨_, rfl⟩
                  obtain ⟨l', hl'⟩ : ∃ l', l' = (rkS (R0 + k)).2 := ⟨_, rfl⟩
                  have cC : ∀ d os, Calls Tryz.prog 70 #[.int .i64 ((R0 + k : Nat) : Int)] (grow (redrawn wA d) os) (fun e w'' => e = .returned (.agg #[.int .i64 r', .int .i64 l']) ∧ ∃ p : Regrown, w'' = grow (redrawn wA p.d) p.os) := fun d os => Calls.regrown_of (refBehind_any (R0 + k) (by omega) r' l' hr' hl' _)
                  have HMG : Hid (mkG R0 D k = ⟨r', l', D, []⟩) := Lib.hid (by rw [hr', hl']; rfl)
                  clear hG hr' hl'
                  go_wp2_with fail
                  refine wp_region_below_tail 1 6 (by kernel_rfl) (by kernel_rfl) fun R hR => ?_; simp only [List.take_succ_cons, List.take_zero, List.drop_succ_cons, List.drop_zero, leadA, leadV, Act.put, Act.eval, List.setIfInBounds_toArray, List.set_cons_zero, List.set_cons_succ, Array.getD_eq_getD_getElem?, List.getElem?_toArray, List.getElem?_cons_zero, List.getElem?_cons_succ, Option.getD_some]; (repeat (go_big_quiet_step (exact cC _ _))); refine wpQuiet_nil ?_; rintro w6 ⟨⟨d6, os6⟩, rfl⟩; have hR := Lib.hid hR
                  have HB7 := Lib.hid (HBL.out.trans ((below_regrown wA d6 os6).mono HBL.out.size))
                  have HR6 := Lib.hid (row_later HRW.out (below_regrown wA d6 os6))
                  clear s2 cC HRW HBL
                  dsimp only
                  generalize grow (redrawn wA d6) os6 = w6 at *
                  obtain ⟨hi1, hi2, hi3, hi4⟩ := HI.out
                  have hz6 := HB7.out.size
                  go_wp2_with (at_builtin; refine wpList_append_own _ rfl _ _ 22 rfl w5.heap.size 42 ei _ 4 48 undGths hi1 hi2 hi3 hi4 rfl (by decide) u15 k (gtCells (rgZ R0 D k)) rfl (HR6.out.alloc _) ⟨w6.heap.size, 0, none⟩ 1 1 [.int .i64 r', .int .i64 l', .int .i64 D, .slice none 0 0] rfl rfl ?c1 ?c2 ?c3 ?c4 ?c5 ?c6)
                  case c1 => exact cells_at w6 _ _ _ rfl
                  case c2 => simp [Value.oneCell']
                  case c3 => simp only [maxLen]; omega
                  case c4 => omega
                  case c5 => simp; omega
                  case c6 =>
                    rintro v' w7 hown hgrow -
                    have HB8 := Lib.hid (HB7.out.trans ((((Below.refl _ w6).alloc (Nat.le_refl _) (.cells #[.int .i64 r', .int .i64 l', .int .i64 D, .slice none 0 0] 42)).mono hz6).trans (below_row (HR6.out.alloc _) (by simp; omega) hgrow)))
                    have HO : Hid (w7.ownsRow w5.heap.size 42 4 v' (k + 1) (gtCells (rgZ R0 D (k + 1)))) := Lib.hid (by
                      rw [rgZ_succ, HMG.out]
                      exact hown)
                    clear hgrow hown hi1 hi2 hi3 hi4
                    go_wp2_with fail
                    go_roundw
                    case rel => exact ⟨k + 1, by omega, by go_num, HO, HB8⟩
                    case measure => simp [intOf]; omega
                · have d1 : ¬ ((R0 + k : Nat) : Int) ≤ ((R0 + K : Nat) : Int) := by omega
                  have d2 : decide (((R0 + k : Nat) : Int) ≤ ((R0 + K : Nat) : Int)) = false := decide_eq_false d1
                  have hkK : k = K + 1 := by omega
                  have HRW := Lib.hid (row_mono HRW.out HB5.out.size)
                  have HBE := Lib.hid (HB5.out.trans (HBL.out.mono HB5.out.size))
                  have HKK := Lib.hid hkK
                  clear hkK
                  go_wp2_with fail
                  go_ret2
                  refine ⟨⟨_, _, rfl, ?_⟩, HBE.out⟩
                  rw [HRUN.out, ← HKK.out]
                  refine ⟨rfl, rgZ R0 D k, by unfold rgZ; rw [List.map_map]; rfl, by rw [List.length_map, List.length_range]; exact HRW.out, fun z hz => ?_⟩
                  obtain ⟨j, -, rfl⟩ := List.mem_map.1 hz
                  exact ⟨none, 0, rfl, fun h => absurd rfl h⟩
          · obtain rfl : n = 1 := HN.out
            have HNO : Hid (itemsF2 s = none) := Lib.hid (by rw [HF2.out]; exact HP2.out x y rfl)
            go_wp2_with fail
            all_goals
              go_ret2
              exact ⟨⟨_, _, rfl, by rw [HNO.out]⟩, HBW.out⟩
          · have hn2 : 2 ≤ n := by rw [HN.out]; simp
            have e2 : decide ((2 : Int) < (n : Int) + 1) = true := decide_eq_true (by omega)
            have HNO : Hid (itemsF2 s = none) := Lib.hid (by rw [HF2.out]; exact HPN.out (by simp) (by simp))
            go_wp2_with fail
            go_ret2
            exact ⟨⟨_, _, rfl, by rw [HNO.out]⟩, HBW.out⟩
theorem refItems_any (s : Bs) (w : World) (hs : s.length ≤ 1048576) :
    Calls Tryz.prog 32 #[S s] w fun e w' => ItemsR (itemsF2 s) w.heap.size e w' ∧ Below w.heap.size w w' := by
  cases hq : sigF s with
  | none => exact refItems_none s w hs hq
  | some p =>
    obtain ⟨⟨a1, a2⟩, t⟩ := p
    by_cases hh : t.head? = some 45
    · cases t with
      | nil => cases hh
      | cons y u =>
        rw [List.head?_cons] at hh
        cases hh
        exact refItems_range s w hs a1 a2 u hq
    · exact refItems_plain s w hs a1 a2 t hq hh
end Go.Proofs.YtlfglbnbenaghaaGreatDoor

/- The reference's Read. -/
namespace Go.Proofs.YtlfglbnbenaghaaGreatDoor
set_option linter.unusedSimpArgs false
set_option linter.unusedVariables false
open Go Go.RowKit Go.Sort Go.BigFrame Go.Shelf
attribute [local go_sem] Oper.semAt_some putAll

theorem wordsF_snoc {xs : List Bs} {q : Bs} {gs gs2 : List Gth} (h : wordsF xs = some gs) (h2 : itemsF2 q = some gs2) : wordsF (xs ++ [q]) = some (gs ++ gs2) := by
  unfold wordsF at h ⊢
  rw [allOf_snoc]
  cases ha : allOf itemsF2 xs with
  | none => rw [ha] at h; cases h
  | some gss =>
    rw [ha] at h
    dsimp only at h ⊢
    cases h
    rw [h2]
    simp
theorem tail_few {a b : Int × Int} {v : Bs} {gs : List Gth} (h : tailF a b v = some gs) : gs.length ≤ (rankS b.1 b.2 - rankS a.1 a.2).toNat + 1 := by
  unfold tailF at h
  split at h
  · split at h
    · cases h
      split
      · simp
      · rw [List.length_map]
        exact runS_len _ _ _
    · cases h
  · split at h
    · split at h
      · cases h
      · cases h
        simp
    · cases h
  · cases h
theorem items_few {q : Bs} {gs : List Gth} (h : itemsF2 q = some gs) : gs.length ≤ 80 ∧ gs ≠ [] := by
  unfold itemsF2 at h
  split at h
  · cases h
  · rename_i a t hs
    have s1 := sigB_iff.1 (sigF_len hs).2
    split at h
    · split at h
      · cases h
      · rename_i b v hs2
        have s2 := sigB_iff.1 (sigF_len hs2).2
        split at h
        · refine ⟨Nat.le_trans (tail_few h) ?_, tail_ne h⟩
          unfold rankS
          omega
        · cases h
    · refine ⟨Nat.le_trans (tail_few h) ?_, tail_ne h⟩
      unfold rankS
      omega
theorem GsT.later {base : Nat} {W W' : World} {v : Value} {gs : List Gth} (h : GsT base W v gs) (hb : Below W.heap.size W W') : GsT base W' v gs := by
  obtain ⟨zs, h1, h2, h3⟩ := h
  exact ⟨zs, h1, row_later h2 hb, fun z hz => (h3 z hz).later hb⟩
theorem GsT.at_ {base : Nat} {W : World} {v : Value} {gs : List Gth} (h : GsT base W v gs) : GsAt W.heap.size W v gs := by
  obtain ⟨zs, rfl, h2, h3⟩ := h
  exact GsAt.of_row (by rw [List.length_map] at h2; exact h2) fun z hz => (h3 z hz).at_
/-- The loop of a formula's words. -/
structure RwI (w5 W : World) (X : Nat) (D : Int) (v : Value) (gs : List Gth) : Prop where
  only : OnlyIn (fun k => k = X) w5 W
  box : W.heap[X]? = some (.cells #[.int .i64 D, v] 24)
  row : GsT w5.heap.size W v gs
  lt : X < w5.heap.size
theorem RwI.later {w5 W W' : World} {X : Nat} {D : Int} {v : Value} {gs : List Gth} (h : RwI w5 W X D v gs) (hb : Below W.heap.size W W') : RwI w5 W' X D v gs :=
  ⟨h.only.trans (OnlyIn.of_below hb), blk_later hb h.box, h.row.later hb, h.lt⟩
theorem RwI.cell {w5 W : World} {X : Nat} {D : Int} {v u : Value} {gs : List Gth} (h : RwI w5 W X D v gs) {k i : Nat} (hk : k < w5.heap.size) (hne : k ≠ X) (hc : w5.cell? ⟨k, i, none⟩ = some u) : W.cell? ⟨k, i, none⟩ = some u := by
  rw [← hc]
  exact World.cell?_of_block (h.only.block k hk hne)
theorem gtCells_app (xs ys : List (Gth × Value)) : gtCells (xs ++ ys) = gtCells xs ++ gtCells ys := by unfold gtCells; rw [List.flatMap_append]
theorem RwI.add {w5 W W' : World} {X : Nat} {D : Int} {v v' : Value} {gs gs2 : List Gth} {zs zs2 : List (Gth × Value)} (h : RwI w5 W X D v gs) (hz : zs.map (·.1) = gs) (hzr : W.ownsRow w5.heap.size 42 4 v gs.length (gtCells zs)) (hzc : ∀ z ∈ zs, ChsT W z.2 z.1.chs)
    (hz2 : zs2.map (·.1) = gs2) (hzc2 : ∀ z ∈ zs2, ChsT W z.2 z.1.chs) (h0 : 0 < gs2.length)
    (hr : W'.ownsRow w5.heap.size 42 4 v' (gs.length + gs2.length) (gtCells zs ++ gtCells zs2)) (hg : W.grownBy W' v.ownBlock) :
    RwI w5 (W'.setCell ⟨X, 1, none⟩ v') X D v' (gs ++ gs2) := by
  have hlt := h.lt
  have hne : v.ownBlock ≠ some X := fun e => by have := (hzr.lt X e).1; omega
  have hbx : W'.heap[X]? = some (.cells #[.int .i64 D, v] 24) := by
    rw [← h.box]
    exact hg.block X (blk_lt h.box) (fun e => hne e.symm)
  have hsz := hg.size
  refine ⟨⟨hg.os.trans h.only.os, hg.tape.trans h.only.tape, hg.output.trans h.only.output, Nat.le_trans h.only.size (by simpa using hsz), fun k hk hkX => ?_⟩, blk_set hbx 1 v', ?_, hlt⟩
  · refine (heap_setCell_past _ _ _ _ (show k ≠ X from hkX)).trans ((hg.block k (Nat.lt_of_lt_of_le hk h.only.size) fun e => ?_).trans (h.only.block k hk hkX))
    have := (hzr.lt k e.symm).1
    omega
  · obtain ⟨g, cap, rfl, h1, h2⟩ := row_form hr (by omega)
    have hX : ∀ (b : Nat) (xs : Array Value), W'.heap[b]? = some (Obj.cells xs 44) → b ≠ X := fun b xs hb e => by
      subst e
      rw [hbx] at hb
      simp at hb
    refine ⟨zs ++ zs2, by rw [List.map_append, hz, hz2], ?_, fun z hz' => ?_⟩
    · rw [List.length_append, gtCells_app]
      exact row_kept1 hr (Only.set X 1 _ (Only.refl X W')) (by omega)
    · have hc : ChsT W z.2 z.1.chs := by
        rcases List.mem_append.1 hz' with hz' | hz'
        · exact hzc z hz'
        · exact hzc2 z hz'
      exact (hc.grown hzr hg).keep fun b xs hb => (heap_setCell_past _ _ _ _ (hX b xs hb)).trans hb

set_option maxRecDepth 100000 in
set_option maxHeartbeats 3200000 in
theorem refRead_any (s : Bs) (w : World) :
    Calls Tryz.prog 10 #[S s] w fun e w' => (∃ v, e = .returned (.tuple #[v, .int .i64 (readF s).2]) ∧ BookAt w'.heap.size w' v (readF s).1) ∧ Below w.heap.size w w' := by
  have hzs : (⟨s.toArray⟩ : ByteArray).size = s.length := size_bytes s
  obtain ⟨N, hN⟩ : ∃ N, N = s.length := ⟨_, rfl⟩
  rw [← hN] at hzs
  have HN := Lib.hid hN
  have HRB0 : Hid ((w.alloc (.cells #[.int .i64 0, .slice none 0 0] 24)).heap[w.heap.size]? = some (.cells #[.int .i64 0, .slice none 0 0] 24)) := Lib.hid (by exact (by repeat (first | exact heap_alloc_at _ _ _ (by (first | omega | (simp; done) | (simp; omega) | fail)) | (refine (heap_alloc_past _ _ _ ?_).trans ?_; · (first | omega | (simp; done) | (simp; omega) | fail)) | fail)))
  by_cases h1 : 1000 < N
  · have HF : Hid (readF s = (⟨0, []⟩, 3)) := Lib.hid (by unfold readF; rw [if_pos (by omega)])
    have g0 : decide ((1000 : Int) < (N : Int)) = true := decide_eq_true (by omega)
    clear h1 hN
    go_enter Tryz.func10, Tryz.ntmps10
    go_wp2_with fail
    exact bodyPost_ret (v := .tuple #[.agg #[.int .i64 0, .slice none 0 0], .int .i64 3]) (by simp [results, Tryz.results10, go_sem]) rfl ⟨by rw [HF.out]; exact ⟨_, rfl, ⟨_, rfl, none, 0, rfl, fun h => absurd rfl h⟩⟩, (by repeat (first | exact Below.refl _ _ | assumption | (refine Below.alloc ?_ ?_ _; rotate_left; · (first | omega | (simp; done) | (simp; omega) | fail)) | (refine Below.setCell ?_ ?_ _; rotate_left; · (first | omega | (simp; done) | (simp; omega) | fail)) | refine Below.drew ?_ | fail))⟩
  · have g0 : decide ((1000 : Int) < (N : Int)) = false := decide_eq_false (by omega)
    have HSL : Hid (s.length ≤ 1000) := Lib.hid (by omega)
    have HS : Hid (s.length ≤ 1048576) := Lib.hid (by have := HSL.out; omega)
    obtain ⟨ws, l, hw⟩ : ∃ ws l, cutF 32 s = ws ++ [l] := by
      rcases nil_or_snoc (cutF 32 s) with h | ⟨ws, l, h⟩
      · exact absurd h (cutF_ne 32 s)
      · exact ⟨ws, l, h⟩
    have HRF : Hid (refBookF ws l = readF s) := Lib.hid (refBook_is HSL.out hw)
    have hql := cutF_short 32 s
    have hqc := cutF_len 32 s
    have HW := Lib.hid hw
    clear h1 hN
    go_enter Tryz.func10, Tryz.ntmps10
    go_wp2_with fail
    refine (refCut_any s 32 _ HS.out).mono ?_
    rintro e w1 ⟨⟨v1, rfl, hrow⟩, hb1⟩
    have HRB := Lib.hid (blk_later hb1 HRB0.out)
    have HB1 := Lib.hid (show Below w.heap.size w w1 from Below.trans (by exact (by repeat (first | (refine Below.setCell ?_ ?_ _; rotate_left; · (first | omega | (simp; done) | (simp; omega) | fail)) | (refine Below.alloc ?_ ?_ _; rotate_left; · (first | omega | (simp; done) | (simp; omega) | fail)) | refine Below.drew ?_ | exact Below.refl _ _ | fail))) (hb1.mono (by simp)))
    rw [hw] at hrow hql hqc
    have hst := strs_of_row hrow
    obtain ⟨J, hJ⟩ : ∃ J, J = ws.length := ⟨_, rfl⟩
    have hJ1 : (ws ++ [l]).length = J + 1 := by rw [List.length_append, hJ]; rfl
    rw [hJ1] at hrow hqc
    have hJl : J ≤ 1000 := by have := HSL.out; omega
    obtain ⟨g2, qcap, rfl, hg2, hg2l⟩ := row_form hrow (by omega)
    have HQC : Hid (∀ (i : Nat) (q : Bs), (ws ++ [l])[i]? = some q → w1.cell? ⟨g2, i, none⟩ = some (S q)) := Lib.hid (by
      obtain ⟨qa, qc2, e, h⟩ := hst
      injection e with e1 e2 e3
      subst e1
      obtain ⟨g2', e, -, h⟩ := h (by simp)
      cases e
      exact h)
    have hg0 := blk_lt HRB0.out
    have HGG : Hid (w.heap.size < g2 ∧ g2 < w1.heap.size) := Lib.hid ⟨by simp at hg2; omega, hg2l⟩
    have HQL := Lib.hid hql
    have x1 := HQC.out J l (by rw [hJ]; simp)
    have HJ := Lib.hid hJ
    have HLL : Hid (l.length ≤ 1048576) := Lib.hid (by have := hql l (by simp); have := HSL.out; omega)
    clear hrow hql hqc hst hg2 hg2l hb1 HRB0 hw hJ hJ1 hg0
    have hl3 : l.length < 2 ∨ ∃ c d t, l = c :: d :: t := by
      match l with
      | [] => exact Or.inl (by simp)
      | [c] => exact Or.inl (by simp)
      | c :: d :: t => exact Or.inr ⟨c, d, t, rfl⟩
    obtain ⟨M, hM⟩ : ∃ M, M = l.length := ⟨_, rfl⟩
    have hzl : (⟨l.toArray⟩ : ByteArray).size = M := by rw [size_bytes, hM]
    have i5 : (J : Int) < (J : Int) + 1 := by omega
    rcases hl3 with hl3 | ⟨c, d, t, hl3⟩
    · have HNO : Hid (refBookF ws l = (⟨0, []⟩, 6)) := Lib.hid (by unfold refBookF; rw [if_pos (Or.inl hl3)])
      have m0 : decide ((M : Int) < 2) = true := decide_eq_true (by omega)
      clear hM hl3
      have z0' := blk_cell HRB.out 0
      have z1' := blk_cell HRB.out 1
      have y0 := blk_free HRB.out 0
      have y1 := blk_free HRB.out 1
      go_wp2_with fail
      have hset := blk_setRow HRB.out (.int .i64 0) (.slice none 0 0)
      have z0 := blk_cell hset 0
      have z1 := blk_cell hset 1
      clear hset z0' z1' y0 y1
      exact bodyPost_ret (v := .tuple #[.agg #[.int .i64 0, .slice none 0 0], .int .i64 6]) (by simp [results, Tryz.results10, go_sem, z0, z1]) rfl ⟨by rw [← HRF.out, HNO.out]; exact ⟨_, rfl, ⟨_, rfl, none, 0, rfl, fun h => absurd rfl h⟩⟩, ((HB1.out).setCell (by simp) _).setCell (by simp) _⟩
    · have hM2 : 2 ≤ M := by rw [hM, hl3]; simp
      have m0 : decide ((M : Int) < 2) = false := decide_eq_false (by omega)
      have m1 : (0 : Int) < (M : Int) := by omega
      have hb0 : ∀ h : 0 < (⟨l.toArray⟩ : ByteArray).size, (⟨l.toArray⟩ : ByteArray)[0]'h = c := fun h => by
        subst hl3
        rfl
      by_cases hc36 : c = 36
      · subst hc36
        obtain ⟨U, hU⟩ : ∃ U, U = d :: t := ⟨_, rfl⟩
        rw [← hU] at hl3
        have hex : (⟨l.toArray⟩ : ByteArray).extract 1 M = ⟨U.toArray⟩ := by
          rw [hM, ext_drop l 1 (by rw [← hM]; omega), hl3]
          rfl
        have HUL : Hid (U.length ≤ 1048576) := Lib.hid (by have := HLL.out; rw [hl3] at this; simp at this; omega)
        have m3 : (1 : Int) ≤ (M : Int) := by omega
        obtain ⟨D, hD⟩ : ∃ D, D = decF U := ⟨_, rfl⟩
        have HD := Lib.hid hD
        have HRG : Hid (refBookF ws l = match wordsF ws with
          | none => (⟨0, []⟩, 6)
          | some gs => if errF ⟨D, gs⟩ = 0 then (⟨D, gs⟩, 0) else (⟨0, []⟩, 6)) := Lib.hid (by
          unfold refBookF
          rw [if_neg (by rw [← hM, hl3]; simp; omega), hl3, List.tail_cons, ← hD]
          cases wordsF ws <;> rfl)
        clear hM hl3 hU hD
        go_wp2_with fail
        refine (refDecimal_any U _ HUL.out).mono ?_
        rintro e w4 ⟨rfl, hb4⟩
        rw [← HD.out]
        go_upto_region 8 with fail
        obtain ⟨w5, hw5⟩ : ∃ w5, w5 = w4.alloc (.cells #[.int .i64 D, .slice none 0 0] 24) := ⟨_, rfl⟩
        rw [← hw5]
        have hb5 : Below w1.heap.size w1 w5 := by rw [hw5]; exact hb4.alloc hb4.size _
        have HRB5 := Lib.hid (blk_later hb5 HRB.out)
        have HB5 := Lib.hid (HB1.out.trans (hb5.mono HB1.out.size))
        have HQ5 : Hid (∀ (i : Nat) (q : Bs), (ws ++ [l])[i]? = some q → w5.cell? ⟨g2, i, none⟩ = some (S q)) := Lib.hid (fun i q hi => (hb5.cell (p := ⟨g2, i, none⟩) HGG.out.2).trans (HQC.out i q hi))
        have HX5 : Hid (w4.heap.size < w5.heap.size ∧ g2 < w4.heap.size ∧ w.heap.size < w4.heap.size) := Lib.hid (by
          have h1 := HGG.out
          have h2 := hb4.size
          have h3 : w5.heap.size = w4.heap.size + 1 := by rw [hw5]; simp
          omega)
        have HI0 : Hid (RwI w5 w5 w4.heap.size D (.slice none 0 0) []) := Lib.hid ⟨OnlyIn.refl _ _, by rw [hw5]; exact (by repeat (first | exact heap_alloc_at _ _ _ (by (first | omega | (simp; done) | (simp; omega) | fail)) | (refine (heap_alloc_past _ _ _ ?_).trans ?_; · (first | omega | (simp; done) | (simp; omega) | fail)) | fail)), ⟨[], rfl, World.ownsRow_nil _ _ _ _, fun z hz => by cases hz⟩, HX5.out.1⟩
        obtain ⟨ei, hi1, hi2, hi3, hi4⟩ := elemGth
        have HI := Lib.hid (And.intro hi1 (And.intro hi2 (And.intro hi3 hi4)))
        clear hi1 hi2 hi3 hi4 hw5 hb4 hb5 x1 hb0 hex m0 m1 m3 i5 HRB HB1 HQC HGG
        go_wp2_with fail
        go_loopw [7] (fun i wr => ∃ (k : Nat) (v : Value) (gs : List Gth), k ≤ J ∧ i = .int .i64 k ∧ Hid (RwI w5 wr w4.heap.size D v gs ∧ wordsF (ws.take k) = some gs ∧ gs.length ≤ k * 80)) (fun i _ => J - (intOf i).toNat)
        case atStart => exact ⟨0, _, [], by omega, rfl, Lib.hid ⟨HI0.out, rfl, by simp⟩⟩
        case round =>
          clear HI0
          obtain ⟨k, v, gs, hk, rfl, HIC⟩ := hrel
          have HXw := Lib.hid (And.intro HX5.out.1 HX5.out.2.2)
          have HRB := Lib.hid ((HIC.out.1.only.block w.heap.size (by have := HX5.out; omega) (by have := HX5.out; omega)).trans HRB5.out)
          by_cases hlt : k < J
          · have d1 : decide ((k : Int) + 1 < (J : Int) + 1) = true := decide_eq_true (by omega)
            have d2 : decide ((k : Int) < (J : Int)) = true := decide_eq_true (by omega)
            have i1 : (k : Int) < (J : Int) + 1 := by omega
            obtain ⟨q, hq⟩ : ∃ q, ws[k]? = some q := ⟨_, List.getElem?_eq_getElem (by have := HJ.out; omega)⟩
            have hq' : (ws ++ [l])[k]? = some q := by rw [List.getElem?_append_left (by have := HJ.out; omega)]; exact hq
            have x1 := HIC.out.1.cell (by have := HX5.out; omega) (by have := HX5.out; omega) (HQ5.out k q hq')
            have HQK := Lib.hid hq
            have HQQ : Hid (q.length ≤ 1048576) := Lib.hid (by have := HQL.out q (List.mem_of_getElem? hq'); have := HSL.out; omega)
            clear hq hq'
            go_wp2_with fail
            refine (refItems_any q _ HQQ.out).mono ?_
            rintro e w6 ⟨⟨v2, B, rfl, hit⟩, hb6⟩
            have HIC := Lib.hid (And.intro (HIC.out.1.later hb6) HIC.out.2)
            have HRB := Lib.hid (blk_later hb6 HRB.out)
            clear hb6 x1
            cases hiq : itemsF2 q with
            | none =>
              rw [hiq] at hit
              dsimp only at hit
              subst hit
              have HNO : Hid (refBookF ws l = (⟨0, []⟩, 6)) := Lib.hid (by
                have h5 : allOf itemsF2 ws = none := by
                  rw [list_at HQK.out]
                  exact allOf_stop hiq
                rw [HRG.out, wordsF, h5])
              clear hiq
              have HBE := Lib.hid (HIC.out.1.only.below HB5.out HB5.out.size (fun j e => by subst e; have := HXw.out; omega))
              have z0' := blk_cell HRB.out 0
              have z1' := blk_cell HRB.out 1
              have y0 := blk_free HRB.out 0
              have y1 := blk_free HRB.out 1
              go_wp2_with fail
              have hset := blk_setRow HRB.out (.int .i64 0) (.slice none 0 0)
              have z0 := blk_cell hset 0
              have z1 := blk_cell hset 1
              clear hset z0' z1' y0 y1
              exact bodyPost_ret (v := .tuple #[.agg #[.int .i64 0, .slice none 0 0], .int .i64 6]) (by simp [results, Tryz.results10, go_sem, z0, z1]) rfl ⟨by rw [← HRF.out, HNO.out]; exact ⟨_, rfl, ⟨_, rfl, none, 0, rfl, fun h => absurd rfl h⟩⟩, ((HBE.out).setCell (by simp) _).setCell (by simp) _⟩
            | some gs2 =>
              rw [hiq] at hit
              dsimp only at hit
              obtain ⟨rfl, zs2, hz2, hr2, hzc2⟩ := hit
              have hfew := items_few hiq
              have hpos : 0 < gs2.length := List.length_pos_iff.2 hfew.2
              obtain ⟨gq, cq, rfl, -, -⟩ := row_form hr2 hpos
              obtain ⟨zs, hz, hzr, hzc⟩ := HIC.out.1.row
              have HWS : Hid (wordsF (ws.take (k + 1)) = some (gs ++ gs2)) := Lib.hid (by
                rw [take_one' HQK.out]
                exact wordsF_snoc HIC.out.2.1 hiq)
              have hgl := HIC.out.2.2
              have hlen2 : (gtCells zs2).length = gs2.length * 4 := by rw [gtCells_length, ← hz2, List.length_map]
              have HZ := Lib.hid (And.intro hz (And.intro hzc (And.intro hz2 hzc2)))
              have HZR := Lib.hid hzr
              have HR2 := Lib.hid hr2
              have hbx := HIC.out.1.box
              have b0 := blk_cell hbx 0; have b1 := blk_cell hbx 1
              obtain ⟨n2, hn2⟩ : ∃ n2, n2 = gs2.length := ⟨_, rfl⟩
              rw [← hn2] at hlen2 hpos HR2 ⊢
              have hn80 : n2 ≤ 80 := by rw [hn2]; exact hfew.1
              obtain ⟨n1, hn1⟩ : ∃ n1, n1 = gs.length := ⟨_, rfl⟩
              rw [← hn1] at HZR hgl
              have HN12 := Lib.hid (And.intro hn1 hn2)
              have HL2 := Lib.hid hlen2
              clear hz hzr hzc hz2 hr2 hzc2 hbx hfew hn1 hn2 hlen2 hiq
              obtain ⟨hi1, hi2, hi3, hi4⟩ := HI.out
              go_wp2_with (at_builtin; refine wpList_append_own _ rfl _ _ 22 rfl w5.heap.size 42 ei _ 4 48 undGths hi1 hi2 hi3 hi4 rfl (by decide) v n1 (gtCells zs) rfl HZR.out ⟨gq, 0, none⟩ n2 cq (gtCells zs2) rfl HL2.out ?c1 ?c2 ?c3 ?c4 ?c5 ?c6)
              case c1 => exact HR2.out.cells (g := gq) (by simp [Value.ownBlock])
              case c2 => exact gtCells_one (fun z hz => by obtain ⟨a, c, e, -⟩ := HZ.out.2.2.2 z hz; exact ⟨a, _, c, e⟩)
              case c3 => simp only [maxLen]; omega
              case c4 => omega
              case c5 => exact HIC.out.1.only.size
              case c6 =>
                rintro v' w7 hown hgrow -
                obtain ⟨g7, cap7, rfl, -, -⟩ := row_form hown (by omega)
                have hzr := HZR.out
                have h12 := HN12.out
                have hadd := HIC.out.1.add HZ.out.1 (by rw [← h12.1]; exact hzr) HZ.out.2.1 HZ.out.2.2.1 HZ.out.2.2.2 (by omega) (by rw [← h12.1, ← h12.2]; exact hown) hgrow
                have HIC4 := Lib.hid hadd
                have hbx7 : w7.heap[w4.heap.size]? = some (.cells #[.int .i64 D, v] 24) := by
                  rw [← HIC.out.1.box]
                  exact hgrow.block _ (blk_lt HIC.out.1.box) (fun e => by have := (hzr.lt _ e.symm).1; have := HX5.out; omega)
                have p0 := blk_cell hbx7 0; have p1 := blk_cell hbx7 1
                have f0 := blk_free hbx7 0; have f1 := blk_free hbx7 1
                have HGL : Hid ((gs ++ gs2).length ≤ (k + 1) * 80) := Lib.hid (by rw [List.length_append]; omega)
                clear hbx7 hown hgrow hadd b0 b1 hi1 hi2 hi3 hi4 hzr h12
                go_wp2_with fail
                go_roundw
                case rel => exact ⟨k + 1, _, gs ++ gs2, by omega, by go_num, Lib.hid ⟨HIC4.out, HWS.out, HGL.out⟩⟩
                case measure => simp [intOf]; omega
          · have d1 : decide ((k : Int) + 1 < (J : Int) + 1) = false := decide_eq_false (by omega)
            have d2 : decide ((k : Int) < (J : Int)) = false := decide_eq_false (by omega)
            have hkJ : k = J := by omega
            have HRH : Hid (refBookF ws l = if errF ⟨D, gs⟩ = 0 then (⟨D, gs⟩, 0) else (⟨0, []⟩, 6)) := Lib.hid (by
              have h := HIC.out.2.1
              rw [hkJ, HJ.out, List.take_length] at h
              rw [HRG.out, h])
            have hbx := HIC.out.1.box
            have b0 := blk_cell hbx 0; have b1 := blk_cell hbx 1
            have HVR : Hid (checkR ⟨D, gs⟩ = .tuple #[.int .i64 (checkF ⟨D, gs⟩).1, .int .i64 (checkF ⟨D, gs⟩).2.1, .int .i64 (errF ⟨D, gs⟩)]) := Lib.hid rfl
            clear hbx hkJ
            go_wp2_with fail
            refine (refCheck_any ⟨D, gs⟩ _ _ ⟨v, rfl, HIC.out.1.row.at_⟩).mono ?_
            rintro e w6 ⟨rfl, hb6⟩
            rw [HVR.out]
            have HIC := Lib.hid (And.intro (HIC.out.1.later hb6) HIC.out.2)
            have HRB := Lib.hid (blk_later hb6 HRB.out)
            have HBE := Lib.hid (HIC.out.1.only.below HB5.out HB5.out.size (fun j e => by subst e; have := HXw.out; omega))
            clear hb6 b0 b1 HVR
            by_cases he : errF ⟨D, gs⟩ = 0
            · have hne : (errF ⟨D, gs⟩ != 0) = false := by simp [he]
              have HYES : Hid (readF s = (⟨D, gs⟩, 0)) := Lib.hid (by rw [← HRF.out, HRH.out, if_pos he])
              have hge := (errF_zero he).len
              dsimp only at hge
              obtain ⟨zs, hz, hzr, hzc⟩ := HIC.out.1.row
              obtain ⟨g9, cap9, rfl, h91, h92⟩ := row_form hzr (by omega)
              have hRT : ∀ (b : Nat) (xs : Array Value), w6.heap[b]? = some (Obj.cells xs 44) → b ≠ w.heap.size := fun b xs hb e => by
                subst e
                rw [HRB.out] at hb
                simp at hb
              have HGT : Hid (GsT w5.heap.size ((w6.setCell ⟨w.heap.size, 0, none⟩ (.int .i64 D)).setCell ⟨w.heap.size, 1, none⟩ (.slice (some ⟨g9, 0, none⟩) gs.length cap9)) (.slice (some ⟨g9, 0, none⟩) gs.length cap9) gs) := Lib.hid ⟨zs, hz, row_kept1 hzr (Only.set _ 1 _ (Only.set _ 0 _ (Only.refl _ w6))) (by have := HX5.out; omega), fun z hz' => (hzc z hz').keep fun b xs hb =>
                (heap_setCell_past _ _ _ _ (hRT b xs hb)).trans ((heap_setCell_past _ _ _ _ (hRT b xs hb)).trans hb)⟩
              have hbx := HIC.out.1.box
              have b0 := blk_cell hbx 0; have b1 := blk_cell hbx 1
              have r0 := blk_cell HRB.out 0
              have r1 := blk_cell HRB.out 1
              have y0 := blk_free HRB.out 0
              have y1 := blk_free HRB.out 1
              clear he hge hz hzr hzc h91 h92 hRT hbx
              go_wp2_with fail
              have hset := blk_setRow HRB.out (.int .i64 D) (.slice (some ⟨g9, 0, none⟩) gs.length cap9)
              have z0 := blk_cell hset 0
              have z1 := blk_cell hset 1
              clear hset r0 r1 y0 y1 b0 b1
              exact bodyPost_ret (v := .tuple #[.agg #[.int .i64 D, .slice (some ⟨g9, 0, none⟩) gs.length cap9], .int .i64 0]) (by simp [results, Tryz.results10, go_sem, z0, z1]) rfl ⟨by rw [HYES.out]; exact ⟨_, rfl, ⟨_, rfl, HGT.out.at_⟩⟩, (HBE.out.setCell (by simp) _).setCell (by simp) _⟩
            · have hne : (errF ⟨D, gs⟩ != 0) = true := by simp [he]
              have HNO : Hid (refBookF ws l = (⟨0, []⟩, 6)) := Lib.hid (by rw [HRH.out, if_neg he])
              clear he
              have z0' := blk_cell HRB.out 0
              have z1' := blk_cell HRB.out 1
              have y0 := blk_free HRB.out 0
              have y1 := blk_free HRB.out 1
              go_wp2_with fail
              have hset := blk_setRow HRB.out (.int .i64 0) (.slice none 0 0)
              have z0 := blk_cell hset 0
              have z1 := blk_cell hset 1
              clear hset z0' z1' y0 y1
              exact bodyPost_ret (v := .tuple #[.agg #[.int .i64 0, .slice none 0 0], .int .i64 6]) (by simp [results, Tryz.results10, go_sem, z0, z1]) rfl ⟨by rw [← HRF.out, HNO.out]; exact ⟨_, rfl, ⟨_, rfl, none, 0, rfl, fun h => absurd rfl h⟩⟩, ((HBE.out).setCell (by simp) _).setCell (by simp) _⟩
      · have m4 : ((c.toNat : Int) == 36) = false := by
          rw [beq_eq_false_iff_ne]
          intro h
          exact hc36 (UInt8.toNat_inj.1 (by show c.toNat = 36; omega))
        have HNO : Hid (refBookF ws l = (⟨0, []⟩, 6)) := Lib.hid (by unfold refBookF; rw [if_pos (Or.inr (by rw [hl3]; simpa using hc36))])
        clear hM hl3 hc36
        have z0' := blk_cell HRB.out 0
        have z1' := blk_cell HRB.out 1
        have y0 := blk_free HRB.out 0
        have y1 := blk_free HRB.out 1
        go_wp2_with fail
        have hset := blk_setRow HRB.out (.int .i64 0) (.slice none 0 0)
        have z0 := blk_cell hset 0
        have z1 := blk_cell hset 1
        clear hset z0' z1' y0 y1
        exact bodyPost_ret (v := .tuple #[.agg #[.int .i64 0, .slice none 0 0], .int .i64 6]) (by simp [results, Tryz.results10, go_sem, z0, z1]) rfl ⟨by rw [← HRF.out, HNO.out]; exact ⟨_, rfl, ⟨_, rfl, none, 0, rfl, fun h => absurd rfl h⟩⟩, ((HB1.out).setCell (by simp) _).setCell (by simp) _⟩
end Go.Proofs.YtlfglbnbenaghaaGreatDoor
