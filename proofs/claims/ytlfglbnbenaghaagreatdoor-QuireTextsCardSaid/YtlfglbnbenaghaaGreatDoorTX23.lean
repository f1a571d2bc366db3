/- The parts Ls of the proof, joined. It holds without conditions of its own. -/
import Derived.Test.YtlfglbnbenaghaaGreatDoorTX20
import Derived.Test.YtlfglbnbenaghaaGreatDoorTX22
import Derived.Test.YtlfglbnbenaghaaGreatDoorTX21
import Derived.Deep.Cut
import Derived.Deep.RegionHeld3
/- The reference's changed. -/
namespace Go.Proofs.YtlfglbnbenaghaaGreatDoor
set_option linter.unusedSimpArgs false
set_option linter.unusedVariables false
open Go Go.RowKit Go.Sort Go.BigFrame Go.Shelf
attribute [local go_sem] Oper.semAt_some putAll

/-- What the reference's changed returns. -/
def ChgR (s : Bs) (e : Ending) : Prop := ∃ (k p m : Int) (B : Bool), e = .returned (.tuple #[.agg #[.int .i64 k, .int .i64 p, .int .i64 m], .bool B]) ∧ changedF s = if B then some ⟨k, p, m⟩ else none
theorem cell_set3 {W : World} {A g i : Nat} {v a b c : Value} (h : W.cell? ⟨g, i, none⟩ = some v) (hne : A ≠ g) : (((W.setCell ⟨A, 0, none⟩ a).setCell ⟨A, 1, none⟩ b).setCell ⟨A, 2, none⟩ c).cell? ⟨g, i, none⟩ = some v := by
  rw [World.cell?_setCell_far _ _ _ _ hne, World.cell?_setCell_far _ _ _ _ hne, World.cell?_setCell_far _ _ _ _ hne, h]
theorem chg_minus (d : UInt8) (t : Bs) : changedF (45 :: d :: t) = if decide (0 ≤ decF (d :: t)) then some ⟨1, decF (d :: t), 0⟩ else none := by
  unfold changedF
  dsimp only
  rw [if_pos rfl]
  by_cases h : 0 ≤ decF (d :: t) <;> simp [h]
theorem chg_swap (d : UInt8) (t : Bs) : changedF (61 :: d :: t) = if decide (0 ≤ decF (d :: t)) then some ⟨2, decF (d :: t), 0⟩ else none := by
  unfold changedF
  dsimp only
  rw [if_neg (by decide), if_pos rfl]
  by_cases h : 0 ≤ decF (d :: t) <;> simp [h]
theorem chg_else {s : Bs} (h : ¬ ∃ c d t, s = c :: d :: t ∧ (c = 45 ∨ c = 61)) : changedF s = chPlusF s := by
  unfold changedF
  split
  · rename_i c d t
    rw [if_neg (fun e => h ⟨c, d, t, rfl, Or.inl e⟩), if_neg (fun e => h ⟨c, d, t, rfl, Or.inr e⟩)]
  · rfl
theorem chPlus_two {s u v : Bs} (h : cutF 43 s = [u, v]) : chPlusF s = if decide (0 ≤ decF u) && decide (0 ≤ decF v) then some ⟨3, decF u, decF v⟩ else none := by
  unfold chPlusF
  rw [h]
  dsimp only
  by_cases h1 : 0 ≤ decF u <;> by_cases h2 : 0 ≤ decF v <;> simp [h1, h2]

set_option maxRecDepth 100000 in
set_option maxHeartbeats 1600000 in
theorem refChanged_sign (s : Bs) (w : World) (hs : s.length ≤ 1048576) (c d : UInt8) (t : Bs) (hst : s = c :: d :: t) (hc : c = 45 ∨ c = 61) :
    Calls Tryz.prog 69 #[S s] w fun e w' => ChgR s e ∧ Below w.heap.size w w' := by
  have hzs : (⟨s.toArray⟩ : ByteArray).size = s.length := size_bytes s
  obtain ⟨N, hN⟩ : ∃ N, N = s.length := ⟨_, rfl⟩
  rw [← hN] at hs hzs
  have HN := Lib.hid hN
  clear hN
  have hb0 : ∀ h : 0 < (⟨s.toArray⟩ : ByteArray).size, (⟨s.toArray⟩ : ByteArray)[0]'h = c := fun h => by
    subst hst
    rfl
  have hN2 : N = t.length + 2 := by rw [HN.out, hst]; simp
  have hex : (⟨s.toArray⟩ : ByteArray).extract 1 N = ⟨(d :: t).toArray⟩ := by
    rw [HN.out, ext_drop s 1 (by rw [← HN.out]; omega), hst]
    rfl
  obtain ⟨U, hU⟩ : ∃ U, U = d :: t := ⟨_, rfl⟩
  rw [← hU] at hex
  have HDT : Hid (U.length ≤ 1048576) := Lib.hid (by rw [hU]; simp; omega)
  obtain ⟨D, hD⟩ : ∃ D, D = decF U := ⟨_, rfl⟩
  have HD := Lib.hid hD
  have g0 : decide ((1 : Int) < (N : Int)) = true := decide_eq_true (by omega)
  have g1 : (1 : Int) ≤ (N : Int) := by omega
  rcases hc with rfl | rfl
  · have HCF : Hid (changedF s = if decide (0 ≤ D) then some ⟨1, D, 0⟩ else none) := Lib.hid (by rw [hD, hU, hst]; exact chg_minus d t)
    clear hD hst hU hN2
    go_enter Tryz.func69, Tryz.ntmps69
    go_wp2_with fail
    refine (refDecimal_any U _ HDT.out).mono ?_
    rintro e w1 ⟨rfl, hb1⟩
    rw [← HD.out]
    have h0 := blk_later hb1 (show (w.alloc (.cells #[.int .i64 0, .int .i64 0, .int .i64 0] 44)).heap[w.heap.size]? = some (.cells #[.int .i64 0, .int .i64 0, .int .i64 0] 44) from (by repeat (first | exact heap_alloc_at _ _ _ (by (first | omega | (simp; done) | (simp; omega) | fail)) | (refine (heap_alloc_past _ _ _ ?_).trans ?_; · (first | omega | (simp; done) | (simp; omega) | fail)) | fail)))
    have HB1 := Lib.hid (show Below w.heap.size w w1 from Below.trans (by exact (by repeat (first | (refine Below.setCell ?_ ?_ _; rotate_left; · (first | omega | (simp; done) | (simp; omega) | fail)) | (refine Below.alloc ?_ ?_ _; rotate_left; · (first | omega | (simp; done) | (simp; omega) | fail)) | refine Below.drew ?_ | exact Below.refl _ _ | fail))) (hb1.mono (by simp)))
    have hz1 := blk_lt h0
    have H0 := Lib.hid h0
    clear hb1 h0
    go_upto_region 5 with fail
    obtain ⟨W, hW⟩ : ∃ W, W = w1.alloc (.cells #[.int .i64 1, .int .i64 D, .int .i64 0] 44) := ⟨_, rfl⟩
    have hbx : W.heap[w1.heap.size]? = some (.cells #[.int .i64 1, .int .i64 D, .int .i64 0] 44) := by rw [hW]; exact (by repeat (first | exact heap_alloc_at _ _ _ (by (first | omega | (simp; done) | (simp; omega) | fail)) | (refine (heap_alloc_past _ _ _ ?_).trans ?_; · (first | omega | (simp; done) | (simp; omega) | fail)) | fail))
    have hrs : W.heap[w.heap.size]? = some (.cells #[.int .i64 0, .int .i64 0, .int .i64 0] 44) := by rw [hW]; exact (by repeat (first | (refine (heap_setCell_past _ _ _ _ ?_).trans ?_; · (first | omega | (simp; done) | (simp; omega) | fail)) | (refine (heap_alloc_past _ _ _ ?_).trans ?_; · (first | omega | (simp; done) | (simp; omega) | fail)) | exact H0.out | fail))
    have HBW := Lib.hid (show Below w.heap.size w W by rw [hW]; exact HB1.out.alloc HB1.out.size _)
    rw [← hW]
    clear hW
    have hne : w.heap.size ≠ w1.heap.size := by omega
    have b0 := blk_cell hbx 0; have b1 := blk_cell hbx 1; have b2 := blk_cell hbx 2
    have p0 := blk_free hbx 0; have p1 := blk_free hbx 1; have p2 := blk_free hbx 2
    have a0 := blk_cell hrs 0; have a1 := blk_cell hrs 1; have a2 := blk_cell hrs 2
    have f0 := blk_free hrs 0; have f1 := blk_free hrs 1; have f2 := blk_free hrs 2
    have HRS := Lib.hid hrs
    clear hbx hrs
    go_region
    go_wp2_with fail
    have hset := blk_drew (blk_set (blk_set (blk_set HRS.out 0 (.int .i64 1)) 1 (.int .i64 D)) 2 (.int .i64 0))
    have z0 := blk_cell hset 0
    have z1 := blk_cell hset 1
    have z2 := blk_cell hset 2
    clear hset a0 a1 a2 f0 f1 f2 b0 b1 b2 p0 p1 p2
    exact bodyPost_ret (v := .tuple #[.agg #[.int .i64 1, .int .i64 D, .int .i64 0], .bool (decide (0 ≤ D))]) (by simp [results, Tryz.results69, go_sem, z0, z1, z2]) rfl ⟨⟨1, D, 0, _, rfl, by rw [HCF.out]⟩, (((HBW.out.setCell (by simp) _).setCell (by simp) _).setCell (by simp) _).drew⟩
  · have HCF : Hid (changedF s = if decide (0 ≤ D) then some ⟨2, D, 0⟩ else none) := Lib.hid (by rw [hD, hU, hst]; exact chg_swap d t)
    clear hD hst hU hN2
    go_enter Tryz.func69, Tryz.ntmps69
    go_wp2_with fail
    refine (refDecimal_any U _ HDT.out).mono ?_
    rintro e w1 ⟨rfl, hb1⟩
    rw [← HD.out]
    have h0 := blk_later hb1 (show (w.alloc (.cells #[.int .i64 0, .int .i64 0, .int .i64 0] 44)).heap[w.heap.size]? = some (.cells #[.int .i64 0, .int .i64 0, .int .i64 0] 44) from (by repeat (first | exact heap_alloc_at _ _ _ (by (first | omega | (simp; done) | (simp; omega) | fail)) | (refine (heap_alloc_past _ _ _ ?_).trans ?_; · (first | omega | (simp; done) | (simp; omega) | fail)) | fail)))
    have HB1 := Lib.hid (show Below w.heap.size w w1 from Below.trans (by exact (by repeat (first | (refine Below.setCell ?_ ?_ _; rotate_left; · (first | omega | (simp; done) | (simp; omega) | fail)) | (refine Below.alloc ?_ ?_ _; rotate_left; · (first | omega | (simp; done) | (simp; omega) | fail)) | refine Below.drew ?_ | exact Below.refl _ _ | fail))) (hb1.mono (by simp)))
    have hz1 := blk_lt h0
    have H0 := Lib.hid h0
    clear hb1 h0
    go_upto_region 5 with fail
    obtain ⟨W, hW⟩ : ∃ W, W = w1.alloc (.cells #[.int .i64 2, .int .i64 D, .int .i64 0] 44) := ⟨_, rfl⟩
    have hbx : W.heap[w1.heap.size]? = some (.cells #[.int .i64 2, .int .i64 D, .int .i64 0] 44) := by rw [hW]; exact (by repeat (first | exact heap_alloc_at _ _ _ (by (first | omega | (simp; done) | (simp; omega) | fail)) | (refine (heap_alloc_past _ _ _ ?_).trans ?_; · (first | omega | (simp; done) | (simp; omega) | fail)) | fail))
    have hrs : W.heap[w.heap.size]? = some (.cells #[.int .i64 0, .int .i64 0, .int .i64 0] 44) := by rw [hW]; exact (by repeat (first | (refine (heap_setCell_past _ _ _ _ ?_).trans ?_; · (first | omega | (simp; done) | (simp; omega) | fail)) | (refine (heap_alloc_past _ _ _ ?_).trans ?_; · (first | omega | (simp; done) | (simp; omega) | fail)) | exact H0.out | fail))
    have HBW := Lib.hid (show Below w.heap.size w W by rw [hW]; exact HB1.out.alloc HB1.out.size _)
    rw [← hW]
    clear hW
    have hne : w.heap.size ≠ w1.heap.size := by omega
    have b0 := blk_cell hbx 0; have b1 := blk_cell hbx 1; have b2 := blk_cell hbx 2
    have p0 := blk_free hbx 0; have p1 := blk_free hbx 1; have p2 := blk_free hbx 2
    have a0 := blk_cell hrs 0; have a1 := blk_cell hrs 1; have a2 := blk_cell hrs 2
    have f0 := blk_free hrs 0; have f1 := blk_free hrs 1; have f2 := blk_free hrs 2
    have HRS := Lib.hid hrs
    clear hbx hrs
    go_region
    go_wp2_with fail
    have hset := blk_drew (blk_set (blk_set (blk_set HRS.out 0 (.int .i64 2)) 1 (.int .i64 D)) 2 (.int .i64 0))
    have z0 := blk_cell hset 0
    have z1 := blk_cell hset 1
    have z2 := blk_cell hset 2
    clear hset a0 a1 a2 f0 f1 f2 b0 b1 b2 p0 p1 p2
    exact bodyPost_ret (v := .tuple #[.agg #[.int .i64 2, .int .i64 D, .int .i64 0], .bool (decide (0 ≤ D))]) (by simp [results, Tryz.results69, go_sem, z0, z1, z2]) rfl ⟨⟨2, D, 0, _, rfl, by rw [HCF.out]⟩, (((HBW.out.setCell (by simp) _).setCell (by simp) _).setCell (by simp) _).drew⟩

set_option maxRecDepth 100000 in
set_option maxHeartbeats 1600000 in
theorem refChanged_plus (s : Bs) (w : World) (hs : s.length ≤ 1048576) (hsg : ¬ ∃ c d t, s = c :: d :: t ∧ (c = 45 ∨ c = 61)) :
    Calls Tryz.prog 69 #[S s] w fun e w' => ChgR s e ∧ Below w.heap.size w w' := by
  have hcf := chg_else hsg
  have hzs : (⟨s.toArray⟩ : ByteArray).size = s.length := size_bytes s
  have HS := Lib.hid hs
  obtain ⟨N, hN⟩ : ∃ N, N = s.length := ⟨_, rfl⟩
  rw [← hN] at hzs
  have HCF := Lib.hid hcf
  have h3 : s.length ≤ 1 ∨ ∃ c d t, s = c :: d :: t ∧ c ≠ 45 ∧ c ≠ 61 := by
    match s, hsg with
    | [], _ => exact Or.inl (by simp)
    | [c], _ => exact Or.inl (by simp)
    | c :: d :: t, hsg => exact Or.inr ⟨c, d, t, rfl, fun e => hsg ⟨c, d, t, rfl, Or.inl e⟩, fun e => hsg ⟨c, d, t, rfl, Or.inr e⟩⟩
  clear hcf hsg hs
  rcases h3 with h3 | ⟨c, d, t, hst, n1, n2⟩
  · have g0 : decide ((1 : Int) < (N : Int)) = false := decide_eq_false (by omega)
    clear h3 hN
    go_enter Tryz.func69, Tryz.ntmps69
    go_wp2_with fail
    refine (refCut_any s 43 _ HS.out).mono ?_
    rintro e w1 ⟨⟨v', rfl, hrow⟩, hb1⟩
    have h0 := blk_later hb1 (show (w.alloc (.cells #[.int .i64 0, .int .i64 0, .int .i64 0] 44)).heap[w.heap.size]? = some (.cells #[.int .i64 0, .int .i64 0, .int .i64 0] 44) from (by repeat (first | exact heap_alloc_at _ _ _ (by (first | omega | (simp; done) | (simp; omega) | fail)) | (refine (heap_alloc_past _ _ _ ?_).trans ?_; · (first | omega | (simp; done) | (simp; omega) | fail)) | fail)))
    have HB1 := Lib.hid (show Below w.heap.size w w1 from Below.trans (by exact (by repeat (first | (refine Below.setCell ?_ ?_ _; rotate_left; · (first | omega | (simp; done) | (simp; omega) | fail)) | (refine Below.alloc ?_ ?_ _; rotate_left; · (first | omega | (simp; done) | (simp; omega) | fail)) | refine Below.drew ?_ | exact Below.refl _ _ | fail))) (hb1.mono (by simp)))
    have hz1 := blk_lt h0
    have H0 := Lib.hid h0
    have hps := strs_of_row hrow
    have hcl := cutF_short 43 s
    have hne := cutF_ne 43 s
    have htw := fun u v (h : cutF 43 s = [u, v]) => chPlus_two h
    have hno : (cutF 43 s).length ≠ 2 → chPlusF s = none := fun h => by
      unfold chPlusF
      split
      · rename_i u v e
        rw [e] at h
        exact absurd rfl h
      · rfl
    obtain ⟨ps, hps'⟩ : ∃ ps, ps = cutF 43 s := ⟨_, rfl⟩
    rw [← hps'] at hps hcl hne hno
    rw [← hps'] at htw
    clear hps' hb1 h0 hrow
    obtain ⟨a, cap, rfl, hc⟩ := hps
    obtain ⟨g, rfl, hg, hc⟩ := hc hne
    have HC := Lib.hid hc
    have HCL := Lib.hid hcl
    have HTW := Lib.hid htw
    clear hc hcl htw
    by_cases h2 : ps.length = 2
    · obtain ⟨u, v, rfl⟩ : ∃ u v, ps = [u, v] := by
        match ps, h2 with
        | [u, v], _ => exact ⟨u, v, rfl⟩
      have x0 := HC.out 0 u rfl
      have x1 := HC.out 1 v rfl
      have HU : Hid (u.length ≤ 1048576) := Lib.hid (Nat.le_trans (HCL.out u (by simp)) HS.out)
      have HV : Hid (v.length ≤ 1048576) := Lib.hid (Nat.le_trans (HCL.out v (by simp)) HS.out)
      obtain ⟨D, hD⟩ : ∃ D, D = decF u := ⟨_, rfl⟩
      obtain ⟨E, hE⟩ : ∃ E, E = decF v := ⟨_, rfl⟩
      have HCF : Hid (changedF s = if decide (0 ≤ D) && decide (0 ≤ E) then some ⟨3, D, E⟩ else none) := Lib.hid (by rw [HCF.out, HTW.out u v rfl, hD, hE])
      have HD := Lib.hid hD
      have HE := Lib.hid hE
      clear HC HCL HTW hno h2 hD hE hne
      go_wp2_with fail
      have Bw1 := Below.refl w1.heap.size w1
      refine wp_region_held_drew (S := (fun z => z.cell? ⟨g, 0, none⟩ = some (S u) ∧ z.cell? ⟨g, 1, none⟩ = some (S v))) (by kernel_rfl) ?_ (fun hHeld => ?_)
      · exact ⟨x0, x1⟩
      refine wpAnyH_take (i := 0) (v := ?_) rfl (by kernel_rfl) (by kernel_rfl) (by kernel_rfl) (fun _ _ _ h => h) (Or.inl ⟨by rfl, ?_⟩) (by assumption) ?_
      rotate_left
      · (intro w hSw; (try dsimp only at hSw); go_simp; (try with_reducible rfl))
      (try simp only [Act.put, List.setIfInBounds_toArray, List.set_cons_zero, List.set_cons_succ])
      refine wpAnyH_take (i := 1) (v := ?_) rfl (by kernel_rfl) (by kernel_rfl) (by kernel_rfl) (fun _ _ _ h => h) (Or.inl ⟨by rfl, ?_⟩) (by assumption) ?_
      rotate_left
      · (intro w hSw; (try dsimp only at hSw); go_simp; (try with_reducible rfl))
      (try simp only [Act.put, List.setIfInBounds_toArray, List.set_cons_zero, List.set_cons_succ])
      refine wpAnyH_take (i := 2) (v := ?_) rfl (by kernel_rfl) (by kernel_rfl) (by kernel_rfl) (fun _ _ _ h => h) (Or.inl ⟨by rfl, ?_⟩) (by assumption) ?_
      rotate_left
      · (intro w hSw; (try dsimp only at hSw); go_simp; (try with_reducible rfl))
      (try simp only [Act.put, List.setIfInBounds_toArray, List.set_cons_zero, List.set_cons_succ])
      refine wpAnyH_take (i := 4) (v := ?_) rfl (by kernel_rfl) (by kernel_rfl) (by kernel_rfl) (fun _ _ _ h => h) (Or.inl ⟨by rfl, ?_⟩) (by assumption) ?_
      rotate_left
      · (intro w hSw; (try dsimp only at hSw); go_simp; (try with_reducible rfl))
      (try simp only [Act.put, List.setIfInBounds_toArray, List.set_cons_zero, List.set_cons_succ])
      refine wpAnyH_take (i := 5) (v := ?_) rfl (by kernel_rfl) (by kernel_rfl) (by kernel_rfl) (fun _ _ _ h => h) (Or.inl ⟨by rfl, ?_⟩) (by assumption) ?_
      rotate_left
      · (intro w hSw; (try dsimp only at hSw); go_simp; (try with_reducible rfl))
      (try simp only [Act.put, List.setIfInBounds_toArray, List.set_cons_zero, List.set_cons_succ])
      refine wpAnyH_take (i := 6) (v := ?_) rfl (by kernel_rfl) (by kernel_rfl) (by kernel_rfl) (fun _ _ _ h => h) (Or.inl ⟨by rfl, ?_⟩) (by assumption) ?_
      rotate_left
      · (intro w hSw; (try dsimp only at hSw); go_simp; (try with_reducible rfl))
      (try simp only [Act.put, List.setIfInBounds_toArray, List.set_cons_zero, List.set_cons_succ])
      refine wpAnyH_ready (rs := [3, 9]) (by kernel_rfl) (by simp) ?_
      refine AllReadyH.cons rfl (fun K hK => ?_) ?_
      · skip
        go_simp
        refine (refDecimal_any u _ HU.out).mono ?_
        rintro e w2 ⟨rfl, hbw2⟩
        rw [← HD.out]
        have Bw2 := Below.trans (show Below w1.heap.size w1 _ by exact (by repeat (first | (refine Below.setCell ?_ ?_ _; rotate_left; · (first | omega | (simp; done) | (simp; omega) | fail)) | (refine Below.alloc ?_ ?_ _; rotate_left; · (first | omega | (simp; done) | (simp; omega) | fail)) | refine Below.drew ?_ | exact Bw1 | fail))) (hbw2.mono (by have := Bw1.size; simp; try omega))
        have hzw2 := Bw2.size
        have s0 := (Bw2.cell (p := ⟨g, 0, none⟩) hg).trans x0
        have s1 := (Bw2.cell (p := ⟨g, 1, none⟩) hg).trans x1
        go_wp2_with fail
        refine hK.out _ _ ?_ (fun hNew => ?_)
        · exact ⟨s0, s1⟩
        clear s0 s1
        clear hK K hHeld
        have hHeld := hNew
        clear hNew
        (try simp only [Act.put, List.setIfInBounds_toArray, List.set_cons_zero, List.set_cons_succ])
        refine wpAnyH_ready (rs := [7, 9]) (by kernel_rfl) (by simp) ?_
        refine AllReadyH.cons rfl (fun K hK => ?_) ?_
        · skip
          go_simp
          refine (refDecimal_any v _ HV.out).mono ?_
          rintro e w3 ⟨rfl, hbw3⟩
          rw [← HE.out]
          have Bw3 := Below.trans (show Below w1.heap.size w1 _ by exact (by repeat (first | (refine Below.setCell ?_ ?_ _; rotate_left; · (first | omega | (simp; done) | (simp; omega) | fail)) | (refine Below.alloc ?_ ?_ _; rotate_left; · (first | omega | (simp; done) | (simp; omega) | fail)) | refine Below.drew ?_ | exact Bw2 | fail))) (hbw3.mono (by have := Bw2.size; simp; try omega))
          have hzw3 := Bw3.size
          have s0 := (Bw3.cell (p := ⟨g, 0, none⟩) hg).trans x0
          have s1 := (Bw3.cell (p := ⟨g, 1, none⟩) hg).trans x1
          go_wp2_with fail
          refine hK.out _ _ ?_ (fun hNew => ?_)
          · exact ⟨s0, s1⟩
          clear s0 s1
          clear hK K hHeld
          have hHeld := hNew
          clear hNew
          (try simp only [Act.put, List.setIfInBounds_toArray, List.set_cons_zero, List.set_cons_succ])
          refine wpAnyH_take (i := 8) (v := ?_) rfl (by kernel_rfl) (by kernel_rfl) (by kernel_rfl) (fun _ _ _ h => h) (Or.inl ⟨by rfl, ?_⟩) (by assumption) ?_
          rotate_left
          · (intro w hSw; (try dsimp only at hSw); go_simp; (try with_reducible rfl))
          (try simp only [Act.put, List.setIfInBounds_toArray, List.set_cons_zero, List.set_cons_succ])
          refine wpAnyH_ready (rs := [9]) (by kernel_rfl) (by simp) ?_
          refine AllReadyH.cons rfl (fun K hK => ?_) AllReadyH.nil
          go_simp
          refine hK.out _ _ ?_ (fun hNew => ?_)
          · obtain ⟨q0, q1⟩ := hHeld
            exact ⟨cell_al q0 (lt_of_cell q0) _, cell_al q1 (lt_of_cell q1) _⟩
          clear hK K hHeld
          have hHeld := hNew
          clear hNew
          (try simp only [Act.put, List.setIfInBounds_toArray, List.set_cons_zero, List.set_cons_succ])
          refine wpAnyH_ready (rs := [10]) (by kernel_rfl) (by simp) ?_
          refine AllReadyH.cons rfl (fun K hK => ?_) AllReadyH.nil
          go_simp
          refine hK.out _ _ ?_ (fun hNew => ?_)
          · obtain ⟨q0, q1⟩ := show w3.cell? ⟨g, 0, none⟩ = some (S u) ∧ w3.cell? ⟨g, 1, none⟩ = some (S v) from ⟨(Bw3.cell (p := ⟨g, 0, none⟩) hg).trans x0, (Bw3.cell (p := ⟨g, 1, none⟩) hg).trans x1⟩
            exact ⟨cell_al q0 (lt_of_cell q0) _, cell_al q1 (lt_of_cell q1) _⟩
          clear hK K hHeld
          have hHeld := hNew
          clear hNew
          (try simp only [Act.put, List.setIfInBounds_toArray, List.set_cons_zero, List.set_cons_succ])
          refine wpAnyH_done (by kernel_rfl) ?_ _
          have hA : w1.heap.size ≤ w3.heap.size := Bw3.size
          obtain ⟨W, hW⟩ : ∃ W, W = w3.alloc (.cells #[.int .i64 3, .int .i64 D, .int .i64 E] 44) := ⟨_, rfl⟩
          have hbx : W.heap[w3.heap.size]? = some (.cells #[.int .i64 3, .int .i64 D, .int .i64 E] 44) := by rw [hW]; exact (by repeat (first | exact heap_alloc_at _ _ _ (by (first | omega | (simp; done) | (simp; omega) | fail)) | (refine (heap_alloc_past _ _ _ ?_).trans ?_; · (first | omega | (simp; done) | (simp; omega) | fail)) | fail))
          have hrs : W.heap[w.heap.size]? = some (.cells #[.int .i64 0, .int .i64 0, .int .i64 0] 44) := by rw [hW]; exact (by repeat (first | (refine (heap_setCell_past _ _ _ _ ?_).trans ?_; · (first | omega | (simp; done) | (simp; omega) | fail)) | (refine (heap_alloc_past _ _ _ ?_).trans ?_; · (first | omega | (simp; done) | (simp; omega) | fail)) | exact blk_later Bw3 H0.out | fail))
          have HBW := Lib.hid (show Below w.heap.size w W by rw [hW]; exact (HB1.out.trans (Bw3.mono HB1.out.size)).alloc (HB1.out.trans (Bw3.mono HB1.out.size)).size _)
          rw [← hW]
          clear hW hHeld x0 x1 Bw1 Bw2 Bw3 hbw2 hbw3
          have hne : w.heap.size ≠ w3.heap.size := by omega
          have b0 := blk_cell hbx 0; have b1 := blk_cell hbx 1; have b2 := blk_cell hbx 2
          have p0 := blk_free hbx 0; have p1 := blk_free hbx 1; have p2 := blk_free hbx 2
          have a0 := blk_cell hrs 0; have a1 := blk_cell hrs 1; have a2 := blk_cell hrs 2
          have f0 := blk_free hrs 0; have f1 := blk_free hrs 1; have f2 := blk_free hrs 2
          have HRS := Lib.hid hrs
          clear hbx hrs
          by_cases hD : 0 ≤ D
          · have e1 : decide (0 ≤ D) = true := decide_eq_true hD
            go_wp2_with fail
            go_region
            go_wp2_with fail
            have hset := blk_drew (blk_set (blk_set (blk_set HRS.out 0 (.int .i64 3)) 1 (.int .i64 D)) 2 (.int .i64 E))
            have z0 := blk_cell hset 0
            have z1 := blk_cell hset 1
            have z2 := blk_cell hset 2
            clear hset a0 a1 a2 f0 f1 f2 b0 b1 b2 p0 p1 p2
            exact bodyPost_ret (v := .tuple #[.agg #[.int .i64 3, .int .i64 D, .int .i64 E], .bool (decide (0 ≤ E))]) (by simp [results, Tryz.results69, go_sem, z0, z1, z2]) rfl ⟨⟨3, D, E, _, rfl, by rw [HCF.out, e1, Bool.true_and]⟩, (((HBW.out.setCell (by simp) _).setCell (by simp) _).setCell (by simp) _).drew⟩
          · have e1 : decide (0 ≤ D) = false := decide_eq_false hD
            go_wp2_with fail
            go_region
            go_wp2_with fail
            have hset := blk_drew (blk_set (blk_set (blk_set HRS.out 0 (.int .i64 3)) 1 (.int .i64 D)) 2 (.int .i64 E))
            have z0 := blk_cell hset 0
            have z1 := blk_cell hset 1
            have z2 := blk_cell hset 2
            clear hset a0 a1 a2 f0 f1 f2 b0 b1 b2 p0 p1 p2
            exact bodyPost_ret (v := .tuple #[.agg #[.int .i64 3, .int .i64 D, .int .i64 E], .bool false]) (by simp [results, Tryz.results69, go_sem, z0, z1, z2]) rfl ⟨⟨3, D, E, _, rfl, by rw [HCF.out, e1]; rfl⟩, (((HBW.out.setCell (by simp) _).setCell (by simp) _).setCell (by simp) _).drew⟩
        refine AllReadyH.cons rfl (fun K hK => ?_) AllReadyH.nil
        go_simp
        refine hK.out _ _ ?_ (fun hNew => ?_)
        · obtain ⟨q0, q1⟩ := hHeld
          exact ⟨cell_al q0 (lt_of_cell q0) _, cell_al q1 (lt_of_cell q1) _⟩
        clear hK K hHeld
        have hHeld := hNew
        clear hNew
        (try simp only [Act.put, List.setIfInBounds_toArray, List.set_cons_zero, List.set_cons_succ])
        refine wpAnyH_ready (rs := [7]) (by kernel_rfl) (by simp) ?_
        refine AllReadyH.cons rfl (fun K hK => ?_) AllReadyH.nil
        go_simp
        refine (refDecimal_any v _ HV.out).mono ?_
        rintro e w3 ⟨rfl, hbw3⟩
        rw [← HE.out]
        have Bw3 := Below.trans (show Below w1.heap.size w1 _ by exact (by repeat (first | (refine Below.setCell ?_ ?_ _; rotate_left; · (first | omega | (simp; done) | (simp; omega) | fail)) | (refine Below.alloc ?_ ?_ _; rotate_left; · (first | omega | (simp; done) | (simp; omega) | fail)) | refine Below.drew ?_ | exact Bw2 | fail))) (hbw3.mono (by have := Bw2.size; simp; try omega))
        have hzw3 := Bw3.size
        have s0 := (Bw3.cell (p := ⟨g, 0, none⟩) hg).trans x0
        have s1 := (Bw3.cell (p := ⟨g, 1, none⟩) hg).trans x1
        go_wp2_with fail
        refine hK.out _ _ ?_ (fun hNew => ?_)
        · exact ⟨s0, s1⟩
        clear s0 s1
        clear hK K hHeld
        have hHeld := hNew
        clear hNew
        (try simp only [Act.put, List.setIfInBounds_toArray, List.set_cons_zero, List.set_cons_succ])
        have AC := blk_later hbw3 (show (w2.alloc (.cells #[.int .i64 0, .int .i64 0, .int .i64 0] 44)).heap[w2.heap.size]? = some (.cells #[.int .i64 0, .int .i64 0, .int .i64 0] 44) from (by repeat (first | exact heap_alloc_at _ _ _ (by (first | omega | (simp; done) | (simp; omega) | fail)) | (refine (heap_alloc_past _ _ _ ?_).trans ?_; · (first | omega | (simp; done) | (simp; omega) | fail)) | fail)))
        have hA : w1.heap.size ≤ w2.heap.size := Bw2.size
        refine wpAnyH_take (i := 8) (v := ?_) rfl (by kernel_rfl) (by kernel_rfl) (by kernel_rfl) (fun _ _ _ h => h) (Or.inl ⟨by rfl, ?_⟩) (by assumption) ?_
        rotate_left
        · (intro w hSw; (try dsimp only at hSw); go_simp; (try with_reducible rfl))
        (try simp only [Act.put, List.setIfInBounds_toArray, List.set_cons_zero, List.set_cons_succ])
        refine wpAnyH_ready (rs := [10]) (by kernel_rfl) (by simp) ?_
        refine AllReadyH.cons rfl (fun K hK => ?_) AllReadyH.nil
        have b0 := blk_cell AC 0; have b1 := blk_cell AC 1; have b2 := blk_cell AC 2
        have p0 := blk_free AC 0; have p1 := blk_free AC 1; have p2 := blk_free AC 2
        have hgA : w2.heap.size ≠ g := by omega
        go_simp
        refine hK.out _ _ ?_ (fun hNew => ?_)
        · exact ⟨cell_set3 ((Bw3.cell (p := ⟨g, 0, none⟩) hg).trans x0) hgA, cell_set3 ((Bw3.cell (p := ⟨g, 1, none⟩) hg).trans x1) hgA⟩
        clear hK K hHeld
        have hHeld := hNew
        clear hNew
        (try simp only [Act.put, List.setIfInBounds_toArray, List.set_cons_zero, List.set_cons_succ])
        refine wpAnyH_done (by kernel_rfl) ?_ _
        clear b0 b1 b2 p0 p1 p2
        obtain ⟨W, hW⟩ : ∃ W, W = ((w3.setCell ⟨w2.heap.size, 0, none⟩ (.int .i64 3)).setCell ⟨w2.heap.size, 1, none⟩ (.int .i64 D)).setCell ⟨w2.heap.size, 2, none⟩ (.int .i64 E) := ⟨_, rfl⟩
        have hbx : W.heap[w2.heap.size]? = some (.cells #[.int .i64 3, .int .i64 D, .int .i64 E] 44) := by rw [hW]; exact blk_set (blk_set (blk_set AC 0 _) 1 _) 2 _
        have hrs : W.heap[w.heap.size]? = some (.cells #[.int .i64 0, .int .i64 0, .int .i64 0] 44) := by
          rw [hW]
          exact (heap_setCell_past _ _ _ _ (by simp only; omega)).trans ((heap_setCell_past _ _ _ _ (by simp only; omega)).trans ((heap_setCell_past _ _ _ _ (by simp only; omega)).trans (blk_later Bw3 H0.out)))
        have hAw : w.heap.size ≤ w2.heap.size := by omega
        have HBW := Lib.hid (show Below w.heap.size w W by rw [hW]; exact (((HB1.out.trans (Bw3.mono HB1.out.size)).setCell hAw _).setCell hAw _).setCell hAw _)
        rw [← hW]
        clear hW hHeld x0 x1 Bw1 Bw2 Bw3 hbw2 hbw3 AC hgA
        have hne : w.heap.size ≠ w2.heap.size := by omega
        have b0 := blk_cell hbx 0; have b1 := blk_cell hbx 1; have b2 := blk_cell hbx 2
        have p0 := blk_free hbx 0; have p1 := blk_free hbx 1; have p2 := blk_free hbx 2
        have a0 := blk_cell hrs 0; have a1 := blk_cell hrs 1; have a2 := blk_cell hrs 2
        have f0 := blk_free hrs 0; have f1 := blk_free hrs 1; have f2 := blk_free hrs 2
        have HRS := Lib.hid hrs
        clear hbx hrs
        by_cases hD : 0 ≤ D
        · have e1 : decide (0 ≤ D) = true := decide_eq_true hD
          go_wp2_with fail
          go_region
          go_wp2_with fail
          have hset := blk_drew (blk_set (blk_set (blk_set HRS.out 0 (.int .i64 3)) 1 (.int .i64 D)) 2 (.int .i64 E))
          have z0 := blk_cell hset 0
          have z1 := blk_cell hset 1
          have z2 := blk_cell hset 2
          clear hset a0 a1 a2 f0 f1 f2 b0 b1 b2 p0 p1 p2
          exact bodyPost_ret (v := .tuple #[.agg #[.int .i64 3, .int .i64 D, .int .i64 E], .bool (decide (0 ≤ E))]) (by simp [results, Tryz.results69, go_sem, z0, z1, z2]) rfl ⟨⟨3, D, E, _, rfl, by rw [HCF.out, e1, Bool.true_and]⟩, (((HBW.out.setCell (by simp) _).setCell (by simp) _).setCell (by simp) _).drew⟩
        · have e1 : decide (0 ≤ D) = false := decide_eq_false hD
          go_wp2_with fail
          go_region
          go_wp2_with fail
          have hset := blk_drew (blk_set (blk_set (blk_set HRS.out 0 (.int .i64 3)) 1 (.int .i64 D)) 2 (.int .i64 E))
          have z0 := blk_cell hset 0
          have z1 := blk_cell hset 1
          have z2 := blk_cell hset 2
          clear hset a0 a1 a2 f0 f1 f2 b0 b1 b2 p0 p1 p2
          exact bodyPost_ret (v := .tuple #[.agg #[.int .i64 3, .int .i64 D, .int .i64 E], .bool false]) (by simp [results, Tryz.results69, go_sem, z0, z1, z2]) rfl ⟨⟨3, D, E, _, rfl, by rw [HCF.out, e1]; rfl⟩, (((HBW.out.setCell (by simp) _).setCell (by simp) _).setCell (by simp) _).drew⟩
      refine AllReadyH.cons rfl (fun K hK => ?_) AllReadyH.nil
      go_simp
      refine hK.out _ _ ?_ (fun hNew => ?_)
      · obtain ⟨q0, q1⟩ := hHeld
        exact ⟨cell_al q0 (lt_of_cell q0) _, cell_al q1 (lt_of_cell q1) _⟩
      clear hK K hHeld
      have hHeld := hNew
      clear hNew
      (try simp only [Act.put, List.setIfInBounds_toArray, List.set_cons_zero, List.set_cons_succ])
      refine wpAnyH_ready (rs := [3]) (by kernel_rfl) (by simp) ?_
      refine AllReadyH.cons rfl (fun K hK => ?_) AllReadyH.nil
      go_simp
      refine (refDecimal_any u _ HU.out).mono ?_
      rintro e w2 ⟨rfl, hbw2⟩
      rw [← HD.out]
      have Bw2 := Below.trans (show Below w1.heap.size w1 _ by exact (by repeat (first | (refine Below.setCell ?_ ?_ _; rotate_left; · (first | omega | (simp; done) | (simp; omega) | fail)) | (refine Below.alloc ?_ ?_ _; rotate_left; · (first | omega | (simp; done) | (simp; omega) | fail)) | refine Below.drew ?_ | exact Bw1 | fail))) (hbw2.mono (by have := Bw1.size; simp; try omega))
      have hzw2 := Bw2.size
      have s0 := (Bw2.cell (p := ⟨g, 0, none⟩) hg).trans x0
      have s1 := (Bw2.cell (p := ⟨g, 1, none⟩) hg).trans x1
      go_wp2_with fail
      refine hK.out _ _ ?_ (fun hNew => ?_)
      · exact ⟨s0, s1⟩
      clear s0 s1
      clear hK K hHeld
      have hHeld := hNew
      clear hNew
      (try simp only [Act.put, List.setIfInBounds_toArray, List.set_cons_zero, List.set_cons_succ])
      have AC2 := blk_later hbw2 (show (w1.drew.alloc (.cells #[.int .i64 0, .int .i64 0, .int .i64 0] 44)).heap[w1.heap.size]? = some (.cells #[.int .i64 0, .int .i64 0, .int .i64 0] 44) from (by repeat (first | exact heap_alloc_at _ _ _ (by (first | omega | (simp; done) | (simp; omega) | fail)) | (refine (heap_alloc_past _ _ _ ?_).trans ?_; · (first | omega | (simp; done) | (simp; omega) | fail)) | fail)))
      refine wpAnyH_ready (rs := [7]) (by kernel_rfl) (by simp) ?_
      refine AllReadyH.cons rfl (fun K hK => ?_) AllReadyH.nil
      go_simp
      refine (refDecimal_any v _ HV.out).mono ?_
      rintro e w3 ⟨rfl, hbw3⟩
      rw [← HE.out]
      have Bw3 := Below.trans (show Below w1.heap.size w1 _ by exact (by repeat (first | (refine Below.setCell ?_ ?_ _; rotate_left; · (first | omega | (simp; done) | (simp; omega) | fail)) | (refine Below.alloc ?_ ?_ _; rotate_left; · (first | omega | (simp; done) | (simp; omega) | fail)) | refine Below.drew ?_ | exact Bw2 | fail))) (hbw3.mono (by have := Bw2.size; simp; try omega))
      have hzw3 := Bw3.size
      have s0 := (Bw3.cell (p := ⟨g, 0, none⟩) hg).trans x0
      have s1 := (Bw3.cell (p := ⟨g, 1, none⟩) hg).trans x1
      go_wp2_with fail
      refine hK.out _ _ ?_ (fun hNew => ?_)
      · exact ⟨s0, s1⟩
      clear s0 s1
      clear hK K hHeld
      have hHeld := hNew
      clear hNew
      (try simp only [Act.put, List.setIfInBounds_toArray, List.set_cons_zero, List.set_cons_succ])
      have AC := blk_later hbw3 AC2
      have hA : w1.heap.size ≤ w1.heap.size := Nat.le_refl _
      refine wpAnyH_take (i := 8) (v := ?_) rfl (by kernel_rfl) (by kernel_rfl) (by kernel_rfl) (fun _ _ _ h => h) (Or.inl ⟨by rfl, ?_⟩) (by assumption) ?_
      rotate_left
      · (intro w hSw; (try dsimp only at hSw); go_simp; (try with_reducible rfl))
      (try simp only [Act.put, List.setIfInBounds_toArray, List.set_cons_zero, List.set_cons_succ])
      refine wpAnyH_ready (rs := [10]) (by kernel_rfl) (by simp) ?_
      refine AllReadyH.cons rfl (fun K hK => ?_) AllReadyH.nil
      have b0 := blk_cell AC 0; have b1 := blk_cell AC 1; have b2 := blk_cell AC 2
      have p0 := blk_free AC 0; have p1 := blk_free AC 1; have p2 := blk_free AC 2
      have hgA : w1.heap.size ≠ g := by omega
      go_simp
      refine hK.out _ _ ?_ (fun hNew => ?_)
      · exact ⟨cell_set3 ((Bw3.cell (p := ⟨g, 0, none⟩) hg).trans x0) hgA, cell_set3 ((Bw3.cell (p := ⟨g, 1, none⟩) hg).trans x1) hgA⟩
      clear hK K hHeld
      have hHeld := hNew
      clear hNew
      (try simp only [Act.put, List.setIfInBounds_toArray, List.set_cons_zero, List.set_cons_succ])
      refine wpAnyH_done (by kernel_rfl) ?_ _
      clear b0 b1 b2 p0 p1 p2
      obtain ⟨W, hW⟩ : ∃ W, W = ((w3.setCell ⟨w1.heap.size, 0, none⟩ (.int .i64 3)).setCell ⟨w1.heap.size, 1, none⟩ (.int .i64 D)).setCell ⟨w1.heap.size, 2, none⟩ (.int .i64 E) := ⟨_, rfl⟩
      have hbx : W.heap[w1.heap.size]? = some (.cells #[.int .i64 3, .int .i64 D, .int .i64 E] 44) := by rw [hW]; exact blk_set (blk_set (blk_set AC 0 _) 1 _) 2 _
      have hrs : W.heap[w.heap.size]? = some (.cells #[.int .i64 0, .int .i64 0, .int .i64 0] 44) := by
        rw [hW]
        exact (heap_setCell_past _ _ _ _ (by simp only; omega)).trans ((heap_setCell_past _ _ _ _ (by simp only; omega)).trans ((heap_setCell_past _ _ _ _ (by simp only; omega)).trans (blk_later Bw3 H0.out)))
      have hAw : w.heap.size ≤ w1.heap.size := by omega
      have HBW := Lib.hid (show Below w.heap.size w W by rw [hW]; exact (((HB1.out.trans (Bw3.mono HB1.out.size)).setCell hAw _).setCell hAw _).setCell hAw _)
      rw [← hW]
      clear hW hHeld x0 x1 Bw1 Bw2 Bw3 hbw2 hbw3 AC hgA
      have hne : w.heap.size ≠ w1.heap.size := by omega
      have b0 := blk_cell hbx 0; have b1 := blk_cell hbx 1; have b2 := blk_cell hbx 2
      have p0 := blk_free hbx 0; have p1 := blk_free hbx 1; have p2 := blk_free hbx 2
      have a0 := blk_cell hrs 0; have a1 := blk_cell hrs 1; have a2 := blk_cell hrs 2
      have f0 := blk_free hrs 0; have f1 := blk_free hrs 1; have f2 := blk_free hrs 2
      have HRS := Lib.hid hrs
      clear hbx hrs
      by_cases hD : 0 ≤ D
      · have e1 : decide (0 ≤ D) = true := decide_eq_true hD
        go_wp2_with fail
        go_region
        go_wp2_with fail
        have hset := blk_drew (blk_set (blk_set (blk_set HRS.out 0 (.int .i64 3)) 1 (.int .i64 D)) 2 (.int .i64 E))
        have z0 := blk_cell hset 0
        have z1 := blk_cell hset 1
        have z2 := blk_cell hset 2
        clear hset a0 a1 a2 f0 f1 f2 b0 b1 b2 p0 p1 p2
        exact bodyPost_ret (v := .tuple #[.agg #[.int .i64 3, .int .i64 D, .int .i64 E], .bool (decide (0 ≤ E))]) (by simp [results, Tryz.results69, go_sem, z0, z1, z2]) rfl ⟨⟨3, D, E, _, rfl, by rw [HCF.out, e1, Bool.true_and]⟩, (((HBW.out.setCell (by simp) _).setCell (by simp) _).setCell (by simp) _).drew⟩
      · have e1 : decide (0 ≤ D) = false := decide_eq_false hD
        go_wp2_with fail
        go_region
        go_wp2_with fail
        have hset := blk_drew (blk_set (blk_set (blk_set HRS.out 0 (.int .i64 3)) 1 (.int .i64 D)) 2 (.int .i64 E))
        have z0 := blk_cell hset 0
        have z1 := blk_cell hset 1
        have z2 := blk_cell hset 2
        clear hset a0 a1 a2 f0 f1 f2 b0 b1 b2 p0 p1 p2
        exact bodyPost_ret (v := .tuple #[.agg #[.int .i64 3, .int .i64 D, .int .i64 E], .bool false]) (by simp [results, Tryz.results69, go_sem, z0, z1, z2]) rfl ⟨⟨3, D, E, _, rfl, by rw [HCF.out, e1]; rfl⟩, (((HBW.out.setCell (by simp) _).setCell (by simp) _).setCell (by simp) _).drew⟩
    · have HCF2 : Hid (changedF s = none) := Lib.hid (by rw [HCF.out]; exact hno h2)
      obtain ⟨n, hn⟩ : ∃ n, n = ps.length := ⟨_, rfl⟩
      rw [← hn] at h2 ⊢
      have e2 : ((n : Int) != 2) = true := by simp; omega
      have a0 := blk_cell H0.out 0; have a1 := blk_cell H0.out 1; have a2 := blk_cell H0.out 2
      have f0 := blk_free H0.out 0; have f1 := blk_free H0.out 1; have f2 := blk_free H0.out 2
      clear HC HCL HTW hno h2 hn hne
      go_wp2_with fail
      have hset := blk_set (blk_set (blk_set H0.out 0 (.int .i64 0)) 1 (.int .i64 0)) 2 (.int .i64 0)
      have z0 := blk_cell hset 0
      have z1 := blk_cell hset 1
      have z2 := blk_cell hset 2
      clear hset a0 a1 a2 f0 f1 f2
      exact bodyPost_ret (v := .tuple #[.agg #[.int .i64 0, .int .i64 0, .int .i64 0], .bool false]) (by simp [results, Tryz.results69, go_sem, z0, z1, z2]) rfl ⟨⟨0, 0, 0, _, rfl, by rw [HCF2.out]; rfl⟩, ((HB1.out.setCell (by simp) _).setCell (by simp) _).setCell (by simp) _⟩
  · have hb0 : ∀ h : 0 < (⟨s.toArray⟩ : ByteArray).size, (⟨s.toArray⟩ : ByteArray)[0]'h = c := fun h => by
      subst hst
      rfl
    have hN1 : 1 < N := by rw [hN, hst]; simp
    have g0 : decide ((1 : Int) < (N : Int)) = true := decide_eq_true (by omega)
    have g1 : (0 : Int) < (N : Int) := by omega
    have m1 : ((c.toNat : Int) == 45) = false := by
      rw [beq_eq_false_iff_ne]
      intro h
      exact n1 (UInt8.toNat_inj.1 (by show c.toNat = 45; omega))
    have m2 : ((c.toNat : Int) == 61) = false := by
      rw [beq_eq_false_iff_ne]
      intro h
      exact n2 (UInt8.toNat_inj.1 (by show c.toNat = 61; omega))
    clear n1 n2 hst hN
    go_enter Tryz.func69, Tryz.ntmps69
    go_wp2_with fail
    refine (refCut_any s 43 _ HS.out).mono ?_
    rintro e w1 ⟨⟨v', rfl, hrow⟩, hb1⟩
    have h0 := blk_later hb1 (show (w.alloc (.cells #[.int .i64 0, .int .i64 0, .int .i64 0] 44)).heap[w.heap.size]? = some (.cells #[.int .i64 0, .int .i64 0, .int .i64 0] 44) from (by repeat (first | exact heap_alloc_at _ _ _ (by (first | omega | (simp; done) | (simp; omega) | fail)) | (refine (heap_alloc_past _ _ _ ?_).trans ?_; · (first | omega | (simp; done) | (simp; omega) | fail)) | fail)))
    have HB1 := Lib.hid (show Below w.heap.size w w1 from Below.trans (by exact (by repeat (first | (refine Below.setCell ?_ ?_ _; rotate_left; · (first | omega | (simp; done) | (simp; omega) | fail)) | (refine Below.alloc ?_ ?_ _; rotate_left; · (first | omega | (simp; done) | (simp; omega) | fail)) | refine Below.drew ?_ | exact Below.refl _ _ | fail))) (hb1.mono (by simp)))
    have hz1 := blk_lt h0
    have H0 := Lib.hid h0
    have hps := strs_of_row hrow
    have hcl := cutF_short 43 s
    have hne := cutF_ne 43 s
    have htw := fun u v (h : cutF 43 s = [u, v]) => chPlus_two h
    have hno : (cutF 43 s).length ≠ 2 → chPlusF s = none := fun h => by
      unfold chPlusF
      split
      · rename_i u v e
        rw [e] at h
        exact absurd rfl h
      · rfl
    obtain ⟨ps, hps'⟩ : ∃ ps, ps = cutF 43 s := ⟨_, rfl⟩
    rw [← hps'] at hps hcl hne hno
    rw [← hps'] at htw
    clear hps' hb1 h0 hrow
    obtain ⟨a, cap, rfl, hc⟩ := hps
    obtain ⟨g, rfl, hg, hc⟩ := hc hne
    have HC := Lib.hid hc
    have HCL := Lib.hid hcl
    have HTW := Lib.hid htw
    clear hc hcl htw
    by_cases h2 : ps.length = 2
    · obtain ⟨u, v, rfl⟩ : ∃ u v, ps = [u, v] := by
        match ps, h2 with
        | [u, v], _ => exact ⟨u, v, rfl⟩
      have x0 := HC.out 0 u rfl
      have x1 := HC.out 1 v rfl
      have HU : Hid (u.length ≤ 1048576) := Lib.hid (Nat.le_trans (HCL.out u (by simp)) HS.out)
      have HV : Hid (v.length ≤ 1048576) := Lib.hid (Nat.le_trans (HCL.out v (by simp)) HS.out)
      obtain ⟨D, hD⟩ : ∃ D, D = decF u := ⟨_, rfl⟩
      obtain ⟨E, hE⟩ : ∃ E, E = decF v := ⟨_, rfl⟩
      have HCF : Hid (changedF s = if decide (0 ≤ D) && decide (0 ≤ E) then some ⟨3, D, E⟩ else none) := Lib.hid (by rw [HCF.out, HTW.out u v rfl, hD, hE])
      have HD := Lib.hid hD
      have HE := Lib.hid hE
      clear HC HCL HTW hno h2 hD hE hne
      go_wp2_with fail
      have Bw1 := Below.refl w1.heap.size w1
      refine wp_region_held_drew (S := (fun z => z.cell? ⟨g, 0, none⟩ = some (S u) ∧ z.cell? ⟨g, 1, none⟩ = some (S v))) (by kernel_rfl) ?_ (fun hHeld => ?_)
      · exact ⟨x0, x1⟩
      refine wpAnyH_take (i := 0) (v := ?_) rfl (by kernel_rfl) (by kernel_rfl) (by kernel_rfl) (fun _ _ _ h => h) (Or.inl ⟨by rfl, ?_⟩) (by assumption) ?_
      rotate_left
      · (intro w hSw; (try dsimp only at hSw); go_simp; (try with_reducible rfl))
      (try simp only [Act.put, List.setIfInBounds_toArray, List.set_cons_zero, List.set_cons_succ])
      refine wpAnyH_take (i := 1) (v := ?_) rfl (by kernel_rfl) (by kernel_rfl) (by kernel_rfl) (fun _ _ _ h => h) (Or.inl ⟨by rfl, ?_⟩) (by assumption) ?_
      rotate_left
      · (intro w hSw; (try dsimp only at hSw); go_simp; (try with_reducible rfl))
      (try simp only [Act.put, List.setIfInBounds_toArray, List.set_cons_zero, List.set_cons_succ])
      refine wpAnyH_take (i := 2) (v := ?_) rfl (by kernel_rfl) (by kernel_rfl) (by kernel_rfl) (fun _ _ _ h => h) (Or.inl ⟨by rfl, ?_⟩) (by assumption) ?_
      rotate_left
      · (intro w hSw; (try dsimp only at hSw); go_simp; (try with_reducible rfl))
      (try simp only [Act.put, List.setIfInBounds_toArray, List.set_cons_zero, List.set_cons_succ])
      refine wpAnyH_take (i := 4) (v := ?_) rfl (by kernel_rfl) (by kernel_rfl) (by kernel_rfl) (fun _ _ _ h => h) (Or.inl ⟨by rfl, ?_⟩) (by assumption) ?_
      rotate_left
      · (intro w hSw; (try dsimp only at hSw); go_simp; (try with_reducible rfl))
      (try simp only [Act.put, List.setIfInBounds_toArray, List.set_cons_zero, List.set_cons_succ])
      refine wpAnyH_take (i := 5) (v := ?_) rfl (by kernel_rfl) (by kernel_rfl) (by kernel_rfl) (fun _ _ _ h => h) (Or.inl ⟨by rfl, ?_⟩) (by assumption) ?_
      rotate_left
      · (intro w hSw; (try dsimp only at hSw); go_simp; (try with_reducible rfl))
      (try simp only [Act.put, List.setIfInBounds_toArray, List.set_cons_zero, List.set_cons_succ])
      refine wpAnyH_take (i := 6) (v := ?_) rfl (by kernel_rfl) (by kernel_rfl) (by kernel_rfl) (fun _ _ _ h => h) (Or.inl ⟨by rfl, ?_⟩) (by assumption) ?_
      rotate_left
      · (intro w hSw; (try dsimp only at hSw); go_simp; (try with_reducible rfl))
      (try simp only [Act.put, List.setIfInBounds_toArray, List.set_cons_zero, List.set_cons_succ])
      refine wpAnyH_ready (rs := [3, 9]) (by kernel_rfl) (by simp) ?_
      refine AllReadyH.cons rfl (fun K hK => ?_) ?_
      · skip
        go_simp
        refine (refDecimal_any u _ HU.out).mono ?_
        rintro e w2 ⟨rfl, hbw2⟩
        rw [← HD.out]
        have Bw2 := Below.trans (show Below w1.heap.size w1 _ by exact (by repeat (first | (refine Below.setCell ?_ ?_ _; rotate_left; · (first | omega | (simp; done) | (simp; omega) | fail)) | (refine Below.alloc ?_ ?_ _; rotate_left; · (first | omega | (simp; done) | (simp; omega) | fail)) | refine Below.drew ?_ | exact Bw1 | fail))) (hbw2.mono (by have := Bw1.size; simp; try omega))
        have hzw2 := Bw2.size
        have s0 := (Bw2.cell (p := ⟨g, 0, none⟩) hg).trans x0
        have s1 := (Bw2.cell (p := ⟨g, 1, none⟩) hg).trans x1
        go_wp2_with fail
        refine hK.out _ _ ?_ (fun hNew => ?_)
        · exact ⟨s0, s1⟩
        clear s0 s1
        clear hK K hHeld
        have hHeld := hNew
        clear hNew
        (try simp only [Act.put, List.setIfInBounds_toArray, List.set_cons_zero, List.set_cons_succ])
        refine wpAnyH_ready (rs := [7, 9]) (by kernel_rfl) (by simp) ?_
        refine AllReadyH.cons rfl (fun K hK => ?_) ?_
        · skip
          go_simp
          refine (refDecimal_any v _ HV.out).mono ?_
          rintro e w3 ⟨rfl, hbw3⟩
          rw [← HE.out]
          have Bw3 := Below.trans (show Below w1.heap.size w1 _ by exact (by repeat (first | (refine Below.setCell ?_ ?_ _; rotate_left; · (first | omega | (simp; done) | (simp; omega) | fail)) | (refine Below.alloc ?_ ?_ _; rotate_left; · (first | omega | (simp; done) | (simp; omega) | fail)) | refine Below.drew ?_ | exact Bw2 | fail))) (hbw3.mono (by have := Bw2.size; simp; try omega))
          have hzw3 := Bw3.size
          have s0 := (Bw3.cell (p := ⟨g, 0, none⟩) hg).trans x0
          have s1 := (Bw3.cell (p := ⟨g, 1, none⟩) hg).trans x1
          go_wp2_with fail
          refine hK.out _ _ ?_ (fun hNew => ?_)
          · exact ⟨s0, s1⟩
          clear s0 s1
          clear hK K hHeld
          have hHeld := hNew
          clear hNew
          (try simp only [Act.put, List.setIfInBounds_toArray, List.set_cons_zero, List.set_cons_succ])
          refine wpAnyH_take (i := 8) (v := ?_) rfl (by kernel_rfl) (by kernel_rfl) (by kernel_rfl) (fun _ _ _ h => h) (Or.inl ⟨by rfl, ?_⟩) (by assumption) ?_
          rotate_left
          · (intro w hSw; (try dsimp only at hSw); go_simp; (try with_reducible rfl))
          (try simp only [Act.put, List.setIfInBounds_toArray, List.set_cons_zero, List.set_cons_succ])
          refine wpAnyH_ready (rs := [9]) (by kernel_rfl) (by simp) ?_
          refine AllReadyH.cons rfl (fun K hK => ?_) AllReadyH.nil
          go_simp
          refine hK.out _ _ ?_ (fun hNew => ?_)
          · obtain ⟨q0, q1⟩ := hHeld
            exact ⟨cell_al q0 (lt_of_cell q0) _, cell_al q1 (lt_of_cell q1) _⟩
          clear hK K hHeld
          have hHeld := hNew
          clear hNew
          (try simp only [Act.put, List.setIfInBounds_toArray, List.set_cons_zero, List.set_cons_succ])
          refine wpAnyH_ready (rs := [10]) (by kernel_rfl) (by simp) ?_
          refine AllReadyH.cons rfl (fun K hK => ?_) AllReadyH.nil
          go_simp
          refine hK.out _ _ ?_ (fun hNew => ?_)
          · obtain ⟨q0, q1⟩ := show w3.cell? ⟨g, 0, none⟩ = some (S u) ∧ w3.cell? ⟨g, 1, none⟩ = some (S v) from ⟨(Bw3.cell (p := ⟨g, 0, none⟩) hg).trans x0, (Bw3.cell (p := ⟨g, 1, none⟩) hg).trans x1⟩
            exact ⟨cell_al q0 (lt_of_cell q0) _, cell_al q1 (lt_of_cell q1) _⟩
          clear hK K hHeld
          have hHeld := hNew
          clear hNew
          (try simp only [Act.put, List.setIfInBounds_toArray, List.set_cons_zero, List.set_cons_succ])
          refine wpAnyH_done (by kernel_rfl) ?_ _
          have hA : w1.heap.size ≤ w3.heap.size := Bw3.size
          obtain ⟨W, hW⟩ : ∃ W, W = w3.alloc (.cells #[.int .i64 3, .int .i64 D, .int .i64 E] 44) := ⟨_, rfl⟩
          have hbx : W.heap[w3.heap.size]? = some (.cells #[.int .i64 3, .int .i64 D, .int .i64 E] 44) := by rw [hW]; exact (by repeat (first | exact heap_alloc_at _ _ _ (by (first | omega | (simp; done) | (simp; omega) | fail)) | (refine (heap_alloc_past _ _ _ ?_).trans ?_; · (first | omega | (simp; done) | (simp; omega) | fail)) | fail))
          have hrs : W.heap[w.heap.size]? = some (.cells #[.int .i64 0, .int .i64 0, .int .i64 0] 44) := by rw [hW]; exact (by repeat (first | (refine (heap_setCell_past _ _ _ _ ?_).trans ?_; · (first | omega | (simp; done) | (simp; omega) | fail)) | (refine (heap_alloc_past _ _ _ ?_).trans ?_; · (first | omega | (simp; done) | (simp; omega) | fail)) | exact blk_later Bw3 H0.out | fail))
          have HBW := Lib.hid (show Below w.heap.size w W by rw [hW]; exact (HB1.out.trans (Bw3.mono HB1.out.size)).alloc (HB1.out.trans (Bw3.mono HB1.out.size)).size _)
          rw [← hW]
          clear hW hHeld x0 x1 Bw1 Bw2 Bw3 hbw2 hbw3
          have hne : w.heap.size ≠ w3.heap.size := by omega
          have b0 := blk_cell hbx 0; have b1 := blk_cell hbx 1; have b2 := blk_cell hbx 2
          have p0 := blk_free hbx 0; have p1 := blk_free hbx 1; have p2 := blk_free hbx 2
          have a0 := blk_cell hrs 0; have a1 := blk_cell hrs 1; have a2 := blk_cell hrs 2
          have f0 := blk_free hrs 0; have f1 := blk_free hrs 1; have f2 := blk_free hrs 2
          have HRS := Lib.hid hrs
          clear hbx hrs
          by_cases hD : 0 ≤ D
          · have e1 : decide (0 ≤ D) = true := decide_eq_true hD
            go_wp2_with fail
            go_region
            go_wp2_with fail
            have hset := blk_drew (blk_set (blk_set (blk_set HRS.out 0 (.int .i64 3)) 1 (.int .i64 D)) 2 (.int .i64 E))
            have z0 := blk_cell hset 0
            have z1 := blk_cell hset 1
            have z2 := blk_cell hset 2
            clear hset a0 a1 a2 f0 f1 f2 b0 b1 b2 p0 p1 p2
            exact bodyPost_ret (v := .tuple #[.agg #[.int .i64 3, .int .i64 D, .int .i64 E], .bool (decide (0 ≤ E))]) (by simp [results, Tryz.results69, go_sem, z0, z1, z2]) rfl ⟨⟨3, D, E, _, rfl, by rw [HCF.out, e1, Bool.true_and]⟩, (((HBW.out.setCell (by simp) _).setCell (by simp) _).setCell (by simp) _).drew⟩
          · have e1 : decide (0 ≤ D) = false := decide_eq_false hD
            go_wp2_with fail
            go_region
            go_wp2_with fail
            have hset := blk_drew (blk_set (blk_set (blk_set HRS.out 0 (.int .i64 3)) 1 (.int .i64 D)) 2 (.int .i64 E))
            have z0 := blk_cell hset 0
            have z1 := blk_cell hset 1
            have z2 := blk_cell hset 2
            clear hset a0 a1 a2 f0 f1 f2 b0 b1 b2 p0 p1 p2
            exact bodyPost_ret (v := .tuple #[.agg #[.int .i64 3, .int .i64 D, .int .i64 E], .bool false]) (by simp [results, Tryz.results69, go_sem, z0, z1, z2]) rfl ⟨⟨3, D, E, _, rfl, by rw [HCF.out, e1]; rfl⟩, (((HBW.out.setCell (by simp) _).setCell (by simp) _).setCell (by simp) _).drew⟩
        refine AllReadyH.cons rfl (fun K hK => ?_) AllReadyH.nil
        go_simp
        refine hK.out _ _ ?_ (fun hNew => ?_)
        · obtain ⟨q0, q1⟩ := hHeld
          exact ⟨cell_al q0 (lt_of_cell q0) _, cell_al q1 (lt_of_cell q1) _⟩
        clear hK K hHeld
        have hHeld := hNew
        clear hNew
        (try simp only [Act.put, List.setIfInBounds_toArray, List.set_cons_zero, List.set_cons_succ])
        refine wpAnyH_ready (rs := [7]) (by kernel_rfl) (by simp) ?_
        refine AllReadyH.cons rfl (fun K hK => ?_) AllReadyH.nil
        go_simp
        refine (refDecimal_any v _ HV.out).mono ?_
        rintro e w3 ⟨rfl, hbw3⟩
        rw [← HE.out]
        have Bw3 := Below.trans (show Below w1.heap.size w1 _ by exact (by repeat (first | (refine Below.setCell ?_ ?_ _; rotate_left; · (first | omega | (simp; done) | (simp; omega) | fail)) | (refine Below.alloc ?_ ?_ _; rotate_left; · (first | omega | (simp; done) | (simp; omega) | fail)) | refine Below.drew ?_ | exact Bw2 | fail))) (hbw3.mono (by have := Bw2.size; simp; try omega))
        have hzw3 := Bw3.size
        have s0 := (Bw3.cell (p := ⟨g, 0, none⟩) hg).trans x0
        have s1 := (Bw3.cell (p := ⟨g, 1, none⟩) hg).trans x1
        go_wp2_with fail
        refine hK.out _ _ ?_ (fun hNew => ?_)
        · exact ⟨s0, s1⟩
        clear s0 s1
        clear hK K hHeld
        have hHeld := hNew
        clear hNew
        (try simp only [Act.put, List.setIfInBounds_toArray, List.set_cons_zero, List.set_cons_succ])
        have AC := blk_later hbw3 (show (w2.alloc (.cells #[.int .i64 0, .int .i64 0, .int .i64 0] 44)).heap[w2.heap.size]? = some (.cells #[.int .i64 0, .int .i64 0, .int .i64 0] 44) from (by repeat (first | exact heap_alloc_at _ _ _ (by (first | omega | (simp; done) | (simp; omega) | fail)) | (refine (heap_alloc_past _ _ _ ?_).trans ?_; · (first | omega | (simp; done) | (simp; omega) | fail)) | fail)))
        have hA : w1.heap.size ≤ w2.heap.size := Bw2.size
        refine wpAnyH_take (i := 8) (v := ?_) rfl (by kernel_rfl) (by kernel_rfl) (by kernel_rfl) (fun _ _ _ h => h) (Or.inl ⟨by rfl, ?_⟩) (by assumption) ?_
        rotate_left
        · (intro w hSw; (try dsimp only at hSw); go_simp; (try with_reducible rfl))
        (try simp only [Act.put, List.setIfInBounds_toArray, List.set_cons_zero, List.set_cons_succ])
        refine wpAnyH_ready (rs := [10]) (by kernel_rfl) (by simp) ?_
        refine AllReadyH.cons rfl (fun K hK => ?_) AllReadyH.nil
        have b0 := blk_cell AC 0; have b1 := blk_cell AC 1; have b2 := blk_cell AC 2
        have p0 := blk_free AC 0; have p1 := blk_free AC 1; have p2 := blk_free AC 2
        have hgA : w2.heap.size ≠ g := by omega
        go_simp
        refine hK.out _ _ ?_ (fun hNew => ?_)
        · exact ⟨cell_set3 ((Bw3.cell (p := ⟨g, 0, none⟩) hg).trans x0) hgA, cell_set3 ((Bw3.cell (p := ⟨g, 1, none⟩) hg).trans x1) hgA⟩
        clear hK K hHeld
        have hHeld := hNew
        clear hNew
        (try simp only [Act.put, List.setIfInBounds_toArray, List.set_cons_zero, List.set_cons_succ])
        refine wpAnyH_done (by kernel_rfl) ?_ _
        clear b0 b1 b2 p0 p1 p2
        obtain ⟨W, hW⟩ : ∃ W, W = ((w3.setCell ⟨w2.heap.size, 0, none⟩ (.int .i64 3)).setCell ⟨w2.heap.size, 1, none⟩ (.int .i64 D)).setCell ⟨w2.heap.size, 2, none⟩ (.int .i64 E) := ⟨_, rfl⟩
        have hbx : W.heap[w2.heap.size]? = some (.cells #[.int .i64 3, .int .i64 D, .int .i64 E] 44) := by rw [hW]; exact blk_set (blk_set (blk_set AC 0 _) 1 _) 2 _
        have hrs : W.heap[w.heap.size]? = some (.cells #[.int .i64 0, .int .i64 0, .int .i64 0] 44) := by
          rw [hW]
          exact (heap_setCell_past _ _ _ _ (by simp only; omega)).trans ((heap_setCell_past _ _ _ _ (by simp only; omega)).trans ((heap_setCell_past _ _ _ _ (by simp only; omega)).trans (blk_later Bw3 H0.out)))
        have hAw : w.heap.size ≤ w2.heap.size := by omega
        have HBW := Lib.hid (show Below w.heap.size w W by rw [hW]; exact (((HB1.out.trans (Bw3.mono HB1.out.size)).setCell hAw _).setCell hAw _).setCell hAw _)
        rw [← hW]
        clear hW hHeld x0 x1 Bw1 Bw2 Bw3 hbw2 hbw3 AC hgA
        have hne : w.heap.size ≠ w2.heap.size := by omega
        have b0 := blk_cell hbx 0; have b1 := blk_cell hbx 1; have b2 := blk_cell hbx 2
        have p0 := blk_free hbx 0; have p1 := blk_free hbx 1; have p2 := blk_free hbx 2
        have a0 := blk_cell hrs 0; have a1 := blk_cell hrs 1; have a2 := blk_cell hrs 2
        have f0 := blk_free hrs 0; have f1 := blk_free hrs 1; have f2 := blk_free hrs 2
        have HRS := Lib.hid hrs
        clear hbx hrs
        by_cases hD : 0 ≤ D
        · have e1 : decide (0 ≤ D) = true := decide_eq_true hD
          go_wp2_with fail
          go_region
          go_wp2_with fail
          have hset := blk_drew (blk_set (blk_set (blk_set HRS.out 0 (.int .i64 3)) 1 (.int .i64 D)) 2 (.int .i64 E))
          have z0 := blk_cell hset 0
          have z1 := blk_cell hset 1
          have z2 := blk_cell hset 2
          clear hset a0 a1 a2 f0 f1 f2 b0 b1 b2 p0 p1 p2
          exact bodyPost_ret (v := .tuple #[.agg #[.int .i64 3, .int .i64 D, .int .i64 E], .bool (decide (0 ≤ E))]) (by simp [results, Tryz.results69, go_sem, z0, z1, z2]) rfl ⟨⟨3, D, E, _, rfl, by rw [HCF.out, e1, Bool.true_and]⟩, (((HBW.out.setCell (by simp) _).setCell (by simp) _).setCell (by simp) _).drew⟩
        · have e1 : decide (0 ≤ D) = false := decide_eq_false hD
          go_wp2_with fail
          go_region
          go_wp2_with fail
          have hset := blk_drew (blk_set (blk_set (blk_set HRS.out 0 (.int .i64 3)) 1 (.int .i64 D)) 2 (.int .i64 E))
          have z0 := blk_cell hset 0
          have z1 := blk_cell hset 1
          have z2 := blk_cell hset 2
          clear hset a0 a1 a2 f0 f1 f2 b0 b1 b2 p0 p1 p2
          exact bodyPost_ret (v := .tuple #[.agg #[.int .i64 3, .int .i64 D, .int .i64 E], .bool false]) (by simp [results, Tryz.results69, go_sem, z0, z1, z2]) rfl ⟨⟨3, D, E, _, rfl, by rw [HCF.out, e1]; rfl⟩, (((HBW.out.setCell (by simp) _).setCell (by simp) _).setCell (by simp) _).drew⟩
      refine AllReadyH.cons rfl (fun K hK => ?_) AllReadyH.nil
      go_simp
      refine hK.out _ _ ?_ (fun hNew => ?_)
      · obtain ⟨q0, q1⟩ := hHeld
        exact ⟨cell_al q0 (lt_of_cell q0) _, cell_al q1 (lt_of_cell q1) _⟩
      clear hK K hHeld
      have hHeld := hNew
      clear hNew
      (try simp only [Act.put, List.setIfInBounds_toArray, List.set_cons_zero, List.set_cons_succ])
      refine wpAnyH_ready (rs := [3]) (by kernel_rfl) (by simp) ?_
      refine AllReadyH.cons rfl (fun K hK => ?_) AllReadyH.nil
      go_simp
      refine (refDecimal_any u _ HU.out).mono ?_
      rintro e w2 ⟨rfl, hbw2⟩
      rw [← HD.out]
      have Bw2 := Below.trans (show Below w1.heap.size w1 _ by exact (by repeat (first | (refine Below.setCell ?_ ?_ _; rotate_left; · (first | omega | (simp; done) | (simp; omega) | fail)) | (refine Below.alloc ?_ ?_ _; rotate_left; · (first | omega | (simp; done) | (simp; omega) | fail)) | refine Below.drew ?_ | exact Bw1 | fail))) (hbw2.mono (by have := Bw1.size; simp; try omega))
      have hzw2 := Bw2.size
      have s0 := (Bw2.cell (p := ⟨g, 0, none⟩) hg).trans x0
      have s1 := (Bw2.cell (p := ⟨g, 1, none⟩) hg).trans x1
      go_wp2_with fail
      refine hK.out _ _ ?_ (fun hNew => ?_)
      · exact ⟨s0, s1⟩
      clear s0 s1
      clear hK K hHeld
      have hHeld := hNew
      clear hNew
      (try simp only [Act.put, List.setIfInBounds_toArray, List.set_cons_zero, List.set_cons_succ])
      have AC2 := blk_later hbw2 (show (w1.drew.alloc (.cells #[.int .i64 0, .int .i64 0, .int .i64 0] 44)).heap[w1.heap.size]? = some (.cells #[.int .i64 0, .int .i64 0, .int .i64 0] 44) from (by repeat (first | exact heap_alloc_at _ _ _ (by (first | omega | (simp; done) | (simp; omega) | fail)) | (refine (heap_alloc_past _ _ _ ?_).trans ?_; · (first | omega | (simp; done) | (simp; omega) | fail)) | fail)))
      refine wpAnyH_ready (rs := [7]) (by kernel_rfl) (by simp) ?_
      refine AllReadyH.cons rfl (fun K hK => ?_) AllReadyH.nil
      go_simp
      refine (refDecimal_any v _ HV.out).mono ?_
      rintro e w3 ⟨rfl, hbw3⟩
      rw [← HE.out]
      have Bw3 := Below.trans (show Below w1.heap.size w1 _ by exact (by repeat (first | (refine Below.setCell ?_ ?_ _; rotate_left; · (first | omega | (simp; done) | (simp; omega) | fail)) | (refine Below.alloc ?_ ?_ _; rotate_left; · (first | omega | (simp; done) | (simp; omega) | fail)) | refine Below.drew ?_ | exact Bw2 | fail))) (hbw3.mono (by have := Bw2.size; simp; try omega))
      have hzw3 := Bw3.size
      have s0 := (Bw3.cell (p := ⟨g, 0, none⟩) hg).trans x0
      have s1 := (Bw3.cell (p := ⟨g, 1, none⟩) hg).trans x1
      go_wp2_with fail
      refine hK.out _ _ ?_ (fun hNew => ?_)
      · exact ⟨s0, s1⟩
      clear s0 s1
      clear hK K hHeld
      have hHeld := hNew
      clear hNew
      (try simp only [Act.put, List.setIfInBounds_toArray, List.set_cons_zero, List.set_cons_succ])
      have AC := blk_later hbw3 AC2
      have hA : w1.heap.size ≤ w1.heap.size := Nat.le_refl _
      refine wpAnyH_take (i := 8) (v := ?_) rfl (by kernel_rfl) (by kernel_rfl) (by kernel_rfl) (fun _ _ _ h => h) (Or.inl ⟨by rfl, ?_⟩) (by assumption) ?_
      rotate_left
      · (intro w hSw; (try dsimp only at hSw); go_simp; (try with_reducible rfl))
      (try simp only [Act.put, List.setIfInBounds_toArray, List.set_cons_zero, List.set_cons_succ])
      refine wpAnyH_ready (rs := [10]) (by kernel_rfl) (by simp) ?_
      refine AllReadyH.cons rfl (fun K hK => ?_) AllReadyH.nil
      have b0 := blk_cell AC 0; have b1 := blk_cell AC 1; have b2 := blk_cell AC 2
      have p0 := blk_free AC 0; have p1 := blk_free AC 1; have p2 := blk_free AC 2
      have hgA : w1.heap.size ≠ g := by omega
      go_simp
      refine hK.out _ _ ?_ (fun hNew => ?_)
      · exact ⟨cell_set3 ((Bw3.cell (p := ⟨g, 0, none⟩) hg).trans x0) hgA, cell_set3 ((Bw3.cell (p := ⟨g, 1, none⟩) hg).trans x1) hgA⟩
      clear hK K hHeld
      have hHeld := hNew
      clear hNew
      (try simp only [Act.put, List.setIfInBounds_toArray, List.set_cons_zero, List.set_cons_succ])
      refine wpAnyH_done (by kernel_rfl) ?_ _
      clear b0 b1 b2 p0 p1 p2
      obtain ⟨W, hW⟩ : ∃ W, W = ((w3.setCell ⟨w1.heap.size, 0, none⟩ (.int .i64 3)).setCell ⟨w1.heap.size, 1, none⟩ (.int .i64 D)).setCell ⟨w1.heap.size, 2, none⟩ (.int .i64 E) := ⟨_, rfl⟩
      have hbx : W.heap[w1.heap.size]? = some (.cells #[.int .i64 3, .int .i64 D, .int .i64 E] 44) := by rw [hW]; exact blk_set (blk_set (blk_set AC 0 _) 1 _) 2 _
      have hrs : W.heap[w.heap.size]? = some (.cells #[.int .i64 0, .int .i64 0, .int .i64 0] 44) := by
        rw [hW]
        exact (heap_setCell_past _ _ _ _ (by simp only; omega)).trans ((heap_setCell_past _ _ _ _ (by simp only; omega)).trans ((heap_setCell_past _ _ _ _ (by simp only; omega)).trans (blk_later Bw3 H0.out)))
      have hAw : w.heap.size ≤ w1.heap.size := by omega
      have HBW := Lib.hid (show Below w.heap.size w W by rw [hW]; exact (((HB1.out.trans (Bw3.mono HB1.out.size)).setCell hAw _).setCell hAw _).setCell hAw _)
      rw [← hW]
      clear hW hHeld x0 x1 Bw1 Bw2 Bw3 hbw2 hbw3 AC hgA
      have hne : w.heap.size ≠ w1.heap.size := by omega
      have b0 := blk_cell hbx 0; have b1 := blk_cell hbx 1; have b2 := blk_cell hbx 2
      have p0 := blk_free hbx 0; have p1 := blk_free hbx 1; have p2 := blk_free hbx 2
      have a0 := blk_cell hrs 0; have a1 := blk_cell hrs 1; have a2 := blk_cell hrs 2
      have f0 := blk_free hrs 0; have f1 := blk_free hrs 1; have f2 := blk_free hrs 2
      have HRS := Lib.hid hrs
      clear hbx hrs
      by_cases hD : 0 ≤ D
      · have e1 : decide (0 ≤ D) = true := decide_eq_true hD
        go_wp2_with fail
        go_region
        go_wp2_with fail
        have hset := blk_drew (blk_set (blk_set (blk_set HRS.out 0 (.int .i64 3)) 1 (.int .i64 D)) 2 (.int .i64 E))
        have z0 := blk_cell hset 0
        have z1 := blk_cell hset 1
        have z2 := blk_cell hset 2
        clear hset a0 a1 a2 f0 f1 f2 b0 b1 b2 p0 p1 p2
        exact bodyPost_ret (v := .tuple #[.agg #[.int .i64 3, .int .i64 D, .int .i64 E], .bool (decide (0 ≤ E))]) (by simp [results, Tryz.results69, go_sem, z0, z1, z2]) rfl ⟨⟨3, D, E, _, rfl, by rw [HCF.out, e1, Bool.true_and]⟩, (((HBW.out.setCell (by simp) _).setCell (by simp) _).setCell (by simp) _).drew⟩
      · have e1 : decide (0 ≤ D) = false := decide_eq_false hD
        go_wp2_with fail
        go_region
        go_wp2_with fail
        have hset := blk_drew (blk_set (blk_set (blk_set HRS.out 0 (.int .i64 3)) 1 (.int .i64 D)) 2 (.int .i64 E))
        have z0 := blk_cell hset 0
        have z1 := blk_cell hset 1
        have z2 := blk_cell hset 2
        clear hset a0 a1 a2 f0 f1 f2 b0 b1 b2 p0 p1 p2
        exact bodyPost_ret (v := .tuple #[.agg #[.int .i64 3, .int .i64 D, .int .i64 E], .bool false]) (by simp [results, Tryz.results69, go_sem, z0, z1, z2]) rfl ⟨⟨3, D, E, _, rfl, by rw [HCF.out, e1]; rfl⟩, (((HBW.out.setCell (by simp) _).setCell (by simp) _).setCell (by simp) _).drew⟩
    · have HCF2 : Hid (changedF s = none) := Lib.hid (by rw [HCF.out]; exact hno h2)
      obtain ⟨n, hn⟩ : ∃ n, n = ps.length := ⟨_, rfl⟩
      rw [← hn] at h2 ⊢
      have e2 : ((n : Int) != 2) = true := by simp; omega
      have a0 := blk_cell H0.out 0; have a1 := blk_cell H0.out 1; have a2 := blk_cell H0.out 2
      have f0 := blk_free H0.out 0; have f1 := blk_free H0.out 1; have f2 := blk_free H0.out 2
      clear HC HCL HTW hno h2 hn hne
      go_wp2_with fail
      have hset := blk_set (blk_set (blk_set H0.out 0 (.int .i64 0)) 1 (.int .i64 0)) 2 (.int .i64 0)
      have z0 := blk_cell hset 0
      have z1 := blk_cell hset 1
      have z2 := blk_cell hset 2
      clear hset a0 a1 a2 f0 f1 f2
      exact bodyPost_ret (v := .tuple #[.agg #[.int .i64 0, .int .i64 0, .int .i64 0], .bool false]) (by simp [results, Tryz.results69, go_sem, z0, z1, z2]) rfl ⟨⟨0, 0, 0, _, rfl, by rw [HCF2.out]; rfl⟩, ((HB1.out.setCell (by simp) _).setCell (by simp) _).setCell (by simp) _⟩
theorem refChanged_any (s : Bs) (w : World) (hs : s.length ≤ 1048576) :
    Calls Tryz.prog 69 #[S s] w fun e w' => ChgR s e ∧ Below w.heap.size w w' := by
  by_cases h : ∃ c d t, s = c :: d :: t ∧ (c = 45 ∨ c = 61)
  · obtain ⟨c, d, t, h1, h2⟩ := h
    exact refChanged_sign s w hs c d t h1 h2
  · exact refChanged_plus s w hs h
end Go.Proofs.YtlfglbnbenaghaaGreatDoor
