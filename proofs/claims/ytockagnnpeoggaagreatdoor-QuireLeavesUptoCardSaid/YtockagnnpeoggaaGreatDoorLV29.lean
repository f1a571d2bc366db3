/- The parts Cm of the proof, joined. It holds without conditions of its own. -/
import Derived.Test.YtockagnnpeoggaaGreatDoorLV28
import Derived.Test.YtockagnnpeoggaaGreatDoorLV14
/- The reference's list of all leaves: it is lvs. -/
namespace Go.Proofs.YtockagnnpeoggaaGreatDoor
set_option linter.unusedSimpArgs false
set_option linter.unusedVariables false
open Go Go.RowKit Go.Sort Go.BigFrame Go.Shelf

theorem cells_at (W : World) (l : List Value) (t : TypeId) (n : Nat) (hn : n = W.heap.size) : ∀ j u, l[j]? = some u → (W.alloc (.cells l.toArray t)).cell? ((⟨n, 0, none⟩ : Addr).add j) = some u := by
  subst hn
  intro j u h
  rw [add_off']
  unfold World.cell?
  rw [World.alloc_heap_new]
  simpa using h

set_option maxRecDepth 100000 in
set_option maxHeartbeats 3200000 in
theorem refAll_any (b : Bk) (v : Value) (w : World) (hb : BookAt w.heap.size w v b) (hok : BOk b) :
    Calls Tryz.prog 48 #[v] w fun e w' => (∃ v', e = .returned v' ∧ w'.ownsRow (w.heap.size + 1) 68 4 v' (lvs b).length (lfCells (lvs b))) ∧ Below w.heap.size w w' := by
  obtain ⟨sv, rfl, hgs⟩ := hb
  have hgs' := hgs
  obtain ⟨a, cap, rfl, -⟩ := hgs'
  have HOK := Lib.hid hok
  have hlen := hok.len
  have HA : Hid (Al w (w.alloc (.cells #[.int .i64 b.signed, .slice a b.gs.length cap] 24)) b a cap (.slice none 0 0) []) := Lib.hid ⟨World.alloc_heap_new _ _, hgs.below ((Below.refl _ w).alloc (Nat.le_refl _) _) (Nat.le_refl _), World.ownsRow_nil _ _ _ _, (Below.refl _ w).alloc (Nat.le_refl _) _⟩
  have HGS := Lib.hid hgs
  clear hgs hok
  obtain ⟨ei, hi1, hi2, hi3, hi4⟩ := elemLf
  have HI := Lib.hid (And.intro hi1 (And.intro hi2 (And.intro hi3 hi4)))
  clear hi1 hi2 hi3 hi4
  go_enter Tryz.func48, Tryz.ntmps48
  go_wp2_with fail
  go_loopg [3, 4] b.gs.length (fun g v i wr => ∃ (k : Nat), k + g = b.gs.length ∧ i = .int .i64 k ∧ Hid (Al w wr b a cap v (lvsFrom 0 (b.gs.take k))))
  case atStart => exact ⟨0, by omega, rfl, HA⟩
  case round =>
    clear HA
    obtain ⟨k, hk, rfl, HA⟩ := hrel
    have c0 := blk_cell HA.out.box 0; have c1 := blk_cell HA.out.box 1
    cases gk with
    | succ g =>
      have hlt : k < b.gs.length := by omega
      obtain ⟨x, hx⟩ : ∃ x, b.gs[k]? = some x := ⟨_, List.getElem?_eq_getElem hlt⟩
      obtain ⟨bb, off, rfl, hbb, ca, ccap, hch, g0, g1, g2, g3⟩ := HGS.out.get hx
      have hcl : ∀ i u, w.cell? ⟨bb, i, none⟩ = some u → wr.cell? ⟨bb, i, none⟩ = some u := fun i u h => (HA.out.below.cell (p := ⟨bb, i, none⟩) hbb).trans h
      have g0 := hcl _ _ g0
      have g1 := hcl _ _ g1
      have g2 := hcl _ _ g2
      have g3 := hcl _ _ g3
      have HCH := Lib.hid hch
      clear hcl hch
      have HX := Lib.hid hx
      have HGK := Lib.hid (HOK.out.gs x (List.mem_of_getElem? hx))
      have hl1 := HGK.out.leaves
      have hfew := HGK.out.few
      obtain ⟨Lv, hLv⟩ : ∃ Lv : Nat, x.leaves = Lv := ⟨x.leaves.toNat, by omega⟩
      have HLv := Lib.hid hLv
      have hLv12 : Lv ≤ 12 := by omega
      clear hLv
      have d1 : ((k : Int) < b.gs.length) := by omega
      clear hx
      go_wp2_with fail
      have hba : Below wr.heap.size wr (wr.alloc (.cells #[.int .i64 x.round, .int .i64 x.letter, .int .i64 x.leaves, .slice ca x.chs.length ccap] 57)) := (Below.refl _ wr).alloc (Nat.le_refl _) _
      have HGB : Hid ((wr.alloc (.cells #[.int .i64 x.round, .int .i64 x.letter, .int .i64 x.leaves, .slice ca x.chs.length ccap] 57)).heap[wr.heap.size]? = some (.cells #[.int .i64 x.round, .int .i64 x.letter, .int .i64 x.leaves, .slice ca x.chs.length ccap] 57)) := Lib.hid (World.alloc_heap_new _ _)
      have HA := Lib.hid (HA.out.later hba)
      clear hba c0 c1 g0 g1 g2 g3 hbb
      revert HGB HA
      generalize (wr.alloc (.cells #[.int .i64 x.round, .int .i64 x.letter, .int .i64 x.leaves, .slice ca x.chs.length ccap] 57)) = w3
      generalize wr.heap.size = X
      intro HGB HA
      obtain ⟨B0, hB0⟩ : ∃ B0, B0 = lvsFrom 0 (b.gs.take k) := ⟨_, rfl⟩
      rw [← hB0] at HA
      have HB0 := Lib.hid hB0
      clear hB0
      go_loopg [3, 6] (Lv + 1) (fun g2 v j wy => ∃ (n : Nat), n + g2 = Lv + 1 ∧ j = .int .i64 n ∧ Hid (Al w wy b (some ⟨bb, off, none⟩) cap v (B0 ++ uptoG k x n)) ∧ Hid (wy.heap[X]? = some (.cells #[.int .i64 x.round, .int .i64 x.letter, .int .i64 x.leaves, .slice ca x.chs.length ccap] 57)))
      case atStart => exact ⟨0, by omega, rfl, (by have h := HA.out; show Al _ _ _ _ _ _ _; simpa [uptoG] using h), HGB⟩
      case round =>
        clear HA HGB
        obtain ⟨n, hn, rfl, HA, HGB⟩ := hrel
        have p0 := blk_cell HGB.out 0; have p1 := blk_cell HGB.out 1; have p2 := blk_cell HGB.out 2; have p3 := blk_cell HGB.out 3
        cases gk with
        | succ g2 =>
          have hnl : n ≤ Lv := by omega
          have e1 : decide ((n : Int) ≤ x.leaves) = true := decide_eq_true (by have := HLv.out; omega)
          have hB0l : B0.length ≤ 1950 := by
            have h1 := lvs_few HOK.out
            obtain ⟨rest, h2⟩ := lvs_split HX.out
            have h3 : (lvs b).length = (lvsFrom 0 b.gs).length := rfl
            rw [h2, List.length_append, ← HB0.out] at h3
            omega
          have hup : (uptoG k x n).length ≤ 13 * 5 := by
            unfold uptoG
            refine Nat.le_trans (flatMap_len (n := 5) fun j _ => ?_) (by rw [List.length_range]; omega)
            have := lvsNum_len (i := k) (k := j) (f := fateF x.chs j)
            have := fate_added (cs := x.chs) (num := j) fun c hc => ⟨(HGK.out.ch hc).2.2.2.1, (HGK.out.ch hc).2.2.2.2⟩
            omega
          have hpl := plus_is x.chs n (chs_facts HGK.out).1 (fun c hc => (HGK.out.ch hc).1)
          have HPL := Lib.hid hpl
          have hfa := fate_added (cs := x.chs) (num := n) fun c hc => ⟨(HGK.out.ch hc).2.2.2.1, (HGK.out.ch hc).2.2.2.2⟩
          obtain ⟨F, hF⟩ : ∃ F, F = fateF x.chs n := ⟨_, rfl⟩
          rw [← hF] at HPL hfa
          have HF := Lib.hid hF
          clear hpl hF
          go_wp2_with fail
          refine (refPlus_any x ca _ ccap n _ ((HCH.out.below HA.out.below (Nat.le_refl _)).mono HA.out.below.size) (by omega)).mono ?_
          rintro e w4 ⟨rfl, hb4⟩
          rw [HPL.out]
          have HA := Lib.hid (HA.out.later hb4)
          have HGB := Lib.hid (blk_later hb4 HGB.out)
          clear hb4 p0 p1 p2 p3
          obtain ⟨A, hA⟩ : ∃ A : Nat, F.added = A := ⟨F.added.toNat, by omega⟩
          have HAD := Lib.hid hA
          rw [hA]
          have hA4 : A ≤ 4 := by omega
          clear hA hfa
          dsimp only
          by_cases hown : 0 < n ∧ F.gone = false
          · obtain ⟨hn0, hg⟩ := hown
            have e2 : decide ((0 : Int) < (n : Int)) = true := decide_eq_true (by omega)
            have e2' : decide (0 < n) = true := decide_eq_true hn0
            have HU0 : Hid (uptoG k x (n + 1) = uptoG k x n ++ ([(⟨k, n, 0, if F.swapped then 1 else 0⟩ : Lf)] ++ (List.range A).map (putL k n))) := Lib.hid (by
              rw [uptoG_succ, ← HF.out]
              unfold lvsNum
              rw [if_pos ⟨hn0, hg⟩, HAD.out]
              rfl)
            cases hsw : F.swapped with
            | true =>
              have HU : Hid (uptoG k x (n + 1) = uptoG k x n ++ ([(⟨k, n, 0, 1⟩ : Lf)] ++ (List.range A).map (putL k n))) := Lib.hid (by
                have h := HU0.out
                rw [hsw] at h
                exact h)
              have e3 : fateK F = 2 := by unfold fateK; rw [hg, hsw]; rfl
              rw [e3]
              clear hn0 hg hsw e3 HU0
              have hz9 := blk_lt HA.out.box
              obtain ⟨xs1, hxs1⟩ : ∃ xs1, xs1 = B0 ++ uptoG k x n := ⟨_, rfl⟩
              have hxl : xs1.length ≤ 3000 := by
                rw [hxs1, List.length_append]
                omega
              rw [← hxs1] at HA
              have HXS := Lib.hid hxs1
              obtain ⟨hi1, hi2, hi3, hi4⟩ := HI.out
              clear hxs1
              go_wp2_with (at_builtin; refine wpList_append_own _ rfl _ _ 35 rfl (w.heap.size + 1) 68 ei _ 4 32 undLf hi1 hi2 hi3 hi4 rfl (by decide) _ xs1.length (lfCells xs1) rfl ((HA.out.row.alloc _).alloc _) ⟨w4.heap.size + 1, 0, none⟩ 1 1 [.int .i64 k, .int .i64 n, .int .i64 0, .int .i64 1] rfl rfl ?c1 ?c2 ?c3 ?c4 ?c5 ?c6)
              case c1 => exact cells_at _ [.int .i64 k, .int .i64 n, .int .i64 0, .int .i64 1] _ _ (by simp)
              case c2 => intro u hu; simp at hu; rcases hu with rfl | rfl | rfl | rfl <;> rfl
              case c3 => simp only [maxLen]; omega
              case c4 => omega
              case c5 => simp; omega
              case c6 =>
                rintro v' w' hown hgrow -
                have hba9 : Below w4.heap.size w4 ((w4.alloc (.cells #[.int .i64 k, .int .i64 n, .int .i64 0, .int .i64 1] 68)).alloc (.cells #[.int .i64 k, .int .i64 n, .int .i64 0, .int .i64 1] 68)) := ((Below.refl _ w4).alloc (Nat.le_refl _) _).alloc (by simp) _
                have HA1 := HA.out.later hba9
                have HA2 := Lib.hid (HA1.add (x := (⟨k, n, 0, 1⟩ : Lf)) hown hgrow)
                have HGB := Lib.hid (grown_block HA1.row hgrow (blk_later hba9 HGB.out) ty_ne2)
                rw [HXS.out] at HA2
                have HA := HA2
                clear hown hgrow hba9 HA1 HA2
                go_wp2_with fail
                go_loopg [3, 10] A (fun g3 v q wz => ∃ (m : Nat), m + g3 = A ∧ q = .int .i64 ((m : Int) + 1) ∧ Hid (Al w wz b (some ⟨bb, off, none⟩) cap v ((B0 ++ uptoG k x n ++ [(⟨k, n, 0, 1⟩ : Lf)]) ++ (List.range m).map (putL k n))) ∧ Hid (wz.heap[X]? = some (.cells #[.int .i64 x.round, .int .i64 x.letter, .int .i64 x.leaves, .slice ca x.chs.length ccap] 57)))
                case atStart => exact ⟨0, by omega, rfl, (by have h := HA.out; show Al _ _ _ _ _ _ _; simpa using h), HGB⟩
                case round =>
                  clear HA HGB
                  obtain ⟨m, hm, rfl, HA, HGB⟩ := hrel
                  cases gk with
                  | succ g3 =>
                    have hmA : m < A := by omega
                    have f1 : decide (((m : Int) + 1) ≤ (A : Int)) = true := decide_eq_true (by omega)
                    obtain ⟨xs1, hxs1⟩ : ∃ xs1, xs1 = (B0 ++ uptoG k x n ++ [(⟨k, n, 0, 1⟩ : Lf)]) ++ (List.range m).map (putL k n) := ⟨_, rfl⟩
                    have hxl : xs1.length ≤ 3000 := by
                      rw [hxs1]
                      simp only [List.length_append, List.length_map, List.length_range, List.length_cons, List.length_nil]
                      omega
                    rw [← hxs1] at HA
                    have HXS := Lib.hid hxs1
                    obtain ⟨hi1, hi2, hi3, hi4⟩ := HI.out
                    have hz9 := blk_lt HA.out.box
                    clear hxs1
                    go_wp2_with (at_builtin; refine wpList_append_own _ rfl _ _ 35 rfl (w.heap.size + 1) 68 ei _ 4 32 undLf hi1 hi2 hi3 hi4 rfl (by decide) _ xs1.length (lfCells xs1) rfl (HA.out.row.alloc _) ⟨wr.heap.size, 0, none⟩ 1 1 [.int .i64 k, .int .i64 n, .int .i64 ((m : Int) + 1), .int .i64 2] rfl rfl ?c1 ?c2 ?c3 ?c4 ?c5 ?c6)
                    case c1 =>
                      intro j u h
                      rw [add_off']
                      unfold World.cell?
                      rw [World.alloc_heap_new]
                      simpa using h
                    case c2 => intro u hu; simp at hu; rcases hu with rfl | rfl | rfl | rfl <;> rfl
                    case c3 => simp only [maxLen]; omega
                    case c4 => omega
                    case c5 => simp; omega
                    case c6 =>
                      rintro v' w' hown hgrow -
                      have hba9 : Below wr.heap.size wr (wr.alloc (.cells #[.int .i64 k, .int .i64 n, .int .i64 ((m : Int) + 1), .int .i64 2] 68)) := (Below.refl _ wr).alloc (Nat.le_refl _) _
                      have HA1 := HA.out.later hba9
                      have HA2 := Lib.hid (HA1.add (x := putL k n m) hown hgrow)
                      have HGB2 := Lib.hid (grown_block HA1.row hgrow (blk_later hba9 HGB.out) ty_ne2)
                      have HL2 : Hid (xs1 ++ [putL k n m] = (B0 ++ uptoG k x n ++ [(⟨k, n, 0, 1⟩ : Lf)]) ++ (List.range (m + 1)).map (putL k n)) := Lib.hid (by
                        rw [HXS.out, List.range_succ, List.map_append, List.append_assoc]
                        rfl)
                      rw [HL2.out] at HA2
                      clear hown hgrow
                      go_wp2_with fail
                      go_roundg g3
                      case measure => omega
                      case rel => exact ⟨m + 1, by omega, by go_num, HA2, HGB2⟩
                  | zero =>
                    have hmA : m = A := by omega
                    have f1 : decide (((m : Int) + 1) ≤ (A : Int)) = false := decide_eq_false (by omega)
                    subst hmA
                    rw [List.append_assoc, List.append_assoc, ← HU.out] at HA
                    go_wp2_with fail
                    go_roundg g2
                    case measure => omega
                    case rel => exact ⟨n + 1, by omega, by go_num, HA, HGB⟩
            | false =>
              have HU : Hid (uptoG k x (n + 1) = uptoG k x n ++ ([(⟨k, n, 0, 0⟩ : Lf)] ++ (List.range A).map (putL k n))) := Lib.hid (by
                have h := HU0.out
                rw [hsw] at h
                exact h)
              have e3 : fateK F = 0 := by unfold fateK; rw [hg, hsw]; rfl
              rw [e3]
              clear hn0 hg hsw e3 HU0
              have hz9 := blk_lt HA.out.box
              obtain ⟨xs1, hxs1⟩ : ∃ xs1, xs1 = B0 ++ uptoG k x n := ⟨_, rfl⟩
              have hxl : xs1.length ≤ 3000 := by
                rw [hxs1, List.length_append]
                omega
              rw [← hxs1] at HA
              have HXS := Lib.hid hxs1
              obtain ⟨hi1, hi2, hi3, hi4⟩ := HI.out
              clear hxs1
              go_wp2_with (at_builtin; refine wpList_append_own _ rfl _ _ 35 rfl (w.heap.size + 1) 68 ei _ 4 32 undLf hi1 hi2 hi3 hi4 rfl (by decide) _ xs1.length (lfCells xs1) rfl ((HA.out.row.alloc _).alloc _) ⟨w4.heap.size + 1, 0, none⟩ 1 1 [.int .i64 k, .int .i64 n, .int .i64 0, .int .i64 0] rfl rfl ?c1 ?c2 ?c3 ?c4 ?c5 ?c6)
              case c1 => exact cells_at _ [.int .i64 k, .int .i64 n, .int .i64 0, .int .i64 0] _ _ (by simp)
              case c2 => intro u hu; simp at hu; rcases hu with rfl | rfl | rfl | rfl <;> rfl
              case c3 => simp only [maxLen]; omega
              case c4 => omega
              case c5 => simp; omega
              case c6 =>
                rintro v' w' hown hgrow -
                have hba9 : Below w4.heap.size w4 ((w4.alloc (.cells #[.int .i64 k, .int .i64 n, .int .i64 0, .int .i64 0] 68)).alloc (.cells #[.int .i64 k, .int .i64 n, .int .i64 0, .int .i64 0] 68)) := ((Below.refl _ w4).alloc (Nat.le_refl _) _).alloc (by simp) _
                have HA1 := HA.out.later hba9
                have HA2 := Lib.hid (HA1.add (x := (⟨k, n, 0, 0⟩ : Lf)) hown hgrow)
                have HGB := Lib.hid (grown_block HA1.row hgrow (blk_later hba9 HGB.out) ty_ne2)
                rw [HXS.out] at HA2
                have HA := HA2
                clear hown hgrow hba9 HA1 HA2
                go_wp2_with fail
                go_loopg [3, 10] A (fun g3 v q wz => ∃ (m : Nat), m + g3 = A ∧ q = .int .i64 ((m : Int) + 1) ∧ Hid (Al w wz b (some ⟨bb, off, none⟩) cap v ((B0 ++ uptoG k x n ++ [(⟨k, n, 0, 0⟩ : Lf)]) ++ (List.range m).map (putL k n))) ∧ Hid (wz.heap[X]? = some (.cells #[.int .i64 x.round, .int .i64 x.letter, .int .i64 x.leaves, .slice ca x.chs.length ccap] 57)))
                case atStart => exact ⟨0, by omega, rfl, (by have h := HA.out; show Al _ _ _ _ _ _ _; simpa using h), HGB⟩
                case round =>
                  clear HA HGB
                  obtain ⟨m, hm, rfl, HA, HGB⟩ := hrel
                  cases gk with
                  | succ g3 =>
                    have hmA : m < A := by omega
                    have f1 : decide (((m : Int) + 1) ≤ (A : Int)) = true := decide_eq_true (by omega)
                    obtain ⟨xs1, hxs1⟩ : ∃ xs1, xs1 = (B0 ++ uptoG k x n ++ [(⟨k, n, 0, 0⟩ : Lf)]) ++ (List.range m).map (putL k n) := ⟨_, rfl⟩
                    have hxl : xs1.length ≤ 3000 := by
                      rw [hxs1]
                      simp only [List.length_append, List.length_map, List.length_range, List.length_cons, List.length_nil]
                      omega
                    rw [← hxs1] at HA
                    have HXS := Lib.hid hxs1
                    obtain ⟨hi1, hi2, hi3, hi4⟩ := HI.out
                    have hz9 := blk_lt HA.out.box
                    clear hxs1
                    go_wp2_with (at_builtin; refine wpList_append_own _ rfl _ _ 35 rfl (w.heap.size + 1) 68 ei _ 4 32 undLf hi1 hi2 hi3 hi4 rfl (by decide) _ xs1.length (lfCells xs1) rfl (HA.out.row.alloc _) ⟨wr.heap.size, 0, none⟩ 1 1 [.int .i64 k, .int .i64 n, .int .i64 ((m : Int) + 1), .int .i64 2] rfl rfl ?c1 ?c2 ?c3 ?c4 ?c5 ?c6)
                    case c1 =>
                      intro j u h
                      rw [add_off']
                      unfold World.cell?
                      rw [World.alloc_heap_new]
                      simpa using h
                    case c2 => intro u hu; simp at hu; rcases hu with rfl | rfl | rfl | rfl <;> rfl
                    case c3 => simp only [maxLen]; omega
                    case c4 => omega
                    case c5 => simp; omega
                    case c6 =>
                      rintro v' w' hown hgrow -
                      have hba9 : Below wr.heap.size wr (wr.alloc (.cells #[.int .i64 k, .int .i64 n, .int .i64 ((m : Int) + 1), .int .i64 2] 68)) := (Below.refl _ wr).alloc (Nat.le_refl _) _
                      have HA1 := HA.out.later hba9
                      have HA2 := Lib.hid (HA1.add (x := putL k n m) hown hgrow)
                      have HGB2 := Lib.hid (grown_block HA1.row hgrow (blk_later hba9 HGB.out) ty_ne2)
                      have HL2 : Hid (xs1 ++ [putL k n m] = (B0 ++ uptoG k x n ++ [(⟨k, n, 0, 0⟩ : Lf)]) ++ (List.range (m + 1)).map (putL k n)) := Lib.hid (by
                        rw [HXS.out, List.range_succ, List.map_append, List.append_assoc]
                        rfl)
                      rw [HL2.out] at HA2
                      clear hown hgrow
                      go_wp2_with fail
                      go_roundg g3
                      case measure => omega
                      case rel => exact ⟨m + 1, by omega, by go_num, HA2, HGB2⟩
                  | zero =>
                    have hmA : m = A := by omega
                    have f1 : decide (((m : Int) + 1) ≤ (A : Int)) = false := decide_eq_false (by omega)
                    subst hmA
                    rw [List.append_assoc, List.append_assoc, ← HU.out] at HA
                    go_wp2_with fail
                    go_roundg g2
                    case measure => omega
                    case rel => exact ⟨n + 1, by omega, by go_num, HA, HGB⟩
          · have HU : Hid (uptoG k x (n + 1) = uptoG k x n ++ (List.range A).map (putL k n)) := Lib.hid (by
              rw [uptoG_succ, ← HF.out]
              unfold lvsNum
              rw [if_neg hown, HAD.out]
              rfl)
            have hq : (n = 0) ∨ (0 < n ∧ F.gone = true) := by
              by_cases h : n = 0
              · exact Or.inl h
              · refine Or.inr ⟨by omega, ?_⟩
                cases hg : F.gone with
                | true => rfl
                | false => exact absurd ⟨by omega, hg⟩ hown
            clear hown
            rcases hq with hn0 | ⟨hn0, hg⟩
            · have e2 : decide ((0 : Int) < (n : Int)) = false := decide_eq_false (by omega)
              have e2' : decide (0 < n) = false := decide_eq_false (by omega)
              clear hn0
              go_wp2_with fail
              go_loopg [3, 10] A (fun g3 v q wz => ∃ (m : Nat), m + g3 = A ∧ q = .int .i64 ((m : Int) + 1) ∧ Hid (Al w wz b (some ⟨bb, off, none⟩) cap v ((B0 ++ uptoG k x n) ++ (List.range m).map (putL k n))) ∧ Hid (wz.heap[X]? = some (.cells #[.int .i64 x.round, .int .i64 x.letter, .int .i64 x.leaves, .slice ca x.chs.length ccap] 57)))
              case atStart => exact ⟨0, by omega, rfl, (by have h := HA.out; show Al _ _ _ _ _ _ _; simpa using h), HGB⟩
              case round =>
                clear HA HGB
                obtain ⟨m, hm, rfl, HA, HGB⟩ := hrel
                cases gk with
                | succ g3 =>
                  have hmA : m < A := by omega
                  have f1 : decide (((m : Int) + 1) ≤ (A : Int)) = true := decide_eq_true (by omega)
                  obtain ⟨xs1, hxs1⟩ : ∃ xs1, xs1 = (B0 ++ uptoG k x n) ++ (List.range m).map (putL k n) := ⟨_, rfl⟩
                  have hxl : xs1.length ≤ 3000 := by
                    rw [hxs1]
                    simp only [List.length_append, List.length_map, List.length_range, List.length_cons, List.length_nil]
                    omega
                  rw [← hxs1] at HA
                  have HXS := Lib.hid hxs1
                  obtain ⟨hi1, hi2, hi3, hi4⟩ := HI.out
                  have hz9 := blk_lt HA.out.box
                  clear hxs1
                  go_wp2_with (at_builtin; refine wpList_append_own _ rfl _ _ 35 rfl (w.heap.size + 1) 68 ei _ 4 32 undLf hi1 hi2 hi3 hi4 rfl (by decide) _ xs1.length (lfCells xs1) rfl (HA.out.row.alloc _) ⟨wr.heap.size, 0, none⟩ 1 1 [.int .i64 k, .int .i64 n, .int .i64 ((m : Int) + 1), .int .i64 2] rfl rfl ?c1 ?c2 ?c3 ?c4 ?c5 ?c6)
                  case c1 =>
                    intro j u h
                    rw [add_off']
                    unfold World.cell?
                    rw [World.alloc_heap_new]
                    simpa using h
                  case c2 => intro u hu; simp at hu; rcases hu with rfl | rfl | rfl | rfl <;> rfl
                  case c3 => simp only [maxLen]; omega
                  case c4 => omega
                  case c5 => simp; omega
                  case c6 =>
                    rintro v' w' hown hgrow -
                    have hba9 : Below wr.heap.size wr (wr.alloc (.cells #[.int .i64 k, .int .i64 n, .int .i64 ((m : Int) + 1), .int .i64 2] 68)) := (Below.refl _ wr).alloc (Nat.le_refl _) _
                    have HA1 := HA.out.later hba9
                    have HA2 := Lib.hid (HA1.add (x := putL k n m) hown hgrow)
                    have HGB2 := Lib.hid (grown_block HA1.row hgrow (blk_later hba9 HGB.out) ty_ne2)
                    have HL2 : Hid (xs1 ++ [putL k n m] = (B0 ++ uptoG k x n) ++ (List.range (m + 1)).map (putL k n)) := Lib.hid (by
                      rw [HXS.out, List.range_succ, List.map_append, List.append_assoc]
                      rfl)
                    rw [HL2.out] at HA2
                    clear hown hgrow
                    go_wp2_with fail
                    go_roundg g3
                    case measure => omega
                    case rel => exact ⟨m + 1, by omega, by go_num, HA2, HGB2⟩
                | zero =>
                  have hmA : m = A := by omega
                  have f1 : decide (((m : Int) + 1) ≤ (A : Int)) = false := decide_eq_false (by omega)
                  subst hmA
                  rw [List.append_assoc, ← HU.out] at HA
                  go_wp2_with fail
                  go_roundg g2
                  case measure => omega
                  case rel => exact ⟨n + 1, by omega, by go_num, HA, HGB⟩
            · have e2 : decide ((0 : Int) < (n : Int)) = true := decide_eq_true (by omega)
              have e3 : fateK F = 1 := by unfold fateK; rw [hg]; rfl
              have e2' : decide (0 < n) = true := decide_eq_true hn0
              rw [e3]
              clear hn0 hg e3
              go_wp2_with fail
              go_loopg [3, 10] A (fun g3 v q wz => ∃ (m : Nat), m + g3 = A ∧ q = .int .i64 ((m : Int) + 1) ∧ Hid (Al w wz b (some ⟨bb, off, none⟩) cap v ((B0 ++ uptoG k x n) ++ (List.range m).map (putL k n))) ∧ Hid (wz.heap[X]? = some (.cells #[.int .i64 x.round, .int .i64 x.letter, .int .i64 x.leaves, .slice ca x.chs.length ccap] 57)))
              case atStart => exact ⟨0, by omega, rfl, (by have h := HA.out; show Al _ _ _ _ _ _ _; simpa using h), HGB⟩
              case round =>
                clear HA HGB
                obtain ⟨m, hm, rfl, HA, HGB⟩ := hrel
                cases gk with
                | succ g3 =>
                  have hmA : m < A := by omega
                  have f1 : decide (((m : Int) + 1) ≤ (A : Int)) = true := decide_eq_true (by omega)
                  obtain ⟨xs1, hxs1⟩ : ∃ xs1, xs1 = (B0 ++ uptoG k x n) ++ (List.range m).map (putL k n) := ⟨_, rfl⟩
                  have hxl : xs1.length ≤ 3000 := by
                    rw [hxs1]
                    simp only [List.length_append, List.length_map, List.length_range, List.length_cons, List.length_nil]
                    omega
                  rw [← hxs1] at HA
                  have HXS := Lib.hid hxs1
                  obtain ⟨hi1, hi2, hi3, hi4⟩ := HI.out
                  have hz9 := blk_lt HA.out.box
                  clear hxs1
                  go_wp2_with (at_builtin; refine wpList_append_own _ rfl _ _ 35 rfl (w.heap.size + 1) 68 ei _ 4 32 undLf hi1 hi2 hi3 hi4 rfl (by decide) _ xs1.length (lfCells xs1) rfl (HA.out.row.alloc _) ⟨wr.heap.size, 0, none⟩ 1 1 [.int .i64 k, .int .i64 n, .int .i64 ((m : Int) + 1), .int .i64 2] rfl rfl ?c1 ?c2 ?c3 ?c4 ?c5 ?c6)
                  case c1 =>
                    intro j u h
                    rw [add_off']
                    unfold World.cell?
                    rw [World.alloc_heap_new]
                    simpa using h
                  case c2 => intro u hu; simp at hu; rcases hu with rfl | rfl | rfl | rfl <;> rfl
                  case c3 => simp only [maxLen]; omega
                  case c4 => omega
                  case c5 => simp; omega
                  case c6 =>
                    rintro v' w' hown hgrow -
                    have hba9 : Below wr.heap.size wr (wr.alloc (.cells #[.int .i64 k, .int .i64 n, .int .i64 ((m : Int) + 1), .int .i64 2] 68)) := (Below.refl _ wr).alloc (Nat.le_refl _) _
                    have HA1 := HA.out.later hba9
                    have HA2 := Lib.hid (HA1.add (x := putL k n m) hown hgrow)
                    have HGB2 := Lib.hid (grown_block HA1.row hgrow (blk_later hba9 HGB.out) ty_ne2)
                    have HL2 : Hid (xs1 ++ [putL k n m] = (B0 ++ uptoG k x n) ++ (List.range (m + 1)).map (putL k n)) := Lib.hid (by
                      rw [HXS.out, List.range_succ, List.map_append, List.append_assoc]
                      rfl)
                    rw [HL2.out] at HA2
                    clear hown hgrow
                    go_wp2_with fail
                    go_roundg g3
                    case measure => omega
                    case rel => exact ⟨m + 1, by omega, by go_num, HA2, HGB2⟩
                | zero =>
                  have hmA : m = A := by omega
                  have f1 : decide (((m : Int) + 1) ≤ (A : Int)) = false := decide_eq_false (by omega)
                  subst hmA
                  rw [List.append_assoc, ← HU.out] at HA
                  go_wp2_with fail
                  go_roundg g2
                  case measure => omega
                  case rel => exact ⟨n + 1, by omega, by go_num, HA, HGB⟩
        | zero =>
          have e1 : decide ((n : Int) ≤ x.leaves) = false := decide_eq_false (by have := HLv.out; omega)
          have HV : Hid (B0 ++ uptoG k x n = lvsFrom 0 (b.gs.take (k + 1))) := Lib.hid (by
            rw [lvsFrom_take HX.out, ← HB0.out]
            have hn1 : n = (x.leaves + 1).toNat := by
              have := HLv.out
              omega
            rw [hn1]
            rfl)
          rw [HV.out] at HA
          go_wp2_with fail
          go_roundg g
          case measure => omega
          case rel => exact ⟨k + 1, by omega, by go_num, HA⟩
    | zero =>
      have hk0 : k = b.gs.length := by omega
      have HV : Hid (lvsFrom 0 (b.gs.take k) = lvs b) := Lib.hid (by rw [hk0, List.take_length]; rfl)
      have hk9 : ¬ k < b.gs.length := by omega
      clear hk hk0
      go_wp2_with fail
      go_ret
      refine ⟨⟨_, rfl, ?_⟩, HA.out.below⟩
      rw [← HV.out]
      exact HA.out.row
end Go.Proofs.YtockagnnpeoggaaGreatDoor
