/- The parts Tf, Tg, Th, Ap, Ip of the proof, joined. It holds without conditions of its own. -/
import Derived.Test.YtpdhdgdbknnllaaGreatDoorFX8
import Derived.Deep.RegionHeld3
import Derived.OwnWalkIn
import Derived.RangeFuncBox
import Derived.Test.YtpdhdgdbknnllaaGreatDoorFX3
import Derived.OwnWalk
set_option maxRecDepth 100000
set_option maxHeartbeats 20000000
namespace Go.Proofs.YtpdhdgdbknnllaaGreatDoor
section
set_option linter.unusedSimpArgs false
set_option linter.unusedVariables false
open Go Go.RowKit Go.Sort Go.BigFrame
theorem way_any (p : Prs) (m : Mkw) (vp : Value) (w : World) (hp : PrsAt w.heap.size w vp p) (he : errP p = 0) (hm : mkwErr p m = 0) :
  Calls Tryz.prog 59 #[vp, mkwV m] w fun e w' => (∃ f q lv g, p.fmts[m.fmt.toNat]? = some f /\ p.pprs[m.ppr.toNat]? = some q /\ e = .returned (.agg (wayC m f.folds (colsF (fdsB f.folds)) (rowsF (fdsB f.folds)) q p.trim lv)) /\ LeavesAt w' lv (leavesF (fdsB f.folds) m.sheets.toNat m.half) g /\ w.heap.size <= g) /\ Below w.heap.size w w' := by
 obtain ⟨⟨f1, f2⟩, ⟨f3, f4⟩, ⟨f5, f6⟩, hff⟩ := fine_press he
 obtain ⟨fv, pv, rfl, ⟨a, cap, rfl, hfc⟩, ⟨a2, cap2, rfl, hqc⟩, -⟩ := hp
 obtain ⟨fm, pp, sh, hf⟩ := m
 unfold mkwErr at hm
 dsimp only at hm ⊢
 have hm1 : (inI 0 (p.fmts.length - 1) fm && inI 0 (p.pprs.length - 1) pp) = true := by
  cases h : (inI 0 (p.fmts.length - 1) fm && inI 0 (p.pprs.length - 1) pp) with
  | true => rfl
  | false => rw [if_pos h] at hm; cases hm
 rw [if_neg (by rw [hm1]; decide)] at hm
 have hm2 : inI 1 p.sheets sh = true := by
  cases h : inI 1 p.sheets sh with
  | true => rfl
  | false => rw [if_pos h] at hm; cases hm
 rw [if_neg (by rw [hm2]; decide)] at hm
 simp only [inI, Bool.and_eq_true, decide_eq_true_eq] at hm1 hm2
 obtain ⟨i, rfl⟩ : ∃ i : Nat, fm = i := ⟨fm.toNat, by omega⟩
 obtain ⟨j, rfl⟩ : ∃ j : Nat, pp = j := ⟨pp.toNat, by omega⟩
 obtain ⟨f, hfx⟩ : ∃ f, p.fmts[i]? = some f := ⟨_, List.getElem?_eq_getElem (by omega)⟩
 obtain ⟨q, hqx⟩ : ∃ q, p.pprs[j]? = some q := ⟨_, List.getElem?_eq_getElem (by omega)⟩
 obtain ⟨g1, o1, rfl, hg1, hc1⟩ := hfc (fun h => by rw [h] at hfx; simp at hfx)
 obtain ⟨g2, o2, rfl, hg2, hc2⟩ := hqc (fun h => by rw [h] at hqx; simp at hqx)
 have hfd := fds_of_err (hff f (List.mem_of_getElem? hfx))
 have hhalf : hf = true -> sh = 1 /\ 2 <= f.folds.length := fun h => by
  subst h
  by_cases h3 : sh = 1
  · refine ⟨h3, Nat.lt_of_not_le fun h4 => ?_⟩
    rw [if_pos ⟨rfl, Or.inr fun f' hf' => by rw [Int.toNat_natCast, hfx] at hf'; cases hf'; omega⟩] at hm
    cases hm
  · rw [if_pos ⟨rfl, Or.inl h3⟩] at hm; cases hm
 have k1 : w.cell? ⟨g1, o1 + i * 2 + 1, none⟩ = some (S f.folds) := by have := hc1 i f hfx 1 _ rfl; simpa using this
 have q0 : w.cell? ⟨g2, o2 + j * 5, none⟩ = some (S q.name) := by have := hc2 j q hqx 0 _ rfl; simpa using this
 have q1 : w.cell? ⟨g2, o2 + j * 5 + 1, none⟩ = some (.int .i64 q.wlo) := by have := hc2 j q hqx 1 _ rfl; simpa using this
 have q2 : w.cell? ⟨g2, o2 + j * 5 + 2, none⟩ = some (.int .i64 q.whi) := by have := hc2 j q hqx 2 _ rfl; simpa using this
 have q3 : w.cell? ⟨g2, o2 + j * 5 + 3, none⟩ = some (.int .i64 q.hlo) := by have := hc2 j q hqx 3 _ rfl; simpa using this
 have q4 : w.cell? ⟨g2, o2 + j * 5 + 4, none⟩ = some (.int .i64 q.hhi) := by have := hc2 j q hqx 4 _ rfl; simpa using this
 obtain ⟨n1, hn1⟩ : ∃ n, n = p.fmts.length := ⟨_, rfl⟩
 obtain ⟨n2, hn2⟩ : ∃ n, n = p.pprs.length := ⟨_, rfl⟩
 rw [<- hn1] at hm1 f1 f2 ⊢
 rw [<- hn2] at hm1 f3 f4 ⊢
 have hi : i < n1 := by omega
 have hj : j < n2 := by omega
 have hs4 : 1 <= sh /\ sh <= 4 := by omega
 have HFX := Lib.hid hfx
 have HQX := Lib.hid hqx
 have HFD := Lib.hid hfd
 have HH := Lib.hid hhalf
 obtain ⟨mf, hmf⟩ : ∃ mf, mf = if hf then f.folds.drop 1 else f.folds := ⟨_, rfl⟩
 have HMF := Lib.hid hmf
 have hml : 1 <= (madeF (fdsB f.folds) hf).length /\ (madeF (fdsB f.folds) hf).length <= 4 := by
  cases hf with
  | false => show 1 <= (fdsB f.folds).length /\ (fdsB f.folds).length <= 4; unfold fdsB; rw [List.length_map]; omega
  | true => have := (hhalf rfl).2; show 1 <= ((fdsB f.folds).drop 1).length /\ ((fdsB f.folds).drop 1).length <= 4; unfold fdsB; rw [List.length_drop, List.length_map]; omega
 have HFo : Hid (∀ W, Calls Tryz.prog 92 #[S mf] W fun en W' => ∃ v g, en = .returned v /\ LeavesAt W' v (sheetF (madeF (fdsB f.folds) hf)) g /\ W.heap.size <= g /\ Below W.heap.size W W') := Lib.hid fun W => by
  have := folded_any hml.1 hml.2 W
  rwa [made_bytes hfd.2.2, <- hmf] at this
 have HGa : Hid (∀ (v0 : Value) (g : Nat) (W : World), LeavesAt W v0 (sheetF (madeF (fdsB f.folds) hf)) g -> Calls Tryz.prog 91 #[v0, .int .i64 sh] W fun en W' => ∃ v g', en = .returned v /\ LeavesAt W' v (gatherF (sheetF (madeF (fdsB f.folds) hf)) sh.toNat) g' /\ W.heap.size <= g' /\ Below W.heap.size W W') := Lib.hid fun v0 g W hl => gathered_any hml.1 hml.2 hs4 W hl
 clear hmf hml
 clear hn1 hn2 hm hm1 hm2 hfc hqc hc1 hc2 hff hfx hqx hfd hhalf he f5 f6
 go_enter Tryz.func59, Tryz.ntmps59
 go_wp2_with fail
 have hb0 : Below w.heap.size w (((w.alloc (.cells #[.slice (some ⟨g1, o1, none⟩) n1 cap, .slice (some ⟨g2, o2, none⟩) n2 cap2, .int .i64 p.trim, .int .i64 p.sheets] 122)).alloc (.cells #[.int .i64 i, .int .i64 j, .int .i64 sh, .bool hf] 50)).alloc (.cells #[.int .i64 0, .int .i64 0, .int .i64 0, .bool false, S [], .int .i64 0, .int .i64 0, S [], .int .i64 0, .int .i64 0, .int .i64 0, .int .i64 0, .int .i64 0, .slice none 0 0] 83)) := by exact (by repeat (first | exact Below.refl _ _ | assumption | (refine Below.alloc ?_ ?_ _; rotate_left; · (first | omega | (simp; done) | (simp; omega) | fail)) | (refine Below.setCell ?_ ?_ _; rotate_left; · (first | omega | (simp; done) | (simp; omega) | fail)) | refine Below.drew ?_ | fail))
 have b1 : (((w.alloc (.cells #[.slice (some ⟨g1, o1, none⟩) n1 cap, .slice (some ⟨g2, o2, none⟩) n2 cap2, .int .i64 p.trim, .int .i64 p.sheets] 122)).alloc (.cells #[.int .i64 i, .int .i64 j, .int .i64 sh, .bool hf] 50)).alloc (.cells #[.int .i64 0, .int .i64 0, .int .i64 0, .bool false, S [], .int .i64 0, .int .i64 0, S [], .int .i64 0, .int .i64 0, .int .i64 0, .int .i64 0, .int .i64 0, .slice none 0 0] 83)).heap[w.heap.size]? = some (.cells #[.slice (some ⟨g1, o1, none⟩) n1 cap, .slice (some ⟨g2, o2, none⟩) n2 cap2, .int .i64 p.trim, .int .i64 p.sheets] 122) := (by repeat (first | exact heap_alloc_at _ _ _ (by (first | omega | (simp; done) | (simp; omega) | (simp at *; omega) | fail)) | assumption | rw [heap_alloc_past _ _ _ (by (first | omega | (simp; done) | (simp; omega) | (simp at *; omega) | fail))] | rw [heap_setCell_past _ _ _ _ (by (first | omega | (simp; done) | (simp; omega) | (simp at *; omega) | fail))] | fail))
 have b2 : (((w.alloc (.cells #[.slice (some ⟨g1, o1, none⟩) n1 cap, .slice (some ⟨g2, o2, none⟩) n2 cap2, .int .i64 p.trim, .int .i64 p.sheets] 122)).alloc (.cells #[.int .i64 i, .int .i64 j, .int .i64 sh, .bool hf] 50)).alloc (.cells #[.int .i64 0, .int .i64 0, .int .i64 0, .bool false, S [], .int .i64 0, .int .i64 0, S [], .int .i64 0, .int .i64 0, .int .i64 0, .int .i64 0, .int .i64 0, .slice none 0 0] 83)).heap[w.heap.size + 1]? = some (.cells #[.int .i64 i, .int .i64 j, .int .i64 sh, .bool hf] 50) := (by repeat (first | exact heap_alloc_at _ _ _ (by (first | omega | (simp; done) | (simp; omega) | (simp at *; omega) | fail)) | assumption | rw [heap_alloc_past _ _ _ (by (first | omega | (simp; done) | (simp; omega) | (simp at *; omega) | fail))] | rw [heap_setCell_past _ _ _ _ (by (first | omega | (simp; done) | (simp; omega) | (simp at *; omega) | fail))] | fail))
 have b3 : (((w.alloc (.cells #[.slice (some ⟨g1, o1, none⟩) n1 cap, .slice (some ⟨g2, o2, none⟩) n2 cap2, .int .i64 p.trim, .int .i64 p.sheets] 122)).alloc (.cells #[.int .i64 i, .int .i64 j, .int .i64 sh, .bool hf] 50)).alloc (.cells #[.int .i64 0, .int .i64 0, .int .i64 0, .bool false, S [], .int .i64 0, .int .i64 0, S [], .int .i64 0, .int .i64 0, .int .i64 0, .int .i64 0, .int .i64 0, .slice none 0 0] 83)).heap[w.heap.size + 2]? = some (.cells #[.int .i64 0, .int .i64 0, .int .i64 0, .bool false, S [], .int .i64 0, .int .i64 0, S [], .int .i64 0, .int .i64 0, .int .i64 0, .int .i64 0, .int .i64 0, .slice none 0 0] 83) := (by repeat (first | exact heap_alloc_at _ _ _ (by (first | omega | (simp; done) | (simp; omega) | (simp at *; omega) | fail)) | assumption | rw [heap_alloc_past _ _ _ (by (first | omega | (simp; done) | (simp; omega) | (simp at *; omega) | fail))] | rw [heap_setCell_past _ _ _ _ (by (first | omega | (simp; done) | (simp; omega) | (simp at *; omega) | fail))] | fail))
 have k1 := cell_later' hb0 k1
 have q0 := cell_later' hb0 q0
 have q1 := cell_later' hb0 q1
 have q2 := cell_later' hb0 q2
 have q3 := cell_later' hb0 q3
 have q4 := cell_later' hb0 q4
 have p0 := blk_cell b1 0
 have p1 := blk_cell b1 1
 have p2 := blk_cell b1 2
 have m0 := blk_cell b2 0
 have m1 := blk_cell b2 1
 have m2 := blk_cell b2 2
 have m3 := blk_cell b2 3
 have hsz : (((w.alloc (.cells #[.slice (some ⟨g1, o1, none⟩) n1 cap, .slice (some ⟨g2, o2, none⟩) n2 cap2, .int .i64 p.trim, .int .i64 p.sheets] 122)).alloc (.cells #[.int .i64 i, .int .i64 j, .int .i64 sh, .bool hf] 50)).alloc (.cells #[.int .i64 0, .int .i64 0, .int .i64 0, .bool false, S [], .int .i64 0, .int .i64 0, S [], .int .i64 0, .int .i64 0, .int .i64 0, .int .i64 0, .int .i64 0, .slice none 0 0] 83)).heap.size = w.heap.size + 3 := by simp
 revert hb0 b1 b2 b3 k1 q0 q1 q2 q3 q4 p0 p1 p2 m0 m1 m2 m3 hsz
 generalize (((w.alloc (.cells #[.slice (some ⟨g1, o1, none⟩) n1 cap, .slice (some ⟨g2, o2, none⟩) n2 cap2, .int .i64 p.trim, .int .i64 p.sheets] 122)).alloc (.cells #[.int .i64 i, .int .i64 j, .int .i64 sh, .bool hf] 50)).alloc (.cells #[.int .i64 0, .int .i64 0, .int .i64 0, .bool false, S [], .int .i64 0, .int .i64 0, S [], .int .i64 0, .int .i64 0, .int .i64 0, .int .i64 0, .int .i64 0, .slice none 0 0] 83)) = w1
 intro hb0 b1 b2 b3 k1 q0 q1 q2 q3 q4 p0 p1 p2 m0 m1 m2 m3 hsz
 have hb0 := hb0.drew
 refine wp_region_held_drew (S := (fun u => u.cell? ⟨w.heap.size, 0, none⟩ = some (.slice (some ⟨g1, o1, none⟩) n1 cap) /\ u.cell? ⟨w.heap.size, 1, none⟩ = some (.slice (some ⟨g2, o2, none⟩) n2 cap2) /\ u.cell? ⟨w.heap.size, 2, none⟩ = some (.int .i64 p.trim) /\ u.cell? ⟨w.heap.size + 1, 0, none⟩ = some (.int .i64 i) /\ u.cell? ⟨w.heap.size + 1, 1, none⟩ = some (.int .i64 j) /\ u.cell? ⟨w.heap.size + 1, 2, none⟩ = some (.int .i64 sh) /\ u.cell? ⟨w.heap.size + 1, 3, none⟩ = some (.bool hf) /\ u.cell? ⟨g1, o1 + i * 2 + 1, none⟩ = some (S f.folds) /\ u.cell? ⟨g2, o2 + j * 5, none⟩ = some (S q.name) /\ u.cell? ⟨g2, o2 + j * 5 + 1, none⟩ = some (.int .i64 q.wlo) /\ u.cell? ⟨g2, o2 + j * 5 + 2, none⟩ = some (.int .i64 q.whi) /\ u.cell? ⟨g2, o2 + j * 5 + 3, none⟩ = some (.int .i64 q.hlo) /\ u.cell? ⟨g2, o2 + j * 5 + 4, none⟩ = some (.int .i64 q.hhi))) (by kernel_rfl) ?_ (fun hHeld => ?_)
 · exact ⟨p0, p1, p2, m0, m1, m2, m3, k1, q0, q1, q2, q3, q4⟩
 refine wpAnyH_take (i := 0) (v := ?_) rfl (by kernel_rfl) (by kernel_rfl) (by kernel_rfl) (fun _ _ _ h => h) (Or.inl ⟨by rfl, ?_⟩) (by assumption) ?_
 rotate_left
 · (intro w hSw; (try dsimp only at hSw); go_simp; (try with_reducible rfl))
 (try simp only [Act.put, List.setIfInBounds_toArray, List.set_cons_zero, List.set_cons_succ])
 refine wpAnyH_take (i := 1) (v := ?_) rfl (by kernel_rfl) (by kernel_rfl) (by kernel_rfl) (fun _ _ _ h => h) (Or.inl ⟨by rfl, ?_⟩) (by assumption) ?_
 rotate_left
 · (intro w hSw; (try dsimp only at hSw); go_simp; (try with_reducible rfl))
 (try simp only [Act.put, List.setIfInBounds_toArray, List.set_cons_zero, List.set_cons_succ])
 refine wpAnyH_take (i := 2) (v := ?_) rfl (by kernel_rfl) (by kernel_rfl) (by kernel_rfl) (fun _ _ _ h => h) (Or.inl ⟨by rfl, ?_⟩) (by assumption) ?_
 rotate_left
 · (intro w hSw; (try dsimp only at hSw); go_simp; (try with_reducible rfl))
 (try simp only [Act.put, List.setIfInBounds_toArray, List.set_cons_zero, List.set_cons_succ])
 refine wpAnyH_take (i := 3) (v := ?_) rfl (by kernel_rfl) (by kernel_rfl) (by kernel_rfl) (fun _ _ _ h => h) (Or.inl ⟨by rfl, ?_⟩) (by assumption) ?_
 rotate_left
 · (intro w hSw; (try dsimp only at hSw); go_simp; (try with_reducible rfl))
 (try simp only [Act.put, List.setIfInBounds_toArray, List.set_cons_zero, List.set_cons_succ])
 refine wpAnyH_take (i := 4) (v := ?_) rfl (by kernel_rfl) (by kernel_rfl) (by kernel_rfl) (fun _ _ _ h => h) (Or.inl ⟨by rfl, ?_⟩) (by assumption) ?_
 rotate_left
 · (intro w hSw; (try dsimp only at hSw); go_simp; (try with_reducible rfl))
 (try simp only [Act.put, List.setIfInBounds_toArray, List.set_cons_zero, List.set_cons_succ])
 refine wpAnyH_take (i := 5) (v := ?_) rfl (by kernel_rfl) (by kernel_rfl) (by kernel_rfl) (fun _ _ _ h => h) (Or.inl ⟨by rfl, ?_⟩) (by assumption) ?_
 rotate_left
 · (intro w hSw; (try dsimp only at hSw); go_simp; (try with_reducible rfl))
 (try simp only [Act.put, List.setIfInBounds_toArray, List.set_cons_zero, List.set_cons_succ])
 refine wpAnyH_take (i := 6) (v := ?_) rfl (by kernel_rfl) (by kernel_rfl) (by kernel_rfl) (fun _ _ _ h => h) (Or.inl ⟨by rfl, ?_⟩) (by assumption) ?_
 rotate_left
 · (intro w hSw; (try dsimp only at hSw); go_simp; (try with_reducible rfl))
 (try simp only [Act.put, List.setIfInBounds_toArray, List.set_cons_zero, List.set_cons_succ])
 refine wpAnyH_take (i := 7) (v := ?_) rfl (by kernel_rfl) (by kernel_rfl) (by kernel_rfl) (fun _ _ _ h => h) (Or.inl ⟨by rfl, ?_⟩) (by assumption) ?_
 rotate_left
 · (intro w hSw; (try dsimp only at hSw); go_simp; (try with_reducible rfl))
 (try simp only [Act.put, List.setIfInBounds_toArray, List.set_cons_zero, List.set_cons_succ])
 refine wpAnyH_take (i := 8) (v := ?_) rfl (by kernel_rfl) (by kernel_rfl) (by kernel_rfl) (fun _ _ _ h => h) (Or.inl ⟨by rfl, ?_⟩) (by assumption) ?_
 rotate_left
 · (intro w hSw; (try dsimp only at hSw); go_simp; (try with_reducible rfl))
 (try simp only [Act.put, List.setIfInBounds_toArray, List.set_cons_zero, List.set_cons_succ])
 refine wpAnyH_take (i := 9) (v := ?_) rfl (by kernel_rfl) (by kernel_rfl) (by kernel_rfl) (fun _ _ _ h => h) (Or.inl ⟨by rfl, ?_⟩) (by assumption) ?_
 rotate_left
 · (intro w hSw; (try dsimp only at hSw); go_simp; (try with_reducible rfl))
 (try simp only [Act.put, List.setIfInBounds_toArray, List.set_cons_zero, List.set_cons_succ])
 refine wpAnyH_take (i := 10) (v := ?_) rfl (by kernel_rfl) (by kernel_rfl) (by kernel_rfl) (fun _ _ _ h => h) (Or.inl ⟨by rfl, ?_⟩) (by assumption) ?_
 rotate_left
 · (intro w hSw; (try dsimp only at hSw); go_simp; (try with_reducible rfl))
 (try simp only [Act.put, List.setIfInBounds_toArray, List.set_cons_zero, List.set_cons_succ])
 refine wpAnyH_take (i := 11) (v := ?_) rfl (by kernel_rfl) (by kernel_rfl) (by kernel_rfl) (fun _ _ _ h => h) (Or.inl ⟨by rfl, ?_⟩) (by assumption) ?_
 rotate_left
 · (intro w hSw; (try dsimp only at hSw); go_simp; (try with_reducible rfl))
 (try simp only [Act.put, List.setIfInBounds_toArray, List.set_cons_zero, List.set_cons_succ])
 refine wpAnyH_take (i := 12) (v := ?_) rfl (by kernel_rfl) (by kernel_rfl) (by kernel_rfl) (fun _ _ _ h => h) (Or.inl ⟨by rfl, ?_⟩) (by assumption) ?_
 rotate_left
 · (intro w hSw; (try dsimp only at hSw); go_simp; (try with_reducible rfl))
 (try simp only [Act.put, List.setIfInBounds_toArray, List.set_cons_zero, List.set_cons_succ])
 refine wpAnyH_take (i := 13) (v := ?_) rfl (by kernel_rfl) (by kernel_rfl) (by kernel_rfl) (fun _ _ _ h => h) (Or.inl ⟨by rfl, ?_⟩) (by assumption) ?_
 rotate_left
 · (intro w hSw; (try dsimp only at hSw); go_simp; (try with_reducible rfl))
 (try simp only [Act.put, List.setIfInBounds_toArray, List.set_cons_zero, List.set_cons_succ])
 refine wpAnyH_take (i := 14) (v := ?_) rfl (by kernel_rfl) (by kernel_rfl) (by kernel_rfl) (fun _ _ _ h => h) (Or.inl ⟨by rfl, ?_⟩) (by assumption) ?_
 rotate_left
 · (intro w hSw; (try dsimp only at hSw); go_simp; (try with_reducible rfl))
 (try simp only [Act.put, List.setIfInBounds_toArray, List.set_cons_zero, List.set_cons_succ])
 refine wpAnyH_take (i := 15) (v := ?_) rfl (by kernel_rfl) (by kernel_rfl) (by kernel_rfl) (fun _ _ _ h => h) (Or.inl ⟨by rfl, ?_⟩) (by assumption) ?_
 rotate_left
 · (intro w hSw; (try dsimp only at hSw); go_simp; (try with_reducible rfl))
 (try simp only [Act.put, List.setIfInBounds_toArray, List.set_cons_zero, List.set_cons_succ])
 refine wpAnyH_take (i := 16) (v := ?_) rfl (by kernel_rfl) (by kernel_rfl) (by kernel_rfl) (fun _ _ _ h => h) (Or.inl ⟨by rfl, ?_⟩) (by assumption) ?_
 rotate_left
 · (intro w hSw; (try dsimp only at hSw); go_simp; (try with_reducible rfl))
 (try simp only [Act.put, List.setIfInBounds_toArray, List.set_cons_zero, List.set_cons_succ])
 refine wpAnyH_take (i := 17) (v := ?_) rfl (by kernel_rfl) (by kernel_rfl) (by kernel_rfl) (fun _ _ _ h => h) (Or.inl ⟨by rfl, ?_⟩) (by assumption) ?_
 rotate_left
 · (intro w hSw; (try dsimp only at hSw); go_simp; (try with_reducible rfl))
 (try simp only [Act.put, List.setIfInBounds_toArray, List.set_cons_zero, List.set_cons_succ])
 refine wpAnyH_take (i := 18) (v := ?_) rfl (by kernel_rfl) (by kernel_rfl) (by kernel_rfl) (fun _ _ _ h => h) (Or.inl ⟨by rfl, ?_⟩) (by assumption) ?_
 rotate_left
 · (intro w hSw; (try dsimp only at hSw); go_simp; (try with_reducible rfl))
 (try simp only [Act.put, List.setIfInBounds_toArray, List.set_cons_zero, List.set_cons_succ])
 refine wpAnyH_take (i := 19) (v := ?_) rfl (by kernel_rfl) (by kernel_rfl) (by kernel_rfl) (fun _ _ _ h => h) (Or.inl ⟨by rfl, ?_⟩) (by assumption) ?_
 rotate_left
 · (intro w hSw; (try dsimp only at hSw); go_simp; (try with_reducible rfl))
 (try simp only [Act.put, List.setIfInBounds_toArray, List.set_cons_zero, List.set_cons_succ])
 refine wpAnyH_ready (rs := [20]) (by kernel_rfl) (by simp) ?_
 refine AllReadyH.cons rfl (fun K hK => ?_) AllReadyH.nil
 go_simp
 have n1' : ¬ w.heap.size + 3 = g1 := by omega
 have n2' : ¬ w.heap.size + 3 = g2 := by omega
 refine hK.out _ _ ?_ (fun hNew => ?_)
 · (try dsimp only); go_keep
 clear hK K hHeld
 have hHeld := hNew
 clear hNew
 (try simp only [Act.put, List.setIfInBounds_toArray, List.set_cons_zero, List.set_cons_succ])
 refine wpAnyH_ready (rs := [21]) (by kernel_rfl) (by simp) ?_
 refine AllReadyH.cons rfl (fun K hK => ?_) AllReadyH.nil
 go_simp
 refine hK.out _ _ ?_ (fun hNew => ?_)
 · (try dsimp only); go_keep
 clear hK K hHeld
 have hHeld := hNew
 clear hNew
 (try simp only [Act.put, List.setIfInBounds_toArray, List.set_cons_zero, List.set_cons_succ])
 refine wpAnyH_done (by kernel_rfl) ?_ _
 clear hHeld p0 p1 p2 m0 m1 m2 m3 k1 q0 q1 q2 q3 q4 n1' n2'
 have hb1 : Below w.heap.size w ((w1.alloc (.cells #[.int .i64 i, .int .i64 j, .int .i64 sh, .bool hf, S f.folds, .int .i64 0, .int .i64 0, S q.name, .int .i64 q.wlo, .int .i64 q.whi, .int .i64 q.hlo, .int .i64 q.hhi, .int .i64 p.trim, .slice none 0 0] 83)).drew) := by exact ((show Below w.heap.size w w1 from ⟨hb0.os, hb0.tape, hb0.output, hb0.size, hb0.block⟩).alloc (by omega) _).drew
 have c5 : ((w1.alloc (.cells #[.int .i64 i, .int .i64 j, .int .i64 sh, .bool hf, S f.folds, .int .i64 0, .int .i64 0, S q.name, .int .i64 q.wlo, .int .i64 q.whi, .int .i64 q.hlo, .int .i64 q.hhi, .int .i64 p.trim, .slice none 0 0] 83)).drew).heap[w.heap.size + 3]? = some (.cells #[.int .i64 i, .int .i64 j, .int .i64 sh, .bool hf, S f.folds, .int .i64 0, .int .i64 0, S q.name, .int .i64 q.wlo, .int .i64 q.whi, .int .i64 q.hlo, .int .i64 q.hhi, .int .i64 p.trim, .slice none 0 0] 83) := heap_alloc_at _ _ _ hsz.symm
 have b2 : ((w1.alloc (.cells #[.int .i64 i, .int .i64 j, .int .i64 sh, .bool hf, S f.folds, .int .i64 0, .int .i64 0, S q.name, .int .i64 q.wlo, .int .i64 q.whi, .int .i64 q.hlo, .int .i64 q.hhi, .int .i64 p.trim, .slice none 0 0] 83)).drew).heap[w.heap.size + 1]? = some (.cells #[.int .i64 i, .int .i64 j, .int .i64 sh, .bool hf] 50) := (heap_alloc_past w1 _ _ (by omega)).trans b2
 have b3 : ((w1.alloc (.cells #[.int .i64 i, .int .i64 j, .int .i64 sh, .bool hf, S f.folds, .int .i64 0, .int .i64 0, S q.name, .int .i64 q.wlo, .int .i64 q.whi, .int .i64 q.hlo, .int .i64 q.hhi, .int .i64 p.trim, .slice none 0 0] 83)).drew).heap[w.heap.size + 2]? = some (.cells #[.int .i64 0, .int .i64 0, .int .i64 0, .bool false, S [], .int .i64 0, .int .i64 0, S [], .int .i64 0, .int .i64 0, .int .i64 0, .int .i64 0, .int .i64 0, .slice none 0 0] 83) := (heap_alloc_past w1 _ _ (by omega)).trans b3
 revert hb1 c5 b2 b3
 generalize ((w1.alloc (.cells #[.int .i64 i, .int .i64 j, .int .i64 sh, .bool hf, S f.folds, .int .i64 0, .int .i64 0, S q.name, .int .i64 q.wlo, .int .i64 q.whi, .int .i64 q.hlo, .int .i64 q.hhi, .int .i64 p.trim, .slice none 0 0] 83)).drew) = w2
 intro hb1 c5 b2 b3
 clear hb0 b1 hsz
 obtain ⟨l1, l2, l3⟩ := HFD.out
 have hG : ∀ W, Calls Tryz.prog 90 #[S f.folds] W fun en W' => en = .returned (.tuple #[.int .i64 (colsF (fdsB f.folds)), .int .i64 (rowsF (fdsB f.folds))]) /\ Below W.heap.size W W' := fun W => by
  have := grid_any (f := fdsB f.folds) (by unfold fdsB; simpa using l1) (by unfold fdsB; simpa using l2) W
  rwa [bytes_back l3] at this
 have d4 := blk_cell c5 4
 go_wp2_with fail
 refine (hG _).mono ?_
 rintro e w3 ⟨rfl, hb⟩
 have c5 := blk_later hb c5
 have b2 := blk_later hb b2
 have b3 := blk_later hb b3
 have hb3 := hb1.trans (hb.mono hb1.size)
 obtain ⟨co, hco⟩ : ∃ co, co = (colsF (fdsB f.folds) : Int) := ⟨_, rfl⟩
 obtain ⟨ro, hro⟩ : ∃ ro, ro = (rowsF (fdsB f.folds) : Int) := ⟨_, rfl⟩
 rw [<- hco, <- hro]
 have HCO := Lib.hid hco
 have HRO := Lib.hid hro
 clear hco hro hb hb1 hG d4
 have d5 := blk_cell c5 5
 have d6 := blk_cell c5 6
 have z5 := blk_free c5 5
 have z6 := blk_free c5 6
 go_wp2_with fail
 have hz3 := hb3.size
 have hlt3 := blk_lt c5
 have hb4 : Below w.heap.size w ((w3.setCell ⟨w.heap.size + 3, 5, none⟩ (.int .i64 co)).setCell ⟨w.heap.size + 3, 6, none⟩ (.int .i64 ro)) := by exact (by repeat (first | (refine Below.setCell ?_ ?_ _; rotate_left; · (first | omega | (simp; done) | (simp; omega) | fail)) | (refine Below.alloc ?_ ?_ _; rotate_left; · (first | omega | (simp; done) | (simp; omega) | fail)) | refine Below.drew ?_ | exact hb3 | fail))
 have c5 : ((w3.setCell ⟨w.heap.size + 3, 5, none⟩ (.int .i64 co)).setCell ⟨w.heap.size + 3, 6, none⟩ (.int .i64 ro)).heap[w.heap.size + 3]? = some (.cells #[.int .i64 i, .int .i64 j, .int .i64 sh, .bool hf, S f.folds, .int .i64 co, .int .i64 ro, S q.name, .int .i64 q.wlo, .int .i64 q.whi, .int .i64 q.hlo, .int .i64 q.hhi, .int .i64 p.trim, .slice none 0 0] 83) := by
  simpa using blk_set (blk_set c5 5 (.int .i64 co)) 6 (.int .i64 ro)
 have b2 : ((w3.setCell ⟨w.heap.size + 3, 5, none⟩ (.int .i64 co)).setCell ⟨w.heap.size + 3, 6, none⟩ (.int .i64 ro)).heap[w.heap.size + 1]? = some (.cells #[.int .i64 i, .int .i64 j, .int .i64 sh, .bool hf] 50) := by
  rw [heap_setCell_past _ _ _ _ (by simp), heap_setCell_past _ _ _ _ (by simp)]; exact b2
 have b3 : ((w3.setCell ⟨w.heap.size + 3, 5, none⟩ (.int .i64 co)).setCell ⟨w.heap.size + 3, 6, none⟩ (.int .i64 ro)).heap[w.heap.size + 2]? = some (.cells #[.int .i64 0, .int .i64 0, .int .i64 0, .bool false, S [], .int .i64 0, .int .i64 0, S [], .int .i64 0, .int .i64 0, .int .i64 0, .int .i64 0, .int .i64 0, .slice none 0 0] 83) := by
  rw [heap_setCell_past _ _ _ _ (by simp), heap_setCell_past _ _ _ _ (by simp)]; exact b3
 revert hb4 c5 b2 b3
 generalize ((w3.setCell ⟨w.heap.size + 3, 5, none⟩ (.int .i64 co)).setCell ⟨w.heap.size + 3, 6, none⟩ (.int .i64 ro)) = w4
 intro hb4 c5 b2 b3
 clear hb3 d5 d6 z5 z6 hz3 hlt3
 have hb4 := hb4.drew
 have d0 := blk_cell c5 0
 have d1 := blk_cell c5 1
 have d2 := blk_cell c5 2
 have d3 := blk_cell c5 3
 have d4 := blk_cell c5 4
 have d5 := blk_cell c5 5
 have d6 := blk_cell c5 6
 have d7 := blk_cell c5 7
 have d8 := blk_cell c5 8
 have d9 := blk_cell c5 9
 have d10 := blk_cell c5 10
 have d11 := blk_cell c5 11
 have d12 := blk_cell c5 12
 have d13 := blk_cell c5 13
 have m2 := blk_cell b2 2
 have z13 := blk_free c5 13
 refine wp_region_held_drew (S := fun u => u.cell? ⟨w.heap.size + 1, 2, none⟩ = some (.int .i64 sh)) (by kernel_rfl) ?_ (fun hHeld => ?_)
 · exact m2
 refine wpAnyH_take (i := 3) (v := ?_) rfl (by kernel_rfl) (by kernel_rfl) (by kernel_rfl) (fun _ _ _ h => h) (Or.inl ⟨by rfl, ?_⟩) (by assumption) ?_
 rotate_left
 · (intro w hSw; (try dsimp only at hSw); go_simp; (try with_reducible rfl))
 (try simp only [Act.put, List.setIfInBounds_toArray, List.set_cons_zero, List.set_cons_succ])
 refine wpAnyH_take (i := 4) (v := ?_) rfl (by kernel_rfl) (by kernel_rfl) (by kernel_rfl) (fun _ _ _ h => h) (Or.inl ⟨by rfl, ?_⟩) (by assumption) ?_
 rotate_left
 · (intro w hSw; (try dsimp only at hSw); go_simp; (try with_reducible rfl))
 (try simp only [Act.put, List.setIfInBounds_toArray, List.set_cons_zero, List.set_cons_succ])
 have d0 : w4.drew.cell? ⟨w.heap.size + 3, 0, none⟩ = some (.int .i64 i) := d0
 have d1 : w4.drew.cell? ⟨w.heap.size + 3, 1, none⟩ = some (.int .i64 j) := d1
 have d2 : w4.drew.cell? ⟨w.heap.size + 3, 2, none⟩ = some (.int .i64 sh) := d2
 have d3 : w4.drew.cell? ⟨w.heap.size + 3, 3, none⟩ = some (.bool hf) := d3
 have d4 : w4.drew.cell? ⟨w.heap.size + 3, 4, none⟩ = some (S f.folds) := d4
 have d5 : w4.drew.cell? ⟨w.heap.size + 3, 5, none⟩ = some (.int .i64 co) := d5
 have d6 : w4.drew.cell? ⟨w.heap.size + 3, 6, none⟩ = some (.int .i64 ro) := d6
 have d7 : w4.drew.cell? ⟨w.heap.size + 3, 7, none⟩ = some (S q.name) := d7
 have d8 : w4.drew.cell? ⟨w.heap.size + 3, 8, none⟩ = some (.int .i64 q.wlo) := d8
 have d9 : w4.drew.cell? ⟨w.heap.size + 3, 9, none⟩ = some (.int .i64 q.whi) := d9
 have d10 : w4.drew.cell? ⟨w.heap.size + 3, 10, none⟩ = some (.int .i64 q.hlo) := d10
 have d11 : w4.drew.cell? ⟨w.heap.size + 3, 11, none⟩ = some (.int .i64 q.hhi) := d11
 have d12 : w4.drew.cell? ⟨w.heap.size + 3, 12, none⟩ = some (.int .i64 p.trim) := d12
 have d13 : w4.drew.cell? ⟨w.heap.size + 3, 13, none⟩ = some (.slice none 0 0) := d13
 refine wpAnyH_ready (rs := [0]) (by kernel_rfl) (by simp) ?_
 refine AllReadyH.cons rfl (fun K hK => ?_) AllReadyH.nil
 go_simp
 refine hK.out _ _ ?_ (fun hNew => ?_)
 · (try dsimp only); go_keep
 clear hK K hHeld
 have hHeld := hNew
 clear hNew
 (try simp only [Act.put, List.setIfInBounds_toArray, List.set_cons_zero, List.set_cons_succ])
 refine wpAnyH_ready (rs := [1]) (by kernel_rfl) (by simp) ?_
 refine AllReadyH.cons rfl (fun K hK => ?_) AllReadyH.nil
 go_simp
 refine (foldsMade_is ⟨i, j, sh, hf⟩ f.folds co ro q p.trim (.slice none 0 0) mf HMF.out _ l1 l2).mono ?_
 rintro e w5 ⟨rfl, hb⟩
 have c5 := blk_later hb c5
 have b3 := blk_later hb b3
 have m2 := cell_later' hb m2
 have hb5 := hb4.trans (hb.mono hb4.size)
 clear hb d0 d1 d2 d3 d4 d5 d6 d7 d8 d9 d10 d11 d12 d13 z13
 have d0 := blk_cell c5 0
 have d1 := blk_cell c5 1
 have d2 := blk_cell c5 2
 have d3 := blk_cell c5 3
 have d4 := blk_cell c5 4
 have d5 := blk_cell c5 5
 have d6 := blk_cell c5 6
 have d7 := blk_cell c5 7
 have d8 := blk_cell c5 8
 have d9 := blk_cell c5 9
 have d10 := blk_cell c5 10
 have d11 := blk_cell c5 11
 have d12 := blk_cell c5 12
 have d13 := blk_cell c5 13
 have z13 := blk_free c5 13
 go_simp
 refine hK.out _ _ ?_ (fun hNew => ?_)
 · (try dsimp only); go_keep
 clear hK K hHeld
 have hHeld := hNew
 clear hNew
 (try simp only [Act.put, List.setIfInBounds_toArray, List.set_cons_zero, List.set_cons_succ])
 refine wpAnyH_ready (rs := [2]) (by kernel_rfl) (by simp) ?_
 refine AllReadyH.cons rfl (fun K hK => ?_) AllReadyH.nil
 go_simp
 refine (HFo.out _).mono ?_
 rintro e w6 ⟨v6, g6, rfl, hl6, hg6, hb⟩
 have c5 := blk_later hb c5
 have b3 := blk_later hb b3
 have m2 := cell_later' hb m2
 have hb6 := hb5.trans (hb.mono hb5.size)
 clear hb d0 d1 d2 d3 d4 d5 d6 d7 d8 d9 d10 d11 d12 d13 z13
 have d0 := blk_cell c5 0
 have d1 := blk_cell c5 1
 have d2 := blk_cell c5 2
 have d3 := blk_cell c5 3
 have d4 := blk_cell c5 4
 have d5 := blk_cell c5 5
 have d6 := blk_cell c5 6
 have d7 := blk_cell c5 7
 have d8 := blk_cell c5 8
 have d9 := blk_cell c5 9
 have d10 := blk_cell c5 10
 have d11 := blk_cell c5 11
 have d12 := blk_cell c5 12
 have d13 := blk_cell c5 13
 have z13 := blk_free c5 13
 have hs6 := blk_lt c5
 have HL6 := Lib.hid hl6
 obtain ⟨k6, rest6, rfl, -⟩ := hl6
 obtain ⟨n6, hn6⟩ : ∃ n, n = (sheetF (madeF (fdsB f.folds) hf)).length := ⟨_, rfl⟩
 rw [<- hn6] at HL6 ⊢
 clear hn6
 go_simp
 refine hK.out _ _ ?_ (fun hNew => ?_)
 · (try dsimp only); go_keep
 clear hK K hHeld
 have hHeld := hNew
 clear hNew
 (try simp only [Act.put, List.setIfInBounds_toArray, List.set_cons_zero, List.set_cons_succ])
 refine wpAnyH_ready (rs := [5]) (by kernel_rfl) (by simp) ?_
 refine AllReadyH.cons rfl (fun K hK => ?_) AllReadyH.nil
 go_simp
 refine (HGa.out _ g6 _ HL6.out).mono ?_
 rintro e w7 ⟨v7, g7, rfl, hl7, hg7, hb⟩
 have c5 := blk_later hb c5
 have b3 := blk_later hb b3
 have m2 := cell_later' hb m2
 have hb7 := hb6.trans (hb.mono hb6.size)
 clear hb d0 d1 d2 d3 d4 d5 d6 d7 d8 d9 d10 d11 d12 d13 z13
 have d0 := blk_cell c5 0
 have d1 := blk_cell c5 1
 have d2 := blk_cell c5 2
 have d3 := blk_cell c5 3
 have d4 := blk_cell c5 4
 have d5 := blk_cell c5 5
 have d6 := blk_cell c5 6
 have d7 := blk_cell c5 7
 have d8 := blk_cell c5 8
 have d9 := blk_cell c5 9
 have d10 := blk_cell c5 10
 have d11 := blk_cell c5 11
 have d12 := blk_cell c5 12
 have d13 := blk_cell c5 13
 have z13 := blk_free c5 13
 have HL7 := Lib.hid hl7
 obtain ⟨k7, rest7, rfl, -⟩ := hl7
 obtain ⟨n7, hn7⟩ : ∃ n, n = (gatherF (sheetF (madeF (fdsB f.folds) hf)) sh.toNat).length := ⟨_, rfl⟩
 rw [<- hn7] at HL7 ⊢
 have HG7 : Hid (w.heap.size + 4 <= g7) := Lib.hid (by omega)
 clear hn7
 go_simp
 refine hK.out _ _ ?_ (fun hNew => ?_)
 · (try dsimp only); go_keep
 clear hK K hHeld
 have hHeld := hNew
 clear hNew
 (try simp only [Act.put, List.setIfInBounds_toArray, List.set_cons_zero, List.set_cons_succ])
 refine wpAnyH_take (i := 6) (v := ?_) rfl (by kernel_rfl) (by kernel_rfl) (by kernel_rfl) (fun _ _ _ h => h) (Or.inl ⟨by rfl, ?_⟩) (by assumption) ?_
 rotate_left
 · (intro w hSw; (try dsimp only at hSw); go_simp; (try with_reducible rfl))
 (try simp only [Act.put, List.setIfInBounds_toArray, List.set_cons_zero, List.set_cons_succ])
 refine wpAnyH_ready (rs := [7]) (by kernel_rfl) (by simp) ?_
 refine AllReadyH.cons rfl (fun K hK => ?_) AllReadyH.nil
 go_simp
 refine hK.out _ _ ?_ (fun hNew => ?_)
 · (try dsimp only); go_keep
 clear hK K hHeld
 have hHeld := hNew
 clear hNew
 (try simp only [Act.put, List.setIfInBounds_toArray, List.set_cons_zero, List.set_cons_succ])
 refine wpAnyH_done (by kernel_rfl) ?_ _
 have hz7 := hb7.size
 have hlt7 := blk_lt c5
 have hb8 : Below w.heap.size w (w7.setCell ⟨w.heap.size + 3, 13, none⟩ (.slice (some ⟨g7, 0, none⟩) n7 (n7 + k7))) := by exact (by repeat (first | (refine Below.setCell ?_ ?_ _; rotate_left; · (first | omega | (simp; done) | (simp; omega) | fail)) | (refine Below.alloc ?_ ?_ _; rotate_left; · (first | omega | (simp; done) | (simp; omega) | fail)) | refine Below.drew ?_ | exact hb7 | fail))
 have c8 : (w7.setCell ⟨w.heap.size + 3, 13, none⟩ (.slice (some ⟨g7, 0, none⟩) n7 (n7 + k7))).heap[w.heap.size + 3]? = some (.cells #[.int .i64 i, .int .i64 j, .int .i64 sh, .bool hf, S f.folds, .int .i64 co, .int .i64 ro, S q.name, .int .i64 q.wlo, .int .i64 q.whi, .int .i64 q.hlo, .int .i64 q.hhi, .int .i64 p.trim, .slice (some ⟨g7, 0, none⟩) n7 (n7 + k7)] 83) := by
  simpa using blk_set c5 13 (.slice (some ⟨g7, 0, none⟩) n7 (n7 + k7))
 have b8 : (w7.setCell ⟨w.heap.size + 3, 13, none⟩ (.slice (some ⟨g7, 0, none⟩) n7 (n7 + k7))).heap[w.heap.size + 2]? = some (.cells #[.int .i64 0, .int .i64 0, .int .i64 0, .bool false, S [], .int .i64 0, .int .i64 0, S [], .int .i64 0, .int .i64 0, .int .i64 0, .int .i64 0, .int .i64 0, .slice none 0 0] 83) := by
  rw [heap_setCell_past _ _ _ _ (by simp)]; exact b3
 have HL8 : Hid (LeavesAt (w7.setCell ⟨w.heap.size + 3, 13, none⟩ (.slice (some ⟨g7, 0, none⟩) n7 (n7 + k7))) (.slice (some ⟨g7, 0, none⟩) n7 (n7 + k7)) (gatherF (sheetF (madeF (fdsB f.folds) hf)) sh.toNat) g7) := Lib.hid (by
  obtain ⟨k, rest, h1, h2, h3⟩ := HL7.out
  exact ⟨k, rest, h1, by rw [heap_setCell_past _ _ _ _ (by have := HG7.out; simp; omega)]; exact h2, h3⟩)
 clear hHeld hb7 c5 b3 HL7 HL6 hz7 hlt7 m2 z13 hs6 HFo HGa
 clear d0 d1 d2 d3 d4 d5 d6 d7 d8 d9 d10 d11 d12 d13
 revert hb8 c8 b8 HL8
 generalize (w7.setCell ⟨w.heap.size + 3, 13, none⟩ (.slice (some ⟨g7, 0, none⟩) n7 (n7 + k7))) = w8
 intro hb8 c8 b8 HL8
 have d0 := blk_cell c8 0
 have d1 := blk_cell c8 1
 have d2 := blk_cell c8 2
 have d3 := blk_cell c8 3
 have d4 := blk_cell c8 4
 have d5 := blk_cell c8 5
 have d6 := blk_cell c8 6
 have d7 := blk_cell c8 7
 have d8 := blk_cell c8 8
 have d9 := blk_cell c8 9
 have d10 := blk_cell c8 10
 have d11 := blk_cell c8 11
 have d12 := blk_cell c8 12
 have d13 := blk_cell c8 13
 have e0 := blk_cell b8 0
 have e1 := blk_cell b8 1
 have e2 := blk_cell b8 2
 have e3 := blk_cell b8 3
 have e4 := blk_cell b8 4
 have e5 := blk_cell b8 5
 have e6 := blk_cell b8 6
 have e7 := blk_cell b8 7
 have e8 := blk_cell b8 8
 have e9 := blk_cell b8 9
 have e10 := blk_cell b8 10
 have e11 := blk_cell b8 11
 have e12 := blk_cell b8 12
 have e13 := blk_cell b8 13
 have z0 := blk_free b8 0
 have z1 := blk_free b8 1
 have z2 := blk_free b8 2
 have z3 := blk_free b8 3
 have z4 := blk_free b8 4
 have z5 := blk_free b8 5
 have z6 := blk_free b8 6
 have z7 := blk_free b8 7
 have z8 := blk_free b8 8
 have z9 := blk_free b8 9
 have z10 := blk_free b8 10
 have z11 := blk_free b8 11
 have z12 := blk_free b8 12
 have z13 := blk_free b8 13
 go_wp2_with fail
 have hz8 := hb8.size
 have b9 : ((((((((((((((w8.setCell ⟨w.heap.size + 1 + 1, 0, none⟩ (.int .i64 i)).setCell ⟨w.heap.size + 1 + 1, 1, none⟩ (.int .i64 j)).setCell ⟨w.heap.size + 1 + 1, 2, none⟩ (.int .i64 sh)).setCell ⟨w.heap.size + 1 + 1, 3, none⟩ (.bool hf)).setCell ⟨w.heap.size + 1 + 1, 4, none⟩ (S f.folds)).setCell ⟨w.heap.size + 1 + 1, 5, none⟩ (.int .i64 co)).setCell ⟨w.heap.size + 1 + 1, 6, none⟩ (.int .i64 ro)).setCell ⟨w.heap.size + 1 + 1, 7, none⟩ (S q.name)).setCell ⟨w.heap.size + 1 + 1, 8, none⟩ (.int .i64 q.wlo)).setCell ⟨w.heap.size + 1 + 1, 9, none⟩ (.int .i64 q.whi)).setCell ⟨w.heap.size + 1 + 1, 10, none⟩ (.int .i64 q.hlo)).setCell ⟨w.heap.size + 1 + 1, 11, none⟩ (.int .i64 q.hhi)).setCell ⟨w.heap.size + 1 + 1, 12, none⟩ (.int .i64 p.trim)).setCell ⟨w.heap.size + 1 + 1, 13, none⟩ (.slice (some ⟨g7, 0, none⟩) n7 (n7 + k7))).heap[w.heap.size + 1 + 1]? = some (.cells #[.int .i64 i, .int .i64 j, .int .i64 sh, .bool hf, S f.folds, .int .i64 co, .int .i64 ro, S q.name, .int .i64 q.wlo, .int .i64 q.whi, .int .i64 q.hlo, .int .i64 q.hhi, .int .i64 p.trim, .slice (some ⟨g7, 0, none⟩) n7 (n7 + k7)] 83) := by
  simpa using (blk_set (blk_set (blk_set (blk_set (blk_set (blk_set (blk_set (blk_set (blk_set (blk_set (blk_set (blk_set (blk_set (blk_set b8 0 (.int .i64 i)) 1 (.int .i64 j)) 2 (.int .i64 sh)) 3 (.bool hf)) 4 (S f.folds)) 5 (.int .i64 co)) 6 (.int .i64 ro)) 7 (S q.name)) 8 (.int .i64 q.wlo)) 9 (.int .i64 q.whi)) 10 (.int .i64 q.hlo)) 11 (.int .i64 q.hhi)) 12 (.int .i64 p.trim)) 13 (.slice (some ⟨g7, 0, none⟩) n7 (n7 + k7)))
 have hb9 : Below w.heap.size w ((((((((((((((w8.setCell ⟨w.heap.size + 1 + 1, 0, none⟩ (.int .i64 i)).setCell ⟨w.heap.size + 1 + 1, 1, none⟩ (.int .i64 j)).setCell ⟨w.heap.size + 1 + 1, 2, none⟩ (.int .i64 sh)).setCell ⟨w.heap.size + 1 + 1, 3, none⟩ (.bool hf)).setCell ⟨w.heap.size + 1 + 1, 4, none⟩ (S f.folds)).setCell ⟨w.heap.size + 1 + 1, 5, none⟩ (.int .i64 co)).setCell ⟨w.heap.size + 1 + 1, 6, none⟩ (.int .i64 ro)).setCell ⟨w.heap.size + 1 + 1, 7, none⟩ (S q.name)).setCell ⟨w.heap.size + 1 + 1, 8, none⟩ (.int .i64 q.wlo)).setCell ⟨w.heap.size + 1 + 1, 9, none⟩ (.int .i64 q.whi)).setCell ⟨w.heap.size + 1 + 1, 10, none⟩ (.int .i64 q.hlo)).setCell ⟨w.heap.size + 1 + 1, 11, none⟩ (.int .i64 q.hhi)).setCell ⟨w.heap.size + 1 + 1, 12, none⟩ (.int .i64 p.trim)).setCell ⟨w.heap.size + 1 + 1, 13, none⟩ (.slice (some ⟨g7, 0, none⟩) n7 (n7 + k7))) := by exact (by repeat (first | (refine Below.setCell ?_ ?_ _; rotate_left; · (first | omega | (simp; done) | (simp; omega) | fail)) | (refine Below.alloc ?_ ?_ _; rotate_left; · (first | omega | (simp; done) | (simp; omega) | fail)) | refine Below.drew ?_ | exact hb8 | fail))
 have HL9 : LeavesAt ((((((((((((((w8.setCell ⟨w.heap.size + 1 + 1, 0, none⟩ (.int .i64 i)).setCell ⟨w.heap.size + 1 + 1, 1, none⟩ (.int .i64 j)).setCell ⟨w.heap.size + 1 + 1, 2, none⟩ (.int .i64 sh)).setCell ⟨w.heap.size + 1 + 1, 3, none⟩ (.bool hf)).setCell ⟨w.heap.size + 1 + 1, 4, none⟩ (S f.folds)).setCell ⟨w.heap.size + 1 + 1, 5, none⟩ (.int .i64 co)).setCell ⟨w.heap.size + 1 + 1, 6, none⟩ (.int .i64 ro)).setCell ⟨w.heap.size + 1 + 1, 7, none⟩ (S q.name)).setCell ⟨w.heap.size + 1 + 1, 8, none⟩ (.int .i64 q.wlo)).setCell ⟨w.heap.size + 1 + 1, 9, none⟩ (.int .i64 q.whi)).setCell ⟨w.heap.size + 1 + 1, 10, none⟩ (.int .i64 q.hlo)).setCell ⟨w.heap.size + 1 + 1, 11, none⟩ (.int .i64 q.hhi)).setCell ⟨w.heap.size + 1 + 1, 12, none⟩ (.int .i64 p.trim)).setCell ⟨w.heap.size + 1 + 1, 13, none⟩ (.slice (some ⟨g7, 0, none⟩) n7 (n7 + k7))) (.slice (some ⟨g7, 0, none⟩) n7 (n7 + k7)) (gatherF (sheetF (madeF (fdsB f.folds) hf)) sh.toNat) g7 := by
  obtain ⟨k, rest, h1, h2, h3⟩ := HL8.out
  have hg := HG7.out
  exact ⟨k, rest, h1, by rw [heap_setCell_past _ _ _ _ (by simp; omega), heap_setCell_past _ _ _ _ (by simp; omega), heap_setCell_past _ _ _ _ (by simp; omega), heap_setCell_past _ _ _ _ (by simp; omega), heap_setCell_past _ _ _ _ (by simp; omega), heap_setCell_past _ _ _ _ (by simp; omega), heap_setCell_past _ _ _ _ (by simp; omega), heap_setCell_past _ _ _ _ (by simp; omega), heap_setCell_past _ _ _ _ (by simp; omega), heap_setCell_past _ _ _ _ (by simp; omega), heap_setCell_past _ _ _ _ (by simp; omega), heap_setCell_past _ _ _ _ (by simp; omega), heap_setCell_past _ _ _ _ (by simp; omega), heap_setCell_past _ _ _ _ (by simp; omega)]; exact h2, h3⟩
 have y0 := blk_cell b9 0
 have y1 := blk_cell b9 1
 have y2 := blk_cell b9 2
 have y3 := blk_cell b9 3
 have y4 := blk_cell b9 4
 have y5 := blk_cell b9 5
 have y6 := blk_cell b9 6
 have y7 := blk_cell b9 7
 have y8 := blk_cell b9 8
 have y9 := blk_cell b9 9
 have y10 := blk_cell b9 10
 have y11 := blk_cell b9 11
 have y12 := blk_cell b9 12
 have y13 := blk_cell b9 13
 exact bodyPost_ret (v := .agg #[.int .i64 i, .int .i64 j, .int .i64 sh, .bool hf, S f.folds, .int .i64 co, .int .i64 ro, S q.name, .int .i64 q.wlo, .int .i64 q.whi, .int .i64 q.hlo, .int .i64 q.hhi, .int .i64 p.trim, .slice (some ⟨g7, 0, none⟩) n7 (n7 + k7)]) (by simp [results, Tryz.results59, go_sem, y0, y1, y2, y3, y4, y5, y6, y7, y8, y9, y10, y11, y12, y13]) rfl ⟨⟨f, q, _, g7, by rw [Int.toNat_natCast]; exact HFX.out, by rw [Int.toNat_natCast]; exact HQX.out, by rw [HCO.out, HRO.out], HL9, by have := HG7.out; omega⟩, hb9⟩
end
section
set_option linter.unusedSimpArgs false
set_option linter.unusedVariables false
open Go Go.RowKit Go.Sort Go.BigFrame
theorem flat_at : ∀ (ls : List Fl) (rest : List Value) (i : Nat) (x : Fl), ls[i]? = some x -> ∀ c, c < 5 -> (ls.flatMap flV ++ rest)[i * 5 + c]? = (flV x)[c]?
 | [], _, _, _, h, _, _ => by simp at h
 | y :: ys, rest, 0, x, h, c, hc => by
   obtain rfl : y = x := by simpa using h
   rw [List.flatMap_cons, List.append_assoc, List.getElem?_append_left (by simp; omega), Nat.zero_mul, Nat.zero_add]
 | y :: ys, rest, i + 1, x, h, c, hc => by
   rw [List.flatMap_cons, List.append_assoc, List.getElem?_append_right (by simp; omega)]
   have := flat_at ys rest i x (by simpa using h) c hc
   rw [<- this]
   congr 1
   simp
   omega
theorem leaf_cells {w : World} {v : Value} {ls : List Fl} {g i : Nat} {x : Fl} (h : LeavesAt w v ls g) (hi : ls[i]? = some x) :
  w.cell? ⟨g, i * 5, none⟩ = some (.int .i64 x.sheet) /\ w.cell? ⟨g, i * 5 + 1, none⟩ = some (.int .i64 x.col) /\ w.cell? ⟨g, i * 5 + 2, none⟩ = some (.int .i64 x.row) /\ w.cell? ⟨g, i * 5 + 3, none⟩ = some (.bool x.inner) /\ w.cell? ⟨g, i * 5 + 4, none⟩ = some (.bool x.turned) := by
 obtain ⟨k, rest, -, hg, -⟩ := h
 have key : ∀ c, c < 5 -> w.cell? ⟨g, i * 5 + c, none⟩ = (flV x)[c]? := fun c hc => by
  rw [blk_cell hg, List.getElem?_toArray]
  exact flat_at ls rest i x hi c hc
 exact ⟨key 0 (by omega), key 1 (by omega), key 2 (by omega), key 3 (by omega), key 4 (by omega)⟩
theorem LeavesAt.later {w w' : World} {v : Value} {ls : List Fl} {g : Nat} (h : LeavesAt w v ls g) (hb : Below w.heap.size w w') : LeavesAt w' v ls g := by
 obtain ⟨k, rest, h1, h2, h3⟩ := h
 exact ⟨k, rest, h1, blk_later hb h2, h3⟩
end
section
set_option linter.unusedSimpArgs false
set_option linter.unusedVariables false
open Go Go.RowKit
theorem run_append_one {P : Program} (w : World) (base : Nat) (t ty e : TypeId) (i : TypeInfo) (z : Value) (size bytes : Nat) (ht : P.underlying t = some (.slice e)) (hi : P.info? e = some i) (hz : i.zero = some z)
  (hsize : i.size = size) (hby : i.bytes = bytes) (hzs : z.cells.size = size) (hsz : 0 < size)
  (v : Value) (n : Nat) (xs : List Value) (hown : w.ownsRow base e size v n xs)
  (a : Addr) (c : Nat) (news : List Value) (hl : news.length = size) (hnews : ∀ j u, news[j]? = some u -> w.cell? (a.add j) = some u) (h1 : ∀ u ∈ news, u.oneCell' = true)
  (h63 : n + 1 <= maxLen) (hbytes : (n + 1) * bytes <= 140737488355328) (hbase : base <= w.heap.size) :
  ∃ g cap w', (Builtin.append_ #[t, t] ty #[v, .slice (some a) 1 c]).run P w = .ok (.slice (some ⟨g, 0, none⟩) (n + 1) cap) w' /\ w'.ownsRow base e size (.slice (some ⟨g, 0, none⟩) (n + 1) cap) (n + 1) (xs ++ news) /\ w.grownBy w' v.ownBlock /\
    (v.ownBlock = some g ∨ w.heap.size <= g) := by
 have hl1 : news.length = 1 * size := by omega
 obtain ⟨v', w', hr, ho, hg, -⟩ := run_append_own (P := P) w base t ty e i z size bytes ht hi hz hsize hby hzs hsz v n xs hown a 1 c news hl1 hnews h1 h63 hbytes hbase
 obtain ⟨g, cap, rfl⟩ := ownsRow_succ ho
 refine ⟨g, cap, w', hr, ho, hg, ?_⟩
 rcases hown.2 with ⟨rfl, rfl⟩ | ⟨g0, cap0, cur, rfl, hbg, hg0, hnc, hcm, hcs, htake⟩
 · have hx : xs = [] := List.eq_nil_of_length_eq_zero (by simpa using hown.1)
   subst hx
   obtain ⟨v2, w2, hr2, ho2, -, -⟩ := run_append_own (P := P) w w.heap.size t ty e i z size bytes ht hi hz hsize hby hzs hsz (.slice none 0 0) 0 [] (World.ownsRow_nil w _ _ _) a 1 c news hl1 hnews h1 h63 hbytes (Nat.le_refl _)
   rw [hr] at hr2
   cases hr2
   rcases ho2.2 with ⟨h, -⟩ | ⟨g', cap', cur', h, hb', -⟩
   · cases h
   · cases h; exact Or.inr hb'
 · subst hsize
   by_cases hroom : n + 1 <= cap0
   · have hfit : n * i.size + news.length <= cur.size := by rw [hl1, hcs, <- Nat.add_mul]; exact Nat.mul_le_mul_right _ hroom
     have hr2 := run_append_room (P := P) w t ty e i ht hi g0 n cap0 cur hg0 a 1 c news hl1 hnews h1 hroom hfit
     rw [hr] at hr2
     cases hr2
     exact Or.inl rfl
   · have hcell : ∀ j u, xs[j]? = some u -> w.cell? ((⟨g0, 0, none⟩ : Addr).add j) = some u := World.ownsRow.cells hown (by simp [Value.ownBlock])
     have hr2 := run_append_grow (P := P) w t ty e i z ht hi hz ⟨g0, 0, none⟩ n cap0 xs hown.1 hcell a 1 c news hl1 hnews (by omega) (by simp only [maxLen] at h63; omega) (growslice_fits (by omega) (by rw [hby]; exact hbytes))
     rw [hr] at hr2
     cases hr2
     exact Or.inr (Nat.le_refl _)
theorem wpListIn_append_one {F : Fence} {n : Nat} {P : Program} (w : World) {ops : Array Oper} {rest : List Oper} {o : Oper} {a : Act} {Q : Exit -> Act -> World -> Prop}
  (hg : o.guard = none) (s x : Operand) (t : TypeId) (hop : o.op = Op.call { callee := Callee.builtin Builtin.append, args := #[s, x], argTypes := #[t, t] })
  (base : Nat) (e : TypeId) (i : TypeInfo) (z : Value) (size bytes : Nat) (h1 : P.underlying t = some (.slice e)) (h2 : P.info? e = some i) (h3 : i.zero = some z) (h4 : i.size = size) (h5 : i.bytes = bytes) (h6 : z.cells.size = size) (h7 : 0 < size)
  (v : Value) (k : Nat) (xs : List Value) (hs : a.eval s = v) (hown : w.ownsRow base e size v k xs) (ad : Addr) (c : Nat) (news : List Value) (hx : a.eval x = .slice (some ad) 1 c) (hn : news.length = size)
  (hc : ∀ j u, news[j]? = some u -> w.cell? (ad.add j) = some u) (h1c : ∀ u ∈ news, u.oneCell' = true) (b1 : k + 1 <= maxLen) (b2 : (k + 1) * bytes <= 140737488355328) (b3 : base <= w.heap.size)
  (hK : ∀ g cap w', w'.ownsRow base e size (.slice (some ⟨g, 0, none⟩) (k + 1) cap) (k + 1) (xs ++ news) -> w.grownBy w' v.ownBlock -> (v.ownBlock = some g ∨ w.heap.size <= g) -> wpListIn F n P ops Q rest (a.put o.dst (.slice (some ⟨g, 0, none⟩) (k + 1) cap)) w') :
  wpListIn F n P ops Q (o :: rest) a w := by
 refine wpListIn_plain hg fun K hK' => ?_
 obtain ⟨g, cap, w', hrun, r1, r2, r3⟩ := run_append_one (P := P) w base t o.type e i z size bytes h1 h2 h3 h4 h5 h6 h7 v k xs hown ad c news hn hc h1c b1 b2 b3
 unfold Oper.wpIn
 refine ⟨?_, ?_⟩
 · simp [Oper.about, hop, resolve, Target.leads, Sem.run_pure]
 · rw [Oper.semAt_plain F _ _ (by rw [hop]; intro c hc'; cases hc')]
   simp [execOp, hop, resolve, invoke, builtin, hs, hx, hrun, Result.andThen]
   exact hK' _ _ (hK g cap w' r1 r2 r3)
def ListAt (W : World) (base BL : Nat) (ty e : TypeId) (size k : Nat) (xs : List Value) : Prop := ∃ v, W.heap[BL]? = some (.cells #[v] ty) /\ W.ownsRow base e size v k xs
def OwL (BL : Nat) (ty : TypeId) (W : World) (j : Nat) : Prop := ∃ v, W.heap[BL]? = some (.cells #[v] ty) /\ v.ownBlock = some j
theorem ListAt.own {W : World} {base BL : Nat} {ty e : TypeId} {size k : Nat} {xs : List Value} (h : ListAt W base BL ty e size k xs) {j : Nat} (hj : OwL BL ty W j) : base <= j /\ ∃ c t f, W.heap[j]? = some (.cells c t f) := by
 obtain ⟨v, h1, h2⟩ := h
 obtain ⟨u, h3, h4⟩ := hj
 rw [h1] at h3
 simp only [Option.some.injEq, Obj.cells.injEq, Array.mk.injEq, List.cons.injEq, and_true] at h3
 subst h3
 refine ⟨(h2.lt j h4).1, ?_⟩
 rcases h2.2 with ⟨rfl, -⟩ | ⟨g, cap, cur, rfl, -, hg, -⟩
 · simp [Value.ownBlock] at h4
 · simp only [Value.ownBlock, Option.some.injEq] at h4
   subst h4
   exact ⟨_, _, _, hg⟩
theorem ListAt.only {W W' : World} {X : Nat -> Prop} {hs base BL : Nat} {ty e : TypeId} {size k : Nat} {xs : List Value} (h : ListAt W base BL ty e size k xs) (ho : OnlyIn X W W') (hX : ∀ j, X j -> hs <= j /\ ¬ OwL BL ty W j) (hBL : BL < hs) :
  ListAt W' base BL ty e size k xs /\ ∀ j, OwL BL ty W' j -> OwL BL ty W j := by
 obtain ⟨v, h1, h2⟩ := h
 have h1' : W'.heap[BL]? = some (.cells #[v] ty) := (ho.block BL (Array.getElem?_eq_some_iff.1 h1).1 (fun hx => by have := (hX _ hx).1; omega)).trans h1
 refine ⟨⟨v, h1', h2.1, ?_⟩, fun j ⟨u, h3, h4⟩ => ?_⟩
 · rcases h2.2 with hn | ⟨g, cap, cur, rfl, hb, hg, rest⟩
   · exact .inl hn
   · refine .inr ⟨g, cap, cur, rfl, hb, ?_, rest⟩
     exact (ho.block g (Array.getElem?_eq_some_iff.1 hg).1 (fun hx => (hX _ hx).2 ⟨_, h1, by simp [Value.ownBlock]⟩)).trans hg
 · rw [h1'] at h3
   simp only [Option.some.injEq, Obj.cells.injEq, Array.mk.injEq, List.cons.injEq, and_true] at h3
   subst h3
   exact ⟨v, h1, h4⟩
theorem list_step {W Wt w' : World} {hs base BL : Nat} {ty e : TypeId} {size k g cap : Nat} {v : Value} {xs ys : List Value} {Pr : Nat -> Prop} (hL : W.heap[BL]? = some (.cells #[v] ty)) (hrow : W.ownsRow base e size v k xs) (_hty : ty ≠ e)
  (ho : OnlyIn (fun _ => False) W Wt) (hown : w'.ownsRow base e size (.slice (some ⟨g, 0, none⟩) (k + 1) cap) (k + 1) ys) (hgrow : Wt.grownBy w' v.ownBlock) (hg : v.ownBlock = some g ∨ Wt.heap.size <= g)
  (hBL : BL < hs) (hb : hs <= base) (hPr : ∀ j, Pr j -> j ≠ BL /\ j < base /\ j < W.heap.size) :
  w'.heap[BL]? = some (.cells #[v] ty) /\ ListAt (w'.setCell ⟨BL, 0, none⟩ (.slice (some ⟨g, 0, none⟩) (k + 1) cap)) base BL ty e size (k + 1) ys /\
   Turn hs Pr (OwL BL ty) W (w'.setCell ⟨BL, 0, none⟩ (.slice (some ⟨g, 0, none⟩) (k + 1) cap)) /\ OnlyIn (fun j => j = BL ∨ base <= j) W (w'.setCell ⟨BL, 0, none⟩ (.slice (some ⟨g, 0, none⟩) (k + 1) cap)) := by
 have hBlt : BL < W.heap.size := (Array.getElem?_eq_some_iff.1 hL).1
 have hLt : Wt.heap[BL]? = some (.cells #[v] ty) := (ho.block BL hBlt (fun h => h)).trans hL
 have hnr : some BL ≠ v.ownBlock := fun e' => by
  have h := (hrow.lt BL e'.symm).1; omega
 have hLw : w'.heap[BL]? = some (.cells #[v] ty) := (hgrow.block BL (Array.getElem?_eq_some_iff.1 hLt).1 hnr).trans hLt
 have hne : g ≠ BL := fun e' => by
  rcases hg with h | h
  · exact hnr (by rw [h, e'])
  · have := (Array.getElem?_eq_some_iff.1 hLt).1; omega
 have hL3 : (w'.setCell ⟨BL, 0, none⟩ (.slice (some ⟨g, 0, none⟩) (k + 1) cap)).heap[BL]? = some (.cells #[.slice (some ⟨g, 0, none⟩) (k + 1) cap] ty) := blk_set1 hLw _
 have hkeep : ∀ j, j < W.heap.size -> j ≠ BL -> some j ≠ v.ownBlock -> (w'.setCell ⟨BL, 0, none⟩ (.slice (some ⟨g, 0, none⟩) (k + 1) cap)).heap[j]? = W.heap[j]? := fun j hj hjB hjv =>
  (heap_setCell_past w' ⟨BL, 0, none⟩ _ j hjB).trans ((hgrow.block j (Nat.lt_of_lt_of_le hj ho.size) hjv).trans (ho.block j hj (fun h => h)))
 have hsz : W.heap.size <= (w'.setCell ⟨BL, 0, none⟩ (.slice (some ⟨g, 0, none⟩) (k + 1) cap)).heap.size := by
  simp only [World.size_setCell]; exact Nat.le_trans ho.size hgrow.size
 refine ⟨hLw, ⟨_, hL3, hown.kept (grownBy_setCell' w' BL _) (.inr (by simp only [Value.ownBlock, ne_eq, Option.some.injEq]; exact hne))⟩, ⟨hsz, fun j hj => ?_, fun j h1 h2 h3 => ?_, fun j hj ⟨u, h3, h4⟩ => ?_⟩, ⟨?_, ?_, ?_, hsz, fun j hj hx => ?_⟩⟩
 · obtain ⟨a1, a2, a3⟩ := hPr j hj
   exact hkeep j a3 a1 (fun e' => by have := (hrow.lt j e'.symm).1; omega)
 · exact hkeep j h2 (by omega) (fun e' => h3 ⟨v, hL, e'.symm⟩)
 · rw [hL3] at h3
   simp only [Option.some.injEq, Obj.cells.injEq, Array.mk.injEq, List.cons.injEq, and_true] at h3
   subst h3
   simp only [Value.ownBlock, Option.some.injEq] at h4
   subst h4
   rcases hg with h | h
   · exact ⟨v, hL, h⟩
   · have := ho.size; omega
 · show w'.os = _; rw [hgrow.os, ho.os]
 · show w'.tape = _; rw [hgrow.tape, ho.tape]
 · show w'.output = _; rw [hgrow.output, ho.output]
 · exact hkeep j hj (fun e' => hx (Or.inl e')) (fun e' => hx (Or.inr (hrow.lt j e'.symm).1))
theorem cells_new (W : World) (l : List Value) (t : TypeId) : ∀ j u, l[j]? = some u -> (W.alloc (.cells ⟨l⟩ t)).cell? ((⟨W.heap.size, 0, none⟩ : Addr).add j) = some u := by
 intro j u hu
 have hadd : (⟨W.heap.size, 0, none⟩ : Addr).add j = ⟨W.heap.size, j, none⟩ := by unfold Addr.add; split <;> simp_all
 rw [hadd, blk_cell (heap_alloc_at W _ _ rfl) j]
 simpa using hu
theorem row_mono {W : World} {base b' : Nat} {e : TypeId} {size k : Nat} {v : Value} {xs : List Value} (h : W.ownsRow base e size v k xs) (hb : b' <= base) : W.ownsRow b' e size v k xs :=
 ⟨h.1, h.2.imp id fun ⟨g, cap, cur, he, hb', rest⟩ => ⟨g, cap, cur, he, Nat.le_trans hb hb', rest⟩⟩
theorem elemOf {P : Program} {e : TypeId} {z : Value} {size bytes : Nat} (h : (P.info? e).map (fun i => (i.zero, i.size, i.bytes)) = some (some z, size, bytes)) : ∃ i, P.info? e = some i /\ i.zero = some z /\ i.size = size /\ i.bytes = bytes := by
 cases hi : P.info? e with
 | none => rw [hi] at h; cases h
 | some i =>
   rw [hi] at h
   simp only [Option.map_some, Option.some.injEq, Prod.mk.injEq] at h
   exact ⟨i, rfl, h.1, h.2.1, h.2.2⟩
theorem grown_of_below {W W1 : World} (h : Below W.heap.size W W1) : W.grownBy W1 none := ⟨h.os, h.tape, h.output, h.size, fun k hk _ => h.block k hk⟩
theorem row_later {W W1 : World} {base : Nat} {e : TypeId} {size k : Nat} {v : Value} {xs : List Value} (h : W.ownsRow base e size v k xs) (hb : Below W.heap.size W W1) : W1.ownsRow base e size v k xs :=
 h.kept (grown_of_below hb) (by cases v.ownBlock <;> simp)
theorem rf_list {P : Program} {n : Nat} {α : Type} {g : Operand} {ps : Array Tmp} {assign body : Code} {Q : Exit -> Act -> World -> Prop} {a : Act} {w : World}
  {gf : Nat} {lb : Array Value} (hg : a.eval g = .func (.func gf) #[] lb) (eg : ∀ args w, (callFunc gf args).run P w = .ok (.enter gf args) w)
  {encs : α -> Array Value} {xs : List α} {Pr : Nat -> Prop} (hit : ItC P gf lb encs xs Pr w) (hps : ∀ x, (encs x).size = ps.size) (hPr : ∀ k, Pr k -> k < w.heap.size)
  (w0 : World) (bs : List (Nat × Obj)) (BL : Nat) (ty e : TypeId) (size : Nat) (kf : List α -> Nat) (xf : List α -> List Value) (o : α -> Obj) (upd : α -> Nat -> List (Nat × Value))
  (hbs : ∀ p ∈ bs, p.1 < w.heap.size) (h0 : Held w0 bs w) (hL0 : w.heap[BL]? = some (.cells #[.slice none 0 0] ty)) (hk0 : kf [] = 0) (hx0 : xf [] = [])
  (hassign : ∀ (l : Nat) (x : α) (W : World) (K : Act -> World -> Prop), K { tmps := putAll a.tmps (upd x W.heap.size), defers := [] } (W.alloc (o x)) ->
   assign.wpIn (Fence.wide.inRound l) 9 P (Exit.then K (fun _ _ _ => False)) { tmps := (ps.zip (encs x)).foldl (fun t (p, v) => t.setIfInBounds p v) a.tmps, defers := [] } W)
  (hbody : ∀ (l : Nat) (pre : List α) (x : α) (rest : List α) (bx : Nat) (W : World) (v : Value), xs = pre ++ x :: rest -> Held w0 bs W -> W.heap[BL]? = some (.cells #[v] ty) -> W.ownsRow w.heap.size e size v (kf pre) (xf pre) -> W.heap[bx]? = some (o x) -> w.heap.size <= bx -> v.ownBlock ≠ some bx ->
   body.wpIn (Fence.wide.inRound l) 9 P (fun e' _ W' => e' = .normal /\ Turn w.heap.size Pr (OwL BL ty) W W' /\ Held w0 bs W' /\ ListAt W' w.heap.size BL ty e size (kf (pre ++ [x])) (xf (pre ++ [x]))) { tmps := putAll a.tmps (upd x bx), defers := [] } W)
  (hdone : ∀ (D : Nat) (W : World) (v : Value), w.heap.size <= D -> Held w0 bs W -> W.heap[BL]? = some (.cells #[v] ty) -> W.ownsRow w.heap.size e size v (kf xs) (xf xs) -> W.heap[D]? = some (.deferred (some [])) -> Q .normal { a with defers := { target := .collected D, args := #[] } :: a.defers } W) :
  (Code.rangeFunc g ps assign body).wpIn Fence.wide n P Q a w := by
 have hBL : BL < w.heap.size := (Array.getElem?_eq_some_iff.1 hL0).1
 refine rf_law2 hg eg hit hps hPr (fun pre W => Held w0 bs W /\ ListAt W w.heap.size BL ty e size (kf pre) (xf pre)) (fun _ _ _ => False) (OwL BL ty) o upd
  (fun pre W k h hk => (h.2.own hk).2) ?_ (fun _ _ _ _ _ h => h.elim) ⟨h0, _, hL0, by rw [hk0, hx0]; exact World.ownsRow_nil _ _ _ _⟩ hassign ?_ ?_ (fun _ _ _ _ _ h => h.elim)
 · rintro pre X W W' ⟨h1, h2⟩ ho hX
   obtain ⟨h3, h4⟩ := h2.only ho hX hBL
   exact ⟨⟨h1.only ho (hs := w.heap.size) (fun k h => (hX k h).1) h0.below.size hbs, h3⟩, h4⟩
 · rintro l pre x rest bx W hsp ⟨h1, v, h2, h3⟩ hbx hlb hnb
   refine wpIn_mono (hbody l pre x rest bx W v hsp h1 h2 h3 hbx hlb (fun e' => hnb ⟨v, h2, e'⟩)) ?_
   rintro e' a' W' ⟨rfl, q1, q2, q3⟩
   exact ⟨q1, q2, q3⟩
 · rintro D W hD ⟨h1, v, h2, h3⟩ hd
   exact hdone D W v hD h1 h2 h3 hd
end
section
set_option linter.unusedSimpArgs false
set_option linter.unusedVariables false
open Go Go.RowKit Go.Sort Go.BigFrame
theorem add_offi (g j : Nat) : (⟨g, 0, none⟩ : Addr).add j = ⟨g, j, none⟩ := by unfold Addr.add; split <;> simp_all
theorem strs_of_row {W : World} {base : Nat} {v : Value} {e : TypeId} {xs : List Bs} (h : W.ownsRow base e 1 v xs.length (xs.map S)) : StrsAt W v xs := by
 rcases h.2 with ⟨rfl, h0⟩ | ⟨g, cap, cur, rfl, hb, hg, rest⟩
 · exact ⟨none, 0, by rw [h0], fun hne => absurd (List.length_eq_zero_iff.1 h0) hne⟩
 · refine ⟨_, cap, rfl, fun _ => ⟨g, rfl, blk_lt hg, fun i x hx => ?_⟩⟩
   have hc := h.cells (g := g) (by simp [Value.ownBlock])
   have := hc i (S x) (by rw [List.getElem?_map, hx]; rfl)
   rwa [add_offi] at this
theorem below_row {W W' : World} {base : Nat} {v : Value} {e : TypeId} {s n : Nat} {xs : List Value} (h : W.ownsRow base e s v n xs) (hz : base <= W.heap.size) (hg : W.grownBy W' v.ownBlock) : Below base W W' :=
 ((Below.refl _ W).mono hz).grown hg hz (fun k hk => (h.lt k hk).1)
theorem elemStr : ∃ i, Tryz.prog.info? 9 = some i /\ i.zero = some (.string ⟨#[]⟩) /\ i.size = 1 /\ i.bytes = 16 := elemOf (by kernel_rfl)
theorem undStrs : Tryz.prog.underlying 147 = some (.slice 9) := by kernel_rfl
end
end Go.Proofs.YtpdhdgdbknnllaaGreatDoor
