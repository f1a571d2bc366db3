/- The parts Tj, Io, Iq, Ir of the proof, joined. It holds without conditions of its own. -/
import Derived.Test.YtnhacghjoikgpaaGreatDoorFX10
import Derived.Deep.RegionHeld3
import Derived.Test.YtnhacghjoikgpaaGreatDoorFX8
import Derived.Test.YtnhacghjoikgpaaGreatDoorFX9
/- Mates of a way of making without an error. -/
namespace Go.Proofs.YtnhacghjoikgpaaGreatDoor
set_option linter.unusedSimpArgs false
set_option linter.unusedVariables false
open Go Go.RowKit Go.Sort Go.BigFrame

set_option maxRecDepth 100000 in
set_option maxHeartbeats 4000000 in
theorem Mates_any (p : Prs) (m : Mkw) (f : Fmt) (ls : List Fl) (i : Nat) (vp : Value) (w : World) (hp : PrsAt w.heap.size w vp p) (he : errP p = 0) (hm : mkwErr p m = 0)
    (hf : p.fmts[m.fmt.toNat]? = some f) (hls : ls = leavesF (fdsB f.folds) m.sheets.toNat m.half) (hn : ls.length ≤ 1000) (hi : i < ls.length) :
    Calls Tryz.prog 19 #[vp, mkwV m, .int .i64 i] w fun e w' => (∃ v', e = .returned (.tuple #[v', .int .i64 ((ls.length - 1 - i : Nat) : Int), .int .i64 0]) ∧ IntsAt w' v' ((matesF ls i).map fun (n : Nat) => (n : Int))) ∧ Below w.heap.size w w' := by
  have HP := Lib.hid hp
  have HE := Lib.hid he
  have HM := Lib.hid hm
  have HF := Lib.hid hf
  have HLS := Lib.hid hls
  obtain ⟨fv, pv, rfl, ⟨a, cap, rfl, -⟩, ⟨a2, cap2, rfl, -⟩, -⟩ := hp
  obtain ⟨n1, hn1⟩ : ∃ n, n = p.fmts.length := ⟨_, rfl⟩
  obtain ⟨n2, hn2⟩ : ∃ n, n = p.pprs.length := ⟨_, rfl⟩
  rw [← hn1, ← hn2] at HP ⊢
  clear hn1 hn2 he hm hf hls
  obtain ⟨y, hy⟩ : ∃ y, ls[i]? = some y := ⟨_, List.getElem?_eq_getElem hi⟩
  have HY := Lib.hid hy
  obtain ⟨n7, hn7⟩ : ∃ n, n = ls.length := ⟨_, rfl⟩
  have HN7 := Lib.hid hn7
  obtain ⟨cj, hcj⟩ : ∃ c : Int, c = ((ls.length - 1 - i : Nat) : Int) := ⟨_, rfl⟩
  rw [← hcj]
  have HCJ := Lib.hid hcj
  rw [← hn7] at hn hi
  clear hy hn7 hcj
  go_enter Tryz.func19, Tryz.ntmps19
  go_wp2_with fail
  refine (openWay_any p m _ _ (HP.out.later (by exact (by repeat (first | exact Below.refl _ _ | assumption | (refine Below.alloc ?_ ?_ _; rotate_left; · (first | omega | (simp; done) | (simp; omega) | fail)) | (refine Below.setCell ?_ ?_ _; rotate_left; · (first | omega | (simp; done) | (simp; omega) | fail)) | refine Below.drew ?_ | fail)))) HE.out HM.out).mono ?_
  rintro e w2 ⟨⟨f', q, lv, g, hfx, hqx, rfl, hl, hg⟩, hb⟩
  obtain rfl : f' = f := Option.some.inj (hfx.symm.trans HF.out)
  rw [← HLS.out] at hl
  have hb0 : Below w.heap.size w w2 := Below.trans (by exact (by repeat (first | exact Below.refl _ _ | assumption | (refine Below.alloc ?_ ?_ _; rotate_left; · (first | omega | (simp; done) | (simp; omega) | fail)) | (refine Below.setCell ?_ ?_ _; rotate_left; · (first | omega | (simp; done) | (simp; omega) | fail)) | refine Below.drew ?_ | fail))) (hb.mono (by simp; try omega))
  have HL := Lib.hid hl
  obtain ⟨k7, rest, rfl, -⟩ := hl
  rw [← HN7.out] at HL ⊢
  have hg2 : w.heap.size ≤ g := by simp at hg; omega
  have hz2 := hb0.size
  clear hfx hqx hb hg
  obtain ⟨co, hco⟩ : ∃ c : Int, c = (colsF (fdsB f'.folds) : Int) := ⟨_, rfl⟩
  obtain ⟨ro, hro⟩ : ∃ c : Int, c = (rowsF (fdsB f'.folds) : Int) := ⟨_, rfl⟩
  rw [← hco, ← hro]
  clear hco hro
  obtain ⟨w3, hw3⟩ : ∃ w3, w3 = (w2.alloc (.cells (wayC m f'.folds co ro q p.trim (.slice (some ⟨g, 0, none⟩) n7 (n7 + k7))) 83)) := ⟨_, rfl⟩
  have hc3 : w3.heap[w2.heap.size]? = some (.cells (wayC m f'.folds co ro q p.trim (.slice (some ⟨g, 0, none⟩) n7 (n7 + k7))) 83 (0, 0)) := by rw [hw3]; exact (by repeat (first | exact heap_alloc_at _ _ _ (by (first | omega | (simp; done) | (simp; omega) | (simp at *; omega) | fail)) | assumption | rw [heap_alloc_past _ _ _ (by (first | omega | (simp; done) | (simp; omega) | (simp at *; omega) | fail))] | rw [heap_setCell_past _ _ _ _ (by (first | omega | (simp; done) | (simp; omega) | (simp at *; omega) | fail))] | fail))
  have hb3 : Below w.heap.size w w3 := by rw [hw3]; exact hb0.alloc hz2 _
  have HL3 := Lib.hid (show LeavesAt w3 _ ls g by rw [hw3]; exact HL.out.later ((Below.refl _ _).alloc (Nat.le_refl _) _))
  have hz3 : w2.heap.size < w3.heap.size := by rw [hw3]; simp
  have hin : inB 0 ((n7 : Int) - 1) i = true := by simp [inB]; omega
  rw [hw3] at hc3 hb3 HL3 hz3
  clear hw3 w3
  go_wp2_with fail
  refine (within_one 0 ((n7 : Int) - 1) i _ _ (by simp [World.cell?_alloc_at])).mono ?_
  rintro e w4 ⟨rfl, rfl⟩
  rw [hin]
  have hb4 : Below w.heap.size w ((w2.alloc (.cells (wayC m f'.folds co ro q p.trim (.slice (some ⟨g, 0, none⟩) n7 (n7 + k7))) 83)).alloc (.cells #[.int .i64 i] 3)) := hb3.alloc hb3.size _
  have hc4 : ((w2.alloc (.cells (wayC m f'.folds co ro q p.trim (.slice (some ⟨g, 0, none⟩) n7 (n7 + k7))) 83)).alloc (.cells #[.int .i64 i] 3)).heap[w2.heap.size]? = some (.cells (wayC m f'.folds co ro q p.trim (.slice (some ⟨g, 0, none⟩) n7 (n7 + k7))) 83 (0, 0)) := by exact (by repeat (first | exact heap_alloc_at _ _ _ (by (first | omega | (simp; done) | (simp; omega) | (simp at *; omega) | fail)) | assumption | rw [heap_alloc_past _ _ _ (by (first | omega | (simp; done) | (simp; omega) | (simp at *; omega) | fail))] | rw [heap_setCell_past _ _ _ _ (by (first | omega | (simp; done) | (simp; omega) | (simp at *; omega) | fail))] | fail))
  have HL4 := Lib.hid (HL3.out.later ((Below.refl _ _).alloc (Nat.le_refl _) (.cells #[.int .i64 i] 3)))
  have hz4 : w2.heap.size < ((w2.alloc (.cells (wayC m f'.folds co ro q p.trim (.slice (some ⟨g, 0, none⟩) n7 (n7 + k7))) 83)).alloc (.cells #[.int .i64 i] 3)).heap.size := by simp; omega
  clear hc3 hb3 HL3 hz3
  have HB4 := Lib.hid hb4
  have HC4 := Lib.hid hc4
  have HZ4 := Lib.hid hz4
  clear hb4 hc4 hz4
  go_wp2_with fail
  revert HB4 HC4 HL4 HZ4
  dsimp only [wayC]
  generalize ((w2.alloc (.cells #[.int .i64 m.fmt, .int .i64 m.ppr, .int .i64 m.sheets, .bool m.half, S f'.folds, .int .i64 co, .int .i64 ro, S q.name, .int .i64 q.wlo, .int .i64 q.whi, .int .i64 q.hlo, .int .i64 q.hhi, .int .i64 p.trim, (.slice (some ⟨g, 0, none⟩) n7 (n7 + k7))] 83)).alloc (.cells #[.int .i64 i] 3)) = w4
  intro HL4 HB4 HC4 HZ4
  have d0 : w4.drew.cell? ⟨w2.heap.size, 0, none⟩ = some (.int .i64 m.fmt) := blk_cell HC4.out 0
  have d1 : w4.drew.cell? ⟨w2.heap.size, 1, none⟩ = some (.int .i64 m.ppr) := blk_cell HC4.out 1
  have d2 : w4.drew.cell? ⟨w2.heap.size, 2, none⟩ = some (.int .i64 m.sheets) := blk_cell HC4.out 2
  have d3 : w4.drew.cell? ⟨w2.heap.size, 3, none⟩ = some (.bool m.half) := blk_cell HC4.out 3
  have d4 : w4.drew.cell? ⟨w2.heap.size, 4, none⟩ = some (S f'.folds) := blk_cell HC4.out 4
  have d5 : w4.drew.cell? ⟨w2.heap.size, 5, none⟩ = some (.int .i64 co) := blk_cell HC4.out 5
  have d6 : w4.drew.cell? ⟨w2.heap.size, 6, none⟩ = some (.int .i64 ro) := blk_cell HC4.out 6
  have d7 : w4.drew.cell? ⟨w2.heap.size, 7, none⟩ = some (S q.name) := blk_cell HC4.out 7
  have d8 : w4.drew.cell? ⟨w2.heap.size, 8, none⟩ = some (.int .i64 q.wlo) := blk_cell HC4.out 8
  have d9 : w4.drew.cell? ⟨w2.heap.size, 9, none⟩ = some (.int .i64 q.whi) := blk_cell HC4.out 9
  have d10 : w4.drew.cell? ⟨w2.heap.size, 10, none⟩ = some (.int .i64 q.hlo) := blk_cell HC4.out 10
  have d11 : w4.drew.cell? ⟨w2.heap.size, 11, none⟩ = some (.int .i64 q.hhi) := blk_cell HC4.out 11
  have d12 : w4.drew.cell? ⟨w2.heap.size, 12, none⟩ = some (.int .i64 p.trim) := blk_cell HC4.out 12
  have d13 : w4.drew.cell? ⟨w2.heap.size, 13, none⟩ = some (.slice (some ⟨g, 0, none⟩) n7 (n7 + k7)) := blk_cell HC4.out 13
  have HB4' : Hid (Below w.heap.size w w4.drew) := Lib.hid HB4.out.drew
  have HL4' : Hid (LeavesAt w4.drew (.slice (some ⟨g, 0, none⟩) n7 (n7 + k7)) ls g) := Lib.hid (HL4.out.later (Below.refl _ _).drew)
  have hz4 : w2.heap.size < w4.drew.heap.size := HZ4.out
  clear HB4 HC4 HL4 HZ4
  refine wp_region_held_drew (S := fun u => u.cell? ⟨w2.heap.size, 0, none⟩ = some (.int .i64 m.fmt) ∧ u.cell? ⟨w2.heap.size, 1, none⟩ = some (.int .i64 m.ppr) ∧ u.cell? ⟨w2.heap.size, 2, none⟩ = some (.int .i64 m.sheets) ∧ u.cell? ⟨w2.heap.size, 3, none⟩ = some (.bool m.half) ∧ u.cell? ⟨w2.heap.size, 4, none⟩ = some (S f'.folds) ∧ u.cell? ⟨w2.heap.size, 5, none⟩ = some (.int .i64 co) ∧ u.cell? ⟨w2.heap.size, 6, none⟩ = some (.int .i64 ro) ∧ u.cell? ⟨w2.heap.size, 7, none⟩ = some (S q.name) ∧ u.cell? ⟨w2.heap.size, 8, none⟩ = some (.int .i64 q.wlo) ∧ u.cell? ⟨w2.heap.size, 9, none⟩ = some (.int .i64 q.whi) ∧ u.cell? ⟨w2.heap.size, 10, none⟩ = some (.int .i64 q.hlo) ∧ u.cell? ⟨w2.heap.size, 11, none⟩ = some (.int .i64 q.hhi) ∧ u.cell? ⟨w2.heap.size, 12, none⟩ = some (.int .i64 p.trim) ∧ u.cell? ⟨w2.heap.size, 13, none⟩ = some (.slice (some ⟨g, 0, none⟩) n7 (n7 + k7))) (by kernel_rfl) ?_ (fun hHeld => ?_)
  · exact ⟨d0, d1, d2, d3, d4, d5, d6, d7, d8, d9, d10, d11, d12, d13⟩
  refine wpAnyH_take (i := 0) (v := ?_) rfl (by kernel_rfl) (by kernel_rfl) (by kernel_rfl) (fun _ _ _ h => h) (Or.inl ⟨by rfl, ?_⟩) (by assumption) ?_
  rotate_left
  · (intro w hSw; (try dsimp only at hSw); go_simp; (try with_reducible rfl))
  (try simp only [Act.put, List.setIfInBounds_toArray, List.set_cons_zero, List.set_cons_succ])
  refine wpAnyH_take (i := 1) (v := ?_) rfl (by kernel_rfl) (by kernel_rfl) (by kernel_rfl) (fun _ _ _ h => h) (Or.inl ⟨by rfl, ?_⟩) (by assumption) ?_
  rotate_left
  · (intro w hSw; (try dsimp only at hSw); go_simp; (try with_reducible rfl))
  (try simp only [Act.put, List.setIfInBounds_toArray, List.set_cons_zero, List.set_cons_succ])
  refine wpAnyH_take (i := 3) (v := ?_) rfl (by kernel_rfl) (by kernel_rfl) (by kernel_rfl) (fun _ _ _ h => h) (Or.inl ⟨by rfl, ?_⟩) (by assumption) ?_
  rotate_left
  · (intro w hSw; (try dsimp only at hSw); go_simp; (try with_reducible rfl))
  (try simp only [Act.put, List.setIfInBounds_toArray, List.set_cons_zero, List.set_cons_succ])
  refine wpAnyH_take (i := 4) (v := ?_) rfl (by kernel_rfl) (by kernel_rfl) (by kernel_rfl) (fun _ _ _ h => h) (Or.inl ⟨by rfl, ?_⟩) (by assumption) ?_
  rotate_left
  · (intro w hSw; (try dsimp only at hSw); go_simp; (try with_reducible rfl))
  (try simp only [Act.put, List.setIfInBounds_toArray, List.set_cons_zero, List.set_cons_succ])
  revert HB4' HL4' hz4 d0 d1 d2 d3 d4 d5 d6 d7 d8 d9 d10 d11 d12 d13 hHeld
  generalize w4.drew = w5
  intro d0 d1 d2 d3 d4 d5 d6 d7 d8 d9 d10 d11 d12 d13 HB5 HL5 hz5 hHeld
  refine wpAnyH_ready (rs := [2]) (by kernel_rfl) (by simp) ?_
  refine AllReadyH.cons rfl (fun K hK => ?_) AllReadyH.nil
  go_simp
  refine (mates_any m f'.folds co ro q p.trim (.slice (some ⟨g, 0, none⟩) n7 (n7 + k7)) ls g i y _ HL5.out (by rw [← HN7.out]; exact hn) HY.out).mono ?_
  rintro e w6 ⟨⟨v6, rfl, hr6⟩, hb⟩
  have HR6 := Lib.hid (ints_of_row hr6)
  have HB6 := Lib.hid (HB5.out.trans (hb.mono HB5.out.size))
  have HL6 := Lib.hid (HL5.out.later hb)
  have d0 := cell_later' hb d0
  have d1 := cell_later' hb d1
  have d2 := cell_later' hb d2
  have d3 := cell_later' hb d3
  have d4 := cell_later' hb d4
  have d5 := cell_later' hb d5
  have d6 := cell_later' hb d6
  have d7 := cell_later' hb d7
  have d8 := cell_later' hb d8
  have d9 := cell_later' hb d9
  have d10 := cell_later' hb d10
  have d11 := cell_later' hb d11
  have d12 := cell_later' hb d12
  have d13 := cell_later' hb d13
  have hz6 : w2.heap.size < w6.heap.size := Nat.lt_of_lt_of_le hz5 hb.size
  clear HB5 HL5 hz5 hb hr6
  go_simp
  refine hK.out _ _ ?_ (fun hNew => ?_)
  · (try dsimp only); go_keep
  clear hK K hHeld
  have hHeld := hNew
  clear hNew
  (try simp only [Act.put, List.setIfInBounds_toArray, List.set_cons_zero, List.set_cons_succ])
  refine wpAnyH_ready (rs := [5]) (by kernel_rfl) (by simp) ?_
  refine AllReadyH.cons rfl (fun K hK => ?_) AllReadyH.nil
  go_simp
  refine (conjugate_any m f'.folds co ro q p.trim (.slice (some ⟨g, 0, none⟩) n7 (n7 + k7)) ls g i _ HL6.out (by rw [← HN7.out]; exact hn) (by rw [← HN7.out]; exact hi)).mono ?_
  rintro e w7 ⟨rfl, hb⟩
  rw [← HCJ.out]
  have HR7 := Lib.hid (show IntsAt w7 v6 _ from HR6.out.later hb)
  have HB7 := Lib.hid (HB6.out.trans (hb.mono HB6.out.size))
  have d0 := cell_later' hb d0
  have d1 := cell_later' hb d1
  have d2 := cell_later' hb d2
  have d3 := cell_later' hb d3
  have d4 := cell_later' hb d4
  have d5 := cell_later' hb d5
  have d6 := cell_later' hb d6
  have d7 := cell_later' hb d7
  have d8 := cell_later' hb d8
  have d9 := cell_later' hb d9
  have d10 := cell_later' hb d10
  have d11 := cell_later' hb d11
  have d12 := cell_later' hb d12
  have d13 := cell_later' hb d13
  clear HB6 HR6 HL6 hb
  go_simp
  refine hK.out _ _ ?_ (fun hNew => ?_)
  · (try dsimp only); go_keep
  clear hK K hHeld
  have hHeld := hNew
  clear hNew
  (try simp only [Act.put, List.setIfInBounds_toArray, List.set_cons_zero, List.set_cons_succ])
  refine wpAnyH_ready (rs := [6]) (by kernel_rfl) (by simp) ?_
  refine AllReadyH.cons rfl (fun K hK => ?_) AllReadyH.nil
  go_simp
  refine hK.out _ _ ?_ (fun hNew => ?_)
  · (try dsimp only); go_keep
  clear hK K hHeld
  have hHeld := hNew
  clear hNew
  (try simp only [Act.put, List.setIfInBounds_toArray, List.set_cons_zero, List.set_cons_succ])
  refine wpAnyH_ready (rs := [7]) (by kernel_rfl) (by simp) ?_
  refine AllReadyH.cons rfl (fun K hK => ?_) AllReadyH.nil
  go_simp
  refine hK.out _ _ ?_ (fun hNew => ?_)
  · (try dsimp only); go_keep
  clear hK K hHeld
  have hHeld := hNew
  clear hNew
  (try simp only [Act.put, List.setIfInBounds_toArray, List.set_cons_zero, List.set_cons_succ])
  refine wpAnyH_ready (rs := [8]) (by kernel_rfl) (by simp) ?_
  refine AllReadyH.cons rfl (fun K hK => ?_) AllReadyH.nil
  go_simp
  refine hK.out _ _ ?_ (fun hNew => ?_)
  · (try dsimp only); go_keep
  clear hK K hHeld
  have hHeld := hNew
  clear hNew
  (try simp only [Act.put, List.setIfInBounds_toArray, List.set_cons_zero, List.set_cons_succ])
  refine wpAnyH_done (by kernel_rfl) ?_ _
  clear hHeld d0 d1 d2 d3 d4 d5 d6 d7 d8 d9 d10 d11 d12 d13
  go_wp2_with fail
  go_ret3
  exact ⟨⟨v6, rfl, HR7.out⟩, HB7.out⟩
end Go.Proofs.YtnhacghjoikgpaaGreatDoor

/- Check of what is seen of a gathering. -/
namespace Go.Proofs.YtnhacghjoikgpaaGreatDoor
set_option linter.unusedSimpArgs false
set_option linter.unusedVariables false
open Go Go.RowKit Go.Sort Go.BigFrame

theorem checkK_is (p : Prs) (b : Bok) : checkK p b = if errP p ≠ 0 then (0, 0, errP p)
  else if inI 1 64 b.leaves = false then (1, 0, 7)
  else if inI 0 2 b.chain = false then (2, 0, 2)
  else if spansErr 0 2000 b.wlo b.whi b.hlo b.hhi ≠ 0 then (3, 0, spansErr 0 2000 b.wlo b.whi b.hlo b.hhi)
  else if (marksR 0 8 b.leaves b.marks).2 ≠ 0 then (4, (marksR 0 8 b.leaves b.marks).1, (marksR 0 8 b.leaves b.marks).2) else (0, 0, 0) := by
  have key : ∀ (l : List (Int × Bool)) (k : Nat), (marksErr b.leaves k l).2 = 0 ∨ (marksErr b.leaves k l).2 = 4 := by
    intro l
    induction l with
    | nil => intro k; exact Or.inl rfl
    | cons m l ih =>
      intro k
      unfold marksErr
      split
      · exact ih _
      · exact Or.inr rfl
  unfold checkK marksR
  cases inI 0 8 b.marks.length
  · simp
  · rcases key b.marks 0 with h | h <;> simp [h]

set_option maxRecDepth 100000 in
set_option maxHeartbeats 2000000 in
theorem foldCheckBook_any (p : Prs) (b : Bok) (vp vb : Value) (w : World) (hp : PrsAt w.heap.size w vp p) (hb : BokAt w.heap.size w vb b) :
    Calls Tryz.prog 57 #[vp, vb] w fun e w' => e = .returned (.tuple #[.int .i64 ((checkK p b).1 : Nat), .int .i64 ((checkK p b).2.1 : Nat), .int .i64 (checkK p b).2.2]) ∧ Below w.heap.size w w' := by
  have HP := Lib.hid hp
  obtain ⟨fv, pv, rfl, ⟨a, cap, rfl, -⟩, ⟨a2, cap2, rfl, -⟩, -⟩ := hp
  obtain ⟨n1, hn1⟩ : ∃ n, n = p.fmts.length := ⟨_, rfl⟩
  obtain ⟨n2, hn2⟩ : ∃ n, n = p.pprs.length := ⟨_, rfl⟩
  rw [← hn1, ← hn2] at HP ⊢
  clear hn1 hn2
  obtain ⟨mv, rfl, hm⟩ := hb
  have HM := Lib.hid hm
  clear hm
  obtain ⟨⟨r1, r2, r3⟩, hr⟩ : ∃ r, r = checkK p b := ⟨_, rfl⟩
  rw [← hr]
  obtain ⟨ep, hep⟩ : ∃ ep, ep = errP p := ⟨_, rfl⟩
  obtain ⟨es, hes⟩ : ∃ es, es = spansErr 0 2000 b.wlo b.whi b.hlo b.hhi := ⟨_, rfl⟩
  obtain ⟨⟨m1, m2⟩, hmm⟩ : ∃ m, m = marksR 0 8 b.leaves b.marks := ⟨_, rfl⟩
  have HR : Hid ((r1, r2, r3) = if ep ≠ 0 then (0, 0, ep) else if inI 1 64 b.leaves = false then (1, 0, 7) else if inI 0 2 b.chain = false then (2, 0, 2) else if es ≠ 0 then (3, 0, es) else if m2 ≠ 0 then (4, m1, m2) else (0, 0, 0)) := Lib.hid (by
    rw [hr, checkK_is, ← hep, ← hes, ← hmm])
  have HEP := Lib.hid hep
  have HES := Lib.hid hes
  have HMM := Lib.hid hmm
  clear hr hep hes hmm
  dsimp only
  go_enter Tryz.func57, Tryz.ntmps57
  go_wp2_with fail
  have hb0 : Below w.heap.size w ((w.alloc (.cells #[.slice a n1 cap, .slice a2 n2 cap2, .int .i64 p.trim, .int .i64 p.sheets] 25)).alloc (.cells #[.int .i64 b.leaves, .int .i64 b.chain, .int .i64 b.wlo, .int .i64 b.whi, .int .i64 b.hlo, .int .i64 b.hhi, mv] 30)) := by exact (by repeat (first | exact Below.refl _ _ | assumption | (refine Below.alloc ?_ ?_ _; rotate_left; · (first | omega | (simp; done) | (simp; omega) | fail)) | (refine Below.setCell ?_ ?_ _; rotate_left; · (first | omega | (simp; done) | (simp; omega) | fail)) | refine Below.drew ?_ | fail))
  have b2 : ((w.alloc (.cells #[.slice a n1 cap, .slice a2 n2 cap2, .int .i64 p.trim, .int .i64 p.sheets] 25)).alloc (.cells #[.int .i64 b.leaves, .int .i64 b.chain, .int .i64 b.wlo, .int .i64 b.whi, .int .i64 b.hlo, .int .i64 b.hhi, mv] 30)).heap[w.heap.size + 1]? = some (.cells #[.int .i64 b.leaves, .int .i64 b.chain, .int .i64 b.wlo, .int .i64 b.whi, .int .i64 b.hlo, .int .i64 b.hhi, mv] 30) := (by repeat (first | exact heap_alloc_at _ _ _ (by (first | omega | (simp; done) | (simp; omega) | (simp at *; omega) | fail)) | assumption | rw [heap_alloc_past _ _ _ (by (first | omega | (simp; done) | (simp; omega) | (simp at *; omega) | fail))] | rw [heap_setCell_past _ _ _ _ (by (first | omega | (simp; done) | (simp; omega) | (simp at *; omega) | fail))] | fail))
  revert hb0 b2
  generalize ((w.alloc (.cells #[.slice a n1 cap, .slice a2 n2 cap2, .int .i64 p.trim, .int .i64 p.sheets] 25)).alloc (.cells #[.int .i64 b.leaves, .int .i64 b.chain, .int .i64 b.wlo, .int .i64 b.whi, .int .i64 b.hlo, .int .i64 b.hhi, mv] 30)) = w1
  intro hb0 b2
  refine (foldOpen_any p _ _ (HP.out.later hb0)).mono ?_
  rintro e w2 ⟨rfl, hb2⟩
  rw [← HEP.out]
  have b2 := blk_later hb2 b2
  have hb3 := hb0.trans (hb2.mono hb0.size)
  have hz := blk_lt b2
  clear hb0 hb2
  by_cases h0 : ep = 0
  · have HO : Hid (openP p (.agg #[.slice a n1 cap, .slice a2 n2 cap2, .int .i64 p.trim, .int .i64 p.sheets]) = .agg #[.slice a n1 cap, .slice a2 n2 cap2, .int .i64 p.trim, .int .i64 p.sheets]) := Lib.hid (by unfold openP; rw [if_pos (HEP.out.symm.trans h0)])
    rw [HO.out]
    have HR1 : Hid ((r1, r2, r3) = if inI 1 64 b.leaves = false then (1, 0, 7) else if inI 0 2 b.chain = false then (2, 0, 2) else if es ≠ 0 then (3, 0, es) else if m2 ≠ 0 then (4, m1, m2) else (0, 0, 0)) := Lib.hid (by rw [HR.out, if_neg (by rw [h0]; decide)])
    clear HO HR HEP
    subst h0
    have b3 : (w2.alloc (.cells #[.slice a n1 cap, .slice a2 n2 cap2, .int .i64 p.trim, .int .i64 p.sheets] 122)).heap[w.heap.size + 1]? = some (.cells #[.int .i64 b.leaves, .int .i64 b.chain, .int .i64 b.wlo, .int .i64 b.whi, .int .i64 b.hlo, .int .i64 b.hhi, mv] 30) := (heap_alloc_past _ _ _ hz).trans b2
    have e0 := blk_cell b3 0
    have e1 := blk_cell b3 1
    have e2 := blk_cell b3 2
    have e3 := blk_cell b3 3
    have e4 := blk_cell b3 4
    have e5 := blk_cell b3 5
    have e6 := blk_cell b3 6
    go_wp2_with fail
    refine (within_one 1 64 b.leaves _ _ (by simp [World.cell?_alloc_at])).mono ?_
    rintro e w3 ⟨rfl, hw⟩
    have hbb : Below w2.heap.size w2 w3 := by rw [← hw]; exact (by repeat (first | exact Below.refl _ _ | assumption | (refine Below.alloc ?_ ?_ _; rotate_left; · (first | omega | (simp; done) | (simp; omega) | fail)) | (refine Below.setCell ?_ ?_ _; rotate_left; · (first | omega | (simp; done) | (simp; omega) | fail)) | refine Below.drew ?_ | fail))
    clear hw e0 e1 e2 e3 e4 e5 e6 b3
    have b2 := blk_later hbb b2
    have hb3 := hb3.trans (hbb.mono hb3.size)
    have hz := blk_lt b2
    clear hbb
    cases h1 : inB 1 64 b.leaves with
    | false =>
      have HR2 : Hid (r1 = 1 ∧ r2 = 0 ∧ r3 = 7) := Lib.hid (by have := HR1.out; rw [inI_inB, h1] at this; simpa using this)
      clear HR1
      go_wp2_with fail
      go_ret3
      exact ⟨by rw [HR2.out.1, HR2.out.2.1, HR2.out.2.2]; rfl, hb3⟩
    | true =>
      have HR2 : Hid ((r1, r2, r3) = if inI 0 2 b.chain = false then (2, 0, 2) else if es ≠ 0 then (3, 0, es) else if m2 ≠ 0 then (4, m1, m2) else (0, 0, 0)) := Lib.hid (by rw [HR1.out, if_neg (by rw [inI_inB, h1]; decide)])
      clear HR1
      have e0 := blk_cell b2 0
      have e1 := blk_cell b2 1
      have e2 := blk_cell b2 2
      have e3 := blk_cell b2 3
      have e4 := blk_cell b2 4
      have e5 := blk_cell b2 5
      have e6 := blk_cell b2 6
      go_wp2_with fail
      refine (within_one 0 2 b.chain _ _ (by simp [World.cell?_alloc_at])).mono ?_
      rintro e w4 ⟨rfl, hw⟩
      have hbb : Below w3.heap.size w3 w4 := by rw [← hw]; exact (by repeat (first | exact Below.refl _ _ | assumption | (refine Below.alloc ?_ ?_ _; rotate_left; · (first | omega | (simp; done) | (simp; omega) | fail)) | (refine Below.setCell ?_ ?_ _; rotate_left; · (first | omega | (simp; done) | (simp; omega) | fail)) | refine Below.drew ?_ | fail))
      clear hw e0 e1 e2 e3 e4 e5 e6
      have b2 := blk_later hbb b2
      have hb3 := hb3.trans (hbb.mono hb3.size)
      have hz := blk_lt b2
      clear hbb
      cases h2 : inB 0 2 b.chain with
      | false =>
        have HR2 : Hid (r1 = 2 ∧ r2 = 0 ∧ r3 = 2) := Lib.hid (by have := HR2.out; rw [inI_inB, h2] at this; simpa using this)
        go_wp2_with fail
        go_ret3
        exact ⟨by rw [HR2.out.1, HR2.out.2.1, HR2.out.2.2]; rfl, hb3⟩
      | true =>
        have HR3 : Hid ((r1, r2, r3) = if es ≠ 0 then (3, 0, es) else if m2 ≠ 0 then (4, m1, m2) else (0, 0, 0)) := Lib.hid (by rw [HR2.out, if_neg (by rw [inI_inB, h2]; decide)])
        clear HR2
        have e0 := blk_cell b2 0
        have e1 := blk_cell b2 1
        have e2 := blk_cell b2 2
        have e3 := blk_cell b2 3
        have e4 := blk_cell b2 4
        have e5 := blk_cell b2 5
        have e6 := blk_cell b2 6
        go_wp2_with fail
        refine (spans_two 0 2000 b.wlo b.whi b.hlo b.hhi _ _ (by simp [World.cell?_alloc_at]) (by simp [World.cell?_alloc_at]) (by simp [World.cell?_alloc_at]) (by simp [World.cell?_alloc_at])).mono ?_
        rintro e w5 ⟨rfl, hw⟩
        rw [← HES.out]
        have hbb : Below w4.heap.size w4 w5 := ((Below.refl _ _).alloc (Nat.le_refl _) _).trans (hw.mono (by simp))
        clear hw e0 e1 e2 e3 e4 e5 e6
        have b2 := blk_later hbb b2
        have hb3 := hb3.trans (hbb.mono hb3.size)
        have hz := blk_lt b2
        clear hbb
        by_cases h3 : es = 0
        · have HR4 : Hid ((r1, r2, r3) = if m2 ≠ 0 then (4, m1, m2) else (0, 0, 0)) := Lib.hid (by rw [HR3.out, if_neg (by rw [h3]; decide)])
          clear HR3 HES
          subst h3
          go_wp2_with fail
          have hb3 := hb3.drew
          have d0 : w5.drew.cell? ⟨w.heap.size + 1, 0, none⟩ = some (.int .i64 b.leaves) := blk_cell b2 0
          have d6 : w5.drew.cell? ⟨w.heap.size + 1, 6, none⟩ = some mv := blk_cell b2 6
          refine wp_region_held_drew (S := fun u => u.cell? ⟨w.heap.size + 1, 0, none⟩ = some (.int .i64 b.leaves) ∧ u.cell? ⟨w.heap.size + 1, 6, none⟩ = some mv) (by kernel_rfl) ?_ (fun hHeld => ?_)
          · (try dsimp only); go_keep
          refine wpAnyH_take (i := 0) (v := ?_) rfl (by kernel_rfl) (by kernel_rfl) (by kernel_rfl) (fun _ _ _ h => h) (Or.inl ⟨by rfl, ?_⟩) (by assumption) ?_
          rotate_left
          · (intro w hSw; (try dsimp only at hSw); go_simp; (try with_reducible rfl))
          (try simp only [Act.put, List.setIfInBounds_toArray, List.set_cons_zero, List.set_cons_succ])
          refine wpAnyH_take (i := 1) (v := ?_) rfl (by kernel_rfl) (by kernel_rfl) (by kernel_rfl) (fun _ _ _ h => h) (Or.inl ⟨by rfl, ?_⟩) (by assumption) ?_
          rotate_left
          · (intro w hSw; (try dsimp only at hSw); go_simp; (try with_reducible rfl))
          (try simp only [Act.put, List.setIfInBounds_toArray, List.set_cons_zero, List.set_cons_succ])
          refine wpAnyH_take (i := 2) (v := ?_) rfl (by kernel_rfl) (by kernel_rfl) (by kernel_rfl) (fun _ _ _ h => h) (Or.inl ⟨by rfl, ?_⟩) (by assumption) ?_
          rotate_left
          · (intro w hSw; (try dsimp only at hSw); go_simp; (try with_reducible rfl))
          (try simp only [Act.put, List.setIfInBounds_toArray, List.set_cons_zero, List.set_cons_succ])
          refine wpAnyH_take (i := 3) (v := ?_) rfl (by kernel_rfl) (by kernel_rfl) (by kernel_rfl) (fun _ _ _ h => h) (Or.inl ⟨by rfl, ?_⟩) (by assumption) ?_
          rotate_left
          · (intro w hSw; (try dsimp only at hSw); go_simp; (try with_reducible rfl))
          (try simp only [Act.put, List.setIfInBounds_toArray, List.set_cons_zero, List.set_cons_succ])
          refine wpAnyH_ready (rs := [4]) (by kernel_rfl) (by simp) ?_
          refine AllReadyH.cons rfl (fun K hK => ?_) AllReadyH.nil
          go_simp
          clear b2 hz
          revert hb3 d0 d6 hHeld
          generalize w5.drew = w6
          intro hb3 d0 d6 hHeld
          refine (markError_any b.leaves _).mono ?_
          rintro e w7 ⟨⟨n, rfl, hn⟩, hb⟩
          have hz3 := hb3.size
          have hb4 := hb3.trans (hb.mono hz3)
          have d0 := cell_later' hb d0
          have d6 := cell_later' hb d6
          clear hb
          go_simp
          refine hK.out _ _ ?_ (fun hNew => ?_)
          · (try dsimp only); go_keep
          clear hK K hHeld
          have hHeld := hNew
          clear hNew
          (try simp only [Act.put, List.setIfInBounds_toArray, List.set_cons_zero, List.set_cons_succ])
          refine wpAnyH_ready (rs := [5]) (by kernel_rfl) (by simp) ?_
          refine AllReadyH.cons rfl (fun K hK => ?_) AllReadyH.nil
          go_simp
          refine (listM_any 0 8 b.leaves b.marks mv n w.heap.size _ (HM.out.same fun k hk => hb4.block k hk) hb4.size hn (by decide)).mono ?_
          rintro e w8 ⟨rfl, ho⟩
          rw [← HMM.out]
          have hb5 := hb4.trans (ho.mono hb4.size)
          have d0 := cell_later' ho d0
          have d6 := cell_later' ho d6
          clear ho hb4 hb3 hn
          dsimp only
          go_simp
          refine hK.out _ _ ?_ (fun hNew => ?_)
          · (try dsimp only); go_keep
          clear hK K hHeld
          have hHeld := hNew
          clear hNew
          (try simp only [Act.put, List.setIfInBounds_toArray, List.set_cons_zero, List.set_cons_succ])
          refine wpAnyH_take (i := 6) (v := ?_) rfl (by kernel_rfl) (by kernel_rfl) (by kernel_rfl) (fun _ _ _ h => h) (Or.inl ⟨by rfl, ?_⟩) (by assumption) ?_
          rotate_left
          · (intro w hSw; (try dsimp only at hSw); go_simp; (try with_reducible rfl))
          (try simp only [Act.put, List.setIfInBounds_toArray, List.set_cons_zero, List.set_cons_succ])
          refine wpAnyH_take (i := 7) (v := ?_) rfl (by kernel_rfl) (by kernel_rfl) (by kernel_rfl) (fun _ _ _ h => h) (Or.inl ⟨by rfl, ?_⟩) (by assumption) ?_
          rotate_left
          · (intro w hSw; (try dsimp only at hSw); go_simp; (try with_reducible rfl))
          (try simp only [Act.put, List.setIfInBounds_toArray, List.set_cons_zero, List.set_cons_succ])
          refine wpAnyH_take (i := 8) (v := ?_) rfl (by kernel_rfl) (by kernel_rfl) (by kernel_rfl) (fun _ _ _ h => h) (Or.inl ⟨by rfl, ?_⟩) (by assumption) ?_
          rotate_left
          · (intro w hSw; (try dsimp only at hSw); go_simp; (try with_reducible rfl))
          (try simp only [Act.put, List.setIfInBounds_toArray, List.set_cons_zero, List.set_cons_succ])
          refine wpAnyH_take (i := 9) (v := ?_) rfl (by kernel_rfl) (by kernel_rfl) (by kernel_rfl) (fun _ _ _ h => h) (Or.inl ⟨by rfl, ?_⟩) (by assumption) ?_
          rotate_left
          · (intro w hSw; (try dsimp only at hSw); go_simp; (try with_reducible rfl))
          (try simp only [Act.put, List.setIfInBounds_toArray, List.set_cons_zero, List.set_cons_succ])
          refine wpAnyH_take (i := 10) (v := ?_) rfl (by kernel_rfl) (by kernel_rfl) (by kernel_rfl) (fun _ _ _ h => h) (Or.inl ⟨by rfl, ?_⟩) (by assumption) ?_
          rotate_left
          · (intro w hSw; (try dsimp only at hSw); go_simp; (try with_reducible rfl))
          (try simp only [Act.put, List.setIfInBounds_toArray, List.set_cons_zero, List.set_cons_succ])
          refine wpAnyH_done (by kernel_rfl) ?_ _
          clear hHeld
          have hb3 := hb5
          clear hb5
          by_cases h4 : m2 = 0
          · have HR2 : Hid (r1 = 0 ∧ r2 = 0 ∧ r3 = 0) := Lib.hid (by have := HR4.out; rw [if_neg (by rw [h4]; decide)] at this; simpa using this)
            clear HR4 HMM
            subst h4
            go_wp2_with fail
            go_ret3
            exact ⟨by rw [HR2.out.1, HR2.out.2.1, HR2.out.2.2]; rfl, hb3⟩
          · have HR2 : Hid (r1 = 4 ∧ r2 = m1 ∧ r3 = m2) := Lib.hid (by have := HR4.out; rw [if_pos h4] at this; simpa using this)
            have h0b : (m2 != 0) = true := by simp [h4]
            clear h4 HR4 HMM
            go_wp2_with fail
            go_ret3
            exact ⟨by rw [HR2.out.1, HR2.out.2.1, HR2.out.2.2]; rfl, hb3⟩
        · have HR2 : Hid (r1 = 3 ∧ r2 = 0 ∧ r3 = es) := Lib.hid (by have := HR3.out; rw [if_pos h3] at this; simpa using this)
          have h0b : (es != 0) = true := by simp [h3]
          clear h3 HR3
          go_wp2_with fail
          go_ret3
          exact ⟨by rw [HR2.out.1, HR2.out.2.1, HR2.out.2.2]; rfl, hb3⟩
  · have HO : Hid (openP p (.agg #[.slice a n1 cap, .slice a2 n2 cap2, .int .i64 p.trim, .int .i64 p.sheets]) = .agg #[.slice none 0 0, .slice none 0 0, .int .i64 0, .int .i64 0]) := Lib.hid (by unfold openP; rw [if_neg (fun h => h0 (HEP.out.trans h))])
    rw [HO.out]
    have HR1 : Hid (r1 = 0 ∧ r2 = 0 ∧ r3 = ep) := Lib.hid (by have := HR.out; rw [if_pos h0] at this; simpa using this)
    have h0b : (ep != 0) = true := by simp [h0]
    clear h0 HR HEP HO
    go_wp2_with fail
    go_ret3
    exact ⟨by rw [HR1.out.1, HR1.out.2.1, HR1.out.2.2]; rfl, (by repeat (first | (refine Below.setCell ?_ ?_ _; rotate_left; · (first | omega | (simp; done) | (simp; omega) | fail)) | (refine Below.alloc ?_ ?_ _; rotate_left; · (first | omega | (simp; done) | (simp; omega) | fail)) | refine Below.drew ?_ | exact hb3 | fail))⟩
end Go.Proofs.YtnhacghjoikgpaaGreatDoor

/- The reference: Check of a press. -/
namespace Go.Proofs.YtnhacghjoikgpaaGreatDoor
set_option linter.unusedSimpArgs false
set_option linter.unusedVariables false
open Go Go.RowKit Go.Sort Go.BigFrame
attribute [local go_sem] Oper.semAt_some putAll

/-- The names that were met ahead of one. -/
def seenF (xs : List Fmt) (k : Nat) : List Bs := (xs.take k).map Fmt.name
def seenP (xs : List Ppr) (k : Nat) : List Bs := (xs.take k).map Ppr.name
theorem seenF_next {xs : List Fmt} {k : Nat} {x : Fmt} (h : xs[k]? = some x) : seenF xs (k + 1) = seenF xs k ++ [x.name] := by
  unfold seenF; rw [List.take_add_one, h]; simp
theorem seenP_next {xs : List Ppr} {k : Nat} {x : Ppr} (h : xs[k]? = some x) : seenP xs (k + 1) = seenP xs k ++ [x.name] := by
  unfold seenP; rw [List.take_add_one, h]; simp
theorem seenF_len {xs : List Fmt} {k : Nat} (h : k ≤ xs.length) : (seenF xs k).length = k := by unfold seenF; simp; omega
theorem seenP_len {xs : List Ppr} {k : Nat} (h : k ≤ xs.length) : (seenP xs k).length = k := by unfold seenP; simp; omega

theorem both2_is (a b c d lo hi x : Int) (hx : x = spansErr lo hi a b c d) (w : World) :
    Calls Tryz.prog 65 #[.agg #[.int .i64 a, .int .i64 b], .agg #[.int .i64 c, .int .i64 d], .int .i64 lo, .int .i64 hi] w fun e w' => e = .returned (.int .i64 x) ∧ Below w.heap.size w w' := by
  subst hx; exact both_any a b c d lo hi w

set_option maxRecDepth 100000 in
set_option maxHeartbeats 4000000 in
theorem refCheck2_any (p : Prs) (v : Value) (w : World) (hp : PrsAt w.heap.size w v p) :
    Calls Tryz.prog 47 #[v] w fun e w' => e = .returned (.tuple #[.int .i64 ((checkP p).1 : Nat), .int .i64 ((checkP p).2.1 : Nat), .int .i64 (checkP p).2.2]) ∧ Below w.heap.size w w' := by
  obtain ⟨fv, pv, rfl, hf, hq, hs1, hs2⟩ := hp
  have HF := Lib.hid hf
  have HQ := Lib.hid hq
  have HS1 := Lib.hid hs1
  have HS2 := Lib.hid hs2
  obtain ⟨a, cap, rfl, hfc⟩ := hf
  obtain ⟨a2, cap2, rfl, hqc⟩ := hq
  obtain ⟨n1, hn1⟩ : ∃ n, n = p.fmts.length := ⟨_, rfl⟩
  obtain ⟨n2, hn2⟩ : ∃ n, n = p.pprs.length := ⟨_, rfl⟩
  rw [← hn1] at HF ⊢
  rw [← hn2] at HQ ⊢
  have HN1 := Lib.hid hn1
  have HN2 := Lib.hid hn2
  have HFC := Lib.hid hfc
  have HQC := Lib.hid hqc
  clear hs1 hs2 hfc hqc hn1 hn2
  obtain ⟨⟨r1, r2, r3⟩, hr⟩ : ∃ r, r = checkP p := ⟨_, rfl⟩
  rw [← hr]
  obtain ⟨⟨x1, x2⟩, hx⟩ : ∃ x, x = fmtsErr p.fmts := ⟨_, rfl⟩
  obtain ⟨⟨y1, y2⟩, hy⟩ : ∃ y, y = pprsErr p.pprs := ⟨_, rfl⟩
  have HR : Hid ((r1, r2, r3) = if x2 ≠ 0 then (1, x1, x2) else if y2 ≠ 0 then (2, y1, y2) else if (inI 0 60 p.trim && inI 1 4 p.sheets) = false then (3, 0, 7) else (0, 0, 0)) := Lib.hid (by
    rw [hr]; unfold checkP; rw [← hx, ← hy])
  have HX1 : Hid ((x1, x2) = listR 1 6 Fmt.name fmtErr p.fmts) := Lib.hid hx
  have HY1 : Hid ((y1, y2) = listR 1 4 Ppr.name pprErr p.pprs) := Lib.hid hy
  clear hr hx hy
  dsimp only
  go_enter Tryz.func47, Tryz.ntmps47
  go_wp2_with fail
  refine (in2_any _ 1 6 _).mono ?_
  rintro e w1 ⟨rfl, hw⟩
  have hb0 : Below w.heap.size w w1 := by rw [hw]; exact (by repeat (first | exact Below.refl _ _ | assumption | (refine Below.alloc ?_ ?_ _; rotate_left; · (first | omega | (simp; done) | (simp; omega) | fail)) | (refine Below.setCell ?_ ?_ _; rotate_left; · (first | omega | (simp; done) | (simp; omega) | fail)) | refine Below.drew ?_ | fail))
  have b1 : w1.heap[w.heap.size]? = some (.cells #[.slice a n1 cap, .slice a2 n2 cap2, .int .i64 p.trim, .int .i64 p.sheets] 25) := by rw [hw]; exact (by repeat (first | exact heap_alloc_at _ _ _ (by (first | omega | (simp; done) | (simp; omega) | (simp at *; omega) | fail)) | assumption | rw [heap_alloc_past _ _ _ (by (first | omega | (simp; done) | (simp; omega) | (simp at *; omega) | fail))] | rw [heap_setCell_past _ _ _ _ (by (first | omega | (simp; done) | (simp; omega) | (simp at *; omega) | fail))] | fail))
  clear hw
  have HB0 := Lib.hid hb0
  have HBz := HB0
  have hz0 := hb0.size
  obtain ⟨ei, hi1, hi2, hi3, hi4⟩ := elemStr
  have HI := Lib.hid (And.intro hi1 (And.intro hi2 (And.intro hi3 hi4)))
  have HB1 := Lib.hid b1
  clear hi1 hi2 hi3 hi4 hb0
  cases hi : inI 1 6 n1 with
  | false =>
    have HX2 : Hid (r1 = 1 ∧ r2 = 0 ∧ r3 = 3) := Lib.hid (by
      have h1 : (x1, x2) = (0, 3) := by rw [HX1.out]; unfold listR; rw [← HN1.out, if_pos hi]
      have h2 := HR.out
      simp at h1
      rw [h1.1, h1.2] at h2
      simpa using h2)
    clear hi
    go_wp2_with fail
    go_ret3
    exact ⟨by rw [(HX2).out.1, (HX2).out.2.1, (HX2).out.2.2]; rfl, HBz.out⟩
  | true =>
    have HX2 : Hid ((x1, x2) = firstE Fmt.name fmtErr [] 0 p.fmts) := Lib.hid (by rw [HX1.out]; unfold listR; rw [← HN1.out, if_neg (by rw [hi]; decide)])
    have hle1 : n1 ≤ 6 := by simp only [inI, Bool.and_eq_true, decide_eq_true_eq] at hi; omega
    clear hi
    have HR0 : Hid (w1.ownsRow w1.heap.size 9 1 (.slice none 0 0) 0 []) := Lib.hid (World.ownsRow_nil _ _ _ _)
    have HBB : Hid (Below w1.heap.size w1 w1) := Lib.hid (Below.refl _ _)
    have c0 := blk_cell b1 0
    have c1 := blk_cell b1 1
    have c2 := blk_cell b1 2
    have c3 := blk_cell b1 3
    go_wp2_with fail
    go_loopw [5, 6] (fun v i wr => ∃ (k : Nat), k ≤ n1 ∧ i = .int .i64 k ∧ Hid (wr.ownsRow w1.heap.size 9 1 v k ((seenF p.fmts k).map S)) ∧ Hid (Below w1.heap.size w1 wr) ∧ Hid ((x1, x2) = firstE Fmt.name fmtErr (seenF p.fmts k) k (p.fmts.drop k))) (fun _ i _ => n1 - (intOf i).toNat)
    case atStart => exact ⟨0, by omega, rfl, (by have h := HR0.out; show World.ownsRow _ _ _ _ _ _ _; simpa [seenF] using h), HBB, HX2⟩
    case round =>
      clear HR0 HBB c0 c1 c2 c3
      obtain ⟨k, hk, rfl, HRo, HB, HZ⟩ := hrel
      have hb3 := blk_later HB.out HB1.out
      have hzr := HB.out.size
      have c0 := blk_cell hb3 0
      have c1 := blk_cell hb3 1
      have c2 := blk_cell hb3 2
      have c3 := blk_cell hb3 3
      by_cases hlt : k < n1
      · obtain ⟨x, hx⟩ : ∃ x, p.fmts[k]? = some x := ⟨_, List.getElem?_eq_getElem (by have := HN1.out; omega)⟩
        obtain ⟨b', off, rfl, hb', hc⟩ := HFC.out (fun h => by rw [h] at hx; simp at hx)
        have q0 : wr.cell? ⟨b', off + k * 2, none⟩ = some (S x.name) := cell_later' (HB0.out.trans (HB.out.mono hz0)) (by have := hc k x hx 0 _ rfl; simpa using this)
        have q1 : wr.cell? ⟨b', off + k * 2 + 1, none⟩ = some (S x.folds) := cell_later' (HB0.out.trans (HB.out.mono hz0)) (by have := hc k x hx 1 _ rfl; simpa using this)
        have HQ1 : Hid (w.cell? ⟨b', off + k * 2 + 1, none⟩ = some (S x.folds)) := Lib.hid (by have := hc k x hx 1 _ rfl; simpa using this)
        have HX := Lib.hid hx
        have HSx := Lib.hid (HS1.out x (List.mem_of_getElem? hx))
        have hln : (seenF p.fmts k).length = k := seenF_len (by have := HN1.out; omega)
        have HLN := Lib.hid hln
        obtain ⟨er, her⟩ : ∃ er, er = nmErr (seenF p.fmts k) x.name := ⟨_, rfl⟩
        have HER := Lib.hid her
        clear hx hc hln her
        go_wp2_with fail
        refine (refFresh_any x.name (seenF p.fmts k) u5 _ (strs_of_row (by rw [HLN.out]; exact HRo.out)) (by rw [HLN.out]; omega) HSx.out.1).mono ?_
        rintro e w6 ⟨rfl, hb6⟩
        rw [← HER.out]
        have HB6 := Lib.hid (HB.out.trans (hb6.mono hzr))
        have HR6 := Lib.hid (row_later HRo.out hb6)
        have hb3 := blk_later hb6 hb3
        have q0 := cell_later' hb6 q0
        have q1 := cell_later' hb6 q1
        have hz6 := HB6.out.size
        clear c0 c1 c2 c3 hb6 HRo
        have c0 := blk_cell hb3 0
        have c1 := blk_cell hb3 1
        have c2 := blk_cell hb3 2
        have c3 := blk_cell hb3 3
        obtain ⟨hi1, hi2, hi3, hi4⟩ := HI.out
        go_wp2_with (at_builtin; refine wpList_append_own _ rfl _ _ 147 rfl w1.heap.size 9 ei _ 1 16 undStrs hi1 hi2 hi3 hi4 rfl (by decide) u5 k ((seenF p.fmts k).map S) rfl (HR6.out.alloc _) ⟨w6.heap.size, 0, none⟩ 1 1 [S x.name] rfl rfl ?c1 ?c2 ?c3 ?c4 ?c5 ?c6)
        case c1 => exact cells_new _ _ _
        case c2 => simp [Value.oneCell']
        case c3 => simp only [maxLen]; omega
        case c4 => omega
        case c5 => simp; omega
        case c6 =>
          rintro v' w7 hown hgrow -
          have HB7 := Lib.hid (HB6.out.trans ((((Below.refl _ w6).alloc (Nat.le_refl _) (.cells #[S x.name] 9)).mono hz6).trans (below_row (HR6.out.alloc _) (by simp; omega) hgrow)))
          have HO := Lib.hid hown
          have hb3 := blk_later HB7.out HB1.out
          have q1 : w7.cell? ⟨b', off + k * 2 + 1, none⟩ = some (S x.folds) := cell_later' (HB0.out.trans (HB7.out.mono hz0)) (HQ1.out)
          have hz7 := HB7.out.size
          clear hgrow hown hi1 hi2 hi3 hi4 HB6 HR6 c0 c1 c2 c3 HB
          have c0 := blk_cell hb3 0
          have c1 := blk_cell hb3 1
          have c2 := blk_cell hb3 2
          have c3 := blk_cell hb3 3
          by_cases h0 : er = 0
          · have HFE : Hid (fmtErr (seenF p.fmts k) x = fdsErr x.folds) := Lib.hid (by unfold fmtErr; rw [← HER.out, if_pos h0])
            clear HER
            subst h0
            go_wp2_with fail
            refine (refFolds_any x.folds _ HSx.out.2).mono ?_
            rintro e w8 ⟨rfl, hb8⟩
            obtain ⟨ef, hef⟩ : ∃ ef, ef = fdsErr x.folds := ⟨_, rfl⟩
            rw [← hef]
            have HEF : Hid (fmtErr (seenF p.fmts k) x = ef) := Lib.hid (HFE.out.trans hef.symm)
            have HB8 := Lib.hid (HB7.out.trans (hb8.mono hz7))
            have HR8 := Lib.hid (row_later HO.out hb8)
            clear hef HFE hb8 HO HB7 c0 c1 c2 c3
            by_cases h1 : ef = 0
            · have HZ2 : Hid ((x1, x2) = firstE Fmt.name fmtErr (seenF p.fmts (k + 1)) (k + 1) (p.fmts.drop (k + 1))) := Lib.hid (by rw [HZ.out, firstE_step HX.out (HEF.out.trans h1), seenF_next HX.out])
              clear HEF HZ
              subst h1
              go_wp2_with fail
              go_roundw
              case rel => exact ⟨k + 1, by omega, by go_num, (by
                have h := HR8.out
                rw [seenF_next HX.out, List.map_append]
                show World.ownsRow _ _ _ _ _ _ _
                simpa using h), HB8, HZ2⟩
              case measure => simp [intOf]; omega
            · have HXX : Hid (x1 = k ∧ x2 = ef) := Lib.hid (by
                have h2 := HZ.out.trans (firstE_stop HX.out (fun h => h1 (HEF.out.symm.trans h)))
                rw [HEF.out] at h2
                simpa using h2)
              have HX2 : Hid (r1 = 1 ∧ r2 = k ∧ r3 = ef) := Lib.hid (by
                have h2 := HR.out
                rw [HXX.out.1, HXX.out.2, if_pos h1] at h2
                simpa using h2)
              have HBz := Lib.hid (HB0.out.trans (HB8.out.mono hz0))
              have h0b : (ef != 0) = true := by simp [h1]
              clear h1 HXX HEF
              go_wp2_with fail
              go_ret3
              exact ⟨by rw [(HX2).out.1, (HX2).out.2.1, (HX2).out.2.2]; rfl, HBz.out⟩
          · have HFE : Hid (fmtErr (seenF p.fmts k) x = er) := Lib.hid (by unfold fmtErr; rw [← HER.out, if_neg h0])
            have HXX : Hid (x1 = k ∧ x2 = er) := Lib.hid (by
              have h2 := HZ.out.trans (firstE_stop HX.out (fun h => h0 (HFE.out.symm.trans h)))
              rw [HFE.out] at h2
              simpa using h2)
            have HX2 : Hid (r1 = 1 ∧ r2 = k ∧ r3 = er) := Lib.hid (by
              have h2 := HR.out
              rw [HXX.out.1, HXX.out.2, if_pos h0] at h2
              simpa using h2)
            have HBz := Lib.hid (HB0.out.trans (HB7.out.mono hz0))
            have h0b : (er != 0) = true := by simp [h0]
            have h0c : (er == 0) = false := by simp [h0]
            clear h0 HXX HFE
            go_wp2_with fail
            go_ret3
            exact ⟨by rw [(HX2).out.1, (HX2).out.2.1, (HX2).out.2.2]; rfl, HBz.out⟩
      · have hkN : k = n1 := by omega
        have hx2 : x1 = 0 ∧ x2 = 0 := by
          have h := HZ.out.trans (firstE_end (by have := HN1.out; omega))
          simpa using h
        have HRP : Hid ((r1, r2, r3) = if y2 ≠ 0 then (2, y1, y2) else if (inI 0 60 p.trim && inI 1 4 p.sheets) = false then (3, 0, 7) else (0, 0, 0)) := Lib.hid (by rw [HR.out, if_neg (by rw [hx2.2]; decide)])
        have HB0 := Lib.hid (HB0.out.trans (HB.out.mono hz0))
        have HB1 := Lib.hid hb3
        clear HZ HRo HR HX1 HX2 hx2 HFC HF HS1 hkN HB HBz
        clear hle1 hk
        go_wp2_with fail
        refine (in2_any _ 1 4 _).mono ?_
        rintro e wv ⟨rfl, hw⟩
        subst hw
        have HBv := HB0
        have HBz := HB0
        have hz9 := HBv.out.size
        have HB9 := HB1
        cases hi : inI 1 4 n2 with
        | false =>
          have HX2 : Hid (r1 = 2 ∧ r2 = 0 ∧ r3 = 3) := Lib.hid (by
            have h1 : (y1, y2) = (0, 3) := by rw [HY1.out]; unfold listR; rw [← HN2.out, if_pos hi]
            have h2 := HRP.out
            simp at h1
            rw [h1.1, h1.2] at h2
            simpa using h2)
          clear hi
          go_wp2_with fail
          go_ret3
          exact ⟨by rw [(HX2).out.1, (HX2).out.2.1, (HX2).out.2.2]; rfl, HBz.out⟩
        | true =>
          have HX3 : Hid ((y1, y2) = firstE Ppr.name pprErr [] 0 p.pprs) := Lib.hid (by rw [HY1.out]; unfold listR; rw [← HN2.out, if_neg (by rw [hi]; decide)])
          have hle1 : n2 ≤ 4 := by simp only [inI, Bool.and_eq_true, decide_eq_true_eq] at hi; omega
          clear hi
          have HR0 : Hid (wv.ownsRow wv.heap.size 9 1 (.slice none 0 0) 0 []) := Lib.hid (World.ownsRow_nil _ _ _ _)
          have HBB : Hid (Below wv.heap.size wv wv) := Lib.hid (Below.refl _ _)
          clear hzr b1 hz0
          go_wp2_with fail
          go_loopw [5, 8] (fun v i wr => ∃ (k : Nat), k ≤ n2 ∧ i = .int .i64 k ∧ Hid (wr.ownsRow wv.heap.size 9 1 v k ((seenP p.pprs k).map S)) ∧ Hid (Below wv.heap.size wv wr) ∧ Hid ((y1, y2) = firstE Ppr.name pprErr (seenP p.pprs k) k (p.pprs.drop k))) (fun _ i _ => n2 - (intOf i).toNat)
          case atStart => exact ⟨0, by omega, rfl, (by have h := HR0.out; show World.ownsRow _ _ _ _ _ _ _; simpa [seenP] using h), HBB, HX3⟩
          case round =>
            clear HR0 HBB c0 c1 c2 c3
            obtain ⟨k, hk, rfl, HRo, HB, HZ⟩ := hrel
            have hb3 := blk_later HB.out HB9.out
            have hzr := HB.out.size
            have c0 := blk_cell hb3 0
            have c1 := blk_cell hb3 1
            have c2 := blk_cell hb3 2
            have c3 := blk_cell hb3 3
            by_cases hlt : k < n2
            · obtain ⟨x, hx⟩ : ∃ x, p.pprs[k]? = some x := ⟨_, List.getElem?_eq_getElem (by have := HN2.out; omega)⟩
              obtain ⟨b', off, rfl, hb', hc⟩ := HQC.out (fun h => by rw [h] at hx; simp at hx)
              have q0 : wr.cell? ⟨b', off + k * 5, none⟩ = some (S x.name) := cell_later' (HBv.out.trans (HB.out.mono hz9)) (by have := hc k x hx 0 _ rfl; simpa using this)
              have HQ1 : Hid (w.cell? ⟨b', off + k * 5 + 1, none⟩ = some (.int .i64 x.wlo)) := Lib.hid (by have := hc k x hx 1 _ rfl; simpa using this)
              have HQ2 : Hid (w.cell? ⟨b', off + k * 5 + 2, none⟩ = some (.int .i64 x.whi)) := Lib.hid (by have := hc k x hx 2 _ rfl; simpa using this)
              have HQ3 : Hid (w.cell? ⟨b', off + k * 5 + 3, none⟩ = some (.int .i64 x.hlo)) := Lib.hid (by have := hc k x hx 3 _ rfl; simpa using this)
              have HQ4 : Hid (w.cell? ⟨b', off + k * 5 + 4, none⟩ = some (.int .i64 x.hhi)) := Lib.hid (by have := hc k x hx 4 _ rfl; simpa using this)
              have HX := Lib.hid hx
              have HSx := Lib.hid (HS2.out x (List.mem_of_getElem? hx))
              have hln : (seenP p.pprs k).length = k := seenP_len (by have := HN2.out; omega)
              have HLN := Lib.hid hln
              obtain ⟨er, her⟩ : ∃ er, er = nmErr (seenP p.pprs k) x.name := ⟨_, rfl⟩
              have HER := Lib.hid her
              clear hx hc hln her
              go_wp2_with fail
              refine (refFresh_any x.name (seenP p.pprs k) u5 _ (strs_of_row (by rw [HLN.out]; exact HRo.out)) (by rw [HLN.out]; omega) HSx.out).mono ?_
              rintro e w6 ⟨rfl, hb6⟩
              rw [← HER.out]
              have HB6 := Lib.hid (HB.out.trans (hb6.mono hzr))
              have HR6 := Lib.hid (row_later HRo.out hb6)
              have hb3 := blk_later hb6 hb3
              have q0 := cell_later' hb6 q0
              have hz6 := HB6.out.size
              clear c0 c1 c2 c3 hb6 HRo
              have c0 := blk_cell hb3 0
              have c1 := blk_cell hb3 1
              have c2 := blk_cell hb3 2
              have c3 := blk_cell hb3 3
              obtain ⟨hi1, hi2, hi3, hi4⟩ := HI.out
              go_wp2_with (at_builtin; refine wpList_append_own _ rfl _ _ 147 rfl wv.heap.size 9 ei _ 1 16 undStrs hi1 hi2 hi3 hi4 rfl (by decide) u5 k ((seenP p.pprs k).map S) rfl (HR6.out.alloc _) ⟨w6.heap.size, 0, none⟩ 1 1 [S x.name] rfl rfl ?c1 ?c2 ?c3 ?c4 ?c5 ?c6)
              case c1 => exact cells_new _ _ _
              case c2 => simp [Value.oneCell']
              case c3 => simp only [maxLen]; omega
              case c4 => omega
              case c5 => simp; omega
              case c6 =>
                rintro v' w7 hown hgrow -
                have HB7 := Lib.hid (HB6.out.trans ((((Below.refl _ w6).alloc (Nat.le_refl _) (.cells #[S x.name] 9)).mono hz6).trans (below_row (HR6.out.alloc _) (by simp; omega) hgrow)))
                have HO := Lib.hid hown
                have hb3 := blk_later HB7.out HB9.out
                have q1 : w7.cell? ⟨b', off + k * 5 + 1, none⟩ = some (.int .i64 x.wlo) := cell_later' (HBv.out.trans (HB7.out.mono hz9)) (HQ1.out)
                have q2 : w7.cell? ⟨b', off + k * 5 + 2, none⟩ = some (.int .i64 x.whi) := cell_later' (HBv.out.trans (HB7.out.mono hz9)) (HQ2.out)
                have q3 : w7.cell? ⟨b', off + k * 5 + 3, none⟩ = some (.int .i64 x.hlo) := cell_later' (HBv.out.trans (HB7.out.mono hz9)) (HQ3.out)
                have q4 : w7.cell? ⟨b', off + k * 5 + 4, none⟩ = some (.int .i64 x.hhi) := cell_later' (HBv.out.trans (HB7.out.mono hz9)) (HQ4.out)
                have hz7 := HB7.out.size
                clear hgrow hown hi1 hi2 hi3 hi4 HB6 HR6 c0 c1 c2 c3 HB
                have c0 := blk_cell hb3 0
                have c1 := blk_cell hb3 1
                have c2 := blk_cell hb3 2
                have c3 := blk_cell hb3 3
                by_cases h0 : er = 0
                · obtain ⟨ef, hef⟩ : ∃ ef, ef = spansErr 1 2000 x.wlo x.whi x.hlo x.hhi := ⟨_, rfl⟩
                  have HEF : Hid (pprErr (seenP p.pprs k) x = ef) := Lib.hid (by unfold pprErr; rw [← HER.out, if_pos h0, hef])
                  have HEV := Lib.hid hef
                  clear HER hef
                  subst h0
                  go_wp2_with fail
                  have r0 := cell_regrown c0
                  have r1' := cell_regrown c1
                  have s1 := cell_regrown q1
                  have s2 := cell_regrown q2
                  have s3 := cell_regrown q3
                  have s4 := cell_regrown q4
                  have cC : ∀ d os, Calls Tryz.prog 65 #[.agg #[.int .i64 x.wlo, .int .i64 x.whi], .agg #[.int .i64 x.hlo, .int .i64 x.hhi], .int .i64 1, .int .i64 2000] (grow (redrawn w7 d) os) (fun e w'' => e = .returned (.int .i64 ef) ∧ ∃ p : Regrown, w'' = grow (redrawn w7 p.d) p.os) := fun d os => Calls.regrown_of (both2_is _ _ _ _ _ _ ef HEV.out _)
                  clear c0 c1 c2 c3 q1 q2 q3 q4 q0
                  refine wp_region_quiet_below (by kernel_rfl) (by kernel_rfl) ?_; (repeat (go_big_quiet_step (exact cC _ _))); refine wpQuiet_nil ?_; rintro w8 ⟨⟨d8, os8⟩, rfl⟩
                  have hb8 := below_regrown w7 d8 os8
                  clear r0 r1' s1 s2 s3 s4 cC HEV
                  have HB8 := Lib.hid (HB7.out.trans (hb8.mono hz7))
                  have HR8 := Lib.hid (row_later HO.out hb8)
                  clear hb8 HO HB7
                  generalize grow (redrawn w7 d8) os8 = w8 at *
                  by_cases h1 : ef = 0
                  · have HZ2 : Hid ((y1, y2) = firstE Ppr.name pprErr (seenP p.pprs (k + 1)) (k + 1) (p.pprs.drop (k + 1))) := Lib.hid (by rw [HZ.out, firstE_step HX.out (HEF.out.trans h1), seenP_next HX.out])
                    clear HEF HZ
                    subst h1
                    go_wp2_with fail
                    go_roundw
                    case rel => exact ⟨k + 1, by omega, by go_num, (by
                      have h := HR8.out
                      rw [seenP_next HX.out, List.map_append]
                      show World.ownsRow _ _ _ _ _ _ _
                      simpa using h), HB8, HZ2⟩
                    case measure => simp [intOf]; omega
                  · have HXX : Hid (y1 = k ∧ y2 = ef) := Lib.hid (by
                      have h2 := HZ.out.trans (firstE_stop HX.out (fun h => h1 (HEF.out.symm.trans h)))
                      rw [HEF.out] at h2
                      simpa using h2)
                    have HX3 : Hid (r1 = 2 ∧ r2 = k ∧ r3 = ef) := Lib.hid (by
                      have h2 := HRP.out
                      rw [HXX.out.1, HXX.out.2, if_pos h1] at h2
                      simpa using h2)
                    have HBz := Lib.hid (HBv.out.trans (HB8.out.mono hz9))
                    have h0b : (ef != 0) = true := by simp [h1]
                    clear h1 HXX HEF
                    go_wp2_with fail
                    go_ret3
                    exact ⟨by rw [(HX3).out.1, (HX3).out.2.1, (HX3).out.2.2]; rfl, HBz.out⟩
                · have HFE : Hid (pprErr (seenP p.pprs k) x = er) := Lib.hid (by unfold pprErr; rw [← HER.out, if_neg h0])
                  have HXX : Hid (y1 = k ∧ y2 = er) := Lib.hid (by
                    have h2 := HZ.out.trans (firstE_stop HX.out (fun h => h0 (HFE.out.symm.trans h)))
                    rw [HFE.out] at h2
                    simpa using h2)
                  have HX3 : Hid (r1 = 2 ∧ r2 = k ∧ r3 = er) := Lib.hid (by
                    have h2 := HRP.out
                    rw [HXX.out.1, HXX.out.2, if_pos h0] at h2
                    simpa using h2)
                  have HBz := Lib.hid (HBv.out.trans (HB7.out.mono hz9))
                  have h0b : (er != 0) = true := by simp [h0]
                  have h0c : (er == 0) = false := by simp [h0]
                  clear h0 HXX HFE
                  go_wp2_with fail
                  go_ret3
                  exact ⟨by rw [(HX3).out.1, (HX3).out.2.1, (HX3).out.2.2]; rfl, HBz.out⟩
            · have hy2 : y1 = 0 ∧ y2 = 0 := by
                have h := HZ.out.trans (firstE_end (by have := HN2.out; omega))
                simpa using h
              have HRT : Hid ((r1, r2, r3) = if (inI 0 60 p.trim && inI 1 4 p.sheets) = false then (3, 0, 7) else (0, 0, 0)) := Lib.hid (by rw [HRP.out, if_neg (by rw [hy2.2]; decide)])
              have HBz := Lib.hid (HBv.out.trans (HB.out.mono hz9))
              clear HZ HRo HRP HY1 HX3 hy2 HQC HQ HS2 HB
              go_wp2_with fail
              refine (in2_any p.trim 0 60 _).mono ?_
              rintro e w9 ⟨rfl, hw⟩
              subst hw
              cases h1 : inI 0 60 p.trim with
              | false =>
                have HX2 : Hid (r1 = 3 ∧ r2 = 0 ∧ r3 = 7) := Lib.hid (by have := HRT.out; rw [h1] at this; simpa using this)
                clear HRT
                go_wp2_with fail
                go_ret3
                exact ⟨by rw [(HX2).out.1, (HX2).out.2.1, (HX2).out.2.2]; rfl, HBz.out⟩
              | true =>
                go_wp2_with fail
                refine (in2_any p.sheets 1 4 _).mono ?_
                rintro e w9 ⟨rfl, hw⟩
                subst hw
                cases h2 : inI 1 4 p.sheets with
                | false =>
                  have HX2 : Hid (r1 = 3 ∧ r2 = 0 ∧ r3 = 7) := Lib.hid (by have := HRT.out; rw [h1, h2] at this; simpa using this)
                  clear HRT
                  go_wp2_with fail
                  go_ret3
                  exact ⟨by rw [(HX2).out.1, (HX2).out.2.1, (HX2).out.2.2]; rfl, HBz.out⟩
                | true =>
                  have HX2 : Hid (r1 = 0 ∧ r2 = 0 ∧ r3 = 0) := Lib.hid (by have := HRT.out; rw [h1, h2] at this; simpa using this)
                  clear HRT
                  go_wp2_with fail
                  go_ret3
                  exact ⟨by rw [(HX2).out.1, (HX2).out.2.1, (HX2).out.2.2]; rfl, HBz.out⟩
end Go.Proofs.YtnhacghjoikgpaaGreatDoor

/- The reference: Check of what is seen of a gathering. -/
namespace Go.Proofs.YtnhacghjoikgpaaGreatDoor
set_option linter.unusedSimpArgs false
set_option linter.unusedVariables false
open Go Go.RowKit Go.Sort Go.BigFrame

theorem in2_is (n lo hi : Int) (x : Bool) (hx : x = inI lo hi n) (w : World) :
    Calls Tryz.prog 32 #[.int .i64 n, .int .i64 lo, .int .i64 hi] w fun e w' => e = .returned (.bool x) ∧ Below w.heap.size w w' := by
  subst hx
  exact (in2_any n lo hi w).mono fun e w' ⟨h1, h2⟩ => ⟨h1, by rw [h2]; exact Below.refl _ _⟩

set_option maxRecDepth 100000 in
set_option maxHeartbeats 2000000 in
theorem refCheckBook2_any (p : Prs) (b : Bok) (vp vb : Value) (w : World) (hp : PrsAt w.heap.size w vp p) (hb : BokAt w.heap.size w vb b) :
    Calls Tryz.prog 28 #[vp, vb] w fun e w' => e = .returned (.tuple #[.int .i64 ((checkK p b).1 : Nat), .int .i64 ((checkK p b).2.1 : Nat), .int .i64 (checkK p b).2.2]) ∧ Below w.heap.size w w' := by
  have HP := Lib.hid hp
  obtain ⟨fv, pv, rfl, ⟨a, cap, rfl, -⟩, ⟨a2, cap2, rfl, -⟩, -⟩ := hp
  obtain ⟨n1, hn1⟩ : ∃ n, n = p.fmts.length := ⟨_, rfl⟩
  obtain ⟨n2, hn2⟩ : ∃ n, n = p.pprs.length := ⟨_, rfl⟩
  rw [← hn1, ← hn2] at HP ⊢
  clear hn1 hn2
  obtain ⟨mv, rfl, hm⟩ := hb
  obtain ⟨a3, cap3, rfl, hmc⟩ := hm
  obtain ⟨n3, hn3⟩ : ∃ n, n = b.marks.length := ⟨_, rfl⟩
  rw [← hn3]
  have HN3 := Lib.hid hn3
  have HMC := Lib.hid hmc
  clear hmc hn3
  obtain ⟨⟨r1, r2, r3⟩, hr⟩ : ∃ r, r = checkK p b := ⟨_, rfl⟩
  rw [← hr]
  obtain ⟨⟨c1, c2, ep⟩, hep⟩ : ∃ c, c = checkP p := ⟨_, rfl⟩
  obtain ⟨es, hes⟩ : ∃ es, es = spansErr 0 2000 b.wlo b.whi b.hlo b.hhi := ⟨_, rfl⟩
  obtain ⟨⟨m1, m2⟩, hmm⟩ : ∃ m, m = marksR 0 8 b.leaves b.marks := ⟨_, rfl⟩
  have HR : Hid ((r1, r2, r3) = if ep ≠ 0 then (0, 0, ep) else if inI 1 64 b.leaves = false then (1, 0, 7) else if inI 0 2 b.chain = false then (2, 0, 2) else if es ≠ 0 then (3, 0, es) else if m2 ≠ 0 then (4, m1, m2) else (0, 0, 0)) := Lib.hid (by
    rw [hr, checkK_is, show errP p = ep by unfold errP; rw [← hep], ← hes, ← hmm])
  have HEP := Lib.hid hep
  have HES := Lib.hid hes
  have HMM := Lib.hid hmm
  clear hr hep hes hmm
  dsimp only
  go_enter Tryz.func28, Tryz.ntmps28
  go_wp2_with fail
  have hb0 : Below w.heap.size w ((w.alloc (.cells #[.slice a n1 cap, .slice a2 n2 cap2, .int .i64 p.trim, .int .i64 p.sheets] 25)).alloc (.cells #[.int .i64 b.leaves, .int .i64 b.chain, .int .i64 b.wlo, .int .i64 b.whi, .int .i64 b.hlo, .int .i64 b.hhi, .slice a3 n3 cap3] 30)) := by exact (by repeat (first | exact Below.refl _ _ | assumption | (refine Below.alloc ?_ ?_ _; rotate_left; · (first | omega | (simp; done) | (simp; omega) | fail)) | (refine Below.setCell ?_ ?_ _; rotate_left; · (first | omega | (simp; done) | (simp; omega) | fail)) | refine Below.drew ?_ | fail))
  have b2 : ((w.alloc (.cells #[.slice a n1 cap, .slice a2 n2 cap2, .int .i64 p.trim, .int .i64 p.sheets] 25)).alloc (.cells #[.int .i64 b.leaves, .int .i64 b.chain, .int .i64 b.wlo, .int .i64 b.whi, .int .i64 b.hlo, .int .i64 b.hhi, .slice a3 n3 cap3] 30)).heap[w.heap.size + 1]? = some (.cells #[.int .i64 b.leaves, .int .i64 b.chain, .int .i64 b.wlo, .int .i64 b.whi, .int .i64 b.hlo, .int .i64 b.hhi, .slice a3 n3 cap3] 30) := (by repeat (first | exact heap_alloc_at _ _ _ (by (first | omega | (simp; done) | (simp; omega) | (simp at *; omega) | fail)) | assumption | rw [heap_alloc_past _ _ _ (by (first | omega | (simp; done) | (simp; omega) | (simp at *; omega) | fail))] | rw [heap_setCell_past _ _ _ _ (by (first | omega | (simp; done) | (simp; omega) | (simp at *; omega) | fail))] | fail))
  revert hb0 b2
  generalize ((w.alloc (.cells #[.slice a n1 cap, .slice a2 n2 cap2, .int .i64 p.trim, .int .i64 p.sheets] 25)).alloc (.cells #[.int .i64 b.leaves, .int .i64 b.chain, .int .i64 b.wlo, .int .i64 b.whi, .int .i64 b.hlo, .int .i64 b.hhi, .slice a3 n3 cap3] 30)) = w1
  intro hb0 b2
  refine (refCheck2_any p _ _ (HP.out.later hb0)).mono ?_
  rintro e w2 ⟨rfl, hb2⟩
  rw [← HEP.out]
  have b2 := blk_later hb2 b2
  have HB3 := Lib.hid (hb0.trans (hb2.mono hb0.size))
  clear hb0 hb2
  have HB2 := Lib.hid b2
  dsimp only
  by_cases h0 : ep = 0
  · have HR1 : Hid ((r1, r2, r3) = if inI 1 64 b.leaves = false then (1, 0, 7) else if inI 0 2 b.chain = false then (2, 0, 2) else if es ≠ 0 then (3, 0, es) else if m2 ≠ 0 then (4, m1, m2) else (0, 0, 0)) := Lib.hid (by rw [HR.out, if_neg (by rw [h0]; decide)])
    clear HR HEP
    subst h0
    have e0 := blk_cell b2 0
    have e1 := blk_cell b2 1
    have e2 := blk_cell b2 2
    have e3 := blk_cell b2 3
    have e4 := blk_cell b2 4
    have e5 := blk_cell b2 5
    have e6 := blk_cell b2 6
    go_wp2_with fail
    refine (in2_any b.leaves 1 64 _).mono ?_
    rintro e w3 ⟨rfl, hw⟩
    subst hw
    cases h1 : inI 1 64 b.leaves with
    | false =>
      have HR2 : Hid (r1 = 1 ∧ r2 = 0 ∧ r3 = 7) := Lib.hid (by have := HR1.out; rw [h1] at this; simpa using this)
      clear HR1
      go_wp2_with fail
      go_ret3
      exact ⟨by rw [HR2.out.1, HR2.out.2.1, HR2.out.2.2]; rfl, HB3.out⟩
    | true =>
      have HR2 : Hid ((r1, r2, r3) = if inI 0 2 b.chain = false then (2, 0, 2) else if es ≠ 0 then (3, 0, es) else if m2 ≠ 0 then (4, m1, m2) else (0, 0, 0)) := Lib.hid (by rw [HR1.out, if_neg (by rw [h1]; decide)])
      have hl : 1 ≤ b.leaves ∧ b.leaves ≤ 64 := by simpa [inI] using h1
      clear HR1 h1
      go_wp2_with fail
      refine (in2_any b.chain 0 2 _).mono ?_
      rintro e w3 ⟨rfl, hw⟩
      subst hw
      cases h2 : inI 0 2 b.chain with
      | false =>
        have HR2 : Hid (r1 = 2 ∧ r2 = 0 ∧ r3 = 2) := Lib.hid (by have := HR2.out; rw [h2] at this; simpa using this)
        go_wp2_with fail
        go_ret3
        exact ⟨by rw [HR2.out.1, HR2.out.2.1, HR2.out.2.2]; rfl, HB3.out⟩
      | true =>
        have HR3 : Hid ((r1, r2, r3) = if es ≠ 0 then (3, 0, es) else if m2 ≠ 0 then (4, m1, m2) else (0, 0, 0)) := Lib.hid (by rw [HR2.out, if_neg (by rw [h2]; decide)])
        clear HR2 h2
        go_wp2_with fail
        refine (both2_is b.wlo b.whi b.hlo b.hhi 0 2000 es HES.out _).mono ?_
        rintro e w4 ⟨rfl, hb4⟩
        have b4 := blk_later hb4 HB2.out
        have HB3 := Lib.hid (HB3.out.trans (hb4.mono HB3.out.size))
        clear hb4 e0 e1 e2 e3 e4 e5 e6 HB2 b2
        by_cases h3 : es = 0
        · have HR4 : Hid ((r1, r2, r3) = if m2 ≠ 0 then (4, m1, m2) else (0, 0, 0)) := Lib.hid (by rw [HR3.out, if_neg (by rw [h3]; decide)])
          clear HR3 HES
          subst h3
          have e0 := blk_cell b4 0
          have e1 := blk_cell b4 1
          have e2 := blk_cell b4 2
          have e3 := blk_cell b4 3
          have e4 := blk_cell b4 4
          have e5 := blk_cell b4 5
          have e6 := blk_cell b4 6
          by_cases h8 : 8 < n3
          · have HR2 : Hid (r1 = 4 ∧ r2 = 0 ∧ r3 = 3) := Lib.hid (by
              have h9 : (m1, m2) = (0, 3) := by
                rw [HMM.out]; unfold marksR; rw [if_pos]
                rw [← HN3.out]; unfold inI; rw [decide_eq_false (p := (n3 : Int) ≤ 8) (by omega)]; simp
              have := HR4.out
              simp at h9
              rw [h9.1, h9.2] at this
              simpa using this)
            clear HR4
            go_wp2_with fail
            go_ret3
            exact ⟨by rw [HR2.out.1, HR2.out.2.1, HR2.out.2.2]; rfl, HB3.out⟩
          · have HZ0 : Hid ((m1, m2) = marksErr b.leaves 0 b.marks) := Lib.hid (by
              rw [HMM.out]; unfold marksR; rw [if_neg]
              rw [← HN3.out]; unfold inI; rw [decide_eq_true (p := (n3 : Int) ≤ 8) (by omega), decide_eq_true (p := (0 : Int) ≤ n3) (by omega)]; decide)
            have HB4 := Lib.hid b4
            clear HMM
            go_wp2_with fail
            clear e0 e1 e2 e3 e4 e5 e6 b4
            go_loopw [10] (fun q wr => ∃ (k : Nat), k ≤ n3 ∧ q = .int .i64 k ∧ Hid (Below w4.heap.size w4 wr) ∧ Hid ((m1, m2) = marksErr b.leaves k (b.marks.drop k))) (fun q _ => n3 - (intOf q).toNat)
            case atStart => exact ⟨0, by omega, rfl, Lib.hid (Below.refl _ _), HZ0⟩
            case round =>
              obtain ⟨k, hk, rfl, HB, HZ⟩ := hrel
              have b5 := blk_later HB.out HB4.out
              have e0 := blk_cell b5 0
              have e1 := blk_cell b5 1
              have e2 := blk_cell b5 2
              have e3 := blk_cell b5 3
              have e4 := blk_cell b5 4
              have e5 := blk_cell b5 5
              have e6 := blk_cell b5 6
              have HBr := Lib.hid (HB3.out.trans (HB.out.mono HB3.out.size))
              by_cases hlt : k < n3
              · obtain ⟨x, hx⟩ : ∃ x, b.marks[k]? = some x := ⟨_, List.getElem?_eq_getElem (by have := HN3.out; omega)⟩
                obtain ⟨b', off, rfl, hb', hc⟩ := HMC.out (fun h => by rw [h] at hx; simp at hx)
                have q0 : wr.cell? ⟨b', off + k * 2, none⟩ = some (.int .i64 x.1) := cell_later' HBr.out (by have := hc k x hx 0 _ rfl; simpa using this)
                have HX := Lib.hid hx
                obtain ⟨ef, hef⟩ : ∃ ef, ef = inI 0 (b.leaves - 1) x.1 := ⟨_, rfl⟩
                have HEF := Lib.hid hef
                clear hx hc hef
                go_wp2_with fail
                have s0 := cell_regrown e0
                have s6 := cell_regrown e6
                have t0 := cell_regrown q0
                have cC : ∀ d os, Calls Tryz.prog 32 #[.int .i64 x.1, .int .i64 0, .int .i64 (b.leaves - 1)] (grow (redrawn wr d) os) (fun e w'' => e = .returned (.bool ef) ∧ ∃ p : Regrown, w'' = grow (redrawn wr p.d) p.os) := fun d os => Calls.regrown_of (in2_is _ _ _ ef HEF.out _)
                clear e0 e1 e2 e3 e4 e5 e6 q0 b5
                refine wp_region_quiet_below (by kernel_rfl) (by kernel_rfl) ?_; (repeat (go_big_quiet_step (exact cC _ _))); refine wpQuiet_nil ?_; rintro w8 ⟨⟨d8, os8⟩, rfl⟩
                have hb8 := below_regrown wr d8 os8
                have HB8 := Lib.hid (HB.out.trans (hb8.mono HB.out.size))
                clear s0 s6 t0 cC hb8
                generalize grow (redrawn wr d8) os8 = w8 at *
                cases hf : ef with
                | false =>
                  have HR2 : Hid (r1 = 4 ∧ r2 = k ∧ r3 = 4) := Lib.hid (by
                    have h9 : m1 = k ∧ m2 = 4 := by
                      have h := HZ.out.trans (marksErr_stop HX.out (by rw [← HEF.out, hf]))
                      simpa using h
                    have := HR4.out
                    rw [h9.1, h9.2] at this
                    simpa using this)
                  have HB3 := Lib.hid (HB3.out.trans (HB8.out.mono HB3.out.size))
                  clear HZ HR4
                  go_wp2_with fail
                  go_ret3
                  exact ⟨by rw [HR2.out.1, HR2.out.2.1, HR2.out.2.2]; rfl, HB3.out⟩
                | true =>
                  have HZ2 : Hid ((m1, m2) = marksErr b.leaves (k + 1) (b.marks.drop (k + 1))) := Lib.hid (HZ.out.trans (marksErr_step HX.out (by rw [← HEF.out, hf])))
                  clear HZ
                  go_wp2_with fail
                  go_roundw
                  case rel => exact ⟨k + 1, by omega, by go_num, HB8, HZ2⟩
                  case measure => simp [intOf]; omega
              · have HR2 : Hid (r1 = 0 ∧ r2 = 0 ∧ r3 = 0) := Lib.hid (by
                  have h9 : m1 = 0 ∧ m2 = 0 := by
                    have h := HZ.out.trans (marksErr_end (by have := HN3.out; omega))
                    simpa using h
                  have := HR4.out
                  rw [h9.1, h9.2] at this
                  simpa using this)
                have HB3 := HBr
                clear HZ HR4
                go_wp2_with fail
                go_ret3
                exact ⟨by rw [HR2.out.1, HR2.out.2.1, HR2.out.2.2]; rfl, HB3.out⟩
        · have HR2 : Hid (r1 = 3 ∧ r2 = 0 ∧ r3 = es) := Lib.hid (by have := HR3.out; rw [if_pos h3] at this; simpa using this)
          have h0b : (es != 0) = true := by simp [h3]
          clear h3 HR3
          go_wp2_with fail
          go_ret3
          exact ⟨by rw [HR2.out.1, HR2.out.2.1, HR2.out.2.2]; rfl, HB3.out⟩
  · have HR2 : Hid (r1 = 0 ∧ r2 = 0 ∧ r3 = ep) := Lib.hid (by have := HR.out; rw [if_pos h0] at this; simpa using this)
    have h0b : (ep != 0) = true := by simp [h0]
    clear h0 HR HEP
    go_wp2_with fail
    go_ret3
    exact ⟨by rw [HR2.out.1, HR2.out.2.1, HR2.out.2.2]; rfl, HB3.out⟩
end Go.Proofs.YtnhacghjoikgpaaGreatDoor
