/- The parts Uv, Uw, Ux, Ol, Kfl of the proof, joined. It holds without conditions of its own. -/
import Derived.Test.YtielaaaeecfkoaaGreatDoorFL14
import Derived.Deep.Cut
import Derived.Test.YtielaaaeecfkoaaGreatDoorFL4
/- Ways of making with an error are not opened. -/
namespace Go.Proofs.YtielaaaeecfkoaaGreatDoor
set_option linter.unusedSimpArgs false
set_option linter.unusedVariables false
open Go Go.RowKit Go.Sort Go.BigFrame

set_option maxRecDepth 100000 in
set_option maxHeartbeats 2000000 in
theorem openWay_bad2 (p : Prs) (m : Mkw) (vp : Value) (w : World) (hp : PrsAt w.heap.size w vp p) (he : errP p = 0) (hm : mkwErr p m ≠ 0) :
    Calls Tryz.prog 50 #[vp, mkwV m] w fun e w' => e = .returned (.tuple #[.agg wayZ, .int .i64 (mkwErr p m)]) ∧ Below w.heap.size w w' := by
  have HP := Lib.hid hp
  have HE := Lib.hid he
  obtain ⟨fv, pv, rfl, ⟨a, cap, rfl, -⟩, ⟨a2, cap2, rfl, -⟩, -⟩ := hp
  obtain ⟨n1, hn1⟩ : ∃ n, n = p.fmts.length := ⟨_, rfl⟩
  obtain ⟨n2, hn2⟩ : ∃ n, n = p.pprs.length := ⟨_, rfl⟩
  rw [← hn1, ← hn2] at HP ⊢
  have hO : openP p (.agg #[.slice a n1 cap, .slice a2 n2 cap2, .int .i64 p.trim, .int .i64 p.sheets]) = .agg #[.slice a n1 cap, .slice a2 n2 cap2, .int .i64 p.trim, .int .i64 p.sheets] := by unfold openP; rw [if_pos HE.out]
  have HO := Lib.hid hO
  obtain ⟨z, hz⟩ : ∃ z, z = mkwErr p m := ⟨_, rfl⟩
  have hz0 : (z != 0) = true := by rw [hz]; simpa using hm
  rw [← hz]
  have HZ := Lib.hid hz
  clear hO hz hn1 hn2 he hm
  go_enter Tryz.func50, Tryz.ntmps50
  go_wp2_with fail
  refine (foldOpen_any p _ _ (HP.out.later (by exact (by repeat (first | exact Below.refl _ _ | assumption | (refine Below.alloc ?_ ?_ _; rotate_left; · (first | omega | (simp; done) | (simp; omega) | fail)) | (refine Below.setCell ?_ ?_ _; rotate_left; · (first | omega | (simp; done) | (simp; omega) | fail)) | refine Below.drew ?_ | fail))))).mono ?_
  rintro e w2 ⟨rfl, hb2⟩
  rw [HO.out, HE.out]
  have hb0 : Below w.heap.size w w2 := Below.trans (by exact (by repeat (first | exact Below.refl _ _ | assumption | (refine Below.alloc ?_ ?_ _; rotate_left; · (first | omega | (simp; done) | (simp; omega) | fail)) | (refine Below.setCell ?_ ?_ _; rotate_left; · (first | omega | (simp; done) | (simp; omega) | fail)) | refine Below.drew ?_ | fail))) (hb2.mono (by simp; try omega))
  have b2 : w2.heap[w.heap.size + 1]? = some (.cells #[.int .i64 m.fmt, .int .i64 m.ppr, .int .i64 m.sheets, .bool m.half] 38) := blk_later hb2 (by repeat (first | exact heap_alloc_at _ _ _ (by (first | omega | (simp; done) | (simp; omega) | (simp at *; omega) | fail)) | assumption | rw [heap_alloc_past _ _ _ (by (first | omega | (simp; done) | (simp; omega) | (simp at *; omega) | fail))] | rw [heap_setCell_past _ _ _ _ (by (first | omega | (simp; done) | (simp; omega) | (simp at *; omega) | fail))] | fail))
  have b3 : w2.heap[w.heap.size + 2]? = some (.cells #[.int .i64 0, .int .i64 0, .int .i64 0, .bool false, S [], .int .i64 0, .int .i64 0, S [], .int .i64 0, .int .i64 0, .int .i64 0, .int .i64 0, .int .i64 0, .slice none 0 0] 107) := blk_later hb2 (by repeat (first | exact heap_alloc_at _ _ _ (by (first | omega | (simp; done) | (simp; omega) | (simp at *; omega) | fail)) | assumption | rw [heap_alloc_past _ _ _ (by (first | omega | (simp; done) | (simp; omega) | (simp at *; omega) | fail))] | rw [heap_setCell_past _ _ _ _ (by (first | omega | (simp; done) | (simp; omega) | (simp at *; omega) | fail))] | fail))
  clear hb2
  have hz2 := hb0.size
  have hlt := blk_lt b3
  have t2 : (w2.alloc (.cells #[.slice a n1 cap, .slice a2 n2 cap2, .int .i64 p.trim, .int .i64 p.sheets] 85)).heap[w.heap.size + 1]? = some (.cells #[.int .i64 m.fmt, .int .i64 m.ppr, .int .i64 m.sheets, .bool m.half] 38) := (heap_alloc_past _ _ _ (by omega)).trans b2
  have t3 : (w2.alloc (.cells #[.slice a n1 cap, .slice a2 n2 cap2, .int .i64 p.trim, .int .i64 p.sheets] 85)).heap[w.heap.size + 2]? = some (.cells #[.int .i64 0, .int .i64 0, .int .i64 0, .bool false, S [], .int .i64 0, .int .i64 0, S [], .int .i64 0, .int .i64 0, .int .i64 0, .int .i64 0, .int .i64 0, .slice none 0 0] 107) := (heap_alloc_past _ _ _ (by omega)).trans b3
  have m0 := blk_cell t2 0
  have m1 := blk_cell t2 1
  have m2 := blk_cell t2 2
  have m3 := blk_cell t2 3
  clear b2 b3
  go_wp2_with fail
  have hb3 : Below w.heap.size w (w2.alloc (.cells #[.slice a n1 cap, .slice a2 n2 cap2, .int .i64 p.trim, .int .i64 p.sheets] 85)) := hb0.alloc hz2 _
  refine (makeError_any p m _ _ (HP.out.later hb3) HE.out).mono ?_
  rintro e w4 ⟨rfl, hb4⟩
  rw [← HZ.out]
  have b3 := blk_later hb4 t3
  have hb5 := hb3.trans (hb4.mono hb3.size)
  clear hb3 hb4 m0 m1 m2 m3 t2 t3 hb0
  have e0 := blk_cell b3 0
  have e1 := blk_cell b3 1
  have e2 := blk_cell b3 2
  have e3 := blk_cell b3 3
  have e4 := blk_cell b3 4
  have e5 := blk_cell b3 5
  have e6 := blk_cell b3 6
  have e7 := blk_cell b3 7
  have e8 := blk_cell b3 8
  have e9 := blk_cell b3 9
  have e10 := blk_cell b3 10
  have e11 := blk_cell b3 11
  have e12 := blk_cell b3 12
  have e13 := blk_cell b3 13
  have z0 := blk_free b3 0
  have z1 := blk_free b3 1
  have z2 := blk_free b3 2
  have z3 := blk_free b3 3
  have z4 := blk_free b3 4
  have z5 := blk_free b3 5
  have z6 := blk_free b3 6
  have z7 := blk_free b3 7
  have z8 := blk_free b3 8
  have z9 := blk_free b3 9
  have z10 := blk_free b3 10
  have z11 := blk_free b3 11
  have z12 := blk_free b3 12
  have z13 := blk_free b3 13
  go_wp2_with fail
  have b9 : ((((((((((((((w4.setCell ⟨w.heap.size + 1 + 1, 0, none⟩ (.int .i64 0)).setCell ⟨w.heap.size + 1 + 1, 1, none⟩ (.int .i64 0)).setCell ⟨w.heap.size + 1 + 1, 2, none⟩ (.int .i64 0)).setCell ⟨w.heap.size + 1 + 1, 3, none⟩ (.bool false)).setCell ⟨w.heap.size + 1 + 1, 4, none⟩ (S [])).setCell ⟨w.heap.size + 1 + 1, 5, none⟩ (.int .i64 0)).setCell ⟨w.heap.size + 1 + 1, 6, none⟩ (.int .i64 0)).setCell ⟨w.heap.size + 1 + 1, 7, none⟩ (S [])).setCell ⟨w.heap.size + 1 + 1, 8, none⟩ (.int .i64 0)).setCell ⟨w.heap.size + 1 + 1, 9, none⟩ (.int .i64 0)).setCell ⟨w.heap.size + 1 + 1, 10, none⟩ (.int .i64 0)).setCell ⟨w.heap.size + 1 + 1, 11, none⟩ (.int .i64 0)).setCell ⟨w.heap.size + 1 + 1, 12, none⟩ (.int .i64 0)).setCell ⟨w.heap.size + 1 + 1, 13, none⟩ (.slice none 0 0)).heap[w.heap.size + 1 + 1]? = some (.cells #[.int .i64 0, .int .i64 0, .int .i64 0, .bool false, S [], .int .i64 0, .int .i64 0, S [], .int .i64 0, .int .i64 0, .int .i64 0, .int .i64 0, .int .i64 0, .slice none 0 0] 107) := by simpa using (blk_set (blk_set (blk_set (blk_set (blk_set (blk_set (blk_set (blk_set (blk_set (blk_set (blk_set (blk_set (blk_set (blk_set b3 0 (.int .i64 0)) 1 (.int .i64 0)) 2 (.int .i64 0)) 3 (.bool false)) 4 (S [])) 5 (.int .i64 0)) 6 (.int .i64 0)) 7 (S [])) 8 (.int .i64 0)) 9 (.int .i64 0)) 10 (.int .i64 0)) 11 (.int .i64 0)) 12 (.int .i64 0)) 13 (.slice none 0 0))
  have hb9 : Below w.heap.size w ((((((((((((((w4.setCell ⟨w.heap.size + 1 + 1, 0, none⟩ (.int .i64 0)).setCell ⟨w.heap.size + 1 + 1, 1, none⟩ (.int .i64 0)).setCell ⟨w.heap.size + 1 + 1, 2, none⟩ (.int .i64 0)).setCell ⟨w.heap.size + 1 + 1, 3, none⟩ (.bool false)).setCell ⟨w.heap.size + 1 + 1, 4, none⟩ (S [])).setCell ⟨w.heap.size + 1 + 1, 5, none⟩ (.int .i64 0)).setCell ⟨w.heap.size + 1 + 1, 6, none⟩ (.int .i64 0)).setCell ⟨w.heap.size + 1 + 1, 7, none⟩ (S [])).setCell ⟨w.heap.size + 1 + 1, 8, none⟩ (.int .i64 0)).setCell ⟨w.heap.size + 1 + 1, 9, none⟩ (.int .i64 0)).setCell ⟨w.heap.size + 1 + 1, 10, none⟩ (.int .i64 0)).setCell ⟨w.heap.size + 1 + 1, 11, none⟩ (.int .i64 0)).setCell ⟨w.heap.size + 1 + 1, 12, none⟩ (.int .i64 0)).setCell ⟨w.heap.size + 1 + 1, 13, none⟩ (.slice none 0 0)) := by exact (by repeat (first | (refine Below.setCell ?_ ?_ _; rotate_left; · (first | omega | (simp; done) | (simp; omega) | fail)) | (refine Below.alloc ?_ ?_ _; rotate_left; · (first | omega | (simp; done) | (simp; omega) | fail)) | refine Below.drew ?_ | exact hb5 | fail))
  have y0 := blk_cell b9 0
  have y1 := blk_cell b9 1
  have y2 := blk_cell b9 2
  have y3 := blk_cell b9 3
  have y4 := blk_cell b9 4
  have y5 := blk_cell b9 5
  have y6 := blk_cell b9 6
  have y7 := blk_cell b9 7
  have y8 := blk_cell b9 8
  have y9 := blk_cell b9 9
  have y10 := blk_cell b9 10
  have y11 := blk_cell b9 11
  have y12 := blk_cell b9 12
  have y13 := blk_cell b9 13
  exact bodyPost_ret (v := .tuple #[.agg #[.int .i64 0, .int .i64 0, .int .i64 0, .bool false, S [], .int .i64 0, .int .i64 0, S [], .int .i64 0, .int .i64 0, .int .i64 0, .int .i64 0, .int .i64 0, .slice none 0 0], .int .i64 z]) (by simp [results, Tryz.results50, go_sem, y0, y1, y2, y3, y4, y5, y6, y7, y8, y9, y10, y11, y12, y13]) rfl ⟨rfl, hb9⟩
end Go.Proofs.YtielaaaeecfkoaaGreatDoor

/- What the functions of a way of making hand back, if it has an error. -/
namespace Go.Proofs.YtielaaaeecfkoaaGreatDoor
set_option linter.unusedSimpArgs false
set_option linter.unusedVariables false
open Go Go.RowKit Go.Sort Go.BigFrame

/-- The error of a press and a way of making. -/
def wayErr (p : Prs) (m : Mkw) : Int := if errP p = 0 then mkwErr p m else errP p
theorem openWay_err (p : Prs) (m : Mkw) (vp : Value) (w : World) (hp : PrsAt w.heap.size w vp p) (he : wayErr p m ≠ 0) :
    Calls Tryz.prog 50 #[vp, mkwV m] w fun e w' => e = .returned (.tuple #[.agg wayZ, .int .i64 (wayErr p m)]) ∧ Below w.heap.size w w' := by
  unfold wayErr at he ⊢
  by_cases h : errP p = 0
  · rw [if_pos h] at he ⊢
    exact openWay_bad2 p m vp w hp h he
  · rw [if_neg h] at he ⊢
    exact openWay_bad p m vp w hp h

set_option maxRecDepth 100000 in
set_option maxHeartbeats 2000000 in
theorem Leaves_err (p : Prs) (m : Mkw) (vp : Value) (w : World) (hp : PrsAt w.heap.size w vp p) (he : wayErr p m ≠ 0) :
    Calls Tryz.prog 14 #[vp, mkwV m] w fun e w' => e = .returned (.tuple #[.slice none 0 0, .int .i64 (wayErr p m)]) ∧ Below w.heap.size w w' := by
  have HP := Lib.hid hp
  have HE := Lib.hid he
  obtain ⟨fv, pv, rfl, ⟨a, cap, rfl, -⟩, ⟨a2, cap2, rfl, -⟩, -⟩ := hp
  obtain ⟨n1, hn1⟩ : ∃ n, n = p.fmts.length := ⟨_, rfl⟩
  obtain ⟨n2, hn2⟩ : ∃ n, n = p.pprs.length := ⟨_, rfl⟩
  rw [← hn1, ← hn2] at HP ⊢
  obtain ⟨z, hz⟩ : ∃ z, z = wayErr p m := ⟨_, rfl⟩
  have hz0 : (z != 0) = true := by rw [hz]; simpa using he
  rw [← hz]
  have HZ := Lib.hid hz
  clear hz hn1 hn2 he
  go_enter Tryz.func14, Tryz.ntmps14
  go_wp2_with fail
  refine (openWay_err p m _ _ (HP.out.later (by exact (by repeat (first | exact Below.refl _ _ | assumption | (refine Below.alloc ?_ ?_ _; rotate_left; · (first | omega | (simp; done) | (simp; omega) | fail)) | (refine Below.setCell ?_ ?_ _; rotate_left; · (first | omega | (simp; done) | (simp; omega) | fail)) | refine Below.drew ?_ | fail)))) HE.out).mono ?_
  rintro e w2 ⟨rfl, hb⟩
  rw [← HZ.out]
  have hb0 : Below w.heap.size w w2 := Below.trans (by exact (by repeat (first | exact Below.refl _ _ | assumption | (refine Below.alloc ?_ ?_ _; rotate_left; · (first | omega | (simp; done) | (simp; omega) | fail)) | (refine Below.setCell ?_ ?_ _; rotate_left; · (first | omega | (simp; done) | (simp; omega) | fail)) | refine Below.drew ?_ | fail))) (hb.mono (by simp; try omega))
  have hz2 := hb0.size
  clear hb
  go_wp2_with fail
  go_ret2
  exact ⟨rfl, by exact (by repeat (first | (refine Below.setCell ?_ ?_ _; rotate_left; · (first | omega | (simp; done) | (simp; omega) | fail)) | (refine Below.alloc ?_ ?_ _; rotate_left; · (first | omega | (simp; done) | (simp; omega) | fail)) | refine Below.drew ?_ | exact hb0 | fail))⟩

set_option maxRecDepth 100000 in
set_option maxHeartbeats 2000000 in
theorem Forme_err (p : Prs) (m : Mkw) (sh : Int) (inner : Bool) (vp : Value) (w : World) (hp : PrsAt w.heap.size w vp p) (he : wayErr p m ≠ 0) :
    Calls Tryz.prog 17 #[vp, mkwV m, .int .i64 sh, .bool inner] w fun e w' => e = .returned (.tuple #[.slice none 0 0, .int .i64 (wayErr p m)]) ∧ Below w.heap.size w w' := by
  have HP := Lib.hid hp
  have HE := Lib.hid he
  obtain ⟨fv, pv, rfl, ⟨a, cap, rfl, -⟩, ⟨a2, cap2, rfl, -⟩, -⟩ := hp
  obtain ⟨n1, hn1⟩ : ∃ n, n = p.fmts.length := ⟨_, rfl⟩
  obtain ⟨n2, hn2⟩ : ∃ n, n = p.pprs.length := ⟨_, rfl⟩
  rw [← hn1, ← hn2] at HP ⊢
  obtain ⟨z, hz⟩ : ∃ z, z = wayErr p m := ⟨_, rfl⟩
  have hz0 : (z != 0) = true := by rw [hz]; simpa using he
  rw [← hz]
  have HZ := Lib.hid hz
  clear hz hn1 hn2 he
  go_enter Tryz.func17, Tryz.ntmps17
  go_wp2_with fail
  refine (openWay_err p m _ _ (HP.out.later (by exact (by repeat (first | exact Below.refl _ _ | assumption | (refine Below.alloc ?_ ?_ _; rotate_left; · (first | omega | (simp; done) | (simp; omega) | fail)) | (refine Below.setCell ?_ ?_ _; rotate_left; · (first | omega | (simp; done) | (simp; omega) | fail)) | refine Below.drew ?_ | fail)))) HE.out).mono ?_
  rintro e w2 ⟨rfl, hb⟩
  rw [← HZ.out]
  have hb0 : Below w.heap.size w w2 := Below.trans (by exact (by repeat (first | exact Below.refl _ _ | assumption | (refine Below.alloc ?_ ?_ _; rotate_left; · (first | omega | (simp; done) | (simp; omega) | fail)) | (refine Below.setCell ?_ ?_ _; rotate_left; · (first | omega | (simp; done) | (simp; omega) | fail)) | refine Below.drew ?_ | fail))) (hb.mono (by simp; try omega))
  have hz2 := hb0.size
  clear hb
  go_wp2_with fail
  go_ret2
  exact ⟨rfl, by exact (by repeat (first | (refine Below.setCell ?_ ?_ _; rotate_left; · (first | omega | (simp; done) | (simp; omega) | fail)) | (refine Below.alloc ?_ ?_ _; rotate_left; · (first | omega | (simp; done) | (simp; omega) | fail)) | refine Below.drew ?_ | exact hb0 | fail))⟩

set_option maxRecDepth 100000 in
set_option maxHeartbeats 2000000 in
theorem Mates_err (p : Prs) (m : Mkw) (i : Int) (vp : Value) (w : World) (hp : PrsAt w.heap.size w vp p) (he : wayErr p m ≠ 0) :
    Calls Tryz.prog 20 #[vp, mkwV m, .int .i64 i] w fun e w' => e = .returned (.tuple #[.slice none 0 0, .int .i64 0, .int .i64 (wayErr p m)]) ∧ Below w.heap.size w w' := by
  have HP := Lib.hid hp
  have HE := Lib.hid he
  obtain ⟨fv, pv, rfl, ⟨a, cap, rfl, -⟩, ⟨a2, cap2, rfl, -⟩, -⟩ := hp
  obtain ⟨n1, hn1⟩ : ∃ n, n = p.fmts.length := ⟨_, rfl⟩
  obtain ⟨n2, hn2⟩ : ∃ n, n = p.pprs.length := ⟨_, rfl⟩
  rw [← hn1, ← hn2] at HP ⊢
  obtain ⟨z, hz⟩ : ∃ z, z = wayErr p m := ⟨_, rfl⟩
  have hz0 : (z != 0) = true := by rw [hz]; simpa using he
  rw [← hz]
  have HZ := Lib.hid hz
  clear hz hn1 hn2 he
  go_enter Tryz.func20, Tryz.ntmps20
  go_wp2_with fail
  refine (openWay_err p m _ _ (HP.out.later (by exact (by repeat (first | exact Below.refl _ _ | assumption | (refine Below.alloc ?_ ?_ _; rotate_left; · (first | omega | (simp; done) | (simp; omega) | fail)) | (refine Below.setCell ?_ ?_ _; rotate_left; · (first | omega | (simp; done) | (simp; omega) | fail)) | refine Below.drew ?_ | fail)))) HE.out).mono ?_
  rintro e w2 ⟨rfl, hb⟩
  rw [← HZ.out]
  have hb0 : Below w.heap.size w w2 := Below.trans (by exact (by repeat (first | exact Below.refl _ _ | assumption | (refine Below.alloc ?_ ?_ _; rotate_left; · (first | omega | (simp; done) | (simp; omega) | fail)) | (refine Below.setCell ?_ ?_ _; rotate_left; · (first | omega | (simp; done) | (simp; omega) | fail)) | refine Below.drew ?_ | fail))) (hb.mono (by simp; try omega))
  have hz2 := hb0.size
  clear hb
  go_wp2_with fail
  go_ret3
  exact ⟨rfl, by exact (by repeat (first | (refine Below.setCell ?_ ?_ _; rotate_left; · (first | omega | (simp; done) | (simp; omega) | fail)) | (refine Below.alloc ?_ ?_ _; rotate_left; · (first | omega | (simp; done) | (simp; omega) | fail)) | refine Below.drew ?_ | exact hb0 | fail))⟩

set_option maxRecDepth 100000 in
set_option maxHeartbeats 2000000 in
theorem Marked_err (p : Prs) (m : Mkw) (va : Option Addr) (vn vc : Nat) (vp : Value) (w : World) (hp : PrsAt w.heap.size w vp p) (he : wayErr p m ≠ 0) :
    Calls Tryz.prog 22 #[vp, mkwV m, .slice va vn vc] w fun e w' => e = .returned (.tuple #[.slice none 0 0, .int .i64 (wayErr p m)]) ∧ Below w.heap.size w w' := by
  have HP := Lib.hid hp
  have HE := Lib.hid he
  obtain ⟨fv, pv, rfl, ⟨a, cap, rfl, -⟩, ⟨a2, cap2, rfl, -⟩, -⟩ := hp
  obtain ⟨n1, hn1⟩ : ∃ n, n = p.fmts.length := ⟨_, rfl⟩
  obtain ⟨n2, hn2⟩ : ∃ n, n = p.pprs.length := ⟨_, rfl⟩
  rw [← hn1, ← hn2] at HP ⊢
  obtain ⟨z, hz⟩ : ∃ z, z = wayErr p m := ⟨_, rfl⟩
  have hz0 : (z != 0) = true := by rw [hz]; simpa using he
  rw [← hz]
  have HZ := Lib.hid hz
  clear hz hn1 hn2 he
  go_enter Tryz.func22, Tryz.ntmps22
  go_wp2_with fail
  refine (openWay_err p m _ _ (HP.out.later (by exact (by repeat (first | exact Below.refl _ _ | assumption | (refine Below.alloc ?_ ?_ _; rotate_left; · (first | omega | (simp; done) | (simp; omega) | fail)) | (refine Below.setCell ?_ ?_ _; rotate_left; · (first | omega | (simp; done) | (simp; omega) | fail)) | refine Below.drew ?_ | fail)))) HE.out).mono ?_
  rintro e w2 ⟨rfl, hb⟩
  rw [← HZ.out]
  have hb0 : Below w.heap.size w w2 := Below.trans (by exact (by repeat (first | exact Below.refl _ _ | assumption | (refine Below.alloc ?_ ?_ _; rotate_left; · (first | omega | (simp; done) | (simp; omega) | fail)) | (refine Below.setCell ?_ ?_ _; rotate_left; · (first | omega | (simp; done) | (simp; omega) | fail)) | refine Below.drew ?_ | fail))) (hb.mono (by simp; try omega))
  have hz2 := hb0.size
  clear hb
  go_wp2_with fail
  go_ret2
  exact ⟨rfl, by exact (by repeat (first | (refine Below.setCell ?_ ?_ _; rotate_left; · (first | omega | (simp; done) | (simp; omega) | fail)) | (refine Below.alloc ?_ ?_ _; rotate_left; · (first | omega | (simp; done) | (simp; omega) | fail)) | refine Below.drew ?_ | exact hb0 | fail))⟩
end Go.Proofs.YtielaaaeecfkoaaGreatDoor

/- What the functions of a way of making hand back, if what is asked is none. -/
namespace Go.Proofs.YtielaaaeecfkoaaGreatDoor
set_option linter.unusedSimpArgs false
set_option linter.unusedVariables false
open Go Go.RowKit Go.Sort Go.BigFrame

set_option maxRecDepth 100000 in
set_option maxHeartbeats 2000000 in
theorem Forme_none (p : Prs) (m : Mkw) (f : Fmt) (ls : List Fl) (sh : Int) (inner : Bool) (vp : Value) (w : World) (hp : PrsAt w.heap.size w vp p) (he : errP p = 0) (hm : mkwErr p m = 0)
    (hf : p.fmts[m.fmt.toNat]? = some f) (hls : ls = leavesW m f) (hsh : inB 0 (m.sheets - 1) sh = false) :
    Calls Tryz.prog 17 #[vp, mkwV m, .int .i64 sh, .bool inner] w fun e w' => e = .returned (.tuple #[.slice none 0 0, .int .i64 4]) ∧ Below w.heap.size w w' := by
  have HP := Lib.hid hp
  have HE := Lib.hid he
  have HM := Lib.hid hm
  have HF0 := Lib.hid hf
  have FN := Lib.hid (fine_of he hm hf)
  have HLS := Lib.hid hls
  obtain ⟨fv, pv, rfl, ⟨a, cap, rfl, -⟩, ⟨a2, cap2, rfl, -⟩, -⟩ := hp
  obtain ⟨n1, hn1⟩ : ∃ n, n = p.fmts.length := ⟨_, rfl⟩
  obtain ⟨n2, hn2⟩ : ∃ n, n = p.pprs.length := ⟨_, rfl⟩
  rw [← hn1, ← hn2] at HP ⊢
  clear hn1 hn2 he hm hf hls
  have hs1 := FN.out.sh1
  have hs4 := FN.out.sh4
  obtain ⟨sn, hsn⟩ : ∃ s, s = m.sheets.toNat := ⟨_, rfl⟩
  rw [← hsn] at hs1 hs4
  have hms : m.sheets = (sn : Int) := by omega
  have HMS := Lib.hid hms
  obtain ⟨n7, hn7⟩ : ∃ n, n = ls.length := ⟨_, rfl⟩
  have HN7 := Lib.hid hn7
  have hn64 : 1 ≤ n7 ∧ n7 ≤ 64 := by
    have := FN.out.count
    rw [← HLS.out, ← hn7] at this
    exact this
  clear hn7
  rw [hms] at hsh
  clear hms hsn
  go_enter Tryz.func17, Tryz.ntmps17
  go_wp2_with fail
  refine (openWay_any p m _ _ (HP.out.later (by exact (by repeat (first | exact Below.refl _ _ | assumption | (refine Below.alloc ?_ ?_ _; rotate_left; · (first | omega | (simp; done) | (simp; omega) | fail)) | (refine Below.setCell ?_ ?_ _; rotate_left; · (first | omega | (simp; done) | (simp; omega) | fail)) | refine Below.drew ?_ | fail)))) HE.out HM.out).mono ?_
  rintro e w2 ⟨⟨f', q, lv, g, hfx, hqx, rfl, hl, hg⟩, hb⟩
  obtain rfl : f' = f := Option.some.inj (hfx.symm.trans HF0.out)
  rw [show leavesF (fdsB f'.folds) m.sheets.toNat m.half = ls from HLS.out.symm] at hl
  obtain ⟨co, hco⟩ : ∃ c : Nat, c = colsF (fdsB f'.folds) := ⟨_, rfl⟩
  obtain ⟨ro, hro⟩ : ∃ c : Nat, c = rowsF (fdsB f'.folds) := ⟨_, rfl⟩
  rw [← hco, ← hro]
  have hb0 : Below w.heap.size w w2 := Below.trans (by exact (by repeat (first | exact Below.refl _ _ | assumption | (refine Below.alloc ?_ ?_ _; rotate_left; · (first | omega | (simp; done) | (simp; omega) | fail)) | (refine Below.setCell ?_ ?_ _; rotate_left; · (first | omega | (simp; done) | (simp; omega) | fail)) | refine Below.drew ?_ | fail))) (hb.mono (by simp; try omega))
  have HL := Lib.hid hl
  obtain ⟨k7, rest, rfl, -⟩ := hl
  rw [← HN7.out] at HL ⊢
  have hz2 := hb0.size
  clear hfx hqx hb hg hco hro
  have hb1 : Below w.heap.size w (w2.alloc (.cells (wayC m f'.folds co ro q p.trim (.slice (some ⟨g, 0, none⟩) n7 (n7 + k7))) 107)) := hb0.alloc hz2 _
  have hc1 : (w2.alloc (.cells (wayC m f'.folds co ro q p.trim (.slice (some ⟨g, 0, none⟩) n7 (n7 + k7))) 107)).heap[w2.heap.size]? = some (.cells (wayC m f'.folds co ro q p.trim (.slice (some ⟨g, 0, none⟩) n7 (n7 + k7))) 107 (0, 0)) := World.alloc_heap_new _ _
  go_upto_region 4 with fail
  dsimp only [wayC] at hb1 hc1
  revert hb1 hc1
  generalize (w2.alloc (.cells #[.int .i64 m.fmt, .int .i64 m.ppr, .int .i64 m.sheets, .bool m.half, S f'.folds, .int .i64 co, .int .i64 ro, S q.name, .int .i64 q.wlo, .int .i64 q.whi, .int .i64 q.hlo, .int .i64 q.hhi, .int .i64 p.trim, .slice (some ⟨g, 0, none⟩) n7 (n7 + k7)] 107)) = w1
  intro hb1 hc1
  clear HL hb0
  have d2 := blk_cell hc1 2
  rw [HMS.out] at d2
  go_wp2_with fail
  refine (within_one 0 ((sn : Int) - 1) sh _ _ (by simp [World.cell?_alloc_at])).mono ?_
  rintro e w4 ⟨rfl, h9⟩
  rw [hsh]
  have hb4 : Below w.heap.size w w4 := by rw [← h9]; exact hb1.alloc hb1.size _
  clear h9
  go_wp2_with fail
  go_ret2
  exact ⟨rfl, hb4⟩
set_option maxRecDepth 100000 in
set_option maxHeartbeats 2000000 in
theorem Mates_none (p : Prs) (m : Mkw) (f : Fmt) (ls : List Fl) (i : Int) (vp : Value) (w : World) (hp : PrsAt w.heap.size w vp p) (he : errP p = 0) (hm : mkwErr p m = 0)
    (hf : p.fmts[m.fmt.toNat]? = some f) (hls : ls = leavesW m f) (hi : inB 0 ((ls.length : Int) - 1) i = false) :
    Calls Tryz.prog 20 #[vp, mkwV m, .int .i64 i] w fun e w' => e = .returned (.tuple #[.slice none 0 0, .int .i64 0, .int .i64 4]) ∧ Below w.heap.size w w' := by
  have HP := Lib.hid hp
  have HE := Lib.hid he
  have HM := Lib.hid hm
  have HF0 := Lib.hid hf
  have FN := Lib.hid (fine_of he hm hf)
  have HLS := Lib.hid hls
  obtain ⟨fv, pv, rfl, ⟨a, cap, rfl, -⟩, ⟨a2, cap2, rfl, -⟩, -⟩ := hp
  obtain ⟨n1, hn1⟩ : ∃ n, n = p.fmts.length := ⟨_, rfl⟩
  obtain ⟨n2, hn2⟩ : ∃ n, n = p.pprs.length := ⟨_, rfl⟩
  rw [← hn1, ← hn2] at HP ⊢
  clear hn1 hn2 he hm hf hls
  have hs1 := FN.out.sh1
  have hs4 := FN.out.sh4
  obtain ⟨sn, hsn⟩ : ∃ s, s = m.sheets.toNat := ⟨_, rfl⟩
  rw [← hsn] at hs1 hs4
  have hms : m.sheets = (sn : Int) := by omega
  have HMS := Lib.hid hms
  obtain ⟨n7, hn7⟩ : ∃ n, n = ls.length := ⟨_, rfl⟩
  have HN7 := Lib.hid hn7
  have hn64 : 1 ≤ n7 ∧ n7 ≤ 64 := by
    have := FN.out.count
    rw [← HLS.out, ← hn7] at this
    exact this
  clear hn7
  rw [← HN7.out] at hi
  clear hms hsn
  go_enter Tryz.func20, Tryz.ntmps20
  go_wp2_with fail
  refine (openWay_any p m _ _ (HP.out.later (by exact (by repeat (first | exact Below.refl _ _ | assumption | (refine Below.alloc ?_ ?_ _; rotate_left; · (first | omega | (simp; done) | (simp; omega) | fail)) | (refine Below.setCell ?_ ?_ _; rotate_left; · (first | omega | (simp; done) | (simp; omega) | fail)) | refine Below.drew ?_ | fail)))) HE.out HM.out).mono ?_
  rintro e w2 ⟨⟨f', q, lv, g, hfx, hqx, rfl, hl, hg⟩, hb⟩
  obtain rfl : f' = f := Option.some.inj (hfx.symm.trans HF0.out)
  rw [show leavesF (fdsB f'.folds) m.sheets.toNat m.half = ls from HLS.out.symm] at hl
  obtain ⟨co, hco⟩ : ∃ c : Nat, c = colsF (fdsB f'.folds) := ⟨_, rfl⟩
  obtain ⟨ro, hro⟩ : ∃ c : Nat, c = rowsF (fdsB f'.folds) := ⟨_, rfl⟩
  rw [← hco, ← hro]
  have hb0 : Below w.heap.size w w2 := Below.trans (by exact (by repeat (first | exact Below.refl _ _ | assumption | (refine Below.alloc ?_ ?_ _; rotate_left; · (first | omega | (simp; done) | (simp; omega) | fail)) | (refine Below.setCell ?_ ?_ _; rotate_left; · (first | omega | (simp; done) | (simp; omega) | fail)) | refine Below.drew ?_ | fail))) (hb.mono (by simp; try omega))
  have HL := Lib.hid hl
  obtain ⟨k7, rest, rfl, -⟩ := hl
  rw [← HN7.out] at HL ⊢
  have hz2 := hb0.size
  clear hfx hqx hb hg hco hro
  have hb1 : Below w.heap.size w (w2.alloc (.cells (wayC m f'.folds co ro q p.trim (.slice (some ⟨g, 0, none⟩) n7 (n7 + k7))) 107)) := hb0.alloc hz2 _
  have hc1 : (w2.alloc (.cells (wayC m f'.folds co ro q p.trim (.slice (some ⟨g, 0, none⟩) n7 (n7 + k7))) 107)).heap[w2.heap.size]? = some (.cells (wayC m f'.folds co ro q p.trim (.slice (some ⟨g, 0, none⟩) n7 (n7 + k7))) 107 (0, 0)) := World.alloc_heap_new _ _
  go_upto_region 4 with fail
  dsimp only [wayC] at hb1 hc1
  revert hb1 hc1
  generalize (w2.alloc (.cells #[.int .i64 m.fmt, .int .i64 m.ppr, .int .i64 m.sheets, .bool m.half, S f'.folds, .int .i64 co, .int .i64 ro, S q.name, .int .i64 q.wlo, .int .i64 q.whi, .int .i64 q.hlo, .int .i64 q.hhi, .int .i64 p.trim, .slice (some ⟨g, 0, none⟩) n7 (n7 + k7)] 107)) = w1
  intro hb1 hc1
  clear HL hb0
  have d13 := blk_cell hc1 13
  go_wp2_with fail
  refine (within_one 0 ((n7 : Int) - 1) i _ _ (by simp [World.cell?_alloc_at])).mono ?_
  rintro e w4 ⟨rfl, h9⟩
  rw [hi]
  have hb4 : Below w.heap.size w w4 := by rw [← h9]; exact hb1.alloc hb1.size _
  clear h9
  go_wp2_with fail
  go_ret3
  exact ⟨rfl, hb4⟩
set_option maxRecDepth 100000 in
set_option maxHeartbeats 2000000 in
theorem Marked_long (p : Prs) (m : Mkw) (f : Fmt) (ls : List Fl) (va : Option Addr) (vn vc : Nat) (vp : Value) (w : World) (hp : PrsAt w.heap.size w vp p) (he : errP p = 0) (hm : mkwErr p m = 0)
    (hf : p.fmts[m.fmt.toNat]? = some f) (hls : ls = leavesW m f) (hne : (vn : Int) ≠ m.sheets) :
    Calls Tryz.prog 22 #[vp, mkwV m, .slice va vn vc] w fun e w' => e = .returned (.tuple #[.slice none 0 0, .int .i64 3]) ∧ Below w.heap.size w w' := by
  have HP := Lib.hid hp
  have HE := Lib.hid he
  have HM := Lib.hid hm
  have HF0 := Lib.hid hf
  have FN := Lib.hid (fine_of he hm hf)
  have HLS := Lib.hid hls
  obtain ⟨fv, pv, rfl, ⟨a, cap, rfl, -⟩, ⟨a2, cap2, rfl, -⟩, -⟩ := hp
  obtain ⟨n1, hn1⟩ : ∃ n, n = p.fmts.length := ⟨_, rfl⟩
  obtain ⟨n2, hn2⟩ : ∃ n, n = p.pprs.length := ⟨_, rfl⟩
  rw [← hn1, ← hn2] at HP ⊢
  clear hn1 hn2 he hm hf hls
  have hs1 := FN.out.sh1
  have hs4 := FN.out.sh4
  obtain ⟨sn, hsn⟩ : ∃ s, s = m.sheets.toNat := ⟨_, rfl⟩
  rw [← hsn] at hs1 hs4
  have hms : m.sheets = (sn : Int) := by omega
  have HMS := Lib.hid hms
  obtain ⟨n7, hn7⟩ : ∃ n, n = ls.length := ⟨_, rfl⟩
  have HN7 := Lib.hid hn7
  have hn64 : 1 ≤ n7 ∧ n7 ≤ 64 := by
    have := FN.out.count
    rw [← HLS.out, ← hn7] at this
    exact this
  clear hn7
  rw [hms] at hne
  have hne2 : ((vn : Int) != (sn : Int)) = true := by simpa using hne
  clear hms hsn hne
  go_enter Tryz.func22, Tryz.ntmps22
  go_wp2_with fail
  refine (openWay_any p m _ _ (HP.out.later (by exact (by repeat (first | exact Below.refl _ _ | assumption | (refine Below.alloc ?_ ?_ _; rotate_left; · (first | omega | (simp; done) | (simp; omega) | fail)) | (refine Below.setCell ?_ ?_ _; rotate_left; · (first | omega | (simp; done) | (simp; omega) | fail)) | refine Below.drew ?_ | fail)))) HE.out HM.out).mono ?_
  rintro e w2 ⟨⟨f', q, lv, g, hfx, hqx, rfl, hl, hg⟩, hb⟩
  obtain rfl : f' = f := Option.some.inj (hfx.symm.trans HF0.out)
  rw [show leavesF (fdsB f'.folds) m.sheets.toNat m.half = ls from HLS.out.symm] at hl
  obtain ⟨co, hco⟩ : ∃ c : Nat, c = colsF (fdsB f'.folds) := ⟨_, rfl⟩
  obtain ⟨ro, hro⟩ : ∃ c : Nat, c = rowsF (fdsB f'.folds) := ⟨_, rfl⟩
  rw [← hco, ← hro]
  have hb0 : Below w.heap.size w w2 := Below.trans (by exact (by repeat (first | exact Below.refl _ _ | assumption | (refine Below.alloc ?_ ?_ _; rotate_left; · (first | omega | (simp; done) | (simp; omega) | fail)) | (refine Below.setCell ?_ ?_ _; rotate_left; · (first | omega | (simp; done) | (simp; omega) | fail)) | refine Below.drew ?_ | fail))) (hb.mono (by simp; try omega))
  have HL := Lib.hid hl
  obtain ⟨k7, rest, rfl, -⟩ := hl
  rw [← HN7.out] at HL ⊢
  have hz2 := hb0.size
  clear hfx hqx hb hg hco hro
  have hb1 : Below w.heap.size w (w2.alloc (.cells (wayC m f'.folds co ro q p.trim (.slice (some ⟨g, 0, none⟩) n7 (n7 + k7))) 107)) := hb0.alloc hz2 _
  have hc1 : (w2.alloc (.cells (wayC m f'.folds co ro q p.trim (.slice (some ⟨g, 0, none⟩) n7 (n7 + k7))) 107)).heap[w2.heap.size]? = some (.cells (wayC m f'.folds co ro q p.trim (.slice (some ⟨g, 0, none⟩) n7 (n7 + k7))) 107 (0, 0)) := World.alloc_heap_new _ _
  go_upto_region 4 with fail
  dsimp only [wayC] at hb1 hc1
  revert hb1 hc1
  generalize (w2.alloc (.cells #[.int .i64 m.fmt, .int .i64 m.ppr, .int .i64 m.sheets, .bool m.half, S f'.folds, .int .i64 co, .int .i64 ro, S q.name, .int .i64 q.wlo, .int .i64 q.whi, .int .i64 q.hlo, .int .i64 q.hhi, .int .i64 p.trim, .slice (some ⟨g, 0, none⟩) n7 (n7 + k7)] 107)) = w1
  intro hb1 hc1
  clear HL hb0
  have d2 := blk_cell hc1 2
  rw [HMS.out] at d2
  go_wp2_with fail
  go_ret2
  exact ⟨rfl, hb1⟩
set_option maxRecDepth 100000 in
set_option maxHeartbeats 2000000 in
theorem Marked_range (p : Prs) (m : Mkw) (f : Fmt) (ls : List Fl) (hs : List Int) (v vp : Value) (w : World) (hp : PrsAt w.heap.size w vp p) (he : errP p = 0) (hm : mkwErr p m = 0)
    (hf : p.fmts[m.fmt.toNat]? = some f) (hls : ls = leavesW m f) (hv : IntsAt w v hs) (hlen : (hs.length : Int) = m.sheets) (hne : hs.all (inI 0 1) = false) :
    Calls Tryz.prog 22 #[vp, mkwV m, v] w fun e w' => e = .returned (.tuple #[.slice none 0 0, .int .i64 7]) ∧ Below w.heap.size w w' := by
  obtain ⟨av, capv, rfl, hcv⟩ := hv
  obtain ⟨gh, rfl, hgh, hch⟩ := hcv (by intro e; rw [e] at hne; simp at hne)
  have HCH := Lib.hid hch
  obtain ⟨n6, hn6⟩ : ∃ n, n = hs.length := ⟨_, rfl⟩
  have HN6 := Lib.hid hn6
  rw [← hn6] at hlen ⊢
  clear hn6 hcv hch
  have HP := Lib.hid hp
  have HE := Lib.hid he
  have HM := Lib.hid hm
  have HF0 := Lib.hid hf
  have FN := Lib.hid (fine_of he hm hf)
  have HLS := Lib.hid hls
  obtain ⟨fv, pv, rfl, ⟨a, cap, rfl, -⟩, ⟨a2, cap2, rfl, -⟩, -⟩ := hp
  obtain ⟨n1, hn1⟩ : ∃ n, n = p.fmts.length := ⟨_, rfl⟩
  obtain ⟨n2, hn2⟩ : ∃ n, n = p.pprs.length := ⟨_, rfl⟩
  rw [← hn1, ← hn2] at HP ⊢
  clear hn1 hn2 he hm hf hls
  have hs1 := FN.out.sh1
  have hs4 := FN.out.sh4
  obtain ⟨sn, hsn⟩ : ∃ s, s = m.sheets.toNat := ⟨_, rfl⟩
  rw [← hsn] at hs1 hs4
  have hms : m.sheets = (sn : Int) := by omega
  have HMS := Lib.hid hms
  obtain ⟨n7, hn7⟩ : ∃ n, n = ls.length := ⟨_, rfl⟩
  have HN7 := Lib.hid hn7
  have hn64 : 1 ≤ n7 ∧ n7 ≤ 64 := by
    have := FN.out.count
    rw [← HLS.out, ← hn7] at this
    exact this
  clear hn7
  rw [hms] at hlen
  have hl2 : ((n6 : Int) != (sn : Int)) = false := by simpa using hlen
  have hn4 : n6 ≤ 4 := by omega
  have HNE := Lib.hid hne
  clear hms hsn hne hlen
  go_enter Tryz.func22, Tryz.ntmps22
  go_wp2_with fail
  refine (openWay_any p m _ _ (HP.out.later (by exact (by repeat (first | exact Below.refl _ _ | assumption | (refine Below.alloc ?_ ?_ _; rotate_left; · (first | omega | (simp; done) | (simp; omega) | fail)) | (refine Below.setCell ?_ ?_ _; rotate_left; · (first | omega | (simp; done) | (simp; omega) | fail)) | refine Below.drew ?_ | fail)))) HE.out HM.out).mono ?_
  rintro e w2 ⟨⟨f', q, lv, g, hfx, hqx, rfl, hl, hg⟩, hb⟩
  obtain rfl : f' = f := Option.some.inj (hfx.symm.trans HF0.out)
  rw [show leavesF (fdsB f'.folds) m.sheets.toNat m.half = ls from HLS.out.symm] at hl
  obtain ⟨co, hco⟩ : ∃ c : Nat, c = colsF (fdsB f'.folds) := ⟨_, rfl⟩
  obtain ⟨ro, hro⟩ : ∃ c : Nat, c = rowsF (fdsB f'.folds) := ⟨_, rfl⟩
  rw [← hco, ← hro]
  have hb0 : Below w.heap.size w w2 := Below.trans (by exact (by repeat (first | exact Below.refl _ _ | assumption | (refine Below.alloc ?_ ?_ _; rotate_left; · (first | omega | (simp; done) | (simp; omega) | fail)) | (refine Below.setCell ?_ ?_ _; rotate_left; · (first | omega | (simp; done) | (simp; omega) | fail)) | refine Below.drew ?_ | fail))) (hb.mono (by simp; try omega))
  have HL := Lib.hid hl
  obtain ⟨k7, rest, rfl, -⟩ := hl
  rw [← HN7.out] at HL ⊢
  have hz2 := hb0.size
  clear hfx hqx hb hg hco hro
  have hb1 : Below w.heap.size w (w2.alloc (.cells (wayC m f'.folds co ro q p.trim (.slice (some ⟨g, 0, none⟩) n7 (n7 + k7))) 107)) := hb0.alloc hz2 _
  have hc1 : (w2.alloc (.cells (wayC m f'.folds co ro q p.trim (.slice (some ⟨g, 0, none⟩) n7 (n7 + k7))) 107)).heap[w2.heap.size]? = some (.cells (wayC m f'.folds co ro q p.trim (.slice (some ⟨g, 0, none⟩) n7 (n7 + k7))) 107 (0, 0)) := World.alloc_heap_new _ _
  go_upto_region 4 with fail
  dsimp only [wayC] at hb1 hc1
  revert hb1 hc1
  generalize (w2.alloc (.cells #[.int .i64 m.fmt, .int .i64 m.ppr, .int .i64 m.sheets, .bool m.half, S f'.folds, .int .i64 co, .int .i64 ro, S q.name, .int .i64 q.wlo, .int .i64 q.whi, .int .i64 q.hlo, .int .i64 q.hhi, .int .i64 p.trim, .slice (some ⟨g, 0, none⟩) n7 (n7 + k7)] 107)) = w1
  intro hb1 hc1
  clear HL hb0
  have d2 := blk_cell hc1 2
  rw [HMS.out] at d2
  go_wp2_with fail
  have hWI := within_list 0 1 hs gh capv w1 (fun i x hx => cell_later' hb1 (HCH.out i x hx)) (by rw [← HN6.out]; omega)
  rw [← HN6.out, HNE.out] at hWI
  refine hWI.mono ?_
  rintro e w9 ⟨rfl, h9⟩
  obtain rfl := h9.symm
  clear hWI h9
  go_wp2_with fail
  go_ret2
  exact ⟨rfl, hb1⟩
end Go.Proofs.YtielaaaeecfkoaaGreatDoor

/- Marked, of halves that lie anywhere in their block. -/
namespace Go.Proofs.YtielaaaeecfkoaaGreatDoor
set_option linter.unusedSimpArgs false
set_option linter.unusedVariables false
open Go Go.RowKit Go.Sort Go.BigFrame

/-- A slice of numbers, from a place of its block on. -/
def IntsO (W : World) (v : Value) (xs : List Int) : Prop :=
  ∃ (a : Option Addr) (cap : Nat), v = .slice a xs.length cap ∧ (xs ≠ [] → ∃ g o, a = some ⟨g, o, none⟩ ∧ g < W.heap.size ∧ ∀ i x, xs[i]? = some x → W.cell? ⟨g, o + i, none⟩ = some (.int .i64 x))
theorem IntsO.later {W W' : World} {v : Value} {xs : List Int} (h : IntsO W v xs) (hb : Below W.heap.size W W') : IntsO W' v xs := by
  obtain ⟨a, cap, e, hc⟩ := h
  refine ⟨a, cap, e, fun hne => ?_⟩
  obtain ⟨g, o, h1, h2, h3⟩ := hc hne
  exact ⟨g, o, h1, Nat.lt_of_lt_of_le h2 hb.size, fun i x hx => cell_later' hb (h3 i x hx)⟩
set_option maxRecDepth 100000 in
set_option maxHeartbeats 1000000 in
theorem within_listO (lo hi : Int) (xs : List Int) (b o cap : Nat) (w : World) (hc : ∀ i x, xs[i]? = some x → w.cell? ⟨b, o + i, none⟩ = some (.int .i64 x)) (hl : xs.length < 1000000) :
    Calls Tryz.prog 32 #[.int .i64 lo, .int .i64 hi, .slice (some ⟨b, o, none⟩) xs.length cap] w fun e w' => e = .returned (.bool (xs.all (inI lo hi))) ∧ w' = w := by
  have HC := Lib.hid hc
  clear hc
  obtain ⟨n, hn⟩ : ∃ n, n = xs.length := ⟨_, rfl⟩
  rw [← hn] at hl ⊢
  have HN := Lib.hid hn
  clear hn
  go_enter Tryz.func32, Tryz.ntmps32
  go_wp2_with fail
  go_loopw [11] (fun q wr => ∃ (k : Nat), k ≤ n ∧ q = .int .i64 k ∧ Hid (xs.all (inI lo hi) = (xs.drop k).all (inI lo hi)) ∧ wr = w) (fun q _ => n - (intOf q).toNat)
  case atStart => exact ⟨0, by omega, rfl, rfl, rfl⟩
  case round =>
    obtain ⟨k, hk, rfl, hT, rfl⟩ := hrel
    by_cases hlt : k < n
    · obtain ⟨x, hx⟩ : ∃ x, xs[k]? = some x := ⟨_, List.getElem?_eq_getElem (by have := HN.out; omega)⟩
      have h0 := HC.out k x hx
      have hstep : xs.all (inI lo hi) = (inI lo hi x && (xs.drop (k + 1)).all (inI lo hi)) := by rw [hT.out, drop_at hx]; rfl
      have HST := Lib.hid hstep
      clear hstep hT hx
      by_cases h1 : x < lo
      · have HN2 : Hid (xs.all (inI lo hi) = false) := Lib.hid (by rw [HST.out]; unfold inI; rw [decide_eq_false (p := lo ≤ x) (by omega)]; rfl)
        go_wp2_with fail
        go_ret
        exact ⟨by rw [HN2.out]; rfl, rfl⟩
      · by_cases h2 : hi < x
        · have HN2 : Hid (xs.all (inI lo hi) = false) := Lib.hid (by rw [HST.out]; unfold inI; rw [decide_eq_false (p := x ≤ hi) (by omega)]; simp)
          go_wp2_with fail
          go_ret
          exact ⟨by rw [HN2.out]; rfl, rfl⟩
        · have HN2 : Hid (xs.all (inI lo hi) = (xs.drop (k + 1)).all (inI lo hi)) := Lib.hid (by rw [HST.out]; unfold inI; rw [decide_eq_true (p := x ≤ hi) (by omega), decide_eq_true (p := lo ≤ x) (by omega)]; rfl)
          go_wp2_with fail
          go_roundw
          case rel => exact ⟨k + 1, by omega, by go_num, HN2.out, trivial⟩
          case measure => simp [intOf]; omega
    · have HN2 : Hid (xs.all (inI lo hi) = true) := Lib.hid (by rw [hT.out, List.drop_of_length_le (by have := HN.out; omega)]; rfl)
      go_wp2_with fail
      go_ret
      exact ⟨by rw [HN2.out]; rfl, rfl⟩
set_option maxRecDepth 100000 in
set_option maxHeartbeats 4000000 in
theorem Marked_anyO (p : Prs) (m : Mkw) (f : Fmt) (ls : List Fl) (hs : List Nat) (v vp : Value) (w : World) (hp : PrsAt w.heap.size w vp p) (he : errP p = 0) (hm : mkwErr p m = 0)
    (hf : p.fmts[m.fmt.toNat]? = some f) (hls : ls = leavesW m f) (hv : IntsO w v (hs.map fun (n : Nat) => (n : Int))) (hlen : hs.length = m.sheets.toNat) (h01 : ∀ h ∈ hs, h ≤ 1) :
    Calls Tryz.prog 22 #[vp, mkwV m, v] w fun e w' => (∃ v', e = .returned (.tuple #[v', .int .i64 0]) ∧ IntsAt w' v' ((marksF ls (colsF (fdsB f.folds)) (rowsF (fdsB f.folds)) hs).map fun (n : Nat) => (n : Int))) ∧ Below w.heap.size w w' := by
  have HP := Lib.hid hp
  have HE := Lib.hid he
  have HM := Lib.hid hm
  have HF0 := Lib.hid hf
  have FN := Lib.hid (fine_of he hm hf)
  have HLS := Lib.hid hls
  have HV := Lib.hid hv
  obtain ⟨fv, pv, rfl, ⟨a, cap, rfl, -⟩, ⟨a2, cap2, rfl, -⟩, -⟩ := hp
  obtain ⟨n1, hn1⟩ : ∃ n, n = p.fmts.length := ⟨_, rfl⟩
  obtain ⟨n2, hn2⟩ : ∃ n, n = p.pprs.length := ⟨_, rfl⟩
  rw [← hn1, ← hn2] at HP ⊢
  clear hn1 hn2 he hm hf hls
  have hs1 := FN.out.sh1
  have hs4 := FN.out.sh4
  obtain ⟨av, capv, rfl, hcv⟩ := hv
  obtain ⟨gh, go, rfl, hgh, hch⟩ := hcv (by intro e; rw [List.map_eq_nil_iff] at e; rw [e] at hlen; simp at hlen; omega)
  have HCH := Lib.hid hch
  rw [List.length_map] at HV ⊢
  obtain ⟨n6, hn6⟩ : ∃ n, n = hs.length := ⟨_, rfl⟩
  have HN6 := Lib.hid hn6
  rw [← hn6] at HV hlen ⊢
  have hms : m.sheets = (n6 : Int) := by omega
  have HMS := Lib.hid hms
  have hx6 : n6 ≤ 4 := by omega
  obtain ⟨co, hco⟩ : ∃ c : Nat, c = colsF (fdsB f.folds) := ⟨_, rfl⟩
  obtain ⟨ro, hro⟩ : ∃ c : Nat, c = rowsF (fdsB f.folds) := ⟨_, rfl⟩
  have hpw := pows_all _ FN.out.mem.1
  rw [← hco, ← hro] at hpw ⊢
  have HPW := Lib.hid hpw
  have HCO := Lib.hid hco
  have HRO := Lib.hid hro
  have H01 := Lib.hid h01
  obtain ⟨n7, hn7⟩ : ∃ n, n = ls.length := ⟨_, rfl⟩
  have HN7 := Lib.hid hn7
  have hn64 : n7 ≤ 64 := by
    have := FN.out.count
    rw [← HLS.out, ← hn7] at this
    exact this.2
  unfold marksF
  rw [← hn7]
  clear hn7 hco hro hpw hms hn6 hlen hcv hch hs1 hs4 h01
  obtain ⟨ei, hi1, hi2, hi3, hi4⟩ := elemInt
  have HI := Lib.hid (And.intro hi1 (And.intro hi2 (And.intro hi3 hi4)))
  clear hi1 hi2 hi3 hi4
  go_enter Tryz.func22, Tryz.ntmps22
  go_wp2_with fail
  refine (openWay_any p m _ _ (HP.out.later (by exact (by repeat (first | exact Below.refl _ _ | assumption | (refine Below.alloc ?_ ?_ _; rotate_left; · (first | omega | (simp; done) | (simp; omega) | fail)) | (refine Below.setCell ?_ ?_ _; rotate_left; · (first | omega | (simp; done) | (simp; omega) | fail)) | refine Below.drew ?_ | fail)))) HE.out HM.out).mono ?_
  rintro e w2 ⟨⟨f', q, lv, g, hfx, hqx, rfl, hl, hg⟩, hb⟩
  obtain rfl : f' = f := Option.some.inj (hfx.symm.trans HF0.out)
  rw [show leavesF (fdsB f'.folds) m.sheets.toNat m.half = ls from HLS.out.symm] at hl
  rw [← HCO.out, ← HRO.out]
  have hb0 : Below w.heap.size w w2 := Below.trans (by exact (by repeat (first | exact Below.refl _ _ | assumption | (refine Below.alloc ?_ ?_ _; rotate_left; · (first | omega | (simp; done) | (simp; omega) | fail)) | (refine Below.setCell ?_ ?_ _; rotate_left; · (first | omega | (simp; done) | (simp; omega) | fail)) | refine Below.drew ?_ | fail))) (hb.mono (by simp; try omega))
  have HL := Lib.hid hl
  obtain ⟨k7, rest, rfl, -⟩ := hl
  rw [← HN7.out] at HL ⊢
  have hz2 := hb0.size
  clear hfx hqx hb hg
  have hb1 : Below w.heap.size w (w2.alloc (.cells (wayC m f'.folds co ro q p.trim (.slice (some ⟨g, 0, none⟩) n7 (n7 + k7))) 107)) := hb0.alloc hz2 _
  have hc1 : (w2.alloc (.cells (wayC m f'.folds co ro q p.trim (.slice (some ⟨g, 0, none⟩) n7 (n7 + k7))) 107)).heap[w2.heap.size]? = some (.cells (wayC m f'.folds co ro q p.trim (.slice (some ⟨g, 0, none⟩) n7 (n7 + k7))) 107 (0, 0)) := World.alloc_heap_new _ _
  have HL1 := Lib.hid (HL.out.later ((Below.refl _ _).alloc (Nat.le_refl _) (.cells (wayC m f'.folds co ro q p.trim (.slice (some ⟨g, 0, none⟩) n7 (n7 + k7))) 107)))
  have hz3 : w2.heap.size < (w2.alloc (.cells (wayC m f'.folds co ro q p.trim (.slice (some ⟨g, 0, none⟩) n7 (n7 + k7))) 107)).heap.size := by simp
  have e1 : ((n6 : Int) != m.sheets) = false := by rw [HMS.out]; simp
  go_upto_region 4 with fail
  dsimp only [wayC] at hb1 hc1 HL1 hz3
  revert hb1 hc1 HL1 hz3
  generalize (w2.alloc (.cells #[.int .i64 m.fmt, .int .i64 m.ppr, .int .i64 m.sheets, .bool m.half, S f'.folds, .int .i64 co, .int .i64 ro, S q.name, .int .i64 q.wlo, .int .i64 q.whi, .int .i64 q.hlo, .int .i64 q.hhi, .int .i64 p.trim, .slice (some ⟨g, 0, none⟩) n7 (n7 + k7)] 107)) = w1
  intro hb1 hc1 HL1 hz3
  clear HL hb0
  have HV1 := Lib.hid (HV.out.later (show Below w.heap.size w w1 from hb1))
  have d2 := blk_cell hc1 2
  have d13 := blk_cell hc1 13
  go_wp2_with fail
  have hWI := within_listO 0 1 (hs.map fun (n : Nat) => (n : Int)) gh go capv w1 (fun i x hx => cell_later' hb1 (HCH.out i x hx)) (by rw [List.length_map, ← HN6.out]; omega)
  rw [List.length_map, ← HN6.out, show (hs.map fun (n : Nat) => (n : Int)).all (inI 0 1) = true from List.all_eq_true.2 fun x hx => by
    obtain ⟨h, hh, rfl⟩ := List.mem_map.1 hx
    have := H01.out h hh
    unfold inI
    rw [decide_eq_true (p := (0 : Int) ≤ h) (by omega), decide_eq_true (p := (h : Int) ≤ 1) (by omega)]
    rfl] at hWI
  refine hWI.mono ?_
  rintro e w9 ⟨rfl, h9⟩
  obtain rfl := h9.symm
  clear hWI h9
  go_wp2_with fail
  clear d2 d13 e1
  have hs9 : w.heap.size ≤ w1.heap.size := by have := hb1.size; omega
  go_loopw [10, 34] (fun v j wr => ∃ (k : Nat), k ≤ n7 ∧ j = .int .i64 k ∧ Hid (wr.ownsRow w1.heap.size 3 1 v ((List.range k).filter (markAt ls co ro hs)).length (intVs ((List.range k).filter (markAt ls co ro hs)))) ∧ Hid (Below w1.heap.size w1 wr)) (fun _ j _ => n7 - (intOf j).toNat)
  case atStart => exact ⟨0, by omega, rfl, World.ownsRow_nil _ _ _ _, Below.refl _ _⟩
  case round =>
    obtain ⟨k, hk, rfl, HR, HB⟩ := hrel
    have hz := HB.out.size
    by_cases hlt : k < n7
    · obtain ⟨x, hx⟩ : ∃ x, ls[k]? = some x := ⟨_, List.getElem?_eq_getElem (by have := HN7.out; omega)⟩
      have HX := Lib.hid hx
      clear hx
      have hx2 : (leavesW m f')[k]? = some x := by rw [← HLS.out]; exact HX.out
      have HSM := Lib.hid (FN.out.small hx2)
      have hsx : x.sheet < n6 := by
        have := FN.out.sheet hx2
        have := HMS.out
        omega
      obtain ⟨h, hh⟩ : ∃ h, hs[x.sheet]? = some h := ⟨_, List.getElem?_eq_getElem (by rw [← HN6.out]; exact hsx)⟩
      have HH1 := Lib.hid (H01.out h (List.mem_of_getElem? hh))
      have HM2 : Hid (markAt ls co ro hs k = markB co ro h x) := Lib.hid (by
        unfold markAt
        rw [HX.out]
        show markB co ro (hs.getD x.sheet 0) x = _
        rw [List.getD_eq_getElem?_getD, hh]; rfl)
      have q6 := cell_later' HB.out (cell_later' hb1 (HCH.out x.sheet (h : Int) (by rw [List.getElem?_map, hh]; rfl)))
      have HQ6 := Lib.hid q6
      clear hx2 hh q6
      obtain ⟨x0, x1, x2, x3, x4⟩ := leaf_cells (HL1.out.later HB.out) HX.out
      go_wp2_with fail
      obtain ⟨w2, hw2⟩ : ∃ w2, w2 = (wr.alloc (.cells #[.int .i64 x.sheet, .int .i64 x.col, .int .i64 x.row, .bool x.inner, .bool x.turned] 57)) := ⟨_, rfl⟩
      have hb2 : Below w1.heap.size w1 w2 := by rw [hw2]; exact HB.out.alloc (by omega) _
      have hz2 : w1.heap.size ≤ w2.heap.size := hb2.size
      have bx : w2.heap[wr.heap.size]? = some (.cells #[.int .i64 x.sheet, .int .i64 x.col, .int .i64 x.row, .bool x.inner, .bool x.turned] 57 (0, 0)) := by rw [hw2]; exact (by repeat (first | exact heap_alloc_at _ _ _ (by (first | omega | (simp; done) | (simp; omega) | (simp at *; omega) | fail)) | assumption | rw [heap_alloc_past _ _ _ (by (first | omega | (simp; done) | (simp; omega) | (simp at *; omega) | fail))] | rw [heap_setCell_past _ _ _ _ (by (first | omega | (simp; done) | (simp; omega) | (simp at *; omega) | fail))] | fail))
      have q6 : w2.cell? ⟨gh, go + x.sheet, none⟩ = some (.int .i64 h) := by rw [hw2]; exact cell_later' ((Below.refl _ _).alloc (Nat.le_refl _) _) HQ6.out
      have HR2 := Lib.hid (show w2.ownsRow w1.heap.size 3 1 _ _ _ by rw [hw2]; exact HR.out.alloc _)
      have HL2 := Lib.hid (HL1.out.later hb2)
      have bw := blk_later hb2 hc1
      rw [← hw2]
      clear hw2 x0 x1 x2 x3 x4 HQ6
      have p0 := cell_regrown (blk_cell bx 0)
      have qh := cell_regrown q6
      have t0 := cell_regrown (blk_cell bw 0)
      have t1 := cell_regrown (blk_cell bw 1)
      have t2 := cell_regrown (blk_cell bw 2)
      have t3 := cell_regrown (blk_cell bw 3)
      have t4 := cell_regrown (blk_cell bw 4)
      have t5 := cell_regrown (blk_cell bw 5)
      have t6 := cell_regrown (blk_cell bw 6)
      have t7 := cell_regrown (blk_cell bw 7)
      have t8 := cell_regrown (blk_cell bw 8)
      have t9 := cell_regrown (blk_cell bw 9)
      have t10 := cell_regrown (blk_cell bw 10)
      have t11 := cell_regrown (blk_cell bw 11)
      have t12 := cell_regrown (blk_cell bw 12)
      have t13 := cell_regrown (blk_cell bw 13)
      have cT : ∀ tb : Bool, markB co ro h x = tb → ∀ d' os, Calls Tryz.prog 58 #[.agg (wayC m f'.folds co ro q p.trim (.slice (some ⟨g, 0, none⟩) n7 (n7 + k7))), .int .i64 k, .int .i64 h] (grow (redrawn w2 d') os) (fun e w'' => e = .returned (.bool tb) ∧ ∃ p : Regrown, w'' = grow (redrawn w2 p.d) p.os) := fun tb htb d' os => Calls.regrown_of (by rw [← htb]; exact marked_any m f'.folds co ro q p.trim _ ls g k h x _ (HL2.out.later (below_regrown w2 d' os)) (by have := HN7.out; omega) HX.out HSM.out.1 HSM.out.2 HPW.out.1 HPW.out.2 HH1.out)
      clear bx bw q6
      cases hmb : markB co ro h x with
      | true =>
        have HF := Lib.hid (show markAt ls co ro hs k = true by rw [HM2.out, hmb])
        have c1 := cT true hmb
        clear cT hmb HM2
        refine wp_region_quiet_below (by kernel_rfl) (by kernel_rfl) ?_; (repeat (go_big_quiet_step (with_reducible exact c1 _ _))); refine wpQuiet_nil ?_; rintro w3 ⟨⟨d3, os3⟩, rfl⟩
        have HR3 := Lib.hid (row_later HR2.out (below_regrown w2 d3 os3))
        have HB3 := Lib.hid (hb2.trans ((below_regrown w2 d3 os3).mono hz2))
        have hrl := range_filter_len (markAt ls co ro hs) k
        clear p0 qh t0 t1 t2 t3 t4 t5 t6 t7 t8 t9 t10 t11 t12 t13 c1
        dsimp only
        generalize grow (redrawn w2 d3) os3 = w3 at *
        obtain ⟨hi1, hi2, hi3, hi4⟩ := HI.out
        have hz3 := HB3.out.size
        go_wp2_with (at_builtin; (refine wpList_append_own _ rfl _ _ 39 rfl w1.heap.size 3 ei _ 1 8 undInts hi1 hi2 hi3 hi4 rfl (by decide) u10 ((List.range k).filter (markAt ls co ro hs)).length (intVs ((List.range k).filter (markAt ls co ro hs))) rfl (HR3.out.alloc _) ⟨w3.heap.size, 0, none⟩ 1 1 [.int .i64 k] rfl rfl ?a1 ?b1 ?c1 ?d1 ?e1 ?f1))
        case a1 =>
          intro j u hju
          rw [add_offi]
          unfold World.cell?
          rw [World.alloc_heap_new]
          simpa using hju
        case b1 => simp [Value.oneCell']
        case c1 => simp only [maxLen]; omega
        case d1 => omega
        case e1 => (first | omega | (simp; omega))
        case f1 =>
          rintro v' w7 hown hgrow -
          have HB7 := Lib.hid (HB3.out.trans ((((Below.refl _ w3).alloc (Nat.le_refl _) (.cells #[.int .i64 k] 3)).mono hz3).trans (below_row (HR3.out.alloc _) (by simp; omega) hgrow)))
          have HO := Lib.hid hown
          clear hgrow hown hi1 hi2 hi3 hi4
          go_wp2_with fail
          go_roundw
          case rel => exact ⟨k + 1, by omega, by go_num, (by
            show World.ownsRow _ _ _ _ _ _ _
            rw [range_filter_yes HF.out]
            have h := HO.out
            simpa [intVs] using h), HB7.out⟩
          case measure => simp [intOf]; omega
      | false =>
        have HF := Lib.hid (show markAt ls co ro hs k = false by rw [HM2.out, hmb])
        have c1 := cT false hmb
        clear cT hmb HM2
        refine wp_region_quiet_below (by kernel_rfl) (by kernel_rfl) ?_; (repeat (go_big_quiet_step (with_reducible exact c1 _ _))); refine wpQuiet_nil ?_; rintro w3 ⟨⟨d3, os3⟩, rfl⟩
        have HR3 := Lib.hid (row_later HR2.out (below_regrown w2 d3 os3))
        have HB3 := Lib.hid (hb2.trans ((below_regrown w2 d3 os3).mono hz2))
        clear p0 qh t0 t1 t2 t3 t4 t5 t6 t7 t8 t9 t10 t11 t12 t13 c1
        dsimp only
        generalize grow (redrawn w2 d3) os3 = w3 at *
        go_wp2_with fail
        go_roundw
        case rel => exact ⟨k + 1, by omega, by go_num, (by show World.ownsRow _ _ _ _ _ _ _; rw [range_filter_no HF.out]; exact HR3.out), HB3.out⟩
        case measure => simp [intOf]; omega
    · obtain rfl : k = n7 := by omega
      go_wp2_with fail
      go_ret2
      exact ⟨⟨_, rfl, ints_of_row HR.out⟩, (by exact Below.trans hb1 (HB.out.mono (by omega)))⟩
set_option maxRecDepth 100000 in
set_option maxHeartbeats 2000000 in
theorem Marked_rangeO (p : Prs) (m : Mkw) (f : Fmt) (ls : List Fl) (hs : List Int) (v vp : Value) (w : World) (hp : PrsAt w.heap.size w vp p) (he : errP p = 0) (hm : mkwErr p m = 0)
    (hf : p.fmts[m.fmt.toNat]? = some f) (hls : ls = leavesW m f) (hv : IntsO w v hs) (hlen : (hs.length : Int) = m.sheets) (hne : hs.all (inI 0 1) = false) :
    Calls Tryz.prog 22 #[vp, mkwV m, v] w fun e w' => e = .returned (.tuple #[.slice none 0 0, .int .i64 7]) ∧ Below w.heap.size w w' := by
  obtain ⟨av, capv, rfl, hcv⟩ := hv
  obtain ⟨gh, go, rfl, hgh, hch⟩ := hcv (by intro e; rw [e] at hne; simp at hne)
  have HCH := Lib.hid hch
  obtain ⟨n6, hn6⟩ : ∃ n, n = hs.length := ⟨_, rfl⟩
  have HN6 := Lib.hid hn6
  rw [← hn6] at hlen ⊢
  clear hn6 hcv hch
  have HP := Lib.hid hp
  have HE := Lib.hid he
  have HM := Lib.hid hm
  have HF0 := Lib.hid hf
  have FN := Lib.hid (fine_of he hm hf)
  have HLS := Lib.hid hls
  obtain ⟨fv, pv, rfl, ⟨a, cap, rfl, -⟩, ⟨a2, cap2, rfl, -⟩, -⟩ := hp
  obtain ⟨n1, hn1⟩ : ∃ n, n = p.fmts.length := ⟨_, rfl⟩
  obtain ⟨n2, hn2⟩ : ∃ n, n = p.pprs.length := ⟨_, rfl⟩
  rw [← hn1, ← hn2] at HP ⊢
  clear hn1 hn2 he hm hf hls
  have hs1 := FN.out.sh1
  have hs4 := FN.out.sh4
  obtain ⟨sn, hsn⟩ : ∃ s, s = m.sheets.toNat := ⟨_, rfl⟩
  rw [← hsn] at hs1 hs4
  have hms : m.sheets = (sn : Int) := by omega
  have HMS := Lib.hid hms
  obtain ⟨n7, hn7⟩ : ∃ n, n = ls.length := ⟨_, rfl⟩
  have HN7 := Lib.hid hn7
  have hn64 : 1 ≤ n7 ∧ n7 ≤ 64 := by
    have := FN.out.count
    rw [← HLS.out, ← hn7] at this
    exact this
  clear hn7
  rw [hms] at hlen
  have hl2 : ((n6 : Int) != (sn : Int)) = false := by simpa using hlen
  have hn4 : n6 ≤ 4 := by omega
  have HNE := Lib.hid hne
  clear hms hsn hne hlen
  go_enter Tryz.func22, Tryz.ntmps22
  go_wp2_with fail
  refine (openWay_any p m _ _ (HP.out.later (by exact (by repeat (first | exact Below.refl _ _ | assumption | (refine Below.alloc ?_ ?_ _; rotate_left; · (first | omega | (simp; done) | (simp; omega) | fail)) | (refine Below.setCell ?_ ?_ _; rotate_left; · (first | omega | (simp; done) | (simp; omega) | fail)) | refine Below.drew ?_ | fail)))) HE.out HM.out).mono ?_
  rintro e w2 ⟨⟨f', q, lv, g, hfx, hqx, rfl, hl, hg⟩, hb⟩
  obtain rfl : f' = f := Option.some.inj (hfx.symm.trans HF0.out)
  rw [show leavesF (fdsB f'.folds) m.sheets.toNat m.half = ls from HLS.out.symm] at hl
  obtain ⟨co, hco⟩ : ∃ c : Nat, c = colsF (fdsB f'.folds) := ⟨_, rfl⟩
  obtain ⟨ro, hro⟩ : ∃ c : Nat, c = rowsF (fdsB f'.folds) := ⟨_, rfl⟩
  rw [← hco, ← hro]
  have hb0 : Below w.heap.size w w2 := Below.trans (by exact (by repeat (first | exact Below.refl _ _ | assumption | (refine Below.alloc ?_ ?_ _; rotate_left; · (first | omega | (simp; done) | (simp; omega) | fail)) | (refine Below.setCell ?_ ?_ _; rotate_left; · (first | omega | (simp; done) | (simp; omega) | fail)) | refine Below.drew ?_ | fail))) (hb.mono (by simp; try omega))
  have HL := Lib.hid hl
  obtain ⟨k7, rest, rfl, -⟩ := hl
  rw [← HN7.out] at HL ⊢
  have hz2 := hb0.size
  clear hfx hqx hb hg hco hro
  have hb1 : Below w.heap.size w (w2.alloc (.cells (wayC m f'.folds co ro q p.trim (.slice (some ⟨g, 0, none⟩) n7 (n7 + k7))) 107)) := hb0.alloc hz2 _
  have hc1 : (w2.alloc (.cells (wayC m f'.folds co ro q p.trim (.slice (some ⟨g, 0, none⟩) n7 (n7 + k7))) 107)).heap[w2.heap.size]? = some (.cells (wayC m f'.folds co ro q p.trim (.slice (some ⟨g, 0, none⟩) n7 (n7 + k7))) 107 (0, 0)) := World.alloc_heap_new _ _
  go_upto_region 4 with fail
  dsimp only [wayC] at hb1 hc1
  revert hb1 hc1
  generalize (w2.alloc (.cells #[.int .i64 m.fmt, .int .i64 m.ppr, .int .i64 m.sheets, .bool m.half, S f'.folds, .int .i64 co, .int .i64 ro, S q.name, .int .i64 q.wlo, .int .i64 q.whi, .int .i64 q.hlo, .int .i64 q.hhi, .int .i64 p.trim, .slice (some ⟨g, 0, none⟩) n7 (n7 + k7)] 107)) = w1
  intro hb1 hc1
  clear HL hb0
  have d2 := blk_cell hc1 2
  rw [HMS.out] at d2
  go_wp2_with fail
  have hWI := within_listO 0 1 hs gh go capv w1 (fun i x hx => cell_later' hb1 (HCH.out i x hx)) (by rw [← HN6.out]; omega)
  rw [← HN6.out, HNE.out] at hWI
  refine hWI.mono ?_
  rintro e w9 ⟨rfl, h9⟩
  obtain rfl := h9.symm
  clear hWI h9
  go_wp2_with fail
  go_ret2
  exact ⟨rfl, hb1⟩
end Go.Proofs.YtielaaaeecfkoaaGreatDoor

/- From the statement's data to a way of making, and to what is asked of it. -/
namespace Go.Proofs.YtielaaaeecfkoaaGreatDoor
set_option linter.unusedSimpArgs false
set_option linter.unusedVariables false
open Go Go.ChangeShapes Go.WideShapes Go.ChangeAt Go.RowKit

theorem kf_cellsMkw : Tryz.prog.cellsOf 38 = 4 := by kernel_rfl
theorem kf_cellsAsk : Tryz.prog.cellsOf 41 = 4 := by kernel_rfl
theorem kf_cellsInts : Tryz.prog.cellsOf 39 = 1 := by kernel_rfl
section
variable {H : Type} {enc : TypeId × Value → H} {w : World} {base : Nat} {spare : Nat → Bool} {held : Bool} {fuel : Nat} {x : DataW H × List MemPlace}
set_option maxRecDepth 100000 in
theorem mkw_in {v : Value} {b0 : Nat} (hv : Value.okWide Tryz.prog w .any b0 38 v) (h : DataW.trod enc Tryz.prog w base spare held fuel 38 v.cells.toList = some x) : ∃ m : Mkw, v = mkwV m := by
  simp only [Value.okWide, Tryz.underlying38] at hv
  obtain ⟨cs, rfl, -, -⟩ := hv
  obtain ⟨xs, n, _, _, hl, hlen, hf⟩ := DataW.trod_struct Tryz.underlying38 h
  rw [kf_cellsMkw] at hl
  obtain ⟨a, b, c, d, hcs⟩ := len4 hl
  have hcs' : cs = #[a, b, c, d] := by
    have e' : cs.toList = [a, b, c, d] := hcs
    rw [← Array.toArray_toList (xs := cs), e']
  subst hcs'
  match xs, hlen with
  | [y0, y1, y2, y3], _ =>
    obtain ⟨r, e0, _, _⟩ := DataW.trod_int Tryz.underlying3 (by simpa using hf 0 _ rfl)
    obtain ⟨s, e1, _, _⟩ := DataW.trod_int Tryz.underlying3 (by simpa using hf 1 _ rfl)
    obtain ⟨t, e2, _, _⟩ := DataW.trod_int Tryz.underlying3 (by simpa using hf 2 _ rfl)
    obtain ⟨u, e3, _⟩ := DataW.trod_bool Tryz.underlying4 (by simpa using hf 3 _ rfl)
    simp [kf_cellsBool, kx_cellsInt, Value.cells] at e0 e1 e2 e3
    subst e0 e1 e2 e3
    exact ⟨⟨r, s, t, u⟩, rfl⟩
set_option maxRecDepth 100000 in
theorem ask_in {v : Value} {b0 : Nat} (hv : Value.okWide Tryz.prog w .any b0 41 v) (h : DataW.trod enc Tryz.prog w base spare held fuel 41 v.cells.toList = some x) : ∃ (sh lf : Int) (inner : Bool) (hs : List Int) (hv : Value), v = .agg #[.int .i64 sh, .int .i64 lf, .bool inner, hv] ∧ IntsO w hv hs := by
  simp only [Value.okWide, Tryz.underlying41] at hv
  obtain ⟨cs, rfl, -, -⟩ := hv
  obtain ⟨xs, n, _, _, hl, hlen, hf⟩ := DataW.trod_struct Tryz.underlying41 h
  rw [kf_cellsAsk] at hl
  obtain ⟨a, b, c, d, hcs⟩ := len4 hl
  have hcs' : cs = #[a, b, c, d] := by
    have e' : cs.toList = [a, b, c, d] := hcs
    rw [← Array.toArray_toList (xs := cs), e']
  subst hcs'
  match xs, hlen with
  | [y0, y1, y2, y3], _ =>
    obtain ⟨r, e0, _, _⟩ := DataW.trod_int Tryz.underlying3 (by simpa using hf 0 _ rfl)
    obtain ⟨s, e1, _, _⟩ := DataW.trod_int Tryz.underlying3 (by simpa using hf 1 _ rfl)
    obtain ⟨u, e2, _⟩ := DataW.trod_bool Tryz.underlying4 (by simpa using hf 2 _ rfl)
    obtain ⟨mv, ms, e3, hms, -⟩ := kf_rows (α := Int) (en := fun n => [Value.int .i64 n]) Tryz.underlying39 kx_cellsInt (by decide) (fun _ => True) (fun n l y hy => by
      obtain ⟨m, hm, _, _⟩ := DataW.trod_int Tryz.underlying3 hy
      exact ⟨m, hm, trivial⟩) (by simpa using hf 3 _ rfl)
    simp [kf_cellsBool, kf_cellsInts, kx_cellsInt, Value.cells] at e0 e1 e2 e3
    subst e0 e1 e2 e3
    refine ⟨r, s, u, ms, _, rfl, ?_⟩
    obtain ⟨a, cap, rfl, hc⟩ := hms
    refine ⟨a, cap, rfl, fun hne => ?_⟩
    obtain ⟨b, off, h1, h2, h3⟩ := hc hne
    exact ⟨b, off, h1, h2, fun i x hi => by have := h3 i x hi 0 _ rfl; simpa using this⟩
end
end Go.Proofs.YtielaaaeecfkoaaGreatDoor
