/- The parts On, Ob, Oh, Oi, Oj, Ac, Oq, Ya of the proof, joined. It holds without conditions of its own. -/
import Derived.Test.YtielaaaeecfkoaaGreatDoorFL17
import Derived.Test.YtielaaaeecfkoaaGreatDoorFL13
import Derived.Test.YtielaaaeecfkoaaGreatDoorFL15
import Derived.Test.YtielaaaeecfkoaaGreatDoorFL9
import Derived.Test.YtielaaaeecfkoaaGreatDoorFL7
import Derived.Shelf.RegionOpen
import Derived.Test.YtielaaaeecfkoaaGreatDoorFL14
import Derived.Test.YtielaaaeecfkoaaGreatDoorFL3
import Derived.Test.YtielaaaeecfkoaaGreatDoorFL4
/- A forme, by the program and by the reference, is the same. -/
namespace Go.Proofs.YtielaaaeecfkoaaGreatDoor
set_option linter.unusedSimpArgs false
set_option linter.unusedVariables false
open Go Go.RowKit Go.Sort Go.BigFrame

theorem forme_full : ∀ f ∈ allFolds, ∀ n ∈ [1, 2, 3, 4], ∀ s ∈ List.range n, ∀ inner ∈ [true, false], formeF (leavesF f n false) (rowsF f) (colsF f) s inner = formeR (leavesF f n false) (rowsF f) (colsF f) s inner := by decide +kernel
theorem forme_half : ∀ f ∈ allFolds, 2 ≤ f.length → ∀ inner ∈ [true, false], formeF (leavesF f 1 true) (rowsF (madeF f true)) (colsF (madeF f true)) 0 inner = formeR (leavesF f 1 true) (rowsF f) (colsF f) 0 inner := by decide +kernel
theorem Fine.forme_same {p : Prs} {m : Mkw} {f : Fmt} (h : Fine p m f) {s : Nat} (hs : s < m.sheets.toNat) (inner : Bool) :
    formeF (leavesW m f) (rowsF (madeF (fdsB f.folds) m.half)) (colsF (madeF (fdsB f.folds) m.half)) s inner = formeR (leavesW m f) (rowsF (fdsB f.folds)) (colsF (fdsB f.folds)) s inner := by
  obtain ⟨h1, h2⟩ := h.mem
  have hi : inner ∈ [true, false] := by cases inner <;> simp
  unfold leavesW
  cases hh : m.half with
  | false => exact forme_full _ h1 _ h2 _ (List.mem_range.2 hs) _ hi
  | true =>
    obtain ⟨h3, h4⟩ := h.two hh
    rw [h3] at hs ⊢
    obtain rfl : s = 0 := by omega
    exact forme_half _ h1 h4 _ hi
end Go.Proofs.YtielaaaeecfkoaaGreatDoor

/- The reference: Forme, Mates, if the press or the way of making has an error. -/
namespace Go.Proofs.YtielaaaeecfkoaaGreatDoor
set_option linter.unusedSimpArgs false
set_option linter.unusedVariables false
open Go Go.RowKit Go.Sort Go.BigFrame

set_option maxRecDepth 100000 in
set_option maxHeartbeats 1000000 in
theorem refForme_err (p : Prs) (m : Mkw) (sh : Int) (inner : Bool) (vp : Value) (w : World) (hp : PrsAt w.heap.size w vp p) (he : wayErr p m ≠ 0) :
    Calls Tryz.prog 18 #[vp, mkwV m, .int .i64 sh, .bool inner] w fun e w' => e = .returned (.tuple #[.slice none 0 0, .int .i64 (wayErr p m)]) ∧ Below w.heap.size w w' := by
  have HP := Lib.hid hp
  obtain ⟨fv, pv, rfl, ⟨a, cap, rfl, -⟩, ⟨a2, cap2, rfl, -⟩, -⟩ := hp
  obtain ⟨n1, hn1⟩ : ∃ n, n = p.fmts.length := ⟨_, rfl⟩
  obtain ⟨n2, hn2⟩ : ∃ n, n = p.pprs.length := ⟨_, rfl⟩
  rw [← hn1, ← hn2] at HP ⊢
  obtain ⟨z, hz⟩ : ∃ z, z = wayErr p m := ⟨_, rfl⟩
  have hz0 : (z != 0) = true := by rw [hz]; simpa using he
  have hz1 : (z == 0) = false := by rw [hz]; simpa using he
  have hz2 : z ≠ 0 := by rw [hz]; exact he
  rw [← hz]
  have HZ := Lib.hid hz
  clear hz hn1 hn2 he
  go_enter Tryz.func18, Tryz.ntmps18
  go_wp2_with fail
  refine (refMake3_any p m _ _ (HP.out.later (by exact (by repeat (first | exact Below.refl _ _ | assumption | (refine Below.alloc ?_ ?_ _; rotate_left; · (first | omega | (simp; done) | (simp; omega) | fail)) | (refine Below.setCell ?_ ?_ _; rotate_left; · (first | omega | (simp; done) | (simp; omega) | fail)) | refine Below.drew ?_ | fail))))).mono ?_
  rintro e w2 ⟨rfl, hb⟩
  rw [← HZ.out]
  have hb0 : Below w.heap.size w w2 := Below.trans (by exact (by repeat (first | exact Below.refl _ _ | assumption | (refine Below.alloc ?_ ?_ _; rotate_left; · (first | omega | (simp; done) | (simp; omega) | fail)) | (refine Below.setCell ?_ ?_ _; rotate_left; · (first | omega | (simp; done) | (simp; omega) | fail)) | refine Below.drew ?_ | fail))) (hb.mono (by simp; try omega))
  clear hb
  go_wp2_with fail
  go_ret2
  exact ⟨rfl, hb0⟩
set_option maxRecDepth 100000 in
set_option maxHeartbeats 1000000 in
theorem refMates_err (p : Prs) (m : Mkw) (i : Int) (vp : Value) (w : World) (hp : PrsAt w.heap.size w vp p) (he : wayErr p m ≠ 0) :
    Calls Tryz.prog 21 #[vp, mkwV m, .int .i64 i] w fun e w' => e = .returned (.tuple #[.slice none 0 0, .int .i64 0, .int .i64 (wayErr p m)]) ∧ Below w.heap.size w w' := by
  have HP := Lib.hid hp
  obtain ⟨fv, pv, rfl, ⟨a, cap, rfl, -⟩, ⟨a2, cap2, rfl, -⟩, -⟩ := hp
  obtain ⟨n1, hn1⟩ : ∃ n, n = p.fmts.length := ⟨_, rfl⟩
  obtain ⟨n2, hn2⟩ : ∃ n, n = p.pprs.length := ⟨_, rfl⟩
  rw [← hn1, ← hn2] at HP ⊢
  obtain ⟨z, hz⟩ : ∃ z, z = wayErr p m := ⟨_, rfl⟩
  have hz0 : (z != 0) = true := by rw [hz]; simpa using he
  have hz1 : (z == 0) = false := by rw [hz]; simpa using he
  have hz2 : z ≠ 0 := by rw [hz]; exact he
  rw [← hz]
  have HZ := Lib.hid hz
  clear hz hn1 hn2 he
  go_enter Tryz.func21, Tryz.ntmps21
  go_wp2_with fail
  refine (refMake3_any p m _ _ (HP.out.later (by exact (by repeat (first | exact Below.refl _ _ | assumption | (refine Below.alloc ?_ ?_ _; rotate_left; · (first | omega | (simp; done) | (simp; omega) | fail)) | (refine Below.setCell ?_ ?_ _; rotate_left; · (first | omega | (simp; done) | (simp; omega) | fail)) | refine Below.drew ?_ | fail))))).mono ?_
  rintro e w2 ⟨rfl, hb⟩
  rw [← HZ.out]
  have hb0 : Below w.heap.size w w2 := Below.trans (by exact (by repeat (first | exact Below.refl _ _ | assumption | (refine Below.alloc ?_ ?_ _; rotate_left; · (first | omega | (simp; done) | (simp; omega) | fail)) | (refine Below.setCell ?_ ?_ _; rotate_left; · (first | omega | (simp; done) | (simp; omega) | fail)) | refine Below.drew ?_ | fail))) (hb.mono (by simp; try omega))
  clear hb
  go_wp2_with fail
  go_ret3
  exact ⟨rfl, hb0⟩
end Go.Proofs.YtielaaaeecfkoaaGreatDoor

/- The reference: Has. -/
namespace Go.Proofs.YtielaaaeecfkoaaGreatDoor
set_option linter.unusedSimpArgs false
set_option linter.unusedVariables false
open Go Go.RowKit Go.Sort Go.BigFrame

theorem markB_is (co ro h : Nat) (x : Fl) : markB co ro h x = (inI (4 * x.col) (4 * x.col + 4) ((co : Int) * (1 + 2 * h)) && inI (2 * x.row) (2 * x.row + 2) ro) := by
  unfold markB touchB inI
  rw [Bool.eq_iff_iff]
  simp only [Bool.and_eq_true, decide_eq_true_eq]
  rw [Int.mul_comm (co : Int)]
  constructor
  · rintro ⟨⟨h1, h2⟩, h3, h4⟩
    refine ⟨⟨h1, ?_⟩, ?_, ?_⟩ <;> omega
  · rintro ⟨⟨h1, h2⟩, h3, h4⟩
    refine ⟨⟨h1, ?_⟩, ?_, ?_⟩ <;> omega
abbrev flA (x : Fl) : Value := .agg #[.int .i64 x.sheet, .int .i64 x.col, .int .i64 x.row, .bool x.inner, .bool x.turned]
set_option maxRecDepth 100000 in
set_option maxHeartbeats 4000000 in
theorem refHasM_any (p : Prs) (m : Mkw) (f : Fmt) (x : Fl) (h : Nat) (vp : Value) (w : World) (hp : PrsAt w.heap.size w vp p) (he : errP p = 0) (hm : mkwErr p m = 0) (hf : p.fmts[m.fmt.toNat]? = some f) (hc : x.col < 16) (hr : x.row < 16) (hh : h ≤ 1) :
    Calls Tryz.prog 59 #[vp, mkwV m, flA x, .int .i64 h] w fun e w' => e = .returned (.bool (markB (colsF (fdsB f.folds)) (rowsF (fdsB f.folds)) h x)) ∧ Below w.heap.size w w' := by
  have FN := Lib.hid (fine_of he hm hf)
  obtain ⟨hfm0, hfm1, -, -⟩ := fine_at he hm
  obtain ⟨fv, pv, rfl, ⟨a, cap, rfl, hfc⟩, ⟨a2, cap2, rfl, -⟩, -⟩ := hp
  obtain ⟨n1, hn1⟩ : ∃ n, n = p.fmts.length := ⟨_, rfl⟩
  obtain ⟨n2, hn2⟩ : ∃ n, n = p.pprs.length := ⟨_, rfl⟩
  obtain ⟨b', off, rfl, hb', hc'⟩ := hfc (fun h => by rw [h] at hf; simp at hf)
  have q1 : w.cell? ⟨b', off + m.fmt.toNat * 2 + 1, none⟩ = some (S f.folds) := by have := hc' _ f hf 1 _ rfl; simpa using this
  rw [← hn1] at hfm1
  rw [← hn1, ← hn2]
  obtain ⟨D, hD⟩ : ∃ D, D = fdsB f.folds := ⟨_, rfl⟩
  have hDl : D.length = f.folds.length := by rw [hD]; unfold fdsB; simp
  have hback : bytesF D = f.folds := by rw [hD]; exact FN.out.back
  have hD1 : 1 ≤ D.length := by rw [hDl]; exact FN.out.len1
  have hD4 : D.length ≤ 4 := by rw [hDl]; exact FN.out.len4
  have hcr : colsF D ≤ 16 ∧ rowsF D ≤ 16 := by
    have h1 := pows_all D (allFolds_mem hD1 hD4)
    simp only [pows, List.mem_cons, List.not_mem_nil, or_false] at h1
    omega
  have HTX := Lib.hid (fun W => refTimesX hD1 hD4 W)
  have HTY := Lib.hid (fun W => refTimesY hD1 hD4 W)
  rw [hback] at HTX HTY
  rw [← hD]
  obtain ⟨fm, pp, sh, hf7⟩ := m
  obtain ⟨fi, hfi⟩ : ∃ fi : Nat, fm = fi := ⟨fm.toNat, by dsimp only at hfm0; omega⟩
  subst hfi
  dsimp only [Int.toNat_natCast] at *
  obtain ⟨CO, hCO⟩ : ∃ c, c = colsF D := ⟨_, rfl⟩
  obtain ⟨RO, hRO⟩ : ∃ c, c = rowsF D := ⟨_, rfl⟩
  rw [← hCO, ← hRO] at hcr ⊢
  rw [← hCO] at HTX
  rw [← hRO] at HTY
  have HMB := Lib.hid (markB_is CO RO h x)
  rw [HMB.out]
  obtain ⟨z1, hz1⟩ : ∃ z, z = inI (4 * (x.col : Int)) (4 * x.col + 4) ((CO : Int) * (1 + 2 * h)) := ⟨_, rfl⟩
  obtain ⟨z2, hz2⟩ : ∃ z, z = inI (2 * (x.row : Int)) (2 * x.row + 2) RO := ⟨_, rfl⟩
  rw [← hz1, ← hz2]
  have HZ1 := Lib.hid hz1
  have HZ2 := Lib.hid hz2
  clear hz1 hz2 hCO hRO hD hDl hback FN hc' hf he hm hfc hn1 hn2 HMB
  obtain ⟨hcr1, hcr2⟩ := hcr
  obtain ⟨P, hP⟩ : ∃ P : Int, P = (CO : Int) * (1 + 2 * h) := ⟨_, rfl⟩
  have hPb : 0 ≤ P ∧ P ≤ 48 := by
    obtain rfl | rfl : h = 0 ∨ h = 1 := by omega
    all_goals (rw [hP]; simp; omega)
  have HZ1 : Hid (z1 = inI (4 * (x.col : Int)) (4 * x.col + 4) P) := Lib.hid (by rw [hP]; exact HZ1.out)
  have e1 : ((CO : Int) * (1 + 2 * (h : Int))) = P := hP.symm
  have e2 : wrap64 P = P := by
    unfold wrap64
    omega
  clear hP
  have hb3 : Below w.heap.size w (((w.alloc (.cells #[.slice (some ⟨b', off, none⟩) n1 cap, .slice a2 n2 cap2, .int .i64 p.trim, .int .i64 p.sheets] 25)).alloc (.cells #[.int .i64 fi, .int .i64 pp, .int .i64 sh, .bool hf7] 38)).alloc (.cells #[.int .i64 x.sheet, .int .i64 x.col, .int .i64 x.row, .bool x.inner, .bool x.turned] 57)) := by exact (by repeat (first | exact Below.refl _ _ | assumption | (refine Below.alloc ?_ ?_ _; rotate_left; · (first | omega | (simp; done) | (simp; omega) | fail)) | (refine Below.setCell ?_ ?_ _; rotate_left; · (first | omega | (simp; done) | (simp; omega) | fail)) | refine Below.drew ?_ | fail))
  have q2 := cell_later' hb3 q1
  have hx3 : (((w.alloc (.cells #[.slice (some ⟨b', off, none⟩) n1 cap, .slice a2 n2 cap2, .int .i64 p.trim, .int .i64 p.sheets] 25)).alloc (.cells #[.int .i64 fi, .int .i64 pp, .int .i64 sh, .bool hf7] 38)).alloc (.cells #[.int .i64 x.sheet, .int .i64 x.col, .int .i64 x.row, .bool x.inner, .bool x.turned] 57)).heap[w.heap.size + 1 + 1]? = some (.cells #[.int .i64 x.sheet, .int .i64 x.col, .int .i64 x.row, .bool x.inner, .bool x.turned] 57 (0, 0)) := by exact (by repeat (first | exact heap_alloc_at _ _ _ (by (first | omega | (simp; done) | (simp; omega) | (simp at *; omega) | fail)) | assumption | rw [heap_alloc_past _ _ _ (by (first | omega | (simp; done) | (simp; omega) | (simp at *; omega) | fail))] | rw [heap_setCell_past _ _ _ _ (by (first | omega | (simp; done) | (simp; omega) | (simp at *; omega) | fail))] | fail))
  have HB3 := Lib.hid hb3
  have HX3 := Lib.hid hx3
  clear hx3 hb3
  go_enter Tryz.func59, Tryz.ntmps59
  go_wp2_with fail
  refine (HTX.out _).mono ?_
  rintro e w4 ⟨rfl, hb⟩
  have HB4 := Lib.hid (HB3.out.trans (hb.mono HB3.out.size))
  have HX4 := Lib.hid (blk_later hb HX3.out)
  clear hb HX3 HB3 q1 q2
  go_wp2_with fail
  refine (HTY.out _).mono ?_
  rintro e w5 ⟨rfl, hb⟩
  have HB5 := Lib.hid (HB4.out.trans (hb.mono HB4.out.size))
  have hx5 := blk_later hb HX4.out
  have HX5 := Lib.hid hx5
  clear hb HX4 HB4
  have c0 := blk_cell hx5 0
  have c1 := blk_cell hx5 1
  have c2 := blk_cell hx5 2
  have c3 := blk_cell hx5 3
  have c4 := blk_cell hx5 4
  clear hx5
  go_wp2_with fail
  refine (in2_is P (4 * (x.col : Int)) (4 * x.col + 4) z1 HZ1.out _).mono ?_
  rintro e w6 ⟨rfl, hb⟩
  have HB6 := Lib.hid (HB5.out.trans (hb.mono HB5.out.size))
  have hx6 := blk_later hb HX5.out
  clear hb HX5 HB5 c0 c1 c2 c3 c4
  have c0 := blk_cell hx6 0
  have c1 := blk_cell hx6 1
  have c2 := blk_cell hx6 2
  have c3 := blk_cell hx6 3
  have c4 := blk_cell hx6 4
  clear hx6
  cases z1 with
  | false =>
    go_wp2_with fail
    go_ret
    exact ⟨rfl, HB6.out⟩
  | true =>
    go_wp2_with fail
    refine (in2_is RO (2 * (x.row : Int)) (2 * x.row + 2) z2 HZ2.out _).mono ?_
    rintro e w7 ⟨rfl, hb⟩
    have HB7 := Lib.hid (HB6.out.trans (hb.mono HB6.out.size))
    clear hb HB6 c0 c1 c2 c3 c4
    go_wp2_with fail
    go_ret
    exact ⟨by simp, HB7.out⟩
end Go.Proofs.YtielaaaeecfkoaaGreatDoor

/- The reference: Marked, of a way of making and halves without an error. -/
namespace Go.Proofs.YtielaaaeecfkoaaGreatDoor
set_option linter.unusedSimpArgs false
set_option linter.unusedVariables false
open Go Go.RowKit Go.Sort Go.BigFrame

set_option maxRecDepth 100000 in
set_option maxHeartbeats 4000000 in
theorem refMarked2_any (p : Prs) (m : Mkw) (f : Fmt) (hs : List Nat) (v vp : Value) (w : World) (hp : PrsAt w.heap.size w vp p) (he : errP p = 0) (hm : mkwErr p m = 0) (hf : p.fmts[m.fmt.toNat]? = some f)
    (hv : IntsO w v (hs.map fun (n : Nat) => (n : Int))) (hlen : hs.length = m.sheets.toNat) (h01 : ∀ h ∈ hs, h ≤ 1) :
    Calls Tryz.prog 23 #[vp, mkwV m, v] w fun e w' => (∃ v', e = .returned (.tuple #[v', .int .i64 0]) ∧ IntsAt w' v' ((marksF (leavesW m f) (colsF (fdsB f.folds)) (rowsF (fdsB f.folds)) hs).map fun (n : Nat) => (n : Int))) ∧ Below w.heap.size w w' := by
  have hcnt := (fine_of he hm hf).count
  obtain ⟨ls, hls⟩ : ∃ ls, ls = leavesW m f := ⟨_, rfl⟩
  rw [← hls] at hcnt ⊢
  obtain ⟨N, hN⟩ : ∃ N, N = ls.length := ⟨_, rfl⟩
  rw [← hN] at hcnt
  have HN := Lib.hid hN
  have HLS := Lib.hid hls
  obtain ⟨hc1, hc2⟩ := hcnt
  obtain ⟨sn, hsn⟩ : ∃ s, s = m.sheets.toNat := ⟨_, rfl⟩
  have HV := Lib.hid hv
  have H01 := Lib.hid h01
  have HLEN := Lib.hid hlen
  obtain ⟨va, vcap, rfl, -⟩ := hv
  rw [List.length_map, hlen, ← hsn] at HV ⊢
  have hsh1 := (fine_of he hm hf).sh1
  have hms : m.sheets = (sn : Int) := by omega
  have HMS := Lib.hid hms
  have HSN := Lib.hid hsn
  have hsn4 : 1 ≤ sn ∧ sn ≤ 4 := by have := (fine_of he hm hf).sh4; omega
  obtain ⟨co, hco⟩ : ∃ c : Nat, c = colsF (fdsB f.folds) := ⟨_, rfl⟩
  obtain ⟨ro, hro⟩ : ∃ c : Nat, c = rowsF (fdsB f.folds) := ⟨_, rfl⟩
  have hhas := fun (x : Fl) (h : Nat) (W : World) (vq : Value) (hq : PrsAt W.heap.size W vq p) => refHasM_any p m f x h vq W hq he hm hf
  rw [← hco, ← hro] at hhas ⊢
  have HH := Lib.hid hhas
  clear hN hls hsn hlen h01 hco hro hms hhas hsh1
  have HP := Lib.hid hp
  have HE := Lib.hid he
  have HM := Lib.hid hm
  have HF0 := Lib.hid hf
  have FN := Lib.hid (fine_of he hm hf)
  have HW0 : Hid (wayErr p m = 0) := Lib.hid (by unfold wayErr; rw [if_pos he]; exact hm)
  obtain ⟨hfm0, hfm1, -, -⟩ := fine_at he hm
  obtain ⟨fv, pv, rfl, ⟨a, cap, rfl, hfc⟩, ⟨a2, cap2, rfl, -⟩, -⟩ := hp
  obtain ⟨n1, hn1⟩ : ∃ n, n = p.fmts.length := ⟨_, rfl⟩
  obtain ⟨n2, hn2⟩ : ∃ n, n = p.pprs.length := ⟨_, rfl⟩
  obtain ⟨b', off, rfl, hb', hc⟩ := hfc (fun h => by rw [h] at hf; simp at hf)
  have q1 : w.cell? ⟨b', off + m.fmt.toNat * 2 + 1, none⟩ = some (S f.folds) := by have := hc _ f hf 1 _ rfl; simpa using this
  rw [← hn1] at hfm1
  rw [← hn1, ← hn2] at HP ⊢
  have hs1 := FN.out.sh1
  have hs4 := FN.out.sh4
  have HQ1 := Lib.hid q1
  clear hn1 hn2 hc hf he hm hfc q1
  go_enter Tryz.func23, Tryz.ntmps23
  go_wp2_with fail
  refine (refMake3_any p m _ _ (HP.out.later (by exact (by repeat (first | exact Below.refl _ _ | assumption | (refine Below.alloc ?_ ?_ _; rotate_left; · (first | omega | (simp; done) | (simp; omega) | fail)) | (refine Below.setCell ?_ ?_ _; rotate_left; · (first | omega | (simp; done) | (simp; omega) | fail)) | refine Below.drew ?_ | fail))))).mono ?_
  rintro e w2 ⟨rfl, hb⟩
  rw [HW0.out]
  have hb0 : Below w.heap.size w w2 := Below.trans (by exact (by repeat (first | exact Below.refl _ _ | assumption | (refine Below.alloc ?_ ?_ _; rotate_left; · (first | omega | (simp; done) | (simp; omega) | fail)) | (refine Below.setCell ?_ ?_ _; rotate_left; · (first | omega | (simp; done) | (simp; omega) | fail)) | refine Below.drew ?_ | fail))) (hb.mono (by simp; try omega))
  have hx1 : w2.heap[w.heap.size]? = some (.cells #[.slice (some ⟨b', off, none⟩) n1 cap, .slice a2 n2 cap2, .int .i64 p.trim, .int .i64 p.sheets] 25 (0, 0)) := blk_later hb (by exact (by repeat (first | exact heap_alloc_at _ _ _ (by (first | omega | (simp; done) | (simp; omega) | (simp at *; omega) | fail)) | assumption | rw [heap_alloc_past _ _ _ (by (first | omega | (simp; done) | (simp; omega) | (simp at *; omega) | fail))] | rw [heap_setCell_past _ _ _ _ (by (first | omega | (simp; done) | (simp; omega) | (simp at *; omega) | fail))] | fail)))
  have hx2 : w2.heap[w.heap.size + 1]? = some (.cells #[.int .i64 m.fmt, .int .i64 m.ppr, .int .i64 m.sheets, .bool m.half] 38 (0, 0)) := blk_later hb (by exact (by repeat (first | exact heap_alloc_at _ _ _ (by (first | omega | (simp; done) | (simp; omega) | (simp at *; omega) | fail)) | assumption | rw [heap_alloc_past _ _ _ (by (first | omega | (simp; done) | (simp; omega) | (simp at *; omega) | fail))] | rw [heap_setCell_past _ _ _ _ (by (first | omega | (simp; done) | (simp; omega) | (simp at *; omega) | fail))] | fail)))
  have HX1 := Lib.hid hx1
  have HX2 := Lib.hid hx2
  have HB0 := Lib.hid hb0
  have hz2 := hb0.size
  clear hb hb0 hx1 hx2
  have HV2 := Lib.hid (HV.out.later HB0.out)
  have e1 : ((sn : Int) != m.sheets) = false := by rw [HMS.out]; simp
  have d0 := blk_cell (HX2.out) 0
  have d1 := blk_cell (HX2.out) 1
  have d2 := blk_cell (HX2.out) 2
  have d3 := blk_cell (HX2.out) 3
  go_wp2_with fail
  obtain ⟨gh, go, rfl, hgh, hch⟩ : ∃ gh go, va = some ⟨gh, go, none⟩ ∧ gh < w2.heap.size ∧ ∀ i x, (hs.map fun (n : Nat) => (n : Int))[i]? = some x → w2.cell? ⟨gh, go + i, none⟩ = some (.int .i64 x) := by
    obtain ⟨a7, c7, e7, h7⟩ := HV2.out
    have hne7 : (hs.map fun (n : Nat) => (n : Int)) ≠ [] := by
      intro e
      have h : (hs.map fun (n : Nat) => (n : Int)).length = 0 := by rw [e]; rfl
      rw [List.length_map, HLEN.out, ← HSN.out] at h
      omega
    obtain ⟨gh, go, rfl, h1, h2⟩ := h7 hne7
    cases e7
    exact ⟨gh, go, rfl, h1, h2⟩
  have HCH := Lib.hid hch
  clear hch d0 d1 d2 d3 e1
  go_loopw [8, 9] (fun e i wr => ∃ (k : Nat), k ≤ sn ∧ e = .int .i64 0 ∧ i = .int .i64 k ∧ Hid (Below w2.heap.size w2 wr)) (fun _ i _ => sn - (intOf i).toNat)
  case atStart => exact ⟨0, by omega, rfl, rfl, Below.refl _ _⟩
  case round =>
    obtain ⟨k, hk, rfl, rfl, HB⟩ := hrel
    by_cases hlt : k < sn
    · obtain ⟨h, hh⟩ : ∃ h, hs[k]? = some h := ⟨_, List.getElem?_eq_getElem (by have := HLEN.out; have := HSN.out; omega)⟩
      have h1 := H01.out h (List.mem_of_getElem? hh)
      have q6 := cell_later' HB.out (HCH.out k (h : Int) (by rw [List.getElem?_map, hh]; rfl))
      have hi1 : true = inI 0 1 (h : Int) := by unfold inI; rw [decide_eq_true (by omega), decide_eq_true (by omega)]; rfl
      have HI1 := Lib.hid hi1
      clear hh hi1
      go_wp2_with fail
      refine (in2_is (h : Int) 0 1 true HI1.out _).mono ?_
      rintro e w9 ⟨rfl, hb⟩
      have HB9 := Lib.hid (HB.out.trans (hb.mono HB.out.size))
      clear hb q6
      go_wp2_with fail
      go_roundw
      case rel => exact ⟨k + 1, by omega, rfl, by go_num, HB9⟩
      case measure => simp [intOf]; omega
    · obtain rfl : k = sn := by omega
      have HBW := Lib.hid (HB0.out.trans (HB.out.mono HB0.out.size))
      have HX1r := Lib.hid (blk_later HB.out HX1.out)
      have HX2r := Lib.hid (blk_later HB.out HX2.out)
      have c0 := blk_cell (HX1r.out) 0
      have c1 := blk_cell (HX1r.out) 1
      have c2 := blk_cell (HX1r.out) 2
      have c3 := blk_cell (HX1r.out) 3
      have d0 := blk_cell (HX2r.out) 0
      have d1 := blk_cell (HX2r.out) 1
      have d2 := blk_cell (HX2r.out) 2
      have d3 := blk_cell (HX2r.out) 3
      go_wp2_with fail
      refine (refAll2_any p m f _ _ (HP.out.later HBW.out) HE.out HM.out HF0.out).mono ?_
      rintro e w3 ⟨⟨v', g, rfl, hl, hg⟩, hb⟩
      rw [← HLS.out] at hl
      have HL := Lib.hid hl
      have HB3 := Lib.hid (HBW.out.trans (hb.mono HBW.out.size))
      have HX1s := Lib.hid (blk_later hb HX1r.out)
      have HX2s := Lib.hid (blk_later hb HX2r.out)
      have HC3 : Hid (∀ i x, (hs.map fun (n : Nat) => (n : Int))[i]? = some x → w3.cell? ⟨gh, go + i, none⟩ = some (.int .i64 x)) := Lib.hid (fun i x hx => cell_later' hb (cell_later' HB.out (HCH.out i x hx)))
      obtain ⟨k7, rest, rfl, -⟩ := hl
      rw [← HN.out] at HL ⊢
      clear c0 c1 c2 c3 d0 d1 d2 d3 hb hg HX1r HX2r HCH HB
      obtain ⟨ei, hi1, hi2, hi3, hi4⟩ := elemInt
      have HI := Lib.hid (And.intro hi1 (And.intro hi2 (And.intro hi3 hi4)))
      clear hi1 hi2 hi3 hi4
      go_wp2_with fail
      go_loopw [11, 12] (fun v i wr => ∃ (k : Nat), k ≤ N ∧ i = .int .i64 k ∧ Hid (wr.ownsRow w3.heap.size 3 1 v ((List.range k).filter (markAt ls co ro hs)).length (intVs ((List.range k).filter (markAt ls co ro hs)))) ∧ Hid (Below w3.heap.size w3 wr)) (fun _ i _ => N - (intOf i).toNat)
      case atStart => exact ⟨0, by omega, rfl, World.ownsRow_nil _ _ _ _, Below.refl _ _⟩
      case round =>
        clear hlt
        obtain ⟨j, hj, rfl, HR, HB⟩ := hrel
        by_cases hlt : j < N
        · obtain ⟨x, hx⟩ : ∃ x, ls[j]? = some x := ⟨_, List.getElem?_eq_getElem (by have := HN.out; omega)⟩
          have HX := Lib.hid hx
          clear hx
          have hx2 : (leavesW m f)[j]? = some x := by rw [← HLS.out]; exact HX.out
          have HSM := Lib.hid (FN.out.small hx2)
          have hsx : x.sheet < k := by
            have := FN.out.sheet hx2
            have := HMS.out
            omega
          obtain ⟨h, hh⟩ : ∃ h, hs[x.sheet]? = some h := ⟨_, List.getElem?_eq_getElem (by have := HLEN.out; have := HSN.out; omega)⟩
          have HH1 := Lib.hid (H01.out h (List.mem_of_getElem? hh))
          obtain ⟨B, hB⟩ : ∃ B, B = markB co ro h x := ⟨_, rfl⟩
          have HM2 : Hid (markAt ls co ro hs j = B) := Lib.hid (by
            rw [hB]
            unfold markAt
            rw [HX.out]
            show markB co ro (hs.getD x.sheet 0) x = _
            rw [List.getD_eq_getElem?_getD, hh]; rfl)
          have p0 := cell_regrown (cell_later' HB.out (HC3.out x.sheet (h : Int) (by rw [List.getElem?_map, hh]; rfl)))
          obtain ⟨y0, y1, y2, y3, y4⟩ := leaf_cells (HL.out.later HB.out) HX.out
          have x0 := cell_regrown y0
          have x1 := cell_regrown y1
          have x2 := cell_regrown y2
          have x3 := cell_regrown y3
          have x4 := cell_regrown y4
          have r1 := blk_later HB.out HX1s.out
          have r2 := blk_later HB.out HX2s.out
          have c0 := cell_regrown (blk_cell r1 0)
          have c1 := cell_regrown (blk_cell r1 1)
          have c2 := cell_regrown (blk_cell r1 2)
          have c3 := cell_regrown (blk_cell r1 3)
          have d0 := cell_regrown (blk_cell r2 0)
          have d1 := cell_regrown (blk_cell r2 1)
          have d2 := cell_regrown (blk_cell r2 2)
          have d3 := cell_regrown (blk_cell r2 3)
          have HPr := Lib.hid (HP.out.later (HB3.out.trans (HB.out.mono HB3.out.size)))
          have cH : ∀ d' os, Calls Tryz.prog 59 #[.agg #[.slice (some ⟨b', off, none⟩) n1 cap, .slice a2 n2 cap2, .int .i64 p.trim, .int .i64 p.sheets], mkwV m, flA x, .int .i64 h] (grow (redrawn wr d') os) (fun e w'' => e = .returned (.bool B) ∧ ∃ p : Regrown, w'' = grow (redrawn wr p.d) p.os) := fun d' os => Calls.regrown_of (by rw [hB]; exact HH.out x h _ _ (HPr.out.later (below_regrown wr d' os)) HSM.out.1 HSM.out.2 HH1.out)
          clear hx2 hh r1 r2 y0 y1 y2 y3 y4 hB
          go_wp2_with fail
          refine wp_region_quiet_below (by kernel_rfl) (by kernel_rfl) ?_; (repeat (go_big_quiet_step (exact cH _ _))); refine wpQuiet_nil ?_; rintro w6 ⟨⟨d6, os6⟩, rfl⟩
          have HR := Lib.hid (row_later HR.out (below_regrown wr d6 os6))
          have HB := Lib.hid (HB.out.trans ((below_regrown wr d6 os6).mono HB.out.size))
          have hrl := range_filter_len (markAt ls co ro hs) j
          clear p0 x0 x1 x2 x3 x4 c0 c1 c2 c3 d0 d1 d2 d3 cH
          dsimp only
          generalize grow (redrawn wr d6) os6 = w4 at *
          cases B with
          | false =>
            go_wp2_with fail
            go_roundw
            case rel => exact ⟨j + 1, by omega, by go_num, (by show World.ownsRow _ _ _ _ _ _ _; rw [range_filter_no HM2.out]; exact HR.out), HB⟩
            case measure => simp [intOf]; omega
          | true =>
            have HF := HM2
            obtain ⟨hi1, hi2, hi3, hi4⟩ := HI.out
            have hzr := HB.out.size
            go_wp2_with (at_builtin; go_must (refine wpList_append_own _ rfl _ _ 39 rfl w3.heap.size 3 ei _ 1 8 undInts hi1 hi2 hi3 hi4 rfl (by decide) u11 ((List.range j).filter (markAt ls co ro hs)).length (intVs ((List.range j).filter (markAt ls co ro hs))) rfl (HR.out.alloc _) ⟨w4.heap.size, 0, none⟩ 1 1 [.int .i64 j] rfl rfl ?a1 ?b1 ?c1 ?d1 ?e1 ?f1))
            case a1 =>
              intro j u hju
              rw [add_offi]
              unfold World.cell?
              rw [World.alloc_heap_new]
              simpa using hju
            case b1 => simp [Value.oneCell']
            case c1 => simp only [maxLen]; omega
            case d1 => omega
            case e1 => (first | omega | (simp; omega))
            case f1 =>
              rintro v' w7 hown hgrow -
              have HB7 := Lib.hid (HB.out.trans ((((Below.refl _ w4).alloc (Nat.le_refl _) (.cells #[.int .i64 j] 3)).mono hzr).trans (below_row (HR.out.alloc _) (by simp; omega) hgrow)))
              have HO := Lib.hid hown
              clear hgrow hown hi1 hi2 hi3 hi4
              go_wp2_with fail
              go_roundw
              case rel => exact ⟨j + 1, by omega, by go_num, (by
                show World.ownsRow _ _ _ _ _ _ _
                rw [range_filter_yes HF.out]
                have h := HO.out
                simpa [intVs] using h), HB7.out⟩
              case measure => simp [intOf]; omega
        · obtain rfl : j = N := by omega
          go_wp2_with fail
          go_ret2
          exact ⟨⟨_, rfl, by unfold marksF; rw [← HN.out]; exact ints_of_row HR.out⟩, HB3.out.trans (HB.out.mono HB3.out.size)⟩
end Go.Proofs.YtielaaaeecfkoaaGreatDoor

/- The reference: Marked, with an error. -/
namespace Go.Proofs.YtielaaaeecfkoaaGreatDoor
set_option linter.unusedSimpArgs false
set_option linter.unusedVariables false
open Go Go.RowKit Go.Sort Go.BigFrame

set_option maxRecDepth 100000 in
set_option maxHeartbeats 1000000 in
theorem refMarked_err (p : Prs) (m : Mkw) (va : Option Addr) (vn vc : Nat) (vp : Value) (w : World) (hp : PrsAt w.heap.size w vp p) (he : wayErr p m ≠ 0) :
    Calls Tryz.prog 23 #[vp, mkwV m, .slice va vn vc] w fun e w' => e = .returned (.tuple #[.slice none 0 0, .int .i64 (wayErr p m)]) ∧ Below w.heap.size w w' := by
  have HP := Lib.hid hp
  obtain ⟨fv, pv, rfl, ⟨a, cap, rfl, -⟩, ⟨a2, cap2, rfl, -⟩, -⟩ := hp
  obtain ⟨n1, hn1⟩ : ∃ n, n = p.fmts.length := ⟨_, rfl⟩
  obtain ⟨n2, hn2⟩ : ∃ n, n = p.pprs.length := ⟨_, rfl⟩
  rw [← hn1, ← hn2] at HP ⊢
  obtain ⟨z, hz⟩ : ∃ z, z = wayErr p m := ⟨_, rfl⟩
  have hz0 : (z != 0) = true := by rw [hz]; simpa using he
  have hz1 : (z == 0) = false := by rw [hz]; simpa using he
  have hz2 : z ≠ 0 := by rw [hz]; exact he
  rw [← hz]
  have HZ := Lib.hid hz
  clear hz hn1 hn2 he
  go_enter Tryz.func23, Tryz.ntmps23
  go_wp2_with fail
  refine (refMake3_any p m _ _ (HP.out.later (by exact (by repeat (first | exact Below.refl _ _ | assumption | (refine Below.alloc ?_ ?_ _; rotate_left; · (first | omega | (simp; done) | (simp; omega) | fail)) | (refine Below.setCell ?_ ?_ _; rotate_left; · (first | omega | (simp; done) | (simp; omega) | fail)) | refine Below.drew ?_ | fail))))).mono ?_
  rintro e w2 ⟨rfl, hb⟩
  rw [← HZ.out]
  have hb0 : Below w.heap.size w w2 := Below.trans (by exact (by repeat (first | exact Below.refl _ _ | assumption | (refine Below.alloc ?_ ?_ _; rotate_left; · (first | omega | (simp; done) | (simp; omega) | fail)) | (refine Below.setCell ?_ ?_ _; rotate_left; · (first | omega | (simp; done) | (simp; omega) | fail)) | refine Below.drew ?_ | fail))) (hb.mono (by simp; try omega))
  clear hb
  go_wp2_with fail
  go_loopw [8, 9] (fun e i wr => e = .int .i64 z ∧ i = .int .i64 0 ∧ Hid (Below w.heap.size w wr)) (fun _ _ _ => 0)
  case atStart => exact ⟨rfl, rfl, hb0⟩
  case round =>
    obtain ⟨rfl, rfl, HB⟩ := hrel
    by_cases hv : 0 < vn
    · have e1 : decide ((0 : Int) < (vn : Int)) = true := decide_eq_true (by omega)
      have e2 : decide (0 < vn) = true := decide_eq_true (by omega)
      go_wp2_with fail
      go_ret2
      exact ⟨rfl, HB.out⟩
    · have e1 : decide ((0 : Int) < (vn : Int)) = false := decide_eq_false (by omega)
      have e2 : decide (0 < vn) = false := decide_eq_false (by omega)
      go_wp2_with fail
      go_ret2
      exact ⟨rfl, HB.out⟩
set_option maxRecDepth 100000 in
set_option maxHeartbeats 1000000 in
theorem refMarked_long (p : Prs) (m : Mkw) (f : Fmt) (va : Option Addr) (vn vc : Nat) (vp : Value) (w : World) (hp : PrsAt w.heap.size w vp p) (he : errP p = 0) (hm : mkwErr p m = 0) (hf : p.fmts[m.fmt.toNat]? = some f) (hne : (vn : Int) ≠ m.sheets) :
    Calls Tryz.prog 23 #[vp, mkwV m, .slice va vn vc] w fun e w' => e = .returned (.tuple #[.slice none 0 0, .int .i64 3]) ∧ Below w.heap.size w w' := by
  have e0 : ((vn : Int) != m.sheets) = true := by simpa using hne
  have HP := Lib.hid hp
  have HE := Lib.hid he
  have HM := Lib.hid hm
  have HF0 := Lib.hid hf
  have FN := Lib.hid (fine_of he hm hf)
  have HW0 : Hid (wayErr p m = 0) := Lib.hid (by unfold wayErr; rw [if_pos he]; exact hm)
  obtain ⟨hfm0, hfm1, -, -⟩ := fine_at he hm
  obtain ⟨fv, pv, rfl, ⟨a, cap, rfl, hfc⟩, ⟨a2, cap2, rfl, -⟩, -⟩ := hp
  obtain ⟨n1, hn1⟩ : ∃ n, n = p.fmts.length := ⟨_, rfl⟩
  obtain ⟨n2, hn2⟩ : ∃ n, n = p.pprs.length := ⟨_, rfl⟩
  obtain ⟨b', off, rfl, hb', hc⟩ := hfc (fun h => by rw [h] at hf; simp at hf)
  have q1 : w.cell? ⟨b', off + m.fmt.toNat * 2 + 1, none⟩ = some (S f.folds) := by have := hc _ f hf 1 _ rfl; simpa using this
  rw [← hn1] at hfm1
  rw [← hn1, ← hn2] at HP ⊢
  have hs1 := FN.out.sh1
  have hs4 := FN.out.sh4
  have HQ1 := Lib.hid q1
  clear hn1 hn2 hc hf he hm hfc q1
  go_enter Tryz.func23, Tryz.ntmps23
  go_wp2_with fail
  refine (refMake3_any p m _ _ (HP.out.later (by exact (by repeat (first | exact Below.refl _ _ | assumption | (refine Below.alloc ?_ ?_ _; rotate_left; · (first | omega | (simp; done) | (simp; omega) | fail)) | (refine Below.setCell ?_ ?_ _; rotate_left; · (first | omega | (simp; done) | (simp; omega) | fail)) | refine Below.drew ?_ | fail))))).mono ?_
  rintro e w2 ⟨rfl, hb⟩
  rw [HW0.out]
  have hb0 : Below w.heap.size w w2 := Below.trans (by exact (by repeat (first | exact Below.refl _ _ | assumption | (refine Below.alloc ?_ ?_ _; rotate_left; · (first | omega | (simp; done) | (simp; omega) | fail)) | (refine Below.setCell ?_ ?_ _; rotate_left; · (first | omega | (simp; done) | (simp; omega) | fail)) | refine Below.drew ?_ | fail))) (hb.mono (by simp; try omega))
  have hx1 : w2.heap[w.heap.size]? = some (.cells #[.slice (some ⟨b', off, none⟩) n1 cap, .slice a2 n2 cap2, .int .i64 p.trim, .int .i64 p.sheets] 25 (0, 0)) := blk_later hb (by exact (by repeat (first | exact heap_alloc_at _ _ _ (by (first | omega | (simp; done) | (simp; omega) | (simp at *; omega) | fail)) | assumption | rw [heap_alloc_past _ _ _ (by (first | omega | (simp; done) | (simp; omega) | (simp at *; omega) | fail))] | rw [heap_setCell_past _ _ _ _ (by (first | omega | (simp; done) | (simp; omega) | (simp at *; omega) | fail))] | fail)))
  have hx2 : w2.heap[w.heap.size + 1]? = some (.cells #[.int .i64 m.fmt, .int .i64 m.ppr, .int .i64 m.sheets, .bool m.half] 38 (0, 0)) := blk_later hb (by exact (by repeat (first | exact heap_alloc_at _ _ _ (by (first | omega | (simp; done) | (simp; omega) | (simp at *; omega) | fail)) | assumption | rw [heap_alloc_past _ _ _ (by (first | omega | (simp; done) | (simp; omega) | (simp at *; omega) | fail))] | rw [heap_setCell_past _ _ _ _ (by (first | omega | (simp; done) | (simp; omega) | (simp at *; omega) | fail))] | fail)))
  have HX1 := Lib.hid hx1
  have HX2 := Lib.hid hx2
  have HB0 := Lib.hid hb0
  have hz2 := hb0.size
  clear hb hb0 hx1 hx2
  have d0 := blk_cell (HX2.out) 0
  have d1 := blk_cell (HX2.out) 1
  have d2 := blk_cell (HX2.out) 2
  have d3 := blk_cell (HX2.out) 3
  go_wp2_with fail
  clear d0 d1 d2 d3 e0
  go_loopw [8, 9] (fun e i wr => e = .int .i64 3 ∧ i = .int .i64 0 ∧ Hid (Below w.heap.size w wr)) (fun _ _ _ => 0)
  case atStart => exact ⟨rfl, rfl, HB0⟩
  case round =>
    obtain ⟨rfl, rfl, HB⟩ := hrel
    by_cases hv : 0 < vn
    · have e1 : decide ((0 : Int) < (vn : Int)) = true := decide_eq_true (by omega)
      have e2 : decide (0 < vn) = true := decide_eq_true (by omega)
      go_wp2_with fail
      go_ret2
      exact ⟨rfl, HB.out⟩
    · have e1 : decide ((0 : Int) < (vn : Int)) = false := decide_eq_false (by omega)
      have e2 : decide (0 < vn) = false := decide_eq_false (by omega)
      go_wp2_with fail
      go_ret2
      exact ⟨rfl, HB.out⟩
/-- The first of some halves that is none. -/
def fineTo (hs : List Int) (k : Nat) : Prop := ∀ i, i < k → ∀ x, hs[i]? = some x → inI 0 1 x = true
set_option maxRecDepth 100000 in
set_option maxHeartbeats 2000000 in
theorem refMarked_range (p : Prs) (m : Mkw) (f : Fmt) (hs : List Int) (v vp : Value) (w : World) (hp : PrsAt w.heap.size w vp p) (he : errP p = 0) (hm : mkwErr p m = 0) (hf : p.fmts[m.fmt.toNat]? = some f)
    (hv : IntsO w v hs) (hlen : (hs.length : Int) = m.sheets) (hne : hs.all (inI 0 1) = false) :
    Calls Tryz.prog 23 #[vp, mkwV m, v] w fun e w' => e = .returned (.tuple #[.slice none 0 0, .int .i64 7]) ∧ Below w.heap.size w w' := by
  obtain ⟨va, vcap, rfl, hcv⟩ := hv
  obtain ⟨gh, go, rfl, hgh, hch⟩ := hcv (by intro e; rw [e] at hne; simp at hne)
  obtain ⟨sn, hsn⟩ : ∃ s, s = hs.length := ⟨_, rfl⟩
  rw [← hsn] at hlen ⊢
  have HSN := Lib.hid hsn
  have HNE := Lib.hid hne
  have HCH0 := Lib.hid hch
  have e0 : ((sn : Int) != m.sheets) = false := by simp [hlen]
  have hsn4 : sn ≤ 4 := by have := (fine_of he hm hf).sh4; omega
  clear hsn hne hch hcv hlen
  have HP := Lib.hid hp
  have HE := Lib.hid he
  have HM := Lib.hid hm
  have HF0 := Lib.hid hf
  have FN := Lib.hid (fine_of he hm hf)
  have HW0 : Hid (wayErr p m = 0) := Lib.hid (by unfold wayErr; rw [if_pos he]; exact hm)
  obtain ⟨hfm0, hfm1, -, -⟩ := fine_at he hm
  obtain ⟨fv, pv, rfl, ⟨a, cap, rfl, hfc⟩, ⟨a2, cap2, rfl, -⟩, -⟩ := hp
  obtain ⟨n1, hn1⟩ : ∃ n, n = p.fmts.length := ⟨_, rfl⟩
  obtain ⟨n2, hn2⟩ : ∃ n, n = p.pprs.length := ⟨_, rfl⟩
  obtain ⟨b', off, rfl, hb', hc⟩ := hfc (fun h => by rw [h] at hf; simp at hf)
  have q1 : w.cell? ⟨b', off + m.fmt.toNat * 2 + 1, none⟩ = some (S f.folds) := by have := hc _ f hf 1 _ rfl; simpa using this
  rw [← hn1] at hfm1
  rw [← hn1, ← hn2] at HP ⊢
  have hs1 := FN.out.sh1
  have hs4 := FN.out.sh4
  have HQ1 := Lib.hid q1
  clear hn1 hn2 hc hf he hm hfc q1
  go_enter Tryz.func23, Tryz.ntmps23
  go_wp2_with fail
  refine (refMake3_any p m _ _ (HP.out.later (by exact (by repeat (first | exact Below.refl _ _ | assumption | (refine Below.alloc ?_ ?_ _; rotate_left; · (first | omega | (simp; done) | (simp; omega) | fail)) | (refine Below.setCell ?_ ?_ _; rotate_left; · (first | omega | (simp; done) | (simp; omega) | fail)) | refine Below.drew ?_ | fail))))).mono ?_
  rintro e w2 ⟨rfl, hb⟩
  rw [HW0.out]
  have hb0 : Below w.heap.size w w2 := Below.trans (by exact (by repeat (first | exact Below.refl _ _ | assumption | (refine Below.alloc ?_ ?_ _; rotate_left; · (first | omega | (simp; done) | (simp; omega) | fail)) | (refine Below.setCell ?_ ?_ _; rotate_left; · (first | omega | (simp; done) | (simp; omega) | fail)) | refine Below.drew ?_ | fail))) (hb.mono (by simp; try omega))
  have hx1 : w2.heap[w.heap.size]? = some (.cells #[.slice (some ⟨b', off, none⟩) n1 cap, .slice a2 n2 cap2, .int .i64 p.trim, .int .i64 p.sheets] 25 (0, 0)) := blk_later hb (by exact (by repeat (first | exact heap_alloc_at _ _ _ (by (first | omega | (simp; done) | (simp; omega) | (simp at *; omega) | fail)) | assumption | rw [heap_alloc_past _ _ _ (by (first | omega | (simp; done) | (simp; omega) | (simp at *; omega) | fail))] | rw [heap_setCell_past _ _ _ _ (by (first | omega | (simp; done) | (simp; omega) | (simp at *; omega) | fail))] | fail)))
  have hx2 : w2.heap[w.heap.size + 1]? = some (.cells #[.int .i64 m.fmt, .int .i64 m.ppr, .int .i64 m.sheets, .bool m.half] 38 (0, 0)) := blk_later hb (by exact (by repeat (first | exact heap_alloc_at _ _ _ (by (first | omega | (simp; done) | (simp; omega) | (simp at *; omega) | fail)) | assumption | rw [heap_alloc_past _ _ _ (by (first | omega | (simp; done) | (simp; omega) | (simp at *; omega) | fail))] | rw [heap_setCell_past _ _ _ _ (by (first | omega | (simp; done) | (simp; omega) | (simp at *; omega) | fail))] | fail)))
  have HX1 := Lib.hid hx1
  have HX2 := Lib.hid hx2
  have HB0 := Lib.hid hb0
  have hz2 := hb0.size
  clear hb hb0 hx1 hx2
  have HCH : Hid (∀ i x, hs[i]? = some x → w2.cell? ⟨gh, go + i, none⟩ = some (.int .i64 x)) := Lib.hid (fun i x hx => cell_later' HB0.out (HCH0.out i x hx))
  have d0 := blk_cell (HX2.out) 0
  have d1 := blk_cell (HX2.out) 1
  have d2 := blk_cell (HX2.out) 2
  have d3 := blk_cell (HX2.out) 3
  go_wp2_with fail
  clear d0 d1 d2 d3 e0
  go_loopw [8, 9] (fun e i wr => ∃ (k : Nat) (E : Int), k ≤ sn ∧ e = .int .i64 E ∧ i = .int .i64 k ∧ Hid (Below w2.heap.size w2 wr) ∧ Hid ((E = 0 ∧ fineTo hs k) ∨ E = 7)) (fun e i _ => (sn - (intOf i).toNat) + (7 - (intOf e).toNat))
  case atStart => exact ⟨0, 0, by omega, rfl, rfl, Below.refl _ _, Lib.hid (Or.inl ⟨rfl, fun i hi => by omega⟩)⟩
  case round =>
    obtain ⟨k, E, hk, rfl, rfl, HB, HE7⟩ := hrel
    rcases HE7.out with ⟨rfl, hfine⟩ | rfl
    · have HFI := Lib.hid hfine
      by_cases hlt : k < sn
      · obtain ⟨h, hh⟩ : ∃ h, hs[k]? = some h := ⟨_, List.getElem?_eq_getElem (by have := HSN.out; omega)⟩
        have q6 := cell_later' HB.out (HCH.out k h hh)
        obtain ⟨z, hz⟩ : ∃ z, z = inI 0 1 h := ⟨_, rfl⟩
        have HZ := Lib.hid hz
        have HHH := Lib.hid hh
        clear hh hz hfine HE7
        go_wp2_with fail
        refine (in2_is h 0 1 z HZ.out _).mono ?_
        rintro e w9 ⟨rfl, hb⟩
        have HB9 := Lib.hid (HB.out.trans (hb.mono HB.out.size))
        clear hb q6
        cases z with
        | false =>
          go_wp2_with fail
          go_roundw
          case rel => exact ⟨k + 1, 7, by omega, rfl, by go_num, HB9, Lib.hid (Or.inr rfl)⟩
          case measure => simp [intOf]; omega
        | true =>
          have HF2 : Hid (fineTo hs (k + 1)) := Lib.hid (fun i hi x hx => by
            by_cases hik : i < k
            · exact HFI.out i hik x hx
            · have : i = k := by omega
              subst this
              rw [HHH.out] at hx
              cases hx
              exact HZ.out.symm)
          clear HFI
          go_wp2_with fail
          go_roundw
          case rel => exact ⟨k + 1, 0, by omega, rfl, by go_num, HB9, Lib.hid (Or.inl ⟨rfl, HF2.out⟩)⟩
          case measure => simp [intOf]; omega
      · exfalso
        have : hs.all (inI 0 1) = true := List.all_eq_true.2 fun x hx => by
          obtain ⟨i, hi⟩ := List.mem_iff_getElem?.1 hx
          have h1 := (List.getElem?_eq_some_iff.1 hi).1
          exact HFI.out i (by have := HSN.out; omega) x hi
        rw [HNE.out] at this
        cases this
    · clear HE7
      have HBW := Lib.hid (HB0.out.trans (HB.out.mono HB0.out.size))
      by_cases hv : k < sn
      · have e1 : decide ((k : Int) < (sn : Int)) = true := decide_eq_true (by omega)
        go_wp2_with fail
        go_ret2
        exact ⟨rfl, HBW.out⟩
      · have e1 : decide ((k : Int) < (sn : Int)) = false := decide_eq_false (by omega)
        go_wp2_with fail
        go_ret2
        exact ⟨rfl, HBW.out⟩
end Go.Proofs.YtielaaaeecfkoaaGreatDoor

/- The law's comparison of two lists of numbers. -/
namespace Go.Proofs.YtielaaaeecfkoaaGreatDoor
set_option linter.unusedSimpArgs false
set_option linter.unusedVariables false
open Go Go.RowKit Go.Sort Go.BigFrame Go.Shelf
attribute [local go_sem] Oper.semAt_some putAll

theorem take_step {α : Type} {xs ys : List α} {k : Nat} {x y : α} (hx : xs[k]? = some x) (hy : ys[k]? = some y) (h : xs.take k = ys.take k) (e : x = y) : xs.take (k + 1) = ys.take (k + 1) := by
  rw [List.take_add_one, List.take_add_one, h, hx, hy, e]

set_option maxRecDepth 100000 in
set_option maxHeartbeats 1000000 in
theorem Ints_any (xs ys : List Int) (v u : Value) (w : World) (hv : IntsAt w v xs) (hu : IntsAt w u ys) (hl : xs.length < 1000000) (hl2 : ys.length < 1000000) :
    Calls Tryz.prog 19 #[v, u] w fun e w' => e = .returned (.bool (decide (xs = ys))) ∧ Below w.heap.size w w' := by
  obtain ⟨ax, capx, rfl, hx⟩ := hv
  obtain ⟨ay, capy, rfl, hy⟩ := hu
  have HX := Lib.hid hx
  have HY := Lib.hid hy
  have HB := Lib.hid (Below.refl w.heap.size w)
  clear hx hy
  obtain ⟨n, hn⟩ : ∃ n, n = xs.length := ⟨_, rfl⟩
  obtain ⟨m, hm⟩ : ∃ m, m = ys.length := ⟨_, rfl⟩
  rw [← hn] at hl
  rw [← hm] at hl2
  rw [← hn, ← hm]
  have HN := Lib.hid hn
  have HM := Lib.hid hm
  clear hn hm
  have hB : ∃ B : Bool, ((n : Int) == (m : Int)) = B ∧ Hid ((B = true → n = m) ∧ (B = false → xs ≠ ys)) := by
    by_cases e : n = m
    · exact ⟨true, by simp [e], fun _ => e, fun h => by cases h⟩
    · exact ⟨false, by simp; omega, (fun h => by cases h), fun _ h => e (by rw [HN.out, HM.out, h])⟩
  obtain ⟨B, hBe, HBB⟩ := hB
  go_enter Tryz.func19, Tryz.ntmps19
  go_wp2_with fail
  go_loopw [5, 6] (fun f i wr => ∃ (k q : Nat) (D : Bool), k ≤ n ∧ i = .int .i64 k ∧ wr = w.drewN q ∧ f = .bool D ∧ Hid (D = true → n = m ∧ xs.take k = ys.take k) ∧ Hid (D = false → xs ≠ ys)) (fun _ i _ => n - (intOf i).toNat)
  case atStart => exact ⟨0, 0, B, by omega, rfl, rfl, rfl, fun h => ⟨HBB.out.1 h, rfl⟩, HBB.out.2⟩
  case round =>
    obtain ⟨k, q, D, hk, rfl, rfl, rfl, hT, hF⟩ := hrel
    clear HBB hBe
    cases D with
    | false =>
      have HD : Hid (decide (xs = ys) = false) := decide_eq_false (hF.out rfl)
      clear hT hF
      go_wp2_with fail
      go_ret
      exact ⟨by rw [HD.out]; rfl, bdrewN HB.out _⟩
    | true =>
      obtain ⟨hnm, htk⟩ := hT.out rfl
      clear hT hF
      by_cases hlt : k < n
      · obtain ⟨x, hx⟩ : ∃ x, xs[k]? = some x := ⟨_, List.getElem?_eq_getElem (by have := HN.out; omega)⟩
        obtain ⟨y, hy⟩ : ∃ y, ys[k]? = some y := ⟨_, List.getElem?_eq_getElem (by have := HM.out; omega)⟩
        obtain ⟨gx, rfl, -, hcx⟩ := HX.out (fun e => by rw [e] at hx; cases hx)
        obtain ⟨gy, rfl, -, hcy⟩ := HY.out (fun e => by rw [e] at hy; cases hy)
        have x0 := hcx k x hx
        have y0 := hcy k y hy
        have HXX := Lib.hid hx
        have HYY := Lib.hid hy
        have HTK := Lib.hid htk
        have hkm : k < m := by omega
        clear hcx hcy hx hy htk
        go_wp2_with fail
        by_cases hxy : x = y
        · subst hxy
          go_quiet (fail)
          go_wp2_with fail
          go_roundw
          case rel => exact ⟨k + 1, q + nq, true, by omega, by go_num, rfl, by simp, (fun _ => ⟨hnm, take_step HXX.out HYY.out HTK.out rfl⟩), (fun h => by cases h)⟩
          case measure => simp [intOf]; omega
        · have HNE : Hid (xs ≠ ys) := fun e => by have h1 := HXX.out; rw [e, HYY.out] at h1; cases h1; exact hxy rfl
          go_quiet (fail)
          go_wp2_with fail
          go_roundw
          case rel => exact ⟨k + 1, q + nq, false, by omega, by go_num, rfl, by simp [hxy], (fun h => by cases h), (fun _ => HNE.out)⟩
          case measure => simp [intOf]; omega
      · have hkn : k = n := by omega
        have HD : Hid (decide (xs = ys) = true) := decide_eq_true (by
          have h1 := htk
          rw [hkn, HN.out, List.take_length, ← HN.out, hnm, HM.out, List.take_length] at h1
          exact h1)
        subst hkn
        clear htk
        go_wp2_with fail
        go_ret
        exact ⟨by rw [HD.out]; rfl, bdrewN HB.out _⟩

end Go.Proofs.YtielaaaeecfkoaaGreatDoor

/- What Leaves, Forme, Mates and Marked hand back, by the program and by the reference: the same. -/
namespace Go.Proofs.YtielaaaeecfkoaaGreatDoor
set_option linter.unusedSimpArgs false
set_option linter.unusedVariables false
open Go Go.RowKit Go.Sort Go.BigFrame

theorem way_cases (p : Prs) (m : Mkw) : wayErr p m ≠ 0 ∨ (wayErr p m = 0 ∧ errP p = 0 ∧ mkwErr p m = 0 ∧ ∃ f, p.fmts[m.fmt.toNat]? = some f) := by
  by_cases h : wayErr p m = 0
  · refine Or.inr ⟨h, ?_⟩
    unfold wayErr at h
    split at h
    · rename_i he
      obtain ⟨-, h1, -, -⟩ := fine_at he h
      exact ⟨he, h, _, List.getElem?_eq_getElem h1⟩
    · rename_i he
      exact absurd h he
  · exact Or.inl h
/-- What Leaves hands back. -/
def LvsOut (p : Prs) (m : Mkw) (W : World) (v : Value) : Prop :=
  (wayErr p m ≠ 0 ∧ v = .slice none 0 0) ∨ (wayErr p m = 0 ∧ ∃ f g, p.fmts[m.fmt.toNat]? = some f ∧ (leavesW m f).length ≤ 64 ∧ LeavesAt W v (leavesW m f) g)
theorem LvsOut.later {p : Prs} {m : Mkw} {W W' : World} {v : Value} (h : LvsOut p m W v) (hb : Below W.heap.size W W') : LvsOut p m W' v := by
  rcases h with h | ⟨h, f, g, h1, h2, h3⟩
  · exact Or.inl h
  · exact Or.inr ⟨h, f, g, h1, h2, h3.later hb⟩
theorem Leaves_out (p : Prs) (m : Mkw) (vp : Value) (w : World) (hp : PrsAt w.heap.size w vp p) :
    Calls Tryz.prog 14 #[vp, mkwV m] w fun e w' => (∃ v, e = .returned (.tuple #[v, .int .i64 (wayErr p m)]) ∧ LvsOut p m w' v) ∧ Below w.heap.size w w' := by
  rcases way_cases p m with h | ⟨h, he, hm, f, hf⟩
  · exact (Leaves_err p m vp w hp h).mono fun e w' ⟨h1, h2⟩ => ⟨⟨_, h1, Or.inl ⟨h, rfl⟩⟩, h2⟩
  · refine (Leaves2_any p m vp w hp he hm).mono ?_
    rintro e w' ⟨⟨f', v, g, h1, rfl, h3, h4⟩, h5⟩
    exact ⟨⟨v, by rw [h], Or.inr ⟨h, f', g, h1, (fine_of he hm h1).count.2, h3⟩⟩, h5⟩
theorem refLeaves_out (p : Prs) (m : Mkw) (vp : Value) (w : World) (hp : PrsAt w.heap.size w vp p) :
    Calls Tryz.prog 15 #[vp, mkwV m] w fun e w' => (∃ v, e = .returned (.tuple #[v, .int .i64 (wayErr p m)]) ∧ LvsOut p m w' v) ∧ Below w.heap.size w w' := by
  rcases way_cases p m with h | ⟨h, he, hm, f, hf⟩
  · exact (refLeaves_err p m vp w hp h).mono fun e w' ⟨h1, h2⟩ => ⟨⟨_, h1, Or.inl ⟨h, rfl⟩⟩, h2⟩
  · refine (refLeaves2_any p m f vp w hp he hm hf).mono ?_
    rintro e w' ⟨⟨v, g, rfl, h3⟩, h5⟩
    exact ⟨⟨v, by rw [h], Or.inr ⟨h, f, g, hf, (fine_of he hm hf).count.2, h3⟩⟩, h5⟩
theorem refSame_out (p : Prs) (m : Mkw) (v u : Value) (w : World) (hv : LvsOut p m w v) (hu : LvsOut p m w u) :
    Calls Tryz.prog 16 #[v, u] w fun e w' => e = .returned (.bool true) ∧ Below w.heap.size w w' := by
  rcases hv with ⟨h, rfl⟩ | ⟨h, f, g, h1, h2, h3⟩
  · rcases hu with ⟨h', rfl⟩ | ⟨h', _⟩
    · exact refSame_nil w
    · exact absurd h' h
  · rcases hu with ⟨h', -⟩ | ⟨h', f', g', h1', h2', h3'⟩
    · exact absurd h h'
    · obtain rfl : f' = f := Option.some.inj (h1'.symm.trans h1)
      exact refSame_any _ v u g g' w h3 h3' (by omega)

theorem ints_of_rowQ {W : World} {base : Nat} {v : Value} {e : TypeId} {xs : List Int} (h : W.ownsRow base e 1 v xs.length (intZs xs)) : IntsAt W v xs := by
  rcases h.2 with ⟨rfl, h0⟩ | ⟨g, cap, cur, rfl, hb, hg, rest⟩
  · exact ⟨none, 0, by rw [h0], fun hne => absurd (List.length_eq_zero_iff.1 h0) hne⟩
  · refine ⟨_, cap, rfl, fun _ => ⟨g, rfl, blk_lt hg, fun i x hx => ?_⟩⟩
    have hc := h.cells (g := g) (by simp [Value.ownBlock])
    have := hc i (.int .i64 x) (by rw [intZs, List.getElem?_map, hx]; rfl)
    rwa [add_offi] at this
theorem ints_nil (W : World) : IntsAt W (.slice none 0 0) [] := ⟨none, 0, rfl, fun h => absurd rfl h⟩
/-- What Forme hands back. -/
def fmZ (p : Prs) (m : Mkw) (sh : Int) : Int := if wayErr p m ≠ 0 then wayErr p m else if inB 0 (m.sheets - 1) sh = true then 0 else 4
def fmX (p : Prs) (m : Mkw) (sh : Int) (inner : Bool) : List Int := if fmZ p m sh = 0 then (match p.fmts[m.fmt.toNat]? with | some f => formeR (leavesW m f) (rowsF (fdsB f.folds)) (colsF (fdsB f.folds)) sh.toNat inner | none => []) else []
theorem fm_bad {p : Prs} {m : Mkw} {sh : Int} {inner : Bool} (h : wayErr p m ≠ 0) : fmZ p m sh = wayErr p m ∧ fmX p m sh inner = [] := by
  have h1 : fmZ p m sh = wayErr p m := if_pos h
  exact ⟨h1, if_neg (by rw [h1]; exact h)⟩
theorem fm_none {p : Prs} {m : Mkw} {sh : Int} {inner : Bool} (h : wayErr p m = 0) (hs : inB 0 (m.sheets - 1) sh = false) : fmZ p m sh = 4 ∧ fmX p m sh inner = [] := by
  have h1 : fmZ p m sh = 4 := by unfold fmZ; rw [if_neg (by rw [h]; simp), if_neg (by rw [hs]; simp)]
  exact ⟨h1, if_neg (by rw [h1]; simp)⟩
theorem fm_good {p : Prs} {m : Mkw} {f : Fmt} {sh : Int} {inner : Bool} (h : wayErr p m = 0) (hs : inB 0 (m.sheets - 1) sh = true) (hf : p.fmts[m.fmt.toNat]? = some f) :
    fmZ p m sh = 0 ∧ fmX p m sh inner = formeR (leavesW m f) (rowsF (fdsB f.folds)) (colsF (fdsB f.folds)) sh.toNat inner := by
  have h1 : fmZ p m sh = 0 := by unfold fmZ; rw [if_neg (by rw [h]; simp), if_pos hs]
  exact ⟨h1, by unfold fmX; rw [if_pos h1, hf]⟩
theorem fmX_len (p : Prs) (m : Mkw) (sh : Int) (inner : Bool) : (fmX p m sh inner).length < 1000000 := by
  rcases way_cases p m with h | ⟨h, he, hm, f, hf⟩
  · rw [(fm_bad h).2]; simp
  · cases hs : inB 0 (m.sheets - 1) sh with
    | false => rw [(fm_none h hs).2]; simp
    | true =>
      rw [(fm_good h hs hf).2, formeR_is]
      have h1 := pows_all _ (fine_of he hm hf).mem.1
      simp only [pows, List.mem_cons, List.not_mem_nil, or_false] at h1
      have := fA_len (leavesW m f) sh.toNat inner (colsF (fdsB f.folds)) (rowsF (fdsB f.folds)) (by omega)
      omega
theorem Forme_out (p : Prs) (m : Mkw) (sh : Int) (inner : Bool) (vp : Value) (w : World) (hp : PrsAt w.heap.size w vp p) :
    Calls Tryz.prog 17 #[vp, mkwV m, .int .i64 sh, .bool inner] w fun e w' => (∃ v, e = .returned (.tuple #[v, .int .i64 (fmZ p m sh)]) ∧ IntsAt w' v (fmX p m sh inner)) ∧ Below w.heap.size w w' := by
  rcases way_cases p m with h | ⟨h, he, hm, f, hf⟩
  · rw [(fm_bad (inner := inner) h).1, (fm_bad (inner := inner) h).2]
    exact (Forme_err p m sh inner vp w hp h).mono fun e w' ⟨h1, h2⟩ => ⟨⟨_, h1, ints_nil _⟩, h2⟩
  · cases hs : inB 0 (m.sheets - 1) sh with
    | false =>
      rw [(fm_none (inner := inner) h hs).1, (fm_none (inner := inner) h hs).2]
      exact (Forme_none p m f _ sh inner vp w hp he hm hf rfl hs).mono fun e w' ⟨h1, h2⟩ => ⟨⟨_, h1, ints_nil _⟩, h2⟩
    | true =>
      rw [(fm_good (inner := inner) h hs hf).1, (fm_good (inner := inner) h hs hf).2]
      have hb : 0 ≤ sh ∧ sh ≤ m.sheets - 1 := by simpa [inB] using hs
      obtain ⟨s, rfl⟩ : ∃ s : Nat, sh = s := ⟨sh.toNat, by omega⟩
      rw [Int.toNat_natCast, ← (fine_of he hm hf).forme_same (by omega)]
      refine (Forme_any p m f _ s inner vp w hp he hm hf rfl (by omega)).mono ?_
      rintro e w' ⟨⟨v, rfl, h2⟩, h3⟩
      exact ⟨⟨v, rfl, ints_of_rowQ h2⟩, h3⟩
theorem refForme_out (p : Prs) (m : Mkw) (sh : Int) (inner : Bool) (vp : Value) (w : World) (hp : PrsAt w.heap.size w vp p) :
    Calls Tryz.prog 18 #[vp, mkwV m, .int .i64 sh, .bool inner] w fun e w' => (∃ v, e = .returned (.tuple #[v, .int .i64 (fmZ p m sh)]) ∧ IntsAt w' v (fmX p m sh inner)) ∧ Below w.heap.size w w' := by
  rcases way_cases p m with h | ⟨h, he, hm, f, hf⟩
  · rw [(fm_bad (inner := inner) h).1, (fm_bad (inner := inner) h).2]
    exact (refForme_err p m sh inner vp w hp h).mono fun e w' ⟨h1, h2⟩ => ⟨⟨_, h1, ints_nil _⟩, h2⟩
  · cases hs : inB 0 (m.sheets - 1) sh with
    | false =>
      rw [(fm_none (inner := inner) h hs).1, (fm_none (inner := inner) h hs).2]
      exact (refForme_none p m f sh inner vp w hp he hm hf hs).mono fun e w' ⟨h1, h2⟩ => ⟨⟨_, h1, ints_nil _⟩, h2⟩
    | true =>
      rw [(fm_good (inner := inner) h hs hf).1, (fm_good (inner := inner) h hs hf).2]
      have hb : 0 ≤ sh ∧ sh ≤ m.sheets - 1 := by simpa [inB] using hs
      obtain ⟨s, rfl⟩ : ∃ s : Nat, sh = s := ⟨sh.toNat, by omega⟩
      rw [Int.toNat_natCast]
      refine (refForme2_any p m f s inner vp w hp he hm hf (by omega)).mono ?_
      rintro e w' ⟨⟨v, rfl, h2⟩, h3⟩
      exact ⟨⟨v, rfl, ints_of_rowQ h2⟩, h3⟩

/-- What Mates hands back: numbers, the conjugate leaf, the error. -/
def maO (p : Prs) (m : Mkw) (lf : Int) : List Int × Int × Int := if wayErr p m ≠ 0 then ([], 0, wayErr p m) else match p.fmts[m.fmt.toNat]? with
  | some f => if inI 0 (((leavesW m f).length : Int) - 1) lf = true then ((matesR (leavesW m f) lf.toNat).map fun (n : Nat) => (n : Int), (leavesW m f).length - 1 - lf, 0) else ([], 0, 4)
  | none => ([], 0, 0)
theorem ma_bad {p : Prs} {m : Mkw} {lf : Int} (h : wayErr p m ≠ 0) : maO p m lf = ([], 0, wayErr p m) := if_pos h
theorem ma_none {p : Prs} {m : Mkw} {f : Fmt} {lf : Int} (h : wayErr p m = 0) (hf : p.fmts[m.fmt.toNat]? = some f) (hs : inI 0 (((leavesW m f).length : Int) - 1) lf = false) : maO p m lf = ([], 0, 4) := by
  unfold maO
  rw [if_neg (by rw [h]; simp), hf]
  simp only [hs]
  rfl
theorem ma_good {p : Prs} {m : Mkw} {f : Fmt} {lf : Int} (h : wayErr p m = 0) (hf : p.fmts[m.fmt.toNat]? = some f) (hs : inI 0 (((leavesW m f).length : Int) - 1) lf = true) : maO p m lf = ((matesR (leavesW m f) lf.toNat).map fun (n : Nat) => (n : Int), (leavesW m f).length - 1 - lf, 0) := by
  unfold maO
  rw [if_neg (by rw [h]; simp), hf]
  simp only [hs]
  rfl
theorem maO_len (p : Prs) (m : Mkw) (lf : Int) : (maO p m lf).1.length < 1000000 := by
  rcases way_cases p m with h | ⟨h, he, hm, f, hf⟩
  · rw [ma_bad h]; simp
  · cases hs : inI 0 (((leavesW m f).length : Int) - 1) lf with
    | false => rw [ma_none h hf hs]; simp
    | true =>
      rw [ma_good h hf hs]
      have := (fine_of he hm hf).count.2
      have h2 := range_filter_len (mateR (leavesW m f) lf.toNat) (leavesW m f).length
      rw [← matesR_is] at h2
      simp only [List.length_map]
      omega
theorem Mates_out (p : Prs) (m : Mkw) (lf : Int) (vp : Value) (w : World) (hp : PrsAt w.heap.size w vp p) :
    Calls Tryz.prog 20 #[vp, mkwV m, .int .i64 lf] w fun e w' => (∃ v, e = .returned (.tuple #[v, .int .i64 (maO p m lf).2.1, .int .i64 (maO p m lf).2.2]) ∧ IntsAt w' v (maO p m lf).1) ∧ Below w.heap.size w w' := by
  rcases way_cases p m with h | ⟨h, he, hm, f, hf⟩
  · rw [ma_bad h]
    exact (Mates_err p m lf vp w hp h).mono fun e w' ⟨h1, h2⟩ => ⟨⟨_, h1, ints_nil _⟩, h2⟩
  · cases hs : inI 0 (((leavesW m f).length : Int) - 1) lf with
    | false =>
      rw [ma_none h hf hs]
      exact (Mates_none p m f _ lf vp w hp he hm hf rfl (by rw [← inI_inB]; exact hs)).mono fun e w' ⟨h1, h2⟩ => ⟨⟨_, h1, ints_nil _⟩, h2⟩
    | true =>
      rw [ma_good h hf hs]
      have hb : 0 ≤ lf ∧ lf ≤ ((leavesW m f).length : Int) - 1 := by simpa [inI] using hs
      obtain ⟨s, rfl⟩ : ∃ s : Nat, lf = s := ⟨lf.toNat, by omega⟩
      have hc := (fine_of he hm hf).count.2
      rw [Int.toNat_natCast, ← mates_same (fine_of he hm hf).places]
      refine (Mates_any p m f (leavesW m f) s vp w hp he hm hf rfl (by omega) (by omega)).mono ?_
      rintro e w' ⟨⟨v, rfl, h2⟩, h3⟩
      refine ⟨⟨v, ?_, h2⟩, h3⟩
      rw [show (((leavesW m f).length - 1 - s : Nat) : Int) = ((leavesW m f).length : Int) - 1 - (s : Int) by omega]
theorem refMates_out (p : Prs) (m : Mkw) (lf : Int) (vp : Value) (w : World) (hp : PrsAt w.heap.size w vp p) :
    Calls Tryz.prog 21 #[vp, mkwV m, .int .i64 lf] w fun e w' => (∃ v, e = .returned (.tuple #[v, .int .i64 (maO p m lf).2.1, .int .i64 (maO p m lf).2.2]) ∧ IntsAt w' v (maO p m lf).1) ∧ Below w.heap.size w w' := by
  rcases way_cases p m with h | ⟨h, he, hm, f, hf⟩
  · rw [ma_bad h]
    exact (refMates_err p m lf vp w hp h).mono fun e w' ⟨h1, h2⟩ => ⟨⟨_, h1, ints_nil _⟩, h2⟩
  · have key := refMates2_any p m f lf vp w hp he hm hf
    cases hs : inI 0 (((leavesW m f).length : Int) - 1) lf with
    | false =>
      rw [ma_none h hf hs]
      rw [hs] at key
      exact key.mono fun e w' ⟨⟨v, h1, _⟩, h2⟩ => ⟨⟨.slice none 0 0, h1, ints_nil _⟩, h2⟩
    | true =>
      rw [ma_good h hf hs]
      rw [hs] at key
      exact key.mono fun e w' ⟨⟨v, h1, h3⟩, h2⟩ => ⟨⟨v, h1, h3 rfl⟩, h2⟩

/-- What Marked hands back. -/
def mkO (p : Prs) (m : Mkw) (hs : List Int) : List Int × Int := if wayErr p m ≠ 0 then ([], wayErr p m) else match p.fmts[m.fmt.toNat]? with
  | some f => if (hs.length : Int) = m.sheets then (if hs.all (inI 0 1) = true then ((marksF (leavesW m f) (colsF (fdsB f.folds)) (rowsF (fdsB f.folds)) (hs.map Int.toNat)).map fun (n : Nat) => (n : Int), 0) else ([], 7)) else ([], 3)
  | none => ([], 0)
theorem mk_bad {p : Prs} {m : Mkw} {hs : List Int} (h : wayErr p m ≠ 0) : mkO p m hs = ([], wayErr p m) := if_pos h
theorem mk_rest {p : Prs} {m : Mkw} {f : Fmt} {hs : List Int} (h : wayErr p m = 0) (hf : p.fmts[m.fmt.toNat]? = some f) : mkO p m hs = if (hs.length : Int) = m.sheets then (if hs.all (inI 0 1) = true then ((marksF (leavesW m f) (colsF (fdsB f.folds)) (rowsF (fdsB f.folds)) (hs.map Int.toNat)).map fun (n : Nat) => (n : Int), 0) else ([], 7)) else ([], 3) := by
  unfold mkO
  rw [if_neg (by rw [h]; simp), hf]
theorem all01 {hs : List Int} (h : hs.all (inI 0 1) = true) : ((hs.map Int.toNat).map fun (n : Nat) => (n : Int)) = hs ∧ ∀ n ∈ hs.map Int.toNat, n ≤ 1 := by
  have h1 : ∀ x ∈ hs, 0 ≤ x ∧ x ≤ 1 := fun x hx => by simpa [inI] using List.all_eq_true.1 h x hx
  constructor
  · rw [List.map_map]
    conv => rhs; rw [← List.map_id hs]
    refine List.map_congr_left fun x hx => ?_
    have := h1 x hx
    show ((x.toNat : Nat) : Int) = x
    omega
  · intro n hn
    obtain ⟨x, hx, rfl⟩ := List.mem_map.1 hn
    have := h1 x hx
    omega
theorem mkO_len (p : Prs) (m : Mkw) (hs : List Int) : (mkO p m hs).1.length < 1000000 := by
  rcases way_cases p m with h | ⟨h, he, hm, f, hf⟩
  · rw [mk_bad h]; simp
  · rw [mk_rest h hf]
    split
    · split
      · have := (fine_of he hm hf).count.2
        have h2 := range_filter_len (markAt (leavesW m f) (colsF (fdsB f.folds)) (rowsF (fdsB f.folds)) (hs.map Int.toNat)) (leavesW m f).length
        simp only [List.length_map]
        unfold marksF
        omega
      · simp
    · simp
theorem Marked_out (p : Prs) (m : Mkw) (hs : List Int) (v vp : Value) (w : World) (hp : PrsAt w.heap.size w vp p) (hv : IntsO w v hs) :
    Calls Tryz.prog 22 #[vp, mkwV m, v] w fun e w' => (∃ v', e = .returned (.tuple #[v', .int .i64 (mkO p m hs).2]) ∧ IntsAt w' v' (mkO p m hs).1) ∧ Below w.heap.size w w' := by
  have hv0 := hv
  obtain ⟨va, vc, rfl, -⟩ := hv
  rcases way_cases p m with h | ⟨h, he, hm, f, hf⟩
  · rw [mk_bad h]
    exact (Marked_err p m va _ vc vp w hp h).mono fun e w' ⟨h1, h2⟩ => ⟨⟨_, h1, ints_nil _⟩, h2⟩
  · rw [mk_rest h hf]
    by_cases hl : (hs.length : Int) = m.sheets
    · rw [if_pos hl]
      by_cases ha : hs.all (inI 0 1) = true
      · rw [if_pos ha]
        obtain ⟨h1, h2⟩ := all01 ha
        refine (Marked_anyO p m f _ (hs.map Int.toNat) _ vp w hp he hm hf rfl (by rw [h1]; exact hv0) (by rw [List.length_map]; omega) h2).mono ?_
        rintro e w' ⟨⟨v, rfl, h2⟩, h3⟩
        exact ⟨⟨v, rfl, h2⟩, h3⟩
      · rw [if_neg ha]
        exact (Marked_rangeO p m f _ hs _ vp w hp he hm hf rfl hv0 hl (by simpa using ha)).mono fun e w' ⟨h1, h2⟩ => ⟨⟨_, h1, ints_nil _⟩, h2⟩
    · rw [if_neg hl]
      exact (Marked_long p m f _ va _ vc vp w hp he hm hf rfl hl).mono fun e w' ⟨h1, h2⟩ => ⟨⟨_, h1, ints_nil _⟩, h2⟩
theorem refMarked_out (p : Prs) (m : Mkw) (hs : List Int) (v vp : Value) (w : World) (hp : PrsAt w.heap.size w vp p) (hv : IntsO w v hs) :
    Calls Tryz.prog 23 #[vp, mkwV m, v] w fun e w' => (∃ v', e = .returned (.tuple #[v', .int .i64 (mkO p m hs).2]) ∧ IntsAt w' v' (mkO p m hs).1) ∧ Below w.heap.size w w' := by
  have hv0 := hv
  obtain ⟨va, vc, rfl, -⟩ := hv
  rcases way_cases p m with h | ⟨h, he, hm, f, hf⟩
  · rw [mk_bad h]
    exact (refMarked_err p m va _ vc vp w hp h).mono fun e w' ⟨h1, h2⟩ => ⟨⟨_, h1, ints_nil _⟩, h2⟩
  · rw [mk_rest h hf]
    by_cases hl : (hs.length : Int) = m.sheets
    · rw [if_pos hl]
      by_cases ha : hs.all (inI 0 1) = true
      · rw [if_pos ha]
        obtain ⟨h1, h2⟩ := all01 ha
        refine (refMarked2_any p m f (hs.map Int.toNat) _ vp w hp he hm hf (by rw [h1]; exact hv0) (by rw [List.length_map]; omega) h2).mono ?_
        rintro e w' ⟨⟨v, rfl, h2⟩, h3⟩
        exact ⟨⟨v, rfl, h2⟩, h3⟩
      · rw [if_neg ha]
        exact (refMarked_range p m f hs _ vp w hp he hm hf hv0 hl (by simpa using ha)).mono fun e w' ⟨h1, h2⟩ => ⟨⟨_, h1, ints_nil _⟩, h2⟩
    · rw [if_neg hl]
      exact (refMarked_long p m f va _ vc vp w hp he hm hf hl).mono fun e w' ⟨h1, h2⟩ => ⟨⟨_, h1, ints_nil _⟩, h2⟩
theorem Ints_same (xs : List Int) (v u : Value) (w : World) (hv : IntsAt w v xs) (hu : IntsAt w u xs) (hl : xs.length < 1000000) :
    Calls Tryz.prog 19 #[v, u] w fun e w' => e = .returned (.bool true) ∧ Below w.heap.size w w' := by
  refine (Ints_any xs xs v u w hv hu hl hl).mono fun e w' ⟨h1, h2⟩ => ⟨?_, h2⟩
  rw [h1, decide_eq_true (rfl : xs = xs)]
end Go.Proofs.YtielaaaeecfkoaaGreatDoor

/- awake_any2, worked out: pieces 0 to 3. -/
namespace Go.Proofs.YtielaaaeecfkoaaGreatDoor
set_option linter.unusedSimpArgs false
set_option linter.unusedVariables false
open Go Go.RowKit
noncomputable section
def yfA0 : Fr := ⟨.leaf, (Tryz.f13).ntmps, [], 1⟩
def yfH0 (t : TypeId) : H := h00 tab64 t
def yfA1 : Fr := (Fr.mk (Tr.node Tr.leaf (some (V.lit (Value.bool Bool.false))) Tr.leaf) 194 [] 1)
def yfH1 (t : TypeId) : H := ⟨40, 40, 40, .node Tr.leaf (some (.cells tab64 t)) Tr.leaf⟩
theorem yfP0 (t : TypeId) : evGc Tryz.prog 100000 (piece 0 (bodyOf Tryz.f13)) yfA0 (yfH0 t) [0] = .ok (.normal, yfA1, yfH1 t) := by kernel_rfl
def yfA2 : Fr := (Fr.mk (Tr.node (Tr.node Tr.leaf (some (V.ptr 45 0)) (Tr.node (Tr.node Tr.leaf none (Tr.node Tr.leaf (some (V.agg [(V.slc 41 0 3 3 Bool.false), (V.slc 44 0 1 1 Bool.false), (V.lit (Value.int IntKind.i64 (Int.ofNat 10))), (V.lit (Value.int IntKind.i64 (Int.ofNat 2)))])) Tr.leaf)) none Tr.leaf)) (some (V.lit (Value.bool Bool.false))) Tr.leaf) 194 [] 1)
def yfH2 (t : TypeId) : H := ⟨46, 40, 40, .node (Tr.node Tr.leaf none (Tr.node (Tr.node Tr.leaf none (Tr.node (Tr.node Tr.leaf (some (Ob.cells [(V.lit (Value.string (ByteArray.mk (Array.mk [(UInt8.ofNat 102), (UInt8.ofNat 111), (UInt8.ofNat 108), (UInt8.ofNat 105), (UInt8.ofNat 111)])))), (V.lit (Value.string (ByteArray.mk (Array.mk [(UInt8.ofNat 120)])))), (V.lit (Value.string (ByteArray.mk (Array.mk [(UInt8.ofNat 113), (UInt8.ofNat 117), (UInt8.ofNat 97), (UInt8.ofNat 114), (UInt8.ofNat 116), (UInt8.ofNat 111)])))), (V.lit (Value.string (ByteArray.mk (Array.mk [(UInt8.ofNat 120), (UInt8.ofNat 121)])))), (V.lit (Value.string (ByteArray.mk (Array.mk [(UInt8.ofNat 111), (UInt8.ofNat 99), (UInt8.ofNat 116), (UInt8.ofNat 97), (UInt8.ofNat 118), (UInt8.ofNat 111)])))), (V.lit (Value.string (ByteArray.mk (Array.mk [(UInt8.ofNat 120), (UInt8.ofNat 121), (UInt8.ofNat 120)]))))] 62)) Tr.leaf) none Tr.leaf)) none (Tr.node Tr.leaf none (Tr.node (Tr.node Tr.leaf (some (Ob.cells [(V.slc 41 0 3 3 Bool.false), (V.slc 44 0 1 1 Bool.false), (V.lit (Value.int IntKind.i64 (Int.ofNat 10))), (V.lit (Value.int IntKind.i64 (Int.ofNat 2)))] 25)) Tr.leaf) none Tr.leaf)))) (some (.cells tab64 t)) (Tr.node (Tr.node Tr.leaf none (Tr.node Tr.leaf none (Tr.node (Tr.node Tr.leaf (some (Ob.cells [(V.lit (Value.string (ByteArray.mk (Array.mk [(UInt8.ofNat 112), (UInt8.ofNat 111), (UInt8.ofNat 116)])))), (V.lit (Value.int IntKind.i64 (Int.ofNat 400))), (V.lit (Value.int IntKind.i64 (Int.ofNat 410))), (V.lit (Value.int IntKind.i64 (Int.ofNat 300))), (V.lit (Value.int IntKind.i64 (Int.ofNat 306)))] 75)) Tr.leaf) none Tr.leaf))) none Tr.leaf)⟩
theorem yfP1 (t : TypeId) : evGc Tryz.prog 100000 (piece 1 (bodyOf Tryz.f13)) yfA1 (yfH1 t) [0, 41, 44, 45] = .ok (.normal, yfA2, yfH2 t) := by kernel_rfl
def yfA3 : Fr := (Fr.mk (Tr.node (Tr.node (Tr.node (Tr.node (Tr.node (Tr.node Tr.leaf (some (V.lit (Value.int IntKind.i64 (Int.ofNat 0)))) Tr.leaf) none Tr.leaf) none Tr.leaf) (some (V.lit (Value.int IntKind.i64 (Int.ofNat 0)))) (Tr.node Tr.leaf none (Tr.node Tr.leaf (some (V.agg [(V.slc 41 0 3 3 Bool.false), (V.slc 44 0 1 1 Bool.false), (V.lit (Value.int IntKind.i64 (Int.ofNat 10))), (V.lit (Value.int IntKind.i64 (Int.ofNat 2)))])) Tr.leaf))) (some (V.ptr 45 0)) (Tr.node (Tr.node Tr.leaf none (Tr.node Tr.leaf (some (V.agg [(V.slc 41 0 3 3 Bool.false), (V.slc 44 0 1 1 Bool.false), (V.lit (Value.int IntKind.i64 (Int.ofNat 10))), (V.lit (Value.int IntKind.i64 (Int.ofNat 2)))])) Tr.leaf)) none (Tr.node Tr.leaf none (Tr.node Tr.leaf (some (V.tup [(V.slc 130 0 4 4 Bool.true), (V.lit (Value.int IntKind.i64 (Int.ofNat 0)))])) Tr.leaf)))) (some (V.lit (Value.bool Bool.false))) (Tr.node (Tr.node Tr.leaf none (Tr.node Tr.leaf none (Tr.node Tr.leaf (some (V.agg [(V.lit (Value.int IntKind.i64 (Int.ofNat 1))), (V.lit (Value.int IntKind.i64 (Int.ofNat 0))), (V.lit (Value.int IntKind.i64 (Int.ofNat 1))), (V.lit (Value.bool Bool.false))])) Tr.leaf))) (some (V.slc 130 0 4 4 Bool.true)) (Tr.node (Tr.node Tr.leaf none (Tr.node Tr.leaf (some (V.tup [(V.slc 130 0 4 4 Bool.true), (V.lit (Value.int IntKind.i64 (Int.ofNat 0)))])) Tr.leaf)) none (Tr.node Tr.leaf none (Tr.node Tr.leaf (some (V.slc 130 0 4 4 Bool.true)) Tr.leaf))))) 194 [] 1)
def yfH3 (t : TypeId) : H := ⟨132, 40, 40, .node (Tr.node Tr.leaf none (Tr.node (Tr.node Tr.leaf none (Tr.node (Tr.node Tr.leaf (some (Ob.cells [(V.lit (Value.string (ByteArray.mk (Array.mk [(UInt8.ofNat 102), (UInt8.ofNat 111), (UInt8.ofNat 108), (UInt8.ofNat 105), (UInt8.ofNat 111)])))), (V.lit (Value.string (ByteArray.mk (Array.mk [(UInt8.ofNat 120)])))), (V.lit (Value.string (ByteArray.mk (Array.mk [(UInt8.ofNat 113), (UInt8.ofNat 117), (UInt8.ofNat 97), (UInt8.ofNat 114), (UInt8.ofNat 116), (UInt8.ofNat 111)])))), (V.lit (Value.string (ByteArray.mk (Array.mk [(UInt8.ofNat 120), (UInt8.ofNat 121)])))), (V.lit (Value.string (ByteArray.mk (Array.mk [(UInt8.ofNat 111), (UInt8.ofNat 99), (UInt8.ofNat 116), (UInt8.ofNat 97), (UInt8.ofNat 118), (UInt8.ofNat 111)])))), (V.lit (Value.string (ByteArray.mk (Array.mk [(UInt8.ofNat 120), (UInt8.ofNat 121), (UInt8.ofNat 120)]))))] 62)) Tr.leaf) none Tr.leaf)) none (Tr.node Tr.leaf none (Tr.node (Tr.node Tr.leaf (some (Ob.cells [(V.slc 41 0 3 3 Bool.false), (V.slc 44 0 1 1 Bool.false), (V.lit (Value.int IntKind.i64 (Int.ofNat 10))), (V.lit (Value.int IntKind.i64 (Int.ofNat 2)))] 25)) Tr.leaf) none Tr.leaf)))) (some (.cells tab64 t)) (Tr.node (Tr.node Tr.leaf none (Tr.node Tr.leaf none (Tr.node (Tr.node Tr.leaf (some (Ob.cells [(V.lit (Value.string (ByteArray.mk (Array.mk [(UInt8.ofNat 112), (UInt8.ofNat 111), (UInt8.ofNat 116)])))), (V.lit (Value.int IntKind.i64 (Int.ofNat 400))), (V.lit (Value.int IntKind.i64 (Int.ofNat 410))), (V.lit (Value.int IntKind.i64 (Int.ofNat 300))), (V.lit (Value.int IntKind.i64 (Int.ofNat 306)))] 75)) Tr.leaf) none Tr.leaf))) none (Tr.node (Tr.node (Tr.node (Tr.node (Tr.node (Tr.node Tr.leaf (some (Ob.cells [(V.lit (Value.int IntKind.i64 (Int.ofNat 0))), (V.lit (Value.int IntKind.i64 (Int.ofNat 0))), (V.lit (Value.int IntKind.i64 (Int.ofNat 0))), (V.lit (Value.bool Bool.false)), (V.lit (Value.bool Bool.false)), (V.lit (Value.int IntKind.i64 (Int.ofNat 0))), (V.lit (Value.int IntKind.i64 (Int.ofNat 1))), (V.lit (Value.int IntKind.i64 (Int.ofNat 0))), (V.lit (Value.bool Bool.true)), (V.lit (Value.bool Bool.true)), (V.lit (Value.int IntKind.i64 (Int.ofNat 0))), (V.lit (Value.int IntKind.i64 (Int.ofNat 1))), (V.lit (Value.int IntKind.i64 (Int.ofNat 1))), (V.lit (Value.bool Bool.false)), (V.lit (Value.bool Bool.true)), (V.lit (Value.int IntKind.i64 (Int.ofNat 0))), (V.lit (Value.int IntKind.i64 (Int.ofNat 0))), (V.lit (Value.int IntKind.i64 (Int.ofNat 1))), (V.lit (Value.bool Bool.true)), (V.lit (Value.bool Bool.false))] 57)) Tr.leaf) none Tr.leaf) none Tr.leaf) none Tr.leaf) none Tr.leaf) none Tr.leaf))⟩
theorem yfP2 (t : TypeId) : evGc Tryz.prog 100000 (piece 2 (bodyOf Tryz.f13)) yfA2 (yfH2 t) [0, 41, 44, 45, 130] = .ok (.normal, yfA3, yfH3 t) := by kernel_rfl
def yfA4 : Fr := (Fr.mk (Tr.node (Tr.node (Tr.node (Tr.node (Tr.node (Tr.node Tr.leaf (some (V.lit (Value.int IntKind.i64 (Int.ofNat 0)))) Tr.leaf) none Tr.leaf) none Tr.leaf) (some (V.lit (Value.int IntKind.i64 (Int.ofNat 0)))) (Tr.node (Tr.node (Tr.node Tr.leaf (some (V.tup [(V.slc 234 0 4 4 Bool.true), (V.lit (Value.int IntKind.i64 (Int.ofNat 0)))])) Tr.leaf) none Tr.leaf) none (Tr.node Tr.leaf (some (V.agg [(V.slc 41 0 3 3 Bool.false), (V.slc 44 0 1 1 Bool.false), (V.lit (Value.int IntKind.i64 (Int.ofNat 10))), (V.lit (Value.int IntKind.i64 (Int.ofNat 2)))])) Tr.leaf))) (some (V.ptr 45 0)) (Tr.node (Tr.node (Tr.node (Tr.node Tr.leaf (some (V.agg [(V.slc 41 0 3 3 Bool.false), (V.slc 44 0 1 1 Bool.false), (V.lit (Value.int IntKind.i64 (Int.ofNat 10))), (V.lit (Value.int IntKind.i64 (Int.ofNat 2)))])) Tr.leaf) none Tr.leaf) none (Tr.node Tr.leaf (some (V.agg [(V.slc 41 0 3 3 Bool.false), (V.slc 44 0 1 1 Bool.false), (V.lit (Value.int IntKind.i64 (Int.ofNat 10))), (V.lit (Value.int IntKind.i64 (Int.ofNat 2)))])) Tr.leaf)) (some (V.lit (Value.int IntKind.i64 (Int.ofNat 0)))) (Tr.node (Tr.node (Tr.node Tr.leaf (some (V.lit (Value.int IntKind.i64 (Int.ofNat 0)))) Tr.leaf) none Tr.leaf) none (Tr.node Tr.leaf (some (V.tup [(V.slc 130 0 4 4 Bool.true), (V.lit (Value.int IntKind.i64 (Int.ofNat 0)))])) Tr.leaf)))) (some (V.lit (Value.bool Bool.false))) (Tr.node (Tr.node (Tr.node (Tr.node (Tr.node Tr.leaf (some (V.tup [(V.slc 234 0 4 4 Bool.true), (V.lit (Value.int IntKind.i64 (Int.ofNat 0)))])) Tr.leaf) none Tr.leaf) none Tr.leaf) (some (V.slc 234 0 4 4 Bool.true)) (Tr.node (Tr.node (Tr.node Tr.leaf (some (V.slc 234 0 4 4 Bool.true)) Tr.leaf) none Tr.leaf) none (Tr.node Tr.leaf (some (V.agg [(V.lit (Value.int IntKind.i64 (Int.ofNat 1))), (V.lit (Value.int IntKind.i64 (Int.ofNat 0))), (V.lit (Value.int IntKind.i64 (Int.ofNat 1))), (V.lit (Value.bool Bool.false))])) Tr.leaf))) (some (V.slc 130 0 4 4 Bool.true)) (Tr.node (Tr.node (Tr.node (Tr.node Tr.leaf (some (V.agg [(V.lit (Value.int IntKind.i64 (Int.ofNat 1))), (V.lit (Value.int IntKind.i64 (Int.ofNat 0))), (V.lit (Value.int IntKind.i64 (Int.ofNat 1))), (V.lit (Value.bool Bool.false))])) Tr.leaf) none Tr.leaf) none (Tr.node Tr.leaf (some (V.tup [(V.slc 130 0 4 4 Bool.true), (V.lit (Value.int IntKind.i64 (Int.ofNat 0)))])) Tr.leaf)) none (Tr.node Tr.leaf none (Tr.node Tr.leaf (some (V.slc 130 0 4 4 Bool.true)) Tr.leaf))))) 194 [] 1)
def yfH4 (t : TypeId) : H := ⟨235, 40, 40, .node (Tr.node Tr.leaf none (Tr.node (Tr.node Tr.leaf none (Tr.node (Tr.node Tr.leaf (some (Ob.cells [(V.lit (Value.string (ByteArray.mk (Array.mk [(UInt8.ofNat 102), (UInt8.ofNat 111), (UInt8.ofNat 108), (UInt8.ofNat 105), (UInt8.ofNat 111)])))), (V.lit (Value.string (ByteArray.mk (Array.mk [(UInt8.ofNat 120)])))), (V.lit (Value.string (ByteArray.mk (Array.mk [(UInt8.ofNat 113), (UInt8.ofNat 117), (UInt8.ofNat 97), (UInt8.ofNat 114), (UInt8.ofNat 116), (UInt8.ofNat 111)])))), (V.lit (Value.string (ByteArray.mk (Array.mk [(UInt8.ofNat 120), (UInt8.ofNat 121)])))), (V.lit (Value.string (ByteArray.mk (Array.mk [(UInt8.ofNat 111), (UInt8.ofNat 99), (UInt8.ofNat 116), (UInt8.ofNat 97), (UInt8.ofNat 118), (UInt8.ofNat 111)])))), (V.lit (Value.string (ByteArray.mk (Array.mk [(UInt8.ofNat 120), (UInt8.ofNat 121), (UInt8.ofNat 120)]))))] 62)) Tr.leaf) none Tr.leaf)) none (Tr.node Tr.leaf none (Tr.node (Tr.node Tr.leaf (some (Ob.cells [(V.slc 41 0 3 3 Bool.false), (V.slc 44 0 1 1 Bool.false), (V.lit (Value.int IntKind.i64 (Int.ofNat 10))), (V.lit (Value.int IntKind.i64 (Int.ofNat 2)))] 25)) Tr.leaf) none Tr.leaf)))) (some (.cells tab64 t)) (Tr.node (Tr.node Tr.leaf none (Tr.node Tr.leaf none (Tr.node (Tr.node Tr.leaf (some (Ob.cells [(V.lit (Value.string (ByteArray.mk (Array.mk [(UInt8.ofNat 112), (UInt8.ofNat 111), (UInt8.ofNat 116)])))), (V.lit (Value.int IntKind.i64 (Int.ofNat 400))), (V.lit (Value.int IntKind.i64 (Int.ofNat 410))), (V.lit (Value.int IntKind.i64 (Int.ofNat 300))), (V.lit (Value.int IntKind.i64 (Int.ofNat 306)))] 75)) Tr.leaf) none Tr.leaf))) none (Tr.node (Tr.node (Tr.node (Tr.node (Tr.node (Tr.node Tr.leaf (some (Ob.cells [(V.lit (Value.int IntKind.i64 (Int.ofNat 0))), (V.lit (Value.int IntKind.i64 (Int.ofNat 0))), (V.lit (Value.int IntKind.i64 (Int.ofNat 0))), (V.lit (Value.bool Bool.false)), (V.lit (Value.bool Bool.false)), (V.lit (Value.int IntKind.i64 (Int.ofNat 0))), (V.lit (Value.int IntKind.i64 (Int.ofNat 1))), (V.lit (Value.int IntKind.i64 (Int.ofNat 0))), (V.lit (Value.bool Bool.true)), (V.lit (Value.bool Bool.true)), (V.lit (Value.int IntKind.i64 (Int.ofNat 0))), (V.lit (Value.int IntKind.i64 (Int.ofNat 1))), (V.lit (Value.int IntKind.i64 (Int.ofNat 1))), (V.lit (Value.bool Bool.false)), (V.lit (Value.bool Bool.true)), (V.lit (Value.int IntKind.i64 (Int.ofNat 0))), (V.lit (Value.int IntKind.i64 (Int.ofNat 0))), (V.lit (Value.int IntKind.i64 (Int.ofNat 1))), (V.lit (Value.bool Bool.true)), (V.lit (Value.bool Bool.false))] 57)) Tr.leaf) none Tr.leaf) none Tr.leaf) none Tr.leaf) none (Tr.node (Tr.node Tr.leaf none (Tr.node Tr.leaf none (Tr.node Tr.leaf (some (Ob.cells [(V.lit (Value.int IntKind.i64 (Int.ofNat 2))), (V.lit (Value.int IntKind.i64 (Int.negSucc 2))), (V.lit (Value.int IntKind.i64 (Int.ofNat 7))), (V.lit (Value.int IntKind.i64 (Int.negSucc 5)))] 3)) Tr.leaf))) none Tr.leaf)) none Tr.leaf))⟩
theorem yfP3 (t : TypeId) : evGc Tryz.prog 100000 (piece 3 (bodyOf Tryz.f13)) yfA3 (yfH3 t) [0, 41, 44, 45, 130, 234] = .ok (.normal, yfA4, yfH4 t) := by kernel_rfl
end
end Go.Proofs.YtielaaaeecfkoaaGreatDoor
