/- The parts Qh of the proof, joined. It holds without conditions of its own. -/
import Derived.Test.YtajjhmmmifenaaaGreatDoorOM8
import Derived.Test.YtajjhmmmifenaaaGreatDoorOM11
/- Contracts of package quire: how signatures and leaves are written. -/
namespace Go.Proofs.YtajjhmmmifenaaaGreatDoor
set_option linter.unusedSimpArgs false
set_option linter.unusedVariables false
open Go Go.RowKit Go.Sort Go.BigFrame

set_option maxHeartbeats 400000 in
theorem Sig_bad (r l : Int) (w : World) (h : sigB r l = false) :
    Calls Tryz.prog 54 #[.agg #[.int .i64 r, .int .i64 l]] w fun e w' => e = .returned (.tuple #[S [], .int .i64 7]) ∧ Below w.heap.size w w' := by
  go_enter Tryz.func54, Tryz.ntmps54
  go_wp2_with fail
  refine (isSig_any r l _).mono ?_
  rintro e w1 ⟨rfl, hb⟩
  rw [h]
  have hb1 := ((Below.refl w.heap.size w).alloc (Nat.le_refl _) _).trans (hb.mono (by simp))
  clear hb h
  go_wp2_with fail
  go_ret2
  exact ⟨rfl, hb1⟩
set_option maxHeartbeats 400000 in
theorem Sig_good (r l : Int) (w : World) (h : sigB r l = true) :
    Calls Tryz.prog 54 #[.agg #[.int .i64 r, .int .i64 l]] w fun e w' => e = .returned (.tuple #[S (sigT r l), .int .i64 0]) ∧ Below w.heap.size w w' := by
  have HS := Lib.hid h
  go_enter Tryz.func54, Tryz.ntmps54
  go_wp2_with fail
  refine (isSig_any r l _).mono ?_
  rintro e w1 ⟨rfl, hb⟩
  rw [h]
  have k0 : w1.cell? ⟨w.heap.size, 0, none⟩ = some (.int .i64 r) := cell_later' hb (by simp [World.cell?_alloc_at])
  have k1 : w1.cell? ⟨w.heap.size, 1, none⟩ = some (.int .i64 l) := cell_later' hb (by simp [World.cell?_alloc_at])
  have hb1 := ((Below.refl w.heap.size w).alloc (Nat.le_refl _) _).trans (hb.mono (by simp))
  clear hb h
  go_wp2_with fail
  refine (sigText_any r l HS.out _).mono ?_
  rintro e w2 ⟨rfl, hb⟩
  have hb2 := hb1.trans (hb.mono hb1.size)
  clear hb
  go_wp2_with fail
  go_ret2
  exact ⟨rfl, hb2⟩

/-- What Next hands back of a signature: the next one and an error. -/
def nextF (r l : Int) : Int × Int × Int :=
  if sigB r l = false then (0, 0, 7) else if ¬ l < 23 then (0, 0, 2) else if l < 22 then (r, l + 1, 0) else if r < 3 then (r + 1, 0, 0) else (0, 0, 4)

set_option maxHeartbeats 400000 in
theorem Next_bad (r l : Int) (w : World) (h : sigB r l = false) :
    Calls Tryz.prog 52 #[.agg #[.int .i64 r, .int .i64 l]] w fun e w' => e = .returned (.tuple #[.agg #[.int .i64 0, .int .i64 0], .int .i64 7]) ∧ Below w.heap.size w w' := by
  go_enter Tryz.func52, Tryz.ntmps52
  go_wp2_with fail
  refine (isSig_any r l _).mono ?_
  rintro e w1 ⟨rfl, hb⟩
  rw [h]
  have hb1 := (((Below.refl w.heap.size w).alloc (Nat.le_refl _) _).alloc (by simp) _).trans (hb.mono (by simp; omega))
  have b2 : w1.heap[w.heap.size + 1]? = some (.cells #[.int .i64 0, .int .i64 0] 56) := blk_later hb (by repeat (first | exact heap_alloc_at _ _ _ (by (first | omega | (simp; done) | (simp; omega) | (simp at *; omega) | fail)) | assumption | rw [heap_alloc_past _ _ _ (by (first | omega | (simp; done) | (simp; omega) | (simp at *; omega) | fail))] | rw [heap_setCell_past _ _ _ _ (by (first | omega | (simp; done) | (simp; omega) | (simp at *; omega) | fail))] | fail))
  have c0 := blk_cell b2 0
  have c1 := blk_cell b2 1
  have f0 := blk_free b2 0
  have f1 := blk_free b2 1
  clear hb h b2
  go_wp2_with fail
  exact bodyPost_ret (v := .tuple #[.agg #[.int .i64 0, .int .i64 0], .int .i64 7]) (by simp [results, Tryz.results52, go_sem, c0, c1]) rfl ⟨rfl, (by repeat (first | exact Below.refl _ _ | assumption | (refine Below.alloc ?_ ?_ _; rotate_left; · (first | omega | (simp; done) | (simp; omega) | (simp at *; omega) | fail)) | (refine Below.setCell ?_ ?_ _; rotate_left; · (first | omega | (simp; done) | (simp; omega) | (simp at *; omega) | fail)) | refine Below.drew ?_ | fail))⟩

set_option maxHeartbeats 400000 in
theorem Next_plain (r l : Int) (w : World) (h : sigB r l = true) (hl : ¬ l < 23) :
    Calls Tryz.prog 52 #[.agg #[.int .i64 r, .int .i64 l]] w fun e w' => e = .returned (.tuple #[.agg #[.int .i64 0, .int .i64 0], .int .i64 2]) ∧ Below w.heap.size w w' := by
  have hd : decide (l < 23) = false := decide_eq_false hl
  clear hl
  go_enter Tryz.func52, Tryz.ntmps52
  go_wp2_with fail
  refine (isSig_any r l _).mono ?_
  rintro e w1 ⟨rfl, hb⟩
  rw [h]
  have hb1 := (((Below.refl w.heap.size w).alloc (Nat.le_refl _) _).alloc (by simp) _).trans (hb.mono (by simp; omega))
  have b1 : w1.heap[w.heap.size]? = some (.cells #[.int .i64 r, .int .i64 l] 56) := blk_later hb (by repeat (first | exact heap_alloc_at _ _ _ (by (first | omega | (simp; done) | (simp; omega) | (simp at *; omega) | fail)) | assumption | rw [heap_alloc_past _ _ _ (by (first | omega | (simp; done) | (simp; omega) | (simp at *; omega) | fail))] | rw [heap_setCell_past _ _ _ _ (by (first | omega | (simp; done) | (simp; omega) | (simp at *; omega) | fail))] | fail))
  have b2 : w1.heap[w.heap.size + 1]? = some (.cells #[.int .i64 0, .int .i64 0] 56) := blk_later hb (by repeat (first | exact heap_alloc_at _ _ _ (by (first | omega | (simp; done) | (simp; omega) | (simp at *; omega) | fail)) | assumption | rw [heap_alloc_past _ _ _ (by (first | omega | (simp; done) | (simp; omega) | (simp at *; omega) | fail))] | rw [heap_setCell_past _ _ _ _ (by (first | omega | (simp; done) | (simp; omega) | (simp at *; omega) | fail))] | fail))
  have d0 := blk_cell b1 0
  have d1 := blk_cell b1 1
  have HB := Lib.hid b2
  clear hb h b2 b1
  go_wp2_with fail
  refine (lettered_is r l false hd _).mono ?_
  rintro e w2 ⟨rfl, hb⟩
  have b2 := blk_later hb HB.out
  have c0 := blk_cell b2 0
  have c1 := blk_cell b2 1
  have f0 := blk_free b2 0
  have f1 := blk_free b2 1
  have hb2 := hb1.trans (hb.mono hb1.size)
  clear hb hb1 b2 HB d0 d1
  go_wp2_with fail
  exact bodyPost_ret (v := .tuple #[.agg #[.int .i64 0, .int .i64 0], .int .i64 2]) (by simp [results, Tryz.results52, go_sem, c0, c1]) rfl ⟨rfl, (by repeat (first | exact Below.refl _ _ | assumption | (refine Below.alloc ?_ ?_ _; rotate_left; · (first | omega | (simp; done) | (simp; omega) | (simp at *; omega) | fail)) | (refine Below.setCell ?_ ?_ _; rotate_left; · (first | omega | (simp; done) | (simp; omega) | (simp at *; omega) | fail)) | refine Below.drew ?_ | fail))⟩

/-- The signature behind a lettered one; behind the last one it is none. -/
def behindF (r l : Int) : Int × Int := if l < 22 then (r, l + 1) else (r + 1, 0)

theorem following_is (r l : Int) (w : World) (hl : 0 ≤ l ∧ l ≤ 100) (hr : 0 ≤ r ∧ r ≤ 100) :
    Calls Tryz.prog 96 #[.agg #[.int .i64 r, .int .i64 l]] w fun e w' => e = .returned (.agg #[.int .i64 (behindF r l).1, .int .i64 (behindF r l).2]) ∧ Below w.heap.size w w' := by
  refine (following_any r l w hl hr).mono fun e w' ⟨h1, h2⟩ => ⟨?_, h2⟩
  rw [h1]; unfold behindF; split <;> rfl

set_option maxHeartbeats 400000 in
theorem Next_letter (r l : Int) (w : World) (h : sigB r l = true) (hl : l < 23) (r' l' : Int) (hF : behindF r l = (r', l')) (x : Bool) (hx : sigB r' l' = x) (v : Value) (hv : v = if x then .tuple #[.agg #[.int .i64 r', .int .i64 l'], .int .i64 0] else .tuple #[.agg #[.int .i64 0, .int .i64 0], .int .i64 4]) :
    Calls Tryz.prog 52 #[.agg #[.int .i64 r, .int .i64 l]] w fun e w' => e = .returned v ∧ Below w.heap.size w w' := by
  have hd : decide (l < 23) = true := decide_eq_true hl
  have hb' : 1 ≤ r ∧ r ≤ 3 ∧ 0 ≤ l ∧ l ≤ 24 := by simp [sigB, inB] at h; omega
  have HV := Lib.hid hv
  have HF := Lib.hid hF
  have HX := Lib.hid hx
  clear hl hv hF hx
  go_enter Tryz.func52, Tryz.ntmps52
  go_wp2_with fail
  refine (isSig_any r l _).mono ?_
  rintro e w1 ⟨rfl, hb⟩
  rw [h]
  have hb1 := (((Below.refl w.heap.size w).alloc (Nat.le_refl _) _).alloc (by simp) _).trans (hb.mono (by simp; omega))
  have b1 : w1.heap[w.heap.size]? = some (.cells #[.int .i64 r, .int .i64 l] 56) := blk_later hb (by repeat (first | exact heap_alloc_at _ _ _ (by (first | omega | (simp; done) | (simp; omega) | (simp at *; omega) | fail)) | assumption | rw [heap_alloc_past _ _ _ (by (first | omega | (simp; done) | (simp; omega) | (simp at *; omega) | fail))] | rw [heap_setCell_past _ _ _ _ (by (first | omega | (simp; done) | (simp; omega) | (simp at *; omega) | fail))] | fail))
  have b2 : w1.heap[w.heap.size + 1]? = some (.cells #[.int .i64 0, .int .i64 0] 56) := blk_later hb (by repeat (first | exact heap_alloc_at _ _ _ (by (first | omega | (simp; done) | (simp; omega) | (simp at *; omega) | fail)) | assumption | rw [heap_alloc_past _ _ _ (by (first | omega | (simp; done) | (simp; omega) | (simp at *; omega) | fail))] | rw [heap_setCell_past _ _ _ _ (by (first | omega | (simp; done) | (simp; omega) | (simp at *; omega) | fail))] | fail))
  have d0 := blk_cell b1 0
  have d1 := blk_cell b1 1
  have HB := Lib.hid b2
  have HA := Lib.hid b1
  clear hb h b2 b1
  go_wp2_with fail
  refine (lettered_is r l true hd _).mono ?_
  rintro e w2 ⟨rfl, hb⟩
  have HA := Lib.hid (blk_later hb HA.out)
  have HB := Lib.hid (blk_later hb HB.out)
  have d0 := blk_cell HA.out 0
  have d1 := blk_cell HA.out 1
  have hb2 := hb1.trans (hb.mono hb1.size)
  clear hb hb1 hd
  go_wp2_with fail
  refine (following_is r l _ (by omega) (by omega)).mono ?_
  rintro e w3 ⟨rfl, hb⟩
  rw [HF.out]
  have HB := Lib.hid (blk_later hb HB.out)
  have hb3 := hb2.trans (hb.mono hb2.size)
  have hlt := blk_lt HB.out
  clear hb hb2 d0 d1 HA hb'
  go_wp2_with fail
  refine (isSig_any r' l' _).mono ?_
  rintro e w4 ⟨rfl, hb⟩
  rw [HX.out]
  have b3 : w4.heap[w3.heap.size]? = some (.cells #[.int .i64 r', .int .i64 l'] 56) := blk_later hb (by repeat (first | exact heap_alloc_at _ _ _ (by (first | omega | (simp; done) | (simp; omega) | (simp at *; omega) | fail)) | assumption | rw [heap_alloc_past _ _ _ (by (first | omega | (simp; done) | (simp; omega) | (simp at *; omega) | fail))] | rw [heap_setCell_past _ _ _ _ (by (first | omega | (simp; done) | (simp; omega) | (simp at *; omega) | fail))] | fail))
  have b2 : w4.heap[w.heap.size + 1]? = some (.cells #[.int .i64 0, .int .i64 0] 56) := blk_later hb (by rw [heap_alloc_past _ _ _ hlt]; exact HB.out)
  have c0 := blk_cell b2 0
  have c1 := blk_cell b2 1
  have f0 := blk_free b2 0
  have f1 := blk_free b2 1
  have d0 := blk_cell b3 0
  have d1 := blk_cell b3 1
  have hb4 := (hb3.alloc hb3.size _).trans (hb.mono (by have := hb3.size; simp; omega))
  clear hb hb3 b2 b3 HB
  cases x
  · go_wp2_with fail
    exact bodyPost_ret (v := .tuple #[.agg #[.int .i64 0, .int .i64 0], .int .i64 4]) (by simp [results, Tryz.results52, go_sem, c0, c1]) rfl ⟨by rw [HV.out]; rfl, (by repeat (first | exact Below.refl _ _ | assumption | (refine Below.alloc ?_ ?_ _; rotate_left; · (first | omega | (simp; done) | (simp; omega) | (simp at *; omega) | fail)) | (refine Below.setCell ?_ ?_ _; rotate_left; · (first | omega | (simp; done) | (simp; omega) | (simp at *; omega) | fail)) | refine Below.drew ?_ | fail))⟩
  · go_wp2_with fail
    exact bodyPost_ret (v := .tuple #[.agg #[.int .i64 r', .int .i64 l'], .int .i64 0]) (by simp [results, Tryz.results52, go_sem, c0, c1]) rfl ⟨by rw [HV.out]; rfl, (by repeat (first | exact Below.refl _ _ | assumption | (refine Below.alloc ?_ ?_ _; rotate_left; · (first | omega | (simp; done) | (simp; omega) | (simp at *; omega) | fail)) | (refine Below.setCell ?_ ?_ _; rotate_left; · (first | omega | (simp; done) | (simp; omega) | (simp at *; omega) | fail)) | refine Below.drew ?_ | fail))⟩

end Go.Proofs.YtajjhmmmifenaaaGreatDoor
