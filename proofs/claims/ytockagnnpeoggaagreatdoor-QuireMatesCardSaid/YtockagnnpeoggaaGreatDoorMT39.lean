/- The parts Wa of the proof, joined. It holds without conditions of its own. -/
import Derived.Test.YtockagnnpeoggaaGreatDoorMT18
import Derived.Test.YtockagnnpeoggaaGreatDoorMT12
import Derived.Test.YtockagnnpeoggaaGreatDoorMT14
/- How changes are written. -/
namespace Go.Proofs.YtockagnnpeoggaaGreatDoor
set_option linter.unusedSimpArgs false
set_option linter.unusedVariables false
open Go Go.RowKit Go.Sort Go.BigFrame

theorem dec_size (n : Int) : (⟨(dec n).toArray⟩ : ByteArray).size ≤ 2 := by rw [size_bytes]; exact dec_len n

set_option maxHeartbeats 400000 in
theorem takenText_any (p : Int) (hp : 0 ≤ p ∧ p < 100) (w : World) :
    Calls Tryz.prog 155 #[.agg #[.int .i64 p]] w fun e w' => e = .returned (S (45 :: dec p)) ∧ Below w.heap.size w w' := by
  have zd := dec_size p
  have zq : (⟨#[45]⟩ : ByteArray).size ≤ 1 := by decide
  go_enter Tryz.func155, Tryz.ntmps155
  go_wp2_with fail
  refine (Itoa_any p hp.1 hp.2 _).mono ?_
  rintro e w1 ⟨rfl, rfl⟩
  go_wp2_with fail
  go_ret
  exact ⟨ret_S (by rw [show (⟨#[45]⟩ : ByteArray) = ⟨[45].toArray⟩ from rfl, cat_bytes]; rfl), (by repeat (first | exact Below.refl _ _ | assumption | (refine Below.alloc ?_ ?_ _; rotate_left; · (first | omega | (simp; done) | (simp; omega) | (simp at *; omega) | fail)) | (refine Below.setCell ?_ ?_ _; rotate_left; · (first | omega | (simp; done) | (simp; omega) | (simp at *; omega) | fail)) | refine Below.drew ?_ | fail))⟩
set_option maxHeartbeats 400000 in
theorem cancelledText_any (p : Int) (hp : 0 ≤ p ∧ p < 100) (w : World) :
    Calls Tryz.prog 156 #[.agg #[.int .i64 p]] w fun e w' => e = .returned (S (61 :: dec p)) ∧ Below w.heap.size w w' := by
  have zd := dec_size p
  have zq : (⟨#[61]⟩ : ByteArray).size ≤ 1 := by decide
  go_enter Tryz.func156, Tryz.ntmps156
  go_wp2_with fail
  refine (Itoa_any p hp.1 hp.2 _).mono ?_
  rintro e w1 ⟨rfl, rfl⟩
  go_wp2_with fail
  go_ret
  exact ⟨ret_S (by rw [show (⟨#[61]⟩ : ByteArray) = ⟨[61].toArray⟩ from rfl, cat_bytes]; rfl), (by repeat (first | exact Below.refl _ _ | assumption | (refine Below.alloc ?_ ?_ _; rotate_left; · (first | omega | (simp; done) | (simp; omega) | (simp at *; omega) | fail)) | (refine Below.setCell ?_ ?_ _; rotate_left; · (first | omega | (simp; done) | (simp; omega) | (simp at *; omega) | fail)) | refine Below.drew ?_ | fail))⟩
set_option maxRecDepth 100000 in
set_option maxHeartbeats 400000 in
theorem putInText_any (p m : Int) (hp : 0 ≤ p ∧ p < 100) (hm : 0 ≤ m ∧ m < 100) (w : World) :
    Calls Tryz.prog 157 #[.agg #[.int .i64 p, .int .i64 m]] w fun e w' => e = .returned (S (dec p ++ 43 :: dec m)) ∧ Below w.heap.size w w' := by
  have zd := dec_size p
  have ze := dec_size m
  have zq : (⟨#[43]⟩ : ByteArray).size ≤ 1 := by decide
  have zt : ((⟨(dec p).toArray⟩ : ByteArray) ++ ⟨#[43]⟩).size ≤ 3 := by rw [ByteArray.size_append]; omega
  obtain ⟨w1, hw1⟩ : ∃ w1, w1 = w.alloc (Obj.cells #[.int .i64 p, .int .i64 m] 170) := ⟨_, rfl⟩
  have hb1 : Below w.heap.size w w1 := by rw [hw1]; exact (by repeat (first | exact Below.refl _ _ | assumption | (refine Below.alloc ?_ ?_ _; rotate_left; · (first | omega | (simp; done) | (simp; omega) | (simp at *; omega) | fail)) | (refine Below.setCell ?_ ?_ _; rotate_left; · (first | omega | (simp; done) | (simp; omega) | (simp at *; omega) | fail)) | refine Below.drew ?_ | fail))
  have q1 : w1.heap[w.heap.size]? = some (.cells #[.int .i64 p, .int .i64 m] 170) := by rw [hw1]; exact (by repeat (first | exact heap_alloc_at _ _ _ (by (first | omega | (simp; done) | (simp; omega) | (simp at *; omega) | fail)) | assumption | rw [heap_alloc_past _ _ _ (by (first | omega | (simp; done) | (simp; omega) | (simp at *; omega) | fail))] | rw [heap_setCell_past _ _ _ _ (by (first | omega | (simp; done) | (simp; omega) | (simp at *; omega) | fail))] | fail))
  go_enter Tryz.func157, Tryz.ntmps157
  go_wp2_with fail
  rw [← hw1]
  clear hw1
  have c0 := blk_cell q1 0; have c1 := blk_cell q1 1
  clear q1
  have r0 := cell_regrown c0
  have r1 := cell_regrown c1
  have cP : ∀ d os, Calls Tryz.prog 77 #[.int .i64 p] (grow (redrawn w1 d) os) (fun e w'' => e = .returned (S (dec p)) ∧ ∃ p : Regrown, w'' = grow (redrawn w1 p.d) p.os) := fun d os => Calls.regrown_of ((Itoa_any p hp.1 hp.2 _).mono fun e w' ⟨h1, h2⟩ => ⟨h1, h2 ▸ Below.refl _ _⟩)
  have cM : ∀ d os, Calls Tryz.prog 77 #[.int .i64 m] (grow (redrawn w1 d) os) (fun e w'' => e = .returned (S (dec m)) ∧ ∃ p : Regrown, w'' = grow (redrawn w1 p.d) p.os) := fun d os => Calls.regrown_of ((Itoa_any m hm.1 hm.2 _).mono fun e w' ⟨h1, h2⟩ => ⟨h1, h2 ▸ Below.refl _ _⟩)
  refine wp_region_quiet_below (by kernel_rfl) (by kernel_rfl) ?_; (repeat (go_big_quiet_step (first | exact cP _ _ | exact cM _ _))); refine wpQuiet_nil ?_; rintro w3 ⟨⟨d3, os3⟩, rfl⟩
  have hb13 := below_regrown w1 d3 os3
  have hb3 := hb1.trans (hb13.mono hb1.size)
  go_wp2_with fail
  go_ret
  exact ⟨ret_S (by rw [show (⟨#[43]⟩ : ByteArray) = ⟨[43].toArray⟩ from rfl, cat_bytes, cat_bytes]; simp), hb3⟩

end Go.Proofs.YtockagnnpeoggaaGreatDoor
