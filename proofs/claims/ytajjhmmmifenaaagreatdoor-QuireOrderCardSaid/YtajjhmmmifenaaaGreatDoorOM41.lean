/- The parts Wd of the proof, joined. It holds without conditions of its own. -/
import Derived.Test.YtajjhmmmifenaaaGreatDoorOM40
import Derived.Test.YtajjhmmmifenaaaGreatDoorOM33
/- Whether an item takes one more gathering. -/
namespace Go.Proofs.YtajjhmmmifenaaaGreatDoor
set_option linter.unusedSimpArgs false
set_option linter.unusedVariables false
open Go Go.RowKit Go.Sort Go.BigFrame

theorem lettered_is' (r l : Int) (b : Bool) (h : decide (l < 23) = b) (w : World) : Calls Tryz.prog 95 #[.agg #[.int .i64 r, .int .i64 l]] w fun e w' => e = .returned (.bool b) ∧ Below w.heap.size w w' := by
  subst h; exact lettered_any r l w

set_option maxRecDepth 100000 in
set_option maxHeartbeats 2000000 in
theorem takes_any (kd fr fl lr ll lv gr gl gv : Int) (a ga : Option Addr) (n m cap gcap : Nat) (w : World) (hl : 0 ≤ ll ∧ ll ≤ 100) (hr : 0 ≤ lr ∧ lr ≤ 100) :
    Calls Tryz.prog 75 #[.agg #[.int .i64 kd, .int .i64 fr, .int .i64 fl, .int .i64 lr, .int .i64 ll, .int .i64 lv, .slice a n cap], .agg #[.int .i64 gr, .int .i64 gl, .int .i64 gv, .slice ga m gcap]] w fun e w' =>
      e = .returned (.bool (decide (n = 0) && decide (m = 0) && decide (lv = gv) && decide (ll < 23) && decide (nextS lr ll = (gr, gl)))) ∧ Below w.heap.size w w' := by
  by_cases hn : n = 0
  · by_cases hm : m = 0
    · subst hn hm
      by_cases hv : lv = gv
      · subst hv
        cases hlt : decide (ll < 23) with
        | false =>
          have hR : (decide ((0 : Nat) = 0) && decide ((0 : Nat) = 0) && decide (lv = lv) && false && decide (nextS lr ll = (gr, gl))) = false := by simp
          rw [hR]
          obtain ⟨w1, hw1⟩ : ∃ w1, w1 = (w.alloc (.cells #[.int .i64 kd, .int .i64 fr, .int .i64 fl, .int .i64 lr, .int .i64 ll, .int .i64 lv, .slice a 0 cap] 118)).alloc (.cells #[.int .i64 gr, .int .i64 gl, .int .i64 lv, .slice ga 0 gcap] 59) := ⟨_, rfl⟩
          have hb1 : Below w.heap.size w w1 := by rw [hw1]; exact (by repeat (first | exact Below.refl _ _ | assumption | (refine Below.alloc ?_ ?_ _; rotate_left; · (first | omega | (simp; done) | (simp; omega) | fail)) | (refine Below.setCell ?_ ?_ _; rotate_left; · (first | omega | (simp; done) | (simp; omega) | fail)) | refine Below.drew ?_ | fail))
          have q1 : w1.heap[w.heap.size]? = some (.cells #[.int .i64 kd, .int .i64 fr, .int .i64 fl, .int .i64 lr, .int .i64 ll, .int .i64 lv, .slice a 0 cap] 118) := by rw [hw1]; exact (by repeat (first | exact heap_alloc_at _ _ _ (by (first | omega | (simp; done) | (simp; omega) | fail)) | (refine (heap_alloc_past _ _ _ ?_).trans ?_; · (first | omega | (simp; done) | (simp; omega) | fail)) | fail))
          have q2 : w1.heap[w.heap.size + 1]? = some (.cells #[.int .i64 gr, .int .i64 gl, .int .i64 lv, .slice ga 0 gcap] 59) := by rw [hw1]; exact (by repeat (first | exact heap_alloc_at _ _ _ (by (first | omega | (simp; done) | (simp; omega) | fail)) | (refine (heap_alloc_past _ _ _ ?_).trans ?_; · (first | omega | (simp; done) | (simp; omega) | fail)) | fail))
          go_enter Tryz.func75, Tryz.ntmps75
          go_wp2_with fail
          rw [← hw1]
          clear hw1
          have c0 := blk_cell q1 0; have c1 := blk_cell q1 1; have c2 := blk_cell q1 2; have c3 := blk_cell q1 3; have c4 := blk_cell q1 4; have c5 := blk_cell q1 5; have c6 := blk_cell q1 6
          have d0 := blk_cell q2 0; have d1 := blk_cell q2 1; have d2 := blk_cell q2 2; have d3 := blk_cell q2 3
          clear q1 q2
          have r2 := cell_regrown c2
          have r3 := cell_regrown c3
          have r4 := cell_regrown c4
          have r5 := cell_regrown c5
          have s0 := cell_regrown d0
          have s1 := cell_regrown d1
          have s2 := cell_regrown d2
          have cL : ∀ d os, Calls Tryz.prog 95 #[.agg #[.int .i64 lr, .int .i64 ll]] (grow (redrawn w1 d) os) (fun e w'' => e = .returned (.bool false) ∧ ∃ p : Regrown, w'' = grow (redrawn w1 p.d) p.os) := fun d os => Calls.regrown_of (lettered_is' _ _ false hlt _)
          clear hR
          refine wp_region_quiet_below (by kernel_rfl) (by kernel_rfl) ?_; (repeat (go_big_quiet_step (exact cL _ _))); refine wpQuiet_nil ?_; rintro w3 ⟨⟨d3, os3⟩, rfl⟩
          have hb13 := below_regrown w1 d3 os3
          have hb3 := hb1.trans (hb13.mono hb1.size)
          have HB3 := Lib.hid hb3
          clear hb13 hb3 hb1 r2 r3 r4 r5 s0 s1 s2 c0 c1 c2 c3 c4 c5 c6 d0 d1 d2
          go_wp2_with fail
          go_ret
          exact ⟨rfl, HB3.out⟩
        | true =>
          obtain ⟨r', hr'⟩ : ∃ r', r' = (nextS lr ll).1 := ⟨_, rfl⟩
          obtain ⟨l', hl'⟩ : ∃ l', l' = (nextS lr ll).2 := ⟨_, rfl⟩
          have hN : nextS lr ll = (r', l') := by rw [hr', hl']
          have hcF : ∀ w, Calls Tryz.prog 96 #[.agg #[.int .i64 lr, .int .i64 ll]] w fun e w' => e = .returned (.agg #[.int .i64 r', .int .i64 l']) ∧ Below w.heap.size w w' := fun w => by
            rw [hr', hl']; exact next_is lr ll w hl hr
          clear hr' hl'
          have HcF := Lib.hid hcF
          clear hcF
          by_cases he : r' = gr ∧ l' = gl
          · obtain ⟨e1, e2⟩ := he
            have e1 := e1.symm
            have e2 := e2.symm
            subst e1
            subst e2
            have hR : (decide ((0 : Nat) = 0) && decide ((0 : Nat) = 0) && decide (lv = lv) && true && decide (nextS lr ll = (gr, gl))) = true := by simp [hN]
            rw [hR]
            clear hR hN
            obtain ⟨w1, hw1⟩ : ∃ w1, w1 = (w.alloc (.cells #[.int .i64 kd, .int .i64 fr, .int .i64 fl, .int .i64 lr, .int .i64 ll, .int .i64 lv, .slice a 0 cap] 118)).alloc (.cells #[.int .i64 gr, .int .i64 gl, .int .i64 lv, .slice ga 0 gcap] 59) := ⟨_, rfl⟩
            have hb1 : Below w.heap.size w w1 := by rw [hw1]; exact (by repeat (first | exact Below.refl _ _ | assumption | (refine Below.alloc ?_ ?_ _; rotate_left; · (first | omega | (simp; done) | (simp; omega) | fail)) | (refine Below.setCell ?_ ?_ _; rotate_left; · (first | omega | (simp; done) | (simp; omega) | fail)) | refine Below.drew ?_ | fail))
            have q1 : w1.heap[w.heap.size]? = some (.cells #[.int .i64 kd, .int .i64 fr, .int .i64 fl, .int .i64 lr, .int .i64 ll, .int .i64 lv, .slice a 0 cap] 118) := by rw [hw1]; exact (by repeat (first | exact heap_alloc_at _ _ _ (by (first | omega | (simp; done) | (simp; omega) | fail)) | (refine (heap_alloc_past _ _ _ ?_).trans ?_; · (first | omega | (simp; done) | (simp; omega) | fail)) | fail))
            have q2 : w1.heap[w.heap.size + 1]? = some (.cells #[.int .i64 gr, .int .i64 gl, .int .i64 lv, .slice ga 0 gcap] 59) := by rw [hw1]; exact (by repeat (first | exact heap_alloc_at _ _ _ (by (first | omega | (simp; done) | (simp; omega) | fail)) | (refine (heap_alloc_past _ _ _ ?_).trans ?_; · (first | omega | (simp; done) | (simp; omega) | fail)) | fail))
            go_enter Tryz.func75, Tryz.ntmps75
            go_wp2_with fail
            rw [← hw1]
            clear hw1
            have c0 := blk_cell q1 0; have c1 := blk_cell q1 1; have c2 := blk_cell q1 2; have c3 := blk_cell q1 3; have c4 := blk_cell q1 4; have c5 := blk_cell q1 5; have c6 := blk_cell q1 6
            have d0 := blk_cell q2 0; have d1 := blk_cell q2 1; have d2 := blk_cell q2 2; have d3 := blk_cell q2 3
            clear q1 q2
            have r2 := cell_regrown c2
            have r3 := cell_regrown c3
            have r4 := cell_regrown c4
            have r5 := cell_regrown c5
            have s0 := cell_regrown d0
            have s1 := cell_regrown d1
            have s2 := cell_regrown d2
            have cL : ∀ d os, Calls Tryz.prog 95 #[.agg #[.int .i64 lr, .int .i64 ll]] (grow (redrawn w1 d) os) (fun e w'' => e = .returned (.bool true) ∧ ∃ p : Regrown, w'' = grow (redrawn w1 p.d) p.os) := fun d os => Calls.regrown_of (lettered_is' _ _ true hlt _)
            have cF : ∀ d os, Calls Tryz.prog 96 #[.agg #[.int .i64 lr, .int .i64 ll]] (grow (redrawn w1 d) os) (fun e w'' => e = .returned (.agg #[.int .i64 gr, .int .i64 gl]) ∧ ∃ p : Regrown, w'' = grow (redrawn w1 p.d) p.os) := fun d os => Calls.regrown_of (HcF.out _)
            refine wp_region_quiet_below (by kernel_rfl) (by kernel_rfl) ?_; (repeat (go_big_quiet_step (first | exact cL _ _ | exact cF _ _))); refine wpQuiet_nil ?_; rintro w3 ⟨⟨d3, os3⟩, rfl⟩
            clear cL cF
            have hb13 := below_regrown w1 d3 os3
            have hb3 := hb1.trans (hb13.mono hb1.size)
            have HB3 := Lib.hid hb3
            clear hb13 hb3 hb1 r2 r3 r4 r5 s0 s1 s2 c0 c1 c2 c3 c4 c5 c6 d0 d1 d2
            go_wp2_with fail
            go_ret
            exact ⟨rfl, HB3.out⟩
          · have hR : (decide ((0 : Nat) = 0) && decide ((0 : Nat) = 0) && decide (lv = lv) && true && decide (nextS lr ll = (gr, gl))) = false := by
              simp only [hN, Prod.mk.injEq, he, decide_false, Bool.and_false]
            rw [hR]
            have hcs : ¬ r' = gr ∨ (r' = gr ∧ ¬ l' = gl) := by
              by_cases h : r' = gr
              · exact Or.inr ⟨h, fun h' => he ⟨h, h'⟩⟩
              · exact Or.inl h
            clear hR hN he
            have hcs' : ¬ r' = gr ∨ (gr = r' ∧ ¬ l' = gl) := hcs.imp id fun ⟨h, h'⟩ => ⟨h.symm, h'⟩
            clear hcs
            rcases hcs' with h | ⟨h0, h⟩
            · skip
              obtain ⟨w1, hw1⟩ : ∃ w1, w1 = (w.alloc (.cells #[.int .i64 kd, .int .i64 fr, .int .i64 fl, .int .i64 lr, .int .i64 ll, .int .i64 lv, .slice a 0 cap] 118)).alloc (.cells #[.int .i64 gr, .int .i64 gl, .int .i64 lv, .slice ga 0 gcap] 59) := ⟨_, rfl⟩
              have hb1 : Below w.heap.size w w1 := by rw [hw1]; exact (by repeat (first | exact Below.refl _ _ | assumption | (refine Below.alloc ?_ ?_ _; rotate_left; · (first | omega | (simp; done) | (simp; omega) | fail)) | (refine Below.setCell ?_ ?_ _; rotate_left; · (first | omega | (simp; done) | (simp; omega) | fail)) | refine Below.drew ?_ | fail))
              have q1 : w1.heap[w.heap.size]? = some (.cells #[.int .i64 kd, .int .i64 fr, .int .i64 fl, .int .i64 lr, .int .i64 ll, .int .i64 lv, .slice a 0 cap] 118) := by rw [hw1]; exact (by repeat (first | exact heap_alloc_at _ _ _ (by (first | omega | (simp; done) | (simp; omega) | fail)) | (refine (heap_alloc_past _ _ _ ?_).trans ?_; · (first | omega | (simp; done) | (simp; omega) | fail)) | fail))
              have q2 : w1.heap[w.heap.size + 1]? = some (.cells #[.int .i64 gr, .int .i64 gl, .int .i64 lv, .slice ga 0 gcap] 59) := by rw [hw1]; exact (by repeat (first | exact heap_alloc_at _ _ _ (by (first | omega | (simp; done) | (simp; omega) | fail)) | (refine (heap_alloc_past _ _ _ ?_).trans ?_; · (first | omega | (simp; done) | (simp; omega) | fail)) | fail))
              go_enter Tryz.func75, Tryz.ntmps75
              go_wp2_with fail
              rw [← hw1]
              clear hw1
              have c0 := blk_cell q1 0; have c1 := blk_cell q1 1; have c2 := blk_cell q1 2; have c3 := blk_cell q1 3; have c4 := blk_cell q1 4; have c5 := blk_cell q1 5; have c6 := blk_cell q1 6
              have d0 := blk_cell q2 0; have d1 := blk_cell q2 1; have d2 := blk_cell q2 2; have d3 := blk_cell q2 3
              clear q1 q2
              have r2 := cell_regrown c2
              have r3 := cell_regrown c3
              have r4 := cell_regrown c4
              have r5 := cell_regrown c5
              have s0 := cell_regrown d0
              have s1 := cell_regrown d1
              have s2 := cell_regrown d2
              have cL : ∀ d os, Calls Tryz.prog 95 #[.agg #[.int .i64 lr, .int .i64 ll]] (grow (redrawn w1 d) os) (fun e w'' => e = .returned (.bool true) ∧ ∃ p : Regrown, w'' = grow (redrawn w1 p.d) p.os) := fun d os => Calls.regrown_of (lettered_is' _ _ true hlt _)
              have cF : ∀ d os, Calls Tryz.prog 96 #[.agg #[.int .i64 lr, .int .i64 ll]] (grow (redrawn w1 d) os) (fun e w'' => e = .returned (.agg #[.int .i64 r', .int .i64 l']) ∧ ∃ p : Regrown, w'' = grow (redrawn w1 p.d) p.os) := fun d os => Calls.regrown_of (HcF.out _)
              refine wp_region_quiet_below (by kernel_rfl) (by kernel_rfl) ?_; (repeat (go_big_quiet_step (first | exact cL _ _ | exact cF _ _))); refine wpQuiet_nil ?_; rintro w3 ⟨⟨d3, os3⟩, rfl⟩
              clear cL cF
              have hb13 := below_regrown w1 d3 os3
              have hb3 := hb1.trans (hb13.mono hb1.size)
              have HB3 := Lib.hid hb3
              clear hb13 hb3 hb1 r2 r3 r4 r5 s0 s1 s2 c0 c1 c2 c3 c4 c5 c6 d0 d1 d2
              go_wp2_with fail
              go_ret
              exact ⟨rfl, HB3.out⟩
            · subst h0
              obtain ⟨w1, hw1⟩ : ∃ w1, w1 = (w.alloc (.cells #[.int .i64 kd, .int .i64 fr, .int .i64 fl, .int .i64 lr, .int .i64 ll, .int .i64 lv, .slice a 0 cap] 118)).alloc (.cells #[.int .i64 gr, .int .i64 gl, .int .i64 lv, .slice ga 0 gcap] 59) := ⟨_, rfl⟩
              have hb1 : Below w.heap.size w w1 := by rw [hw1]; exact (by repeat (first | exact Below.refl _ _ | assumption | (refine Below.alloc ?_ ?_ _; rotate_left; · (first | omega | (simp; done) | (simp; omega) | fail)) | (refine Below.setCell ?_ ?_ _; rotate_left; · (first | omega | (simp; done) | (simp; omega) | fail)) | refine Below.drew ?_ | fail))
              have q1 : w1.heap[w.heap.size]? = some (.cells #[.int .i64 kd, .int .i64 fr, .int .i64 fl, .int .i64 lr, .int .i64 ll, .int .i64 lv, .slice a 0 cap] 118) := by rw [hw1]; exact (by repeat (first | exact heap_alloc_at _ _ _ (by (first | omega | (simp; done) | (simp; omega) | fail)) | (refine (heap_alloc_past _ _ _ ?_).trans ?_; · (first | omega | (simp; done) | (simp; omega) | fail)) | fail))
              have q2 : w1.heap[w.heap.size + 1]? = some (.cells #[.int .i64 gr, .int .i64 gl, .int .i64 lv, .slice ga 0 gcap] 59) := by rw [hw1]; exact (by repeat (first | exact heap_alloc_at _ _ _ (by (first | omega | (simp; done) | (simp; omega) | fail)) | (refine (heap_alloc_past _ _ _ ?_).trans ?_; · (first | omega | (simp; done) | (simp; omega) | fail)) | fail))
              go_enter Tryz.func75, Tryz.ntmps75
              go_wp2_with fail
              rw [← hw1]
              clear hw1
              have c0 := blk_cell q1 0; have c1 := blk_cell q1 1; have c2 := blk_cell q1 2; have c3 := blk_cell q1 3; have c4 := blk_cell q1 4; have c5 := blk_cell q1 5; have c6 := blk_cell q1 6
              have d0 := blk_cell q2 0; have d1 := blk_cell q2 1; have d2 := blk_cell q2 2; have d3 := blk_cell q2 3
              clear q1 q2
              have r2 := cell_regrown c2
              have r3 := cell_regrown c3
              have r4 := cell_regrown c4
              have r5 := cell_regrown c5
              have s0 := cell_regrown d0
              have s1 := cell_regrown d1
              have s2 := cell_regrown d2
              have cL : ∀ d os, Calls Tryz.prog 95 #[.agg #[.int .i64 lr, .int .i64 ll]] (grow (redrawn w1 d) os) (fun e w'' => e = .returned (.bool true) ∧ ∃ p : Regrown, w'' = grow (redrawn w1 p.d) p.os) := fun d os => Calls.regrown_of (lettered_is' _ _ true hlt _)
              have cF : ∀ d os, Calls Tryz.prog 96 #[.agg #[.int .i64 lr, .int .i64 ll]] (grow (redrawn w1 d) os) (fun e w'' => e = .returned (.agg #[.int .i64 gr, .int .i64 l']) ∧ ∃ p : Regrown, w'' = grow (redrawn w1 p.d) p.os) := fun d os => Calls.regrown_of (HcF.out _)
              refine wp_region_quiet_below (by kernel_rfl) (by kernel_rfl) ?_; (repeat (go_big_quiet_step (first | exact cL _ _ | exact cF _ _))); refine wpQuiet_nil ?_; rintro w3 ⟨⟨d3, os3⟩, rfl⟩
              clear cL cF
              have hb13 := below_regrown w1 d3 os3
              have hb3 := hb1.trans (hb13.mono hb1.size)
              have HB3 := Lib.hid hb3
              clear hb13 hb3 hb1 r2 r3 r4 r5 s0 s1 s2 c0 c1 c2 c3 c4 c5 c6 d0 d1 d2
              go_wp2_with fail
              go_ret
              exact ⟨rfl, HB3.out⟩
      · have hR : (decide ((0 : Nat) = 0) && decide ((0 : Nat) = 0) && decide (lv = gv) && decide (ll < 23) && decide (nextS lr ll = (gr, gl))) = false := by simp [hv]
        rw [hR]
        have hvb : (lv == gv) = false := by simp [hv]
        clear hR hv
        obtain ⟨w1, hw1⟩ : ∃ w1, w1 = (w.alloc (.cells #[.int .i64 kd, .int .i64 fr, .int .i64 fl, .int .i64 lr, .int .i64 ll, .int .i64 lv, .slice a 0 cap] 118)).alloc (.cells #[.int .i64 gr, .int .i64 gl, .int .i64 gv, .slice ga 0 gcap] 59) := ⟨_, rfl⟩
        have hb1 : Below w.heap.size w w1 := by rw [hw1]; exact (by repeat (first | exact Below.refl _ _ | assumption | (refine Below.alloc ?_ ?_ _; rotate_left; · (first | omega | (simp; done) | (simp; omega) | fail)) | (refine Below.setCell ?_ ?_ _; rotate_left; · (first | omega | (simp; done) | (simp; omega) | fail)) | refine Below.drew ?_ | fail))
        have q1 : w1.heap[w.heap.size]? = some (.cells #[.int .i64 kd, .int .i64 fr, .int .i64 fl, .int .i64 lr, .int .i64 ll, .int .i64 lv, .slice a 0 cap] 118) := by rw [hw1]; exact (by repeat (first | exact heap_alloc_at _ _ _ (by (first | omega | (simp; done) | (simp; omega) | fail)) | (refine (heap_alloc_past _ _ _ ?_).trans ?_; · (first | omega | (simp; done) | (simp; omega) | fail)) | fail))
        have q2 : w1.heap[w.heap.size + 1]? = some (.cells #[.int .i64 gr, .int .i64 gl, .int .i64 gv, .slice ga 0 gcap] 59) := by rw [hw1]; exact (by repeat (first | exact heap_alloc_at _ _ _ (by (first | omega | (simp; done) | (simp; omega) | fail)) | (refine (heap_alloc_past _ _ _ ?_).trans ?_; · (first | omega | (simp; done) | (simp; omega) | fail)) | fail))
        go_enter Tryz.func75, Tryz.ntmps75
        go_wp2_with fail
        rw [← hw1]
        clear hw1
        have c0 := blk_cell q1 0; have c1 := blk_cell q1 1; have c2 := blk_cell q1 2; have c3 := blk_cell q1 3; have c4 := blk_cell q1 4; have c5 := blk_cell q1 5; have c6 := blk_cell q1 6
        have d0 := blk_cell q2 0; have d1 := blk_cell q2 1; have d2 := blk_cell q2 2; have d3 := blk_cell q2 3
        clear q1 q2
        have r2 := cell_regrown c2
        have r3 := cell_regrown c3
        have r4 := cell_regrown c4
        have r5 := cell_regrown c5
        have s0 := cell_regrown d0
        have s1 := cell_regrown d1
        have s2 := cell_regrown d2
        refine wp_region_quiet_below (by kernel_rfl) (by kernel_rfl) ?_; (repeat (go_big_quiet_step (fail))); refine wpQuiet_nil ?_; rintro w3 ⟨⟨d3, os3⟩, rfl⟩
        have hb13 := below_regrown w1 d3 os3
        have hb3 := hb1.trans (hb13.mono hb1.size)
        have HB3 := Lib.hid hb3
        clear hb13 hb3 hb1 r2 r3 r4 r5 s0 s1 s2 c0 c1 c2 c3 c4 c5 c6 d0 d1 d2
        go_wp2_with fail
        go_ret
        exact ⟨rfl, HB3.out⟩
    · subst hn
      have hR : (decide ((0 : Nat) = 0) && decide (m = 0) && decide (lv = gv) && decide (ll < 23) && decide (nextS lr ll = (gr, gl))) = false := by simp [hm]
      rw [hR]
      have hvb : ((m : Int) == 0) = false := by simp [hm]
      clear hR hm
      obtain ⟨w1, hw1⟩ : ∃ w1, w1 = (w.alloc (.cells #[.int .i64 kd, .int .i64 fr, .int .i64 fl, .int .i64 lr, .int .i64 ll, .int .i64 lv, .slice a 0 cap] 118)).alloc (.cells #[.int .i64 gr, .int .i64 gl, .int .i64 gv, .slice ga m gcap] 59) := ⟨_, rfl⟩
      have hb1 : Below w.heap.size w w1 := by rw [hw1]; exact (by repeat (first | exact Below.refl _ _ | assumption | (refine Below.alloc ?_ ?_ _; rotate_left; · (first | omega | (simp; done) | (simp; omega) | fail)) | (refine Below.setCell ?_ ?_ _; rotate_left; · (first | omega | (simp; done) | (simp; omega) | fail)) | refine Below.drew ?_ | fail))
      have q1 : w1.heap[w.heap.size]? = some (.cells #[.int .i64 kd, .int .i64 fr, .int .i64 fl, .int .i64 lr, .int .i64 ll, .int .i64 lv, .slice a 0 cap] 118) := by rw [hw1]; exact (by repeat (first | exact heap_alloc_at _ _ _ (by (first | omega | (simp; done) | (simp; omega) | fail)) | (refine (heap_alloc_past _ _ _ ?_).trans ?_; · (first | omega | (simp; done) | (simp; omega) | fail)) | fail))
      have q2 : w1.heap[w.heap.size + 1]? = some (.cells #[.int .i64 gr, .int .i64 gl, .int .i64 gv, .slice ga m gcap] 59) := by rw [hw1]; exact (by repeat (first | exact heap_alloc_at _ _ _ (by (first | omega | (simp; done) | (simp; omega) | fail)) | (refine (heap_alloc_past _ _ _ ?_).trans ?_; · (first | omega | (simp; done) | (simp; omega) | fail)) | fail))
      go_enter Tryz.func75, Tryz.ntmps75
      go_wp2_with fail
      rw [← hw1]
      clear hw1
      have c0 := blk_cell q1 0; have c1 := blk_cell q1 1; have c2 := blk_cell q1 2; have c3 := blk_cell q1 3; have c4 := blk_cell q1 4; have c5 := blk_cell q1 5; have c6 := blk_cell q1 6
      have d0 := blk_cell q2 0; have d1 := blk_cell q2 1; have d2 := blk_cell q2 2; have d3 := blk_cell q2 3
      clear q1 q2
      have r2 := cell_regrown c2
      have r3 := cell_regrown c3
      have r4 := cell_regrown c4
      have r5 := cell_regrown c5
      have s0 := cell_regrown d0
      have s1 := cell_regrown d1
      have s2 := cell_regrown d2
      refine wp_region_quiet_below (by kernel_rfl) (by kernel_rfl) ?_; (repeat (go_big_quiet_step (fail))); refine wpQuiet_nil ?_; rintro w3 ⟨⟨d3, os3⟩, rfl⟩
      have hb13 := below_regrown w1 d3 os3
      have hb3 := hb1.trans (hb13.mono hb1.size)
      have HB3 := Lib.hid hb3
      clear hb13 hb3 hb1 r2 r3 r4 r5 s0 s1 s2 c0 c1 c2 c3 c4 c5 c6 d0 d1 d2
      go_wp2_with fail
      go_ret
      exact ⟨rfl, HB3.out⟩
  · have hR : (decide (n = 0) && decide (m = 0) && decide (lv = gv) && decide (ll < 23) && decide (nextS lr ll = (gr, gl))) = false := by simp [hn]
    rw [hR]
    have hvb : ((n : Int) == 0) = false := by simp [hn]
    clear hR hn
    obtain ⟨w1, hw1⟩ : ∃ w1, w1 = (w.alloc (.cells #[.int .i64 kd, .int .i64 fr, .int .i64 fl, .int .i64 lr, .int .i64 ll, .int .i64 lv, .slice a n cap] 118)).alloc (.cells #[.int .i64 gr, .int .i64 gl, .int .i64 gv, .slice ga m gcap] 59) := ⟨_, rfl⟩
    have hb1 : Below w.heap.size w w1 := by rw [hw1]; exact (by repeat (first | exact Below.refl _ _ | assumption | (refine Below.alloc ?_ ?_ _; rotate_left; · (first | omega | (simp; done) | (simp; omega) | fail)) | (refine Below.setCell ?_ ?_ _; rotate_left; · (first | omega | (simp; done) | (simp; omega) | fail)) | refine Below.drew ?_ | fail))
    have q1 : w1.heap[w.heap.size]? = some (.cells #[.int .i64 kd, .int .i64 fr, .int .i64 fl, .int .i64 lr, .int .i64 ll, .int .i64 lv, .slice a n cap] 118) := by rw [hw1]; exact (by repeat (first | exact heap_alloc_at _ _ _ (by (first | omega | (simp; done) | (simp; omega) | fail)) | (refine (heap_alloc_past _ _ _ ?_).trans ?_; · (first | omega | (simp; done) | (simp; omega) | fail)) | fail))
    have q2 : w1.heap[w.heap.size + 1]? = some (.cells #[.int .i64 gr, .int .i64 gl, .int .i64 gv, .slice ga m gcap] 59) := by rw [hw1]; exact (by repeat (first | exact heap_alloc_at _ _ _ (by (first | omega | (simp; done) | (simp; omega) | fail)) | (refine (heap_alloc_past _ _ _ ?_).trans ?_; · (first | omega | (simp; done) | (simp; omega) | fail)) | fail))
    go_enter Tryz.func75, Tryz.ntmps75
    go_wp2_with fail
    rw [← hw1]
    clear hw1
    have c0 := blk_cell q1 0; have c1 := blk_cell q1 1; have c2 := blk_cell q1 2; have c3 := blk_cell q1 3; have c4 := blk_cell q1 4; have c5 := blk_cell q1 5; have c6 := blk_cell q1 6
    have d0 := blk_cell q2 0; have d1 := blk_cell q2 1; have d2 := blk_cell q2 2; have d3 := blk_cell q2 3
    clear q1 q2
    have r2 := cell_regrown c2
    have r3 := cell_regrown c3
    have r4 := cell_regrown c4
    have r5 := cell_regrown c5
    have s0 := cell_regrown d0
    have s1 := cell_regrown d1
    have s2 := cell_regrown d2
    refine wp_region_quiet_below (by kernel_rfl) (by kernel_rfl) ?_; (repeat (go_big_quiet_step (fail))); refine wpQuiet_nil ?_; rintro w3 ⟨⟨d3, os3⟩, rfl⟩
    have hb13 := below_regrown w1 d3 os3
    have hb3 := hb1.trans (hb13.mono hb1.size)
    have HB3 := Lib.hid hb3
    clear hb13 hb3 hb1 r2 r3 r4 r5 s0 s1 s2 c0 c1 c2 c3 c4 c5 c6 d0 d1 d2
    go_wp2_with fail
    go_ret
    exact ⟨rfl, HB3.out⟩

end Go.Proofs.YtajjhmmmifenaaaGreatDoor
