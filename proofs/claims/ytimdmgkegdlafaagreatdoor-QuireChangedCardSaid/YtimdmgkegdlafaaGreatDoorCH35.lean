/- The parts Wd, We of the proof, joined. It holds without conditions of its own. -/
import Derived.Test.YtimdmgkegdlafaaGreatDoorCH34
import Derived.Test.YtimdmgkegdlafaaGreatDoorCH21
import Derived.Test.YtimdmgkegdlafaaGreatDoorCH22
/- Whether an item takes one more gathering. -/
namespace Go.Proofs.YtimdmgkegdlafaaGreatDoor
set_option linter.unusedSimpArgs false
set_option linter.unusedVariables false
open Go Go.RowKit Go.Sort Go.BigFrame

theorem lettered_is' (r l : Int) (b : Bool) (h : decide (l < 23) = b) (w : World) : Calls Tryz.prog 74 #[.agg #[.int .i64 r, .int .i64 l]] w fun e w' => e = .returned (.bool b) ∧ Below w.heap.size w w' := by
  subst h; exact lettered_any r l w

set_option maxRecDepth 100000 in
set_option maxHeartbeats 2000000 in
theorem takes_any (kd fr fl lr ll lv gr gl gv : Int) (a ga : Option Addr) (n m cap gcap : Nat) (w : World) (hl : 0 ≤ ll ∧ ll ≤ 100) (hr : 0 ≤ lr ∧ lr ≤ 100) :
    Calls Tryz.prog 51 #[.agg #[.int .i64 kd, .int .i64 fr, .int .i64 fl, .int .i64 lr, .int .i64 ll, .int .i64 lv, .slice a n cap], .agg #[.int .i64 gr, .int .i64 gl, .int .i64 gv, .slice ga m gcap]] w fun e w' =>
      e = .returned (.bool (decide (n = 0) && decide (m = 0) && decide (lv = gv) && decide (ll < 23) && decide (nextS lr ll = (gr, gl)))) ∧ Below w.heap.size w w' := by
  by_cases hn : n = 0
  · by_cases hm : m = 0
    · subst hn hm
      by_cases hv : lv = gv
      · subst hv
        cases hlt : decide (ll < 23) with
        | false =>
          have hR : (decide ((0 : Nat) = 0) && decide ((0 : Nat) = 0) && decide (lv = lv) && false && decide (nextS lr ll = (gr, gl))) = false := by simp
          rw [hR]
          obtain ⟨w1, hw1⟩ : ∃ w1, w1 = (w.alloc (.cells #[.int .i64 kd, .int .i64 fr, .int .i64 fl, .int .i64 lr, .int .i64 ll, .int .i64 lv, .slice a 0 cap] 102)).alloc (.cells #[.int .i64 gr, .int .i64 gl, .int .i64 lv, .slice ga 0 gcap] 42) := ⟨_, rfl⟩
          have hb1 : Below w.heap.size w w1 := by rw [hw1]; exact (by repeat (first | exact Below.refl _ _ | assumption | (refine Below.alloc ?_ ?_ _; rotate_left; · (first | omega | (simp; done) | (simp; omega) | fail)) | (refine Below.setCell ?_ ?_ _; rotate_left; · (first | omega | (simp; done) | (simp; omega) | fail)) | refine Below.drew ?_ | fail))
          have q1 : w1.heap[w.heap.size]? = some (.cells #[.int .i64 kd, .int .i64 fr, .int .i64 fl, .int .i64 lr, .int .i64 ll, .int .i64 lv, .slice a 0 cap] 102) := by rw [hw1]; exact (by repeat (first | exact heap_alloc_at _ _ _ (by (first | omega | (simp; done) | (simp; omega) | fail)) | (refine (heap_alloc_past _ _ _ ?_).trans ?_; · (first | omega | (simp; done) | (simp; omega) | fail)) | fail))
          have q2 : w1.heap[w.heap.size + 1]? = some (.cells #[.int .i64 gr, .int .i64 gl, .int .i64 lv, .slice ga 0 gcap] 42) := by rw [hw1]; exact (by repeat (first | exact heap_alloc_at _ _ _ (by (first | omega | (simp; done) | (simp; omega) | fail)) | (refine (heap_alloc_past _ _ _ ?_).trans ?_; · (first | omega | (simp; done) | (simp; omega) | fail)) | fail))
          go_enter Tryz.func51, Tryz.ntmps51
          go_wp2_with fail
          rw [← hw1]
          clear hw1
          have c0 := blk_cell q1 0; have c1 := blk_cell q1 1; have c2 := blk_cell q1 2; have c3 := blk_cell q1 3; have c4 := blk_cell q1 4; have c5 := blk_cell q1 5; have c6 := blk_cell q1 6
          have d0 := blk_cell q2 0; have d1 := blk_cell q2 1; have d2 := blk_cell q2 2; have d3 := blk_cell q2 3
          clear q1 q2
          have r2 := cell_regrown c2
          have r3 := cell_regrown c3
          have r4 := cell_regrown c4
          have r5 := cell_regrown c5
          have s0 := cell_regrown d0
          have s1 := cell_regrown d1
          have s2 := cell_regrown d2
          have cL : ∀ d os, Calls Tryz.prog 74 #[.agg #[.int .i64 lr, .int .i64 ll]] (grow (redrawn w1 d) os) (fun e w'' => e = .returned (.bool false) ∧ ∃ p : Regrown, w'' = grow (redrawn w1 p.d) p.os) := fun d os => Calls.regrown_of (lettered_is' _ _ false hlt _)
          clear hR
          refine wp_region_quiet_below (by kernel_rfl) (by kernel_rfl) ?_; (repeat (go_big_quiet_step (exact cL _ _))); refine wpQuiet_nil ?_; rintro w3 ⟨⟨d3, os3⟩, rfl⟩
          have hb13 := below_regrown w1 d3 os3
          have hb3 := hb1.trans (hb13.mono hb1.size)
          have HB3 := Lib.hid hb3
          clear hb13 hb3 hb1 r2 r3 r4 r5 s0 s1 s2 c0 c1 c2 c3 c4 c5 c6 d0 d1 d2
          go_wp2_with fail
          go_ret
          exact ⟨rfl, HB3.out⟩
        | true =>
          obtain ⟨r', hr'⟩ : ∃ r', r' = (nextS lr ll).1 := ⟨_, rfl⟩
          obtain ⟨l', hl'⟩ : ∃ l', l' = (nextS lr ll).2 := ⟨_, rfl⟩
          have hN : nextS lr ll = (r', l') := by rw [hr', hl']
          have hcF : ∀ w, Calls Tryz.prog 75 #[.agg #[.int .i64 lr, .int .i64 ll]] w fun e w' => e = .returned (.agg #[.int .i64 r', .int .i64 l']) ∧ Below w.heap.size w w' := fun w => by
            rw [hr', hl']; exact next_is lr ll w hl hr
          clear hr' hl'
          have HcF := Lib.hid hcF
          clear hcF
          by_cases he : r' = gr ∧ l' = gl
          · obtain ⟨e1, e2⟩ := he
            have e1 := e1.symm
            have e2 := e2.symm
            subst e1
            subst e2
            have hR : (decide ((0 : Nat) = 0) && decide ((0 : Nat) = 0) && decide (lv = lv) && true && decide (nextS lr ll = (gr, gl))) = true := by simp [hN]
            rw [hR]
            clear hR hN
            obtain ⟨w1, hw1⟩ : ∃ w1, w1 = (w.alloc (.cells #[.int .i64 kd, .int .i64 fr, .int .i64 fl, .int .i64 lr, .int .i64 ll, .int .i64 lv, .slice a 0 cap] 102)).alloc (.cells #[.int .i64 gr, .int .i64 gl, .int .i64 lv, .slice ga 0 gcap] 42) := ⟨_, rfl⟩
            have hb1 : Below w.heap.size w w1 := by rw [hw1]; exact (by repeat (first | exact Below.refl _ _ | assumption | (refine Below.alloc ?_ ?_ _; rotate_left; · (first | omega | (simp; done) | (simp; omega) | fail)) | (refine Below.setCell ?_ ?_ _; rotate_left; · (first | omega | (simp; done) | (simp; omega) | fail)) | refine Below.drew ?_ | fail))
            have q1 : w1.heap[w.heap.size]? = some (.cells #[.int .i64 kd, .int .i64 fr, .int .i64 fl, .int .i64 lr, .int .i64 ll, .int .i64 lv, .slice a 0 cap] 102) := by rw [hw1]; exact (by repeat (first | exact heap_alloc_at _ _ _ (by (first | omega | (simp; done) | (simp; omega) | fail)) | (refine (heap_alloc_past _ _ _ ?_).trans ?_; · (first | omega | (simp; done) | (simp; omega) | fail)) | fail))
            have q2 : w1.heap[w.heap.size + 1]? = some (.cells #[.int .i64 gr, .int .i64 gl, .int .i64 lv, .slice ga 0 gcap] 42) := by rw [hw1]; exact (by repeat (first | exact heap_alloc_at _ _ _ (by (first | omega | (simp; done) | (simp; omega) | fail)) | (refine (heap_alloc_past _ _ _ ?_).trans ?_; · (first | omega | (simp; done) | (simp; omega) | fail)) | fail))
            go_enter Tryz.func51, Tryz.ntmps51
            go_wp2_with fail
            rw [← hw1]
            clear hw1
            have c0 := blk_cell q1 0; have c1 := blk_cell q1 1; have c2 := blk_cell q1 2; have c3 := blk_cell q1 3; have c4 := blk_cell q1 4; have c5 := blk_cell q1 5; have c6 := blk_cell q1 6
            have d0 := blk_cell q2 0; have d1 := blk_cell q2 1; have d2 := blk_cell q2 2; have d3 := blk_cell q2 3
            clear q1 q2
            have r2 := cell_regrown c2
            have r3 := cell_regrown c3
            have r4 := cell_regrown c4
            have r5 := cell_regrown c5
            have s0 := cell_regrown d0
            have s1 := cell_regrown d1
            have s2 := cell_regrown d2
            have cL : ∀ d os, Calls Tryz.prog 74 #[.agg #[.int .i64 lr, .int .i64 ll]] (grow (redrawn w1 d) os) (fun e w'' => e = .returned (.bool true) ∧ ∃ p : Regrown, w'' = grow (redrawn w1 p.d) p.os) := fun d os => Calls.regrown_of (lettered_is' _ _ true hlt _)
            have cF : ∀ d os, Calls Tryz.prog 75 #[.agg #[.int .i64 lr, .int .i64 ll]] (grow (redrawn w1 d) os) (fun e w'' => e = .returned (.agg #[.int .i64 gr, .int .i64 gl]) ∧ ∃ p : Regrown, w'' = grow (redrawn w1 p.d) p.os) := fun d os => Calls.regrown_of (HcF.out _)
            refine wp_region_quiet_below (by kernel_rfl) (by kernel_rfl) ?_; (repeat (go_big_quiet_step (first | exact cL _ _ | exact cF _ _))); refine wpQuiet_nil ?_; rintro w3 ⟨⟨d3, os3⟩, rfl⟩
            clear cL cF
            have hb13 := below_regrown w1 d3 os3
            have hb3 := hb1.trans (hb13.mono hb1.size)
            have HB3 := Lib.hid hb3
            clear hb13 hb3 hb1 r2 r3 r4 r5 s0 s1 s2 c0 c1 c2 c3 c4 c5 c6 d0 d1 d2
            go_wp2_with fail
            go_ret
            exact ⟨rfl, HB3.out⟩
          · have hR : (decide ((0 : Nat) = 0) && decide ((0 : Nat) = 0) && decide (lv = lv) && true && decide (nextS lr ll = (gr, gl))) = false := by
              simp only [hN, Prod.mk.injEq, he, decide_false, Bool.and_false]
            rw [hR]
            have hcs : ¬ r' = gr ∨ (r' = gr ∧ ¬ l' = gl) := by
              by_cases h : r' = gr
              · exact Or.inr ⟨h, fun h' => he ⟨h, h'⟩⟩
              · exact Or.inl h
            clear hR hN he
            have hcs' : ¬ r' = gr ∨ (gr = r' ∧ ¬ l' = gl) := hcs.imp id fun ⟨h, h'⟩ => ⟨h.symm, h'⟩
            clear hcs
            rcases hcs' with h | ⟨h0, h⟩
            · skip
              obtain ⟨w1, hw1⟩ : ∃ w1, w1 = (w.alloc (.cells #[.int .i64 kd, .int .i64 fr, .int .i64 fl, .int .i64 lr, .int .i64 ll, .int .i64 lv, .slice a 0 cap] 102)).alloc (.cells #[.int .i64 gr, .int .i64 gl, .int .i64 lv, .slice ga 0 gcap] 42) := ⟨_, rfl⟩
              have hb1 : Below w.heap.size w w1 := by rw [hw1]; exact (by repeat (first | exact Below.refl _ _ | assumption | (refine Below.alloc ?_ ?_ _; rotate_left; · (first | omega | (simp; done) | (simp; omega) | fail)) | (refine Below.setCell ?_ ?_ _; rotate_left; · (first | omega | (simp; done) | (simp; omega) | fail)) | refine Below.drew ?_ | fail))
              have q1 : w1.heap[w.heap.size]? = some (.cells #[.int .i64 kd, .int .i64 fr, .int .i64 fl, .int .i64 lr, .int .i64 ll, .int .i64 lv, .slice a 0 cap] 102) := by rw [hw1]; exact (by repeat (first | exact heap_alloc_at _ _ _ (by (first | omega | (simp; done) | (simp; omega) | fail)) | (refine (heap_alloc_past _ _ _ ?_).trans ?_; · (first | omega | (simp; done) | (simp; omega) | fail)) | fail))
              have q2 : w1.heap[w.heap.size + 1]? = some (.cells #[.int .i64 gr, .int .i64 gl, .int .i64 lv, .slice ga 0 gcap] 42) := by rw [hw1]; exact (by repeat (first | exact heap_alloc_at _ _ _ (by (first | omega | (simp; done) | (simp; omega) | fail)) | (refine (heap_alloc_past _ _ _ ?_).trans ?_; · (first | omega | (simp; done) | (simp; omega) | fail)) | fail))
              go_enter Tryz.func51, Tryz.ntmps51
              go_wp2_with fail
              rw [← hw1]
              clear hw1
              have c0 := blk_cell q1 0; have c1 := blk_cell q1 1; have c2 := blk_cell q1 2; have c3 := blk_cell q1 3; have c4 := blk_cell q1 4; have c5 := blk_cell q1 5; have c6 := blk_cell q1 6
              have d0 := blk_cell q2 0; have d1 := blk_cell q2 1; have d2 := blk_cell q2 2; have d3 := blk_cell q2 3
              clear q1 q2
              have r2 := cell_regrown c2
              have r3 := cell_regrown c3
              have r4 := cell_regrown c4
              have r5 := cell_regrown c5
              have s0 := cell_regrown d0
              have s1 := cell_regrown d1
              have s2 := cell_regrown d2
              have cL : ∀ d os, Calls Tryz.prog 74 #[.agg #[.int .i64 lr, .int .i64 ll]] (grow (redrawn w1 d) os) (fun e w'' => e = .returned (.bool true) ∧ ∃ p : Regrown, w'' = grow (redrawn w1 p.d) p.os) := fun d os => Calls.regrown_of (lettered_is' _ _ true hlt _)
              have cF : ∀ d os, Calls Tryz.prog 75 #[.agg #[.int .i64 lr, .int .i64 ll]] (grow (redrawn w1 d) os) (fun e w'' => e = .returned (.agg #[.int .i64 r', .int .i64 l']) ∧ ∃ p : Regrown, w'' = grow (redrawn w1 p.d) p.os) := fun d os => Calls.regrown_of (HcF.out _)
              refine wp_region_quiet_below (by kernel_rfl) (by kernel_rfl) ?_; (repeat (go_big_quiet_step (first | exact cL _ _ | exact cF _ _))); refine wpQuiet_nil ?_; rintro w3 ⟨⟨d3, os3⟩, rfl⟩
              clear cL cF
              have hb13 := below_regrown w1 d3 os3
              have hb3 := hb1.trans (hb13.mono hb1.size)
              have HB3 := Lib.hid hb3
              clear hb13 hb3 hb1 r2 r3 r4 r5 s0 s1 s2 c0 c1 c2 c3 c4 c5 c6 d0 d1 d2
              go_wp2_with fail
              go_ret
              exact ⟨rfl, HB3.out⟩
            · subst h0
              obtain ⟨w1, hw1⟩ : ∃ w1, w1 = (w.alloc (.cells #[.int .i64 kd, .int .i64 fr, .int .i64 fl, .int .i64 lr, .int .i64 ll, .int .i64 lv, .slice a 0 cap] 102)).alloc (.cells #[.int .i64 gr, .int .i64 gl, .int .i64 lv, .slice ga 0 gcap] 42) := ⟨_, rfl⟩
              have hb1 : Below w.heap.size w w1 := by rw [hw1]; exact (by repeat (first | exact Below.refl _ _ | assumption | (refine Below.alloc ?_ ?_ _; rotate_left; · (first | omega | (simp; done) | (simp; omega) | fail)) | (refine Below.setCell ?_ ?_ _; rotate_left; · (first | omega | (simp; done) | (simp; omega) | fail)) | refine Below.drew ?_ | fail))
              have q1 : w1.heap[w.heap.size]? = some (.cells #[.int .i64 kd, .int .i64 fr, .int .i64 fl, .int .i64 lr, .int .i64 ll, .int .i64 lv, .slice a 0 cap] 102) := by rw [hw1]; exact (by repeat (first | exact heap_alloc_at _ _ _ (by (first | omega | (simp; done) | (simp; omega) | fail)) | (refine (heap_alloc_past _ _ _ ?_).trans ?_; · (first | omega | (simp; done) | (simp; omega) | fail)) | fail))
              have q2 : w1.heap[w.heap.size + 1]? = some (.cells #[.int .i64 gr, .int .i64 gl, .int .i64 lv, .slice ga 0 gcap] 42) := by rw [hw1]; exact (by repeat (first | exact heap_alloc_at _ _ _ (by (first | omega | (simp; done) | (simp; omega) | fail)) | (refine (heap_alloc_past _ _ _ ?_).trans ?_; · (first | omega | (simp; done) | (simp; omega) | fail)) | fail))
              go_enter Tryz.func51, Tryz.ntmps51
              go_wp2_with fail
              rw [← hw1]
              clear hw1
              have c0 := blk_cell q1 0; have c1 := blk_cell q1 1; have c2 := blk_cell q1 2; have c3 := blk_cell q1 3; have c4 := blk_cell q1 4; have c5 := blk_cell q1 5; have c6 := blk_cell q1 6
              have d0 := blk_cell q2 0; have d1 := blk_cell q2 1; have d2 := blk_cell q2 2; have d3 := blk_cell q2 3
              clear q1 q2
              have r2 := cell_regrown c2
              have r3 := cell_regrown c3
              have r4 := cell_regrown c4
              have r5 := cell_regrown c5
              have s0 := cell_regrown d0
              have s1 := cell_regrown d1
              have s2 := cell_regrown d2
              have cL : ∀ d os, Calls Tryz.prog 74 #[.agg #[.int .i64 lr, .int .i64 ll]] (grow (redrawn w1 d) os) (fun e w'' => e = .returned (.bool true) ∧ ∃ p : Regrown, w'' = grow (redrawn w1 p.d) p.os) := fun d os => Calls.regrown_of (lettered_is' _ _ true hlt _)
              have cF : ∀ d os, Calls Tryz.prog 75 #[.agg #[.int .i64 lr, .int .i64 ll]] (grow (redrawn w1 d) os) (fun e w'' => e = .returned (.agg #[.int .i64 gr, .int .i64 l']) ∧ ∃ p : Regrown, w'' = grow (redrawn w1 p.d) p.os) := fun d os => Calls.regrown_of (HcF.out _)
              refine wp_region_quiet_below (by kernel_rfl) (by kernel_rfl) ?_; (repeat (go_big_quiet_step (first | exact cL _ _ | exact cF _ _))); refine wpQuiet_nil ?_; rintro w3 ⟨⟨d3, os3⟩, rfl⟩
              clear cL cF
              have hb13 := below_regrown w1 d3 os3
              have hb3 := hb1.trans (hb13.mono hb1.size)
              have HB3 := Lib.hid hb3
              clear hb13 hb3 hb1 r2 r3 r4 r5 s0 s1 s2 c0 c1 c2 c3 c4 c5 c6 d0 d1 d2
              go_wp2_with fail
              go_ret
              exact ⟨rfl, HB3.out⟩
      · have hR : (decide ((0 : Nat) = 0) && decide ((0 : Nat) = 0) && decide (lv = gv) && decide (ll < 23) && decide (nextS lr ll = (gr, gl))) = false := by simp [hv]
        rw [hR]
        have hvb : (lv == gv) = false := by simp [hv]
        clear hR hv
        obtain ⟨w1, hw1⟩ : ∃ w1, w1 = (w.alloc (.cells #[.int .i64 kd, .int .i64 fr, .int .i64 fl, .int .i64 lr, .int .i64 ll, .int .i64 lv, .slice a 0 cap] 102)).alloc (.cells #[.int .i64 gr, .int .i64 gl, .int .i64 gv, .slice ga 0 gcap] 42) := ⟨_, rfl⟩
        have hb1 : Below w.heap.size w w1 := by rw [hw1]; exact (by repeat (first | exact Below.refl _ _ | assumption | (refine Below.alloc ?_ ?_ _; rotate_left; · (first | omega | (simp; done) | (simp; omega) | fail)) | (refine Below.setCell ?_ ?_ _; rotate_left; · (first | omega | (simp; done) | (simp; omega) | fail)) | refine Below.drew ?_ | fail))
        have q1 : w1.heap[w.heap.size]? = some (.cells #[.int .i64 kd, .int .i64 fr, .int .i64 fl, .int .i64 lr, .int .i64 ll, .int .i64 lv, .slice a 0 cap] 102) := by rw [hw1]; exact (by repeat (first | exact heap_alloc_at _ _ _ (by (first | omega | (simp; done) | (simp; omega) | fail)) | (refine (heap_alloc_past _ _ _ ?_).trans ?_; · (first | omega | (simp; done) | (simp; omega) | fail)) | fail))
        have q2 : w1.heap[w.heap.size + 1]? = some (.cells #[.int .i64 gr, .int .i64 gl, .int .i64 gv, .slice ga 0 gcap] 42) := by rw [hw1]; exact (by repeat (first | exact heap_alloc_at _ _ _ (by (first | omega | (simp; done) | (simp; omega) | fail)) | (refine (heap_alloc_past _ _ _ ?_).trans ?_; · (first | omega | (simp; done) | (simp; omega) | fail)) | fail))
        go_enter Tryz.func51, Tryz.ntmps51
        go_wp2_with fail
        rw [← hw1]
        clear hw1
        have c0 := blk_cell q1 0; have c1 := blk_cell q1 1; have c2 := blk_cell q1 2; have c3 := blk_cell q1 3; have c4 := blk_cell q1 4; have c5 := blk_cell q1 5; have c6 := blk_cell q1 6
        have d0 := blk_cell q2 0; have d1 := blk_cell q2 1; have d2 := blk_cell q2 2; have d3 := blk_cell q2 3
        clear q1 q2
        have r2 := cell_regrown c2
        have r3 := cell_regrown c3
        have r4 := cell_regrown c4
        have r5 := cell_regrown c5
        have s0 := cell_regrown d0
        have s1 := cell_regrown d1
        have s2 := cell_regrown d2
        refine wp_region_quiet_below (by kernel_rfl) (by kernel_rfl) ?_; (repeat (go_big_quiet_step (fail))); refine wpQuiet_nil ?_; rintro w3 ⟨⟨d3, os3⟩, rfl⟩
        have hb13 := below_regrown w1 d3 os3
        have hb3 := hb1.trans (hb13.mono hb1.size)
        have HB3 := Lib.hid hb3
        clear hb13 hb3 hb1 r2 r3 r4 r5 s0 s1 s2 c0 c1 c2 c3 c4 c5 c6 d0 d1 d2
        go_wp2_with fail
        go_ret
        exact ⟨rfl, HB3.out⟩
    · subst hn
      have hR : (decide ((0 : Nat) = 0) && decide (m = 0) && decide (lv = gv) && decide (ll < 23) && decide (nextS lr ll = (gr, gl))) = false := by simp [hm]
      rw [hR]
      have hvb : ((m : Int) == 0) = false := by simp [hm]
      clear hR hm
      obtain ⟨w1, hw1⟩ : ∃ w1, w1 = (w.alloc (.cells #[.int .i64 kd, .int .i64 fr, .int .i64 fl, .int .i64 lr, .int .i64 ll, .int .i64 lv, .slice a 0 cap] 102)).alloc (.cells #[.int .i64 gr, .int .i64 gl, .int .i64 gv, .slice ga m gcap] 42) := ⟨_, rfl⟩
      have hb1 : Below w.heap.size w w1 := by rw [hw1]; exact (by repeat (first | exact Below.refl _ _ | assumption | (refine Below.alloc ?_ ?_ _; rotate_left; · (first | omega | (simp; done) | (simp; omega) | fail)) | (refine Below.setCell ?_ ?_ _; rotate_left; · (first | omega | (simp; done) | (simp; omega) | fail)) | refine Below.drew ?_ | fail))
      have q1 : w1.heap[w.heap.size]? = some (.cells #[.int .i64 kd, .int .i64 fr, .int .i64 fl, .int .i64 lr, .int .i64 ll, .int .i64 lv, .slice a 0 cap] 102) := by rw [hw1]; exact (by repeat (first | exact heap_alloc_at _ _ _ (by (first | omega | (simp; done) | (simp; omega) | fail)) | (refine (heap_alloc_past _ _ _ ?_).trans ?_; · (first | omega | (simp; done) | (simp; omega) | fail)) | fail))
      have q2 : w1.heap[w.heap.size + 1]? = some (.cells #[.int .i64 gr, .int .i64 gl, .int .i64 gv, .slice ga m gcap] 42) := by rw [hw1]; exact (by repeat (first | exact heap_alloc_at _ _ _ (by (first | omega | (simp; done) | (simp; omega) | fail)) | (refine (heap_alloc_past _ _ _ ?_).trans ?_; · (first | omega | (simp; done) | (simp; omega) | fail)) | fail))
      go_enter Tryz.func51, Tryz.ntmps51
      go_wp2_with fail
      rw [← hw1]
      clear hw1
      have c0 := blk_cell q1 0; have c1 := blk_cell q1 1; have c2 := blk_cell q1 2; have c3 := blk_cell q1 3; have c4 := blk_cell q1 4; have c5 := blk_cell q1 5; have c6 := blk_cell q1 6
      have d0 := blk_cell q2 0; have d1 := blk_cell q2 1; have d2 := blk_cell q2 2; have d3 := blk_cell q2 3
      clear q1 q2
      have r2 := cell_regrown c2
      have r3 := cell_regrown c3
      have r4 := cell_regrown c4
      have r5 := cell_regrown c5
      have s0 := cell_regrown d0
      have s1 := cell_regrown d1
      have s2 := cell_regrown d2
      refine wp_region_quiet_below (by kernel_rfl) (by kernel_rfl) ?_; (repeat (go_big_quiet_step (fail))); refine wpQuiet_nil ?_; rintro w3 ⟨⟨d3, os3⟩, rfl⟩
      have hb13 := below_regrown w1 d3 os3
      have hb3 := hb1.trans (hb13.mono hb1.size)
      have HB3 := Lib.hid hb3
      clear hb13 hb3 hb1 r2 r3 r4 r5 s0 s1 s2 c0 c1 c2 c3 c4 c5 c6 d0 d1 d2
      go_wp2_with fail
      go_ret
      exact ⟨rfl, HB3.out⟩
  · have hR : (decide (n = 0) && decide (m = 0) && decide (lv = gv) && decide (ll < 23) && decide (nextS lr ll = (gr, gl))) = false := by simp [hn]
    rw [hR]
    have hvb : ((n : Int) == 0) = false := by simp [hn]
    clear hR hn
    obtain ⟨w1, hw1⟩ : ∃ w1, w1 = (w.alloc (.cells #[.int .i64 kd, .int .i64 fr, .int .i64 fl, .int .i64 lr, .int .i64 ll, .int .i64 lv, .slice a n cap] 102)).alloc (.cells #[.int .i64 gr, .int .i64 gl, .int .i64 gv, .slice ga m gcap] 42) := ⟨_, rfl⟩
    have hb1 : Below w.heap.size w w1 := by rw [hw1]; exact (by repeat (first | exact Below.refl _ _ | assumption | (refine Below.alloc ?_ ?_ _; rotate_left; · (first | omega | (simp; done) | (simp; omega) | fail)) | (refine Below.setCell ?_ ?_ _; rotate_left; · (first | omega | (simp; done) | (simp; omega) | fail)) | refine Below.drew ?_ | fail))
    have q1 : w1.heap[w.heap.size]? = some (.cells #[.int .i64 kd, .int .i64 fr, .int .i64 fl, .int .i64 lr, .int .i64 ll, .int .i64 lv, .slice a n cap] 102) := by rw [hw1]; exact (by repeat (first | exact heap_alloc_at _ _ _ (by (first | omega | (simp; done) | (simp; omega) | fail)) | (refine (heap_alloc_past _ _ _ ?_).trans ?_; · (first | omega | (simp; done) | (simp; omega) | fail)) | fail))
    have q2 : w1.heap[w.heap.size + 1]? = some (.cells #[.int .i64 gr, .int .i64 gl, .int .i64 gv, .slice ga m gcap] 42) := by rw [hw1]; exact (by repeat (first | exact heap_alloc_at _ _ _ (by (first | omega | (simp; done) | (simp; omega) | fail)) | (refine (heap_alloc_past _ _ _ ?_).trans ?_; · (first | omega | (simp; done) | (simp; omega) | fail)) | fail))
    go_enter Tryz.func51, Tryz.ntmps51
    go_wp2_with fail
    rw [← hw1]
    clear hw1
    have c0 := blk_cell q1 0; have c1 := blk_cell q1 1; have c2 := blk_cell q1 2; have c3 := blk_cell q1 3; have c4 := blk_cell q1 4; have c5 := blk_cell q1 5; have c6 := blk_cell q1 6
    have d0 := blk_cell q2 0; have d1 := blk_cell q2 1; have d2 := blk_cell q2 2; have d3 := blk_cell q2 3
    clear q1 q2
    have r2 := cell_regrown c2
    have r3 := cell_regrown c3
    have r4 := cell_regrown c4
    have r5 := cell_regrown c5
    have s0 := cell_regrown d0
    have s1 := cell_regrown d1
    have s2 := cell_regrown d2
    refine wp_region_quiet_below (by kernel_rfl) (by kernel_rfl) ?_; (repeat (go_big_quiet_step (fail))); refine wpQuiet_nil ?_; rintro w3 ⟨⟨d3, os3⟩, rfl⟩
    have hb13 := below_regrown w1 d3 os3
    have hb3 := hb1.trans (hb13.mono hb1.size)
    have HB3 := Lib.hid hb3
    clear hb13 hb3 hb1 r2 r3 r4 r5 s0 s1 s2 c0 c1 c2 c3 c4 c5 c6 d0 d1 d2
    go_wp2_with fail
    go_ret
    exact ⟨rfl, HB3.out⟩

end Go.Proofs.YtimdmgkegdlafaaGreatDoor

/- The fewest items that stand for gatherings. -/
namespace Go.Proofs.YtimdmgkegdlafaaGreatDoor
set_option linter.unusedSimpArgs false
set_option linter.unusedVariables false
open Go Go.RowKit Go.Sort Go.BigFrame

/-- One more gathering behind items, with their slices of changes. -/
def ysStep (ys : List (Itm × Value)) (z : Gth × Value) : List (Itm × Value) := match ys.getLast? with
  | some y => if takesB y.1 z.1 then ys.dropLast ++ [({ y.1 with kind := 1, lr := z.1.round, ll := z.1.letter }, y.2)] else ys ++ [(itm1 z.1, z.2)]
  | none => [(itm1 z.1, z.2)]
theorem ysStep_map (ys : List (Itm × Value)) (z : Gth × Value) : (ysStep ys z).map (·.1) = itmStep (ys.map (·.1)) z.1 := by
  rcases List.eq_nil_or_concat ys with rfl | ⟨zs, y, rfl⟩
  · simp [ysStep, itmStep]
  · simp only [ysStep, itmStep, List.map_append, List.map_cons, List.map_nil, List.getLast?_append, List.getLast?_singleton, Option.some_or]
    by_cases h : takesB y.1 z.1 = true <;> simp [h]
/-- The items so far. -/
structure Its (w wr : World) (v : Value) (ys : List (Itm × Value)) : Prop where
  row : wr.ownsRow w.heap.size 102 7 v ys.length (itCells ys)
  chs : ∀ y ∈ ys, ChsAt w.heap.size w y.2 y.1.chs
  below : Below w.heap.size w wr
theorem Its.same {w wr wr' : World} {v : Value} {ys : List (Itm × Value)} (h : Its w wr v ys) (hb : Below wr.heap.size wr wr') : Its w wr' v ys :=
  ⟨row_later h.row hb, h.chs, h.below.trans (hb.mono h.below.size)⟩
theorem Its.add {w wr wr' : World} {v v' : Value} {ys : List (Itm × Value)} {y : Itm × Value} (h : Its w wr v ys) (hy : ChsAt w.heap.size w y.2 y.1.chs) (hr : wr'.ownsRow w.heap.size 102 7 v' (ys.length + 1) (itCells ys ++ itC y)) (hg : wr.grownBy wr' v.ownBlock) : Its w wr' v' (ys ++ [y]) :=
  ⟨by rw [List.length_append]; simpa [itCells] using hr, fun z hz => by
    rcases List.mem_append.1 hz with hz | hz
    · exact h.chs z hz
    · simp only [List.mem_singleton] at hz; subst hz; exact hy, h.below.grown hg h.below.size (fun j ej => (h.row.lt j ej).1)⟩
theorem itCells_len (ys : List (Itm × Value)) : (itCells ys).length = ys.length * 7 := by
  unfold itCells
  induction ys with
  | nil => rfl
  | cons y ys ih => simp only [List.flatMap_cons, List.length_append, ih, List.length_cons]; simp [itC]; omega
/-- The last item's cells, and what becomes of the row if it is drawn out. -/
theorem Its.last {w wr : World} {v : Value} {zs : List (Itm × Value)} {y : Itm × Value} (h : Its w wr v (zs ++ [y])) : ∃ g cap, v = .slice (some ⟨g, 0, none⟩) (zs.length + 1) cap ∧ w.heap.size ≤ g ∧ g < wr.heap.size ∧
    (wr.cell? ⟨g, zs.length * 7, none⟩ = some (.int .i64 y.1.kind) ∧ wr.cell? ⟨g, zs.length * 7 + 1, none⟩ = some (.int .i64 y.1.fr) ∧ wr.cell? ⟨g, zs.length * 7 + 2, none⟩ = some (.int .i64 y.1.fl) ∧ wr.cell? ⟨g, zs.length * 7 + 3, none⟩ = some (.int .i64 y.1.lr) ∧
      wr.cell? ⟨g, zs.length * 7 + 4, none⟩ = some (.int .i64 y.1.ll) ∧ wr.cell? ⟨g, zs.length * 7 + 5, none⟩ = some (.int .i64 y.1.leaves) ∧ wr.cell? ⟨g, zs.length * 7 + 6, none⟩ = some y.2) ∧ (∀ j, wr.frozen? ⟨g, j, none⟩ = false) ∧
    ∀ r l : Int, Its w (((wr.setCell ⟨g, zs.length * 7, none⟩ (.int .i64 1)).setCell ⟨g, zs.length * 7 + 3, none⟩ (.int .i64 r)).setCell ⟨g, zs.length * 7 + 4, none⟩ (.int .i64 l)) v (zs ++ [({ y.1 with kind := 1, lr := r, ll := l }, y.2)]) := by
  have hlen : (zs ++ [y]).length = zs.length + 1 := by simp
  rcases h.row.2 with ⟨-, h0⟩ | ⟨g, cap, cur, rfl, hbg, hg, hnc, hrest⟩
  · rw [hlen] at h0; omega
  · have hrow := h.row
    rw [hlen] at hrow ⊢
    have hf := flat_at (f := itC) (n := 7) (fun _ => rfl) (xs := zs ++ [y]) (i := zs.length) (x := y) (by simp)
    have hcl := hrow.cells (g := g) (by simp [Value.ownBlock])
    have q : ∀ j u, j < 7 → (itC y)[j]? = some u → wr.cell? ⟨g, zs.length * 7 + j, none⟩ = some u := fun j u hj hu => by
      have := hcl _ _ ((hf j hj).trans hu)
      rwa [add_off'] at this
    refine ⟨g, cap, rfl, hbg, blk_lt hg, ⟨q 0 _ (by omega) rfl, q 1 _ (by omega) rfl, q 2 _ (by omega) rfl, q 3 _ (by omega) rfl, q 4 _ (by omega) rfl, q 5 _ (by omega) rfl, q 6 _ (by omega) rfl⟩, fun j => hrow.frozenAt j, fun r l => ⟨?_, ?_, ?_⟩⟩
    · have h1 := ((hrow.stored (zs.length * 7) (.int .i64 1)).1.stored (zs.length * 7 + 3) (.int .i64 r)).1.stored (zs.length * 7 + 4) (.int .i64 l)
      have e : (((itCells (zs ++ [y])).set (zs.length * 7) (.int .i64 1)).set (zs.length * 7 + 3) (.int .i64 r)).set (zs.length * 7 + 4) (.int .i64 l) = itCells (zs ++ [({ y.1 with kind := 1, lr := r, ll := l }, y.2)]) := by
        have hz := itCells_len zs
        unfold itCells at hz ⊢
        rw [List.flatMap_append, List.flatMap_append, ← hz]
        simp only [List.flatMap_cons, List.flatMap_nil, List.append_nil]
        rw [List.set_append_right _ _ (by omega), List.set_append_right _ _ (by omega), List.set_append_right _ _ (by omega), Nat.sub_self, Nat.add_sub_cancel_left, Nat.add_sub_cancel_left]
        rfl
      rw [e] at h1
      simpa using h1.1
    · intro z hz
      rcases List.mem_append.1 hz with hz | hz
      · exact h.chs z (by simp [hz])
      · simp only [List.mem_singleton] at hz; subst hz; exact h.chs y (by simp)
    · exact ((h.below.setCell (p := ⟨g, _, none⟩) hbg _).setCell (p := ⟨g, _, none⟩) hbg _).setCell (p := ⟨g, _, none⟩) hbg _

end Go.Proofs.YtimdmgkegdlafaaGreatDoor
