/- The parts Gb of the proof, joined. It holds without conditions of its own. -/
import Derived.Test.YtimdmgkegdlafaaGreatDoorSH33
/- The reference's follows. -/
namespace Go.Proofs.YtimdmgkegdlafaaGreatDoor
set_option linter.unusedSimpArgs false
set_option linter.unusedVariables false
open Go Go.RowKit Go.Sort Go.BigFrame Go.Shelf
attribute [local go_sem] Oper.semAt_some putAll

/-- Whether a gathering can be in an item with the one before it. -/
def follB (g h : Gth) : Bool := decide (0 ≤ rankF g.round g.letter) && (rankF h.round h.letter == rankF g.round g.letter + 1) && (g.leaves == h.leaves) && (((g.chs.length : Nat) : Int) == 0) && (((h.chs.length : Nat) : Int) == 0)

set_option maxRecDepth 100000 in
set_option maxHeartbeats 1600000 in
theorem refFollows_any (g h : Gth) (ca cb : Option Addr) (ccap dcap : Nat) (w : World) (hg : GOk g) (hh : GOk h) :
    Calls Tryz.prog 54 #[.agg #[.int .i64 g.round, .int .i64 g.letter, .int .i64 g.leaves, .slice ca g.chs.length ccap], .agg #[.int .i64 h.round, .int .i64 h.letter, .int .i64 h.leaves, .slice cb h.chs.length dcap]] w fun e w' => e = .returned (.bool (follB g h)) ∧ Below w.heap.size w w' := by
  have hG := hg.sig
  have hH := hh.sig
  have hb : 1 ≤ g.round ∧ g.round ≤ 3 ∧ 0 ≤ g.letter ∧ g.letter ≤ 24 := by simp [sigB, inB] at hG; omega
  obtain ⟨Q, hQ⟩ : ∃ Q, Q = rankF g.round g.letter := ⟨_, rfl⟩
  obtain ⟨R, hR⟩ : ∃ R, R = rankF h.round h.letter := ⟨_, rfl⟩
  obtain ⟨n, hn⟩ : ∃ n, n = g.chs.length := ⟨_, rfl⟩
  obtain ⟨m, hm⟩ : ∃ m, m = h.chs.length := ⟨_, rfl⟩
  have HV : Hid (follB g h = (decide (0 ≤ Q) && (R == Q + 1) && (g.leaves == h.leaves) && ((n : Int) == 0) && ((m : Int) == 0))) := Lib.hid (by unfold follB; rw [← hQ, ← hR, ← hn, ← hm])
  have hQb : -1 ≤ Q ∧ Q ≤ 100 := by rw [hQ]; unfold rankF; split <;> omega
  have w1' : IntKind.i64.wrap (Q + 1) = Q + 1 := IntWalk.i64_in _ (by omega)
  have HQ := Lib.hid hQ
  have HR := Lib.hid hR
  have HG := Lib.hid hG
  have HH := Lib.hid hH
  rw [← hn, ← hm]
  clear hQ hR hn hm hG hH hb hg hh
  go_enter Tryz.func54, Tryz.ntmps54
  go_wp2_with fail
  obtain ⟨w1, hw1⟩ : ∃ w1, w1 = (w.alloc (.cells #[.int .i64 g.round, .int .i64 g.letter, .int .i64 g.leaves, .slice ca n ccap] 42)).alloc (.cells #[.int .i64 h.round, .int .i64 h.letter, .int .i64 h.leaves, .slice cb m dcap] 42) := ⟨_, rfl⟩
  have HB0 : Hid (Below w.heap.size w w1) := Lib.hid (by rw [hw1]; exact (by repeat (first | (refine Below.setCell ?_ ?_ _; rotate_left; · (first | omega | (simp; done) | (simp; omega) | fail)) | (refine Below.alloc ?_ ?_ _; rotate_left; · (first | omega | (simp; done) | (simp; omega) | fail)) | refine Below.drew ?_ | exact Below.refl _ _ | fail)))
  have HX : w1.heap[w.heap.size]? = some (.cells #[.int .i64 g.round, .int .i64 g.letter, .int .i64 g.leaves, .slice ca n ccap] 42) := by rw [hw1]; exact (by repeat (first | exact heap_alloc_at _ _ _ (by (first | omega | (simp; done) | (simp; omega) | fail)) | (refine (heap_alloc_past _ _ _ ?_).trans ?_; · (first | omega | (simp; done) | (simp; omega) | fail)) | fail))
  have HY : w1.heap[w.heap.size + 1]? = some (.cells #[.int .i64 h.round, .int .i64 h.letter, .int .i64 h.leaves, .slice cb m dcap] 42) := by rw [hw1]; exact (by repeat (first | exact heap_alloc_at _ _ _ (by (first | omega | (simp; done) | (simp; omega) | fail)) | (refine (heap_alloc_past _ _ _ ?_).trans ?_; · (first | omega | (simp; done) | (simp; omega) | fail)) | fail))
  rw [← hw1]
  clear hw1
  have q0 := blk_cell HX 0; have q1 := blk_cell HX 1; have q2 := blk_cell HX 2; have q3 := blk_cell HX 3
  have p0 := blk_cell HY 0; have p1 := blk_cell HY 1; have p2 := blk_cell HY 2; have p3 := blk_cell HY 3
  have r0 := cell_regrown q0
  have r1 := cell_regrown q1
  have r2 := cell_regrown q2
  have r3 := cell_regrown q3
  have s0 := cell_regrown p0
  have s1 := cell_regrown p1
  have s2 := cell_regrown p2
  have s3 := cell_regrown p3
  clear q0 q1 q2 q3 p0 p1 p2 p3 HX HY
  have cG : ∀ d os, Calls Tryz.prog 68 #[.agg #[.int .i64 g.round, .int .i64 g.letter]] (grow (redrawn w1 d) os) (fun e w'' => e = .returned (.int .i64 Q) ∧ ∃ p : Regrown, w'' = grow (redrawn w1 p.d) p.os) := fun d os => Calls.regrown_of (by have h := refRank_any g.round g.letter (grow (redrawn w1 d) os) HG.out; rwa [← HQ.out] at h)
  have cH : ∀ d os, Calls Tryz.prog 68 #[.agg #[.int .i64 h.round, .int .i64 h.letter]] (grow (redrawn w1 d) os) (fun e w'' => e = .returned (.int .i64 R) ∧ ∃ p : Regrown, w'' = grow (redrawn w1 p.d) p.os) := fun d os => Calls.regrown_of (by have h := refRank_any h.round h.letter (grow (redrawn w1 d) os) HH.out; rwa [← HR.out] at h)
  cases e1 : decide (0 ≤ Q) with
  | false => 
    go_wp2_with fail
    refine wp_region_quiet_below (by kernel_rfl) (by kernel_rfl) ?_; (repeat (go_big_quiet_step (first | with_reducible exact cG _ _ | with_reducible exact cH _ _))); refine wpQuiet_nil ?_; rintro w6 ⟨⟨d6, os6⟩, rfl⟩
    have HB := Lib.hid (HB0.out.trans ((below_regrown w1 d6 os6).mono HB0.out.size))
    clear r0 r1 r2 r3 s0 s1 s2 s3 cG cH
    go_wp2_with fail
    go_ret
    exact ⟨by rw [HV.out, e1]; rfl, HB.out⟩
  | true =>
    cases e2 : (R == Q + 1) with
    | false =>
      go_wp2_with fail
      refine wp_region_quiet_below (by kernel_rfl) (by kernel_rfl) ?_; (repeat (go_big_quiet_step (first | with_reducible exact cG _ _ | with_reducible exact cH _ _))); refine wpQuiet_nil ?_; rintro w6 ⟨⟨d6, os6⟩, rfl⟩
      have HB := Lib.hid (HB0.out.trans ((below_regrown w1 d6 os6).mono HB0.out.size))
      clear r0 r1 r2 r3 s0 s1 s2 s3 cG cH
      go_wp2_with fail
      go_ret
      exact ⟨by rw [HV.out, e1, e2]; rfl, HB.out⟩
    | true =>
      cases e3 : (g.leaves == h.leaves) with
      | false =>
        go_wp2_with fail
        refine wp_region_quiet_below (by kernel_rfl) (by kernel_rfl) ?_; (repeat (go_big_quiet_step (first | with_reducible exact cG _ _ | with_reducible exact cH _ _))); refine wpQuiet_nil ?_; rintro w6 ⟨⟨d6, os6⟩, rfl⟩
        have HB := Lib.hid (HB0.out.trans ((below_regrown w1 d6 os6).mono HB0.out.size))
        clear r0 r1 r2 r3 s0 s1 s2 s3 cG cH
        go_wp2_with fail
        go_ret
        exact ⟨by rw [HV.out, e1, e2, e3]; rfl, HB.out⟩
      | true =>
        cases e4 : ((n : Int) == 0) with
        | false =>
          go_wp2_with fail
          refine wp_region_quiet_below (by kernel_rfl) (by kernel_rfl) ?_; (repeat (go_big_quiet_step (first | with_reducible exact cG _ _ | with_reducible exact cH _ _))); refine wpQuiet_nil ?_; rintro w6 ⟨⟨d6, os6⟩, rfl⟩
          have HB := Lib.hid (HB0.out.trans ((below_regrown w1 d6 os6).mono HB0.out.size))
          clear r0 r1 r2 r3 s0 s1 s2 s3 cG cH
          go_wp2_with fail
          go_ret
          exact ⟨by rw [HV.out, e1, e2, e3, e4]; rfl, HB.out⟩
        | true =>
          go_wp2_with fail
          refine wp_region_quiet_below (by kernel_rfl) (by kernel_rfl) ?_; (repeat (go_big_quiet_step (first | with_reducible exact cG _ _ | with_reducible exact cH _ _))); refine wpQuiet_nil ?_; rintro w6 ⟨⟨d6, os6⟩, rfl⟩
          have HB := Lib.hid (HB0.out.trans ((below_regrown w1 d6 os6).mono HB0.out.size))
          clear r0 r1 r2 r3 s0 s1 s2 s3 cG cH
          go_wp2_with fail
          go_ret
          exact ⟨by rw [HV.out, e1, e2, e3, e4]; rfl, HB.out⟩
end Go.Proofs.YtimdmgkegdlafaaGreatDoor
