/- The parts Qa, Qb, Hp of the proof, joined. It holds without conditions of its own. -/
import Derived.Test.YtockagnnpeoggaaGreatDoorProg
import Derived.Test.YtockagnnpeoggaaGreatDoorLV1
import Derived.WalkKit
import Derived.WalkSpells
import Derived.WalkLawsBesides
import Derived.Deep.QuietTactic
import Derived.BigQuiet
import Derived.Lib.Hide
import Derived.Outline
import Derived.LoopN
import Derived.Below
import Derived.Laws.World
import Derived.Laws.NewBlocks
import Derived.RangeFuncRecord
import Derived.Deep.Draws
/- Contracts of the small functions of package quire: within, isSig, lettered, behind, following. -/
namespace Go.Proofs.YtockagnnpeoggaaGreatDoor
set_option linter.unusedSimpArgs false
set_option linter.unusedVariables false
open Go.RowKit


set_option maxHeartbeats 400000 in
theorem within_one (lo hi x : Int) (b : Nat) (w : World) (hc : w.cell? ⟨b, 0, none⟩ = some (.int .i64 x)) :
    Calls Tryz.prog 75 #[.int .i64 lo, .int .i64 hi, .slice (some ⟨b, 0, none⟩) 1 1] w fun e w' => e = .returned (.bool (inB lo hi x)) ∧ w = w' := by
  by_cases h1 : lo ≤ x
  · by_cases h2 : x ≤ hi
    · have hr : inB lo hi x = true := by simp [inB, h1, h2]
      rw [hr]; clear hr
      go_enter Tryz.func75, Tryz.ntmps75
      go_wp2
      refine wp_loop_rounds 2 ?_
      rw [rounds_succ]
      go_wp2
      rw [rounds_succ]
      go_wp2
      go_ret
      exact ⟨rfl, rfl⟩
    · have hr : inB lo hi x = false := by simp [inB, h2]
      rw [hr]; clear hr
      go_enter Tryz.func75, Tryz.ntmps75
      go_wp2
      refine wp_loop_rounds 2 ?_
      rw [rounds_succ]
      go_wp2
      go_ret
      exact ⟨rfl, rfl⟩
  · have hr : inB lo hi x = false := by simp [inB, h1]
    rw [hr]; clear hr
    go_enter Tryz.func75, Tryz.ntmps75
    go_wp2
    refine wp_loop_rounds 2 ?_
    rw [rounds_succ]
    go_wp2
    go_ret
    exact ⟨rfl, rfl⟩

set_option maxHeartbeats 400000 in
theorem lettered_any (r l : Int) (w : World) :
    Calls Tryz.prog 68 #[.agg #[.int .i64 r, .int .i64 l]] w fun e w' => e = .returned (.bool (decide (l < 23))) ∧ Below w.heap.size w w' := by
  go_enter Tryz.func68, Tryz.ntmps68
  go_wp2
  go_ret
  exact ⟨rfl, (by repeat (first | exact Below.refl _ _ | assumption | (refine Below.alloc ?_ ?_ _; rotate_left; · (first | omega | (simp; done) | (simp; omega) | (simp at *; omega) | fail)) | (refine Below.setCell ?_ ?_ _; rotate_left; · (first | omega | (simp; done) | (simp; omega) | (simp at *; omega) | fail)) | refine Below.drew ?_ | fail))⟩

set_option maxHeartbeats 400000 in
theorem isSig_any (r l : Int) (w : World) :
    Calls Tryz.prog 72 #[.agg #[.int .i64 r, .int .i64 l]] w fun e w' => e = .returned (.bool (sigB r l)) ∧ Below w.heap.size w w' := by
  unfold sigB
  cases h1 : inB 1 3 r
  · go_enter Tryz.func72, Tryz.ntmps72
    go_wp2_with fail
    refine (within_one _ _ r _ _ (by simp [World.cell?_alloc_at])).mono ?_
    rintro e w' ⟨rfl, rfl⟩
    rw [h1]
    go_wp2_with fail
    go_ret
    exact ⟨rfl, (by repeat (first | exact Below.refl _ _ | assumption | (refine Below.alloc ?_ ?_ _; rotate_left; · (first | omega | (simp; done) | (simp; omega) | (simp at *; omega) | fail)) | (refine Below.setCell ?_ ?_ _; rotate_left; · (first | omega | (simp; done) | (simp; omega) | (simp at *; omega) | fail)) | refine Below.drew ?_ | fail))⟩
  · go_enter Tryz.func72, Tryz.ntmps72
    go_wp2_with fail
    refine (within_one _ _ r _ _ (by simp [World.cell?_alloc_at])).mono ?_
    rintro e w' ⟨rfl, rfl⟩
    go_wp2_with fail
    refine (within_one _ _ l _ _ (by simp [World.cell?_alloc_at])).mono ?_
    rintro e w' ⟨rfl, rfl⟩
    go_wp2_with fail
    go_ret
    exact ⟨rfl, (by repeat (first | exact Below.refl _ _ | assumption | (refine Below.alloc ?_ ?_ _; rotate_left; · (first | omega | (simp; done) | (simp; omega) | (simp at *; omega) | fail)) | (refine Below.setCell ?_ ?_ _; rotate_left; · (first | omega | (simp; done) | (simp; omega) | (simp at *; omega) | fail)) | refine Below.drew ?_ | fail))⟩

set_option maxHeartbeats 400000 in
theorem behind_any (r l r' l' : Int) (w : World) :
    Calls Tryz.prog 109 #[.agg #[.int .i64 r, .int .i64 l], .agg #[.int .i64 r', .int .i64 l']] w fun e w' => e = .returned (.bool (behindB r l r' l')) ∧ Below w.heap.size w w' := by
  unfold behindB
  by_cases h : r = r'
  · subst h
    go_enter Tryz.func109, Tryz.ntmps109
    go_wp2
    go_ret
    exact ⟨by simp, (by repeat (first | exact Below.refl _ _ | assumption | (refine Below.alloc ?_ ?_ _; rotate_left; · (first | omega | (simp; done) | (simp; omega) | (simp at *; omega) | fail)) | (refine Below.setCell ?_ ?_ _; rotate_left; · (first | omega | (simp; done) | (simp; omega) | (simp at *; omega) | fail)) | refine Below.drew ?_ | fail))⟩
  · have hb : (r == r') = false := by simp [h]
    rw [if_neg h]
    go_enter Tryz.func109, Tryz.ntmps109
    go_wp2
    go_ret
    exact ⟨rfl, (by repeat (first | exact Below.refl _ _ | assumption | (refine Below.alloc ?_ ?_ _; rotate_left; · (first | omega | (simp; done) | (simp; omega) | (simp at *; omega) | fail)) | (refine Below.setCell ?_ ?_ _; rotate_left; · (first | omega | (simp; done) | (simp; omega) | (simp at *; omega) | fail)) | refine Below.drew ?_ | fail))⟩

set_option maxHeartbeats 400000 in
theorem following_any (r l : Int) (w : World) (hl : 0 ≤ l ∧ l ≤ 100) (hr : 0 ≤ r ∧ r ≤ 100) :
    Calls Tryz.prog 73 #[.agg #[.int .i64 r, .int .i64 l]] w fun e w' => e = .returned (if l < 22 then .agg #[.int .i64 r, .int .i64 (l + 1)] else .agg #[.int .i64 (r + 1), .int .i64 0]) ∧ Below w.heap.size w w' := by
  obtain ⟨hl0, hl1⟩ := hl
  obtain ⟨hr0, hr1⟩ := hr
  by_cases h : l + 1 < 23
  · rw [if_pos (by omega)]
    go_enter Tryz.func73, Tryz.ntmps73
    go_wp2
    exact bodyPost_ret (v := .agg #[.int .i64 r, .int .i64 (l + 1)]) (by simp [results, Tryz.results73, go_sem]) rfl ⟨rfl, (by repeat (first | exact Below.refl _ _ | assumption | (refine Below.alloc ?_ ?_ _; rotate_left; · (first | omega | (simp; done) | (simp; omega) | (simp at *; omega) | fail)) | (refine Below.setCell ?_ ?_ _; rotate_left; · (first | omega | (simp; done) | (simp; omega) | (simp at *; omega) | fail)) | refine Below.drew ?_ | fail))⟩
  · rw [if_neg (by omega)]
    go_enter Tryz.func73, Tryz.ntmps73
    go_wp2
    exact bodyPost_ret (v := .agg #[.int .i64 (r + 1), .int .i64 0]) (by simp [results, Tryz.results73, go_sem]) rfl ⟨rfl, (by repeat (first | exact Below.refl _ _ | assumption | (refine Below.alloc ?_ ?_ _; rotate_left; · (first | omega | (simp; done) | (simp; omega) | (simp at *; omega) | fail)) | (refine Below.setCell ?_ ?_ _; rotate_left; · (first | omega | (simp; done) | (simp; omega) | (simp at *; omega) | fail)) | refine Below.drew ?_ | fail))⟩

end Go.Proofs.YtockagnnpeoggaaGreatDoor

/- Contracts of package quire: what a change is, and whether it may be where it is. -/
namespace Go.Proofs.YtockagnnpeoggaaGreatDoor
set_option linter.unusedSimpArgs false
set_option linter.unusedVariables false
open Go.RowKit

theorem tmod2 (n : Int) : n.tmod 2 = 0 ↔ n % 2 = 0 := by rw [← Int.dvd_iff_tmod_eq_zero, Int.dvd_iff_emod_eq_zero]

def chV (c : Chg) : Value := .agg #[.int .i64 c.kind, .int .i64 c.pos, .int .i64 c.many]
def deedV (c : Chg) : Value :=
  if c.kind = 1 then .iface 167 (.agg #[.int .i64 c.pos])
  else if c.kind = 2 then .iface 168 (.agg #[.int .i64 c.pos])
  else if c.kind = 3 then .iface 170 (.agg #[.int .i64 c.pos, .int .i64 c.many])
  else .nilIface

set_option maxHeartbeats 400000 in
theorem isFolded_any (n : Int) (w : World) :
    Calls Tryz.prog 110 #[.int .i64 n] w fun e w' => e = .returned (.bool (foldedB n)) ∧ Below w.heap.size w w' := by
  unfold foldedB
  by_cases h1 : n = 1
  · subst h1
    go_enter Tryz.func110, Tryz.ntmps110
    go_wp2_with fail
    go_ret
    exact ⟨rfl, (by repeat (first | exact Below.refl _ _ | assumption | (refine Below.alloc ?_ ?_ _; rotate_left; · (first | omega | (simp; done) | (simp; omega) | (simp at *; omega) | fail)) | (refine Below.setCell ?_ ?_ _; rotate_left; · (first | omega | (simp; done) | (simp; omega) | (simp at *; omega) | fail)) | refine Below.drew ?_ | fail))⟩
  · have h1b : (n == 1) = false := by simp [h1]
    by_cases h2 : n % 2 = 0
    · have h2b : (n.tmod 2 == 0) = true := by rw [beq_iff_eq, tmod2]; exact h2
      have h3 : (decide (n = 1) || decide (n % 2 = 0) && inB 2 12 n) = inB 2 12 n := by simp [h1, h2]
      rw [h3]; clear h3 h2
      go_enter Tryz.func110, Tryz.ntmps110
      go_wp2_with fail
      refine (within_one _ _ n _ _ (by simp [World.cell?_alloc_at])).mono ?_
      rintro e w' ⟨rfl, rfl⟩
      go_wp2_with fail
      go_ret
      exact ⟨rfl, (by repeat (first | exact Below.refl _ _ | assumption | (refine Below.alloc ?_ ?_ _; rotate_left; · (first | omega | (simp; done) | (simp; omega) | (simp at *; omega) | fail)) | (refine Below.setCell ?_ ?_ _; rotate_left; · (first | omega | (simp; done) | (simp; omega) | (simp at *; omega) | fail)) | refine Below.drew ?_ | fail))⟩
    · have h2b : (n.tmod 2 == 0) = false := by rw [beq_eq_false_iff_ne, Ne, tmod2]; exact h2
      have h3 : (decide (n = 1) || decide (n % 2 = 0) && inB 2 12 n) = false := by simp [h1, h2]
      rw [h3]; clear h3 h2
      go_enter Tryz.func110, Tryz.ntmps110
      go_wp2_with fail
      go_ret
      exact ⟨rfl, (by repeat (first | exact Below.refl _ _ | assumption | (refine Below.alloc ?_ ?_ _; rotate_left; · (first | omega | (simp; done) | (simp; omega) | (simp at *; omega) | fail)) | (refine Below.setCell ?_ ?_ _; rotate_left; · (first | omega | (simp; done) | (simp; omega) | (simp at *; omega) | fail)) | refine Below.drew ?_ | fail))⟩

set_option maxHeartbeats 400000 in
theorem deedOf_any (c : Chg) (w : World) :
    Calls Tryz.prog 113 #[.agg #[.int .i64 c.kind, .int .i64 c.pos, .int .i64 c.many]] w fun e w' => e = .returned (deedV c) ∧ Below w.heap.size w w' := by
  obtain ⟨k, p, m⟩ := c
  unfold deedV
  dsimp only
  by_cases h1 : k = 1
  · subst h1
    go_enter Tryz.func113, Tryz.ntmps113
    go_wp2
    go_ret
    exact ⟨rfl, (by repeat (first | exact Below.refl _ _ | assumption | (refine Below.alloc ?_ ?_ _; rotate_left; · (first | omega | (simp; done) | (simp; omega) | (simp at *; omega) | fail)) | (refine Below.setCell ?_ ?_ _; rotate_left; · (first | omega | (simp; done) | (simp; omega) | (simp at *; omega) | fail)) | refine Below.drew ?_ | fail))⟩
  · have b1 : (k == 1) = false := by simp [h1]
    rw [if_neg h1]
    by_cases h2 : k = 2
    · subst h2
      go_enter Tryz.func113, Tryz.ntmps113
      go_wp2
      go_ret
      exact ⟨rfl, (by repeat (first | exact Below.refl _ _ | assumption | (refine Below.alloc ?_ ?_ _; rotate_left; · (first | omega | (simp; done) | (simp; omega) | (simp at *; omega) | fail)) | (refine Below.setCell ?_ ?_ _; rotate_left; · (first | omega | (simp; done) | (simp; omega) | (simp at *; omega) | fail)) | refine Below.drew ?_ | fail))⟩
    · have b2 : (k == 2) = false := by simp [h2]
      rw [if_neg h2]
      by_cases h3 : k = 3
      · subst h3
        go_enter Tryz.func113, Tryz.ntmps113
        go_wp2
        go_ret
        exact ⟨rfl, (by repeat (first | exact Below.refl _ _ | assumption | (refine Below.alloc ?_ ?_ _; rotate_left; · (first | omega | (simp; done) | (simp; omega) | (simp at *; omega) | fail)) | (refine Below.setCell ?_ ?_ _; rotate_left; · (first | omega | (simp; done) | (simp; omega) | (simp at *; omega) | fail)) | refine Below.drew ?_ | fail))⟩
      · have b3 : (k == 3) = false := by simp [h3]
        rw [if_neg h3]
        clear h1 h2 h3
        go_enter Tryz.func113, Tryz.ntmps113
        go_wp2
        go_ret
        exact ⟨rfl, (by repeat (first | exact Below.refl _ _ | assumption | (refine Below.alloc ?_ ?_ _; rotate_left; · (first | omega | (simp; done) | (simp; omega) | (simp at *; omega) | fail)) | (refine Below.setCell ?_ ?_ _; rotate_left; · (first | omega | (simp; done) | (simp; omega) | (simp at *; omega) | fail)) | refine Below.drew ?_ | fail))⟩

set_option maxHeartbeats 400000 in
theorem inRange_any (c : Chg) (n : Int) (w : World) :
    Calls Tryz.prog 114 #[.agg #[.int .i64 c.kind, .int .i64 c.pos, .int .i64 c.many], .int .i64 n] w fun e w' => e = .returned (.bool (rangeB c n)) ∧ Below w.heap.size w w' := by
  obtain ⟨k, p, m⟩ := c
  unfold rangeB
  dsimp only
  by_cases h1 : k = 3
  · subst h1
    rw [if_pos rfl]
    cases h2 : inB 0 n p
    · go_enter Tryz.func114, Tryz.ntmps114
      go_wp2_with fail
      refine (within_one _ _ p _ _ (by simp [World.cell?_alloc_at])).mono ?_
      rintro e w' ⟨rfl, rfl⟩
      rw [h2]
      go_wp2_with fail
      go_ret
      exact ⟨rfl, (by repeat (first | exact Below.refl _ _ | assumption | (refine Below.alloc ?_ ?_ _; rotate_left; · (first | omega | (simp; done) | (simp; omega) | (simp at *; omega) | fail)) | (refine Below.setCell ?_ ?_ _; rotate_left; · (first | omega | (simp; done) | (simp; omega) | (simp at *; omega) | fail)) | refine Below.drew ?_ | fail))⟩
    · go_enter Tryz.func114, Tryz.ntmps114
      go_wp2_with fail
      refine (within_one _ _ p _ _ (by simp [World.cell?_alloc_at])).mono ?_
      rintro e w' ⟨rfl, rfl⟩
      rw [h2]
      go_wp2_with fail
      refine (within_one _ _ m _ _ (by simp [World.cell?_alloc_at])).mono ?_
      rintro e w' ⟨rfl, rfl⟩
      go_wp2_with fail
      go_ret
      exact ⟨rfl, (by repeat (first | exact Below.refl _ _ | assumption | (refine Below.alloc ?_ ?_ _; rotate_left; · (first | omega | (simp; done) | (simp; omega) | (simp at *; omega) | fail)) | (refine Below.setCell ?_ ?_ _; rotate_left; · (first | omega | (simp; done) | (simp; omega) | (simp at *; omega) | fail)) | refine Below.drew ?_ | fail))⟩
  · have b1 : (k == 3) = false := by simp [h1]
    rw [if_neg h1]
    cases h2 : inB 1 n p
    · go_enter Tryz.func114, Tryz.ntmps114
      go_wp2_with fail
      refine (within_one _ _ p _ _ (by simp [World.cell?_alloc_at])).mono ?_
      rintro e w' ⟨rfl, rfl⟩
      rw [h2]
      go_wp2_with fail
      go_ret
      exact ⟨rfl, (by repeat (first | exact Below.refl _ _ | assumption | (refine Below.alloc ?_ ?_ _; rotate_left; · (first | omega | (simp; done) | (simp; omega) | (simp at *; omega) | fail)) | (refine Below.setCell ?_ ?_ _; rotate_left; · (first | omega | (simp; done) | (simp; omega) | (simp at *; omega) | fail)) | refine Below.drew ?_ | fail))⟩
    · go_enter Tryz.func114, Tryz.ntmps114
      go_wp2_with fail
      refine (within_one _ _ p _ _ (by simp [World.cell?_alloc_at])).mono ?_
      rintro e w' ⟨rfl, rfl⟩
      rw [h2]
      go_wp2_with fail
      go_ret
      exact ⟨by simp; rfl, (by repeat (first | exact Below.refl _ _ | assumption | (refine Below.alloc ?_ ?_ _; rotate_left; · (first | omega | (simp; done) | (simp; omega) | (simp at *; omega) | fail)) | (refine Below.setCell ?_ ?_ _; rotate_left; · (first | omega | (simp; done) | (simp; omega) | (simp at *; omega) | fail)) | refine Below.drew ?_ | fail))⟩

set_option maxHeartbeats 400000 in
theorem inOrder_any (b c : Chg) (w : World) :
    Calls Tryz.prog 115 #[.agg #[.int .i64 b.kind, .int .i64 b.pos, .int .i64 b.many], .agg #[.int .i64 c.kind, .int .i64 c.pos, .int .i64 c.many]] w fun e w' => e = .returned (.bool (orderB b c)) ∧ Below w.heap.size w w' := by
  obtain ⟨k, p, m⟩ := c
  obtain ⟨k', p', m'⟩ := b
  unfold orderB
  dsimp only
  by_cases h1 : p = p'
  · subst h1
    rw [if_pos rfl]
    by_cases h2 : k = 3
    · subst h2
      by_cases h3 : k' = 3
      · subst h3
        go_enter Tryz.func115, Tryz.ntmps115
        go_wp2
        go_ret
        exact ⟨rfl, (by repeat (first | exact Below.refl _ _ | assumption | (refine Below.alloc ?_ ?_ _; rotate_left; · (first | omega | (simp; done) | (simp; omega) | (simp at *; omega) | fail)) | (refine Below.setCell ?_ ?_ _; rotate_left; · (first | omega | (simp; done) | (simp; omega) | (simp at *; omega) | fail)) | refine Below.drew ?_ | fail))⟩
      · have b3 : (k' == 3) = false := by simp [h3]
        have b4 : (k' != 3) = true := by simp [h3]
        go_enter Tryz.func115, Tryz.ntmps115
        go_wp2
        go_ret
        exact ⟨by simp [h3], (by repeat (first | exact Below.refl _ _ | assumption | (refine Below.alloc ?_ ?_ _; rotate_left; · (first | omega | (simp; done) | (simp; omega) | (simp at *; omega) | fail)) | (refine Below.setCell ?_ ?_ _; rotate_left; · (first | omega | (simp; done) | (simp; omega) | (simp at *; omega) | fail)) | refine Below.drew ?_ | fail))⟩
    · have b3 : (k == 3) = false := by simp [h2]
      go_enter Tryz.func115, Tryz.ntmps115
      go_wp2
      go_ret
      exact ⟨by simp [h2], (by repeat (first | exact Below.refl _ _ | assumption | (refine Below.alloc ?_ ?_ _; rotate_left; · (first | omega | (simp; done) | (simp; omega) | (simp at *; omega) | fail)) | (refine Below.setCell ?_ ?_ _; rotate_left; · (first | omega | (simp; done) | (simp; omega) | (simp at *; omega) | fail)) | refine Below.drew ?_ | fail))⟩
  · have b1 : (p == p') = false := by simp [h1]
    rw [if_neg h1]
    clear h1
    go_enter Tryz.func115, Tryz.ntmps115
    go_wp2
    go_ret
    exact ⟨rfl, (by repeat (first | exact Below.refl _ _ | assumption | (refine Below.alloc ?_ ?_ _; rotate_left; · (first | omega | (simp; done) | (simp; omega) | (simp at *; omega) | fail)) | (refine Below.setCell ?_ ?_ _; rotate_left; · (first | omega | (simp; done) | (simp; omega) | (simp at *; omega) | fail)) | refine Below.drew ?_ | fail))⟩

end Go.Proofs.YtockagnnpeoggaaGreatDoor

/- Small facts on blocks of the call's own. For any program. -/
namespace Go.Proofs.YtockagnnpeoggaaGreatDoor
set_option linter.unusedSimpArgs false
set_option linter.unusedVariables false
open Go Go.RowKit

theorem blk_lt {w : World} {k : Nat} {o : Obj} (h : w.heap[k]? = some o) : k < w.heap.size := (Array.getElem?_eq_some_iff.1 h).1
theorem blk_later {w w1 : World} (hb : Below w.heap.size w w1) {k : Nat} {o : Obj} (h : w.heap[k]? = some o) : w1.heap[k]? = some o := (hb.block k (blk_lt h)).trans h
theorem blk_drew {w : World} {k : Nat} {o : Obj} (h : w.heap[k]? = some o) : w.drew.heap[k]? = some o := h
theorem blk_drewN {w : World} {k : Nat} {o : Obj} (h : w.heap[k]? = some o) (n : Nat) : (w.drewN n).heap[k]? = some o := h
theorem heap_alloc_at (w : World) (o : Obj) (n : Nat) (hn : n = w.heap.size) : (w.alloc o).heap[n]? = some o := by subst hn; exact World.alloc_heap_new w o
theorem heap_alloc_past (w : World) (o : Obj) (n : Nat) (hn : n < w.heap.size) : (w.alloc o).heap[n]? = w.heap[n]? := Below.heap_alloc w o n hn
theorem heap_setCell_past (w : World) (a : Addr) (v : Value) (n : Nat) (hn : n ≠ a.block) : (w.setCell a v).heap[n]? = w.heap[n]? := Below.heap_setCell w a v n hn
theorem blk_cell {w : World} {k : Nat} {xs : Array Value} {t : TypeId} {f : Nat × Nat} (h : w.heap[k]? = some (.cells xs t f)) (j : Nat) : w.cell? ⟨k, j, none⟩ = xs[j]? := by
  simp [World.cell?, h]
theorem blk_free {w : World} {k : Nat} {xs : Array Value} {t : TypeId} (h : w.heap[k]? = some (.cells xs t (0, 0))) (j : Nat) : w.frozen? ⟨k, j, none⟩ = false := by
  simp [World.frozen?, h]
theorem blk_set {w : World} {k : Nat} {xs : Array Value} {t : TypeId} {f : Nat × Nat} (h : w.heap[k]? = some (.cells xs t f)) (j : Nat) (v : Value) : (w.setCell ⟨k, j, none⟩ v).heap[k]? = some (.cells (xs.setIfInBounds j v) t f) := by
  have hlt := blk_lt h
  have hv : w.heap[k] = .cells xs t f := by rw [Array.getElem?_eq_getElem hlt] at h; exact Option.some.inj h
  simp only [World.setCell]
  rw [Array.getElem?_eq_getElem (by rw [Array.size_modify]; exact hlt), Array.getElem_modify_self, hv]
  rfl
theorem blk_setRow {w : World} {k : Nat} {xs : Array Value} {t : TypeId} {f : Nat × Nat} (h : w.heap[k]? = some (.cells xs t f)) (a b : Value) : ((w.setCell ⟨k, 0, none⟩ a).setCell ⟨k, 1, none⟩ b).heap[k]? = some (.cells ((xs.setIfInBounds 0 a).setIfInBounds 1 b) t f) :=
  blk_set (blk_set h 0 a) 1 b
theorem bdrewN {B : Nat} {a w : World} (h : Below B a w) (n : Nat) : Below B a (w.drewN n) := ⟨h.os, h.tape, h.output, h.size, h.block⟩

end Go.Proofs.YtockagnnpeoggaaGreatDoor
