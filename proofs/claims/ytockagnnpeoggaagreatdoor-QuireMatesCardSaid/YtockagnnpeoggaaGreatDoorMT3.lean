/- The parts Qb, Hp of the proof, joined. It holds without conditions of its own. -/
import Derived.Test.YtockagnnpeoggaaGreatDoorMT2
import Derived.Below
import Derived.Laws.World
import Derived.Laws.NewBlocks
import Derived.RangeFuncRecord
import Derived.Deep.Draws
/- Contracts of package quire: what a change is, and whether it may be where it is. -/
namespace Go.Proofs.YtockagnnpeoggaaGreatDoor
set_option linter.unusedSimpArgs false
set_option linter.unusedVariables false
open Go.RowKit

theorem tmod2 (n : Int) : n.tmod 2 = 0 ↔ n % 2 = 0 := by rw [← Int.dvd_iff_tmod_eq_zero, Int.dvd_iff_emod_eq_zero]

def chV (c : Chg) : Value := .agg #[.int .i64 c.kind, .int .i64 c.pos, .int .i64 c.many]
def deedV (c : Chg) : Value :=
  if c.kind = 1 then .iface 167 (.agg #[.int .i64 c.pos])
  else if c.kind = 2 then .iface 168 (.agg #[.int .i64 c.pos])
  else if c.kind = 3 then .iface 170 (.agg #[.int .i64 c.pos, .int .i64 c.many])
  else .nilIface

set_option maxHeartbeats 400000 in
theorem isFolded_any (n : Int) (w : World) :
    Calls Tryz.prog 110 #[.int .i64 n] w fun e w' => e = .returned (.bool (foldedB n)) ∧ Below w.heap.size w w' := by
  unfold foldedB
  by_cases h1 : n = 1
  · subst h1
    go_enter Tryz.func110, Tryz.ntmps110
    go_wp2_with fail
    go_ret
    exact ⟨rfl, (by repeat (first | exact Below.refl _ _ | assumption | (refine Below.alloc ?_ ?_ _; rotate_left; · (first | omega | (simp; done) | (simp; omega) | (simp at *; omega) | fail)) | (refine Below.setCell ?_ ?_ _; rotate_left; · (first | omega | (simp; done) | (simp; omega) | (simp at *; omega) | fail)) | refine Below.drew ?_ | fail))⟩
  · have h1b : (n == 1) = false := by simp [h1]
    by_cases h2 : n % 2 = 0
    · have h2b : (n.tmod 2 == 0) = true := by rw [beq_iff_eq, tmod2]; exact h2
      have h3 : (decide (n = 1) || decide (n % 2 = 0) && inB 2 12 n) = inB 2 12 n := by simp [h1, h2]
      rw [h3]; clear h3 h2
      go_enter Tryz.func110, Tryz.ntmps110
      go_wp2_with fail
      refine (within_one _ _ n _ _ (by simp [World.cell?_alloc_at])).mono ?_
      rintro e w' ⟨rfl, rfl⟩
      go_wp2_with fail
      go_ret
      exact ⟨rfl, (by repeat (first | exact Below.refl _ _ | assumption | (refine Below.alloc ?_ ?_ _; rotate_left; · (first | omega | (simp; done) | (simp; omega) | (simp at *; omega) | fail)) | (refine Below.setCell ?_ ?_ _; rotate_left; · (first | omega | (simp; done) | (simp; omega) | (simp at *; omega) | fail)) | refine Below.drew ?_ | fail))⟩
    · have h2b : (n.tmod 2 == 0) = false := by rw [beq_eq_false_iff_ne, Ne, tmod2]; exact h2
      have h3 : (decide (n = 1) || decide (n % 2 = 0) && inB 2 12 n) = false := by simp [h1, h2]
      rw [h3]; clear h3 h2
      go_enter Tryz.func110, Tryz.ntmps110
      go_wp2_with fail
      go_ret
      exact ⟨rfl, (by repeat (first | exact Below.refl _ _ | assumption | (refine Below.alloc ?_ ?_ _; rotate_left; · (first | omega | (simp; done) | (simp; omega) | (simp at *; omega) | fail)) | (refine Below.setCell ?_ ?_ _; rotate_left; · (first | omega | (simp; done) | (simp; omega) | (simp at *; omega) | fail)) | refine Below.drew ?_ | fail))⟩

set_option maxHeartbeats 400000 in
theorem deedOf_any (c : Chg) (w : World) :
    Calls Tryz.prog 113 #[.agg #[.int .i64 c.kind, .int .i64 c.pos, .int .i64 c.many]] w fun e w' => e = .returned (deedV c) ∧ Below w.heap.size w w' := by
  obtain ⟨k, p, m⟩ := c
  unfold deedV
  dsimp only
  by_cases h1 : k = 1
  · subst h1
    go_enter Tryz.func113, Tryz.ntmps113
    go_wp2
    go_ret
    exact ⟨rfl, (by repeat (first | exact Below.refl _ _ | assumption | (refine Below.alloc ?_ ?_ _; rotate_left; · (first | omega | (simp; done) | (simp; omega) | (simp at *; omega) | fail)) | (refine Below.setCell ?_ ?_ _; rotate_left; · (first | omega | (simp; done) | (simp; omega) | (simp at *; omega) | fail)) | refine Below.drew ?_ | fail))⟩
  · have b1 : (k == 1) = false := by simp [h1]
    rw [if_neg h1]
    by_cases h2 : k = 2
    · subst h2
      go_enter Tryz.func113, Tryz.ntmps113
      go_wp2
      go_ret
      exact ⟨rfl, (by repeat (first | exact Below.refl _ _ | assumption | (refine Below.alloc ?_ ?_ _; rotate_left; · (first | omega | (simp; done) | (simp; omega) | (simp at *; omega) | fail)) | (refine Below.setCell ?_ ?_ _; rotate_left; · (first | omega | (simp; done) | (simp; omega) | (simp at *; omega) | fail)) | refine Below.drew ?_ | fail))⟩
    · have b2 : (k == 2) = false := by simp [h2]
      rw [if_neg h2]
      by_cases h3 : k = 3
      · subst h3
        go_enter Tryz.func113, Tryz.ntmps113
        go_wp2
        go_ret
        exact ⟨rfl, (by repeat (first | exact Below.refl _ _ | assumption | (refine Below.alloc ?_ ?_ _; rotate_left; · (first | omega | (simp; done) | (simp; omega) | (simp at *; omega) | fail)) | (refine Below.setCell ?_ ?_ _; rotate_left; · (first | omega | (simp; done) | (simp; omega) | (simp at *; omega) | fail)) | refine Below.drew ?_ | fail))⟩
      · have b3 : (k == 3) = false := by simp [h3]
        rw [if_neg h3]
        clear h1 h2 h3
        go_enter Tryz.func113, Tryz.ntmps113
        go_wp2
        go_ret
        exact ⟨rfl, (by repeat (first | exact Below.refl _ _ | assumption | (refine Below.alloc ?_ ?_ _; rotate_left; · (first | omega | (simp; done) | (simp; omega) | (simp at *; omega) | fail)) | (refine Below.setCell ?_ ?_ _; rotate_left; · (first | omega | (simp; done) | (simp; omega) | (simp at *; omega) | fail)) | refine Below.drew ?_ | fail))⟩

set_option maxHeartbeats 400000 in
theorem inRange_any (c : Chg) (n : Int) (w : World) :
    Calls Tryz.prog 114 #[.agg #[.int .i64 c.kind, .int .i64 c.pos, .int .i64 c.many], .int .i64 n] w fun e w' => e = .returned (.bool (rangeB c n)) ∧ Below w.heap.size w w' := by
  obtain ⟨k, p, m⟩ := c
  unfold rangeB
  dsimp only
  by_cases h1 : k = 3
  · subst h1
    rw [if_pos rfl]
    cases h2 : inB 0 n p
    · go_enter Tryz.func114, Tryz.ntmps114
      go_wp2_with fail
      refine (within_one _ _ p _ _ (by simp [World.cell?_alloc_at])).mono ?_
      rintro e w' ⟨rfl, rfl⟩
      rw [h2]
      go_wp2_with fail
      go_ret
      exact ⟨rfl, (by repeat (first | exact Below.refl _ _ | assumption | (refine Below.alloc ?_ ?_ _; rotate_left; · (first | omega | (simp; done) | (simp; omega) | (simp at *; omega) | fail)) | (refine Below.setCell ?_ ?_ _; rotate_left; · (first | omega | (simp; done) | (simp; omega) | (simp at *; omega) | fail)) | refine Below.drew ?_ | fail))⟩
    · go_enter Tryz.func114, Tryz.ntmps114
      go_wp2_with fail
      refine (within_one _ _ p _ _ (by simp [World.cell?_alloc_at])).mono ?_
      rintro e w' ⟨rfl, rfl⟩
      rw [h2]
      go_wp2_with fail
      refine (within_one _ _ m _ _ (by simp [World.cell?_alloc_at])).mono ?_
      rintro e w' ⟨rfl, rfl⟩
      go_wp2_with fail
      go_ret
      exact ⟨rfl, (by repeat (first | exact Below.refl _ _ | assumption | (refine Below.alloc ?_ ?_ _; rotate_left; · (first | omega | (simp; done) | (simp; omega) | (simp at *; omega) | fail)) | (refine Below.setCell ?_ ?_ _; rotate_left; · (first | omega | (simp; done) | (simp; omega) | (simp at *; omega) | fail)) | refine Below.drew ?_ | fail))⟩
  · have b1 : (k == 3) = false := by simp [h1]
    rw [if_neg h1]
    cases h2 : inB 1 n p
    · go_enter Tryz.func114, Tryz.ntmps114
      go_wp2_with fail
      refine (within_one _ _ p _ _ (by simp [World.cell?_alloc_at])).mono ?_
      rintro e w' ⟨rfl, rfl⟩
      rw [h2]
      go_wp2_with fail
      go_ret
      exact ⟨rfl, (by repeat (first | exact Below.refl _ _ | assumption | (refine Below.alloc ?_ ?_ _; rotate_left; · (first | omega | (simp; done) | (simp; omega) | (simp at *; omega) | fail)) | (refine Below.setCell ?_ ?_ _; rotate_left; · (first | omega | (simp; done) | (simp; omega) | (simp at *; omega) | fail)) | refine Below.drew ?_ | fail))⟩
    · go_enter Tryz.func114, Tryz.ntmps114
      go_wp2_with fail
      refine (within_one _ _ p _ _ (by simp [World.cell?_alloc_at])).mono ?_
      rintro e w' ⟨rfl, rfl⟩
      rw [h2]
      go_wp2_with fail
      go_ret
      exact ⟨by simp; rfl, (by repeat (first | exact Below.refl _ _ | assumption | (refine Below.alloc ?_ ?_ _; rotate_left; · (first | omega | (simp; done) | (simp; omega) | (simp at *; omega) | fail)) | (refine Below.setCell ?_ ?_ _; rotate_left; · (first | omega | (simp; done) | (simp; omega) | (simp at *; omega) | fail)) | refine Below.drew ?_ | fail))⟩

set_option maxHeartbeats 400000 in
theorem inOrder_any (b c : Chg) (w : World) :
    Calls Tryz.prog 115 #[.agg #[.int .i64 b.kind, .int .i64 b.pos, .int .i64 b.many], .agg #[.int .i64 c.kind, .int .i64 c.pos, .int .i64 c.many]] w fun e w' => e = .returned (.bool (orderB b c)) ∧ Below w.heap.size w w' := by
  obtain ⟨k, p, m⟩ := c
  obtain ⟨k', p', m'⟩ := b
  unfold orderB
  dsimp only
  by_cases h1 : p = p'
  · subst h1
    rw [if_pos rfl]
    by_cases h2 : k = 3
    · subst h2
      by_cases h3 : k' = 3
      · subst h3
        go_enter Tryz.func115, Tryz.ntmps115
        go_wp2
        go_ret
        exact ⟨rfl, (by repeat (first | exact Below.refl _ _ | assumption | (refine Below.alloc ?_ ?_ _; rotate_left; · (first | omega | (simp; done) | (simp; omega) | (simp at *; omega) | fail)) | (refine Below.setCell ?_ ?_ _; rotate_left; · (first | omega | (simp; done) | (simp; omega) | (simp at *; omega) | fail)) | refine Below.drew ?_ | fail))⟩
      · have b3 : (k' == 3) = false := by simp [h3]
        have b4 : (k' != 3) = true := by simp [h3]
        go_enter Tryz.func115, Tryz.ntmps115
        go_wp2
        go_ret
        exact ⟨by simp [h3], (by repeat (first | exact Below.refl _ _ | assumption | (refine Below.alloc ?_ ?_ _; rotate_left; · (first | omega | (simp; done) | (simp; omega) | (simp at *; omega) | fail)) | (refine Below.setCell ?_ ?_ _; rotate_left; · (first | omega | (simp; done) | (simp; omega) | (simp at *; omega) | fail)) | refine Below.drew ?_ | fail))⟩
    · have b3 : (k == 3) = false := by simp [h2]
      go_enter Tryz.func115, Tryz.ntmps115
      go_wp2
      go_ret
      exact ⟨by simp [h2], (by repeat (first | exact Below.refl _ _ | assumption | (refine Below.alloc ?_ ?_ _; rotate_left; · (first | omega | (simp; done) | (simp; omega) | (simp at *; omega) | fail)) | (refine Below.setCell ?_ ?_ _; rotate_left; · (first | omega | (simp; done) | (simp; omega) | (simp at *; omega) | fail)) | refine Below.drew ?_ | fail))⟩
  · have b1 : (p == p') = false := by simp [h1]
    rw [if_neg h1]
    clear h1
    go_enter Tryz.func115, Tryz.ntmps115
    go_wp2
    go_ret
    exact ⟨rfl, (by repeat (first | exact Below.refl _ _ | assumption | (refine Below.alloc ?_ ?_ _; rotate_left; · (first | omega | (simp; done) | (simp; omega) | (simp at *; omega) | fail)) | (refine Below.setCell ?_ ?_ _; rotate_left; · (first | omega | (simp; done) | (simp; omega) | (simp at *; omega) | fail)) | refine Below.drew ?_ | fail))⟩

end Go.Proofs.YtockagnnpeoggaaGreatDoor

/- Small facts on blocks of the call's own. For any program. -/
namespace Go.Proofs.YtockagnnpeoggaaGreatDoor
set_option linter.unusedSimpArgs false
set_option linter.unusedVariables false
open Go Go.RowKit

theorem blk_lt {w : World} {k : Nat} {o : Obj} (h : w.heap[k]? = some o) : k < w.heap.size := (Array.getElem?_eq_some_iff.1 h).1
theorem blk_later {w w1 : World} (hb : Below w.heap.size w w1) {k : Nat} {o : Obj} (h : w.heap[k]? = some o) : w1.heap[k]? = some o := (hb.block k (blk_lt h)).trans h
theorem blk_drew {w : World} {k : Nat} {o : Obj} (h : w.heap[k]? = some o) : w.drew.heap[k]? = some o := h
theorem blk_drewN {w : World} {k : Nat} {o : Obj} (h : w.heap[k]? = some o) (n : Nat) : (w.drewN n).heap[k]? = some o := h
theorem heap_alloc_at (w : World) (o : Obj) (n : Nat) (hn : n = w.heap.size) : (w.alloc o).heap[n]? = some o := by subst hn; exact World.alloc_heap_new w o
theorem heap_alloc_past (w : World) (o : Obj) (n : Nat) (hn : n < w.heap.size) : (w.alloc o).heap[n]? = w.heap[n]? := Below.heap_alloc w o n hn
theorem heap_setCell_past (w : World) (a : Addr) (v : Value) (n : Nat) (hn : n ≠ a.block) : (w.setCell a v).heap[n]? = w.heap[n]? := Below.heap_setCell w a v n hn
theorem blk_cell {w : World} {k : Nat} {xs : Array Value} {t : TypeId} {f : Nat × Nat} (h : w.heap[k]? = some (.cells xs t f)) (j : Nat) : w.cell? ⟨k, j, none⟩ = xs[j]? := by
  simp [World.cell?, h]
theorem blk_free {w : World} {k : Nat} {xs : Array Value} {t : TypeId} (h : w.heap[k]? = some (.cells xs t (0, 0))) (j : Nat) : w.frozen? ⟨k, j, none⟩ = false := by
  simp [World.frozen?, h]
theorem blk_set {w : World} {k : Nat} {xs : Array Value} {t : TypeId} {f : Nat × Nat} (h : w.heap[k]? = some (.cells xs t f)) (j : Nat) (v : Value) : (w.setCell ⟨k, j, none⟩ v).heap[k]? = some (.cells (xs.setIfInBounds j v) t f) := by
  have hlt := blk_lt h
  have hv : w.heap[k] = .cells xs t f := by rw [Array.getElem?_eq_getElem hlt] at h; exact Option.some.inj h
  simp only [World.setCell]
  rw [Array.getElem?_eq_getElem (by rw [Array.size_modify]; exact hlt), Array.getElem_modify_self, hv]
  rfl
theorem blk_setRow {w : World} {k : Nat} {xs : Array Value} {t : TypeId} {f : Nat × Nat} (h : w.heap[k]? = some (.cells xs t f)) (a b : Value) : ((w.setCell ⟨k, 0, none⟩ a).setCell ⟨k, 1, none⟩ b).heap[k]? = some (.cells ((xs.setIfInBounds 0 a).setIfInBounds 1 b) t f) :=
  blk_set (blk_set h 0 a) 1 b
theorem bdrewN {B : Nat} {a w : World} (h : Below B a w) (n : Nat) : Below B a (w.drewN n) := ⟨h.os, h.tape, h.output, h.size, h.block⟩

end Go.Proofs.YtockagnnpeoggaaGreatDoor
