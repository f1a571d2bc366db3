/- The parts Da, Qa, Hp of the proof, joined. It holds without conditions of its own. -/
import Derived.Test.YtlekbddlemfokaaDoorProg
import Derived.WalkKit
import Derived.WalkSpells
import Derived.WalkLawsBesides
import Derived.Deep.QuietTactic
import Derived.BigQuiet
import Derived.Lib.Hide
import Derived.Outline
import Derived.LoopN
import Derived.Below
import Derived.Laws.World
import Derived.Laws.NewBlocks
import Derived.RangeFuncRecord
import Derived.Deep.Draws
/- The data of layer 1 as plain Lean, and what a Go function says of it. Nothing of the program. -/
namespace Go.Proofs.YtlekbddlemfokaaDoor
set_option linter.unusedSimpArgs false
set_option linter.unusedVariables false

structure Chg where
  kind : Int
  pos : Int
  many : Int
structure Gth where
  round : Int
  letter : Int
  leaves : Int
  chs : List Chg
structure Bk where
  signed : Int
  gs : List Gth

def inB (lo hi x : Int) : Bool := decide (lo ≤ x) && decide (x ≤ hi)
def sigB (r l : Int) : Bool := inB 1 3 r && inB 0 24 l
def behindB (r l r' l' : Int) : Bool := if r = r' then decide (l' < l) else decide (r' < r)
def foldedB (n : Int) : Bool := decide (n = 1) || (decide (n % 2 = 0) && inB 2 12 n)
def rangeB (c : Chg) (leaves : Int) : Bool := if c.kind = 3 then inB 0 leaves c.pos && inB 1 4 c.many else inB 1 leaves c.pos && decide (c.many = 0)
def orderB (b c : Chg) : Bool := if c.pos = b.pos then decide (c.kind = 3) && decide (b.kind ≠ 3) else decide (b.pos < c.pos)
def kindB (c : Chg) : Bool := decide (c.kind = 1) || decide (c.kind = 2) || decide (c.kind = 3)
/-- The error of the change behind another one (none: it is the first). -/
def chErr (leaves : Int) (prev : Option Chg) (c : Chg) : Int :=
  if kindB c = false then 6 else if rangeB c leaves = false then 7 else match prev with
    | none => 0
    | some p => if orderB p c = false then 2 else 0
/-- The first change with an error: its index and its error. -/
def chsErr (leaves : Int) : Option Chg → Nat → List Chg → Nat × Int
  | _, _, [] => (0, 0)
  | prev, i, c :: cs => if chErr leaves prev c = 0 then chsErr leaves (some c) (i + 1) cs else (i, chErr leaves prev c)
/-- The error of a gathering behind some signatures, the last lettered one of which is given. -/
def gthErr (seen : List (Int × Int)) (last : Int × Int) (g : Gth) : Int :=
  if sigB g.round g.letter = false then 7
  else if (g.round, g.letter) ∈ seen then 5
  else if g.letter < 23 ∧ behindB g.round g.letter last.1 last.2 = false then 2
  else if foldedB g.leaves = false then 7
  else if 4 < g.chs.length then 3
  else (chsErr g.leaves none 0 g.chs).2
def lastOf (last : Int × Int) (g : Gth) : Int × Int := if g.letter < 23 then (g.round, g.letter) else last
def gsErr : List (Int × Int) → Int × Int → Nat → List Gth → Nat × Int
  | _, _, _, [] => (0, 0)
  | seen, last, i, g :: gs => if gthErr seen last g = 0 then gsErr (seen ++ [(g.round, g.letter)]) (lastOf last g) (i + 1) gs else (i, gthErr seen last g)
/-- Check: part, index, error. -/
def checkF (b : Bk) : Nat × Nat × Int :=
  if inB 0 12 b.signed = false then (1, 0, 7)
  else if inB 1 30 b.gs.length = false then (1, 0, 3)
  else if (gsErr [] (0, 0) 0 b.gs).2 = 0 then (0, 0, 0) else (2, (gsErr [] (0, 0) 0 b.gs).1, (gsErr [] (0, 0) 0 b.gs).2)

/-- The letters of signatures, and how signatures and numbers below a hundred are written. -/
def letterL : List UInt8 := [65, 66, 67, 68, 69, 70, 71, 72, 73, 75, 76, 77, 78, 79, 80, 81, 82, 83, 84, 86, 88, 89, 90]
def letterT (l : Int) : List UInt8 := if l = 23 then [112, 105] else if l = 24 then [99, 104, 105] else [letterL.getD l.toNat 0]
def decN (n : Nat) : List UInt8 := if n < 10 then [UInt8.ofNat (48 + n)] else [UInt8.ofNat (48 + n / 10), UInt8.ofNat (48 + n % 10)]
def dec (n : Int) : List UInt8 := decN n.toNat
def sigT (r l : Int) : List UInt8 := (if 1 < r then dec r else []) ++ letterT l
/-- How a leaf is written. -/
def nameT (r l n p : Int) : List UInt8 := sigT r l ++ dec n ++ if 0 < p then 43 :: dec p else []
/-- Whether some book has a leaf with this number and Plus. -/
def possibleB (n p : Int) : Bool := !(decide (n = 0) && decide (p = 0)) && inB 0 12 n && inB 0 4 p

end Go.Proofs.YtlekbddlemfokaaDoor

/- Contracts of the small functions of package quire: within, isSig, lettered, behind, following. -/
namespace Go.Proofs.YtlekbddlemfokaaDoor
set_option linter.unusedSimpArgs false
set_option linter.unusedVariables false
open Go.RowKit


set_option maxHeartbeats 400000 in
theorem within_one (lo hi x : Int) (b : Nat) (w : World) (hc : w.cell? ⟨b, 0, none⟩ = some (.int .i64 x)) :
    Calls Tryd.prog 46 #[.int .i64 lo, .int .i64 hi, .slice (some ⟨b, 0, none⟩) 1 1] w fun e w' => e = .returned (.bool (inB lo hi x)) ∧ w = w' := by
  by_cases h1 : lo ≤ x
  · by_cases h2 : x ≤ hi
    · have hr : inB lo hi x = true := by simp [inB, h1, h2]
      rw [hr]; clear hr
      go_enter Tryd.func46, Tryd.ntmps46
      go_wp2
      refine wp_loop_rounds 2 ?_
      rw [rounds_succ]
      go_wp2
      rw [rounds_succ]
      go_wp2
      go_ret
      exact ⟨rfl, rfl⟩
    · have hr : inB lo hi x = false := by simp [inB, h2]
      rw [hr]; clear hr
      go_enter Tryd.func46, Tryd.ntmps46
      go_wp2
      refine wp_loop_rounds 2 ?_
      rw [rounds_succ]
      go_wp2
      go_ret
      exact ⟨rfl, rfl⟩
  · have hr : inB lo hi x = false := by simp [inB, h1]
    rw [hr]; clear hr
    go_enter Tryd.func46, Tryd.ntmps46
    go_wp2
    refine wp_loop_rounds 2 ?_
    rw [rounds_succ]
    go_wp2
    go_ret
    exact ⟨rfl, rfl⟩

set_option maxHeartbeats 400000 in
theorem lettered_any (r l : Int) (w : World) :
    Calls Tryd.prog 33 #[.agg #[.int .i64 r, .int .i64 l]] w fun e w' => e = .returned (.bool (decide (l < 23))) ∧ Below w.heap.size w w' := by
  go_enter Tryd.func33, Tryd.ntmps33
  go_wp2
  go_ret
  exact ⟨rfl, (by repeat (first | exact Below.refl _ _ | assumption | (refine Below.alloc ?_ ?_ _; rotate_left; · (first | omega | (simp; done) | (simp; omega) | (simp at *; omega) | fail)) | (refine Below.setCell ?_ ?_ _; rotate_left; · (first | omega | (simp; done) | (simp; omega) | (simp at *; omega) | fail)) | refine Below.drew ?_ | fail))⟩

set_option maxHeartbeats 400000 in
theorem isSig_any (r l : Int) (w : World) :
    Calls Tryd.prog 31 #[.agg #[.int .i64 r, .int .i64 l]] w fun e w' => e = .returned (.bool (sigB r l)) ∧ Below w.heap.size w w' := by
  unfold sigB
  cases h1 : inB 1 3 r
  · go_enter Tryd.func31, Tryd.ntmps31
    go_wp2_with fail
    refine (within_one _ _ r _ _ (by simp [World.cell?_alloc_at])).mono ?_
    rintro e w' ⟨rfl, rfl⟩
    rw [h1]
    go_wp2_with fail
    go_ret
    exact ⟨rfl, (by repeat (first | exact Below.refl _ _ | assumption | (refine Below.alloc ?_ ?_ _; rotate_left; · (first | omega | (simp; done) | (simp; omega) | (simp at *; omega) | fail)) | (refine Below.setCell ?_ ?_ _; rotate_left; · (first | omega | (simp; done) | (simp; omega) | (simp at *; omega) | fail)) | refine Below.drew ?_ | fail))⟩
  · go_enter Tryd.func31, Tryd.ntmps31
    go_wp2_with fail
    refine (within_one _ _ r _ _ (by simp [World.cell?_alloc_at])).mono ?_
    rintro e w' ⟨rfl, rfl⟩
    go_wp2_with fail
    refine (within_one _ _ l _ _ (by simp [World.cell?_alloc_at])).mono ?_
    rintro e w' ⟨rfl, rfl⟩
    go_wp2_with fail
    go_ret
    exact ⟨rfl, (by repeat (first | exact Below.refl _ _ | assumption | (refine Below.alloc ?_ ?_ _; rotate_left; · (first | omega | (simp; done) | (simp; omega) | (simp at *; omega) | fail)) | (refine Below.setCell ?_ ?_ _; rotate_left; · (first | omega | (simp; done) | (simp; omega) | (simp at *; omega) | fail)) | refine Below.drew ?_ | fail))⟩

set_option maxHeartbeats 400000 in
theorem behind_any (r l r' l' : Int) (w : World) :
    Calls Tryd.prog 61 #[.agg #[.int .i64 r, .int .i64 l], .agg #[.int .i64 r', .int .i64 l']] w fun e w' => e = .returned (.bool (behindB r l r' l')) ∧ Below w.heap.size w w' := by
  unfold behindB
  by_cases h : r = r'
  · subst h
    go_enter Tryd.func61, Tryd.ntmps61
    go_wp2
    go_ret
    exact ⟨by simp, (by repeat (first | exact Below.refl _ _ | assumption | (refine Below.alloc ?_ ?_ _; rotate_left; · (first | omega | (simp; done) | (simp; omega) | (simp at *; omega) | fail)) | (refine Below.setCell ?_ ?_ _; rotate_left; · (first | omega | (simp; done) | (simp; omega) | (simp at *; omega) | fail)) | refine Below.drew ?_ | fail))⟩
  · have hb : (r == r') = false := by simp [h]
    rw [if_neg h]
    go_enter Tryd.func61, Tryd.ntmps61
    go_wp2
    go_ret
    exact ⟨rfl, (by repeat (first | exact Below.refl _ _ | assumption | (refine Below.alloc ?_ ?_ _; rotate_left; · (first | omega | (simp; done) | (simp; omega) | (simp at *; omega) | fail)) | (refine Below.setCell ?_ ?_ _; rotate_left; · (first | omega | (simp; done) | (simp; omega) | (simp at *; omega) | fail)) | refine Below.drew ?_ | fail))⟩

set_option maxHeartbeats 400000 in
theorem following_any (r l : Int) (w : World) (hl : 0 ≤ l ∧ l ≤ 100) (hr : 0 ≤ r ∧ r ≤ 100) :
    Calls Tryd.prog 34 #[.agg #[.int .i64 r, .int .i64 l]] w fun e w' => e = .returned (if l < 22 then .agg #[.int .i64 r, .int .i64 (l + 1)] else .agg #[.int .i64 (r + 1), .int .i64 0]) ∧ Below w.heap.size w w' := by
  obtain ⟨hl0, hl1⟩ := hl
  obtain ⟨hr0, hr1⟩ := hr
  by_cases h : l + 1 < 23
  · rw [if_pos (by omega)]
    go_enter Tryd.func34, Tryd.ntmps34
    go_wp2
    exact bodyPost_ret (v := .agg #[.int .i64 r, .int .i64 (l + 1)]) (by simp [results, Tryd.results34, go_sem]) rfl ⟨rfl, (by repeat (first | exact Below.refl _ _ | assumption | (refine Below.alloc ?_ ?_ _; rotate_left; · (first | omega | (simp; done) | (simp; omega) | (simp at *; omega) | fail)) | (refine Below.setCell ?_ ?_ _; rotate_left; · (first | omega | (simp; done) | (simp; omega) | (simp at *; omega) | fail)) | refine Below.drew ?_ | fail))⟩
  · rw [if_neg (by omega)]
    go_enter Tryd.func34, Tryd.ntmps34
    go_wp2
    exact bodyPost_ret (v := .agg #[.int .i64 (r + 1), .int .i64 0]) (by simp [results, Tryd.results34, go_sem]) rfl ⟨rfl, (by repeat (first | exact Below.refl _ _ | assumption | (refine Below.alloc ?_ ?_ _; rotate_left; · (first | omega | (simp; done) | (simp; omega) | (simp at *; omega) | fail)) | (refine Below.setCell ?_ ?_ _; rotate_left; · (first | omega | (simp; done) | (simp; omega) | (simp at *; omega) | fail)) | refine Below.drew ?_ | fail))⟩

end Go.Proofs.YtlekbddlemfokaaDoor

/- Small facts on blocks of the call's own. For any program. -/
namespace Go.Proofs.YtlekbddlemfokaaDoor
set_option linter.unusedSimpArgs false
set_option linter.unusedVariables false
open Go Go.RowKit

theorem blk_lt {w : World} {k : Nat} {o : Obj} (h : w.heap[k]? = some o) : k < w.heap.size := (Array.getElem?_eq_some_iff.1 h).1
theorem blk_later {w w1 : World} (hb : Below w.heap.size w w1) {k : Nat} {o : Obj} (h : w.heap[k]? = some o) : w1.heap[k]? = some o := (hb.block k (blk_lt h)).trans h
theorem blk_drew {w : World} {k : Nat} {o : Obj} (h : w.heap[k]? = some o) : w.drew.heap[k]? = some o := h
theorem blk_drewN {w : World} {k : Nat} {o : Obj} (h : w.heap[k]? = some o) (n : Nat) : (w.drewN n).heap[k]? = some o := h
theorem heap_alloc_at (w : World) (o : Obj) (n : Nat) (hn : n = w.heap.size) : (w.alloc o).heap[n]? = some o := by subst hn; exact World.alloc_heap_new w o
theorem heap_alloc_past (w : World) (o : Obj) (n : Nat) (hn : n < w.heap.size) : (w.alloc o).heap[n]? = w.heap[n]? := Below.heap_alloc w o n hn
theorem heap_setCell_past (w : World) (a : Addr) (v : Value) (n : Nat) (hn : n ≠ a.block) : (w.setCell a v).heap[n]? = w.heap[n]? := Below.heap_setCell w a v n hn
theorem blk_cell {w : World} {k : Nat} {xs : Array Value} {t : TypeId} {f : Nat × Nat} (h : w.heap[k]? = some (.cells xs t f)) (j : Nat) : w.cell? ⟨k, j, none⟩ = xs[j]? := by
  simp [World.cell?, h]
theorem blk_free {w : World} {k : Nat} {xs : Array Value} {t : TypeId} (h : w.heap[k]? = some (.cells xs t (0, 0))) (j : Nat) : w.frozen? ⟨k, j, none⟩ = false := by
  simp [World.frozen?, h]
theorem blk_set {w : World} {k : Nat} {xs : Array Value} {t : TypeId} {f : Nat × Nat} (h : w.heap[k]? = some (.cells xs t f)) (j : Nat) (v : Value) : (w.setCell ⟨k, j, none⟩ v).heap[k]? = some (.cells (xs.setIfInBounds j v) t f) := by
  have hlt := blk_lt h
  have hv : w.heap[k] = .cells xs t f := by rw [Array.getElem?_eq_getElem hlt] at h; exact Option.some.inj h
  simp only [World.setCell]
  rw [Array.getElem?_eq_getElem (by rw [Array.size_modify]; exact hlt), Array.getElem_modify_self, hv]
  rfl
theorem blk_setRow {w : World} {k : Nat} {xs : Array Value} {t : TypeId} {f : Nat × Nat} (h : w.heap[k]? = some (.cells xs t f)) (a b : Value) : ((w.setCell ⟨k, 0, none⟩ a).setCell ⟨k, 1, none⟩ b).heap[k]? = some (.cells ((xs.setIfInBounds 0 a).setIfInBounds 1 b) t f) :=
  blk_set (blk_set h 0 a) 1 b
theorem bdrewN {B : Nat} {a w : World} (h : Below B a w) (n : Nat) : Below B a (w.drewN n) := ⟨h.os, h.tape, h.output, h.size, h.block⟩

end Go.Proofs.YtlekbddlemfokaaDoor
