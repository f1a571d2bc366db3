/- The parts Qe, Qf, Qg, Shelf, Hs of the proof, joined. It holds without conditions of its own. -/
import Derived.Test.YtlfglbnbenaghaaGreatDoorTX2
import Derived.Deep.RegionWith
import Derived.BigRegion
import Derived.Lib.QuietBelow
import Derived.Shelf.Strings.Builder1
import Derived.Shelf.Strings.Builder2
import Derived.Shelf.Strings.OnBuilder
import Derived.Shelf.Small.Wraps
import Derived.Shelf.Strconv.Itoa0
import Derived.Shelf.Strconv.Itoa1
import Derived.Shelf.LaysM
import Derived.Shelf.Strconv.Itoa2
import Derived.Shelf.Strconv.Itoa3
import Derived.Shelf.Strings.Prefix
import Derived.Test.YtlfglbnbenaghaaGreatDoorProg
import Derived.StillTailTactics
/- Contracts of package quire: one gathering of a book. -/
namespace Go.Proofs.YtlfglbnbenaghaaGreatDoor
set_option linter.unusedSimpArgs false
set_option linter.unusedVariables false
open Go Go.RowKit Go.Sort Go.BigFrame

theorem lettered_is (r l : Int) (x : Bool) (hx : decide (l < 23) = x) (w : World) :
    Calls Tryz.prog 74 #[.agg #[.int .i64 r, .int .i64 l]] w fun e w' => e = .returned (.bool x) ∧ Below w.heap.size w w' := by
  subst hx; exact lettered_any r l w
theorem behind_is (r l r' l' : Int) (x : Bool) (hx : behindB r l r' l' = x) (w : World) :
    Calls Tryz.prog 88 #[.agg #[.int .i64 r, .int .i64 l], .agg #[.int .i64 r', .int .i64 l']] w fun e w' => e = .returned (.bool x) ∧ Below w.heap.size w w' := by
  subst hx; exact behind_any r l r' l' w

/-- What is kept of the gatherings that were met. -/
structure EarlierAt (w : World) (bE b : Nat) (seen : List (Int × Int)) (last : Int × Int) : Prop where
  c0 : w.cell? ⟨bE, 0, none⟩ = some (.map (some b))
  c1 : w.cell? ⟨bE, 1, none⟩ = some (.int .i64 last.1)
  c2 : w.cell? ⟨bE, 2, none⟩ = some (.int .i64 last.2)
  f1 : w.frozen? ⟨bE, 1, none⟩ = false
  f2 : w.frozen? ⟨bE, 2, none⟩ = false
  map : SigMap w b seen
  ne : bE ≠ b

theorem EarlierAt.below {w w' : World} {bE b : Nat} {seen : List (Int × Int)} {last : Int × Int} (h : EarlierAt w bE b seen last) (hb : Below w.heap.size w w') : EarlierAt w' bE b seen last :=
  ⟨cell_later' hb h.c0, cell_later' hb h.c1, cell_later' hb h.c2, (hb.frozen (p := ⟨bE, 1, none⟩) (lt_of_cell h.c0)).trans h.f1, (hb.frozen (p := ⟨bE, 2, none⟩) (lt_of_cell h.c0)).trans h.f2, h.map.keep (hb.block b h.map.lt), h.ne⟩

set_option maxRecDepth 100000 in
set_option maxHeartbeats 400000 in
theorem check_sig (i : Int) (g : Gth) (cv : Value) (a : Option Addr) (n cap : Nat) (hcv : cv = .slice a n cap) (bE : Nat) (w : World) (hs : sigB g.round g.letter = false) :
    Calls Tryz.prog 65 #[.pointer (some ⟨bE, 0, none⟩), .int .i64 i, .agg #[.int .i64 g.round, .int .i64 g.letter, .int .i64 g.leaves, cv]] w fun e w' => e = .returned (.int .i64 7) ∧ Below w.heap.size w w' := by
  subst hcv
  go_enter Tryz.func65, Tryz.ntmps65
  go_wp2_with fail
  refine (isSig_any g.round g.letter _).mono ?_
  rintro e w1 ⟨rfl, hb⟩
  rw [hs]
  have hb1 := ((Below.refl w.heap.size w).alloc (Nat.le_refl _) _).trans (hb.mono (by simp))
  clear hb hs
  go_wp2_with fail
  go_ret
  exact ⟨rfl, hb1⟩

set_option maxRecDepth 100000 in
set_option maxHeartbeats 400000 in
theorem check_twice (i : Int) (g : Gth) (cv : Value) (a : Option Addr) (n cap : Nat) (hcv : cv = .slice a n cap) (bE b : Nat) (seen : List (Int × Int)) (last : Int × Int) (w : World) (hE : EarlierAt w bE b seen last) (hs : sigB g.round g.letter = true) (hm : (g.round, g.letter) ∈ seen) :
    Calls Tryz.prog 65 #[.pointer (some ⟨bE, 0, none⟩), .int .i64 i, .agg #[.int .i64 g.round, .int .i64 g.letter, .int .i64 g.leaves, cv]] w fun e w' => e = .returned (.int .i64 5) ∧ Below w.heap.size w w' := by
  subst hcv
  go_enter Tryz.func65, Tryz.ntmps65
  go_wp2_with fail
  refine (isSig_any g.round g.letter _).mono ?_
  rintro e w1 ⟨rfl, hb⟩
  rw [hs]
  have k0 : w1.cell? ⟨w.heap.size, 0, none⟩ = some (.int .i64 g.round) := cell_later' hb (by simp [World.cell?_alloc_at])
  have k1 : w1.cell? ⟨w.heap.size, 1, none⟩ = some (.int .i64 g.letter) := cell_later' hb (by simp [World.cell?_alloc_at])
  have hb1 := ((Below.refl w.heap.size w).alloc (Nat.le_refl _) _).trans (hb.mono (by simp))
  have hE1 := hE.below hb1
  have e0 := hE1.c0
  have hl : ∀ m, (Instr.lookup 115 (.map (some b)) (.agg #[.int .i64 g.round, .int .i64 g.letter]) false).run Tryz.prog (w1.drewN m) = .ok (.bool true) (w1.drewN m) := fun m => by
    have hk : SigMap (w1.drewN m) b seen := hE1.map
    have := hk.look hs; rw [decide_eq_true hm] at this; exact this
  clear hb hs hE hE1 hm
  go_wp2_with fail
  go_quiet (fail)
  go_wp2
  go_ret
  exact ⟨rfl, bdrewN hb1 _⟩

set_option maxRecDepth 100000 in
set_option maxHeartbeats 400000 in
theorem check_order (i : Int) (g : Gth) (cv : Value) (a : Option Addr) (n cap : Nat) (hcv : cv = .slice a n cap) (bE b : Nat) (seen : List (Int × Int)) (last : Int × Int) (w : World) (hE : EarlierAt w bE b seen last) (hs : sigB g.round g.letter = true) (hm : ¬ (g.round, g.letter) ∈ seen) (hd : decide (g.letter < 23) = true) (hbh : behindB g.round g.letter last.1 last.2 = false) :
    Calls Tryz.prog 65 #[.pointer (some ⟨bE, 0, none⟩), .int .i64 i, .agg #[.int .i64 g.round, .int .i64 g.letter, .int .i64 g.leaves, cv]] w fun e w' => e = .returned (.int .i64 2) ∧ Below w.heap.size w w' := by
  subst hcv
  go_enter Tryz.func65, Tryz.ntmps65
  go_wp2_with fail
  refine (isSig_any g.round g.letter _).mono ?_
  rintro e w1 ⟨rfl, hb⟩
  rw [hs]
  have k0 : w1.cell? ⟨w.heap.size, 0, none⟩ = some (.int .i64 g.round) := cell_later' hb (by simp [World.cell?_alloc_at])
  have k1 : w1.cell? ⟨w.heap.size, 1, none⟩ = some (.int .i64 g.letter) := cell_later' hb (by simp [World.cell?_alloc_at])
  have k2 : w1.cell? ⟨w.heap.size, 2, none⟩ = some (.int .i64 g.leaves) := cell_later' hb (by simp [World.cell?_alloc_at])
  have k3 : w1.cell? ⟨w.heap.size, 3, none⟩ = some (.slice a n cap) := cell_later' hb (by simp [World.cell?_alloc_at])
  have hb1 := ((Below.refl w.heap.size w).alloc (Nat.le_refl _) _).trans (hb.mono (by simp))
  have hE1 := hE.below hb1
  have e0 := hE1.c0
  have hl : ∀ m, (Instr.lookup 115 (.map (some b)) (.agg #[.int .i64 g.round, .int .i64 g.letter]) false).run Tryz.prog (w1.drewN m) = .ok (.bool false) (w1.drewN m) := fun m => by
    have hk : SigMap (w1.drewN m) b seen := hE1.map
    have := hk.look hs; rw [decide_eq_false hm] at this; exact this
  have HE := Lib.hid hE
  clear hb hs hE hm hE1
  go_wp2_with fail
  go_quiet (fail)
  clear hl
  have k0 : (w1.drewN nq).cell? ⟨w.heap.size, 0, none⟩ = some (.int .i64 g.round) := k0
  have k1 : (w1.drewN nq).cell? ⟨w.heap.size, 1, none⟩ = some (.int .i64 g.letter) := k1
  have k2 : (w1.drewN nq).cell? ⟨w.heap.size, 2, none⟩ = some (.int .i64 g.leaves) := k2
  have k3 : (w1.drewN nq).cell? ⟨w.heap.size, 3, none⟩ = some (.slice a n cap) := k3
  have hb2 := bdrewN hb1 nq
  clear hb1 e0
  revert k0 k1 k2 k3 hb2
  generalize w1.drewN nq = w2
  intro k0 k1 k2 k3 hb2
  have hE2 := HE.out.below hb2
  have e1 := hE2.c1
  have e2 := hE2.c2
  clear hE2
  go_wp2_with fail
  have r0 := cell_regrown k0
  have r1 := cell_regrown k1
  have s1 := cell_regrown e1
  have s2 := cell_regrown e2
  have cL : ∀ d os, Calls Tryz.prog 74 #[.agg #[.int .i64 g.round, .int .i64 g.letter]] (grow (redrawn w2 d) os) (fun e w'' => e = .returned (.bool true) ∧ ∃ p : Regrown, w'' = grow (redrawn w2 p.d) p.os) := fun d os => Calls.regrown_of (lettered_is _ _ true hd _)
  have cB : ∀ d os, Calls Tryz.prog 88 #[.agg #[.int .i64 g.round, .int .i64 g.letter], .agg #[.int .i64 last.1, .int .i64 last.2]] (grow (redrawn w2 d) os) (fun e w'' => e = .returned (.bool false) ∧ ∃ p : Regrown, w'' = grow (redrawn w2 p.d) p.os) := fun d os => Calls.regrown_of (behind_is _ _ _ _ false hbh _)
  clear e1 e2
  refine wp_region_quiet_below (by kernel_rfl) (by kernel_rfl) ?_; (repeat (go_big_quiet_step (first | exact cL _ _ | exact cB _ _))); refine wpQuiet_nil ?_; rintro w3 ⟨⟨d3, os3⟩, rfl⟩
  clear r0 r1 s1 s2 cL cB
  have hb23 := below_regrown w2 d3 os3
  have k0 := cell_later' hb23 k0
  have k1 := cell_later' hb23 k1
  have k2 := cell_later' hb23 k2
  have k3 := cell_later' hb23 k3
  have hb3 := hb2.trans (hb23.mono hb2.size)
  clear hb2 hb23
  revert k0 k1 k2 k3 hb3
  generalize grow (redrawn w2 d3) os3 = w3
  intro k0 k1 k2 k3 hb3
  go_wp2_with fail
  go_ret
  exact ⟨rfl, hb3⟩

set_option maxRecDepth 100000 in
set_option maxHeartbeats 400000 in
theorem check_foldN (i : Int) (g : Gth) (cv : Value) (a : Option Addr) (n cap : Nat) (hcv : cv = .slice a n cap) (bE b : Nat) (seen : List (Int × Int)) (last : Int × Int) (w : World) (hE : EarlierAt w bE b seen last) (hs : sigB g.round g.letter = true) (hm : ¬ (g.round, g.letter) ∈ seen) (hd : decide (g.letter < 23) = false) (hf : foldedB g.leaves = false) :
    Calls Tryz.prog 65 #[.pointer (some ⟨bE, 0, none⟩), .int .i64 i, .agg #[.int .i64 g.round, .int .i64 g.letter, .int .i64 g.leaves, cv]] w fun e w' => e = .returned (.int .i64 7) ∧ Below w.heap.size w w' := by
  subst hcv
  go_enter Tryz.func65, Tryz.ntmps65
  go_wp2_with fail
  refine (isSig_any g.round g.letter _).mono ?_
  rintro e w1 ⟨rfl, hb⟩
  rw [hs]
  have k0 : w1.cell? ⟨w.heap.size, 0, none⟩ = some (.int .i64 g.round) := cell_later' hb (by simp [World.cell?_alloc_at])
  have k1 : w1.cell? ⟨w.heap.size, 1, none⟩ = some (.int .i64 g.letter) := cell_later' hb (by simp [World.cell?_alloc_at])
  have k2 : w1.cell? ⟨w.heap.size, 2, none⟩ = some (.int .i64 g.leaves) := cell_later' hb (by simp [World.cell?_alloc_at])
  have k3 : w1.cell? ⟨w.heap.size, 3, none⟩ = some (.slice a n cap) := cell_later' hb (by simp [World.cell?_alloc_at])
  have hb1 := ((Below.refl w.heap.size w).alloc (Nat.le_refl _) _).trans (hb.mono (by simp))
  have hE1 := hE.below hb1
  have e0 := hE1.c0
  have hl : ∀ m, (Instr.lookup 115 (.map (some b)) (.agg #[.int .i64 g.round, .int .i64 g.letter]) false).run Tryz.prog (w1.drewN m) = .ok (.bool false) (w1.drewN m) := fun m => by
    have hk : SigMap (w1.drewN m) b seen := hE1.map
    have := hk.look hs; rw [decide_eq_false hm] at this; exact this
  have HE := Lib.hid hE
  clear hb hs hE hm hE1
  go_wp2_with fail
  go_quiet (fail)
  clear hl
  have k0 : (w1.drewN nq).cell? ⟨w.heap.size, 0, none⟩ = some (.int .i64 g.round) := k0
  have k1 : (w1.drewN nq).cell? ⟨w.heap.size, 1, none⟩ = some (.int .i64 g.letter) := k1
  have k2 : (w1.drewN nq).cell? ⟨w.heap.size, 2, none⟩ = some (.int .i64 g.leaves) := k2
  have k3 : (w1.drewN nq).cell? ⟨w.heap.size, 3, none⟩ = some (.slice a n cap) := k3
  have hb2 := bdrewN hb1 nq
  clear hb1 e0
  revert k0 k1 k2 k3 hb2
  generalize w1.drewN nq = w2
  intro k0 k1 k2 k3 hb2
  have hE2 := HE.out.below hb2
  have e1 := hE2.c1
  have e2 := hE2.c2
  clear hE2
  go_wp2_with fail
  have r0 := cell_regrown k0
  have r1 := cell_regrown k1
  have s1 := cell_regrown e1
  have s2 := cell_regrown e2
  have cL : ∀ d os, Calls Tryz.prog 74 #[.agg #[.int .i64 g.round, .int .i64 g.letter]] (grow (redrawn w2 d) os) (fun e w'' => e = .returned (.bool false) ∧ ∃ p : Regrown, w'' = grow (redrawn w2 p.d) p.os) := fun d os => Calls.regrown_of (lettered_is _ _ false hd _)
  clear e1 e2
  refine wp_region_quiet_below (by kernel_rfl) (by kernel_rfl) ?_; (repeat (go_big_quiet_step (exact cL _ _))); refine wpQuiet_nil ?_; rintro w3 ⟨⟨d3, os3⟩, rfl⟩
  clear r0 r1 s1 s2 cL
  have hb23 := below_regrown w2 d3 os3
  have k0 := cell_later' hb23 k0
  have k1 := cell_later' hb23 k1
  have k2 := cell_later' hb23 k2
  have k3 := cell_later' hb23 k3
  have hb3 := hb2.trans (hb23.mono hb2.size)
  clear hb2 hb23
  revert k0 k1 k2 k3 hb3
  generalize grow (redrawn w2 d3) os3 = w3
  intro k0 k1 k2 k3 hb3
  go_wp2_with fail
  refine (isFolded_any g.leaves _).mono ?_
  rintro e w4 ⟨rfl, hb⟩
  rw [hf]
  have k0 := cell_later' hb k0
  have k1 := cell_later' hb k1
  have k2 := cell_later' hb k2
  have k3 := cell_later' hb k3
  have hb4 := hb3.trans (hb.mono hb3.size)
  clear hb hb3 hf
  go_wp2_with fail
  go_ret
  exact ⟨rfl, hb4⟩

set_option maxRecDepth 100000 in
set_option maxHeartbeats 400000 in
theorem check_longN (i : Int) (g : Gth) (cv : Value) (a : Option Addr) (n cap : Nat) (hcv : cv = .slice a n cap) (bE b : Nat) (seen : List (Int × Int)) (last : Int × Int) (w : World) (hE : EarlierAt w bE b seen last) (hs : sigB g.round g.letter = true) (hm : ¬ (g.round, g.letter) ∈ seen) (hd : decide (g.letter < 23) = false) (hf : foldedB g.leaves = true) (hn : 4 < n) :
    Calls Tryz.prog 65 #[.pointer (some ⟨bE, 0, none⟩), .int .i64 i, .agg #[.int .i64 g.round, .int .i64 g.letter, .int .i64 g.leaves, cv]] w fun e w' => e = .returned (.int .i64 3) ∧ Below w.heap.size w w' := by
  subst hcv
  go_enter Tryz.func65, Tryz.ntmps65
  go_wp2_with fail
  refine (isSig_any g.round g.letter _).mono ?_
  rintro e w1 ⟨rfl, hb⟩
  rw [hs]
  have k0 : w1.cell? ⟨w.heap.size, 0, none⟩ = some (.int .i64 g.round) := cell_later' hb (by simp [World.cell?_alloc_at])
  have k1 : w1.cell? ⟨w.heap.size, 1, none⟩ = some (.int .i64 g.letter) := cell_later' hb (by simp [World.cell?_alloc_at])
  have k2 : w1.cell? ⟨w.heap.size, 2, none⟩ = some (.int .i64 g.leaves) := cell_later' hb (by simp [World.cell?_alloc_at])
  have k3 : w1.cell? ⟨w.heap.size, 3, none⟩ = some (.slice a n cap) := cell_later' hb (by simp [World.cell?_alloc_at])
  have hb1 := ((Below.refl w.heap.size w).alloc (Nat.le_refl _) _).trans (hb.mono (by simp))
  have hE1 := hE.below hb1
  have e0 := hE1.c0
  have hl : ∀ m, (Instr.lookup 115 (.map (some b)) (.agg #[.int .i64 g.round, .int .i64 g.letter]) false).run Tryz.prog (w1.drewN m) = .ok (.bool false) (w1.drewN m) := fun m => by
    have hk : SigMap (w1.drewN m) b seen := hE1.map
    have := hk.look hs; rw [decide_eq_false hm] at this; exact this
  have HE := Lib.hid hE
  clear hb hs hE hm hE1
  go_wp2_with fail
  go_quiet (fail)
  clear hl
  have k0 : (w1.drewN nq).cell? ⟨w.heap.size, 0, none⟩ = some (.int .i64 g.round) := k0
  have k1 : (w1.drewN nq).cell? ⟨w.heap.size, 1, none⟩ = some (.int .i64 g.letter) := k1
  have k2 : (w1.drewN nq).cell? ⟨w.heap.size, 2, none⟩ = some (.int .i64 g.leaves) := k2
  have k3 : (w1.drewN nq).cell? ⟨w.heap.size, 3, none⟩ = some (.slice a n cap) := k3
  have hb2 := bdrewN hb1 nq
  clear hb1 e0
  revert k0 k1 k2 k3 hb2
  generalize w1.drewN nq = w2
  intro k0 k1 k2 k3 hb2
  have hE2 := HE.out.below hb2
  have e1 := hE2.c1
  have e2 := hE2.c2
  clear hE2
  go_wp2_with fail
  have r0 := cell_regrown k0
  have r1 := cell_regrown k1
  have s1 := cell_regrown e1
  have s2 := cell_regrown e2
  have cL : ∀ d os, Calls Tryz.prog 74 #[.agg #[.int .i64 g.round, .int .i64 g.letter]] (grow (redrawn w2 d) os) (fun e w'' => e = .returned (.bool false) ∧ ∃ p : Regrown, w'' = grow (redrawn w2 p.d) p.os) := fun d os => Calls.regrown_of (lettered_is _ _ false hd _)
  clear e1 e2
  refine wp_region_quiet_below (by kernel_rfl) (by kernel_rfl) ?_; (repeat (go_big_quiet_step (exact cL _ _))); refine wpQuiet_nil ?_; rintro w3 ⟨⟨d3, os3⟩, rfl⟩
  clear r0 r1 s1 s2 cL
  have hb23 := below_regrown w2 d3 os3
  have k0 := cell_later' hb23 k0
  have k1 := cell_later' hb23 k1
  have k2 := cell_later' hb23 k2
  have k3 := cell_later' hb23 k3
  have hb3 := hb2.trans (hb23.mono hb2.size)
  clear hb2 hb23
  revert k0 k1 k2 k3 hb3
  generalize grow (redrawn w2 d3) os3 = w3
  intro k0 k1 k2 k3 hb3
  go_wp2_with fail
  refine (isFolded_any g.leaves _).mono ?_
  rintro e w4 ⟨rfl, hb⟩
  rw [hf]
  have k0 := cell_later' hb k0
  have k1 := cell_later' hb k1
  have k2 := cell_later' hb k2
  have k3 := cell_later' hb k3
  have hb4 := hb3.trans (hb.mono hb3.size)
  clear hb hb3 hf
  have hn' : (4 : Int) < n := by omega
  go_wp2_with fail
  go_ret
  exact ⟨rfl, hb4⟩

set_option maxRecDepth 100000 in
set_option maxHeartbeats 400000 in
theorem check_foldL (i : Int) (g : Gth) (cv : Value) (a : Option Addr) (n cap : Nat) (hcv : cv = .slice a n cap) (bE b : Nat) (seen : List (Int × Int)) (last : Int × Int) (w : World) (hE : EarlierAt w bE b seen last) (hs : sigB g.round g.letter = true) (hm : ¬ (g.round, g.letter) ∈ seen) (hd : decide (g.letter < 23) = true) (hbh : behindB g.round g.letter last.1 last.2 = true) (hf : foldedB g.leaves = false) :
    Calls Tryz.prog 65 #[.pointer (some ⟨bE, 0, none⟩), .int .i64 i, .agg #[.int .i64 g.round, .int .i64 g.letter, .int .i64 g.leaves, cv]] w fun e w' => e = .returned (.int .i64 7) ∧ Below w.heap.size w w' := by
  subst hcv
  go_enter Tryz.func65, Tryz.ntmps65
  go_wp2_with fail
  refine (isSig_any g.round g.letter _).mono ?_
  rintro e w1 ⟨rfl, hb⟩
  rw [hs]
  have k0 : w1.cell? ⟨w.heap.size, 0, none⟩ = some (.int .i64 g.round) := cell_later' hb (by simp [World.cell?_alloc_at])
  have k1 : w1.cell? ⟨w.heap.size, 1, none⟩ = some (.int .i64 g.letter) := cell_later' hb (by simp [World.cell?_alloc_at])
  have k2 : w1.cell? ⟨w.heap.size, 2, none⟩ = some (.int .i64 g.leaves) := cell_later' hb (by simp [World.cell?_alloc_at])
  have k3 : w1.cell? ⟨w.heap.size, 3, none⟩ = some (.slice a n cap) := cell_later' hb (by simp [World.cell?_alloc_at])
  have hb1 := ((Below.refl w.heap.size w).alloc (Nat.le_refl _) _).trans (hb.mono (by simp))
  have hE1 := hE.below hb1
  have e0 := hE1.c0
  have hl : ∀ m, (Instr.lookup 115 (.map (some b)) (.agg #[.int .i64 g.round, .int .i64 g.letter]) false).run Tryz.prog (w1.drewN m) = .ok (.bool false) (w1.drewN m) := fun m => by
    have hk : SigMap (w1.drewN m) b seen := hE1.map
    have := hk.look hs; rw [decide_eq_false hm] at this; exact this
  have HE := Lib.hid hE
  clear hb hs hE hm hE1
  go_wp2_with fail
  go_quiet (fail)
  clear hl
  have k0 : (w1.drewN nq).cell? ⟨w.heap.size, 0, none⟩ = some (.int .i64 g.round) := k0
  have k1 : (w1.drewN nq).cell? ⟨w.heap.size, 1, none⟩ = some (.int .i64 g.letter) := k1
  have k2 : (w1.drewN nq).cell? ⟨w.heap.size, 2, none⟩ = some (.int .i64 g.leaves) := k2
  have k3 : (w1.drewN nq).cell? ⟨w.heap.size, 3, none⟩ = some (.slice a n cap) := k3
  have hb2 := bdrewN hb1 nq
  clear hb1 e0
  revert k0 k1 k2 k3 hb2
  generalize w1.drewN nq = w2
  intro k0 k1 k2 k3 hb2
  have hE2 := HE.out.below hb2
  have e1 := hE2.c1
  have e2 := hE2.c2
  clear hE2
  go_wp2_with fail
  have r0 := cell_regrown k0
  have r1 := cell_regrown k1
  have s1 := cell_regrown e1
  have s2 := cell_regrown e2
  have cL : ∀ d os, Calls Tryz.prog 74 #[.agg #[.int .i64 g.round, .int .i64 g.letter]] (grow (redrawn w2 d) os) (fun e w'' => e = .returned (.bool true) ∧ ∃ p : Regrown, w'' = grow (redrawn w2 p.d) p.os) := fun d os => Calls.regrown_of (lettered_is _ _ true hd _)
  have cB : ∀ d os, Calls Tryz.prog 88 #[.agg #[.int .i64 g.round, .int .i64 g.letter], .agg #[.int .i64 last.1, .int .i64 last.2]] (grow (redrawn w2 d) os) (fun e w'' => e = .returned (.bool true) ∧ ∃ p : Regrown, w'' = grow (redrawn w2 p.d) p.os) := fun d os => Calls.regrown_of (behind_is _ _ _ _ true hbh _)
  clear e1 e2
  refine wp_region_quiet_below (by kernel_rfl) (by kernel_rfl) ?_; (repeat (go_big_quiet_step (first | exact cL _ _ | exact cB _ _))); refine wpQuiet_nil ?_; rintro w3 ⟨⟨d3, os3⟩, rfl⟩
  clear r0 r1 s1 s2 cL cB
  have hb23 := below_regrown w2 d3 os3
  have k0 := cell_later' hb23 k0
  have k1 := cell_later' hb23 k1
  have k2 := cell_later' hb23 k2
  have k3 := cell_later' hb23 k3
  have hb3 := hb2.trans (hb23.mono hb2.size)
  clear hb2 hb23
  revert k0 k1 k2 k3 hb3
  generalize grow (redrawn w2 d3) os3 = w3
  intro k0 k1 k2 k3 hb3
  go_wp2_with fail
  refine (isFolded_any g.leaves _).mono ?_
  rintro e w4 ⟨rfl, hb⟩
  rw [hf]
  have k0 := cell_later' hb k0
  have k1 := cell_later' hb k1
  have k2 := cell_later' hb k2
  have k3 := cell_later' hb k3
  have hb4 := hb3.trans (hb.mono hb3.size)
  clear hb hb3 hf
  go_wp2_with fail
  go_ret
  exact ⟨rfl, hb4⟩

set_option maxRecDepth 100000 in
set_option maxHeartbeats 400000 in
theorem check_longL (i : Int) (g : Gth) (cv : Value) (a : Option Addr) (n cap : Nat) (hcv : cv = .slice a n cap) (bE b : Nat) (seen : List (Int × Int)) (last : Int × Int) (w : World) (hE : EarlierAt w bE b seen last) (hs : sigB g.round g.letter = true) (hm : ¬ (g.round, g.letter) ∈ seen) (hd : decide (g.letter < 23) = true) (hbh : behindB g.round g.letter last.1 last.2 = true) (hf : foldedB g.leaves = true) (hn : 4 < n) :
    Calls Tryz.prog 65 #[.pointer (some ⟨bE, 0, none⟩), .int .i64 i, .agg #[.int .i64 g.round, .int .i64 g.letter, .int .i64 g.leaves, cv]] w fun e w' => e = .returned (.int .i64 3) ∧ Below w.heap.size w w' := by
  subst hcv
  go_enter Tryz.func65, Tryz.ntmps65
  go_wp2_with fail
  refine (isSig_any g.round g.letter _).mono ?_
  rintro e w1 ⟨rfl, hb⟩
  rw [hs]
  have k0 : w1.cell? ⟨w.heap.size, 0, none⟩ = some (.int .i64 g.round) := cell_later' hb (by simp [World.cell?_alloc_at])
  have k1 : w1.cell? ⟨w.heap.size, 1, none⟩ = some (.int .i64 g.letter) := cell_later' hb (by simp [World.cell?_alloc_at])
  have k2 : w1.cell? ⟨w.heap.size, 2, none⟩ = some (.int .i64 g.leaves) := cell_later' hb (by simp [World.cell?_alloc_at])
  have k3 : w1.cell? ⟨w.heap.size, 3, none⟩ = some (.slice a n cap) := cell_later' hb (by simp [World.cell?_alloc_at])
  have hb1 := ((Below.refl w.heap.size w).alloc (Nat.le_refl _) _).trans (hb.mono (by simp))
  have hE1 := hE.below hb1
  have e0 := hE1.c0
  have hl : ∀ m, (Instr.lookup 115 (.map (some b)) (.agg #[.int .i64 g.round, .int .i64 g.letter]) false).run Tryz.prog (w1.drewN m) = .ok (.bool false) (w1.drewN m) := fun m => by
    have hk : SigMap (w1.drewN m) b seen := hE1.map
    have := hk.look hs; rw [decide_eq_false hm] at this; exact this
  have HE := Lib.hid hE
  clear hb hs hE hm hE1
  go_wp2_with fail
  go_quiet (fail)
  clear hl
  have k0 : (w1.drewN nq).cell? ⟨w.heap.size, 0, none⟩ = some (.int .i64 g.round) := k0
  have k1 : (w1.drewN nq).cell? ⟨w.heap.size, 1, none⟩ = some (.int .i64 g.letter) := k1
  have k2 : (w1.drewN nq).cell? ⟨w.heap.size, 2, none⟩ = some (.int .i64 g.leaves) := k2
  have k3 : (w1.drewN nq).cell? ⟨w.heap.size, 3, none⟩ = some (.slice a n cap) := k3
  have hb2 := bdrewN hb1 nq
  clear hb1 e0
  revert k0 k1 k2 k3 hb2
  generalize w1.drewN nq = w2
  intro k0 k1 k2 k3 hb2
  have hE2 := HE.out.below hb2
  have e1 := hE2.c1
  have e2 := hE2.c2
  clear hE2
  go_wp2_with fail
  have r0 := cell_regrown k0
  have r1 := cell_regrown k1
  have s1 := cell_regrown e1
  have s2 := cell_regrown e2
  have cL : ∀ d os, Calls Tryz.prog 74 #[.agg #[.int .i64 g.round, .int .i64 g.letter]] (grow (redrawn w2 d) os) (fun e w'' => e = .returned (.bool true) ∧ ∃ p : Regrown, w'' = grow (redrawn w2 p.d) p.os) := fun d os => Calls.regrown_of (lettered_is _ _ true hd _)
  have cB : ∀ d os, Calls Tryz.prog 88 #[.agg #[.int .i64 g.round, .int .i64 g.letter], .agg #[.int .i64 last.1, .int .i64 last.2]] (grow (redrawn w2 d) os) (fun e w'' => e = .returned (.bool true) ∧ ∃ p : Regrown, w'' = grow (redrawn w2 p.d) p.os) := fun d os => Calls.regrown_of (behind_is _ _ _ _ true hbh _)
  clear e1 e2
  refine wp_region_quiet_below (by kernel_rfl) (by kernel_rfl) ?_; (repeat (go_big_quiet_step (first | exact cL _ _ | exact cB _ _))); refine wpQuiet_nil ?_; rintro w3 ⟨⟨d3, os3⟩, rfl⟩
  clear r0 r1 s1 s2 cL cB
  have hb23 := below_regrown w2 d3 os3
  have k0 := cell_later' hb23 k0
  have k1 := cell_later' hb23 k1
  have k2 := cell_later' hb23 k2
  have k3 := cell_later' hb23 k3
  have hb3 := hb2.trans (hb23.mono hb2.size)
  clear hb2 hb23
  revert k0 k1 k2 k3 hb3
  generalize grow (redrawn w2 d3) os3 = w3
  intro k0 k1 k2 k3 hb3
  go_wp2_with fail
  refine (isFolded_any g.leaves _).mono ?_
  rintro e w4 ⟨rfl, hb⟩
  rw [hf]
  have k0 := cell_later' hb k0
  have k1 := cell_later' hb k1
  have k2 := cell_later' hb k2
  have k3 := cell_later' hb k3
  have hb4 := hb3.trans (hb.mono hb3.size)
  clear hb hb3 hf
  have hn' : (4 : Int) < n := by omega
  go_wp2_with fail
  go_ret
  exact ⟨rfl, hb4⟩

end Go.Proofs.YtlfglbnbenaghaaGreatDoor

/- Contracts of package quire: a gathering without an error so far is taken among those that were met; then its changes. -/
namespace Go.Proofs.YtlfglbnbenaghaaGreatDoor
set_option linter.unusedSimpArgs false
set_option linter.unusedVariables false
open Go Go.RowKit Go.Sort Go.BigFrame

theorem cell_put {w : World} {b k i : Nat} {o : Obj} (h : k ≠ b) : (w.putObj b o).cell? ⟨k, i, none⟩ = w.cell? ⟨k, i, none⟩ := World.cell?_of_block (World.putObj_heap_other h)
theorem frozen_put {w : World} {b k i : Nat} {o : Obj} (h : k ≠ b) : (w.putObj b o).frozen? ⟨k, i, none⟩ = w.frozen? ⟨k, i, none⟩ := World.frozen?_of_block (World.putObj_heap_other h)
theorem cell_set {w : World} {b i j : Nat} {v : Value} {k : Nat} (h : k ≠ b) : (w.setCell ⟨b, j, none⟩ v).cell? ⟨k, i, none⟩ = w.cell? ⟨k, i, none⟩ := World.cell?_of_block (Below.heap_setCell w ⟨b, j, none⟩ v k h)
theorem heap_set {w : World} {b j : Nat} {v : Value} {k : Nat} (h : k ≠ b) : (w.setCell ⟨b, j, none⟩ v).heap[k]? = w.heap[k]? := Below.heap_setCell w ⟨b, j, none⟩ v k h

theorem EarlierAt.setLast {w : World} {bE b : Nat} {seen : List (Int × Int)} {last : Int × Int} (h : EarlierAt w bE b seen last) (r l : Int) : EarlierAt ((w.setCell ⟨bE, 1, none⟩ (.int .i64 r)).setCell ⟨bE, 2, none⟩ (.int .i64 l)) bE b seen (r, l) := by
  have h1 : (w.setCell ⟨bE, 1, none⟩ (.int .i64 r)).cell? ⟨bE, 2, none⟩ = some (.int .i64 last.2) := by rw [World.cell?_setCell_other _ _ _ _ (by simp)]; exact h.c2
  refine ⟨?_, ?_, ?_, ?_, ?_, ?_, h.ne⟩
  · rw [World.cell?_setCell_other _ _ _ _ (by simp), World.cell?_setCell_other _ _ _ _ (by simp)]; exact h.c0
  · rw [World.cell?_setCell_other _ _ _ _ (by simp)]; exact World.cell?_setCell_same' _ _ _ (by rw [h.c1]; rfl)
  · exact World.cell?_setCell_same' _ _ _ (by rw [h1]; rfl)
  · rw [World.frozen?_setCell, World.frozen?_setCell]; exact h.f1
  · rw [World.frozen?_setCell, World.frozen?_setCell]; exact h.f2
  · exact h.map.keep ((heap_set (Ne.symm h.ne)).trans (heap_set (Ne.symm h.ne)))

theorem firstErrorCh_any (B : Nat) (leaves : Int) (cs : List Chg) (sv : Value) (bg : Nat) (w : World) (hcs : ChsAt B w sv cs) (hl : cs.length ≤ 100) (h2 : w.cell? ⟨bg, 2, none⟩ = some (.int .i64 leaves)) (h3 : w.cell? ⟨bg, 3, none⟩ = some sv) :
    Calls Tryz.prog 91 #[sv, .func (.func 92) #[] #[.pointer (some ⟨bg, 0, none⟩)]] w fun e w' => e = .returned (.tuple #[.int .i64 (chsErr leaves none 0 cs).1, .int .i64 (chsErr leaves none 0 cs).2]) ∧ Below w.heap.size w w' := by
  obtain ⟨a, cap, rfl, hc⟩ := hcs
  cases cs with
  | nil => exact firstErrorCh_none leaves a cap _ w
  | cons c cs =>
    obtain ⟨b, off, rfl, _, hcell⟩ := hc (by simp)
    exact firstErrorCh_some _ cap leaves (c :: cs) bg b off w rfl hl h2 h3 hcell

/-- What check does to the world: the record of what was met, and its map. -/
abbrev Ebs (bE b : Nat) : Nat → Prop := fun k => k = bE ∨ k = b

set_option maxRecDepth 100000 in
set_option maxHeartbeats 400000 in
theorem check_okN (i : Int) (g : Gth) (cv : Value) (a : Option Addr) (n cap : Nat) (hcv : cv = .slice a n cap) (bE b : Nat) (seen : List (Int × Int)) (last : Int × Int) (w : World) (hE : EarlierAt w bE b seen last) (hs : sigB g.round g.letter = true) (hm : ¬ (g.round, g.letter) ∈ seen) (hd : decide (g.letter < 23) = false) (hf : foldedB g.leaves = true) (hn : n = g.chs.length) (hn4 : g.chs.length ≤ 4) (B : Nat) (hBE : B ≤ bE) (hBb : B ≤ b) (hch : ChsAt B w cv g.chs) :
    Calls Tryz.prog 65 #[.pointer (some ⟨bE, 0, none⟩), .int .i64 i, .agg #[.int .i64 g.round, .int .i64 g.letter, .int .i64 g.leaves, cv]] w fun e w' => e = .returned (.int .i64 (chsErr g.leaves none 0 g.chs).2) ∧ OnlyIn (Ebs bE b) w w' ∧ EarlierAt w' bE b (seen ++ [(g.round, g.letter)]) (last) := by
  have HM : Hid (¬ (g.round, g.letter) ∈ seen) := hm
  have HS : Hid (sigB g.round g.letter = true) := hs
  subst hcv
  have HCH := Lib.hid hch
  have HN := Lib.hid hn
  clear hn hch
  go_enter Tryz.func65, Tryz.ntmps65
  go_wp2_with fail
  refine (isSig_any g.round g.letter _).mono ?_
  rintro e w1 ⟨rfl, hb⟩
  rw [hs]
  have k0 : w1.cell? ⟨w.heap.size, 0, none⟩ = some (.int .i64 g.round) := cell_later' hb (by simp [World.cell?_alloc_at])
  have k1 : w1.cell? ⟨w.heap.size, 1, none⟩ = some (.int .i64 g.letter) := cell_later' hb (by simp [World.cell?_alloc_at])
  have k2 : w1.cell? ⟨w.heap.size, 2, none⟩ = some (.int .i64 g.leaves) := cell_later' hb (by simp [World.cell?_alloc_at])
  have k3 : w1.cell? ⟨w.heap.size, 3, none⟩ = some (.slice a n cap) := cell_later' hb (by simp [World.cell?_alloc_at])
  have hb1 := ((Below.refl w.heap.size w).alloc (Nat.le_refl _) _).trans (hb.mono (by simp))
  have hE1 := hE.below hb1
  have e0 := hE1.c0
  have hl : ∀ m, (Instr.lookup 115 (.map (some b)) (.agg #[.int .i64 g.round, .int .i64 g.letter]) false).run Tryz.prog (w1.drewN m) = .ok (.bool false) (w1.drewN m) := fun m => by
    have hk : SigMap (w1.drewN m) b seen := hE1.map
    have := hk.look hs; rw [decide_eq_false hm] at this; exact this
  have HE := Lib.hid hE
  clear hb hs hE hm hE1
  go_wp2_with fail
  go_quiet (fail)
  clear hl
  have k0 : (w1.drewN nq).cell? ⟨w.heap.size, 0, none⟩ = some (.int .i64 g.round) := k0
  have k1 : (w1.drewN nq).cell? ⟨w.heap.size, 1, none⟩ = some (.int .i64 g.letter) := k1
  have k2 : (w1.drewN nq).cell? ⟨w.heap.size, 2, none⟩ = some (.int .i64 g.leaves) := k2
  have k3 : (w1.drewN nq).cell? ⟨w.heap.size, 3, none⟩ = some (.slice a n cap) := k3
  have hb2 := bdrewN hb1 nq
  clear hb1 e0
  revert k0 k1 k2 k3 hb2
  generalize w1.drewN nq = w2
  intro k0 k1 k2 k3 hb2
  have hE2 := HE.out.below hb2
  have e1 := hE2.c1
  have e2 := hE2.c2
  clear hE2
  go_wp2_with fail
  have r0 := cell_regrown k0
  have r1 := cell_regrown k1
  have s1 := cell_regrown e1
  have s2 := cell_regrown e2
  have cL : ∀ d os, Calls Tryz.prog 74 #[.agg #[.int .i64 g.round, .int .i64 g.letter]] (grow (redrawn w2 d) os) (fun e w'' => e = .returned (.bool false) ∧ ∃ p : Regrown, w'' = grow (redrawn w2 p.d) p.os) := fun d os => Calls.regrown_of (lettered_is _ _ false hd _)
  clear e1 e2
  refine wp_region_quiet_below (by kernel_rfl) (by kernel_rfl) ?_; (repeat (go_big_quiet_step (exact cL _ _))); refine wpQuiet_nil ?_; rintro w3 ⟨⟨d3, os3⟩, rfl⟩
  clear r0 r1 s1 s2 cL
  have hb23 := below_regrown w2 d3 os3
  have k0 := cell_later' hb23 k0
  have k1 := cell_later' hb23 k1
  have k2 := cell_later' hb23 k2
  have k3 := cell_later' hb23 k3
  have hb3 := hb2.trans (hb23.mono hb2.size)
  clear hb2 hb23
  revert k0 k1 k2 k3 hb3
  generalize grow (redrawn w2 d3) os3 = w3
  intro k0 k1 k2 k3 hb3
  go_wp2_with fail
  refine (isFolded_any g.leaves _).mono ?_
  rintro e w4 ⟨rfl, hb⟩
  rw [hf]
  have k0 := cell_later' hb k0
  have k1 := cell_later' hb k1
  have k2 := cell_later' hb k2
  have k3 := cell_later' hb k3
  have hb4 := hb3.trans (hb.mono hb3.size)
  clear hb hb3 hf
  have hn' : ¬ (4 : Int) < n := by rw [HN.out]; omega
  have hEb := HE.out.below hb4.drew
  have e0 : w4.drew.cell? ⟨bE, 0, none⟩ = some (.map (some b)) := hEb.c0
  obtain ⟨o, hput, hmap⟩ := hEb.map.put HS.out HM.out
  have HMAP := Lib.hid hmap
  have HEb := Lib.hid hEb
  clear hmap hEb
  go_wp2_with fail
  go_still_tail 6, (by kernel_rfl)
  change wpList _ _ _ _ _ w4.drew
  have k0 : w4.drew.cell? ⟨w.heap.size, 0, none⟩ = some (.int .i64 g.round) := k0
  have k1 : w4.drew.cell? ⟨w.heap.size, 1, none⟩ = some (.int .i64 g.letter) := k1
  have k2 : w4.drew.cell? ⟨w.heap.size, 2, none⟩ = some (.int .i64 g.leaves) := k2
  have k3 : w4.drew.cell? ⟨w.heap.size, 3, none⟩ = some (.slice a n cap) := k3
  have hb5 := hb4.drew
  clear hb4 e0
  revert k0 k1 k2 k3 hb5 HEb hput
  generalize w4.drew = w5
  intro hput HEb k0 k1 k2 k3 hb5
  have hbl : b < w.heap.size := HE.out.map.lt
  have hEl : bE < w.heap.size := lt_of_cell HE.out.c0
  have hne := HE.out.ne
  have k0 : (w5.putObj b o).cell? ⟨w.heap.size, 0, none⟩ = some (.int .i64 g.round) := (cell_put (by omega)).trans k0
  have k1 : (w5.putObj b o).cell? ⟨w.heap.size, 1, none⟩ = some (.int .i64 g.letter) := (cell_put (by omega)).trans k1
  have k2 : (w5.putObj b o).cell? ⟨w.heap.size, 2, none⟩ = some (.int .i64 g.leaves) := (cell_put (by omega)).trans k2
  have k3 : (w5.putObj b o).cell? ⟨w.heap.size, 3, none⟩ = some (.slice a n cap) := (cell_put (by omega)).trans k3
  have ho6 : OnlyIn (Ebs bE b) w (w5.putObj b o) := (OnlyIn.of_below hb5).trans (OnlyIn.putObj w5 b o (Or.inr rfl))
  have hE6 : EarlierAt (w5.putObj b o) bE b (seen ++ [(g.round, g.letter)]) last := ⟨(cell_put hne).trans HEb.out.c0, (cell_put hne).trans HEb.out.c1, (cell_put hne).trans HEb.out.c2, (frozen_put hne).trans HEb.out.f1, (frozen_put hne).trans HEb.out.f2,
    HMAP.out _ (World.putObj_heap_same (HEb.out.map.lt)), hne⟩
  have hz6 : w.heap.size < (w5.putObj b o).heap.size := lt_of_cell k0
  clear hne hEl hbl hb5 HMAP HEb
  have HE6 := Lib.hid hE6
  clear hE6
  go_wp2_with fail
  have hE6 := HE6.out
  clear HE6 hput
  revert k0 k1 k2 k3 ho6 hE6 hz6
  generalize w5.putObj b o = w6
  intro k0 k1 k2 k3 ho6 hz6 hE6
  refine (lettered_is _ _ _ hd _).mono ?_
  rintro e w7 ⟨rfl, hb⟩
  have k0 := cell_later' hb k0
  have k1 := cell_later' hb k1
  have k2 := cell_later' hb k2
  have k3 := cell_later' hb k3
  have ho7 := ho6.trans (OnlyIn.of_below hb)
  have hE7 := hE6.below hb
  have hz7 : w.heap.size < w7.heap.size := lt_of_cell k0
  clear ho6 hE6 hb hz6
  have HE7 := Lib.hid hE7
  clear hE7
  go_wp2_with fail
  have hch : ChsAt B w7 (.slice a n cap) g.chs := HCH.out.same fun k hk => ho7.block k (by have := lt_of_cell HE.out.c0; omega) (fun h => by rcases h with h | h <;> omega)
  refine (firstErrorCh_any B g.leaves g.chs _ _ _ hch (by omega) k2 k3).mono ?_
  rintro e w8 ⟨rfl, hb⟩
  have hE8 := HE7.out.below hb
  have ho8 := ho7.trans (OnlyIn.of_below hb)
  clear hb ho7 HE7 hch k0 k1 k2 k3
  have HO8 := Lib.hid ho8
  have HE8 := Lib.hid hE8
  clear ho8 hE8
  go_wp2_with fail
  go_ret
  exact ⟨rfl, HO8.out, HE8.out⟩


set_option maxRecDepth 100000 in
set_option maxHeartbeats 400000 in
theorem check_okL (i : Int) (g : Gth) (cv : Value) (a : Option Addr) (n cap : Nat) (hcv : cv = .slice a n cap) (bE b : Nat) (seen : List (Int × Int)) (last : Int × Int) (w : World) (hE : EarlierAt w bE b seen last) (hs : sigB g.round g.letter = true) (hm : ¬ (g.round, g.letter) ∈ seen) (hd : decide (g.letter < 23) = true) (hbh : behindB g.round g.letter last.1 last.2 = true) (hf : foldedB g.leaves = true) (hn : n = g.chs.length) (hn4 : g.chs.length ≤ 4) (B : Nat) (hBE : B ≤ bE) (hBb : B ≤ b) (hch : ChsAt B w cv g.chs) :
    Calls Tryz.prog 65 #[.pointer (some ⟨bE, 0, none⟩), .int .i64 i, .agg #[.int .i64 g.round, .int .i64 g.letter, .int .i64 g.leaves, cv]] w fun e w' => e = .returned (.int .i64 (chsErr g.leaves none 0 g.chs).2) ∧ OnlyIn (Ebs bE b) w w' ∧ EarlierAt w' bE b (seen ++ [(g.round, g.letter)]) ((g.round, g.letter)) := by
  have HM : Hid (¬ (g.round, g.letter) ∈ seen) := hm
  have HS : Hid (sigB g.round g.letter = true) := hs
  subst hcv
  have HCH := Lib.hid hch
  have HN := Lib.hid hn
  clear hn hch
  go_enter Tryz.func65, Tryz.ntmps65
  go_wp2_with fail
  refine (isSig_any g.round g.letter _).mono ?_
  rintro e w1 ⟨rfl, hb⟩
  rw [hs]
  have k0 : w1.cell? ⟨w.heap.size, 0, none⟩ = some (.int .i64 g.round) := cell_later' hb (by simp [World.cell?_alloc_at])
  have k1 : w1.cell? ⟨w.heap.size, 1, none⟩ = some (.int .i64 g.letter) := cell_later' hb (by simp [World.cell?_alloc_at])
  have k2 : w1.cell? ⟨w.heap.size, 2, none⟩ = some (.int .i64 g.leaves) := cell_later' hb (by simp [World.cell?_alloc_at])
  have k3 : w1.cell? ⟨w.heap.size, 3, none⟩ = some (.slice a n cap) := cell_later' hb (by simp [World.cell?_alloc_at])
  have hb1 := ((Below.refl w.heap.size w).alloc (Nat.le_refl _) _).trans (hb.mono (by simp))
  have hE1 := hE.below hb1
  have e0 := hE1.c0
  have hl : ∀ m, (Instr.lookup 115 (.map (some b)) (.agg #[.int .i64 g.round, .int .i64 g.letter]) false).run Tryz.prog (w1.drewN m) = .ok (.bool false) (w1.drewN m) := fun m => by
    have hk : SigMap (w1.drewN m) b seen := hE1.map
    have := hk.look hs; rw [decide_eq_false hm] at this; exact this
  have HE := Lib.hid hE
  clear hb hs hE hm hE1
  go_wp2_with fail
  go_quiet (fail)
  clear hl
  have k0 : (w1.drewN nq).cell? ⟨w.heap.size, 0, none⟩ = some (.int .i64 g.round) := k0
  have k1 : (w1.drewN nq).cell? ⟨w.heap.size, 1, none⟩ = some (.int .i64 g.letter) := k1
  have k2 : (w1.drewN nq).cell? ⟨w.heap.size, 2, none⟩ = some (.int .i64 g.leaves) := k2
  have k3 : (w1.drewN nq).cell? ⟨w.heap.size, 3, none⟩ = some (.slice a n cap) := k3
  have hb2 := bdrewN hb1 nq
  clear hb1 e0
  revert k0 k1 k2 k3 hb2
  generalize w1.drewN nq = w2
  intro k0 k1 k2 k3 hb2
  have hE2 := HE.out.below hb2
  have e1 := hE2.c1
  have e2 := hE2.c2
  clear hE2
  go_wp2_with fail
  have r0 := cell_regrown k0
  have r1 := cell_regrown k1
  have s1 := cell_regrown e1
  have s2 := cell_regrown e2
  have cL : ∀ d os, Calls Tryz.prog 74 #[.agg #[.int .i64 g.round, .int .i64 g.letter]] (grow (redrawn w2 d) os) (fun e w'' => e = .returned (.bool true) ∧ ∃ p : Regrown, w'' = grow (redrawn w2 p.d) p.os) := fun d os => Calls.regrown_of (lettered_is _ _ true hd _)
  have cB : ∀ d os, Calls Tryz.prog 88 #[.agg #[.int .i64 g.round, .int .i64 g.letter], .agg #[.int .i64 last.1, .int .i64 last.2]] (grow (redrawn w2 d) os) (fun e w'' => e = .returned (.bool true) ∧ ∃ p : Regrown, w'' = grow (redrawn w2 p.d) p.os) := fun d os => Calls.regrown_of (behind_is _ _ _ _ true hbh _)
  clear e1 e2
  refine wp_region_quiet_below (by kernel_rfl) (by kernel_rfl) ?_; (repeat (go_big_quiet_step (first | exact cL _ _ | exact cB _ _))); refine wpQuiet_nil ?_; rintro w3 ⟨⟨d3, os3⟩, rfl⟩
  clear r0 r1 s1 s2 cL cB
  have hb23 := below_regrown w2 d3 os3
  have k0 := cell_later' hb23 k0
  have k1 := cell_later' hb23 k1
  have k2 := cell_later' hb23 k2
  have k3 := cell_later' hb23 k3
  have hb3 := hb2.trans (hb23.mono hb2.size)
  clear hb2 hb23
  revert k0 k1 k2 k3 hb3
  generalize grow (redrawn w2 d3) os3 = w3
  intro k0 k1 k2 k3 hb3
  go_wp2_with fail
  refine (isFolded_any g.leaves _).mono ?_
  rintro e w4 ⟨rfl, hb⟩
  rw [hf]
  have k0 := cell_later' hb k0
  have k1 := cell_later' hb k1
  have k2 := cell_later' hb k2
  have k3 := cell_later' hb k3
  have hb4 := hb3.trans (hb.mono hb3.size)
  clear hb hb3 hf
  have hn' : ¬ (4 : Int) < n := by rw [HN.out]; omega
  have hEb := HE.out.below hb4.drew
  have e0 : w4.drew.cell? ⟨bE, 0, none⟩ = some (.map (some b)) := hEb.c0
  obtain ⟨o, hput, hmap⟩ := hEb.map.put HS.out HM.out
  have HMAP := Lib.hid hmap
  have HEb := Lib.hid hEb
  clear hmap hEb
  go_wp2_with fail
  go_still_tail 6, (by kernel_rfl)
  change wpList _ _ _ _ _ w4.drew
  have k0 : w4.drew.cell? ⟨w.heap.size, 0, none⟩ = some (.int .i64 g.round) := k0
  have k1 : w4.drew.cell? ⟨w.heap.size, 1, none⟩ = some (.int .i64 g.letter) := k1
  have k2 : w4.drew.cell? ⟨w.heap.size, 2, none⟩ = some (.int .i64 g.leaves) := k2
  have k3 : w4.drew.cell? ⟨w.heap.size, 3, none⟩ = some (.slice a n cap) := k3
  have hb5 := hb4.drew
  clear hb4 e0
  revert k0 k1 k2 k3 hb5 HEb hput
  generalize w4.drew = w5
  intro hput HEb k0 k1 k2 k3 hb5
  have hbl : b < w.heap.size := HE.out.map.lt
  have hEl : bE < w.heap.size := lt_of_cell HE.out.c0
  have hne := HE.out.ne
  have k0 : (w5.putObj b o).cell? ⟨w.heap.size, 0, none⟩ = some (.int .i64 g.round) := (cell_put (by omega)).trans k0
  have k1 : (w5.putObj b o).cell? ⟨w.heap.size, 1, none⟩ = some (.int .i64 g.letter) := (cell_put (by omega)).trans k1
  have k2 : (w5.putObj b o).cell? ⟨w.heap.size, 2, none⟩ = some (.int .i64 g.leaves) := (cell_put (by omega)).trans k2
  have k3 : (w5.putObj b o).cell? ⟨w.heap.size, 3, none⟩ = some (.slice a n cap) := (cell_put (by omega)).trans k3
  have ho6 : OnlyIn (Ebs bE b) w (w5.putObj b o) := (OnlyIn.of_below hb5).trans (OnlyIn.putObj w5 b o (Or.inr rfl))
  have hE6 : EarlierAt (w5.putObj b o) bE b (seen ++ [(g.round, g.letter)]) last := ⟨(cell_put hne).trans HEb.out.c0, (cell_put hne).trans HEb.out.c1, (cell_put hne).trans HEb.out.c2, (frozen_put hne).trans HEb.out.f1, (frozen_put hne).trans HEb.out.f2,
    HMAP.out _ (World.putObj_heap_same (HEb.out.map.lt)), hne⟩
  have hz6 : w.heap.size < (w5.putObj b o).heap.size := lt_of_cell k0
  clear hne hEl hbl hb5 HMAP HEb
  have HE6 := Lib.hid hE6
  clear hE6
  go_wp2_with fail
  have hE6 := HE6.out
  clear HE6 hput
  revert k0 k1 k2 k3 ho6 hE6 hz6
  generalize w5.putObj b o = w6
  intro k0 k1 k2 k3 ho6 hz6 hE6
  refine (lettered_is _ _ _ hd _).mono ?_
  rintro e w7 ⟨rfl, hb⟩
  have k0 := cell_later' hb k0
  have k1 := cell_later' hb k1
  have k2 := cell_later' hb k2
  have k3 := cell_later' hb k3
  have ho7 := ho6.trans (OnlyIn.of_below hb)
  have hE7 := hE6.below hb
  have hz7 : w.heap.size < w7.heap.size := lt_of_cell k0
  clear ho6 hE6 hb hz6
  have HE7 := Lib.hid hE7
  have e1 := hE7.c1
  have e2 := hE7.c2
  have f1 := hE7.f1
  have f2 := hE7.f2
  clear hE7
  go_wp2_with fail
  have hEl : bE < w.heap.size := lt_of_cell HE.out.c0
  have k0 : ((w7.setCell ⟨bE, 1, none⟩ (.int .i64 g.round)).setCell ⟨bE, 2, none⟩ (.int .i64 g.letter)).cell? ⟨w.heap.size, 0, none⟩ = some (.int .i64 g.round) := ((cell_set (by omega)).trans (cell_set (by omega))).trans k0
  have k1 : ((w7.setCell ⟨bE, 1, none⟩ (.int .i64 g.round)).setCell ⟨bE, 2, none⟩ (.int .i64 g.letter)).cell? ⟨w.heap.size, 1, none⟩ = some (.int .i64 g.letter) := ((cell_set (by omega)).trans (cell_set (by omega))).trans k1
  have k2 : ((w7.setCell ⟨bE, 1, none⟩ (.int .i64 g.round)).setCell ⟨bE, 2, none⟩ (.int .i64 g.letter)).cell? ⟨w.heap.size, 2, none⟩ = some (.int .i64 g.leaves) := ((cell_set (by omega)).trans (cell_set (by omega))).trans k2
  have k3 : ((w7.setCell ⟨bE, 1, none⟩ (.int .i64 g.round)).setCell ⟨bE, 2, none⟩ (.int .i64 g.letter)).cell? ⟨w.heap.size, 3, none⟩ = some (.slice a n cap) := ((cell_set (by omega)).trans (cell_set (by omega))).trans k3
  have hoW : OnlyIn (Ebs bE b) w ((w7.setCell ⟨bE, 1, none⟩ (.int .i64 g.round)).setCell ⟨bE, 2, none⟩ (.int .i64 g.letter)) := ho7.trans ((OnlyIn.setCell _ _ _ (Or.inl rfl)).trans (OnlyIn.setCell _ _ _ (Or.inl rfl)))
  have HE7 := Lib.hid (HE7.out.setLast g.round g.letter)
  clear e1 e2 f1 f2 ho7 hz7
  have hch : ChsAt B _ (.slice a n cap) g.chs := HCH.out.same fun k hk => hoW.block k (by have := lt_of_cell HE.out.c0; omega) (fun h => by rcases h with h | h <;> omega)
  refine (firstErrorCh_any B g.leaves g.chs _ _ _ hch (by omega) k2 k3).mono ?_
  rintro e w8 ⟨rfl, hb⟩
  have hE8 := HE7.out.below hb
  have ho8 := hoW.trans (OnlyIn.of_below hb)
  clear hb hoW HE7 hch k0 k1 k2 k3
  have HO8 := Lib.hid ho8
  have HE8 := Lib.hid hE8
  clear ho8 hE8
  go_wp2_with fail
  go_ret
  exact ⟨rfl, HO8.out, HE8.out⟩


end Go.Proofs.YtlfglbnbenaghaaGreatDoor

/- Contracts of package quire: the gatherings of a book; Check; open. -/
namespace Go.Proofs.YtlfglbnbenaghaaGreatDoor
set_option linter.unusedSimpArgs false
set_option linter.unusedVariables false
open Go Go.RowKit Go.Sort Go.BigFrame

/-- ONE GATHERING: its error; without one it is taken among those that were met. -/
theorem check_any (i : Int) (g : Gth) (cv : Value) (bE b : Nat) (seen : List (Int × Int)) (last : Int × Int) (w : World) (hE : EarlierAt w bE b seen last) (B : Nat) (hBE : B ≤ bE) (hBb : B ≤ b) (hch : ChsAt B w cv g.chs) :
    Calls Tryz.prog 65 #[.pointer (some ⟨bE, 0, none⟩), .int .i64 i, .agg #[.int .i64 g.round, .int .i64 g.letter, .int .i64 g.leaves, cv]] w fun e w' => e = .returned (.int .i64 (gthErr seen last g)) ∧ OnlyIn (Ebs bE b) w w' ∧ (gthErr seen last g = 0 → EarlierAt w' bE b (seen ++ [(g.round, g.letter)]) (lastOf last g)) := by
  have hch' := hch
  obtain ⟨a, cap, hcv, hcell⟩ := hch
  have bad : ∀ v : Int, v ≠ 0 → gthErr seen last g = v → Calls Tryz.prog 65 #[.pointer (some ⟨bE, 0, none⟩), .int .i64 i, .agg #[.int .i64 g.round, .int .i64 g.letter, .int .i64 g.leaves, cv]] w (fun e w' => e = .returned (.int .i64 v) ∧ Below w.heap.size w w') →
      Calls Tryz.prog 65 #[.pointer (some ⟨bE, 0, none⟩), .int .i64 i, .agg #[.int .i64 g.round, .int .i64 g.letter, .int .i64 g.leaves, cv]] w fun e w' => e = .returned (.int .i64 (gthErr seen last g)) ∧ OnlyIn (Ebs bE b) w w' ∧ (gthErr seen last g = 0 → EarlierAt w' bE b (seen ++ [(g.round, g.letter)]) (lastOf last g)) := fun v hv he h => by
    rw [he]; exact h.mono fun e w' ⟨h1, h2⟩ => ⟨h1, OnlyIn.of_below h2, fun h0 => absurd h0 hv⟩
  cases hs : sigB g.round g.letter
  · exact bad 7 (by decide) (by simp [gthErr, hs]) (check_sig i g cv a _ cap hcv bE w hs)
  by_cases hm : (g.round, g.letter) ∈ seen
  · exact bad 5 (by decide) (by simp [gthErr, hs, hm]) (check_twice i g cv a _ cap hcv bE b seen last w hE hs hm)
  by_cases hl : g.letter < 23
  · have hd : decide (g.letter < 23) = true := decide_eq_true hl
    have hlo : lastOf last g = (g.round, g.letter) := by simp [lastOf, hl]
    cases hbh : behindB g.round g.letter last.1 last.2
    · exact bad 2 (by decide) (by simp [gthErr, hs, hm, hl, hbh]) (check_order i g cv a _ cap hcv bE b seen last w hE hs hm hd hbh)
    cases hf : foldedB g.leaves
    · exact bad 7 (by decide) (by simp [gthErr, hs, hm, hbh, hf]) (check_foldL i g cv a _ cap hcv bE b seen last w hE hs hm hd hbh hf)
    by_cases h4 : 4 < g.chs.length
    · exact bad 3 (by decide) (by simp [gthErr, hs, hm, hbh, hf, h4]) (check_longL i g cv a _ cap hcv bE b seen last w hE hs hm hd hbh hf h4)
    have he : gthErr seen last g = (chsErr g.leaves none 0 g.chs).2 := by simp [gthErr, hs, hm, hbh, hf, h4]
    rw [he, hlo]
    exact (check_okL i g cv a _ cap hcv bE b seen last w hE hs hm hd hbh hf rfl (by omega) B hBE hBb hch').mono fun e w' ⟨h1, h2, h3⟩ => ⟨h1, h2, fun _ => h3⟩
  · have hd : decide (g.letter < 23) = false := decide_eq_false hl
    have hlo : lastOf last g = last := by simp [lastOf, hl]
    cases hf : foldedB g.leaves
    · exact bad 7 (by decide) (by simp [gthErr, hs, hm, hl, hf]) (check_foldN i g cv a _ cap hcv bE b seen last w hE hs hm hd hf)
    by_cases h4 : 4 < g.chs.length
    · exact bad 3 (by decide) (by simp [gthErr, hs, hm, hl, hf, h4]) (check_longN i g cv a _ cap hcv bE b seen last w hE hs hm hd hf h4)
    have he : gthErr seen last g = (chsErr g.leaves none 0 g.chs).2 := by simp [gthErr, hs, hm, hl, hf, h4]
    rw [he, hlo]
    exact (check_okN i g cv a _ cap hcv bE b seen last w hE hs hm hd hf rfl (by omega) B hBE hBb hch').mono fun e w' ⟨h1, h2, h3⟩ => ⟨h1, h2, fun _ => h3⟩

theorem gsErr_step {gs : List Gth} {seen : List (Int × Int)} {last : Int × Int} {k : Nat} {g : Gth} (hk : gs[k]? = some g) (h0 : gthErr seen last g = 0) :
    gsErr seen last k (gs.drop k) = gsErr (seen ++ [(g.round, g.letter)]) (lastOf last g) (k + 1) (gs.drop (k + 1)) := by
  have hl := (List.getElem?_eq_some_iff.1 hk).1
  have e : gs.drop k = g :: gs.drop (k + 1) := by
    rw [List.drop_eq_getElem_cons hl]; congr 1; exact Option.some.inj ((List.getElem?_eq_getElem hl).symm.trans hk)
  rw [e, gsErr, if_pos h0]
theorem gsErr_stop {gs : List Gth} {seen : List (Int × Int)} {last : Int × Int} {k : Nat} {g : Gth} (hk : gs[k]? = some g) (h0 : gthErr seen last g ≠ 0) :
    gsErr seen last k (gs.drop k) = (k, gthErr seen last g) := by
  have hl := (List.getElem?_eq_some_iff.1 hk).1
  have e : gs.drop k = g :: gs.drop (k + 1) := by
    rw [List.drop_eq_getElem_cons hl]; congr 1; exact Option.some.inj ((List.getElem?_eq_getElem hl).symm.trans hk)
  rw [e, gsErr, if_neg h0]

/-- The cells of the k-th gathering, in a later world. -/
theorem gs_cells {B : Nat} {w wr : World} {b' off : Nat} {gs : List Gth} {X : Nat → Prop} (hb : b' < B) (hB : B ≤ w.heap.size) (ho : OnlyIn X w wr) (hX : ∀ k, X k → B ≤ k)
    (hcell : ∀ i g, gs[i]? = some g → ∃ cv, ChsAt B w cv g.chs ∧ w.cell? ⟨b', off + i * 4, none⟩ = some (.int .i64 g.round) ∧ w.cell? ⟨b', off + i * 4 + 1, none⟩ = some (.int .i64 g.letter) ∧
      w.cell? ⟨b', off + i * 4 + 2, none⟩ = some (.int .i64 g.leaves) ∧ w.cell? ⟨b', off + i * 4 + 3, none⟩ = some cv) {i : Nat} {g : Gth} (hi : gs[i]? = some g) :
    ∃ a n cap, ChsAt B wr (.slice a n cap) g.chs ∧ wr.cell? ⟨b', off + i * 4, none⟩ = some (.int .i64 g.round) ∧ wr.cell? ⟨b', off + i * 4 + 1, none⟩ = some (.int .i64 g.letter) ∧
      wr.cell? ⟨b', off + i * 4 + 2, none⟩ = some (.int .i64 g.leaves) ∧ wr.cell? ⟨b', off + i * 4 + 3, none⟩ = some (.slice a n cap) := by
  have hs : ∀ k, k < B → wr.heap[k]? = w.heap[k]? := fun k hk => ho.block k (by omega) (fun h => by have := hX k h; omega)
  obtain ⟨cv, h1, h2, h3, h4, h5⟩ := hcell i g hi
  have h1' := h1
  obtain ⟨a, cap, rfl, _⟩ := h1'
  exact ⟨a, _, cap, h1.same hs, (cell_same hs hb _).trans h2, (cell_same hs hb _).trans h3, (cell_same hs hb _).trans h4, (cell_same hs hb _).trans h5⟩

set_option maxRecDepth 100000 in
set_option maxHeartbeats 400000 in
theorem firstErrorG_some (n cap : Nat) (gs : List Gth) (b' off bE b : Nat) (w : World) (hn : gs.length = n) (hn' : n ≤ 100) (hE : EarlierAt w bE b [] (0, 0)) (B : Nat) (hBE : B ≤ bE) (hBb : B ≤ b) (hb' : b' < B)
    (hcell : ∀ i g, gs[i]? = some g → ∃ cv, ChsAt B w cv g.chs ∧ w.cell? ⟨b', off + i * 4, none⟩ = some (.int .i64 g.round) ∧ w.cell? ⟨b', off + i * 4 + 1, none⟩ = some (.int .i64 g.letter) ∧
      w.cell? ⟨b', off + i * 4 + 2, none⟩ = some (.int .i64 g.leaves) ∧ w.cell? ⟨b', off + i * 4 + 3, none⟩ = some cv) :
    Calls Tryz.prog 64 #[.slice (some ⟨b', off, none⟩) n cap, .func (.func 65) #[.pointer (some ⟨bE, 0, none⟩)] #[]] w fun e w' => e = .returned (.tuple #[.int .i64 (gsErr [] (0, 0) 0 gs).1, .int .i64 (gsErr [] (0, 0) 0 gs).2]) ∧ OnlyIn (Ebs bE b) w w' := by
  have HN := Lib.hid hn
  have HC := Lib.hid hcell
  have HE := Lib.hid hE
  clear hn hcell hE
  have hBw : B ≤ w.heap.size := by have := HE.out.map.lt; omega
  go_enter Tryz.func64, Tryz.ntmps64
  go_wp2
  go_loopw [11] (fun i wr => ∃ (k : Nat) (seen : List (Int × Int)) (last : Int × Int), k ≤ n ∧ i = .int .i64 k ∧ OnlyIn (Ebs bE b) w wr ∧ Hid (EarlierAt wr bE b seen last) ∧ Hid (gsErr [] (0, 0) 0 gs = gsErr seen last k (gs.drop k))) (fun i _ => n - (intOf i).toNat)
  case atStart => exact ⟨0, [], (0, 0), by omega, rfl, OnlyIn.refl _ _, HE, rfl⟩
  case round =>
    obtain ⟨k, seen, last, hk, rfl, ho, hEr, hh⟩ := hrel
    by_cases hlt : k < n
    · obtain ⟨g, hg⟩ : ∃ g, gs[k]? = some g := ⟨gs[k]'(by rw [HN.out]; exact hlt), List.getElem?_eq_getElem _⟩
      obtain ⟨a, m, cc, q0, q1, q2, q3, q4⟩ := gs_cells hb' hBw ho (fun k h => by rcases h with rfl | rfl <;> assumption) HC.out hg
      have HG := Lib.hid hg
      have hba : Below wr.heap.size wr (wr.alloc (Obj.cells #[.int .i64 g.round, .int .i64 g.letter, .int .i64 g.leaves, .slice a m cc] 42)) := (Below.refl _ _).alloc (Nat.le_refl _) _
      have hC := check_any k g (.slice a m cc) bE b seen last _ (hEr.out.below hba) B hBE hBb (q0.below hba (by have := ho.size; omega))
      have HCc := Lib.hid hC
      have HO := Lib.hid (ho.trans (OnlyIn.of_below hba))
      clear hC hba hg q0
      go_wp2_with fail
      refine HCc.out.mono ?_
      rintro e w1 ⟨rfl, ho1, hE1⟩
      have ho2 := HO.out.trans ho1
      clear HO HCc ho1
      obtain ⟨er, her⟩ : ∃ er, er = gthErr seen last g := ⟨_, rfl⟩
      rw [← her] at hE1 ⊢
      have HE1 := Lib.hid hE1
      have HR := Lib.hid her
      clear her hE1 q1 q2 q3 q4 ho hEr
      by_cases h0 : er = 0
      · subst h0
        go_wp2_with fail
        go_roundw
        case rel => exact ⟨k + 1, _, _, by omega, by go_num, ho2, HE1.out trivial, hh.out.trans (gsErr_step HG.out HR.out.symm)⟩
        case measure => simp [intOf]; omega
      · have h0b : (er != 0) = true := by simp [h0]
        have HF : Hid (gsErr [] (0, 0) 0 gs = (k, er)) := by
          have := hh.out.trans (gsErr_stop HG.out (fun h => h0 (HR.out.trans h)))
          rw [← HR.out] at this; exact this
        clear h0 HR hh HE1
        go_wp2_with fail
        go_ret2
        exact ⟨by rw [HF.out]; rfl, ho2⟩
    · have HF : Hid (gsErr [] (0, 0) 0 gs = (0, 0)) := by
        have := hh.out
        rw [List.drop_of_length_le (by rw [HN.out]; omega)] at this; exact this
      go_wp2_with fail
      go_ret2
      exact ⟨by rw [HF.out]; rfl, ho⟩

theorem EarlierAt.start (w : World) (m : Nat) (hm : w.heap.size = m) : EarlierAt ((w.alloc (.map #[] 0)).alloc (.cells #[.map (some m), .int .i64 0, .int .i64 0] 117)) (m + 1) m [] (0, 0) := by
  subst hm
  have hz : (w.alloc (.map #[] 0)).heap.size = w.heap.size + 1 := by simp
  have hn := World.alloc_heap_new (w.alloc (.map #[] 0)) (.cells #[.map (some w.heap.size), .int .i64 0, .int .i64 0] 117)
  rw [hz] at hn
  refine ⟨?_, ?_, ?_, ?_, ?_, ?_, by omega⟩
  · rw [World.cell?_alloc_at _ _ _ _ hz.symm]; rfl
  · rw [World.cell?_alloc_at _ _ _ _ hz.symm]; rfl
  · rw [World.cell?_alloc_at _ _ _ _ hz.symm]; rfl
  · simp only [World.frozen?, hn]; rfl
  · simp only [World.frozen?, hn]; rfl
  · exact (SigMap.made w).keep (Below.heap_alloc _ _ _ (by simp))

/-- A book as Check hands back of it: part, index, error. -/
def checkR (b : Bk) : Value := .tuple #[.int .i64 (checkF b).1, .int .i64 (checkF b).2.1, .int .i64 (checkF b).2.2]

set_option maxRecDepth 100000 in
set_option maxHeartbeats 400000 in
theorem Check_signed (s : Int) (a : Option Addr) (n cap : Nat) (w : World) (h : inB 0 12 s = false) :
    Calls Tryz.prog 29 #[.agg #[.int .i64 s, .slice a n cap]] w fun e w' => e = .returned (.tuple #[.int .i64 1, .int .i64 0, .int .i64 7]) ∧ Below w.heap.size w w' := by
  go_enter Tryz.func29, Tryz.ntmps29
  go_wp2_with fail
  refine (within_one _ _ s _ _ (by simp [World.cell?_alloc_at])).mono ?_
  rintro e w1 ⟨rfl, rfl⟩
  rw [h]
  go_wp2_with fail
  go_ret3
  exact ⟨rfl, (by repeat (first | exact Below.refl _ _ | assumption | (refine Below.alloc ?_ ?_ _; rotate_left; · (first | omega | (simp; done) | (simp; omega) | (simp at *; omega) | fail)) | (refine Below.setCell ?_ ?_ _; rotate_left; · (first | omega | (simp; done) | (simp; omega) | (simp at *; omega) | fail)) | refine Below.drew ?_ | fail))⟩

set_option maxRecDepth 100000 in
set_option maxHeartbeats 400000 in
theorem Check_long (s : Int) (a : Option Addr) (n cap : Nat) (w : World) (h : inB 0 12 s = true) (hn : inB 1 30 n = false) :
    Calls Tryz.prog 29 #[.agg #[.int .i64 s, .slice a n cap]] w fun e w' => e = .returned (.tuple #[.int .i64 1, .int .i64 0, .int .i64 3]) ∧ Below w.heap.size w w' := by
  go_enter Tryz.func29, Tryz.ntmps29
  go_wp2_with fail
  refine (within_one _ _ s _ _ (by simp [World.cell?_alloc_at])).mono ?_
  rintro e w1 ⟨rfl, rfl⟩
  rw [h]
  go_wp2_with fail
  refine (within_one _ _ n _ _ (by simp [World.cell?_alloc_at])).mono ?_
  rintro e w1 ⟨rfl, rfl⟩
  rw [hn]
  go_wp2_with fail
  go_ret3
  exact ⟨rfl, (by repeat (first | exact Below.refl _ _ | assumption | (refine Below.alloc ?_ ?_ _; rotate_left; · (first | omega | (simp; done) | (simp; omega) | (simp at *; omega) | fail)) | (refine Below.setCell ?_ ?_ _; rotate_left; · (first | omega | (simp; done) | (simp; omega) | (simp at *; omega) | fail)) | refine Below.drew ?_ | fail))⟩

set_option maxRecDepth 100000 in
set_option maxHeartbeats 400000 in
theorem Check_rest (s : Int) (gs : List Gth) (sv : Value) (a : Option Addr) (n cap : Nat) (hsv : sv = .slice a n cap) (w : World) (hg : GsAt w.heap.size w sv gs) (h : inB 0 12 s = true) (hn : inB 1 30 n = true) :
    Calls Tryz.prog 29 #[.agg #[.int .i64 s, sv]] w fun e w' => e = .returned (checkR ⟨s, gs⟩) ∧ Below w.heap.size w w' := by
  subst hsv
  have HG := Lib.hid hg
  clear hg
  have hmm := @run_makeMap Tryz.prog
  have hmf : ∀ (fn : Fn) (first cap : Array Value) (w : World), (Instr.makeFunc fn first cap).run Tryz.prog w = .ok (.func fn first cap) w := fun _ _ _ _ => rfl
  go_enter Tryz.func29, Tryz.ntmps29
  go_wp2_with fail
  refine (within_one _ _ s _ _ (by simp [World.cell?_alloc_at])).mono ?_
  rintro e w1 ⟨rfl, rfl⟩
  rw [h]
  go_wp2_with fail
  refine (within_one _ _ n _ _ (by simp [World.cell?_alloc_at])).mono ?_
  rintro e w1 ⟨rfl, rfl⟩
  rw [hn]
  go_wp2_with fail
  clear hmm hmf
  have hE := EarlierAt.start (((w.alloc (Obj.cells #[.int .i64 s, .slice a n cap] 24)).alloc (Obj.cells #[.int .i64 s] 3)).alloc (Obj.cells #[.int .i64 n] 3)) (w.heap.size + 1 + 1 + 1) (by simp)
  have hbb : Below w.heap.size w (((((w.alloc (Obj.cells #[.int .i64 s, .slice a n cap] 24)).alloc (Obj.cells #[.int .i64 s] 3)).alloc (Obj.cells #[.int .i64 n] 3)).alloc (Obj.map #[] 0)).alloc (Obj.cells #[.map (some (w.heap.size + 1 + 1 + 1)), .int .i64 0, .int .i64 0] 117)) := (by repeat (first | exact Below.refl _ _ | assumption | (refine Below.alloc ?_ ?_ _; rotate_left; · (first | omega | (simp; done) | (simp; omega) | (simp at *; omega) | fail)) | (refine Below.setCell ?_ ?_ _; rotate_left; · (first | omega | (simp; done) | (simp; omega) | (simp at *; omega) | fail)) | refine Below.drew ?_ | fail))
  revert hE hbb
  generalize ((((w.alloc (Obj.cells #[.int .i64 s, .slice a n cap] 24)).alloc (Obj.cells #[.int .i64 s] 3)).alloc (Obj.cells #[.int .i64 n] 3)).alloc (Obj.map #[] 0)).alloc (Obj.cells #[.map (some (w.heap.size + 1 + 1 + 1)), .int .i64 0, .int .i64 0] 117) = w5
  intro hE hbb
  have hg := HG.out.below hbb (Nat.le_refl _)
  have hle : 1 ≤ n ∧ n ≤ 30 := by simp [inB] at hn; omega
  obtain ⟨a', cap', hav, hcell⟩ := hg
  simp only [Value.slice.injEq] at hav
  obtain ⟨rfl, hlen, rfl⟩ := hav
  obtain ⟨b', off, rfl, hb', hcell⟩ := hcell (fun e => by rw [e] at hlen; simp at hlen; omega)
  refine (firstErrorG_some n cap gs b' off _ _ _ hlen.symm (by omega) hE w.heap.size (by omega) (by omega) hb' hcell).mono ?_
  rintro e w6 ⟨rfl, ho⟩
  have hb6 : Below w.heap.size w w6 := ho.below hbb hbb.size (fun k h => by rcases h with rfl | rfl <;> omega)
  have HR : Hid (checkR ⟨s, gs⟩ = if (gsErr [] (0, 0) 0 gs).2 = 0 then .tuple #[.int .i64 0, .int .i64 0, .int .i64 0] else .tuple #[.int .i64 2, .int .i64 (gsErr [] (0, 0) 0 gs).1, .int .i64 (gsErr [] (0, 0) 0 gs).2]) := by
    show checkR _ = _
    have h1 : inB 1 30 (gs.length : Int) = true := by rw [← hlen]; exact hn
    unfold checkR checkF
    simp only [h, h1]
    by_cases h0 : (gsErr [] (0, 0) 0 gs).2 = 0 <;> simp [h0]
  clear ho hbb hE hcell HG hlen hn h hle hb'
  generalize gsErr [] (0, 0) 0 gs = r at HR ⊢
  obtain ⟨ri, re⟩ := r
  dsimp only at HR ⊢
  by_cases h0 : re = 0
  · subst h0
    have HR : Hid (checkR ⟨s, gs⟩ = .tuple #[.int .i64 0, .int .i64 0, .int .i64 0]) := HR.out.trans (if_pos rfl)
    go_wp2_with fail
    go_ret3
    exact ⟨by rw [HR.out]; rfl, hb6⟩
  · have h0b : (re != 0) = true := by simp [h0]
    have HR : Hid (checkR ⟨s, gs⟩ = .tuple #[.int .i64 2, .int .i64 ri, .int .i64 re]) := HR.out.trans (if_neg h0)
    clear h0
    go_wp2_with fail
    go_ret3
    exact ⟨by rw [HR.out]; rfl, hb6⟩

/-- CHECK, of any book. -/
theorem Check_any (b : Bk) (v : Value) (w : World) (hb : BookAt w.heap.size w v b) :
    Calls Tryz.prog 29 #[v] w fun e w' => e = .returned (checkR b) ∧ Below w.heap.size w w' := by
  obtain ⟨s, gs⟩ := b
  obtain ⟨sv, rfl, hg⟩ := hb
  have hg' := hg
  obtain ⟨a, cap, rfl, _⟩ := hg'
  cases h : inB 0 12 s
  · have e : checkR ⟨s, gs⟩ = .tuple #[.int .i64 1, .int .i64 0, .int .i64 7] := by simp [checkR, checkF, h]
    rw [e]; exact Check_signed s a _ cap w h
  · cases hn : inB 1 30 (gs.length : Int)
    · have e : checkR ⟨s, gs⟩ = .tuple #[.int .i64 1, .int .i64 0, .int .i64 3] := by simp [checkR, checkF, h, hn]
      rw [e]; exact Check_long s a _ cap w h hn
    · exact Check_rest s gs _ a _ cap rfl w hg h hn

end Go.Proofs.YtlfglbnbenaghaaGreatDoor

/-
  DERIVED: THE SHELF's CONTRACTS AT THIS DUMP, IN PLAIN WORDS (tools/lay-plain.mjs out of 'TryzShelf.lean', which tools/lay-shelf.mjs wrote): THE SAME DECLARATIONS UNDER THE SAME NAMES: 'import', 'namespace', 'open', 'def', 'theorem' AND NOTHING ELSE: no command of the shelf's: FOR A HAND-IN. Each laying: the table of numbers ('.._ren') and one theorem, a field a fact of the dump's own or the kernel's comparison; each contract: ONE APPLICATION.
-/
namespace Go.Proofs
open Go.Shelf
def Tryz.lays156_ren : Go.Shelf.Ren := ⟨fun | 156 => 101 | 165 => 105 | 166 => 106 | 169 => 107 | 240 => 113 | 241 => 114 | 276 => 120 | 277 => 121 | n => n, fun | 31 => 68 | 9 => 9 | 3 => 3 | 4 => 4 | 0 => 0 | 20 => 20 | 72 => 167 | 76 => 171 | 70 => 165 | 37 => 34 | 75 => 170 | 127 => 180 | 164 => 188 | 5 => 5 | 80 => 98 | n => n, fun | n => n⟩
theorem Tryz.lays156 : Go.Proofs.Lays.n156 Tryz.prog Tryz.lays156_ren := {
  mixed := by kernel_rfl
  f156 := Tryz.func101.trans (congrArg some (by kernel_rfl))
  f165 := Tryz.func105.trans (congrArg some (by kernel_rfl))
  f166 := Tryz.func106.trans (congrArg some (by kernel_rfl))
  f169 := Tryz.func107.trans (congrArg some (by kernel_rfl))
  f240 := Tryz.func113.trans (congrArg some (by kernel_rfl))
  f241 := Tryz.func114.trans (congrArg some (by kernel_rfl))
  f276 := Tryz.func120.trans (congrArg some (by kernel_rfl))
  f277 := Tryz.func121.trans (congrArg some (by kernel_rfl))
  t0 := Tryz.underlying0
  a0 := Tryz.isAgg0
  z0 := Tryz.sizeOf0
  v0 := Tryz.zeroValue0
  t3 := Tryz.underlying3
  a3 := Tryz.isAgg3
  z3 := Tryz.sizeOf3
  v3 := Tryz.zeroValue3
  t4 := Tryz.underlying4
  a4 := Tryz.isAgg4
  z4 := Tryz.sizeOf4
  v4 := Tryz.zeroValue4
  t9 := Tryz.underlying9
  a9 := Tryz.isAgg9
  z9 := Tryz.sizeOf9
  v9 := Tryz.zeroValue9
  t20 := Tryz.underlying20
  a20 := Tryz.isAgg20
  z20 := Tryz.sizeOf20
  v20 := Tryz.zeroValue20
  t31 := Tryz.underlying68
  a31 := Tryz.isAgg68
  z31 := Tryz.sizeOf68
  v31 := Tryz.zeroValue68
  t37 := Tryz.underlying34
  a37 := Tryz.isAgg34
  z37 := Tryz.sizeOf34
  v37 := Tryz.zeroValue34
  t70 := Tryz.underlying165
  a70 := Tryz.isAgg165
  z70 := Tryz.sizeOf165
  v70 := Tryz.zeroValue165
  t72 := Tryz.underlying167
  a72 := Tryz.isAgg167
  z72 := Tryz.sizeOf167
  v72 := Tryz.zeroValue167
  t75 := Tryz.underlying170
  a75 := Tryz.isAgg170
  z75 := Tryz.sizeOf170
  v75 := Tryz.zeroValue170
  t76 := Tryz.underlying171
  a76 := Tryz.isAgg171
  z76 := Tryz.sizeOf171
  v76 := Tryz.zeroValue171
  t127 := Tryz.underlying180
  a127 := Tryz.isAgg180
  z127 := Tryz.sizeOf180
  v127 := Tryz.zeroValue180
  t164 := Tryz.underlying188
  a164 := Tryz.isAgg188
  z164 := Tryz.sizeOf188
  v164 := Tryz.zeroValue188 }
theorem Tryz.Builder_Extra_156 : Builder.Extra Tryz.prog Tryz.lays156_ren := {
  sizeBuilder := by kernel_rfl
  liesBuilder := by kernel_rfl
  t5 := Tryz.underlying5
  a5 := Tryz.isAgg5
  z5 := Tryz.sizeOf5
  v5 := Tryz.zeroValue5
  infoByte := by kernel_rfl
  cellsByte := by kernel_rfl
  sizeByte := by kernel_rfl
  neB5 := by decide }
open Go.RowKit in
/-- No element: the empty string; the world is as it was. (Whatever the slice's address and capacity: a nil slice too.) (LAID: no walk: one application.) -/
theorem Tryz.strings_Join_none (a : Option Addr) (c : Nat) (sep : ByteArray) (w : World) :
    Calls Tryz.prog 101 #[.slice a 0 c, .string sep] w fun e w' => e = .returned (.string ⟨#[]⟩) ∧ w' = w := Any.strings_Join_none Tryz.lays156 Tryz.Builder_Extra_156 a c sep w
open Go.RowKit in
/-- strings.Join: "Join concatenates the elements of its first argument to create a single string. The separator string sep is placed between elements in the resulting string.": HOWEVER MANY ELEMENTS. Below the heap's end the world is as it was. (LAID: no walk: one application.) -/
theorem Tryz.strings_Join (bk o c : Nat) (xs : List ByteArray) (sep : ByteArray) (w : World) (hcells : ∀ (j : Nat) x, xs[j]? = some x → w.cell? ⟨bk, o + j, none⟩ = some (.string x)) (hbk : bk < w.heap.size) (hN : xs.length ≤ 140737488355328) (hcap : xs.length ≤ c) (hlen : (Lib.join (xs.map (·.data.toList)) sep.data.toList).length ≤ 140737488355328) :
    Calls Tryz.prog 101 #[.slice (some ⟨bk, o, none⟩) xs.length c, .string sep] w fun e w' => e = .returned (.string ⟨(Lib.join (xs.map (·.data.toList)) sep.data.toList).toArray⟩) ∧ Below w.heap.size w w' := Any.strings_Join Tryz.lays156 Tryz.Builder_Extra_156 bk o c xs sep w hcells hbk hN hcap hlen
def Tryz.lays103_ren : Go.Shelf.Ren := ⟨fun | 103 => 86 | 210 => 103 | 206 => 112 | n => n, fun | 9 => 9 | 4 => 4 | 24 => 137 | 3 => 3 | n => n, fun | n => n⟩
theorem Tryz.lays103 : Go.Proofs.Lays.n103 Tryz.prog Tryz.lays103_ren := {
  mixed := by kernel_rfl
  f103 := Tryz.func86.trans (congrArg some (by kernel_rfl))
  f206 := Tryz.func112.trans (congrArg some (by kernel_rfl))
  f210 := Tryz.func103.trans (congrArg some (by kernel_rfl))
  t3 := Tryz.underlying3
  a3 := Tryz.isAgg3
  z3 := Tryz.sizeOf3
  v3 := Tryz.zeroValue3
  t4 := Tryz.underlying4
  a4 := Tryz.isAgg4
  z4 := Tryz.sizeOf4
  v4 := Tryz.zeroValue4
  t9 := Tryz.underlying9
  a9 := Tryz.isAgg9
  z9 := Tryz.sizeOf9
  v9 := Tryz.zeroValue9
  t24 := Tryz.underlying137
  a24 := Tryz.isAgg137
  z24 := Tryz.sizeOf137
  v24 := Tryz.zeroValue137 }
open Go.RowKit in
/-- strings.CutPrefix: "CutPrefix returns s without the provided leading prefix string and reports whether it found the prefix. If s doesn't start with prefix, CutPrefix returns s, false. If prefix is the empty string, CutPrefix returns s, true.": IT RETURNS '(Lib.trimPrefix s p, Lib.hasPrefix s p)'; the world is as it was. (LAID: no walk: one application.) -/
theorem Tryz.strings_CutPrefix (s p : ByteArray) (w : World) :
    Calls Tryz.prog 86 #[.string s, .string p] w fun e w' => e = .returned (.tuple #[.string ⟨(Lib.trimPrefix s.data.toList p.data.toList).toArray⟩, .bool (Lib.hasPrefix s.data.toList p.data.toList)]) ∧ w' = w := Any.strings_CutPrefix Tryz.lays103 s p w
def Tryz.lays171_ren : Go.Shelf.Ren := ⟨fun | 171 => 50 | 243 => 83 | 246 => 102 | 283 => 108 | 284 => 109 | 285 => 110 | 286 => 111 | 129 => 116 | 317 => 115 | 318 => 117 | 319 => 118 | 320 => 119 | 337 => 122 | 338 => 123 | n => n, fun | 3 => 3 | 9 => 9 | 2 => 2 | 4 => 4 | 171 => 173 | 0 => 0 | 53 => 174 | 37 => 34 | 5 => 5 | 173 => 177 | 212 => 183 | 51 => 184 | 20 => 20 | 213 => 185 | 46 => 186 | 232 => 192 | 233 => 193 | n => n, fun | 17 => 0 | 18 => 2 | 19 => 3 | n => n⟩
theorem Tryz.lays171 : Go.Proofs.Lays.n171 Tryz.prog Tryz.lays171_ren := {
  mixed := by kernel_rfl
  f129 := Tryz.func116.trans (congrArg some (by kernel_rfl))
  f171 := Tryz.func50.trans (congrArg some (by kernel_rfl))
  f243 := Tryz.func83.trans (congrArg some (by kernel_rfl))
  f246 := Tryz.func102.trans (congrArg some (by kernel_rfl))
  f283 := Tryz.func108.trans (congrArg some (by kernel_rfl))
  f284 := Tryz.func109.trans (congrArg some (by kernel_rfl))
  f285 := Tryz.func110.trans (congrArg some (by kernel_rfl))
  f286 := Tryz.func111.trans (congrArg some (by kernel_rfl))
  f317 := Tryz.func115.trans (congrArg some (by kernel_rfl))
  f318 := Tryz.func117.trans (congrArg some (by kernel_rfl))
  f319 := Tryz.func118.trans (congrArg some (by kernel_rfl))
  f320 := Tryz.func119.trans (congrArg some (by kernel_rfl))
  f337 := Tryz.func122.trans (congrArg some (by kernel_rfl))
  f338 := Tryz.func123.trans (congrArg some (by kernel_rfl))
  t0 := Tryz.underlying0
  a0 := Tryz.isAgg0
  z0 := Tryz.sizeOf0
  v0 := Tryz.zeroValue0
  t2 := Tryz.underlying2
  a2 := Tryz.isAgg2
  z2 := Tryz.sizeOf2
  v2 := Tryz.zeroValue2
  t3 := Tryz.underlying3
  a3 := Tryz.isAgg3
  z3 := Tryz.sizeOf3
  v3 := Tryz.zeroValue3
  t4 := Tryz.underlying4
  a4 := Tryz.isAgg4
  z4 := Tryz.sizeOf4
  v4 := Tryz.zeroValue4
  t5 := Tryz.underlying5
  a5 := Tryz.isAgg5
  z5 := Tryz.sizeOf5
  v5 := Tryz.zeroValue5
  t9 := Tryz.underlying9
  a9 := Tryz.isAgg9
  z9 := Tryz.sizeOf9
  v9 := Tryz.zeroValue9
  t20 := Tryz.underlying20
  a20 := Tryz.isAgg20
  z20 := Tryz.sizeOf20
  v20 := Tryz.zeroValue20
  t37 := Tryz.underlying34
  a37 := Tryz.isAgg34
  z37 := Tryz.sizeOf34
  v37 := Tryz.zeroValue34
  t46 := Tryz.underlying186
  a46 := Tryz.isAgg186
  z46 := Tryz.sizeOf186
  v46 := Tryz.zeroValue186
  t51 := Tryz.underlying184
  a51 := Tryz.isAgg184
  z51 := Tryz.sizeOf184
  v51 := Tryz.zeroValue184
  t53 := Tryz.underlying174
  a53 := Tryz.isAgg174
  z53 := Tryz.sizeOf174
  v53 := Tryz.zeroValue174
  t171 := Tryz.underlying173
  a171 := Tryz.isAgg173
  z171 := Tryz.sizeOf173
  v171 := Tryz.zeroValue173
  t173 := Tryz.underlying177
  a173 := Tryz.isAgg177
  z173 := Tryz.sizeOf177
  v173 := Tryz.zeroValue177
  t212 := Tryz.underlying183
  a212 := Tryz.isAgg183
  z212 := Tryz.sizeOf183
  v212 := Tryz.zeroValue183
  t213 := Tryz.underlying185
  a213 := Tryz.isAgg185
  z213 := Tryz.sizeOf185
  t232 := Tryz.underlying192
  a232 := Tryz.isAgg192
  z232 := Tryz.sizeOf192
  v232 := Tryz.zeroValue192
  t233 := Tryz.underlying193
  a233 := Tryz.isAgg193
  z233 := Tryz.sizeOf193
  v233 := Tryz.zeroValue193
  g17 := by kernel_rfl
  g18 := by kernel_rfl
  g19 := by kernel_rfl }
open Go.RowKit Go.Sort Go.Lib in
/-- THE ROAD WITHOUT THE TABLE: 0 <= i < 100: NO PREMISE ON THE WORLD, AND THE WORLD IS AS IT WAS: a row that keeps its argument in that range need list no table ('laid = []'). (LAID: no walk: one application.) -/
theorem Tryz.strconv_Itoa_small (i : Nat) (hi : i < 100) (w : World) :
    Calls Tryz.prog 50 #[.int .i64 i] w fun e w' => e = .returned (.string ⟨(Lib.decDigits i).toArray⟩) ∧ w' = w := Any.strconv_Itoa_small Tryz.lays171 i hi w
end Go.Proofs

/- Strings by their bytes; how numbers and signatures are written. -/
namespace Go.Proofs.YtlfglbnbenaghaaGreatDoor
set_option linter.unusedSimpArgs false
set_option linter.unusedVariables false
open Go Go.RowKit Go.Sort Go.BigFrame

/-- A string by its bytes. -/
abbrev S (l : List UInt8) : Value := .string ⟨l.toArray⟩

theorem cat_bytes (a b : List UInt8) : (⟨a.toArray⟩ : ByteArray) ++ ⟨b.toArray⟩ = ⟨(a ++ b).toArray⟩ := by
  apply ByteArray.ext; simp
theorem size_bytes (a : List UInt8) : (⟨a.toArray⟩ : ByteArray).size = a.length := by simp [ByteArray.size]
theorem decN_eq : ∀ i, i < 100 → Lib.decDigits i = decN i := by decide +kernel
theorem decN_len (n : Nat) : (decN n).length ≤ 2 := by unfold decN; split <;> simp
theorem dec_len (n : Int) : (dec n).length ≤ 2 := decN_len _
theorem letterT_len (l : Int) : (letterT l).length ≤ 3 := by unfold letterT; split <;> (try split) <;> simp
theorem sigT_len (r l : Int) : (sigT r l).length ≤ 5 := by
  unfold sigT; have := dec_len r; have := letterT_len l; split <;> simp <;> omega

theorem Itoa_any (n : Int) (h0 : 0 ≤ n) (h1 : n < 100) (w : World) :
    Calls Tryz.prog 50 #[.int .i64 n] w fun e w' => e = .returned (S (dec n)) ∧ w = w' := by
  obtain ⟨k, rfl⟩ := Int.eq_ofNat_of_zero_le h0
  have hk : k < 100 := by omega
  unfold dec
  rw [Int.toNat_natCast, ← decN_eq k hk]
  exact (Tryz.strconv_Itoa_small k hk w).mono fun e w' ⟨h1, h2⟩ => ⟨h1, h2.symm⟩

theorem letter_cut : ∀ k, k < 23 → (ByteArray.mk #[65, 66, 67, 68, 69, 70, 71, 72, 73, 75, 76, 77, 78, 79, 80, 81, 82, 83, 84, 86, 88, 89, 90]).extract k (k + 1) = ⟨[letterL.getD k 0].toArray⟩ := by decide +kernel

set_option maxHeartbeats 400000 in
theorem letterText_any (l : Int) (h0 : 0 ≤ l) (h1 : l ≤ 24) (w : World) :
    Calls Tryz.prog 97 #[.int .i64 l] w fun e w' => e = .returned (S (letterT l)) ∧ w = w' := by
  by_cases h23 : l = 23
  · subst h23
    go_enter Tryz.func97, Tryz.ntmps97
    go_wp2
    go_ret
    exact ⟨rfl, rfl⟩
  by_cases h24 : l = 24
  · subst h24
    go_enter Tryz.func97, Tryz.ntmps97
    go_wp2
    go_ret
    exact ⟨rfl, rfl⟩
  have e : letterT l = [letterL.getD l.toNat 0] := by simp [letterT, h23, h24]
  have b23 : (l == 23) = false := by simp [h23]
  have b24 : (l == 24) = false := by simp [h24]
  have hl : l < 23 := by omega
  rw [e]
  clear e h23 h24 h1
  obtain ⟨k, rfl⟩ := Int.eq_ofNat_of_zero_le h0
  rw [Int.toNat_natCast]
  have hk : k < 23 := by omega
  have hc := Lib.hid (letter_cut k hk)
  go_enter Tryz.func97, Tryz.ntmps97
  go_wp2
  go_ret
  exact ⟨congrArg (fun b => Ending.returned (Value.string b)) hc.out, rfl⟩

theorem ret_S {a : ByteArray} {l : List UInt8} (h : a = ⟨l.toArray⟩) : Ending.returned (.string a) = .returned (S l) := by rw [h]

set_option maxHeartbeats 400000 in
theorem sigText_any (r l : Int) (hs : sigB r l = true) (w : World) :
    Calls Tryz.prog 76 #[.agg #[.int .i64 r, .int .i64 l]] w fun e w' => e = .returned (S (sigT r l)) ∧ Below w.heap.size w w' := by
  have hb : 1 ≤ r ∧ r ≤ 3 ∧ 0 ≤ l ∧ l ≤ 24 := by simp [sigB, inB] at hs; omega
  obtain ⟨r1, r2, l1, l2⟩ := hb
  clear hs
  have z1 := letterT_len l
  have z2 := dec_len r
  have zl : (⟨(letterT l).toArray⟩ : ByteArray).size ≤ 3 := by rw [size_bytes]; exact z1
  have zr : (⟨(dec r).toArray⟩ : ByteArray).size ≤ 2 := by rw [size_bytes]; exact z2
  by_cases h : 1 < r
  · have e : sigT r l = dec r ++ letterT l := by simp [sigT, h]
    have HE := Lib.hid e
    clear e
    go_enter Tryz.func76, Tryz.ntmps76
    go_wp2_with fail
    refine (letterText_any l l1 l2 _).mono ?_
    rintro e w1 ⟨rfl, rfl⟩
    go_wp2_with fail
    refine (Itoa_any r (by omega) (by omega) _).mono ?_
    rintro e w1 ⟨rfl, rfl⟩
    go_wp2_with fail
    go_ret
    exact ⟨ret_S (by rw [HE.out]; exact cat_bytes _ _), (by repeat (first | exact Below.refl _ _ | assumption | (refine Below.alloc ?_ ?_ _; rotate_left; · (first | omega | (simp; done) | (simp; omega) | (simp at *; omega) | fail)) | (refine Below.setCell ?_ ?_ _; rotate_left; · (first | omega | (simp; done) | (simp; omega) | (simp at *; omega) | fail)) | refine Below.drew ?_ | fail))⟩
  · have e : sigT r l = letterT l := by simp [sigT, h]
    rw [e]
    go_enter Tryz.func76, Tryz.ntmps76
    go_wp2_with fail
    refine (letterText_any l l1 l2 _).mono ?_
    rintro e w1 ⟨rfl, rfl⟩
    go_wp2_with fail
    go_ret
    exact ⟨rfl, (by repeat (first | exact Below.refl _ _ | assumption | (refine Below.alloc ?_ ?_ _; rotate_left; · (first | omega | (simp; done) | (simp; omega) | (simp at *; omega) | fail)) | (refine Below.setCell ?_ ?_ _; rotate_left; · (first | omega | (simp; done) | (simp; omega) | (simp at *; omega) | fail)) | refine Below.drew ?_ | fail))⟩


end Go.Proofs.YtlfglbnbenaghaaGreatDoor
