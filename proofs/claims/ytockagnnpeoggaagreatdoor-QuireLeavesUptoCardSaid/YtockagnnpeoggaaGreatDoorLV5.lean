/- The parts Qf of the proof, joined. It holds without conditions of its own. -/
import Derived.Test.YtockagnnpeoggaaGreatDoorLV4
/- Contracts of package quire: a gathering without an error so far is taken among those that were met; then its changes. -/
namespace Go.Proofs.YtockagnnpeoggaaGreatDoor
set_option linter.unusedSimpArgs false
set_option linter.unusedVariables false
open Go Go.RowKit Go.Sort Go.BigFrame

theorem cell_put {w : World} {b k i : Nat} {o : Obj} (h : k ≠ b) : (w.putObj b o).cell? ⟨k, i, none⟩ = w.cell? ⟨k, i, none⟩ := World.cell?_of_block (World.putObj_heap_other h)
theorem frozen_put {w : World} {b k i : Nat} {o : Obj} (h : k ≠ b) : (w.putObj b o).frozen? ⟨k, i, none⟩ = w.frozen? ⟨k, i, none⟩ := World.frozen?_of_block (World.putObj_heap_other h)
theorem cell_set {w : World} {b i j : Nat} {v : Value} {k : Nat} (h : k ≠ b) : (w.setCell ⟨b, j, none⟩ v).cell? ⟨k, i, none⟩ = w.cell? ⟨k, i, none⟩ := World.cell?_of_block (Below.heap_setCell w ⟨b, j, none⟩ v k h)
theorem heap_set {w : World} {b j : Nat} {v : Value} {k : Nat} (h : k ≠ b) : (w.setCell ⟨b, j, none⟩ v).heap[k]? = w.heap[k]? := Below.heap_setCell w ⟨b, j, none⟩ v k h

theorem EarlierAt.setLast {w : World} {bE b : Nat} {seen : List (Int × Int)} {last : Int × Int} (h : EarlierAt w bE b seen last) (r l : Int) : EarlierAt ((w.setCell ⟨bE, 1, none⟩ (.int .i64 r)).setCell ⟨bE, 2, none⟩ (.int .i64 l)) bE b seen (r, l) := by
  have h1 : (w.setCell ⟨bE, 1, none⟩ (.int .i64 r)).cell? ⟨bE, 2, none⟩ = some (.int .i64 last.2) := by rw [World.cell?_setCell_other _ _ _ _ (by simp)]; exact h.c2
  refine ⟨?_, ?_, ?_, ?_, ?_, ?_, h.ne⟩
  · rw [World.cell?_setCell_other _ _ _ _ (by simp), World.cell?_setCell_other _ _ _ _ (by simp)]; exact h.c0
  · rw [World.cell?_setCell_other _ _ _ _ (by simp)]; exact World.cell?_setCell_same' _ _ _ (by rw [h.c1]; rfl)
  · exact World.cell?_setCell_same' _ _ _ (by rw [h1]; rfl)
  · rw [World.frozen?_setCell, World.frozen?_setCell]; exact h.f1
  · rw [World.frozen?_setCell, World.frozen?_setCell]; exact h.f2
  · exact h.map.keep ((heap_set (Ne.symm h.ne)).trans (heap_set (Ne.symm h.ne)))

theorem firstErrorCh_any (B : Nat) (leaves : Int) (cs : List Chg) (sv : Value) (bg : Nat) (w : World) (hcs : ChsAt B w sv cs) (hl : cs.length ≤ 100) (h2 : w.cell? ⟨bg, 2, none⟩ = some (.int .i64 leaves)) (h3 : w.cell? ⟨bg, 3, none⟩ = some sv) :
    Calls Tryz.prog 111 #[sv, .func (.func 112) #[] #[.pointer (some ⟨bg, 0, none⟩)]] w fun e w' => e = .returned (.tuple #[.int .i64 (chsErr leaves none 0 cs).1, .int .i64 (chsErr leaves none 0 cs).2]) ∧ Below w.heap.size w w' := by
  obtain ⟨a, cap, rfl, hc⟩ := hcs
  cases cs with
  | nil => exact firstErrorCh_none leaves a cap _ w
  | cons c cs =>
    obtain ⟨b, off, rfl, _, hcell⟩ := hc (by simp)
    exact firstErrorCh_some _ cap leaves (c :: cs) bg b off w rfl hl h2 h3 hcell

/-- What check does to the world: the record of what was met, and its map. -/
abbrev Ebs (bE b : Nat) : Nat → Prop := fun k => k = bE ∨ k = b

set_option maxRecDepth 100000 in
set_option maxHeartbeats 400000 in
theorem check_okN (i : Int) (g : Gth) (cv : Value) (a : Option Addr) (n cap : Nat) (hcv : cv = .slice a n cap) (bE b : Nat) (seen : List (Int × Int)) (last : Int × Int) (w : World) (hE : EarlierAt w bE b seen last) (hs : sigB g.round g.letter = true) (hm : ¬ (g.round, g.letter) ∈ seen) (hd : decide (g.letter < 23) = false) (hf : foldedB g.leaves = true) (hn : n = g.chs.length) (hn4 : g.chs.length ≤ 4) (B : Nat) (hBE : B ≤ bE) (hBb : B ≤ b) (hch : ChsAt B w cv g.chs) :
    Calls Tryz.prog 94 #[.pointer (some ⟨bE, 0, none⟩), .int .i64 i, .agg #[.int .i64 g.round, .int .i64 g.letter, .int .i64 g.leaves, cv]] w fun e w' => e = .returned (.int .i64 (chsErr g.leaves none 0 g.chs).2) ∧ OnlyIn (Ebs bE b) w w' ∧ EarlierAt w' bE b (seen ++ [(g.round, g.letter)]) (last) := by
  have HM : Hid (¬ (g.round, g.letter) ∈ seen) := hm
  have HS : Hid (sigB g.round g.letter = true) := hs
  subst hcv
  have HCH := Lib.hid hch
  have HN := Lib.hid hn
  clear hn hch
  go_enter Tryz.func94, Tryz.ntmps94
  go_wp2_with fail
  refine (isSig_any g.round g.letter _).mono ?_
  rintro e w1 ⟨rfl, hb⟩
  rw [hs]
  have k0 : w1.cell? ⟨w.heap.size, 0, none⟩ = some (.int .i64 g.round) := cell_later' hb (by simp [World.cell?_alloc_at])
  have k1 : w1.cell? ⟨w.heap.size, 1, none⟩ = some (.int .i64 g.letter) := cell_later' hb (by simp [World.cell?_alloc_at])
  have k2 : w1.cell? ⟨w.heap.size, 2, none⟩ = some (.int .i64 g.leaves) := cell_later' hb (by simp [World.cell?_alloc_at])
  have k3 : w1.cell? ⟨w.heap.size, 3, none⟩ = some (.slice a n cap) := cell_later' hb (by simp [World.cell?_alloc_at])
  have hb1 := ((Below.refl w.heap.size w).alloc (Nat.le_refl _) _).trans (hb.mono (by simp))
  have hE1 := hE.below hb1
  have e0 := hE1.c0
  have hl : ∀ m, (Instr.lookup 137 (.map (some b)) (.agg #[.int .i64 g.round, .int .i64 g.letter]) false).run Tryz.prog (w1.drewN m) = .ok (.bool false) (w1.drewN m) := fun m => by
    have hk : SigMap (w1.drewN m) b seen := hE1.map
    have := hk.look hs; rw [decide_eq_false hm] at this; exact this
  have HE := Lib.hid hE
  clear hb hs hE hm hE1
  go_wp2_with fail
  go_quiet (fail)
  clear hl
  have k0 : (w1.drewN nq).cell? ⟨w.heap.size, 0, none⟩ = some (.int .i64 g.round) := k0
  have k1 : (w1.drewN nq).cell? ⟨w.heap.size, 1, none⟩ = some (.int .i64 g.letter) := k1
  have k2 : (w1.drewN nq).cell? ⟨w.heap.size, 2, none⟩ = some (.int .i64 g.leaves) := k2
  have k3 : (w1.drewN nq).cell? ⟨w.heap.size, 3, none⟩ = some (.slice a n cap) := k3
  have hb2 := bdrewN hb1 nq
  clear hb1 e0
  revert k0 k1 k2 k3 hb2
  generalize w1.drewN nq = w2
  intro k0 k1 k2 k3 hb2
  have hE2 := HE.out.below hb2
  have e1 := hE2.c1
  have e2 := hE2.c2
  clear hE2
  go_wp2_with fail
  have r0 := cell_regrown k0
  have r1 := cell_regrown k1
  have s1 := cell_regrown e1
  have s2 := cell_regrown e2
  have cL : ∀ d os, Calls Tryz.prog 68 #[.agg #[.int .i64 g.round, .int .i64 g.letter]] (grow (redrawn w2 d) os) (fun e w'' => e = .returned (.bool false) ∧ ∃ p : Regrown, w'' = grow (redrawn w2 p.d) p.os) := fun d os => Calls.regrown_of (lettered_is _ _ false hd _)
  clear e1 e2
  refine wp_region_quiet_below (by kernel_rfl) (by kernel_rfl) ?_; (repeat (go_big_quiet_step (exact cL _ _))); refine wpQuiet_nil ?_; rintro w3 ⟨⟨d3, os3⟩, rfl⟩
  clear r0 r1 s1 s2 cL
  have hb23 := below_regrown w2 d3 os3
  have k0 := cell_later' hb23 k0
  have k1 := cell_later' hb23 k1
  have k2 := cell_later' hb23 k2
  have k3 := cell_later' hb23 k3
  have hb3 := hb2.trans (hb23.mono hb2.size)
  clear hb2 hb23
  revert k0 k1 k2 k3 hb3
  generalize grow (redrawn w2 d3) os3 = w3
  intro k0 k1 k2 k3 hb3
  go_wp2_with fail
  refine (isFolded_any g.leaves _).mono ?_
  rintro e w4 ⟨rfl, hb⟩
  rw [hf]
  have k0 := cell_later' hb k0
  have k1 := cell_later' hb k1
  have k2 := cell_later' hb k2
  have k3 := cell_later' hb k3
  have hb4 := hb3.trans (hb.mono hb3.size)
  clear hb hb3 hf
  have hn' : ¬ (4 : Int) < n := by rw [HN.out]; omega
  have hEb := HE.out.below hb4.drew
  have e0 : w4.drew.cell? ⟨bE, 0, none⟩ = some (.map (some b)) := hEb.c0
  obtain ⟨o, hput, hmap⟩ := hEb.map.put HS.out HM.out
  have HMAP := Lib.hid hmap
  have HEb := Lib.hid hEb
  clear hmap hEb
  go_wp2_with fail
  go_still_tail 6, (by kernel_rfl)
  change wpList _ _ _ _ _ w4.drew
  have k0 : w4.drew.cell? ⟨w.heap.size, 0, none⟩ = some (.int .i64 g.round) := k0
  have k1 : w4.drew.cell? ⟨w.heap.size, 1, none⟩ = some (.int .i64 g.letter) := k1
  have k2 : w4.drew.cell? ⟨w.heap.size, 2, none⟩ = some (.int .i64 g.leaves) := k2
  have k3 : w4.drew.cell? ⟨w.heap.size, 3, none⟩ = some (.slice a n cap) := k3
  have hb5 := hb4.drew
  clear hb4 e0
  revert k0 k1 k2 k3 hb5 HEb hput
  generalize w4.drew = w5
  intro hput HEb k0 k1 k2 k3 hb5
  have hbl : b < w.heap.size := HE.out.map.lt
  have hEl : bE < w.heap.size := lt_of_cell HE.out.c0
  have hne := HE.out.ne
  have k0 : (w5.putObj b o).cell? ⟨w.heap.size, 0, none⟩ = some (.int .i64 g.round) := (cell_put (by omega)).trans k0
  have k1 : (w5.putObj b o).cell? ⟨w.heap.size, 1, none⟩ = some (.int .i64 g.letter) := (cell_put (by omega)).trans k1
  have k2 : (w5.putObj b o).cell? ⟨w.heap.size, 2, none⟩ = some (.int .i64 g.leaves) := (cell_put (by omega)).trans k2
  have k3 : (w5.putObj b o).cell? ⟨w.heap.size, 3, none⟩ = some (.slice a n cap) := (cell_put (by omega)).trans k3
  have ho6 : OnlyIn (Ebs bE b) w (w5.putObj b o) := (OnlyIn.of_below hb5).trans (OnlyIn.putObj w5 b o (Or.inr rfl))
  have hE6 : EarlierAt (w5.putObj b o) bE b (seen ++ [(g.round, g.letter)]) last := ⟨(cell_put hne).trans HEb.out.c0, (cell_put hne).trans HEb.out.c1, (cell_put hne).trans HEb.out.c2, (frozen_put hne).trans HEb.out.f1, (frozen_put hne).trans HEb.out.f2,
    HMAP.out _ (World.putObj_heap_same (HEb.out.map.lt)), hne⟩
  have hz6 : w.heap.size < (w5.putObj b o).heap.size := lt_of_cell k0
  clear hne hEl hbl hb5 HMAP HEb
  have HE6 := Lib.hid hE6
  clear hE6
  go_wp2_with fail
  have hE6 := HE6.out
  clear HE6 hput
  revert k0 k1 k2 k3 ho6 hE6 hz6
  generalize w5.putObj b o = w6
  intro k0 k1 k2 k3 ho6 hz6 hE6
  refine (lettered_is _ _ _ hd _).mono ?_
  rintro e w7 ⟨rfl, hb⟩
  have k0 := cell_later' hb k0
  have k1 := cell_later' hb k1
  have k2 := cell_later' hb k2
  have k3 := cell_later' hb k3
  have ho7 := ho6.trans (OnlyIn.of_below hb)
  have hE7 := hE6.below hb
  have hz7 : w.heap.size < w7.heap.size := lt_of_cell k0
  clear ho6 hE6 hb hz6
  have HE7 := Lib.hid hE7
  clear hE7
  go_wp2_with fail
  have hch : ChsAt B w7 (.slice a n cap) g.chs := HCH.out.same fun k hk => ho7.block k (by have := lt_of_cell HE.out.c0; omega) (fun h => by rcases h with h | h <;> omega)
  refine (firstErrorCh_any B g.leaves g.chs _ _ _ hch (by omega) k2 k3).mono ?_
  rintro e w8 ⟨rfl, hb⟩
  have hE8 := HE7.out.below hb
  have ho8 := ho7.trans (OnlyIn.of_below hb)
  clear hb ho7 HE7 hch k0 k1 k2 k3
  have HO8 := Lib.hid ho8
  have HE8 := Lib.hid hE8
  clear ho8 hE8
  go_wp2_with fail
  go_ret
  exact ⟨rfl, HO8.out, HE8.out⟩


set_option maxRecDepth 100000 in
set_option maxHeartbeats 400000 in
theorem check_okL (i : Int) (g : Gth) (cv : Value) (a : Option Addr) (n cap : Nat) (hcv : cv = .slice a n cap) (bE b : Nat) (seen : List (Int × Int)) (last : Int × Int) (w : World) (hE : EarlierAt w bE b seen last) (hs : sigB g.round g.letter = true) (hm : ¬ (g.round, g.letter) ∈ seen) (hd : decide (g.letter < 23) = true) (hbh : behindB g.round g.letter last.1 last.2 = true) (hf : foldedB g.leaves = true) (hn : n = g.chs.length) (hn4 : g.chs.length ≤ 4) (B : Nat) (hBE : B ≤ bE) (hBb : B ≤ b) (hch : ChsAt B w cv g.chs) :
    Calls Tryz.prog 94 #[.pointer (some ⟨bE, 0, none⟩), .int .i64 i, .agg #[.int .i64 g.round, .int .i64 g.letter, .int .i64 g.leaves, cv]] w fun e w' => e = .returned (.int .i64 (chsErr g.leaves none 0 g.chs).2) ∧ OnlyIn (Ebs bE b) w w' ∧ EarlierAt w' bE b (seen ++ [(g.round, g.letter)]) ((g.round, g.letter)) := by
  have HM : Hid (¬ (g.round, g.letter) ∈ seen) := hm
  have HS : Hid (sigB g.round g.letter = true) := hs
  subst hcv
  have HCH := Lib.hid hch
  have HN := Lib.hid hn
  clear hn hch
  go_enter Tryz.func94, Tryz.ntmps94
  go_wp2_with fail
  refine (isSig_any g.round g.letter _).mono ?_
  rintro e w1 ⟨rfl, hb⟩
  rw [hs]
  have k0 : w1.cell? ⟨w.heap.size, 0, none⟩ = some (.int .i64 g.round) := cell_later' hb (by simp [World.cell?_alloc_at])
  have k1 : w1.cell? ⟨w.heap.size, 1, none⟩ = some (.int .i64 g.letter) := cell_later' hb (by simp [World.cell?_alloc_at])
  have k2 : w1.cell? ⟨w.heap.size, 2, none⟩ = some (.int .i64 g.leaves) := cell_later' hb (by simp [World.cell?_alloc_at])
  have k3 : w1.cell? ⟨w.heap.size, 3, none⟩ = some (.slice a n cap) := cell_later' hb (by simp [World.cell?_alloc_at])
  have hb1 := ((Below.refl w.heap.size w).alloc (Nat.le_refl _) _).trans (hb.mono (by simp))
  have hE1 := hE.below hb1
  have e0 := hE1.c0
  have hl : ∀ m, (Instr.lookup 137 (.map (some b)) (.agg #[.int .i64 g.round, .int .i64 g.letter]) false).run Tryz.prog (w1.drewN m) = .ok (.bool false) (w1.drewN m) := fun m => by
    have hk : SigMap (w1.drewN m) b seen := hE1.map
    have := hk.look hs; rw [decide_eq_false hm] at this; exact this
  have HE := Lib.hid hE
  clear hb hs hE hm hE1
  go_wp2_with fail
  go_quiet (fail)
  clear hl
  have k0 : (w1.drewN nq).cell? ⟨w.heap.size, 0, none⟩ = some (.int .i64 g.round) := k0
  have k1 : (w1.drewN nq).cell? ⟨w.heap.size, 1, none⟩ = some (.int .i64 g.letter) := k1
  have k2 : (w1.drewN nq).cell? ⟨w.heap.size, 2, none⟩ = some (.int .i64 g.leaves) := k2
  have k3 : (w1.drewN nq).cell? ⟨w.heap.size, 3, none⟩ = some (.slice a n cap) := k3
  have hb2 := bdrewN hb1 nq
  clear hb1 e0
  revert k0 k1 k2 k3 hb2
  generalize w1.drewN nq = w2
  intro k0 k1 k2 k3 hb2
  have hE2 := HE.out.below hb2
  have e1 := hE2.c1
  have e2 := hE2.c2
  clear hE2
  go_wp2_with fail
  have r0 := cell_regrown k0
  have r1 := cell_regrown k1
  have s1 := cell_regrown e1
  have s2 := cell_regrown e2
  have cL : ∀ d os, Calls Tryz.prog 68 #[.agg #[.int .i64 g.round, .int .i64 g.letter]] (grow (redrawn w2 d) os) (fun e w'' => e = .returned (.bool true) ∧ ∃ p : Regrown, w'' = grow (redrawn w2 p.d) p.os) := fun d os => Calls.regrown_of (lettered_is _ _ true hd _)
  have cB : ∀ d os, Calls Tryz.prog 109 #[.agg #[.int .i64 g.round, .int .i64 g.letter], .agg #[.int .i64 last.1, .int .i64 last.2]] (grow (redrawn w2 d) os) (fun e w'' => e = .returned (.bool true) ∧ ∃ p : Regrown, w'' = grow (redrawn w2 p.d) p.os) := fun d os => Calls.regrown_of (behind_is _ _ _ _ true hbh _)
  clear e1 e2
  refine wp_region_quiet_below (by kernel_rfl) (by kernel_rfl) ?_; (repeat (go_big_quiet_step (first | exact cL _ _ | exact cB _ _))); refine wpQuiet_nil ?_; rintro w3 ⟨⟨d3, os3⟩, rfl⟩
  clear r0 r1 s1 s2 cL cB
  have hb23 := below_regrown w2 d3 os3
  have k0 := cell_later' hb23 k0
  have k1 := cell_later' hb23 k1
  have k2 := cell_later' hb23 k2
  have k3 := cell_later' hb23 k3
  have hb3 := hb2.trans (hb23.mono hb2.size)
  clear hb2 hb23
  revert k0 k1 k2 k3 hb3
  generalize grow (redrawn w2 d3) os3 = w3
  intro k0 k1 k2 k3 hb3
  go_wp2_with fail
  refine (isFolded_any g.leaves _).mono ?_
  rintro e w4 ⟨rfl, hb⟩
  rw [hf]
  have k0 := cell_later' hb k0
  have k1 := cell_later' hb k1
  have k2 := cell_later' hb k2
  have k3 := cell_later' hb k3
  have hb4 := hb3.trans (hb.mono hb3.size)
  clear hb hb3 hf
  have hn' : ¬ (4 : Int) < n := by rw [HN.out]; omega
  have hEb := HE.out.below hb4.drew
  have e0 : w4.drew.cell? ⟨bE, 0, none⟩ = some (.map (some b)) := hEb.c0
  obtain ⟨o, hput, hmap⟩ := hEb.map.put HS.out HM.out
  have HMAP := Lib.hid hmap
  have HEb := Lib.hid hEb
  clear hmap hEb
  go_wp2_with fail
  go_still_tail 6, (by kernel_rfl)
  change wpList _ _ _ _ _ w4.drew
  have k0 : w4.drew.cell? ⟨w.heap.size, 0, none⟩ = some (.int .i64 g.round) := k0
  have k1 : w4.drew.cell? ⟨w.heap.size, 1, none⟩ = some (.int .i64 g.letter) := k1
  have k2 : w4.drew.cell? ⟨w.heap.size, 2, none⟩ = some (.int .i64 g.leaves) := k2
  have k3 : w4.drew.cell? ⟨w.heap.size, 3, none⟩ = some (.slice a n cap) := k3
  have hb5 := hb4.drew
  clear hb4 e0
  revert k0 k1 k2 k3 hb5 HEb hput
  generalize w4.drew = w5
  intro hput HEb k0 k1 k2 k3 hb5
  have hbl : b < w.heap.size := HE.out.map.lt
  have hEl : bE < w.heap.size := lt_of_cell HE.out.c0
  have hne := HE.out.ne
  have k0 : (w5.putObj b o).cell? ⟨w.heap.size, 0, none⟩ = some (.int .i64 g.round) := (cell_put (by omega)).trans k0
  have k1 : (w5.putObj b o).cell? ⟨w.heap.size, 1, none⟩ = some (.int .i64 g.letter) := (cell_put (by omega)).trans k1
  have k2 : (w5.putObj b o).cell? ⟨w.heap.size, 2, none⟩ = some (.int .i64 g.leaves) := (cell_put (by omega)).trans k2
  have k3 : (w5.putObj b o).cell? ⟨w.heap.size, 3, none⟩ = some (.slice a n cap) := (cell_put (by omega)).trans k3
  have ho6 : OnlyIn (Ebs bE b) w (w5.putObj b o) := (OnlyIn.of_below hb5).trans (OnlyIn.putObj w5 b o (Or.inr rfl))
  have hE6 : EarlierAt (w5.putObj b o) bE b (seen ++ [(g.round, g.letter)]) last := ⟨(cell_put hne).trans HEb.out.c0, (cell_put hne).trans HEb.out.c1, (cell_put hne).trans HEb.out.c2, (frozen_put hne).trans HEb.out.f1, (frozen_put hne).trans HEb.out.f2,
    HMAP.out _ (World.putObj_heap_same (HEb.out.map.lt)), hne⟩
  have hz6 : w.heap.size < (w5.putObj b o).heap.size := lt_of_cell k0
  clear hne hEl hbl hb5 HMAP HEb
  have HE6 := Lib.hid hE6
  clear hE6
  go_wp2_with fail
  have hE6 := HE6.out
  clear HE6 hput
  revert k0 k1 k2 k3 ho6 hE6 hz6
  generalize w5.putObj b o = w6
  intro k0 k1 k2 k3 ho6 hz6 hE6
  refine (lettered_is _ _ _ hd _).mono ?_
  rintro e w7 ⟨rfl, hb⟩
  have k0 := cell_later' hb k0
  have k1 := cell_later' hb k1
  have k2 := cell_later' hb k2
  have k3 := cell_later' hb k3
  have ho7 := ho6.trans (OnlyIn.of_below hb)
  have hE7 := hE6.below hb
  have hz7 : w.heap.size < w7.heap.size := lt_of_cell k0
  clear ho6 hE6 hb hz6
  have HE7 := Lib.hid hE7
  have e1 := hE7.c1
  have e2 := hE7.c2
  have f1 := hE7.f1
  have f2 := hE7.f2
  clear hE7
  go_wp2_with fail
  have hEl : bE < w.heap.size := lt_of_cell HE.out.c0
  have k0 : ((w7.setCell ⟨bE, 1, none⟩ (.int .i64 g.round)).setCell ⟨bE, 2, none⟩ (.int .i64 g.letter)).cell? ⟨w.heap.size, 0, none⟩ = some (.int .i64 g.round) := ((cell_set (by omega)).trans (cell_set (by omega))).trans k0
  have k1 : ((w7.setCell ⟨bE, 1, none⟩ (.int .i64 g.round)).setCell ⟨bE, 2, none⟩ (.int .i64 g.letter)).cell? ⟨w.heap.size, 1, none⟩ = some (.int .i64 g.letter) := ((cell_set (by omega)).trans (cell_set (by omega))).trans k1
  have k2 : ((w7.setCell ⟨bE, 1, none⟩ (.int .i64 g.round)).setCell ⟨bE, 2, none⟩ (.int .i64 g.letter)).cell? ⟨w.heap.size, 2, none⟩ = some (.int .i64 g.leaves) := ((cell_set (by omega)).trans (cell_set (by omega))).trans k2
  have k3 : ((w7.setCell ⟨bE, 1, none⟩ (.int .i64 g.round)).setCell ⟨bE, 2, none⟩ (.int .i64 g.letter)).cell? ⟨w.heap.size, 3, none⟩ = some (.slice a n cap) := ((cell_set (by omega)).trans (cell_set (by omega))).trans k3
  have hoW : OnlyIn (Ebs bE b) w ((w7.setCell ⟨bE, 1, none⟩ (.int .i64 g.round)).setCell ⟨bE, 2, none⟩ (.int .i64 g.letter)) := ho7.trans ((OnlyIn.setCell _ _ _ (Or.inl rfl)).trans (OnlyIn.setCell _ _ _ (Or.inl rfl)))
  have HE7 := Lib.hid (HE7.out.setLast g.round g.letter)
  clear e1 e2 f1 f2 ho7 hz7
  have hch : ChsAt B _ (.slice a n cap) g.chs := HCH.out.same fun k hk => hoW.block k (by have := lt_of_cell HE.out.c0; omega) (fun h => by rcases h with h | h <;> omega)
  refine (firstErrorCh_any B g.leaves g.chs _ _ _ hch (by omega) k2 k3).mono ?_
  rintro e w8 ⟨rfl, hb⟩
  have hE8 := HE7.out.below hb
  have ho8 := hoW.trans (OnlyIn.of_below hb)
  clear hb hoW HE7 hch k0 k1 k2 k3
  have HO8 := Lib.hid ho8
  have HE8 := Lib.hid hE8
  clear ho8 hE8
  go_wp2_with fail
  go_ret
  exact ⟨rfl, HO8.out, HE8.out⟩


end Go.Proofs.YtockagnnpeoggaaGreatDoor
