/- The parts Qd, Qe of the proof, joined. It holds without conditions of its own. -/
import Derived.Test.YtimdmgkegdlafaaGreatDoorCH4
import Derived.Maps.Keyed
import Derived.DeepKeys4
import Derived.Deep.RegionWith
import Derived.BigRegion
import Derived.Lib.QuietBelow
/- Contracts of package quire: the signatures that were met are kept in a map. -/
namespace Go.Proofs.YtimdmgkegdlafaaGreatDoor
set_option linter.unusedSimpArgs false
set_option linter.unusedVariables false
open Go Go.RowKit Go.Maps

theorem laidOut : laidOutB Tryz.prog = true := by kernel_rfl
theorem rowSig : (39 : TypeId) < Tryz.prog.types.size := of_decide_eq_true (by kernel_rfl)
theorem wideSig : (match Tryz.prog.underlying 39 with | some (.array _ _) | some (.struct _) => true | _ => false) = true := by kernel_rfl
theorem keyAt2 : Tryz.prog.keyTypeAt 2 39 = true := by kernel_rfl
set_option maxRecDepth 100000 in
theorem sigKeyed : Keyed Tryz.prog 39 := Keyed.of_law (deep_law_laid laidOut (m := 2) (by omega) rowSig keyAt2 wideSig)
theorem cellsSig : Tryz.prog.cellsOf 39 = 2 := by kernel_rfl
theorem cellsInt : Tryz.prog.cellsOf 3 = 1 := by kernel_rfl
theorem keyTypeSig : Tryz.prog.keyType 39 = true := by kernel_rfl

theorem lits_some {r l : Int} (hw : (Lit.int .i64 r).wf = true) (hw' : (Lit.int .i64 l).wf = true) (d : Nat) : Tryz.prog.keyLits (d + 2) 39 [.int .i64 r, .int .i64 l] = some [.int .i64 r, .int .i64 l] := by
  have h1 : ∀ x : Int, (Lit.int .i64 x).wf = true → Tryz.prog.keyLits (d + 1) 3 [.int .i64 x] = some [.int .i64 x] := fun x hx => by
    unfold Program.keyLits; rw [Tryz.underlying3]; simp [hx]
  unfold Program.keyLits; rw [Tryz.underlying39]
  simp [cellsSig, cellsInt, h1, hw, hw']

theorem key_some {r l : Int} (h : sigB r l = true) : ∃ kl, keyOf Tryz.prog 39 (.agg #[.int .i64 r, .int .i64 l]) = some kl := by
  have hw : (Lit.int .i64 r).wf = true ∧ (Lit.int .i64 l).wf = true := by
    simp [sigB, inB] at h
    exact ⟨WalkArith.wf_i64 (by omega), WalkArith.wf_i64 (by omega)⟩
  obtain ⟨d, hd⟩ : ∃ d, Tryz.prog.types.size + 1 = d + 2 := ⟨Tryz.prog.types.size - 1, by have h : (39 : Nat) < Tryz.prog.types.size := rowSig; omega⟩
  have hf : (Value.agg #[.int .i64 r, .int .i64 l]).formed Tryz.prog 39 = true := by simp [Value.formed, Tryz.underlying39, cellsSig]
  refine ⟨.string (keyBytes [.int .i64 r, .int .i64 l]), ?_⟩
  rw [keyOf, Tryz.underlying39]
  dsimp only
  rw [keyTypeSig, hf, hd]
  simp only [Bool.and_self, if_true]
  rw [show (Value.agg #[.int .i64 r, .int .i64 l]).cells.toList = [.int .i64 r, .int .i64 l] from rfl, lits_some hw.1 hw.2]
  rfl

/-- Block b is a map from just these signatures to true. -/
def SigMap (w : World) (b : Nat) (ks : List (Int × Int)) : Prop :=
  ∃ es clock, w.heap[b]? = some (.map es clock) ∧ es.toList.map (·.key) = ks.map (fun k => Value.agg #[.int .i64 k.1, .int .i64 k.2]) ∧ (∀ e ∈ es.toList, e.val = .bool true) ∧ ∀ k ∈ ks, sigB k.1 k.2 = true

theorem SigMap.made (w : World) : SigMap (w.alloc (.map #[] 0)) w.heap.size [] := ⟨#[], 0, World.alloc_heap_new w _, rfl, by simp, by simp⟩
theorem SigMap.keep {w w' : World} {b : Nat} {ks : List (Int × Int)} (h : SigMap w b ks) (hs : w'.heap[b]? = w.heap[b]?) : SigMap w' b ks := by
  obtain ⟨es, clock, hb, r⟩ := h
  exact ⟨es, clock, hs.trans hb, r⟩
theorem SigMap.lt {w : World} {b : Nat} {ks : List (Int × Int)} (h : SigMap w b ks) : b < w.heap.size := by
  obtain ⟨es, clock, hb, r⟩ := h
  exact (Array.getElem?_eq_some_iff.1 hb).1

theorem zeroBool (w : World) : (zeroValue 4).run Tryz.prog w = .ok (.bool false) w := by kernel_rfl

theorem sig_keys {es : Array MapEntry} {ks : List (Int × Int)} (hk : es.toList.map (·.key) = ks.map (fun k => Value.agg #[.int .i64 k.1, .int .i64 k.2])) (hs : ∀ k ∈ ks, sigB k.1 k.2 = true) :
    ∀ e ∈ es.toList, ∃ l, keyOf Tryz.prog 39 e.key = some l := fun e he => by
  have : e.key ∈ es.toList.map (·.key) := List.mem_map.2 ⟨e, he, rfl⟩
  rw [hk] at this
  obtain ⟨k, hk, e1⟩ := List.mem_map.1 this
  rw [← e1]; exact key_some (hs k hk)

/-- What a look-up hands back. -/
theorem SigMap.look {w : World} {b : Nat} {ks : List (Int × Int)} (h : SigMap w b ks) {r l : Int} (hs : sigB r l = true) :
    (Instr.lookup 115 (.map (some b)) (.agg #[.int .i64 r, .int .i64 l]) false).run Tryz.prog w = .ok (.bool (decide ((r, l) ∈ ks))) w := by
  obtain ⟨es, clock, hb, hk, hv, hsig⟩ := h
  obtain ⟨kl, hkl⟩ := key_some hs
  have hck := sigKeyed.check w es.isEmpty hkl
  rcases sigKeyed.find w hkl es.toList (sig_keys hk hsig) with ⟨hf, hne⟩ | ⟨j, e, hf, hj, he⟩
  · have hm : ¬ (r, l) ∈ ks := fun hm => by
      have : (Value.agg #[.int .i64 r, .int .i64 l]) ∈ es.toList.map (·.key) := by rw [hk]; exact List.mem_map.2 ⟨_, hm, rfl⟩
      obtain ⟨e, he, e1⟩ := List.mem_map.1 this
      exact hne e he e1
    simp [Instr.lookup, run_underlying Tryz.underlying115, MapKept.run_getObj_map hb, hck, hf, zeroBool, Result.andThen, hm]
  · have hem : e ∈ es.toList := List.mem_of_getElem? hj
    have hm : (r, l) ∈ ks := by
      have : e.key ∈ es.toList.map (·.key) := List.mem_map.2 ⟨e, hem, rfl⟩
      rw [hk, he] at this
      obtain ⟨k, hk, e1⟩ := List.mem_map.1 this
      simp at e1
      rw [show (r, l) = k from by rw [← e1.1, ← e1.2]]; exact hk
    simp [Instr.lookup, run_underlying Tryz.underlying115, MapKept.run_getObj_map hb, hck, hf, hv e hem, Result.andThen, hm]

/-- A store of a signature that is not there. -/
theorem SigMap.put {w : World} {b : Nat} {ks : List (Int × Int)} (h : SigMap w b ks) {r l : Int} (hs : sigB r l = true) (hm : ¬ (r, l) ∈ ks) :
    ∃ o, (Instr.mapUpdate 115 (.map (some b)) (.agg #[.int .i64 r, .int .i64 l]) (.bool true)).run Tryz.prog w = .ok () (w.putObj b o) ∧ ∀ w', w'.heap[b]? = some o → SigMap w' b (ks ++ [(r, l)]) := by
  obtain ⟨es, clock, hb, hk, hv, hsig⟩ := h
  obtain ⟨kl, hkl⟩ := key_some hs
  have hck := sigKeyed.check w false hkl
  rcases sigKeyed.find w hkl es.toList (sig_keys hk hsig) with ⟨hf, hne⟩ | ⟨j, e, hf, hj, he⟩
  · refine ⟨.map (es.push { key := .agg #[.int .i64 r, .int .i64 l], val := .bool true, born := clock }) (clock + 1), ?_, fun w' hw' => ⟨_, _, hw', ?_, ?_, ?_⟩⟩
    · simp [Instr.mapUpdate, run_underlying Tryz.underlying115, MapKept.run_getObj_map hb, hck, hf, MapKept.run_setObj_map _ hb, Result.andThen, World.putObj]
    · simp [hk]
    · intro e he
      simp at he
      rcases he with he | rfl
      · exact hv e (by simpa using he)
      · rfl
    · intro k hk
      simp at hk
      rcases hk with hk | rfl
      · exact hsig k hk
      · exact hs
  · exact absurd (by
      have : e.key ∈ es.toList.map (·.key) := List.mem_map.2 ⟨e, List.mem_of_getElem? hj, rfl⟩
      rw [hk, he] at this
      obtain ⟨k, hk, e1⟩ := List.mem_map.1 this
      simp at e1
      rw [show (r, l) = k from by rw [← e1.1, ← e1.2]]; exact hk) hm

end Go.Proofs.YtimdmgkegdlafaaGreatDoor

/- Contracts of package quire: one gathering of a book. -/
namespace Go.Proofs.YtimdmgkegdlafaaGreatDoor
set_option linter.unusedSimpArgs false
set_option linter.unusedVariables false
open Go Go.RowKit Go.Sort Go.BigFrame

theorem lettered_is (r l : Int) (x : Bool) (hx : decide (l < 23) = x) (w : World) :
    Calls Tryz.prog 74 #[.agg #[.int .i64 r, .int .i64 l]] w fun e w' => e = .returned (.bool x) ∧ Below w.heap.size w w' := by
  subst hx; exact lettered_any r l w
theorem behind_is (r l r' l' : Int) (x : Bool) (hx : behindB r l r' l' = x) (w : World) :
    Calls Tryz.prog 88 #[.agg #[.int .i64 r, .int .i64 l], .agg #[.int .i64 r', .int .i64 l']] w fun e w' => e = .returned (.bool x) ∧ Below w.heap.size w w' := by
  subst hx; exact behind_any r l r' l' w

/-- What is kept of the gatherings that were met. -/
structure EarlierAt (w : World) (bE b : Nat) (seen : List (Int × Int)) (last : Int × Int) : Prop where
  c0 : w.cell? ⟨bE, 0, none⟩ = some (.map (some b))
  c1 : w.cell? ⟨bE, 1, none⟩ = some (.int .i64 last.1)
  c2 : w.cell? ⟨bE, 2, none⟩ = some (.int .i64 last.2)
  f1 : w.frozen? ⟨bE, 1, none⟩ = false
  f2 : w.frozen? ⟨bE, 2, none⟩ = false
  map : SigMap w b seen
  ne : bE ≠ b

theorem EarlierAt.below {w w' : World} {bE b : Nat} {seen : List (Int × Int)} {last : Int × Int} (h : EarlierAt w bE b seen last) (hb : Below w.heap.size w w') : EarlierAt w' bE b seen last :=
  ⟨cell_later' hb h.c0, cell_later' hb h.c1, cell_later' hb h.c2, (hb.frozen (p := ⟨bE, 1, none⟩) (lt_of_cell h.c0)).trans h.f1, (hb.frozen (p := ⟨bE, 2, none⟩) (lt_of_cell h.c0)).trans h.f2, h.map.keep (hb.block b h.map.lt), h.ne⟩

set_option maxRecDepth 100000 in
set_option maxHeartbeats 400000 in
theorem check_sig (i : Int) (g : Gth) (cv : Value) (a : Option Addr) (n cap : Nat) (hcv : cv = .slice a n cap) (bE : Nat) (w : World) (hs : sigB g.round g.letter = false) :
    Calls Tryz.prog 65 #[.pointer (some ⟨bE, 0, none⟩), .int .i64 i, .agg #[.int .i64 g.round, .int .i64 g.letter, .int .i64 g.leaves, cv]] w fun e w' => e = .returned (.int .i64 7) ∧ Below w.heap.size w w' := by
  subst hcv
  go_enter Tryz.func65, Tryz.ntmps65
  go_wp2_with fail
  refine (isSig_any g.round g.letter _).mono ?_
  rintro e w1 ⟨rfl, hb⟩
  rw [hs]
  have hb1 := ((Below.refl w.heap.size w).alloc (Nat.le_refl _) _).trans (hb.mono (by simp))
  clear hb hs
  go_wp2_with fail
  go_ret
  exact ⟨rfl, hb1⟩

set_option maxRecDepth 100000 in
set_option maxHeartbeats 400000 in
theorem check_twice (i : Int) (g : Gth) (cv : Value) (a : Option Addr) (n cap : Nat) (hcv : cv = .slice a n cap) (bE b : Nat) (seen : List (Int × Int)) (last : Int × Int) (w : World) (hE : EarlierAt w bE b seen last) (hs : sigB g.round g.letter = true) (hm : (g.round, g.letter) ∈ seen) :
    Calls Tryz.prog 65 #[.pointer (some ⟨bE, 0, none⟩), .int .i64 i, .agg #[.int .i64 g.round, .int .i64 g.letter, .int .i64 g.leaves, cv]] w fun e w' => e = .returned (.int .i64 5) ∧ Below w.heap.size w w' := by
  subst hcv
  go_enter Tryz.func65, Tryz.ntmps65
  go_wp2_with fail
  refine (isSig_any g.round g.letter _).mono ?_
  rintro e w1 ⟨rfl, hb⟩
  rw [hs]
  have k0 : w1.cell? ⟨w.heap.size, 0, none⟩ = some (.int .i64 g.round) := cell_later' hb (by simp [World.cell?_alloc_at])
  have k1 : w1.cell? ⟨w.heap.size, 1, none⟩ = some (.int .i64 g.letter) := cell_later' hb (by simp [World.cell?_alloc_at])
  have hb1 := ((Below.refl w.heap.size w).alloc (Nat.le_refl _) _).trans (hb.mono (by simp))
  have hE1 := hE.below hb1
  have e0 := hE1.c0
  have hl : ∀ m, (Instr.lookup 115 (.map (some b)) (.agg #[.int .i64 g.round, .int .i64 g.letter]) false).run Tryz.prog (w1.drewN m) = .ok (.bool true) (w1.drewN m) := fun m => by
    have hk : SigMap (w1.drewN m) b seen := hE1.map
    have := hk.look hs; rw [decide_eq_true hm] at this; exact this
  clear hb hs hE hE1 hm
  go_wp2_with fail
  go_quiet (fail)
  go_wp2
  go_ret
  exact ⟨rfl, bdrewN hb1 _⟩

set_option maxRecDepth 100000 in
set_option maxHeartbeats 400000 in
theorem check_order (i : Int) (g : Gth) (cv : Value) (a : Option Addr) (n cap : Nat) (hcv : cv = .slice a n cap) (bE b : Nat) (seen : List (Int × Int)) (last : Int × Int) (w : World) (hE : EarlierAt w bE b seen last) (hs : sigB g.round g.letter = true) (hm : ¬ (g.round, g.letter) ∈ seen) (hd : decide (g.letter < 23) = true) (hbh : behindB g.round g.letter last.1 last.2 = false) :
    Calls Tryz.prog 65 #[.pointer (some ⟨bE, 0, none⟩), .int .i64 i, .agg #[.int .i64 g.round, .int .i64 g.letter, .int .i64 g.leaves, cv]] w fun e w' => e = .returned (.int .i64 2) ∧ Below w.heap.size w w' := by
  subst hcv
  go_enter Tryz.func65, Tryz.ntmps65
  go_wp2_with fail
  refine (isSig_any g.round g.letter _).mono ?_
  rintro e w1 ⟨rfl, hb⟩
  rw [hs]
  have k0 : w1.cell? ⟨w.heap.size, 0, none⟩ = some (.int .i64 g.round) := cell_later' hb (by simp [World.cell?_alloc_at])
  have k1 : w1.cell? ⟨w.heap.size, 1, none⟩ = some (.int .i64 g.letter) := cell_later' hb (by simp [World.cell?_alloc_at])
  have k2 : w1.cell? ⟨w.heap.size, 2, none⟩ = some (.int .i64 g.leaves) := cell_later' hb (by simp [World.cell?_alloc_at])
  have k3 : w1.cell? ⟨w.heap.size, 3, none⟩ = some (.slice a n cap) := cell_later' hb (by simp [World.cell?_alloc_at])
  have hb1 := ((Below.refl w.heap.size w).alloc (Nat.le_refl _) _).trans (hb.mono (by simp))
  have hE1 := hE.below hb1
  have e0 := hE1.c0
  have hl : ∀ m, (Instr.lookup 115 (.map (some b)) (.agg #[.int .i64 g.round, .int .i64 g.letter]) false).run Tryz.prog (w1.drewN m) = .ok (.bool false) (w1.drewN m) := fun m => by
    have hk : SigMap (w1.drewN m) b seen := hE1.map
    have := hk.look hs; rw [decide_eq_false hm] at this; exact this
  have HE := Lib.hid hE
  clear hb hs hE hm hE1
  go_wp2_with fail
  go_quiet (fail)
  clear hl
  have k0 : (w1.drewN nq).cell? ⟨w.heap.size, 0, none⟩ = some (.int .i64 g.round) := k0
  have k1 : (w1.drewN nq).cell? ⟨w.heap.size, 1, none⟩ = some (.int .i64 g.letter) := k1
  have k2 : (w1.drewN nq).cell? ⟨w.heap.size, 2, none⟩ = some (.int .i64 g.leaves) := k2
  have k3 : (w1.drewN nq).cell? ⟨w.heap.size, 3, none⟩ = some (.slice a n cap) := k3
  have hb2 := bdrewN hb1 nq
  clear hb1 e0
  revert k0 k1 k2 k3 hb2
  generalize w1.drewN nq = w2
  intro k0 k1 k2 k3 hb2
  have hE2 := HE.out.below hb2
  have e1 := hE2.c1
  have e2 := hE2.c2
  clear hE2
  go_wp2_with fail
  have r0 := cell_regrown k0
  have r1 := cell_regrown k1
  have s1 := cell_regrown e1
  have s2 := cell_regrown e2
  have cL : ∀ d os, Calls Tryz.prog 74 #[.agg #[.int .i64 g.round, .int .i64 g.letter]] (grow (redrawn w2 d) os) (fun e w'' => e = .returned (.bool true) ∧ ∃ p : Regrown, w'' = grow (redrawn w2 p.d) p.os) := fun d os => Calls.regrown_of (lettered_is _ _ true hd _)
  have cB : ∀ d os, Calls Tryz.prog 88 #[.agg #[.int .i64 g.round, .int .i64 g.letter], .agg #[.int .i64 last.1, .int .i64 last.2]] (grow (redrawn w2 d) os) (fun e w'' => e = .returned (.bool false) ∧ ∃ p : Regrown, w'' = grow (redrawn w2 p.d) p.os) := fun d os => Calls.regrown_of (behind_is _ _ _ _ false hbh _)
  clear e1 e2
  refine wp_region_quiet_below (by kernel_rfl) (by kernel_rfl) ?_; (repeat (go_big_quiet_step (first | exact cL _ _ | exact cB _ _))); refine wpQuiet_nil ?_; rintro w3 ⟨⟨d3, os3⟩, rfl⟩
  clear r0 r1 s1 s2 cL cB
  have hb23 := below_regrown w2 d3 os3
  have k0 := cell_later' hb23 k0
  have k1 := cell_later' hb23 k1
  have k2 := cell_later' hb23 k2
  have k3 := cell_later' hb23 k3
  have hb3 := hb2.trans (hb23.mono hb2.size)
  clear hb2 hb23
  revert k0 k1 k2 k3 hb3
  generalize grow (redrawn w2 d3) os3 = w3
  intro k0 k1 k2 k3 hb3
  go_wp2_with fail
  go_ret
  exact ⟨rfl, hb3⟩

set_option maxRecDepth 100000 in
set_option maxHeartbeats 400000 in
theorem check_foldN (i : Int) (g : Gth) (cv : Value) (a : Option Addr) (n cap : Nat) (hcv : cv = .slice a n cap) (bE b : Nat) (seen : List (Int × Int)) (last : Int × Int) (w : World) (hE : EarlierAt w bE b seen last) (hs : sigB g.round g.letter = true) (hm : ¬ (g.round, g.letter) ∈ seen) (hd : decide (g.letter < 23) = false) (hf : foldedB g.leaves = false) :
    Calls Tryz.prog 65 #[.pointer (some ⟨bE, 0, none⟩), .int .i64 i, .agg #[.int .i64 g.round, .int .i64 g.letter, .int .i64 g.leaves, cv]] w fun e w' => e = .returned (.int .i64 7) ∧ Below w.heap.size w w' := by
  subst hcv
  go_enter Tryz.func65, Tryz.ntmps65
  go_wp2_with fail
  refine (isSig_any g.round g.letter _).mono ?_
  rintro e w1 ⟨rfl, hb⟩
  rw [hs]
  have k0 : w1.cell? ⟨w.heap.size, 0, none⟩ = some (.int .i64 g.round) := cell_later' hb (by simp [World.cell?_alloc_at])
  have k1 : w1.cell? ⟨w.heap.size, 1, none⟩ = some (.int .i64 g.letter) := cell_later' hb (by simp [World.cell?_alloc_at])
  have k2 : w1.cell? ⟨w.heap.size, 2, none⟩ = some (.int .i64 g.leaves) := cell_later' hb (by simp [World.cell?_alloc_at])
  have k3 : w1.cell? ⟨w.heap.size, 3, none⟩ = some (.slice a n cap) := cell_later' hb (by simp [World.cell?_alloc_at])
  have hb1 := ((Below.refl w.heap.size w).alloc (Nat.le_refl _) _).trans (hb.mono (by simp))
  have hE1 := hE.below hb1
  have e0 := hE1.c0
  have hl : ∀ m, (Instr.lookup 115 (.map (some b)) (.agg #[.int .i64 g.round, .int .i64 g.letter]) false).run Tryz.prog (w1.drewN m) = .ok (.bool false) (w1.drewN m) := fun m => by
    have hk : SigMap (w1.drewN m) b seen := hE1.map
    have := hk.look hs; rw [decide_eq_false hm] at this; exact this
  have HE := Lib.hid hE
  clear hb hs hE hm hE1
  go_wp2_with fail
  go_quiet (fail)
  clear hl
  have k0 : (w1.drewN nq).cell? ⟨w.heap.size, 0, none⟩ = some (.int .i64 g.round) := k0
  have k1 : (w1.drewN nq).cell? ⟨w.heap.size, 1, none⟩ = some (.int .i64 g.letter) := k1
  have k2 : (w1.drewN nq).cell? ⟨w.heap.size, 2, none⟩ = some (.int .i64 g.leaves) := k2
  have k3 : (w1.drewN nq).cell? ⟨w.heap.size, 3, none⟩ = some (.slice a n cap) := k3
  have hb2 := bdrewN hb1 nq
  clear hb1 e0
  revert k0 k1 k2 k3 hb2
  generalize w1.drewN nq = w2
  intro k0 k1 k2 k3 hb2
  have hE2 := HE.out.below hb2
  have e1 := hE2.c1
  have e2 := hE2.c2
  clear hE2
  go_wp2_with fail
  have r0 := cell_regrown k0
  have r1 := cell_regrown k1
  have s1 := cell_regrown e1
  have s2 := cell_regrown e2
  have cL : ∀ d os, Calls Tryz.prog 74 #[.agg #[.int .i64 g.round, .int .i64 g.letter]] (grow (redrawn w2 d) os) (fun e w'' => e = .returned (.bool false) ∧ ∃ p : Regrown, w'' = grow (redrawn w2 p.d) p.os) := fun d os => Calls.regrown_of (lettered_is _ _ false hd _)
  clear e1 e2
  refine wp_region_quiet_below (by kernel_rfl) (by kernel_rfl) ?_; (repeat (go_big_quiet_step (exact cL _ _))); refine wpQuiet_nil ?_; rintro w3 ⟨⟨d3, os3⟩, rfl⟩
  clear r0 r1 s1 s2 cL
  have hb23 := below_regrown w2 d3 os3
  have k0 := cell_later' hb23 k0
  have k1 := cell_later' hb23 k1
  have k2 := cell_later' hb23 k2
  have k3 := cell_later' hb23 k3
  have hb3 := hb2.trans (hb23.mono hb2.size)
  clear hb2 hb23
  revert k0 k1 k2 k3 hb3
  generalize grow (redrawn w2 d3) os3 = w3
  intro k0 k1 k2 k3 hb3
  go_wp2_with fail
  refine (isFolded_any g.leaves _).mono ?_
  rintro e w4 ⟨rfl, hb⟩
  rw [hf]
  have k0 := cell_later' hb k0
  have k1 := cell_later' hb k1
  have k2 := cell_later' hb k2
  have k3 := cell_later' hb k3
  have hb4 := hb3.trans (hb.mono hb3.size)
  clear hb hb3 hf
  go_wp2_with fail
  go_ret
  exact ⟨rfl, hb4⟩

set_option maxRecDepth 100000 in
set_option maxHeartbeats 400000 in
theorem check_longN (i : Int) (g : Gth) (cv : Value) (a : Option Addr) (n cap : Nat) (hcv : cv = .slice a n cap) (bE b : Nat) (seen : List (Int × Int)) (last : Int × Int) (w : World) (hE : EarlierAt w bE b seen last) (hs : sigB g.round g.letter = true) (hm : ¬ (g.round, g.letter) ∈ seen) (hd : decide (g.letter < 23) = false) (hf : foldedB g.leaves = true) (hn : 4 < n) :
    Calls Tryz.prog 65 #[.pointer (some ⟨bE, 0, none⟩), .int .i64 i, .agg #[.int .i64 g.round, .int .i64 g.letter, .int .i64 g.leaves, cv]] w fun e w' => e = .returned (.int .i64 3) ∧ Below w.heap.size w w' := by
  subst hcv
  go_enter Tryz.func65, Tryz.ntmps65
  go_wp2_with fail
  refine (isSig_any g.round g.letter _).mono ?_
  rintro e w1 ⟨rfl, hb⟩
  rw [hs]
  have k0 : w1.cell? ⟨w.heap.size, 0, none⟩ = some (.int .i64 g.round) := cell_later' hb (by simp [World.cell?_alloc_at])
  have k1 : w1.cell? ⟨w.heap.size, 1, none⟩ = some (.int .i64 g.letter) := cell_later' hb (by simp [World.cell?_alloc_at])
  have k2 : w1.cell? ⟨w.heap.size, 2, none⟩ = some (.int .i64 g.leaves) := cell_later' hb (by simp [World.cell?_alloc_at])
  have k3 : w1.cell? ⟨w.heap.size, 3, none⟩ = some (.slice a n cap) := cell_later' hb (by simp [World.cell?_alloc_at])
  have hb1 := ((Below.refl w.heap.size w).alloc (Nat.le_refl _) _).trans (hb.mono (by simp))
  have hE1 := hE.below hb1
  have e0 := hE1.c0
  have hl : ∀ m, (Instr.lookup 115 (.map (some b)) (.agg #[.int .i64 g.round, .int .i64 g.letter]) false).run Tryz.prog (w1.drewN m) = .ok (.bool false) (w1.drewN m) := fun m => by
    have hk : SigMap (w1.drewN m) b seen := hE1.map
    have := hk.look hs; rw [decide_eq_false hm] at this; exact this
  have HE := Lib.hid hE
  clear hb hs hE hm hE1
  go_wp2_with fail
  go_quiet (fail)
  clear hl
  have k0 : (w1.drewN nq).cell? ⟨w.heap.size, 0, none⟩ = some (.int .i64 g.round) := k0
  have k1 : (w1.drewN nq).cell? ⟨w.heap.size, 1, none⟩ = some (.int .i64 g.letter) := k1
  have k2 : (w1.drewN nq).cell? ⟨w.heap.size, 2, none⟩ = some (.int .i64 g.leaves) := k2
  have k3 : (w1.drewN nq).cell? ⟨w.heap.size, 3, none⟩ = some (.slice a n cap) := k3
  have hb2 := bdrewN hb1 nq
  clear hb1 e0
  revert k0 k1 k2 k3 hb2
  generalize w1.drewN nq = w2
  intro k0 k1 k2 k3 hb2
  have hE2 := HE.out.below hb2
  have e1 := hE2.c1
  have e2 := hE2.c2
  clear hE2
  go_wp2_with fail
  have r0 := cell_regrown k0
  have r1 := cell_regrown k1
  have s1 := cell_regrown e1
  have s2 := cell_regrown e2
  have cL : ∀ d os, Calls Tryz.prog 74 #[.agg #[.int .i64 g.round, .int .i64 g.letter]] (grow (redrawn w2 d) os) (fun e w'' => e = .returned (.bool false) ∧ ∃ p : Regrown, w'' = grow (redrawn w2 p.d) p.os) := fun d os => Calls.regrown_of (lettered_is _ _ false hd _)
  clear e1 e2
  refine wp_region_quiet_below (by kernel_rfl) (by kernel_rfl) ?_; (repeat (go_big_quiet_step (exact cL _ _))); refine wpQuiet_nil ?_; rintro w3 ⟨⟨d3, os3⟩, rfl⟩
  clear r0 r1 s1 s2 cL
  have hb23 := below_regrown w2 d3 os3
  have k0 := cell_later' hb23 k0
  have k1 := cell_later' hb23 k1
  have k2 := cell_later' hb23 k2
  have k3 := cell_later' hb23 k3
  have hb3 := hb2.trans (hb23.mono hb2.size)
  clear hb2 hb23
  revert k0 k1 k2 k3 hb3
  generalize grow (redrawn w2 d3) os3 = w3
  intro k0 k1 k2 k3 hb3
  go_wp2_with fail
  refine (isFolded_any g.leaves _).mono ?_
  rintro e w4 ⟨rfl, hb⟩
  rw [hf]
  have k0 := cell_later' hb k0
  have k1 := cell_later' hb k1
  have k2 := cell_later' hb k2
  have k3 := cell_later' hb k3
  have hb4 := hb3.trans (hb.mono hb3.size)
  clear hb hb3 hf
  have hn' : (4 : Int) < n := by omega
  go_wp2_with fail
  go_ret
  exact ⟨rfl, hb4⟩

set_option maxRecDepth 100000 in
set_option maxHeartbeats 400000 in
theorem check_foldL (i : Int) (g : Gth) (cv : Value) (a : Option Addr) (n cap : Nat) (hcv : cv = .slice a n cap) (bE b : Nat) (seen : List (Int × Int)) (last : Int × Int) (w : World) (hE : EarlierAt w bE b seen last) (hs : sigB g.round g.letter = true) (hm : ¬ (g.round, g.letter) ∈ seen) (hd : decide (g.letter < 23) = true) (hbh : behindB g.round g.letter last.1 last.2 = true) (hf : foldedB g.leaves = false) :
    Calls Tryz.prog 65 #[.pointer (some ⟨bE, 0, none⟩), .int .i64 i, .agg #[.int .i64 g.round, .int .i64 g.letter, .int .i64 g.leaves, cv]] w fun e w' => e = .returned (.int .i64 7) ∧ Below w.heap.size w w' := by
  subst hcv
  go_enter Tryz.func65, Tryz.ntmps65
  go_wp2_with fail
  refine (isSig_any g.round g.letter _).mono ?_
  rintro e w1 ⟨rfl, hb⟩
  rw [hs]
  have k0 : w1.cell? ⟨w.heap.size, 0, none⟩ = some (.int .i64 g.round) := cell_later' hb (by simp [World.cell?_alloc_at])
  have k1 : w1.cell? ⟨w.heap.size, 1, none⟩ = some (.int .i64 g.letter) := cell_later' hb (by simp [World.cell?_alloc_at])
  have k2 : w1.cell? ⟨w.heap.size, 2, none⟩ = some (.int .i64 g.leaves) := cell_later' hb (by simp [World.cell?_alloc_at])
  have k3 : w1.cell? ⟨w.heap.size, 3, none⟩ = some (.slice a n cap) := cell_later' hb (by simp [World.cell?_alloc_at])
  have hb1 := ((Below.refl w.heap.size w).alloc (Nat.le_refl _) _).trans (hb.mono (by simp))
  have hE1 := hE.below hb1
  have e0 := hE1.c0
  have hl : ∀ m, (Instr.lookup 115 (.map (some b)) (.agg #[.int .i64 g.round, .int .i64 g.letter]) false).run Tryz.prog (w1.drewN m) = .ok (.bool false) (w1.drewN m) := fun m => by
    have hk : SigMap (w1.drewN m) b seen := hE1.map
    have := hk.look hs; rw [decide_eq_false hm] at this; exact this
  have HE := Lib.hid hE
  clear hb hs hE hm hE1
  go_wp2_with fail
  go_quiet (fail)
  clear hl
  have k0 : (w1.drewN nq).cell? ⟨w.heap.size, 0, none⟩ = some (.int .i64 g.round) := k0
  have k1 : (w1.drewN nq).cell? ⟨w.heap.size, 1, none⟩ = some (.int .i64 g.letter) := k1
  have k2 : (w1.drewN nq).cell? ⟨w.heap.size, 2, none⟩ = some (.int .i64 g.leaves) := k2
  have k3 : (w1.drewN nq).cell? ⟨w.heap.size, 3, none⟩ = some (.slice a n cap) := k3
  have hb2 := bdrewN hb1 nq
  clear hb1 e0
  revert k0 k1 k2 k3 hb2
  generalize w1.drewN nq = w2
  intro k0 k1 k2 k3 hb2
  have hE2 := HE.out.below hb2
  have e1 := hE2.c1
  have e2 := hE2.c2
  clear hE2
  go_wp2_with fail
  have r0 := cell_regrown k0
  have r1 := cell_regrown k1
  have s1 := cell_regrown e1
  have s2 := cell_regrown e2
  have cL : ∀ d os, Calls Tryz.prog 74 #[.agg #[.int .i64 g.round, .int .i64 g.letter]] (grow (redrawn w2 d) os) (fun e w'' => e = .returned (.bool true) ∧ ∃ p : Regrown, w'' = grow (redrawn w2 p.d) p.os) := fun d os => Calls.regrown_of (lettered_is _ _ true hd _)
  have cB : ∀ d os, Calls Tryz.prog 88 #[.agg #[.int .i64 g.round, .int .i64 g.letter], .agg #[.int .i64 last.1, .int .i64 last.2]] (grow (redrawn w2 d) os) (fun e w'' => e = .returned (.bool true) ∧ ∃ p : Regrown, w'' = grow (redrawn w2 p.d) p.os) := fun d os => Calls.regrown_of (behind_is _ _ _ _ true hbh _)
  clear e1 e2
  refine wp_region_quiet_below (by kernel_rfl) (by kernel_rfl) ?_; (repeat (go_big_quiet_step (first | exact cL _ _ | exact cB _ _))); refine wpQuiet_nil ?_; rintro w3 ⟨⟨d3, os3⟩, rfl⟩
  clear r0 r1 s1 s2 cL cB
  have hb23 := below_regrown w2 d3 os3
  have k0 := cell_later' hb23 k0
  have k1 := cell_later' hb23 k1
  have k2 := cell_later' hb23 k2
  have k3 := cell_later' hb23 k3
  have hb3 := hb2.trans (hb23.mono hb2.size)
  clear hb2 hb23
  revert k0 k1 k2 k3 hb3
  generalize grow (redrawn w2 d3) os3 = w3
  intro k0 k1 k2 k3 hb3
  go_wp2_with fail
  refine (isFolded_any g.leaves _).mono ?_
  rintro e w4 ⟨rfl, hb⟩
  rw [hf]
  have k0 := cell_later' hb k0
  have k1 := cell_later' hb k1
  have k2 := cell_later' hb k2
  have k3 := cell_later' hb k3
  have hb4 := hb3.trans (hb.mono hb3.size)
  clear hb hb3 hf
  go_wp2_with fail
  go_ret
  exact ⟨rfl, hb4⟩

set_option maxRecDepth 100000 in
set_option maxHeartbeats 400000 in
theorem check_longL (i : Int) (g : Gth) (cv : Value) (a : Option Addr) (n cap : Nat) (hcv : cv = .slice a n cap) (bE b : Nat) (seen : List (Int × Int)) (last : Int × Int) (w : World) (hE : EarlierAt w bE b seen last) (hs : sigB g.round g.letter = true) (hm : ¬ (g.round, g.letter) ∈ seen) (hd : decide (g.letter < 23) = true) (hbh : behindB g.round g.letter last.1 last.2 = true) (hf : foldedB g.leaves = true) (hn : 4 < n) :
    Calls Tryz.prog 65 #[.pointer (some ⟨bE, 0, none⟩), .int .i64 i, .agg #[.int .i64 g.round, .int .i64 g.letter, .int .i64 g.leaves, cv]] w fun e w' => e = .returned (.int .i64 3) ∧ Below w.heap.size w w' := by
  subst hcv
  go_enter Tryz.func65, Tryz.ntmps65
  go_wp2_with fail
  refine (isSig_any g.round g.letter _).mono ?_
  rintro e w1 ⟨rfl, hb⟩
  rw [hs]
  have k0 : w1.cell? ⟨w.heap.size, 0, none⟩ = some (.int .i64 g.round) := cell_later' hb (by simp [World.cell?_alloc_at])
  have k1 : w1.cell? ⟨w.heap.size, 1, none⟩ = some (.int .i64 g.letter) := cell_later' hb (by simp [World.cell?_alloc_at])
  have k2 : w1.cell? ⟨w.heap.size, 2, none⟩ = some (.int .i64 g.leaves) := cell_later' hb (by simp [World.cell?_alloc_at])
  have k3 : w1.cell? ⟨w.heap.size, 3, none⟩ = some (.slice a n cap) := cell_later' hb (by simp [World.cell?_alloc_at])
  have hb1 := ((Below.refl w.heap.size w).alloc (Nat.le_refl _) _).trans (hb.mono (by simp))
  have hE1 := hE.below hb1
  have e0 := hE1.c0
  have hl : ∀ m, (Instr.lookup 115 (.map (some b)) (.agg #[.int .i64 g.round, .int .i64 g.letter]) false).run Tryz.prog (w1.drewN m) = .ok (.bool false) (w1.drewN m) := fun m => by
    have hk : SigMap (w1.drewN m) b seen := hE1.map
    have := hk.look hs; rw [decide_eq_false hm] at this; exact this
  have HE := Lib.hid hE
  clear hb hs hE hm hE1
  go_wp2_with fail
  go_quiet (fail)
  clear hl
  have k0 : (w1.drewN nq).cell? ⟨w.heap.size, 0, none⟩ = some (.int .i64 g.round) := k0
  have k1 : (w1.drewN nq).cell? ⟨w.heap.size, 1, none⟩ = some (.int .i64 g.letter) := k1
  have k2 : (w1.drewN nq).cell? ⟨w.heap.size, 2, none⟩ = some (.int .i64 g.leaves) := k2
  have k3 : (w1.drewN nq).cell? ⟨w.heap.size, 3, none⟩ = some (.slice a n cap) := k3
  have hb2 := bdrewN hb1 nq
  clear hb1 e0
  revert k0 k1 k2 k3 hb2
  generalize w1.drewN nq = w2
  intro k0 k1 k2 k3 hb2
  have hE2 := HE.out.below hb2
  have e1 := hE2.c1
  have e2 := hE2.c2
  clear hE2
  go_wp2_with fail
  have r0 := cell_regrown k0
  have r1 := cell_regrown k1
  have s1 := cell_regrown e1
  have s2 := cell_regrown e2
  have cL : ∀ d os, Calls Tryz.prog 74 #[.agg #[.int .i64 g.round, .int .i64 g.letter]] (grow (redrawn w2 d) os) (fun e w'' => e = .returned (.bool true) ∧ ∃ p : Regrown, w'' = grow (redrawn w2 p.d) p.os) := fun d os => Calls.regrown_of (lettered_is _ _ true hd _)
  have cB : ∀ d os, Calls Tryz.prog 88 #[.agg #[.int .i64 g.round, .int .i64 g.letter], .agg #[.int .i64 last.1, .int .i64 last.2]] (grow (redrawn w2 d) os) (fun e w'' => e = .returned (.bool true) ∧ ∃ p : Regrown, w'' = grow (redrawn w2 p.d) p.os) := fun d os => Calls.regrown_of (behind_is _ _ _ _ true hbh _)
  clear e1 e2
  refine wp_region_quiet_below (by kernel_rfl) (by kernel_rfl) ?_; (repeat (go_big_quiet_step (first | exact cL _ _ | exact cB _ _))); refine wpQuiet_nil ?_; rintro w3 ⟨⟨d3, os3⟩, rfl⟩
  clear r0 r1 s1 s2 cL cB
  have hb23 := below_regrown w2 d3 os3
  have k0 := cell_later' hb23 k0
  have k1 := cell_later' hb23 k1
  have k2 := cell_later' hb23 k2
  have k3 := cell_later' hb23 k3
  have hb3 := hb2.trans (hb23.mono hb2.size)
  clear hb2 hb23
  revert k0 k1 k2 k3 hb3
  generalize grow (redrawn w2 d3) os3 = w3
  intro k0 k1 k2 k3 hb3
  go_wp2_with fail
  refine (isFolded_any g.leaves _).mono ?_
  rintro e w4 ⟨rfl, hb⟩
  rw [hf]
  have k0 := cell_later' hb k0
  have k1 := cell_later' hb k1
  have k2 := cell_later' hb k2
  have k3 := cell_later' hb k3
  have hb4 := hb3.trans (hb.mono hb3.size)
  clear hb hb3 hf
  have hn' : (4 : Int) < n := by omega
  go_wp2_with fail
  go_ret
  exact ⟨rfl, hb4⟩

end Go.Proofs.YtimdmgkegdlafaaGreatDoor
