/- The parts Cd of the proof, joined. It holds without conditions of its own. -/
import Derived.Test.YtimdmgkegdlafaaGreatDoorCH26
import Derived.Test.YtimdmgkegdlafaaGreatDoorCH27
/- The reference's error of a change of a gathering. -/
namespace Go.Proofs.YtimdmgkegdlafaaGreatDoor
set_option linter.unusedSimpArgs false
set_option linter.unusedVariables false
open Go Go.RowKit Go.Sort Go.BigFrame

set_option maxRecDepth 100000 in
set_option maxHeartbeats 400000 in
theorem refChange_bad (g : Gth) (a : Option Addr) (n cap : Nat) (i : Nat) (c : Chg) (prev : Option Chg) (w : World) (hch : ChsAt w.heap.size w (.slice a n cap) g.chs) (hi : g.chs[i]? = some c) (hn : g.chs.length ≤ 100) (hk : inB 1 3 c.kind = false) :
    Calls Tryz.prog 85 #[.agg #[.int .i64 g.round, .int .i64 g.letter, .int .i64 g.leaves, .slice a n cap], .int .i64 i] w fun e w' => e = .returned (.int .i64 6) ∧ Below w.heap.size w w' := by
  obtain ⟨a', cap', hav, hcell⟩ := hch
  simp only [Value.slice.injEq] at hav
  obtain ⟨rfl, rfl, rfl⟩ := hav
  have hlt := (List.getElem?_eq_some_iff.1 hi).1
  obtain ⟨b, off, rfl, hb, hcell⟩ := hcell (fun e => by rw [e] at hlt; simp at hlt)
  obtain ⟨q0, q1, q2⟩ := hcell i c hi
  have d2 : ((i : Int) < g.chs.length) := by omega
  clear hcell hi hlt
  go_enter Tryz.func85, Tryz.ntmps85
  go_wp2_with fail
  refine (refIn_any c.kind 1 3 _).mono ?_
  rintro e w1 ⟨rfl, hb1⟩
  rw [hk]
  have hb0 : Below w.heap.size w w1 := Below.trans (by exact (by repeat (first | (refine Below.setCell ?_ ?_ _; rotate_left; · (first | omega | (simp; done) | (simp; omega) | fail)) | (refine Below.alloc ?_ ?_ _; rotate_left; · (first | omega | (simp; done) | (simp; omega) | fail)) | refine Below.drew ?_ | exact Below.refl _ _ | fail))) (hb1.mono (by simp; try omega))
  clear hb1
  go_wp2_with fail
  go_ret
  exact ⟨rfl, hb0⟩

set_option maxRecDepth 100000 in
set_option maxHeartbeats 400000 in
theorem refChange_three (g : Gth) (a : Option Addr) (n cap : Nat) (i : Nat) (cp cm : Int) (w : World) (hch : ChsAt w.heap.size w (.slice a n cap) g.chs) (hi : g.chs[i]? = some ⟨3, cp, cm⟩) (hn : g.chs.length ≤ 100) (hr : (inB 0 g.leaves cp && inB 1 4 cm) = false) :
    Calls Tryz.prog 85 #[.agg #[.int .i64 g.round, .int .i64 g.letter, .int .i64 g.leaves, .slice a n cap], .int .i64 i] w fun e w' => e = .returned (.int .i64 7) ∧ Below w.heap.size w w' := by
  obtain ⟨a', cap', hav, hcell⟩ := hch
  simp only [Value.slice.injEq] at hav
  obtain ⟨rfl, rfl, rfl⟩ := hav
  have hlt := (List.getElem?_eq_some_iff.1 hi).1
  obtain ⟨b, off, rfl, hb, hcell⟩ := hcell (fun e => by rw [e] at hlt; simp at hlt)
  obtain ⟨q0, q1, q2⟩ := hcell i _ hi
  have d2 : ((i : Int) < g.chs.length) := by omega
  clear hcell hi hlt
  go_enter Tryz.func85, Tryz.ntmps85
  go_wp2_with fail
  refine (refIn_any 3 1 3 _).mono ?_
  rintro e w1 ⟨rfl, hb1⟩
  rw [show inB 1 3 3 = true from rfl]
  have hb0 : Below w.heap.size w w1 := Below.trans (by exact (by repeat (first | (refine Below.setCell ?_ ?_ _; rotate_left; · (first | omega | (simp; done) | (simp; omega) | fail)) | (refine Below.alloc ?_ ?_ _; rotate_left; · (first | omega | (simp; done) | (simp; omega) | fail)) | refine Below.drew ?_ | exact Below.refl _ _ | fail))) (hb1.mono (by simp; try omega))
  have hz := hb0.size
  have k0 : w1.cell? ⟨w.heap.size + 1, 0, none⟩ = some (.int .i64 3) := cell_later' hb1 (by simp [World.cell?_alloc_at])
  have k1 : w1.cell? ⟨w.heap.size + 1, 1, none⟩ = some (.int .i64 cp) := cell_later' hb1 (by simp [World.cell?_alloc_at])
  have k2 : w1.cell? ⟨w.heap.size + 1, 2, none⟩ = some (.int .i64 cm) := cell_later' hb1 (by simp [World.cell?_alloc_at])
  have g2 : w1.cell? ⟨w.heap.size, 2, none⟩ = some (.int .i64 g.leaves) := cell_later' hb1 (by simp [World.cell?_alloc_at, World.cell?_alloc_past])
  clear hb1 q0 q1 q2
  go_wp2_with fail
  go_quiet (fail)
  go_wp2_with fail
  refine (refIn_any cm 1 4 _).mono ?_
  rintro e w2 ⟨rfl, hb2⟩
  have hb2' : Below w1.heap.size w1 w2 := Below.trans (by exact bdrewN (Below.refl _ _) _) (hb2.mono (by exact Nat.le_refl _))
  have k1 := cell_later' hb2' k1
  have g2 := cell_later' hb2' g2
  have hb0 := hb0.trans (hb2'.mono hb0.size)
  clear k0 k2 hb2' hb2
  cases hm : inB 1 4 cm with
  | false =>
    go_wp2_with fail
    refine (refIn_any cp 0 g.leaves _).mono ?_
    rintro e w3 ⟨rfl, hb3⟩
    have hb0 := hb0.trans (hb3.mono hb0.size)
    clear hb3
    cases hp : inB 0 g.leaves cp with
    | false =>
      go_wp2_with fail
      go_ret
      exact ⟨rfl, hb0⟩
    | true =>
      go_wp2_with fail
      go_ret
      exact ⟨rfl, hb0⟩
  | true =>
    have hp : inB 0 g.leaves cp = false := by simpa [hm] using hr
    go_wp2_with fail
    refine (refIn_any cp 0 g.leaves _).mono ?_
    rintro e w3 ⟨rfl, hb3⟩
    have hb0 := hb0.trans (hb3.mono hb0.size)
    clear hb3
    rw [hp]
    go_wp2_with fail
    go_ret
    exact ⟨rfl, hb0⟩

set_option maxRecDepth 100000 in
set_option maxHeartbeats 400000 in
theorem refChange_two (g : Gth) (a : Option Addr) (n cap : Nat) (i : Nat) (ck cp cm : Int) (w : World) (hch : ChsAt w.heap.size w (.slice a n cap) g.chs) (hi : g.chs[i]? = some ⟨ck, cp, cm⟩) (hn : g.chs.length ≤ 100) (hk : inB 1 3 ck = true) (h3 : (ck == 3) = false) (hr : (inB 1 g.leaves cp && decide (cm = 0)) = false) :
    Calls Tryz.prog 85 #[.agg #[.int .i64 g.round, .int .i64 g.letter, .int .i64 g.leaves, .slice a n cap], .int .i64 i] w fun e w' => e = .returned (.int .i64 7) ∧ Below w.heap.size w w' := by
  by_cases hm : cm = 0
  · subst hm
    have hp : inB 1 g.leaves cp = false := by simpa using hr
    obtain ⟨a', cap', hav, hcell⟩ := hch
    simp only [Value.slice.injEq] at hav
    obtain ⟨rfl, rfl, rfl⟩ := hav
    have hlt := (List.getElem?_eq_some_iff.1 hi).1
    obtain ⟨b, off, rfl, hb, hcell⟩ := hcell (fun e => by rw [e] at hlt; simp at hlt)
    have HC := Lib.hid hcell
    obtain ⟨q0, q1, q2⟩ := hcell i _ hi
    have d2 : ((i : Int) < g.chs.length) := by omega
    clear hcell hi hlt
    go_enter Tryz.func85, Tryz.ntmps85
    go_wp2_with fail
    refine (refIn_any ck 1 3 _).mono ?_
    rintro e w1 ⟨rfl, hb1⟩
    rw [show inB 1 3 ck = true from hk]
    have hb0 : Below w.heap.size w w1 := Below.trans (by exact (by repeat (first | (refine Below.setCell ?_ ?_ _; rotate_left; · (first | omega | (simp; done) | (simp; omega) | fail)) | (refine Below.alloc ?_ ?_ _; rotate_left; · (first | omega | (simp; done) | (simp; omega) | fail)) | refine Below.drew ?_ | exact Below.refl _ _ | fail))) (hb1.mono (by simp; try omega))
    have k0 : w1.cell? ⟨w.heap.size + 1, 0, none⟩ = some (.int .i64 ck) := cell_later' hb1 (by simp [World.cell?_alloc_at])
    have k1 : w1.cell? ⟨w.heap.size + 1, 1, none⟩ = some (.int .i64 cp) := cell_later' hb1 (by simp [World.cell?_alloc_at])
    have k2 : w1.cell? ⟨w.heap.size + 1, 2, none⟩ = some (.int .i64 0) := cell_later' hb1 (by simp [World.cell?_alloc_at])
    have g2 : w1.cell? ⟨w.heap.size, 2, none⟩ = some (.int .i64 g.leaves) := cell_later' hb1 (by simp [World.cell?_alloc_at, World.cell?_alloc_past])
    have g3 : w1.cell? ⟨w.heap.size, 3, none⟩ = some (.slice (some ⟨b, off, none⟩) g.chs.length cap) := cell_later' hb1 (by simp [World.cell?_alloc_at, World.cell?_alloc_past])
    clear hb1 q0 q1 q2
    go_wp2_with fail
    go_quiet (fail)
    go_wp2_with fail
    refine (refIn_any cp 1 g.leaves _).mono ?_
    rintro e w2 ⟨rfl, hb2⟩
    rw [hp]
    have hb2' : Below w1.heap.size w1 w2 := Below.trans (by exact bdrewN (Below.refl _ _) _) (hb2.mono (by exact Nat.le_refl _))
    have hb0 := hb0.trans (hb2'.mono hb0.size)
    clear hb2 hb2'
    go_wp2_with fail
    go_ret
    exact ⟨rfl, hb0⟩
  · have hm0 : (cm == 0) = false := by simp [hm]
    clear hr
    obtain ⟨a', cap', hav, hcell⟩ := hch
    simp only [Value.slice.injEq] at hav
    obtain ⟨rfl, rfl, rfl⟩ := hav
    have hlt := (List.getElem?_eq_some_iff.1 hi).1
    obtain ⟨b, off, rfl, hb, hcell⟩ := hcell (fun e => by rw [e] at hlt; simp at hlt)
    have HC := Lib.hid hcell
    obtain ⟨q0, q1, q2⟩ := hcell i _ hi
    have d2 : ((i : Int) < g.chs.length) := by omega
    clear hcell hi hlt
    go_enter Tryz.func85, Tryz.ntmps85
    go_wp2_with fail
    refine (refIn_any ck 1 3 _).mono ?_
    rintro e w1 ⟨rfl, hb1⟩
    rw [show inB 1 3 ck = true from hk]
    have hb0 : Below w.heap.size w w1 := Below.trans (by exact (by repeat (first | (refine Below.setCell ?_ ?_ _; rotate_left; · (first | omega | (simp; done) | (simp; omega) | fail)) | (refine Below.alloc ?_ ?_ _; rotate_left; · (first | omega | (simp; done) | (simp; omega) | fail)) | refine Below.drew ?_ | exact Below.refl _ _ | fail))) (hb1.mono (by simp; try omega))
    have k0 : w1.cell? ⟨w.heap.size + 1, 0, none⟩ = some (.int .i64 ck) := cell_later' hb1 (by simp [World.cell?_alloc_at])
    have k1 : w1.cell? ⟨w.heap.size + 1, 1, none⟩ = some (.int .i64 cp) := cell_later' hb1 (by simp [World.cell?_alloc_at])
    have k2 : w1.cell? ⟨w.heap.size + 1, 2, none⟩ = some (.int .i64 cm) := cell_later' hb1 (by simp [World.cell?_alloc_at])
    have g2 : w1.cell? ⟨w.heap.size, 2, none⟩ = some (.int .i64 g.leaves) := cell_later' hb1 (by simp [World.cell?_alloc_at, World.cell?_alloc_past])
    have g3 : w1.cell? ⟨w.heap.size, 3, none⟩ = some (.slice (some ⟨b, off, none⟩) g.chs.length cap) := cell_later' hb1 (by simp [World.cell?_alloc_at, World.cell?_alloc_past])
    clear hb1 q0 q1 q2
    go_wp2_with fail
    go_quiet (fail)
    go_wp2_with fail
    refine (refIn_any cp 1 g.leaves _).mono ?_
    rintro e w2 ⟨rfl, hb2⟩
    have hb2' : Below w1.heap.size w1 w2 := Below.trans (by exact bdrewN (Below.refl _ _) _) (hb2.mono (by exact Nat.le_refl _))
    have hb0 := hb0.trans (hb2'.mono hb0.size)
    clear hb2 hb2'
    cases hp : inB 1 g.leaves cp with
    | false =>
      go_wp2_with fail
      go_ret
      exact ⟨rfl, hb0⟩
    | true =>
      go_wp2_with fail
      go_ret
      exact ⟨rfl, hb0⟩

set_option maxRecDepth 100000 in
set_option maxHeartbeats 800000 in
theorem refChange_good3 (g : Gth) (a : Option Addr) (n cap : Nat) (i : Nat) (cp cm : Int) (w : World) (hch : ChsAt w.heap.size w (.slice a n cap) g.chs) (hi : g.chs[i]? = some ⟨3, cp, cm⟩) (hn : g.chs.length ≤ 100) (hp : inB 0 g.leaves cp = true) (hm : inB 1 4 cm = true) (v : Int)
    (hpv : (i = 0 ∧ v = 0) ∨ ∃ j p, i = j + 1 ∧ g.chs[j]? = some p ∧ v = if cp < p.pos ∨ (cp = p.pos ∧ ((3 : Int) ≠ 3 ∨ p.kind = 3)) then 2 else 0) :
    Calls Tryz.prog 85 #[.agg #[.int .i64 g.round, .int .i64 g.letter, .int .i64 g.leaves, .slice a n cap], .int .i64 i] w fun e w' => e = .returned (.int .i64 v) ∧ Below w.heap.size w w' := by
  obtain ⟨a', cap', hav, hcell⟩ := hch
  simp only [Value.slice.injEq] at hav
  obtain ⟨rfl, rfl, rfl⟩ := hav
  have hlt := (List.getElem?_eq_some_iff.1 hi).1
  obtain ⟨b, off, rfl, hb, hcell⟩ := hcell (fun e => by rw [e] at hlt; simp at hlt)
  have HC := Lib.hid hcell
  obtain ⟨q0, q1, q2⟩ := hcell i _ hi
  have d2 : ((i : Int) < g.chs.length) := by omega
  clear hcell hi hlt
  go_enter Tryz.func85, Tryz.ntmps85
  go_wp2_with fail
  refine (refIn_any 3 1 3 _).mono ?_
  rintro e w1 ⟨rfl, hb1⟩
  rw [show inB 1 3 3 = true from rfl]
  have hb0 : Below w.heap.size w w1 := Below.trans (by exact (by repeat (first | (refine Below.setCell ?_ ?_ _; rotate_left; · (first | omega | (simp; done) | (simp; omega) | fail)) | (refine Below.alloc ?_ ?_ _; rotate_left; · (first | omega | (simp; done) | (simp; omega) | fail)) | refine Below.drew ?_ | exact Below.refl _ _ | fail))) (hb1.mono (by simp; try omega))
  have k0 : w1.cell? ⟨w.heap.size + 1, 0, none⟩ = some (.int .i64 3) := cell_later' hb1 (by simp [World.cell?_alloc_at])
  have k1 : w1.cell? ⟨w.heap.size + 1, 1, none⟩ = some (.int .i64 cp) := cell_later' hb1 (by simp [World.cell?_alloc_at])
  have k2 : w1.cell? ⟨w.heap.size + 1, 2, none⟩ = some (.int .i64 cm) := cell_later' hb1 (by simp [World.cell?_alloc_at])
  have g2 : w1.cell? ⟨w.heap.size, 2, none⟩ = some (.int .i64 g.leaves) := cell_later' hb1 (by simp [World.cell?_alloc_at, World.cell?_alloc_past])
  have g3 : w1.cell? ⟨w.heap.size, 3, none⟩ = some (.slice (some ⟨b, off, none⟩) g.chs.length cap) := cell_later' hb1 (by simp [World.cell?_alloc_at, World.cell?_alloc_past])
  clear hb1 q0 q1 q2
  go_wp2_with fail
  go_quiet (fail)
  go_wp2_with fail
  refine (refIn_any cm 1 4 _).mono ?_
  rintro e w2 ⟨rfl, hb2⟩
  rw [hm]
  have hb2' : Below w1.heap.size w1 w2 := Below.trans (by exact bdrewN (Below.refl _ _) _) (hb2.mono (by exact Nat.le_refl _))
  have k0 := cell_later' hb2' k0
  have k1 := cell_later' hb2' k1
  have g2 := cell_later' hb2' g2
  have g3 := cell_later' hb2' g3
  have hb0 := hb0.trans (hb2'.mono hb0.size)
  clear k2 hb2' hb2
  go_wp2_with fail
  refine (refIn_any cp 0 g.leaves _).mono ?_
  rintro e w3 ⟨rfl, hb3⟩
  rw [hp]
  have k0 := cell_later' hb3 k0
  have k1 := cell_later' hb3 k1
  have g2 := cell_later' hb3 g2
  have g3 := cell_later' hb3 g3
  have hb0 := hb0.trans (hb3.mono hb0.size)
  clear hb3
  rcases hpv with ⟨rfl, hv⟩ | ⟨j, p, rfl, hj, hv⟩
  · go_wp2_with fail
    go_ret
    exact ⟨by rw [hv]; rfl, hb0⟩
  · obtain ⟨q0, q1, q2⟩ := HC.out j p hj
    have q0 := cell_later' hb0 q0
    have q1 := cell_later' hb0 q1
    have q2 := cell_later' hb0 q2
    have HB := Lib.hid hb0
    have HV := Lib.hid hv
    have hz := hb0.size
    have hz1 := lt_of_cell k1
    have d0 : ((((j + 1 : Nat) : Int)) == 0) = false := by simp; omega
    have d1 : IntKind.i64.wrap (((j + 1 : Nat) : Int) - 1) = j := by rw [IntKind.wrap_i64]; omega
    have d3 : ((j : Int) < g.chs.length) := by omega
    clear hb0 hj HC hv
    by_cases h1 : cp < p.pos
    · have e1 : decide (cp < p.pos) = true := decide_eq_true h1
      have HV' := Lib.hid (HV.out.trans (if_pos (Or.inl h1)))
      clear h1 HV
      go_wp2_with fail
      go_ret
      exact ⟨by rw [HV'.out]; rfl, (by repeat (first | (refine Below.setCell ?_ ?_ _; rotate_left; · (first | omega | (simp; done) | (simp; omega) | fail)) | (refine Below.alloc ?_ ?_ _; rotate_left; · (first | omega | (simp; done) | (simp; omega) | fail)) | refine Below.drew ?_ | exact HB.out | fail))⟩
    · have e1 : decide (cp < p.pos) = false := decide_eq_false h1
      by_cases h2 : cp = p.pos
      · have e2 : (cp == p.pos) = true := by simp [h2]
        by_cases h3 : p.kind = 3
        · have e3 : (p.kind == 3) = true := by simp [h3]
          have HV' := Lib.hid (HV.out.trans (if_pos (Or.inr ⟨h2, Or.inr h3⟩)))
          clear h1 h2 h3 HV
          go_wp2_with fail
          go_ret
          exact ⟨by rw [HV'.out]; rfl, (by repeat (first | (refine Below.setCell ?_ ?_ _; rotate_left; · (first | omega | (simp; done) | (simp; omega) | fail)) | (refine Below.alloc ?_ ?_ _; rotate_left; · (first | omega | (simp; done) | (simp; omega) | fail)) | refine Below.drew ?_ | exact HB.out | fail))⟩
        · have e3 : (p.kind == 3) = false := by simp [h3]
          have HV' := Lib.hid (HV.out.trans (if_neg (fun h => h.elim h1 (fun h => h.2.elim (fun f => f rfl) h3))))
          clear h1 h2 h3 HV
          go_wp2_with fail
          go_ret
          exact ⟨by rw [HV'.out]; rfl, (by repeat (first | (refine Below.setCell ?_ ?_ _; rotate_left; · (first | omega | (simp; done) | (simp; omega) | fail)) | (refine Below.alloc ?_ ?_ _; rotate_left; · (first | omega | (simp; done) | (simp; omega) | fail)) | refine Below.drew ?_ | exact HB.out | fail))⟩
      · have e2 : (cp == p.pos) = false := by simp [h2]
        have HV' := Lib.hid (HV.out.trans (if_neg (fun h => h.elim h1 (fun h => h2 h.1))))
        clear h1 h2 HV
        go_wp2_with fail
        go_ret
        exact ⟨by rw [HV'.out]; rfl, (by repeat (first | (refine Below.setCell ?_ ?_ _; rotate_left; · (first | omega | (simp; done) | (simp; omega) | fail)) | (refine Below.alloc ?_ ?_ _; rotate_left; · (first | omega | (simp; done) | (simp; omega) | fail)) | refine Below.drew ?_ | exact HB.out | fail))⟩

set_option maxRecDepth 100000 in
set_option maxHeartbeats 800000 in
theorem refChange_goodN (g : Gth) (a : Option Addr) (n cap : Nat) (i : Nat) (ck cp : Int) (w : World) (hch : ChsAt w.heap.size w (.slice a n cap) g.chs) (hi : g.chs[i]? = some ⟨ck, cp, 0⟩) (hn : g.chs.length ≤ 100) (hk : inB 1 3 ck = true) (h3 : (ck == 3) = false) (hp : inB 1 g.leaves cp = true) (v : Int)
    (hpv : (i = 0 ∧ v = 0) ∨ ∃ j p, i = j + 1 ∧ g.chs[j]? = some p ∧ v = if cp < p.pos ∨ (cp = p.pos ∧ (ck ≠ 3 ∨ p.kind = 3)) then 2 else 0) :
    Calls Tryz.prog 85 #[.agg #[.int .i64 g.round, .int .i64 g.letter, .int .i64 g.leaves, .slice a n cap], .int .i64 i] w fun e w' => e = .returned (.int .i64 v) ∧ Below w.heap.size w w' := by
  obtain ⟨a', cap', hav, hcell⟩ := hch
  simp only [Value.slice.injEq] at hav
  obtain ⟨rfl, rfl, rfl⟩ := hav
  have hlt := (List.getElem?_eq_some_iff.1 hi).1
  obtain ⟨b, off, rfl, hb, hcell⟩ := hcell (fun e => by rw [e] at hlt; simp at hlt)
  have HC := Lib.hid hcell
  obtain ⟨q0, q1, q2⟩ := hcell i _ hi
  have d2 : ((i : Int) < g.chs.length) := by omega
  clear hcell hi hlt
  go_enter Tryz.func85, Tryz.ntmps85
  go_wp2_with fail
  refine (refIn_any ck 1 3 _).mono ?_
  rintro e w1 ⟨rfl, hb1⟩
  rw [show inB 1 3 ck = true from hk]
  have hb0 : Below w.heap.size w w1 := Below.trans (by exact (by repeat (first | (refine Below.setCell ?_ ?_ _; rotate_left; · (first | omega | (simp; done) | (simp; omega) | fail)) | (refine Below.alloc ?_ ?_ _; rotate_left; · (first | omega | (simp; done) | (simp; omega) | fail)) | refine Below.drew ?_ | exact Below.refl _ _ | fail))) (hb1.mono (by simp; try omega))
  have k0 : w1.cell? ⟨w.heap.size + 1, 0, none⟩ = some (.int .i64 ck) := cell_later' hb1 (by simp [World.cell?_alloc_at])
  have k1 : w1.cell? ⟨w.heap.size + 1, 1, none⟩ = some (.int .i64 cp) := cell_later' hb1 (by simp [World.cell?_alloc_at])
  have k2 : w1.cell? ⟨w.heap.size + 1, 2, none⟩ = some (.int .i64 0) := cell_later' hb1 (by simp [World.cell?_alloc_at])
  have g2 : w1.cell? ⟨w.heap.size, 2, none⟩ = some (.int .i64 g.leaves) := cell_later' hb1 (by simp [World.cell?_alloc_at, World.cell?_alloc_past])
  have g3 : w1.cell? ⟨w.heap.size, 3, none⟩ = some (.slice (some ⟨b, off, none⟩) g.chs.length cap) := cell_later' hb1 (by simp [World.cell?_alloc_at, World.cell?_alloc_past])
  clear hb1 q0 q1 q2
  go_wp2_with fail
  go_quiet (fail)
  go_wp2_with fail
  refine (refIn_any cp 1 g.leaves _).mono ?_
  rintro e w2 ⟨rfl, hb2⟩
  rw [hp]
  have hb2' : Below w1.heap.size w1 w2 := Below.trans (by exact bdrewN (Below.refl _ _) _) (hb2.mono (by exact Nat.le_refl _))
  have k0 := cell_later' hb2' k0
  have k1 := cell_later' hb2' k1
  have g2 := cell_later' hb2' g2
  have g3 := cell_later' hb2' g3
  have hb0 := hb0.trans (hb2'.mono hb0.size)
  clear k2 hb2' hb2
  rcases hpv with ⟨rfl, hv⟩ | ⟨j, p, rfl, hj, hv⟩
  · go_wp2_with fail
    go_ret
    exact ⟨by rw [hv]; rfl, hb0⟩
  · obtain ⟨q0, q1, q2⟩ := HC.out j p hj
    have q0 := cell_later' hb0 q0
    have q1 := cell_later' hb0 q1
    have q2 := cell_later' hb0 q2
    have HB := Lib.hid hb0
    have HV := Lib.hid hv
    have hz := hb0.size
    have hz1 := lt_of_cell k1
    have d0 : ((((j + 1 : Nat) : Int)) == 0) = false := by simp; omega
    have d1 : IntKind.i64.wrap (((j + 1 : Nat) : Int) - 1) = j := by rw [IntKind.wrap_i64]; omega
    have d3 : ((j : Int) < g.chs.length) := by omega
    clear hb0 hj HC hv
    by_cases h1 : cp < p.pos
    · have e1 : decide (cp < p.pos) = true := decide_eq_true h1
      have HV' := Lib.hid (HV.out.trans (if_pos (Or.inl h1)))
      clear h1 HV
      go_wp2_with fail
      go_ret
      exact ⟨by rw [HV'.out]; rfl, (by repeat (first | (refine Below.setCell ?_ ?_ _; rotate_left; · (first | omega | (simp; done) | (simp; omega) | fail)) | (refine Below.alloc ?_ ?_ _; rotate_left; · (first | omega | (simp; done) | (simp; omega) | fail)) | refine Below.drew ?_ | exact HB.out | fail))⟩
    · have e1 : decide (cp < p.pos) = false := decide_eq_false h1
      by_cases h2 : cp = p.pos
      · have e2 : (cp == p.pos) = true := by simp [h2]
        have HV' := Lib.hid (HV.out.trans (if_pos (Or.inr ⟨h2, Or.inl (by simpa using h3)⟩)))
        clear h1 h2 HV
        go_wp2_with fail
        go_ret
        exact ⟨by rw [HV'.out]; rfl, (by repeat (first | (refine Below.setCell ?_ ?_ _; rotate_left; · (first | omega | (simp; done) | (simp; omega) | fail)) | (refine Below.alloc ?_ ?_ _; rotate_left; · (first | omega | (simp; done) | (simp; omega) | fail)) | refine Below.drew ?_ | exact HB.out | fail))⟩
      · have e2 : (cp == p.pos) = false := by simp [h2]
        have HV' := Lib.hid (HV.out.trans (if_neg (fun h => h.elim h1 (fun h => h2 h.1))))
        clear h1 h2 HV
        go_wp2_with fail
        go_ret
        exact ⟨by rw [HV'.out]; rfl, (by repeat (first | (refine Below.setCell ?_ ?_ _; rotate_left; · (first | omega | (simp; done) | (simp; omega) | fail)) | (refine Below.alloc ?_ ?_ _; rotate_left; · (first | omega | (simp; done) | (simp; omega) | fail)) | refine Below.drew ?_ | exact HB.out | fail))⟩

/-- THE ERROR OF A CHANGE. -/
theorem refChange_any (g : Gth) (a : Option Addr) (n cap : Nat) (i : Nat) (c : Chg) (prev : Option Chg) (w : World) (hch : ChsAt w.heap.size w (.slice a n cap) g.chs) (hi : g.chs[i]? = some c) (hn : g.chs.length ≤ 100)
    (hpv : (i = 0 ∧ prev = none) ∨ ∃ j p, i = j + 1 ∧ g.chs[j]? = some p ∧ prev = some p) :
    Calls Tryz.prog 85 #[.agg #[.int .i64 g.round, .int .i64 g.letter, .int .i64 g.leaves, .slice a n cap], .int .i64 i] w fun e w' => e = .returned (.int .i64 (refCh g.leaves prev c)) ∧ Below w.heap.size w w' := by
  by_cases hk : inB 1 3 c.kind = false
  · have e : refCh g.leaves prev c = 6 := if_pos hk
    rw [e]
    exact refChange_bad g a n cap i c prev w hch hi hn hk
  have hk' : inB 1 3 c.kind = true := by simpa using hk
  obtain ⟨ck, cp, cm⟩ := c
  dsimp only at hk hk'
  by_cases hr : (inB (if ck = 3 then 0 else 1) g.leaves cp && (if ck = 3 then inB 1 4 cm else decide (cm = 0))) = false
  · have e : refCh g.leaves prev ⟨ck, cp, cm⟩ = 7 := by
      unfold refCh
      rw [if_neg hk, if_pos hr]
    rw [e]
    by_cases h3 : ck = 3
    · subst h3
      exact refChange_three g a n cap i cp cm w hch hi hn (by rw [if_pos rfl, if_pos rfl] at hr; exact hr)
    · exact refChange_two g a n cap i ck cp cm w hch hi hn hk' (by simp [h3]) (by simpa [h3] using hr)
  have hr' : (inB (if ck = 3 then 0 else 1) g.leaves cp && (if ck = 3 then inB 1 4 cm else decide (cm = 0))) = true := by rw [Bool.not_eq_false] at hr; exact hr
  have e : ∀ p, refCh g.leaves (some p) ⟨ck, cp, cm⟩ = if cp < p.pos ∨ (cp = p.pos ∧ (ck ≠ 3 ∨ p.kind = 3)) then 2 else 0 := fun p => by
    unfold refCh
    rw [if_neg hk, if_neg hr]
  have e0 : refCh g.leaves none ⟨ck, cp, cm⟩ = 0 := by
    unfold refCh
    rw [if_neg hk, if_neg hr]
  have hv : (i = 0 ∧ refCh g.leaves prev ⟨ck, cp, cm⟩ = 0) ∨ ∃ j p, i = j + 1 ∧ g.chs[j]? = some p ∧ refCh g.leaves prev ⟨ck, cp, cm⟩ = if cp < p.pos ∨ (cp = p.pos ∧ (ck ≠ 3 ∨ p.kind = 3)) then 2 else 0 := by
    rcases hpv with ⟨h1, rfl⟩ | ⟨j, p, h1, h2, rfl⟩
    · exact Or.inl ⟨h1, e0⟩
    · exact Or.inr ⟨j, p, h1, h2, e p⟩
  by_cases h3 : ck = 3
  · subst h3
    simp only [if_true, Bool.and_eq_true] at hr'
    exact refChange_good3 g a n cap i cp cm w hch hi hn hr'.1 hr'.2 _ hv
  · simp only [h3, if_false, Bool.and_eq_true, decide_eq_true_eq] at hr'
    obtain ⟨hr1, rfl⟩ := hr'
    exact refChange_goodN g a n cap i ck cp w hch hi hn hk' (by simp [h3]) hr1 _ hv
end Go.Proofs.YtimdmgkegdlafaaGreatDoor
