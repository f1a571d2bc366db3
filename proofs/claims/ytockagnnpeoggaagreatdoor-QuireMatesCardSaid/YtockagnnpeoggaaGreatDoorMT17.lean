/- The parts Qj of the proof, joined. It holds without conditions of its own. -/
import Derived.Test.YtockagnnpeoggaaGreatDoorMT16
/- Contracts of package quire: which leaves are signed; how a leaf's name is written, and whether some book has it. -/
namespace Go.Proofs.YtockagnnpeoggaaGreatDoor
set_option linter.unusedSimpArgs false
set_option linter.unusedVariables false
open Go Go.RowKit Go.Sort Go.BigFrame

def signedB (b : Bk) (x : Lf) (g : Gth) : Bool := decide (g.letter < 23) && (x.kind != 2) && decide (x.num ≤ b.signed)

set_option maxRecDepth 100000 in
set_option maxHeartbeats 400000 in
theorem signed_any (b : Bk) (v : Value) (x : Lf) (g : Gth) (w : World) (hb : BookAt w.heap.size w v b) (hg : b.gs[x.gat]? = some g) :
    Calls Tryz.prog 38 #[v, .agg #[.int .i64 x.gat, .int .i64 x.num, .int .i64 x.plus, .int .i64 x.kind]] w fun e w' => e = .returned (.bool (signedB b x g)) ∧ Below w.heap.size w w' := by
  obtain ⟨i, num, plus, kind⟩ := x
  obtain ⟨sv, rfl, a, cap, rfl, hc⟩ := hb
  have hil : i < b.gs.length := (List.getElem?_eq_some_iff.1 hg).1
  obtain ⟨b', off, rfl, hb', hcell⟩ := hc (fun e => by rw [e] at hil; simp at hil)
  obtain ⟨cv, _, k0, k1, _, _⟩ := hcell i g hg
  dsimp only at hg ⊢
  clear hc hcell hg
  have hd : (i : Int) < (b.gs.length : Int) := by omega
  cases hL : decide (g.letter < 23)
  · have HR : Hid (signedB b ⟨i, num, plus, kind⟩ g = false) := by show signedB _ _ _ = _; simp [signedB, hL]
    go_enter Tryz.func38, Tryz.ntmps38
    go_wp2_with fail
    refine (lettered_is g.round g.letter false hL _).mono ?_
    rintro e w1 ⟨rfl, hb⟩
    have hb1 := (((Below.refl w.heap.size w).alloc (Nat.le_refl _) _).alloc (by simp) _).trans (hb.mono (by simp; omega))
    clear hb k0 k1
    go_wp2_with fail
    go_ret
    exact ⟨by rw [HR.out]; rfl, hb1⟩
  · cases hK : (kind != 2)
    · have HR : Hid (signedB b ⟨i, num, plus, kind⟩ g = false) := by show signedB _ _ _ = _; simp only [signedB, hL, hK]; rfl
      go_enter Tryz.func38, Tryz.ntmps38
      go_wp2_with fail
      refine (lettered_is g.round g.letter true hL _).mono ?_
      rintro e w1 ⟨rfl, hb⟩
      have hb1 := (((Below.refl w.heap.size w).alloc (Nat.le_refl _) _).alloc (by simp) _).trans (hb.mono (by simp; omega))
      have p2 : w1.heap[w.heap.size + 1]? = some (.cells #[.int .i64 i, .int .i64 num, .int .i64 plus, .int .i64 kind] 68) := blk_later hb (by repeat (first | exact heap_alloc_at _ _ _ (by (first | omega | (simp; done) | (simp; omega) | (simp at *; omega) | fail)) | assumption | rw [heap_alloc_past _ _ _ (by (first | omega | (simp; done) | (simp; omega) | (simp at *; omega) | fail))] | rw [heap_setCell_past _ _ _ _ (by (first | omega | (simp; done) | (simp; omega) | (simp at *; omega) | fail))] | fail))
      have l0 := blk_cell p2 0; have l1 := blk_cell p2 1; have l2 := blk_cell p2 2; have l3 := blk_cell p2 3
      clear hb k0 k1 p2
      go_wp2_with fail
      go_ret
      exact ⟨by rw [HR.out]; rfl, hb1⟩
    · have HR : Hid (signedB b ⟨i, num, plus, kind⟩ g = decide (num ≤ b.signed)) := by show signedB _ _ _ = _; simp only [signedB, hL, hK]; rfl
      go_enter Tryz.func38, Tryz.ntmps38
      go_wp2_with fail
      refine (lettered_is g.round g.letter true hL _).mono ?_
      rintro e w1 ⟨rfl, hb⟩
      have hb1 := (((Below.refl w.heap.size w).alloc (Nat.le_refl _) _).alloc (by simp) _).trans (hb.mono (by simp; omega))
      have p1 : w1.heap[w.heap.size]? = some (.cells #[.int .i64 b.signed, .slice (some ⟨b', off, none⟩) b.gs.length cap] 64) := blk_later hb (by repeat (first | exact heap_alloc_at _ _ _ (by (first | omega | (simp; done) | (simp; omega) | (simp at *; omega) | fail)) | assumption | rw [heap_alloc_past _ _ _ (by (first | omega | (simp; done) | (simp; omega) | (simp at *; omega) | fail))] | rw [heap_setCell_past _ _ _ _ (by (first | omega | (simp; done) | (simp; omega) | (simp at *; omega) | fail))] | fail))
      have p2 : w1.heap[w.heap.size + 1]? = some (.cells #[.int .i64 i, .int .i64 num, .int .i64 plus, .int .i64 kind] 68) := blk_later hb (by repeat (first | exact heap_alloc_at _ _ _ (by (first | omega | (simp; done) | (simp; omega) | (simp at *; omega) | fail)) | assumption | rw [heap_alloc_past _ _ _ (by (first | omega | (simp; done) | (simp; omega) | (simp at *; omega) | fail))] | rw [heap_setCell_past _ _ _ _ (by (first | omega | (simp; done) | (simp; omega) | (simp at *; omega) | fail))] | fail))
      have l0 := blk_cell p2 0; have l1 := blk_cell p2 1; have l2 := blk_cell p2 2; have l3 := blk_cell p2 3
      have v0 := blk_cell p1 0; have v1 := blk_cell p1 1
      clear hb k0 k1 p2 p1
      go_wp2_with fail
      go_ret
      exact ⟨by rw [HR.out]; rfl, hb1⟩


set_option maxRecDepth 100000 in
set_option maxHeartbeats 400000 in
theorem possible_any (r l n p : Int) (w : World) :
    Calls Tryz.prog 83 #[.agg #[.int .i64 r, .int .i64 l, .int .i64 n, .int .i64 p]] w fun e w' => e = .returned (.bool (possibleB n p)) ∧ Below w.heap.size w w' := by
  unfold possibleB
  by_cases h0 : n = 0
  · subst h0
    by_cases h1 : p = 0
    · subst h1
      go_enter Tryz.func83, Tryz.ntmps83
      go_wp2_with fail
      go_ret
      exact ⟨rfl, (by repeat (first | exact Below.refl _ _ | assumption | (refine Below.alloc ?_ ?_ _; rotate_left; · (first | omega | (simp; done) | (simp; omega) | (simp at *; omega) | fail)) | (refine Below.setCell ?_ ?_ _; rotate_left; · (first | omega | (simp; done) | (simp; omega) | (simp at *; omega) | fail)) | refine Below.drew ?_ | fail))⟩
    · have hpb : (p == 0) = false := by simp [h1]
      have hr : (!(decide ((0 : Int) = 0) && decide (p = 0)) && inB 0 12 0 && inB 0 4 p) = inB 0 4 p := by simp [h1, inB]
      rw [hr]; clear hr h1
      go_enter Tryz.func83, Tryz.ntmps83
      go_wp2_with fail
      refine (within_one _ _ 0 _ _ (by simp [World.cell?_alloc_at])).mono ?_
      rintro e w' ⟨rfl, rfl⟩
      have h12 : inB 0 12 0 = true := by decide
      go_wp2_with fail
      refine (within_one _ _ p _ _ (by simp [World.cell?_alloc_at])).mono ?_
      rintro e w' ⟨rfl, rfl⟩
      go_wp2_with fail
      go_ret
      exact ⟨rfl, (by repeat (first | exact Below.refl _ _ | assumption | (refine Below.alloc ?_ ?_ _; rotate_left; · (first | omega | (simp; done) | (simp; omega) | (simp at *; omega) | fail)) | (refine Below.setCell ?_ ?_ _; rotate_left; · (first | omega | (simp; done) | (simp; omega) | (simp at *; omega) | fail)) | refine Below.drew ?_ | fail))⟩
  · have hnb : (n == 0) = false := by simp [h0]
    have hr : (!(decide (n = 0) && decide (p = 0)) && inB 0 12 n && inB 0 4 p) = (inB 0 12 n && inB 0 4 p) := by simp [h0]
    rw [hr]; clear hr h0
    cases h12 : inB 0 12 n
    · go_enter Tryz.func83, Tryz.ntmps83
      go_wp2_with fail
      refine (within_one _ _ n _ _ (by simp [World.cell?_alloc_at])).mono ?_
      rintro e w' ⟨rfl, rfl⟩
      rw [h12]
      go_wp2_with fail
      go_ret
      exact ⟨rfl, (by repeat (first | exact Below.refl _ _ | assumption | (refine Below.alloc ?_ ?_ _; rotate_left; · (first | omega | (simp; done) | (simp; omega) | (simp at *; omega) | fail)) | (refine Below.setCell ?_ ?_ _; rotate_left; · (first | omega | (simp; done) | (simp; omega) | (simp at *; omega) | fail)) | refine Below.drew ?_ | fail))⟩
    · go_enter Tryz.func83, Tryz.ntmps83
      go_wp2_with fail
      refine (within_one _ _ n _ _ (by simp [World.cell?_alloc_at])).mono ?_
      rintro e w' ⟨rfl, rfl⟩
      rw [h12]
      go_wp2_with fail
      refine (within_one _ _ p _ _ (by simp [World.cell?_alloc_at])).mono ?_
      rintro e w' ⟨rfl, rfl⟩
      go_wp2_with fail
      go_ret
      exact ⟨rfl, (by repeat (first | exact Below.refl _ _ | assumption | (refine Below.alloc ?_ ?_ _; rotate_left; · (first | omega | (simp; done) | (simp; omega) | (simp at *; omega) | fail)) | (refine Below.setCell ?_ ?_ _; rotate_left; · (first | omega | (simp; done) | (simp; omega) | (simp at *; omega) | fail)) | refine Below.drew ?_ | fail))⟩

set_option maxRecDepth 100000 in
set_option maxHeartbeats 400000 in
theorem nameText_any (r l n p : Int) (hs : sigB r l = true) (hn : 0 ≤ n ∧ n < 100) (hp : 0 ≤ p ∧ p < 100) (w : World) :
    Calls Tryz.prog 50 #[.agg #[.int .i64 r, .int .i64 l, .int .i64 n, .int .i64 p]] w fun e w' => e = .returned (S (nameT r l n p)) ∧ Below w.heap.size w w' := by
  obtain ⟨n0, n1⟩ := hn
  obtain ⟨p0, p1⟩ := hp
  have z1 := sigT_len r l
  have z2 := dec_len n
  have z3 := dec_len p
  have zs : (⟨(sigT r l).toArray⟩ : ByteArray).size ≤ 5 := by rw [size_bytes]; exact z1
  have zn : (⟨(dec n).toArray⟩ : ByteArray).size ≤ 2 := by rw [size_bytes]; exact z2
  have zp : (⟨(dec p).toArray⟩ : ByteArray).size ≤ 2 := by rw [size_bytes]; exact z3
  have HS := Lib.hid hs
  clear hs z1 z2 z3
  obtain ⟨w1, hw1⟩ : ∃ w1, w1 = w.alloc (Obj.cells #[.int .i64 r, .int .i64 l, .int .i64 n, .int .i64 p] 81) := ⟨_, rfl⟩
  have hb1 : Below w.heap.size w w1 := by rw [hw1]; exact (by repeat (first | exact Below.refl _ _ | assumption | (refine Below.alloc ?_ ?_ _; rotate_left; · (first | omega | (simp; done) | (simp; omega) | (simp at *; omega) | fail)) | (refine Below.setCell ?_ ?_ _; rotate_left; · (first | omega | (simp; done) | (simp; omega) | (simp at *; omega) | fail)) | refine Below.drew ?_ | fail))
  have q1 : w1.heap[w.heap.size]? = some (.cells #[.int .i64 r, .int .i64 l, .int .i64 n, .int .i64 p] 81) := by rw [hw1]; exact (by repeat (first | exact heap_alloc_at _ _ _ (by (first | omega | (simp; done) | (simp; omega) | (simp at *; omega) | fail)) | assumption | rw [heap_alloc_past _ _ _ (by (first | omega | (simp; done) | (simp; omega) | (simp at *; omega) | fail))] | rw [heap_setCell_past _ _ _ _ (by (first | omega | (simp; done) | (simp; omega) | (simp at *; omega) | fail))] | fail))
  go_enter Tryz.func50, Tryz.ntmps50
  go_wp2_with fail
  rw [← hw1]
  clear hw1
  have c0 := blk_cell q1 0; have c1 := blk_cell q1 1; have c2 := blk_cell q1 2; have c3 := blk_cell q1 3
  have HQ := Lib.hid q1
  clear q1
  have r0 := cell_regrown c0
  have r1 := cell_regrown c1
  have r2 := cell_regrown c2
  have cS : ∀ d os, Calls Tryz.prog 74 #[.agg #[.int .i64 r, .int .i64 l]] (grow (redrawn w1 d) os) (fun e w'' => e = .returned (S (sigT r l)) ∧ ∃ p : Regrown, w'' = grow (redrawn w1 p.d) p.os) := fun d os => Calls.regrown_of (sigText_any r l HS.out _)
  have cI : ∀ d os, Calls Tryz.prog 77 #[.int .i64 n] (grow (redrawn w1 d) os) (fun e w'' => e = .returned (S (dec n)) ∧ ∃ p : Regrown, w'' = grow (redrawn w1 p.d) p.os) := fun d os => Calls.regrown_of ((Itoa_any n n0 n1 _).mono fun e w' ⟨h1, h2⟩ => ⟨h1, h2 ▸ Below.refl _ _⟩)
  refine wp_region_quiet_below (by kernel_rfl) (by kernel_rfl) ?_; (repeat (go_big_quiet_step (first | exact cS _ _ | exact cI _ _))); refine wpQuiet_nil ?_; rintro w3 ⟨⟨d3, os3⟩, rfl⟩
  have hb13 := below_regrown w1 d3 os3
  have HQ := Lib.hid (blk_later hb13 HQ.out)
  have hb3 := hb1.trans (hb13.mono hb1.size)
  clear cS cI r0 r1 r2 c0 c1 c2 c3 hb13 hb1
  revert HQ hb3
  generalize grow (redrawn w1 d3) os3 = w3
  intro HQ hb3
  rw [cat_bytes]
  have zc : (⟨(sigT r l ++ dec n).toArray⟩ : ByteArray).size ≤ 7 := by rw [size_bytes] at *; simp; omega
  have c0 := blk_cell HQ.out 0; have c1 := blk_cell HQ.out 1; have c2 := blk_cell HQ.out 2; have c3 := blk_cell HQ.out 3
  by_cases hp : 0 < p
  · have zq : (⟨#[43]⟩ : ByteArray).size ≤ 1 := by decide
    have zt : ((⟨#[43]⟩ : ByteArray) ++ ⟨(dec p).toArray⟩).size ≤ 3 := by rw [ByteArray.size_append]; omega
    have HR : Hid (nameT r l n p = sigT r l ++ dec n ++ ([43] ++ dec p)) := by show nameT _ _ _ _ = _; simp [nameT, hp]
    go_wp2_with fail
    refine (Itoa_any p p0 p1 _).mono ?_
    rintro e w4 ⟨rfl, rfl⟩
    go_wp2_with fail
    go_ret
    exact ⟨ret_S (by rw [HR.out, show (⟨#[43]⟩ : ByteArray) = ⟨[43].toArray⟩ from rfl, cat_bytes, cat_bytes]), hb3⟩
  · have HR : Hid (nameT r l n p = sigT r l ++ dec n) := by show nameT _ _ _ _ = _; simp [nameT, hp]
    go_wp2_with fail
    go_ret
    exact ⟨ret_S (by rw [HR.out]), hb3⟩

end Go.Proofs.YtockagnnpeoggaaGreatDoor
