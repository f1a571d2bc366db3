/- The parts Qs of the proof, joined. It holds without conditions of its own. -/
import Derived.Test.YtimdmgkegdlafaaGreatDoorCH15
/- Mate. -/
namespace Go.Proofs.YtimdmgkegdlafaaGreatDoor
set_option linter.unusedSimpArgs false
set_option linter.unusedVariables false
open Go Go.RowKit Go.Sort Go.BigFrame Go.Shelf
attribute [local go_sem] Oper.semAt_some putAll

/-- The leaf that lies where the mate of a leaf would: its number is turned. -/
def turnedL (b : Bk) (x : Lf) : Lf := match b.gs[x.gat]? with
  | some g => ⟨x.gat, g.leaves + 1 - x.num, x.plus, x.kind⟩
  | none => x
/-- The number of the mate of the leaf with a number, if it has one. -/
def mateF (b : Bk) (n : Int) : Option Nat := match getL (lvs b) n with
  | some x => if x.kind = 0 ∧ turnedL b x ≠ x then (lvs b).findIdx? (fun y => decide (y = turnedL b x)) else none
  | none => none
def mateR : Option Nat → Value
  | some m => .tuple #[.int .i64 m, .int .i64 0]
  | none => .tuple #[.int .i64 0, .int .i64 4]

set_option maxRecDepth 100000 in
set_option maxHeartbeats 1000000 in
theorem Mate_bad (b : Bk) (v : Value) (n : Int) (w : World) (hb : BookAt w.heap.size w v b) (he : errF b ≠ 0) :
    Calls Tryz.prog 20 #[v, .int .i64 n] w fun e w' => e = .returned (.tuple #[.int .i64 0, .int .i64 (errF b)]) ∧ Below w.heap.size w w' := by
  have hb' := hb
  obtain ⟨sv, rfl, hgs⟩ := hb
  have hgs' := hgs
  obtain ⟨a, cap, rfl, -⟩ := hgs'
  have hop : openV b (.agg #[.int .i64 b.signed, .slice a b.gs.length cap]) = .tuple #[.agg #[.int .i64 0, .slice none 0 0], .int .i64 (errF b)] := by simp [openV, he]
  have hne : (errF b != 0) = true := by simp [he]
  go_enter Tryz.func20, Tryz.ntmps20
  go_wp2_with fail
  refine (open_any b _ _ (hb'.below (B := w.heap.size) (by exact (by repeat (first | (refine Below.setCell ?_ ?_ _; rotate_left; · (first | omega | (simp; done) | (simp; omega) | fail)) | (refine Below.alloc ?_ ?_ _; rotate_left; · (first | omega | (simp; done) | (simp; omega) | fail)) | refine Below.drew ?_ | exact Below.refl _ _ | fail))) (Nat.le_refl _) |>.mono (by simp; try omega))).mono ?_
  rintro e w1 ⟨rfl, hb1⟩
  rw [hop]
  have hb0 : Below w.heap.size w w1 := Below.trans (by exact (by repeat (first | (refine Below.setCell ?_ ?_ _; rotate_left; · (first | omega | (simp; done) | (simp; omega) | fail)) | (refine Below.alloc ?_ ?_ _; rotate_left; · (first | omega | (simp; done) | (simp; omega) | fail)) | refine Below.drew ?_ | exact Below.refl _ _ | fail))) (hb1.mono (by simp; try omega))
  have hz := hb0.size
  have h4 : w1.heap[w.heap.size + 1]? = some (.cells #[.int .i64 0] 3) := blk_later hb1 (by exact (by repeat (first | exact heap_alloc_at _ _ _ (by (first | omega | (simp; done) | (simp; omega) | fail)) | (refine (heap_alloc_past _ _ _ ?_).trans ?_; · (first | omega | (simp; done) | (simp; omega) | fail)) | fail)))
  have h5 : w1.heap[w.heap.size + 1 + 1]? = some (.cells #[.int .i64 0] 25) := blk_later hb1 (by exact (by repeat (first | exact heap_alloc_at _ _ _ (by (first | omega | (simp; done) | (simp; omega) | fail)) | (refine (heap_alloc_past _ _ _ ?_).trans ?_; · (first | omega | (simp; done) | (simp; omega) | fail)) | fail)))
  have r0 := blk_cell h4 0
  have r1 := blk_cell h5 0
  have f0 := blk_free h4 0
  have f1 := blk_free h5 0
  have z4 := blk_lt h4
  have z5 := blk_lt h5
  have HB0 := Lib.hid hb0
  have H4 := Lib.hid h4
  have H5 := Lib.hid h5
  clear hb1 hb0 h4 h5 hb'
  go_wp2_with fail
  obtain ⟨W, hW⟩ : ∃ W, W = ((w1.setCell ⟨w.heap.size + 1, 0, none⟩ (.int .i64 0)).setCell ⟨w.heap.size + 1 + 1, 0, none⟩ (.int .i64 (errF b))).alloc (.cells #[.int .i64 0, .slice none 0 0] 57) := ⟨_, rfl⟩
  rw [← hW]
  have p4 : W.heap[w.heap.size + 1]? = some (.cells #[.int .i64 0] 3) := by rw [hW]; exact (by repeat (first | exact blk_set1 H4.out _ | (refine (heap_setCell_past _ _ _ _ ?_).trans ?_; · (first | omega | (simp; done) | (simp; omega) | fail)) | (refine (heap_alloc_past _ _ _ ?_).trans ?_; · (first | omega | (simp; done) | (simp; omega) | fail)) | exact H4.out | fail))
  have p5 : W.heap[w.heap.size + 1 + 1]? = some (.cells #[.int .i64 (errF b)] 25) := by
    rw [hW]
    refine (heap_alloc_past _ _ _ (by simp; omega)).trans ?_
    exact blk_set1 (a := .int .i64 0) ((heap_setCell_past _ _ _ _ (by simp)).trans H5.out) _
  have hbW : Below w.heap.size w W := by rw [hW]; exact (by repeat (first | (refine Below.setCell ?_ ?_ _; rotate_left; · (first | omega | (simp; done) | (simp; omega) | fail)) | (refine Below.alloc ?_ ?_ _; rotate_left; · (first | omega | (simp; done) | (simp; omega) | fail)) | refine Below.drew ?_ | exact HB0.out | fail))
  have e4 := blk_cell p4 0
  have e5 := blk_cell p5 0
  refine bodyPost_ret (v := .tuple #[.int .i64 0, .int .i64 (errF b)]) ?_ rfl ⟨rfl, hbW⟩
  simp [results, Tryz.results20, go_sem, e4, e5]

theorem lf_eq_iff {y : Lf} {i : Nat} {a b c : Int} : y = ⟨i, a, b, c⟩ ↔ (y.gat : Int) = i ∧ y.num = a ∧ y.plus = b ∧ y.kind = c := by
  obtain ⟨i', a', b', c'⟩ := y
  simp only [Lf.mk.injEq]
  exact ⟨fun ⟨h1, h2, h3, h4⟩ => ⟨by omega, h2, h3, h4⟩, fun ⟨h1, h2, h3, h4⟩ => ⟨by omega, h2, h3, h4⟩⟩
theorem zip_find {xs : List Lf} {pre rest : List (Lf × Nat)} {y : Lf × Nat} {p : Lf → Bool} (h : xs.zipIdx = pre ++ y :: rest) (h1 : ∀ z ∈ pre, p z.1 = false) (h2 : p y.1 = true) : xs.findIdx? p = some y.2 := by
  have hx : xs = pre.map (·.1) ++ y.1 :: rest.map (·.1) := by have := congrArg (List.map (·.1)) h; simpa using this
  have h3 : (pre.map (·.1)).findIdx? p = none := List.findIdx?_eq_none_iff.2 fun z hz => by
    obtain ⟨u, hu, rfl⟩ := List.mem_map.1 hz
    exact h1 u hu
  rw [(zip_at h).1]
  conv => lhs; rw [hx]
  rw [List.findIdx?_append, h3]
  simp [List.findIdx?_cons, h2]
theorem zip_none {xs : List Lf} {p : Lf → Bool} (h : ∀ y ∈ xs.zipIdx, p y.1 = false) : xs.findIdx? p = none :=
  List.findIdx?_eq_none_iff.2 fun z hz => by
    obtain ⟨k, hk, rfl⟩ := List.getElem_of_mem hz
    exact h (xs[k], k) (List.mem_zipIdx_iff_getElem?.2 (by simp))
theorem set45 {W : World} {k4 k5 n : Nat} {a b : Value} {t s : TypeId} (q4 : W.heap[k4]? = some (.cells #[a] t)) (q5 : W.heap[k5]? = some (.cells #[b] s)) (hne : k4 ≠ k5) (h4 : n ≤ k4) (h5 : n ≤ k5) (hn : n ≤ W.heap.size) (u v : Value) :
    ((W.setCell ⟨k4, 0, none⟩ u).setCell ⟨k5, 0, none⟩ v).cell? ⟨k4, 0, none⟩ = some u ∧ ((W.setCell ⟨k4, 0, none⟩ u).setCell ⟨k5, 0, none⟩ v).cell? ⟨k5, 0, none⟩ = some v ∧ Below n W ((W.setCell ⟨k4, 0, none⟩ u).setCell ⟨k5, 0, none⟩ v) := by
  have r4 : ((W.setCell ⟨k4, 0, none⟩ u).setCell ⟨k5, 0, none⟩ v).heap[k4]? = some (.cells #[u] t) := (heap_setCell_past _ ⟨k5, 0, none⟩ _ k4 hne).trans (blk_set1 q4 u)
  have r5 : ((W.setCell ⟨k4, 0, none⟩ u).setCell ⟨k5, 0, none⟩ v).heap[k5]? = some (.cells #[v] s) := blk_set1 ((heap_setCell_past _ ⟨k4, 0, none⟩ _ k5 (Ne.symm hne)).trans q5) v
  exact ⟨blk_cell r4 0, blk_cell r5 0, ((Below.refl n W).setCell (p := ⟨k4, 0, none⟩) h4 u).setCell (p := ⟨k5, 0, none⟩) h5 v⟩
theorem alloc_cell {W : World} {b i : Nat} {v : Value} (h : W.cell? ⟨b, i, none⟩ = some v) (o : Obj) : (W.alloc o).cell? ⟨b, i, none⟩ = some v :=
  (World.cell?_of_block (heap_alloc_past W o b (lt_of_cell h))).trans h
theorem put_cell {W : World} {b i D : Nat} {v : Value} {o : Obj} (h : W.cell? ⟨b, i, none⟩ = some v) (hne : b ≠ D) : (W.putObj D o).cell? ⟨b, i, none⟩ = some v := (cell_put hne).trans h
theorem mate_results {W : World} (tmps : Array Value) {k4 k5 : Nat} {u v : Value} (h4 : tmps.getD 4 undef = .pointer (some ⟨k4, 0, none⟩)) (h5 : tmps.getD 5 undef = .pointer (some ⟨k5, 0, none⟩)) (c4 : W.cell? ⟨k4, 0, none⟩ = some u) (c5 : W.cell? ⟨k5, 0, none⟩ = some v) :
    (results Tryz.f20 tmps).run Tryz.prog W = .ok (.tuple #[u, v]) W := by
  simp only [Array.getD_eq_getD_getElem?] at h4 h5
  simp [results, Tryz.results20, go_sem, h4, h5, c4, c5]

set_option maxRecDepth 100000 in
set_option maxHeartbeats 1000000 in
theorem Mate_good (b : Bk) (v : Value) (n : Int) (w : World) (hb : BookAt w.heap.size w v b) (he : errF b = 0) :
    Calls Tryz.prog 20 #[v, .int .i64 n] w fun e w' => e = .returned (mateR (mateF b n)) ∧ Below w.heap.size w w' := by
  have hb' := hb
  obtain ⟨sv, rfl, hgs⟩ := hb
  have hgs' := hgs
  obtain ⟨a, cap, rfl, -⟩ := hgs'
  have hok := errF_zero he
  have hop : openV b (.agg #[.int .i64 b.signed, .slice a b.gs.length cap]) = .tuple #[.agg #[.int .i64 b.signed, .slice a b.gs.length cap], .int .i64 0] := by simp [openV, he]
  have HG := Lib.hid hgs
  have HB := Lib.hid hb'
  clear hgs hb'
  refine (callsIn_wide (n := 10)).1 ?_
  refine callsIn_of_wp_marks Tryz.func20 rfl trivial ?_ rfl
  simp only [Tryz.ntmps20, List.size_toArray, List.length_cons, List.length_nil, Nat.reduceAdd, Nat.reduceSub, Array.replicate_succ, Array.replicate_zero, List.push_toArray, List.append_toArray, List.nil_append, List.cons_append]
  gi_wp2_with fail
  refine ⟨trivial, ?_⟩
  refine (callsIn_wide.2 (open_any b _ _ (HB.out.below (B := w.heap.size) (by exact (by repeat (first | (refine Below.setCell ?_ ?_ _; rotate_left; · (first | omega | (simp; done) | (simp; omega) | fail)) | (refine Below.alloc ?_ ?_ _; rotate_left; · (first | omega | (simp; done) | (simp; omega) | fail)) | refine Below.drew ?_ | exact Below.refl _ _ | fail))) (Nat.le_refl _) |>.mono (by simp; try omega)))).mono ?_
  rintro e w1 ⟨rfl, hb1⟩
  rw [hop]
  have hh1 : Held w [(w.heap.size + 1, .cells #[.int .i64 0] 3), (w.heap.size + 1 + 1, .cells #[.int .i64 0] 25)] w1 := by
    refine Held.below' ⟨by exact (by repeat (first | (refine Below.setCell ?_ ?_ _; rotate_left; · (first | omega | (simp; done) | (simp; omega) | fail)) | (refine Below.alloc ?_ ?_ _; rotate_left; · (first | omega | (simp; done) | (simp; omega) | fail)) | refine Below.drew ?_ | exact Below.refl _ _ | fail)), fun p hp => ?_⟩ hb1
    (simp only [List.mem_cons, List.not_mem_nil, or_false] at hp)
    rcases hp with rfl | rfl <;> exact (by repeat (first | exact heap_alloc_at _ _ _ (by (first | omega | (simp; done) | (simp; omega) | fail)) | (refine (heap_alloc_past _ _ _ ?_).trans ?_; · (first | omega | (simp; done) | (simp; omega) | fail)) | fail))
  have HH1 := Lib.hid hh1
  have hz := hh1.below.size
  have hz1 := blk_lt (hh1.get 1 rfl)
  clear hb1 hop hh1
  gi_wp2_with fail
  refine ⟨trivial, ?_⟩
  refine (callsIn_wide.2 (leaf_any b _ n _ (HB.out.below (B := w.heap.size) (by exact (by repeat (first | (refine Below.setCell ?_ ?_ _; rotate_left; · (first | omega | (simp; done) | (simp; omega) | fail)) | (refine Below.alloc ?_ ?_ _; rotate_left; · (first | omega | (simp; done) | (simp; omega) | fail)) | refine Below.drew ?_ | exact HH1.out.below | fail))) (Nat.le_refl _) |>.mono (by simp; try omega)) he)).mono ?_
  rintro e w2 ⟨rfl, hb2⟩
  have hh2 : Held w [(w.heap.size + 1, .cells #[.int .i64 0] 3), (w.heap.size + 1 + 1, .cells #[.int .i64 0] 25), (w1.heap.size, .cells #[.int .i64 b.signed, .slice a b.gs.length cap] 57)] w2 := by
    refine Held.below' ⟨by exact (by repeat (first | (refine Below.setCell ?_ ?_ _; rotate_left; · (first | omega | (simp; done) | (simp; omega) | fail)) | (refine Below.alloc ?_ ?_ _; rotate_left; · (first | omega | (simp; done) | (simp; omega) | fail)) | refine Below.drew ?_ | exact HH1.out.below | fail)), fun p hp => ?_⟩ hb2
    (simp only [List.mem_cons, List.not_mem_nil, or_false] at hp)
    rcases hp with rfl | rfl | rfl
    · exact (by repeat (first | (refine (heap_setCell_past _ _ _ _ ?_).trans ?_; · (first | omega | (simp; done) | (simp; omega) | fail)) | (refine (heap_alloc_past _ _ _ ?_).trans ?_; · (first | omega | (simp; done) | (simp; omega) | fail)) | exact HH1.out.get 0 rfl | fail))
    · exact (by repeat (first | (refine (heap_setCell_past _ _ _ _ ?_).trans ?_; · (first | omega | (simp; done) | (simp; omega) | fail)) | (refine (heap_alloc_past _ _ _ ?_).trans ?_; · (first | omega | (simp; done) | (simp; omega) | fail)) | exact HH1.out.get 1 rfl | fail))
    · exact (by repeat (first | exact heap_alloc_at _ _ _ (by (first | omega | (simp; done) | (simp; omega) | fail)) | (refine (heap_alloc_past _ _ _ ?_).trans ?_; · (first | omega | (simp; done) | (simp; omega) | fail)) | fail))
  have HH2 := Lib.hid hh2
  have hz2 := blk_lt (hh2.get 2 rfl)
  clear hb2 hh2 HH1
  obtain ⟨V, hV⟩ : ∃ V, V = w1.heap.size := ⟨_, rfl⟩
  rw [← hV] at HH2 hz1 hz2 ⊢
  clear hV hz
  have q4 := HH2.out.get 0 rfl
  have q5 := HH2.out.get 1 rfl
  have q6 := HH2.out.get 2 rfl
  have c4 := blk_cell q4 0
  have c5 := blk_cell q5 0
  have f4 := blk_free q4 0
  have f5 := blk_free q5 0
  have v0 := blk_cell q6 0; have v1 := blk_cell q6 1
  have s4 := blk_lt q4
  have s5 := blk_lt q5
  have s6 := blk_lt q6
  clear q4 q5 q6
  cases hx : getL (lvs b) n with
  | none =>
    have HX : Hid (mateF b n = none) := by show _ = _; simp [mateF, hx]
    clear hx
    simp only [leafR]
    gi_wp2_with fail
    obtain ⟨e4, e5, eb⟩ := set45 (n := w.heap.size) (HH2.out.get 0 rfl) (HH2.out.get 1 rfl) (by simp) (by omega) (by omega) (by omega) (.int .i64 0) (.int .i64 4)
    refine ⟨.tuple #[.int .i64 0, .int .i64 4], mate_results _ rfl rfl (alloc_cell e4 _) (alloc_cell e5 _), by rw [HX.out]; rfl, HH2.out.below.trans (eb.alloc (by simp; omega) _)⟩
  | some x =>
    obtain ⟨g, hg, hgk, n0, n1, p0, p1⟩ := lf_bounds hok (getL_mem hx)
    have hlv := hgk.leaves
    simp only [leafR, lfV]
    by_cases hk : x.kind = 0
    · rw [hk]
      gi_wp2_with fail
      obtain ⟨T, hT⟩ : ∃ T, T = w2.heap.size := ⟨_, rfl⟩
      obtain ⟨w3, hw3⟩ : ∃ w3, w3 = (w2.alloc (.cells #[.int .i64 x.gat, .int .i64 x.num, .int .i64 x.plus, .int .i64 0] 89)).alloc (.cells #[.int .i64 x.gat, .int .i64 x.num, .int .i64 x.plus, .int .i64 0] 89) := ⟨_, rfl⟩
      have hh3 : Held w [(w.heap.size + 1, .cells #[.int .i64 0] 3), (w.heap.size + 1 + 1, .cells #[.int .i64 0] 25), (V, .cells #[.int .i64 b.signed, .slice a b.gs.length cap] 57),
          (T, .cells #[.int .i64 x.gat, .int .i64 x.num, .int .i64 x.plus, .int .i64 0] 89), (T + 1, .cells #[.int .i64 x.gat, .int .i64 x.num, .int .i64 x.plus, .int .i64 0] 89)] w3 := by
        refine ⟨by rw [hw3]; exact (by repeat (first | (refine Below.setCell ?_ ?_ _; rotate_left; · (first | omega | (simp; done) | (simp; omega) | fail)) | (refine Below.alloc ?_ ?_ _; rotate_left; · (first | omega | (simp; done) | (simp; omega) | fail)) | refine Below.drew ?_ | exact HH2.out.below | fail)), fun p hp => ?_⟩
        rw [hw3, hT] at *
        (simp only [List.mem_cons, List.not_mem_nil, or_false] at hp)
        rcases hp with rfl | rfl | rfl | rfl | rfl
        · exact (by repeat (first | (refine (heap_setCell_past _ _ _ _ ?_).trans ?_; · (first | omega | (simp; done) | (simp; omega) | fail)) | (refine (heap_alloc_past _ _ _ ?_).trans ?_; · (first | omega | (simp; done) | (simp; omega) | fail)) | exact HH2.out.get 0 rfl | fail))
        · exact (by repeat (first | (refine (heap_setCell_past _ _ _ _ ?_).trans ?_; · (first | omega | (simp; done) | (simp; omega) | fail)) | (refine (heap_alloc_past _ _ _ ?_).trans ?_; · (first | omega | (simp; done) | (simp; omega) | fail)) | exact HH2.out.get 1 rfl | fail))
        · exact (by repeat (first | (refine (heap_setCell_past _ _ _ _ ?_).trans ?_; · (first | omega | (simp; done) | (simp; omega) | fail)) | (refine (heap_alloc_past _ _ _ ?_).trans ?_; · (first | omega | (simp; done) | (simp; omega) | fail)) | exact HH2.out.get 2 rfl | fail))
        · exact (by repeat (first | exact heap_alloc_at _ _ _ (by (first | omega | (simp; done) | (simp; omega) | fail)) | (refine (heap_alloc_past _ _ _ ?_).trans ?_; · (first | omega | (simp; done) | (simp; omega) | fail)) | fail))
        · exact (by repeat (first | exact heap_alloc_at _ _ _ (by (first | omega | (simp; done) | (simp; omega) | fail)) | (refine (heap_alloc_past _ _ _ ?_).trans ?_; · (first | omega | (simp; done) | (simp; omega) | fail)) | fail))
      rw [← hw3, ← hT]
      have hVT : V < T := by omega
      have HH3 := Lib.hid hh3
      clear hh3 hw3 hT s4 s5 s6 c4 c5 f4 f5 v0 v1 HH2 hz2
      obtain ⟨bb, off, rfl, hbb, ca, ccap, -, -, -, k2, -⟩ := (HG.out.below HH3.out.below (Nat.le_refl _)).get hg
      have q6 := HH3.out.get 2 rfl
      have q7 := HH3.out.get 3 rfl
      have v0 := blk_cell q6 0; have v1 := blk_cell q6 1
      have d0 := blk_cell q7 0; have d1 := blk_cell q7 1; have d2 := blk_cell q7 2; have d3 := blk_cell q7 3
      have hil := (List.getElem?_eq_some_iff.1 hg).1
      have hil' : (x.gat : Int) < (b.gs.length : Int) := by omega
      clear q6 q7
      refine wpIn_wide.2 ?_
      go_still_tail 13, (by kernel_rfl)
      change wpList _ _ _ _ _ w3.drew
      have hh4 : Held w [(w.heap.size + 1, .cells #[.int .i64 0] 3), (w.heap.size + 1 + 1, .cells #[.int .i64 0] 25), (V, .cells #[.int .i64 b.signed, .slice (some ⟨bb, off, none⟩) b.gs.length cap] 57),
          (T, .cells #[.int .i64 x.gat, .int .i64 x.num, .int .i64 x.plus, .int .i64 0] 89), (T + 1, .cells #[.int .i64 x.gat, .int .i64 x.num, .int .i64 x.plus, .int .i64 0] 89)] w3.drew := ⟨HH3.out.below.drew, HH3.out.at_⟩
      have HH4 := Lib.hid hh4
      clear hh4 HH3 k2 v0 v1 d0 d1 d2 d3
      revert HH4
      generalize w3.drew = w4
      intro HH4
      have q8 := HH4.out.get 4 rfl
      have m0 := blk_cell q8 0; have m1 := blk_cell q8 1; have m2 := blk_cell q8 2; have m3 := blk_cell q8 3
      have f0 := blk_free q8 0; have f1 := blk_free q8 1; have f2 := blk_free q8 2; have f3 := blk_free q8 3
      clear q8
      go_wp2_with fail
      obtain ⟨tn, htn⟩ : ∃ tn, tn = g.leaves + 1 - x.num := ⟨_, rfl⟩
      obtain ⟨w5, hw5⟩ : ∃ w5, w5 = w4.setCell ⟨T + 1, 1, none⟩ (.int .i64 (g.leaves + 1 - x.num)) := ⟨_, rfl⟩
      have hh5 : Held w [(w.heap.size + 1, .cells #[.int .i64 0] 3), (w.heap.size + 1 + 1, .cells #[.int .i64 0] 25), (V, .cells #[.int .i64 b.signed, .slice (some ⟨bb, off, none⟩) b.gs.length cap] 57),
          (T, .cells #[.int .i64 x.gat, .int .i64 x.num, .int .i64 x.plus, .int .i64 0] 89), (T + 1, .cells #[.int .i64 x.gat, .int .i64 tn, .int .i64 x.plus, .int .i64 0] 89)] w5 := by
        refine ⟨by rw [hw5]; exact (by repeat (first | (refine Below.setCell ?_ ?_ _; rotate_left; · (first | omega | (simp; done) | (simp; omega) | fail)) | (refine Below.alloc ?_ ?_ _; rotate_left; · (first | omega | (simp; done) | (simp; omega) | fail)) | refine Below.drew ?_ | exact HH4.out.below | fail)), fun p hp => ?_⟩
        rw [hw5]
        (simp only [List.mem_cons, List.not_mem_nil, or_false] at hp)
        rcases hp with rfl | rfl | rfl | rfl | rfl
        · exact (by repeat (first | (refine (heap_setCell_past _ _ _ _ ?_).trans ?_; · (first | omega | (simp; done) | (simp; omega) | fail)) | (refine (heap_alloc_past _ _ _ ?_).trans ?_; · (first | omega | (simp; done) | (simp; omega) | fail)) | exact HH4.out.get 0 rfl | fail))
        · exact (by repeat (first | (refine (heap_setCell_past _ _ _ _ ?_).trans ?_; · (first | omega | (simp; done) | (simp; omega) | fail)) | (refine (heap_alloc_past _ _ _ ?_).trans ?_; · (first | omega | (simp; done) | (simp; omega) | fail)) | exact HH4.out.get 1 rfl | fail))
        · exact (by repeat (first | (refine (heap_setCell_past _ _ _ _ ?_).trans ?_; · (first | omega | (simp; done) | (simp; omega) | fail)) | (refine (heap_alloc_past _ _ _ ?_).trans ?_; · (first | omega | (simp; done) | (simp; omega) | fail)) | exact HH4.out.get 2 rfl | fail))
        · exact (by repeat (first | (refine (heap_setCell_past _ _ _ _ ?_).trans ?_; · (first | omega | (simp; done) | (simp; omega) | fail)) | (refine (heap_alloc_past _ _ _ ?_).trans ?_; · (first | omega | (simp; done) | (simp; omega) | fail)) | exact HH4.out.get 3 rfl | fail))
        · have := blk_set (HH4.out.get 4 rfl) 1 (.int .i64 (g.leaves + 1 - x.num))
          rw [htn]
          simpa using this
      have HH5 := Lib.hid hh5
      have HTL : Hid (turnedL b x = ⟨x.gat, tn, x.plus, 0⟩) := by show _ = _; simp [turnedL, hg, hk, htn]
      rw [← hw5]
      clear hh5 hw5 HH4 m0 m1 m2 m3 f0 f1 f2 f3 htn
      have q6 := HH5.out.get 2 rfl
      have q7 := HH5.out.get 3 rfl
      have q8 := HH5.out.get 4 rfl
      have v0 := blk_cell q6 0; have v1 := blk_cell q6 1
      have d0 := blk_cell q7 0; have d1 := blk_cell q7 1; have d2 := blk_cell q7 2; have d3 := blk_cell q7 3
      have m0 := blk_cell q8 0; have m1 := blk_cell q8 1; have m2 := blk_cell q8 2; have m3 := blk_cell q8 3
      have q4 := HH5.out.get 0 rfl
      have q5 := HH5.out.get 1 rfl
      have c4 := blk_cell q4 0
      have c5 := blk_cell q5 0
      have f4 := blk_free q4 0
      have f5 := blk_free q5 0
      clear q4 q5 q6 q7 q8
      by_cases ht : tn = x.num
      · have HX : Hid (mateF b n = none) := by
          show _ = _
          simp only [mateF, hx]
          rw [if_neg]
          rintro ⟨-, h⟩
          exact h (by rw [HTL.out, ht, ← hk])
        clear hx
        gi_wp2_with fail
        obtain ⟨e4, e5, eb⟩ := set45 (n := w.heap.size) (HH5.out.get 0 rfl) (HH5.out.get 1 rfl) (by simp) (by omega) (by omega) HH5.out.below.size (.int .i64 0) (.int .i64 4)
        exact ⟨.tuple #[.int .i64 0, .int .i64 4], mate_results _ rfl rfl e4 e5, by rw [HX.out]; rfl, HH5.out.below.trans eb⟩
      · have HX : Hid (mateF b n = (lvs b).findIdx? (fun y => decide (y = ⟨x.gat, tn, x.plus, 0⟩))) := by
          show _ = _
          simp only [mateF, hx]
          rw [if_pos ⟨hk, by rw [HTL.out]; intro h; exact ht (congrArg Lf.num h)⟩, HTL.out]
        clear hx
        gi_wp2_with fail
        refine ⟨trivial, ?_⟩
        refine (callsIn_wide.2 (volLeaves_any b.signed _ b.gs.length cap _)).mono ?_
        rintro e w6 ⟨rfl, hw2⟩
        gi_wp2_with fail
        obtain ⟨U, hU⟩ : ∃ U, U = w5.heap.size := ⟨_, rfl⟩
        have hz6 : w6.heap.size = U + 1 := by rw [← hw2, hU]; simp
        have hTU : T + 1 < U := by rw [hU]; exact blk_lt (HH5.out.get 4 rfl)
        have hh6 : Held w [(w.heap.size + 1, .cells #[.int .i64 0] 3), (w.heap.size + 1 + 1, .cells #[.int .i64 0] 25), (T + 1, .cells #[.int .i64 x.gat, .int .i64 tn, .int .i64 x.plus, .int .i64 0] 89)] w6 := by
          rw [← hw2]
          refine ⟨by exact (by repeat (first | (refine Below.setCell ?_ ?_ _; rotate_left; · (first | omega | (simp; done) | (simp; omega) | fail)) | (refine Below.alloc ?_ ?_ _; rotate_left; · (first | omega | (simp; done) | (simp; omega) | fail)) | refine Below.drew ?_ | exact HH5.out.below | fail)), fun p hp => ?_⟩
          (simp only [List.mem_cons, List.not_mem_nil, or_false] at hp)
          rcases hp with rfl | rfl | rfl
          · exact (by repeat (first | (refine (heap_setCell_past _ _ _ _ ?_).trans ?_; · (first | omega | (simp; done) | (simp; omega) | fail)) | (refine (heap_alloc_past _ _ _ ?_).trans ?_; · (first | omega | (simp; done) | (simp; omega) | fail)) | exact HH5.out.get 0 rfl | fail))
          · exact (by repeat (first | (refine (heap_setCell_past _ _ _ _ ?_).trans ?_; · (first | omega | (simp; done) | (simp; omega) | fail)) | (refine (heap_alloc_past _ _ _ ?_).trans ?_; · (first | omega | (simp; done) | (simp; omega) | fail)) | exact HH5.out.get 1 rfl | fail))
          · exact (by repeat (first | (refine (heap_setCell_past _ _ _ _ ?_).trans ?_; · (first | omega | (simp; done) | (simp; omega) | fail)) | (refine (heap_alloc_past _ _ _ ?_).trans ?_; · (first | omega | (simp; done) | (simp; omega) | fail)) | exact HH5.out.get 4 rfl | fail))
        have hvb : w6.heap[U]? = some (.cells #[.int .i64 b.signed, .slice (some ⟨bb, off, none⟩) b.gs.length cap] 57) := by rw [← hw2, hU]; exact (by repeat (first | exact heap_alloc_at _ _ _ (by (first | omega | (simp; done) | (simp; omega) | fail)) | (refine (heap_alloc_past _ _ _ ?_).trans ?_; · (first | omega | (simp; done) | (simp; omega) | fail)) | fail))
        rw [← hU]
        have hz6a : U + 1 ≤ w6.heap.size := by omega
        have hz6b : w6.heap.size ≤ U + 1 := by omega
        have HV := Lib.hid hvb
        have HH6 := Lib.hid hh6
        clear hw2 hU hz6 hvb hh6 HH5 v0 v1 d0 d1 d2 d3 m0 m1 m2 m3 c4 c5 f4 f5
        generalize IntKind.wrap .i64 (IntKind.wrap .i64 (g.leaves + 1) - x.num) = z2
        generalize IntKind.wrap .i64 (g.leaves + 1) = z1
        refine rf_find (gf := 77) (lb := #[.pointer (some ⟨U, 0, none⟩)]) rfl (enters_of Tryz.func77 (by kernel_rfl) rfl)
          (leaves_it b.gs b.signed (some ⟨bb, off, none⟩) cap w6 U w.heap.size (by omega) (HG.out.below HH6.out.below (Nat.le_refl _)) hok.gs (by have := hok.len; omega) HV.out) (fun _ => rfl) (fun j hj => by rcases hj with h | h <;> omega)
          w _ (fun y => decide (y.1 = ⟨x.gat, tn, x.plus, 0⟩)) (fun y => [(w.heap.size + 1, .cells #[.int .i64 y.2] 3), (w.heap.size + 1 + 1, .cells #[.int .i64 0] 25)]) (fun k => k = w.heap.size + 1 ∨ k = w.heap.size + 1 + 1)
          (fun y => .cells #[.int .i64 y.1.gat, .int .i64 y.1.num, .int .i64 y.1.plus, .int .i64 y.1.kind] 89)
          (fun y bx => [(53, .int .i64 y.2), (54, lfV y.1), (11, .int .i64 y.2), (12, .pointer (some ⟨bx, 0, none⟩))])
          (fun p hp => by (simp only [List.mem_cons, List.not_mem_nil, or_false] at hp); rcases hp with rfl | rfl | rfl <;> (simp only; omega)) (fun y p hp => by (simp only [List.mem_cons, List.not_mem_nil, or_false] at hp); rcases hp with rfl | rfl <;> (simp only; omega))
          (fun k hk => by rcases hk with rfl | rfl <;> exact ⟨by omega, fun h => by rcases h with h | h <;> omega⟩) HH6.out ?assign ?body ?done ?stop
        case assign =>
          intro l y W K' hK'
          gi_wp2_with fail
          simp only [putAll, List.foldl_cons, List.foldl_nil, List.setIfInBounds_toArray, List.set_cons_succ, List.set_cons_zero] at hK'
          exact hK'
        case body =>
          rintro l pre y rest bx W hsp h1 hbx hlb
          have hlb' := blk_lt hbx
          have m := h1.get 2 rfl
          have q4 := h1.get 0 rfl
          have q5 := h1.get 1 rfl
          have c4 := blk_cell q4 0
          have c5 := blk_cell q5 0
          have f4 := blk_free q4 0
          have f5 := blk_free q5 0
          have m0 := blk_cell m 0; have m1 := blk_cell m 1; have m2 := blk_cell m 2; have m3 := blk_cell m 3
          have d0 := blk_cell hbx 0; have d1 := blk_cell hbx 1; have d2 := blk_cell hbx 2; have d3 := blk_cell hbx 3
          clear m
          gi_wp2_with fail
          · refine ⟨lf_eq_iff.2 ⟨by assumption, by assumption, by assumption, by assumption⟩, (by repeat (first | exact OnlyIn.refl _ _ | refine OnlyIn.trans ?_ (OnlyIn.setCell _ _ _ (by simp)) | refine OnlyIn.trans ?_ (OnlyIn.alloc _ _ _) | refine OnlyIn.trans ?_ (OnlyIn.drew _ _) | fail)), ⟨h1.below.trans (by repeat (first | (refine Below.setCell ?_ ?_ _; rotate_left; · (first | omega | (simp; done) | (simp; omega) | fail)) | (refine Below.alloc ?_ ?_ _; rotate_left; · (first | omega | (simp; done) | (simp; omega) | fail)) | refine Below.drew ?_ | exact Below.refl _ _ | fail)), fun p hp => ?_⟩⟩
            (simp only [List.mem_cons, List.not_mem_nil, or_false] at hp)
            rcases hp with rfl | rfl
            · exact (heap_setCell_past _ ⟨w.heap.size + 1 + 1, 0, none⟩ _ _ (by simp)).trans (blk_set1 q4 _)
            · exact blk_set1 ((heap_setCell_past _ ⟨w.heap.size + 1, 0, none⟩ _ _ (by simp)).trans q5) _
          · exact ⟨fun h => absurd (lf_eq_iff.1 h).2.2.2 (by assumption), Below.refl _ _⟩
          · exact ⟨fun h => absurd (lf_eq_iff.1 h).2.2.1 (by assumption), Below.refl _ _⟩
          · exact ⟨fun h => absurd (lf_eq_iff.1 h).2.1 (by assumption), Below.refl _ _⟩
          · exact ⟨fun h => absurd (lf_eq_iff.1 h).1 (by assumption), Below.refl _ _⟩
        case done =>
          rintro D W hD h1 h2 hdef
          have q4 := h1.get 0 rfl
          have q5 := h1.get 1 rfl
          have c4 := blk_cell q4 0
          have c5 := blk_cell q5 0
          have f4 := blk_free q4 0
          have f5 := blk_free q5 0
          have hzW := h1.below.size
          gi_wp2_with fail
          obtain ⟨e4, e5, eb⟩ := set45 (n := w.heap.size) q4 q5 (by simp) (by omega) (by omega) hzW (.int .i64 0) (.int .i64 4)
          have hdef' : ((W.setCell ⟨w.heap.size + 1, 0, none⟩ (.int .i64 0)).setCell ⟨w.heap.size + 1 + 1, 0, none⟩ (.int .i64 4)).heap[D]? = some (.deferred (some [])) := by exact (by repeat (first | (refine (heap_setCell_past _ _ _ _ ?_).trans ?_; · (first | omega | (simp; done) | (simp; omega) | fail)) | (refine (heap_alloc_past _ _ _ ?_).trans ?_; · (first | omega | (simp; done) | (simp; omega) | fail)) | exact hdef | fail))
          refine leave_ret hdef' ⟨.tuple #[.int .i64 0, .int .i64 4], mate_results _ rfl rfl (put_cell e4 (by omega)) (put_cell e5 (by omega)), ?_, ?_⟩
          · rw [HX.out, show (lvs b).findIdx? (fun y => decide (y = ⟨x.gat, tn, x.plus, 0⟩)) = none from zip_none h2]; rfl
          · exact (h1.below.trans eb).trans ((OnlyIn.putObj (X := fun k => k = D) _ D _ rfl).below (Below.refl _ _) (by simp; omega) (fun k hk => by omega))
        case stop =>
          rintro D pre y rest W hD hsp h1 h2 h3 hdef
          have q4 := h3.get 0 rfl
          have q5 := h3.get 1 rfl
          have e4 := blk_cell q4 0
          have e5 := blk_cell q5 0
          have hzW := h3.below.size
          gi_wp2_with fail
          refine leave_ret hdef ⟨.tuple #[.int .i64 y.2, .int .i64 0], mate_results _ rfl rfl (put_cell e4 (by omega)) (put_cell e5 (by omega)), ?_, ?_⟩
          · rw [HX.out, show (lvs b).findIdx? (fun y => decide (y = ⟨x.gat, tn, x.plus, 0⟩)) = some y.2 from zip_find hsp h1 h2]; rfl
          · exact h3.below.trans ((OnlyIn.putObj (X := fun k => k = D) _ D _ rfl).below (Below.refl _ _) hzW (fun k hk => by omega))
    · have HX : Hid (mateF b n = none) := by show _ = _; simp [mateF, hx, hk]
      clear hx
      gi_wp2_with fail
      obtain ⟨e4, e5, eb⟩ := set45 (n := w.heap.size) (HH2.out.get 0 rfl) (HH2.out.get 1 rfl) (by simp) (by omega) (by omega) (by omega) (.int .i64 0) (.int .i64 4)
      refine ⟨.tuple #[.int .i64 0, .int .i64 4], mate_results _ rfl rfl (alloc_cell e4 _) (alloc_cell e5 _), by rw [HX.out]; rfl, HH2.out.below.trans (eb.alloc (by simp; omega) _)⟩

end Go.Proofs.YtimdmgkegdlafaaGreatDoor
