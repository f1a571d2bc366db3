/- The parts Qs, Qu, Qv of the proof, joined. It holds without conditions of its own. -/
import Derived.Test.YtlfglbnbenaghaaGreatDoorTX7
/- Mate. -/
namespace Go.Proofs.YtlfglbnbenaghaaGreatDoor
set_option linter.unusedSimpArgs false
set_option linter.unusedVariables false
open Go Go.RowKit Go.Sort Go.BigFrame Go.Shelf
attribute [local go_sem] Oper.semAt_some putAll

/-- The leaf that lies where the mate of a leaf would: its number is turned. -/
def turnedL (b : Bk) (x : Lf) : Lf := match b.gs[x.gat]? with
  | some g => ⟨x.gat, g.leaves + 1 - x.num, x.plus, x.kind⟩
  | none => x
/-- The number of the mate of the leaf with a number, if it has one. -/
def mateF (b : Bk) (n : Int) : Option Nat := match getL (lvs b) n with
  | some x => if x.kind = 0 ∧ turnedL b x ≠ x then (lvs b).findIdx? (fun y => decide (y = turnedL b x)) else none
  | none => none
def mateR : Option Nat → Value
  | some m => .tuple #[.int .i64 m, .int .i64 0]
  | none => .tuple #[.int .i64 0, .int .i64 4]

set_option maxRecDepth 100000 in
set_option maxHeartbeats 1000000 in
theorem Mate_bad (b : Bk) (v : Value) (n : Int) (w : World) (hb : BookAt w.heap.size w v b) (he : errF b ≠ 0) :
    Calls Tryz.prog 20 #[v, .int .i64 n] w fun e w' => e = .returned (.tuple #[.int .i64 0, .int .i64 (errF b)]) ∧ Below w.heap.size w w' := by
  have hb' := hb
  obtain ⟨sv, rfl, hgs⟩ := hb
  have hgs' := hgs
  obtain ⟨a, cap, rfl, -⟩ := hgs'
  have hop : openV b (.agg #[.int .i64 b.signed, .slice a b.gs.length cap]) = .tuple #[.agg #[.int .i64 0, .slice none 0 0], .int .i64 (errF b)] := by simp [openV, he]
  have hne : (errF b != 0) = true := by simp [he]
  go_enter Tryz.func20, Tryz.ntmps20
  go_wp2_with fail
  refine (open_any b _ _ (hb'.below (B := w.heap.size) (by exact (by repeat (first | (refine Below.setCell ?_ ?_ _; rotate_left; · (first | omega | (simp; done) | (simp; omega) | fail)) | (refine Below.alloc ?_ ?_ _; rotate_left; · (first | omega | (simp; done) | (simp; omega) | fail)) | refine Below.drew ?_ | exact Below.refl _ _ | fail))) (Nat.le_refl _) |>.mono (by simp; try omega))).mono ?_
  rintro e w1 ⟨rfl, hb1⟩
  rw [hop]
  have hb0 : Below w.heap.size w w1 := Below.trans (by exact (by repeat (first | (refine Below.setCell ?_ ?_ _; rotate_left; · (first | omega | (simp; done) | (simp; omega) | fail)) | (refine Below.alloc ?_ ?_ _; rotate_left; · (first | omega | (simp; done) | (simp; omega) | fail)) | refine Below.drew ?_ | exact Below.refl _ _ | fail))) (hb1.mono (by simp; try omega))
  have hz := hb0.size
  have h4 : w1.heap[w.heap.size + 1]? = some (.cells #[.int .i64 0] 3) := blk_later hb1 (by exact (by repeat (first | exact heap_alloc_at _ _ _ (by (first | omega | (simp; done) | (simp; omega) | fail)) | (refine (heap_alloc_past _ _ _ ?_).trans ?_; · (first | omega | (simp; done) | (simp; omega) | fail)) | fail)))
  have h5 : w1.heap[w.heap.size + 1 + 1]? = some (.cells #[.int .i64 0] 25) := blk_later hb1 (by exact (by repeat (first | exact heap_alloc_at _ _ _ (by (first | omega | (simp; done) | (simp; omega) | fail)) | (refine (heap_alloc_past _ _ _ ?_).trans ?_; · (first | omega | (simp; done) | (simp; omega) | fail)) | fail)))
  have r0 := blk_cell h4 0
  have r1 := blk_cell h5 0
  have f0 := blk_free h4 0
  have f1 := blk_free h5 0
  have z4 := blk_lt h4
  have z5 := blk_lt h5
  have HB0 := Lib.hid hb0
  have H4 := Lib.hid h4
  have H5 := Lib.hid h5
  clear hb1 hb0 h4 h5 hb'
  go_wp2_with fail
  obtain ⟨W, hW⟩ : ∃ W, W = ((w1.setCell ⟨w.heap.size + 1, 0, none⟩ (.int .i64 0)).setCell ⟨w.heap.size + 1 + 1, 0, none⟩ (.int .i64 (errF b))).alloc (.cells #[.int .i64 0, .slice none 0 0] 57) := ⟨_, rfl⟩
  rw [← hW]
  have p4 : W.heap[w.heap.size + 1]? = some (.cells #[.int .i64 0] 3) := by rw [hW]; exact (by repeat (first | exact blk_set1 H4.out _ | (refine (heap_setCell_past _ _ _ _ ?_).trans ?_; · (first | omega | (simp; done) | (simp; omega) | fail)) | (refine (heap_alloc_past _ _ _ ?_).trans ?_; · (first | omega | (simp; done) | (simp; omega) | fail)) | exact H4.out | fail))
  have p5 : W.heap[w.heap.size + 1 + 1]? = some (.cells #[.int .i64 (errF b)] 25) := by
    rw [hW]
    refine (heap_alloc_past _ _ _ (by simp; omega)).trans ?_
    exact blk_set1 (a := .int .i64 0) ((heap_setCell_past _ _ _ _ (by simp)).trans H5.out) _
  have hbW : Below w.heap.size w W := by rw [hW]; exact (by repeat (first | (refine Below.setCell ?_ ?_ _; rotate_left; · (first | omega | (simp; done) | (simp; omega) | fail)) | (refine Below.alloc ?_ ?_ _; rotate_left; · (first | omega | (simp; done) | (simp; omega) | fail)) | refine Below.drew ?_ | exact HB0.out | fail))
  have e4 := blk_cell p4 0
  have e5 := blk_cell p5 0
  refine bodyPost_ret (v := .tuple #[.int .i64 0, .int .i64 (errF b)]) ?_ rfl ⟨rfl, hbW⟩
  simp [results, Tryz.results20, go_sem, e4, e5]

theorem lf_eq_iff {y : Lf} {i : Nat} {a b c : Int} : y = ⟨i, a, b, c⟩ ↔ (y.gat : Int) = i ∧ y.num = a ∧ y.plus = b ∧ y.kind = c := by
  obtain ⟨i', a', b', c'⟩ := y
  simp only [Lf.mk.injEq]
  exact ⟨fun ⟨h1, h2, h3, h4⟩ => ⟨by omega, h2, h3, h4⟩, fun ⟨h1, h2, h3, h4⟩ => ⟨by omega, h2, h3, h4⟩⟩
theorem zip_find {xs : List Lf} {pre rest : List (Lf × Nat)} {y : Lf × Nat} {p : Lf → Bool} (h : xs.zipIdx = pre ++ y :: rest) (h1 : ∀ z ∈ pre, p z.1 = false) (h2 : p y.1 = true) : xs.findIdx? p = some y.2 := by
  have hx : xs = pre.map (·.1) ++ y.1 :: rest.map (·.1) := by have := congrArg (List.map (·.1)) h; simpa using this
  have h3 : (pre.map (·.1)).findIdx? p = none := List.findIdx?_eq_none_iff.2 fun z hz => by
    obtain ⟨u, hu, rfl⟩ := List.mem_map.1 hz
    exact h1 u hu
  rw [(zip_at h).1]
  conv => lhs; rw [hx]
  rw [List.findIdx?_append, h3]
  simp [List.findIdx?_cons, h2]
theorem zip_none {xs : List Lf} {p : Lf → Bool} (h : ∀ y ∈ xs.zipIdx, p y.1 = false) : xs.findIdx? p = none :=
  List.findIdx?_eq_none_iff.2 fun z hz => by
    obtain ⟨k, hk, rfl⟩ := List.getElem_of_mem hz
    exact h (xs[k], k) (List.mem_zipIdx_iff_getElem?.2 (by simp))
theorem set45 {W : World} {k4 k5 n : Nat} {a b : Value} {t s : TypeId} (q4 : W.heap[k4]? = some (.cells #[a] t)) (q5 : W.heap[k5]? = some (.cells #[b] s)) (hne : k4 ≠ k5) (h4 : n ≤ k4) (h5 : n ≤ k5) (hn : n ≤ W.heap.size) (u v : Value) :
    ((W.setCell ⟨k4, 0, none⟩ u).setCell ⟨k5, 0, none⟩ v).cell? ⟨k4, 0, none⟩ = some u ∧ ((W.setCell ⟨k4, 0, none⟩ u).setCell ⟨k5, 0, none⟩ v).cell? ⟨k5, 0, none⟩ = some v ∧ Below n W ((W.setCell ⟨k4, 0, none⟩ u).setCell ⟨k5, 0, none⟩ v) := by
  have r4 : ((W.setCell ⟨k4, 0, none⟩ u).setCell ⟨k5, 0, none⟩ v).heap[k4]? = some (.cells #[u] t) := (heap_setCell_past _ ⟨k5, 0, none⟩ _ k4 hne).trans (blk_set1 q4 u)
  have r5 : ((W.setCell ⟨k4, 0, none⟩ u).setCell ⟨k5, 0, none⟩ v).heap[k5]? = some (.cells #[v] s) := blk_set1 ((heap_setCell_past _ ⟨k4, 0, none⟩ _ k5 (Ne.symm hne)).trans q5) v
  exact ⟨blk_cell r4 0, blk_cell r5 0, ((Below.refl n W).setCell (p := ⟨k4, 0, none⟩) h4 u).setCell (p := ⟨k5, 0, none⟩) h5 v⟩
theorem alloc_cell {W : World} {b i : Nat} {v : Value} (h : W.cell? ⟨b, i, none⟩ = some v) (o : Obj) : (W.alloc o).cell? ⟨b, i, none⟩ = some v :=
  (World.cell?_of_block (heap_alloc_past W o b (lt_of_cell h))).trans h
theorem put_cell {W : World} {b i D : Nat} {v : Value} {o : Obj} (h : W.cell? ⟨b, i, none⟩ = some v) (hne : b ≠ D) : (W.putObj D o).cell? ⟨b, i, none⟩ = some v := (cell_put hne).trans h
theorem mate_results {W : World} (tmps : Array Value) {k4 k5 : Nat} {u v : Value} (h4 : tmps.getD 4 undef = .pointer (some ⟨k4, 0, none⟩)) (h5 : tmps.getD 5 undef = .pointer (some ⟨k5, 0, none⟩)) (c4 : W.cell? ⟨k4, 0, none⟩ = some u) (c5 : W.cell? ⟨k5, 0, none⟩ = some v) :
    (results Tryz.f20 tmps).run Tryz.prog W = .ok (.tuple #[u, v]) W := by
  simp only [Array.getD_eq_getD_getElem?] at h4 h5
  simp [results, Tryz.results20, go_sem, h4, h5, c4, c5]

set_option maxRecDepth 100000 in
set_option maxHeartbeats 1000000 in
theorem Mate_good (b : Bk) (v : Value) (n : Int) (w : World) (hb : BookAt w.heap.size w v b) (he : errF b = 0) :
    Calls Tryz.prog 20 #[v, .int .i64 n] w fun e w' => e = .returned (mateR (mateF b n)) ∧ Below w.heap.size w w' := by
  have hb' := hb
  obtain ⟨sv, rfl, hgs⟩ := hb
  have hgs' := hgs
  obtain ⟨a, cap, rfl, -⟩ := hgs'
  have hok := errF_zero he
  have hop : openV b (.agg #[.int .i64 b.signed, .slice a b.gs.length cap]) = .tuple #[.agg #[.int .i64 b.signed, .slice a b.gs.length cap], .int .i64 0] := by simp [openV, he]
  have HG := Lib.hid hgs
  have HB := Lib.hid hb'
  clear hgs hb'
  refine (callsIn_wide (n := 10)).1 ?_
  refine callsIn_of_wp_marks Tryz.func20 rfl trivial ?_ rfl
  simp only [Tryz.ntmps20, List.size_toArray, List.length_cons, List.length_nil, Nat.reduceAdd, Nat.reduceSub, Array.replicate_succ, Array.replicate_zero, List.push_toArray, List.append_toArray, List.nil_append, List.cons_append]
  gi_wp2_with fail
  refine ⟨trivial, ?_⟩
  refine (callsIn_wide.2 (open_any b _ _ (HB.out.below (B := w.heap.size) (by exact (by repeat (first | (refine Below.setCell ?_ ?_ _; rotate_left; · (first | omega | (simp; done) | (simp; omega) | fail)) | (refine Below.alloc ?_ ?_ _; rotate_left; · (first | omega | (simp; done) | (simp; omega) | fail)) | refine Below.drew ?_ | exact Below.refl _ _ | fail))) (Nat.le_refl _) |>.mono (by simp; try omega)))).mono ?_
  rintro e w1 ⟨rfl, hb1⟩
  rw [hop]
  have hh1 : Held w [(w.heap.size + 1, .cells #[.int .i64 0] 3), (w.heap.size + 1 + 1, .cells #[.int .i64 0] 25)] w1 := by
    refine Held.below' ⟨by exact (by repeat (first | (refine Below.setCell ?_ ?_ _; rotate_left; · (first | omega | (simp; done) | (simp; omega) | fail)) | (refine Below.alloc ?_ ?_ _; rotate_left; · (first | omega | (simp; done) | (simp; omega) | fail)) | refine Below.drew ?_ | exact Below.refl _ _ | fail)), fun p hp => ?_⟩ hb1
    (simp only [List.mem_cons, List.not_mem_nil, or_false] at hp)
    rcases hp with rfl | rfl <;> exact (by repeat (first | exact heap_alloc_at _ _ _ (by (first | omega | (simp; done) | (simp; omega) | fail)) | (refine (heap_alloc_past _ _ _ ?_).trans ?_; · (first | omega | (simp; done) | (simp; omega) | fail)) | fail))
  have HH1 := Lib.hid hh1
  have hz := hh1.below.size
  have hz1 := blk_lt (hh1.get 1 rfl)
  clear hb1 hop hh1
  gi_wp2_with fail
  refine ⟨trivial, ?_⟩
  refine (callsIn_wide.2 (leaf_any b _ n _ (HB.out.below (B := w.heap.size) (by exact (by repeat (first | (refine Below.setCell ?_ ?_ _; rotate_left; · (first | omega | (simp; done) | (simp; omega) | fail)) | (refine Below.alloc ?_ ?_ _; rotate_left; · (first | omega | (simp; done) | (simp; omega) | fail)) | refine Below.drew ?_ | exact HH1.out.below | fail))) (Nat.le_refl _) |>.mono (by simp; try omega)) he)).mono ?_
  rintro e w2 ⟨rfl, hb2⟩
  have hh2 : Held w [(w.heap.size + 1, .cells #[.int .i64 0] 3), (w.heap.size + 1 + 1, .cells #[.int .i64 0] 25), (w1.heap.size, .cells #[.int .i64 b.signed, .slice a b.gs.length cap] 57)] w2 := by
    refine Held.below' ⟨by exact (by repeat (first | (refine Below.setCell ?_ ?_ _; rotate_left; · (first | omega | (simp; done) | (simp; omega) | fail)) | (refine Below.alloc ?_ ?_ _; rotate_left; · (first | omega | (simp; done) | (simp; omega) | fail)) | refine Below.drew ?_ | exact HH1.out.below | fail)), fun p hp => ?_⟩ hb2
    (simp only [List.mem_cons, List.not_mem_nil, or_false] at hp)
    rcases hp with rfl | rfl | rfl
    · exact (by repeat (first | (refine (heap_setCell_past _ _ _ _ ?_).trans ?_; · (first | omega | (simp; done) | (simp; omega) | fail)) | (refine (heap_alloc_past _ _ _ ?_).trans ?_; · (first | omega | (simp; done) | (simp; omega) | fail)) | exact HH1.out.get 0 rfl | fail))
    · exact (by repeat (first | (refine (heap_setCell_past _ _ _ _ ?_).trans ?_; · (first | omega | (simp; done) | (simp; omega) | fail)) | (refine (heap_alloc_past _ _ _ ?_).trans ?_; · (first | omega | (simp; done) | (simp; omega) | fail)) | exact HH1.out.get 1 rfl | fail))
    · exact (by repeat (first | exact heap_alloc_at _ _ _ (by (first | omega | (simp; done) | (simp; omega) | fail)) | (refine (heap_alloc_past _ _ _ ?_).trans ?_; · (first | omega | (simp; done) | (simp; omega) | fail)) | fail))
  have HH2 := Lib.hid hh2
  have hz2 := blk_lt (hh2.get 2 rfl)
  clear hb2 hh2 HH1
  obtain ⟨V, hV⟩ : ∃ V, V = w1.heap.size := ⟨_, rfl⟩
  rw [← hV] at HH2 hz1 hz2 ⊢
  clear hV hz
  have q4 := HH2.out.get 0 rfl
  have q5 := HH2.out.get 1 rfl
  have q6 := HH2.out.get 2 rfl
  have c4 := blk_cell q4 0
  have c5 := blk_cell q5 0
  have f4 := blk_free q4 0
  have f5 := blk_free q5 0
  have v0 := blk_cell q6 0; have v1 := blk_cell q6 1
  have s4 := blk_lt q4
  have s5 := blk_lt q5
  have s6 := blk_lt q6
  clear q4 q5 q6
  cases hx : getL (lvs b) n with
  | none =>
    have HX : Hid (mateF b n = none) := by show _ = _; simp [mateF, hx]
    clear hx
    simp only [leafR]
    gi_wp2_with fail
    obtain ⟨e4, e5, eb⟩ := set45 (n := w.heap.size) (HH2.out.get 0 rfl) (HH2.out.get 1 rfl) (by simp) (by omega) (by omega) (by omega) (.int .i64 0) (.int .i64 4)
    refine ⟨.tuple #[.int .i64 0, .int .i64 4], mate_results _ rfl rfl (alloc_cell e4 _) (alloc_cell e5 _), by rw [HX.out]; rfl, HH2.out.below.trans (eb.alloc (by simp; omega) _)⟩
  | some x =>
    obtain ⟨g, hg, hgk, n0, n1, p0, p1⟩ := lf_bounds hok (getL_mem hx)
    have hlv := hgk.leaves
    simp only [leafR, lfV]
    by_cases hk : x.kind = 0
    · rw [hk]
      gi_wp2_with fail
      obtain ⟨T, hT⟩ : ∃ T, T = w2.heap.size := ⟨_, rfl⟩
      obtain ⟨w3, hw3⟩ : ∃ w3, w3 = (w2.alloc (.cells #[.int .i64 x.gat, .int .i64 x.num, .int .i64 x.plus, .int .i64 0] 89)).alloc (.cells #[.int .i64 x.gat, .int .i64 x.num, .int .i64 x.plus, .int .i64 0] 89) := ⟨_, rfl⟩
      have hh3 : Held w [(w.heap.size + 1, .cells #[.int .i64 0] 3), (w.heap.size + 1 + 1, .cells #[.int .i64 0] 25), (V, .cells #[.int .i64 b.signed, .slice a b.gs.length cap] 57),
          (T, .cells #[.int .i64 x.gat, .int .i64 x.num, .int .i64 x.plus, .int .i64 0] 89), (T + 1, .cells #[.int .i64 x.gat, .int .i64 x.num, .int .i64 x.plus, .int .i64 0] 89)] w3 := by
        refine ⟨by rw [hw3]; exact (by repeat (first | (refine Below.setCell ?_ ?_ _; rotate_left; · (first | omega | (simp; done) | (simp; omega) | fail)) | (refine Below.alloc ?_ ?_ _; rotate_left; · (first | omega | (simp; done) | (simp; omega) | fail)) | refine Below.drew ?_ | exact HH2.out.below | fail)), fun p hp => ?_⟩
        rw [hw3, hT] at *
        (simp only [List.mem_cons, List.not_mem_nil, or_false] at hp)
        rcases hp with rfl | rfl | rfl | rfl | rfl
        · exact (by repeat (first | (refine (heap_setCell_past _ _ _ _ ?_).trans ?_; · (first | omega | (simp; done) | (simp; omega) | fail)) | (refine (heap_alloc_past _ _ _ ?_).trans ?_; · (first | omega | (simp; done) | (simp; omega) | fail)) | exact HH2.out.get 0 rfl | fail))
        · exact (by repeat (first | (refine (heap_setCell_past _ _ _ _ ?_).trans ?_; · (first | omega | (simp; done) | (simp; omega) | fail)) | (refine (heap_alloc_past _ _ _ ?_).trans ?_; · (first | omega | (simp; done) | (simp; omega) | fail)) | exact HH2.out.get 1 rfl | fail))
        · exact (by repeat (first | (refine (heap_setCell_past _ _ _ _ ?_).trans ?_; · (first | omega | (simp; done) | (simp; omega) | fail)) | (refine (heap_alloc_past _ _ _ ?_).trans ?_; · (first | omega | (simp; done) | (simp; omega) | fail)) | exact HH2.out.get 2 rfl | fail))
        · exact (by repeat (first | exact heap_alloc_at _ _ _ (by (first | omega | (simp; done) | (simp; omega) | fail)) | (refine (heap_alloc_past _ _ _ ?_).trans ?_; · (first | omega | (simp; done) | (simp; omega) | fail)) | fail))
        · exact (by repeat (first | exact heap_alloc_at _ _ _ (by (first | omega | (simp; done) | (simp; omega) | fail)) | (refine (heap_alloc_past _ _ _ ?_).trans ?_; · (first | omega | (simp; done) | (simp; omega) | fail)) | fail))
      rw [← hw3, ← hT]
      have hVT : V < T := by omega
      have HH3 := Lib.hid hh3
      clear hh3 hw3 hT s4 s5 s6 c4 c5 f4 f5 v0 v1 HH2 hz2
      obtain ⟨bb, off, rfl, hbb, ca, ccap, -, -, -, k2, -⟩ := (HG.out.below HH3.out.below (Nat.le_refl _)).get hg
      have q6 := HH3.out.get 2 rfl
      have q7 := HH3.out.get 3 rfl
      have v0 := blk_cell q6 0; have v1 := blk_cell q6 1
      have d0 := blk_cell q7 0; have d1 := blk_cell q7 1; have d2 := blk_cell q7 2; have d3 := blk_cell q7 3
      have hil := (List.getElem?_eq_some_iff.1 hg).1
      have hil' : (x.gat : Int) < (b.gs.length : Int) := by omega
      clear q6 q7
      refine wpIn_wide.2 ?_
      go_still_tail 13, (by kernel_rfl)
      change wpList _ _ _ _ _ w3.drew
      have hh4 : Held w [(w.heap.size + 1, .cells #[.int .i64 0] 3), (w.heap.size + 1 + 1, .cells #[.int .i64 0] 25), (V, .cells #[.int .i64 b.signed, .slice (some ⟨bb, off, none⟩) b.gs.length cap] 57),
          (T, .cells #[.int .i64 x.gat, .int .i64 x.num, .int .i64 x.plus, .int .i64 0] 89), (T + 1, .cells #[.int .i64 x.gat, .int .i64 x.num, .int .i64 x.plus, .int .i64 0] 89)] w3.drew := ⟨HH3.out.below.drew, HH3.out.at_⟩
      have HH4 := Lib.hid hh4
      clear hh4 HH3 k2 v0 v1 d0 d1 d2 d3
      revert HH4
      generalize w3.drew = w4
      intro HH4
      have q8 := HH4.out.get 4 rfl
      have m0 := blk_cell q8 0; have m1 := blk_cell q8 1; have m2 := blk_cell q8 2; have m3 := blk_cell q8 3
      have f0 := blk_free q8 0; have f1 := blk_free q8 1; have f2 := blk_free q8 2; have f3 := blk_free q8 3
      clear q8
      go_wp2_with fail
      obtain ⟨tn, htn⟩ : ∃ tn, tn = g.leaves + 1 - x.num := ⟨_, rfl⟩
      obtain ⟨w5, hw5⟩ : ∃ w5, w5 = w4.setCell ⟨T + 1, 1, none⟩ (.int .i64 (g.leaves + 1 - x.num)) := ⟨_, rfl⟩
      have hh5 : Held w [(w.heap.size + 1, .cells #[.int .i64 0] 3), (w.heap.size + 1 + 1, .cells #[.int .i64 0] 25), (V, .cells #[.int .i64 b.signed, .slice (some ⟨bb, off, none⟩) b.gs.length cap] 57),
          (T, .cells #[.int .i64 x.gat, .int .i64 x.num, .int .i64 x.plus, .int .i64 0] 89), (T + 1, .cells #[.int .i64 x.gat, .int .i64 tn, .int .i64 x.plus, .int .i64 0] 89)] w5 := by
        refine ⟨by rw [hw5]; exact (by repeat (first | (refine Below.setCell ?_ ?_ _; rotate_left; · (first | omega | (simp; done) | (simp; omega) | fail)) | (refine Below.alloc ?_ ?_ _; rotate_left; · (first | omega | (simp; done) | (simp; omega) | fail)) | refine Below.drew ?_ | exact HH4.out.below | fail)), fun p hp => ?_⟩
        rw [hw5]
        (simp only [List.mem_cons, List.not_mem_nil, or_false] at hp)
        rcases hp with rfl | rfl | rfl | rfl | rfl
        · exact (by repeat (first | (refine (heap_setCell_past _ _ _ _ ?_).trans ?_; · (first | omega | (simp; done) | (simp; omega) | fail)) | (refine (heap_alloc_past _ _ _ ?_).trans ?_; · (first | omega | (simp; done) | (simp; omega) | fail)) | exact HH4.out.get 0 rfl | fail))
        · exact (by repeat (first | (refine (heap_setCell_past _ _ _ _ ?_).trans ?_; · (first | omega | (simp; done) | (simp; omega) | fail)) | (refine (heap_alloc_past _ _ _ ?_).trans ?_; · (first | omega | (simp; done) | (simp; omega) | fail)) | exact HH4.out.get 1 rfl | fail))
        · exact (by repeat (first | (refine (heap_setCell_past _ _ _ _ ?_).trans ?_; · (first | omega | (simp; done) | (simp; omega) | fail)) | (refine (heap_alloc_past _ _ _ ?_).trans ?_; · (first | omega | (simp; done) | (simp; omega) | fail)) | exact HH4.out.get 2 rfl | fail))
        · exact (by repeat (first | (refine (heap_setCell_past _ _ _ _ ?_).trans ?_; · (first | omega | (simp; done) | (simp; omega) | fail)) | (refine (heap_alloc_past _ _ _ ?_).trans ?_; · (first | omega | (simp; done) | (simp; omega) | fail)) | exact HH4.out.get 3 rfl | fail))
        · have := blk_set (HH4.out.get 4 rfl) 1 (.int .i64 (g.leaves + 1 - x.num))
          rw [htn]
          simpa using this
      have HH5 := Lib.hid hh5
      have HTL : Hid (turnedL b x = ⟨x.gat, tn, x.plus, 0⟩) := by show _ = _; simp [turnedL, hg, hk, htn]
      rw [← hw5]
      clear hh5 hw5 HH4 m0 m1 m2 m3 f0 f1 f2 f3 htn
      have q6 := HH5.out.get 2 rfl
      have q7 := HH5.out.get 3 rfl
      have q8 := HH5.out.get 4 rfl
      have v0 := blk_cell q6 0; have v1 := blk_cell q6 1
      have d0 := blk_cell q7 0; have d1 := blk_cell q7 1; have d2 := blk_cell q7 2; have d3 := blk_cell q7 3
      have m0 := blk_cell q8 0; have m1 := blk_cell q8 1; have m2 := blk_cell q8 2; have m3 := blk_cell q8 3
      have q4 := HH5.out.get 0 rfl
      have q5 := HH5.out.get 1 rfl
      have c4 := blk_cell q4 0
      have c5 := blk_cell q5 0
      have f4 := blk_free q4 0
      have f5 := blk_free q5 0
      clear q4 q5 q6 q7 q8
      by_cases ht : tn = x.num
      · have HX : Hid (mateF b n = none) := by
          show _ = _
          simp only [mateF, hx]
          rw [if_neg]
          rintro ⟨-, h⟩
          exact h (by rw [HTL.out, ht, ← hk])
        clear hx
        gi_wp2_with fail
        obtain ⟨e4, e5, eb⟩ := set45 (n := w.heap.size) (HH5.out.get 0 rfl) (HH5.out.get 1 rfl) (by simp) (by omega) (by omega) HH5.out.below.size (.int .i64 0) (.int .i64 4)
        exact ⟨.tuple #[.int .i64 0, .int .i64 4], mate_results _ rfl rfl e4 e5, by rw [HX.out]; rfl, HH5.out.below.trans eb⟩
      · have HX : Hid (mateF b n = (lvs b).findIdx? (fun y => decide (y = ⟨x.gat, tn, x.plus, 0⟩))) := by
          show _ = _
          simp only [mateF, hx]
          rw [if_pos ⟨hk, by rw [HTL.out]; intro h; exact ht (congrArg Lf.num h)⟩, HTL.out]
        clear hx
        gi_wp2_with fail
        refine ⟨trivial, ?_⟩
        refine (callsIn_wide.2 (volLeaves_any b.signed _ b.gs.length cap _)).mono ?_
        rintro e w6 ⟨rfl, hw2⟩
        gi_wp2_with fail
        obtain ⟨U, hU⟩ : ∃ U, U = w5.heap.size := ⟨_, rfl⟩
        have hz6 : w6.heap.size = U + 1 := by rw [← hw2, hU]; simp
        have hTU : T + 1 < U := by rw [hU]; exact blk_lt (HH5.out.get 4 rfl)
        have hh6 : Held w [(w.heap.size + 1, .cells #[.int .i64 0] 3), (w.heap.size + 1 + 1, .cells #[.int .i64 0] 25), (T + 1, .cells #[.int .i64 x.gat, .int .i64 tn, .int .i64 x.plus, .int .i64 0] 89)] w6 := by
          rw [← hw2]
          refine ⟨by exact (by repeat (first | (refine Below.setCell ?_ ?_ _; rotate_left; · (first | omega | (simp; done) | (simp; omega) | fail)) | (refine Below.alloc ?_ ?_ _; rotate_left; · (first | omega | (simp; done) | (simp; omega) | fail)) | refine Below.drew ?_ | exact HH5.out.below | fail)), fun p hp => ?_⟩
          (simp only [List.mem_cons, List.not_mem_nil, or_false] at hp)
          rcases hp with rfl | rfl | rfl
          · exact (by repeat (first | (refine (heap_setCell_past _ _ _ _ ?_).trans ?_; · (first | omega | (simp; done) | (simp; omega) | fail)) | (refine (heap_alloc_past _ _ _ ?_).trans ?_; · (first | omega | (simp; done) | (simp; omega) | fail)) | exact HH5.out.get 0 rfl | fail))
          · exact (by repeat (first | (refine (heap_setCell_past _ _ _ _ ?_).trans ?_; · (first | omega | (simp; done) | (simp; omega) | fail)) | (refine (heap_alloc_past _ _ _ ?_).trans ?_; · (first | omega | (simp; done) | (simp; omega) | fail)) | exact HH5.out.get 1 rfl | fail))
          · exact (by repeat (first | (refine (heap_setCell_past _ _ _ _ ?_).trans ?_; · (first | omega | (simp; done) | (simp; omega) | fail)) | (refine (heap_alloc_past _ _ _ ?_).trans ?_; · (first | omega | (simp; done) | (simp; omega) | fail)) | exact HH5.out.get 4 rfl | fail))
        have hvb : w6.heap[U]? = some (.cells #[.int .i64 b.signed, .slice (some ⟨bb, off, none⟩) b.gs.length cap] 57) := by rw [← hw2, hU]; exact (by repeat (first | exact heap_alloc_at _ _ _ (by (first | omega | (simp; done) | (simp; omega) | fail)) | (refine (heap_alloc_past _ _ _ ?_).trans ?_; · (first | omega | (simp; done) | (simp; omega) | fail)) | fail))
        rw [← hU]
        have hz6a : U + 1 ≤ w6.heap.size := by omega
        have hz6b : w6.heap.size ≤ U + 1 := by omega
        have HV := Lib.hid hvb
        have HH6 := Lib.hid hh6
        clear hw2 hU hz6 hvb hh6 HH5 v0 v1 d0 d1 d2 d3 m0 m1 m2 m3 c4 c5 f4 f5
        generalize IntKind.wrap .i64 (IntKind.wrap .i64 (g.leaves + 1) - x.num) = z2
        generalize IntKind.wrap .i64 (g.leaves + 1) = z1
        refine rf_find (gf := 77) (lb := #[.pointer (some ⟨U, 0, none⟩)]) rfl (enters_of Tryz.func77 (by kernel_rfl) rfl)
          (leaves_it b.gs b.signed (some ⟨bb, off, none⟩) cap w6 U w.heap.size (by omega) (HG.out.below HH6.out.below (Nat.le_refl _)) hok.gs (by have := hok.len; omega) HV.out) (fun _ => rfl) (fun j hj => by rcases hj with h | h <;> omega)
          w _ (fun y => decide (y.1 = ⟨x.gat, tn, x.plus, 0⟩)) (fun y => [(w.heap.size + 1, .cells #[.int .i64 y.2] 3), (w.heap.size + 1 + 1, .cells #[.int .i64 0] 25)]) (fun k => k = w.heap.size + 1 ∨ k = w.heap.size + 1 + 1)
          (fun y => .cells #[.int .i64 y.1.gat, .int .i64 y.1.num, .int .i64 y.1.plus, .int .i64 y.1.kind] 89)
          (fun y bx => [(53, .int .i64 y.2), (54, lfV y.1), (11, .int .i64 y.2), (12, .pointer (some ⟨bx, 0, none⟩))])
          (fun p hp => by (simp only [List.mem_cons, List.not_mem_nil, or_false] at hp); rcases hp with rfl | rfl | rfl <;> (simp only; omega)) (fun y p hp => by (simp only [List.mem_cons, List.not_mem_nil, or_false] at hp); rcases hp with rfl | rfl <;> (simp only; omega))
          (fun k hk => by rcases hk with rfl | rfl <;> exact ⟨by omega, fun h => by rcases h with h | h <;> omega⟩) HH6.out ?assign ?body ?done ?stop
        case assign =>
          intro l y W K' hK'
          gi_wp2_with fail
          simp only [putAll, List.foldl_cons, List.foldl_nil, List.setIfInBounds_toArray, List.set_cons_succ, List.set_cons_zero] at hK'
          exact hK'
        case body =>
          rintro l pre y rest bx W hsp h1 hbx hlb
          have hlb' := blk_lt hbx
          have m := h1.get 2 rfl
          have q4 := h1.get 0 rfl
          have q5 := h1.get 1 rfl
          have c4 := blk_cell q4 0
          have c5 := blk_cell q5 0
          have f4 := blk_free q4 0
          have f5 := blk_free q5 0
          have m0 := blk_cell m 0; have m1 := blk_cell m 1; have m2 := blk_cell m 2; have m3 := blk_cell m 3
          have d0 := blk_cell hbx 0; have d1 := blk_cell hbx 1; have d2 := blk_cell hbx 2; have d3 := blk_cell hbx 3
          clear m
          gi_wp2_with fail
          · refine ⟨lf_eq_iff.2 ⟨by assumption, by assumption, by assumption, by assumption⟩, (by repeat (first | exact OnlyIn.refl _ _ | refine OnlyIn.trans ?_ (OnlyIn.setCell _ _ _ (by simp)) | refine OnlyIn.trans ?_ (OnlyIn.alloc _ _ _) | refine OnlyIn.trans ?_ (OnlyIn.drew _ _) | fail)), ⟨h1.below.trans (by repeat (first | (refine Below.setCell ?_ ?_ _; rotate_left; · (first | omega | (simp; done) | (simp; omega) | fail)) | (refine Below.alloc ?_ ?_ _; rotate_left; · (first | omega | (simp; done) | (simp; omega) | fail)) | refine Below.drew ?_ | exact Below.refl _ _ | fail)), fun p hp => ?_⟩⟩
            (simp only [List.mem_cons, List.not_mem_nil, or_false] at hp)
            rcases hp with rfl | rfl
            · exact (heap_setCell_past _ ⟨w.heap.size + 1 + 1, 0, none⟩ _ _ (by simp)).trans (blk_set1 q4 _)
            · exact blk_set1 ((heap_setCell_past _ ⟨w.heap.size + 1, 0, none⟩ _ _ (by simp)).trans q5) _
          · exact ⟨fun h => absurd (lf_eq_iff.1 h).2.2.2 (by assumption), Below.refl _ _⟩
          · exact ⟨fun h => absurd (lf_eq_iff.1 h).2.2.1 (by assumption), Below.refl _ _⟩
          · exact ⟨fun h => absurd (lf_eq_iff.1 h).2.1 (by assumption), Below.refl _ _⟩
          · exact ⟨fun h => absurd (lf_eq_iff.1 h).1 (by assumption), Below.refl _ _⟩
        case done =>
          rintro D W hD h1 h2 hdef
          have q4 := h1.get 0 rfl
          have q5 := h1.get 1 rfl
          have c4 := blk_cell q4 0
          have c5 := blk_cell q5 0
          have f4 := blk_free q4 0
          have f5 := blk_free q5 0
          have hzW := h1.below.size
          gi_wp2_with fail
          obtain ⟨e4, e5, eb⟩ := set45 (n := w.heap.size) q4 q5 (by simp) (by omega) (by omega) hzW (.int .i64 0) (.int .i64 4)
          have hdef' : ((W.setCell ⟨w.heap.size + 1, 0, none⟩ (.int .i64 0)).setCell ⟨w.heap.size + 1 + 1, 0, none⟩ (.int .i64 4)).heap[D]? = some (.deferred (some [])) := by exact (by repeat (first | (refine (heap_setCell_past _ _ _ _ ?_).trans ?_; · (first | omega | (simp; done) | (simp; omega) | fail)) | (refine (heap_alloc_past _ _ _ ?_).trans ?_; · (first | omega | (simp; done) | (simp; omega) | fail)) | exact hdef | fail))
          refine leave_ret hdef' ⟨.tuple #[.int .i64 0, .int .i64 4], mate_results _ rfl rfl (put_cell e4 (by omega)) (put_cell e5 (by omega)), ?_, ?_⟩
          · rw [HX.out, show (lvs b).findIdx? (fun y => decide (y = ⟨x.gat, tn, x.plus, 0⟩)) = none from zip_none h2]; rfl
          · exact (h1.below.trans eb).trans ((OnlyIn.putObj (X := fun k => k = D) _ D _ rfl).below (Below.refl _ _) (by simp; omega) (fun k hk => by omega))
        case stop =>
          rintro D pre y rest W hD hsp h1 h2 h3 hdef
          have q4 := h3.get 0 rfl
          have q5 := h3.get 1 rfl
          have e4 := blk_cell q4 0
          have e5 := blk_cell q5 0
          have hzW := h3.below.size
          gi_wp2_with fail
          refine leave_ret hdef ⟨.tuple #[.int .i64 y.2, .int .i64 0], mate_results _ rfl rfl (put_cell e4 (by omega)) (put_cell e5 (by omega)), ?_, ?_⟩
          · rw [HX.out, show (lvs b).findIdx? (fun y => decide (y = ⟨x.gat, tn, x.plus, 0⟩)) = some y.2 from zip_find hsp h1 h2]; rfl
          · exact h3.below.trans ((OnlyIn.putObj (X := fun k => k = D) _ D _ rfl).below (Below.refl _ _) hzW (fun k hk => by omega))
    · have HX : Hid (mateF b n = none) := by show _ = _; simp [mateF, hx, hk]
      clear hx
      gi_wp2_with fail
      obtain ⟨e4, e5, eb⟩ := set45 (n := w.heap.size) (HH2.out.get 0 rfl) (HH2.out.get 1 rfl) (by simp) (by omega) (by omega) (by omega) (.int .i64 0) (.int .i64 4)
      refine ⟨.tuple #[.int .i64 0, .int .i64 4], mate_results _ rfl rfl (alloc_cell e4 _) (alloc_cell e5 _), by rw [HX.out]; rfl, HH2.out.below.trans (eb.alloc (by simp; omega) _)⟩

end Go.Proofs.YtlfglbnbenaghaaGreatDoor

/- Differ: the data, and its errors. -/
namespace Go.Proofs.YtlfglbnbenaghaaGreatDoor
set_option linter.unusedSimpArgs false
set_option linter.unusedVariables false
open Go Go.RowKit Go.Sort Go.BigFrame Go.Shelf

abbrev Quad := Int × Int × Int × Int
/-- The name of a leaf. -/
def nameQ (b : Bk) (x : Lf) : Quad := match b.gs[x.gat]? with
  | some g => (g.round, g.letter, x.num, x.plus)
  | none => (0, 0, 0, 0)
def quadV (q : Quad) : List Value := [.int .i64 q.1, .int .i64 q.2.1, .int .i64 q.2.2.1, .int .i64 q.2.2.2]
def quadCells (qs : List Quad) : List Value := qs.flatMap quadV
def namesF (b : Bk) : List Quad := (lvs b).map (nameQ b)
/-- Where two lists differ first. -/
def diffAt (i : Nat) : List Quad → List Quad → Option Nat
  | [], [] => none
  | [], _ :: _ => some i
  | _ :: _, [] => some i
  | x :: xs, y :: ys => if x = y then diffAt (i + 1) xs ys else some i

theorem names_cells (b : Bk) : nmsCells b (lvs b) = quadCells (namesF b) := by
  unfold nmsCells quadCells namesF
  rw [List.flatMap_map]
  have : ∀ xs : List Lf, (∀ x ∈ xs, x ∈ lvs b) → xs.flatMap (nmCells b) = xs.flatMap fun x => quadV (nameQ b x) := fun xs => by
    induction xs with
    | nil => intro _; rfl
    | cons x xs ih =>
      intro h
      obtain ⟨g, hg, -⟩ := lvs_mem (h x (by simp))
      rw [List.flatMap_cons, List.flatMap_cons, ih fun y hy => h y (by simp [hy])]
      simp [nmCells, nameQ, quadV, hg]
  exact this _ fun _ h => h
theorem quad_at : ∀ {qs : List Quad} {i : Nat} {q : Quad}, qs[i]? = some q → (quadCells qs)[i * 4]? = some (.int .i64 q.1) ∧ (quadCells qs)[i * 4 + 1]? = some (.int .i64 q.2.1) ∧ (quadCells qs)[i * 4 + 2]? = some (.int .i64 q.2.2.1) ∧ (quadCells qs)[i * 4 + 3]? = some (.int .i64 q.2.2.2)
  | [], _, _, h => by cases h
  | x :: xs, 0, q, h => by
    simp only [List.getElem?_cons_zero, Option.some.injEq] at h
    subst h
    refine ⟨rfl, rfl, rfl, rfl⟩
  | x :: xs, i + 1, q, h => by
    have h' := quad_at (qs := xs) (i := i) (q := q) (by simpa using h)
    have e : ∀ c, (quadCells (x :: xs))[(i + 1) * 4 + c]? = (quadCells xs)[i * 4 + c]? := fun c => by
      show (quadV x ++ quadCells xs)[(i + 1) * 4 + c]? = _
      rw [List.getElem?_append_right (by simp [quadV]; omega)]
      congr 1
      simp [quadV]; omega
    have e0 := e 0
    simp only [Nat.add_zero] at e0
    rw [e0, e 1, e 2, e 3]
    exact h'

/-- A slice of names. -/
def NmsAt (W : World) (v : Value) (qs : List Quad) : Prop :=
  ∃ (a : Option Addr) (cap : Nat), v = .slice a qs.length cap ∧ (qs ≠ [] → ∃ g, a = some ⟨g, 0, none⟩ ∧ g < W.heap.size ∧
    ∀ i q, qs[i]? = some q → W.cell? ⟨g, i * 4, none⟩ = some (.int .i64 q.1) ∧ W.cell? ⟨g, i * 4 + 1, none⟩ = some (.int .i64 q.2.1) ∧ W.cell? ⟨g, i * 4 + 2, none⟩ = some (.int .i64 q.2.2.1) ∧ W.cell? ⟨g, i * 4 + 3, none⟩ = some (.int .i64 q.2.2.2))
theorem add_off (g j : Nat) : (⟨g, 0, none⟩ : Addr).add j = ⟨g, j, none⟩ := by unfold Addr.add; split <;> simp_all
theorem NmsAt.of_row {W : World} {base : Nat} {v : Value} {e : TypeId} {qs : List Quad} (h : W.ownsRow base e 4 v qs.length (quadCells qs)) : NmsAt W v qs := by
  rcases h.2 with ⟨rfl, h0⟩ | ⟨g, cap, cur, rfl, hb, hg, rest⟩
  · exact ⟨none, 0, by rw [h0], fun hne => absurd (List.length_eq_zero_iff.1 h0) hne⟩
  · refine ⟨_, cap, rfl, fun _ => ⟨g, rfl, blk_lt hg, fun i q hq => ?_⟩⟩
    have hc := h.cells (g := g) (by simp [Value.ownBlock])
    obtain ⟨q1, q2, q3, q4⟩ := quad_at hq
    have c1 := hc _ _ q1
    have c2 := hc _ _ q2
    have c3 := hc _ _ q3
    have c4 := hc _ _ q4
    rw [add_off] at c1 c2 c3 c4
    exact ⟨c1, c2, c3, c4⟩
theorem NmsAt.later {W W' : World} {v : Value} {qs : List Quad} (h : NmsAt W v qs) (hb : Below W.heap.size W W') : NmsAt W' v qs := by
  obtain ⟨a, cap, rfl, h⟩ := h
  refine ⟨a, cap, rfl, fun hne => ?_⟩
  obtain ⟨g, rfl, hg, hc⟩ := h hne
  refine ⟨g, rfl, Nat.lt_of_lt_of_le hg hb.size, fun i q hq => ?_⟩
  obtain ⟨c1, c2, c3, c4⟩ := hc i q hq
  exact ⟨cell_later' hb c1, cell_later' hb c2, cell_later' hb c3, cell_later' hb c4⟩

theorem diff_step {xs ys : List Quad} {k : Nat} {x y : Quad} (hx : xs[k]? = some x) (hy : ys[k]? = some y) (e : x = y) : diffAt k (xs.drop k) (ys.drop k) = diffAt (k + 1) (xs.drop (k + 1)) (ys.drop (k + 1)) := by
  rw [List.drop_eq_getElem?_toList_append, List.drop_eq_getElem?_toList_append (l := ys), hx, hy]
  simp [diffAt, e]
theorem diff_stop {xs ys : List Quad} {k : Nat} {x y : Quad} (hx : xs[k]? = some x) (hy : ys[k]? = some y) (e : x ≠ y) : diffAt k (xs.drop k) (ys.drop k) = some k := by
  rw [List.drop_eq_getElem?_toList_append, List.drop_eq_getElem?_toList_append (l := ys), hx, hy]
  simp [diffAt, e]
theorem diff_end {xs ys : List Quad} {k : Nat} (h : k = min xs.length ys.length) : diffAt k (xs.drop k) (ys.drop k) = if xs.length = ys.length then none else some k := by
  rcases Nat.lt_trichotomy xs.length ys.length with h1 | h1 | h1
  · have e : xs.drop k = [] := List.drop_of_length_le (by omega)
    rw [e, if_neg (by omega)]
    cases hd : ys.drop k with
    | nil => have := congrArg List.length hd; simp at this; omega
    | cons y ys' => rfl
  · have e : xs.drop k = [] := List.drop_of_length_le (by omega)
    have e' : ys.drop k = [] := List.drop_of_length_le (by omega)
    rw [e, e', if_pos h1]; rfl
  · have e : ys.drop k = [] := List.drop_of_length_le (by omega)
    rw [e, if_neg (by omega)]
    cases hd : xs.drop k with
    | nil => have := congrArg List.length hd; simp at this; omega
    | cons y ys' => rfl

theorem quad_cases (x y : Quad) : x = y ∨ (x ≠ y ∧ (¬ x.1 = y.1 ∨ (x.1 = y.1 ∧ ¬ x.2.1 = y.2.1) ∨ (x.1 = y.1 ∧ x.2.1 = y.2.1 ∧ ¬ x.2.2.1 = y.2.2.1) ∨ (x.1 = y.1 ∧ x.2.1 = y.2.1 ∧ x.2.2.1 = y.2.2.1 ∧ ¬ x.2.2.2 = y.2.2.2))) := by
  obtain ⟨a, b, c, d⟩ := x
  obtain ⟨a', b', c', d'⟩ := y
  simp only [Prod.mk.injEq, ne_eq]
  by_cases h1 : a = a' <;> by_cases h2 : b = b' <;> by_cases h3 : c = c' <;> by_cases h4 : d = d' <;> simp [h1, h2, h3, h4]

end Go.Proofs.YtlfglbnbenaghaaGreatDoor

/- Differ. -/
namespace Go.Proofs.YtlfglbnbenaghaaGreatDoor
set_option linter.unusedSimpArgs false
set_option linter.unusedVariables false
open Go Go.RowKit Go.Sort Go.BigFrame Go.Shelf

def differR : Option Nat → Value
  | some n => .tuple #[.int .i64 n, .int .i64 0]
  | none => .tuple #[.int .i64 0, .int .i64 4]

theorem openV_bad {b : Bk} {v : Value} (h : errF b ≠ 0) : openV b v = .tuple #[.agg #[.int .i64 0, .slice none 0 0], .int .i64 (errF b)] := by simp [openV, h]
theorem openV_good {b : Bk} {v : Value} (h : errF b = 0) : openV b v = .tuple #[v, .int .i64 0] := by simp [openV, h]

set_option maxRecDepth 100000 in
set_option maxHeartbeats 1000000 in
theorem Differ_bad1 (b c : Bk) (v u : Value) (w : World) (hb : BookAt w.heap.size w v b) (hc : BookAt w.heap.size w u c) (he : errF b ≠ 0) :
    Calls Tryz.prog 21 #[v, u] w fun e w' => e = .returned (.tuple #[.int .i64 0, .int .i64 (errF b)]) ∧ Below w.heap.size w w' := by
  have hb' := hb
  obtain ⟨sv, rfl, hgs⟩ := hb
  obtain ⟨a, cap, rfl, -⟩ := hgs
  obtain ⟨sv2, rfl, hgs2⟩ := hc
  obtain ⟨a2, cap2, rfl, -⟩ := hgs2
  have hne : (errF b != 0) = true := by simp [he]
  go_enter Tryz.func21, Tryz.ntmps21
  go_wp2_with fail
  refine (open_any b _ _ (hb'.below (B := w.heap.size) (by exact (by repeat (first | (refine Below.setCell ?_ ?_ _; rotate_left; · (first | omega | (simp; done) | (simp; omega) | fail)) | (refine Below.alloc ?_ ?_ _; rotate_left; · (first | omega | (simp; done) | (simp; omega) | fail)) | refine Below.drew ?_ | exact Below.refl _ _ | fail))) (Nat.le_refl _) |>.mono (by simp; try omega))).mono ?_
  rintro e w1 ⟨rfl, hb1⟩
  rw [openV_bad he]
  have hb0 : Below w.heap.size w w1 := Below.trans (by exact (by repeat (first | (refine Below.setCell ?_ ?_ _; rotate_left; · (first | omega | (simp; done) | (simp; omega) | fail)) | (refine Below.alloc ?_ ?_ _; rotate_left; · (first | omega | (simp; done) | (simp; omega) | fail)) | refine Below.drew ?_ | exact Below.refl _ _ | fail))) (hb1.mono (by simp; try omega))
  have hz := hb0.size
  go_wp2_with fail
  go_ret2
  exact ⟨rfl, (by repeat (first | (refine Below.setCell ?_ ?_ _; rotate_left; · (first | omega | (simp; done) | (simp; omega) | fail)) | (refine Below.alloc ?_ ?_ _; rotate_left; · (first | omega | (simp; done) | (simp; omega) | fail)) | refine Below.drew ?_ | exact hb0 | fail))⟩

set_option maxRecDepth 100000 in
set_option maxHeartbeats 1000000 in
theorem Differ_bad2 (b c : Bk) (v u : Value) (w : World) (hb : BookAt w.heap.size w v b) (hc : BookAt w.heap.size w u c) (he : errF b = 0) (hf : errF c ≠ 0) :
    Calls Tryz.prog 21 #[v, u] w fun e w' => e = .returned (.tuple #[.int .i64 0, .int .i64 (errF c)]) ∧ Below w.heap.size w w' := by
  have hb' := hb
  have hc' := hc
  obtain ⟨sv, rfl, hgs⟩ := hb
  obtain ⟨a, cap, rfl, -⟩ := hgs
  obtain ⟨sv2, rfl, hgs2⟩ := hc
  obtain ⟨a2, cap2, rfl, -⟩ := hgs2
  have hne : (errF c != 0) = true := by simp [hf]
  have HC := Lib.hid hc'
  clear hc'
  go_enter Tryz.func21, Tryz.ntmps21
  go_wp2_with fail
  refine (open_any b _ _ (hb'.below (B := w.heap.size) (by exact (by repeat (first | (refine Below.setCell ?_ ?_ _; rotate_left; · (first | omega | (simp; done) | (simp; omega) | fail)) | (refine Below.alloc ?_ ?_ _; rotate_left; · (first | omega | (simp; done) | (simp; omega) | fail)) | refine Below.drew ?_ | exact Below.refl _ _ | fail))) (Nat.le_refl _) |>.mono (by simp; try omega))).mono ?_
  rintro e w1 ⟨rfl, hb1⟩
  rw [openV_good he]
  have hb0 : Below w.heap.size w w1 := Below.trans (by exact (by repeat (first | (refine Below.setCell ?_ ?_ _; rotate_left; · (first | omega | (simp; done) | (simp; omega) | fail)) | (refine Below.alloc ?_ ?_ _; rotate_left; · (first | omega | (simp; done) | (simp; omega) | fail)) | refine Below.drew ?_ | exact Below.refl _ _ | fail))) (hb1.mono (by simp; try omega))
  have HB0 := Lib.hid hb0
  have hz := hb0.size
  have h3 : w1.heap[w.heap.size + 1]? = some (.cells #[.int .i64 c.signed, .slice a2 c.gs.length cap2] 24) := blk_later hb1 (by exact (by repeat (first | exact heap_alloc_at _ _ _ (by (first | omega | (simp; done) | (simp; omega) | fail)) | (refine (heap_alloc_past _ _ _ ?_).trans ?_; · (first | omega | (simp; done) | (simp; omega) | fail)) | fail)))
  have s3 := blk_lt h3
  have c0 := blk_cell h3 0; have c1 := blk_cell h3 1
  clear h3 hb1 hb0
  go_wp2_with fail
  refine (open_any c _ _ (HC.out.below (B := w.heap.size) (by exact (by repeat (first | (refine Below.setCell ?_ ?_ _; rotate_left; · (first | omega | (simp; done) | (simp; omega) | fail)) | (refine Below.alloc ?_ ?_ _; rotate_left; · (first | omega | (simp; done) | (simp; omega) | fail)) | refine Below.drew ?_ | exact HB0.out | fail))) (Nat.le_refl _) |>.mono (by simp; try omega))).mono ?_
  rintro e w2 ⟨rfl, hb2⟩
  rw [openV_bad hf]
  have hb0 : Below w.heap.size w w2 := Below.trans (by exact (by repeat (first | (refine Below.setCell ?_ ?_ _; rotate_left; · (first | omega | (simp; done) | (simp; omega) | fail)) | (refine Below.alloc ?_ ?_ _; rotate_left; · (first | omega | (simp; done) | (simp; omega) | fail)) | refine Below.drew ?_ | exact HB0.out | fail))) (hb2.mono (by simp; try omega))
  have hz2 := hb0.size
  go_wp2_with fail
  go_ret2
  exact ⟨rfl, (by repeat (first | (refine Below.setCell ?_ ?_ _; rotate_left; · (first | omega | (simp; done) | (simp; omega) | fail)) | (refine Below.alloc ?_ ?_ _; rotate_left; · (first | omega | (simp; done) | (simp; omega) | fail)) | refine Below.drew ?_ | exact hb0 | fail))⟩

/-- What the two lists of names leave. -/
def DifCut (w : World) (b c : Bk) (va vc : Value) (a0 a' : Act) (w' : World) : Prop :=
  ∃ v1 v2, Below w.heap.size w w' ∧ NmsAt w' v1 (namesF b) ∧ NmsAt w' v2 (namesF c) ∧ a' = { tmps := putAll a0.tmps [(29, va), (30, v1), (31, vc), (32, v2), (9, v1), (10, v2)], defers := [] }

set_option maxRecDepth 100000 in
set_option maxHeartbeats 1000000 in
theorem Differ_good (b c : Bk) (v u : Value) (w : World) (hb : BookAt w.heap.size w v b) (hc : BookAt w.heap.size w u c) (he : errF b = 0) (hf : errF c = 0) :
    Calls Tryz.prog 21 #[v, u] w fun e w' => e = .returned (differR (diffAt 0 (namesF b) (namesF c))) ∧ Below w.heap.size w w' := by
  have hb' := hb
  have hc' := hc
  obtain ⟨sv, rfl, hgs⟩ := hb
  obtain ⟨a, cap, rfl, -⟩ := hgs
  obtain ⟨sv2, rfl, hgs2⟩ := hc
  obtain ⟨a2, cap2, rfl, -⟩ := hgs2
  have HC := Lib.hid hc'
  have HB := Lib.hid hb'
  clear hc' hb'
  go_enter Tryz.func21, Tryz.ntmps21
  go_wp2_with fail
  refine (open_any b _ _ (HB.out.below (B := w.heap.size) (by exact (by repeat (first | (refine Below.setCell ?_ ?_ _; rotate_left; · (first | omega | (simp; done) | (simp; omega) | fail)) | (refine Below.alloc ?_ ?_ _; rotate_left; · (first | omega | (simp; done) | (simp; omega) | fail)) | refine Below.drew ?_ | exact Below.refl _ _ | fail))) (Nat.le_refl _) |>.mono (by simp; try omega))).mono ?_
  rintro e w1 ⟨rfl, hb1⟩
  rw [openV_good he]
  have hb0 : Below w.heap.size w w1 := Below.trans (by exact (by repeat (first | (refine Below.setCell ?_ ?_ _; rotate_left; · (first | omega | (simp; done) | (simp; omega) | fail)) | (refine Below.alloc ?_ ?_ _; rotate_left; · (first | omega | (simp; done) | (simp; omega) | fail)) | refine Below.drew ?_ | exact Below.refl _ _ | fail))) (hb1.mono (by simp; try omega))
  have HB0 := Lib.hid hb0
  have hz := hb0.size
  have h3 : w1.heap[w.heap.size + 1]? = some (.cells #[.int .i64 c.signed, .slice a2 c.gs.length cap2] 24) := blk_later hb1 (by exact (by repeat (first | exact heap_alloc_at _ _ _ (by (first | omega | (simp; done) | (simp; omega) | fail)) | (refine (heap_alloc_past _ _ _ ?_).trans ?_; · (first | omega | (simp; done) | (simp; omega) | fail)) | fail)))
  have s3 := blk_lt h3
  have c0 := blk_cell h3 0; have c1 := blk_cell h3 1
  clear h3 hb1 hb0
  go_wp2_with fail
  refine (open_any c _ _ (HC.out.below (B := w.heap.size) (by exact (by repeat (first | (refine Below.setCell ?_ ?_ _; rotate_left; · (first | omega | (simp; done) | (simp; omega) | fail)) | (refine Below.alloc ?_ ?_ _; rotate_left; · (first | omega | (simp; done) | (simp; omega) | fail)) | refine Below.drew ?_ | exact HB0.out | fail))) (Nat.le_refl _) |>.mono (by simp; try omega))).mono ?_
  rintro e w2 ⟨rfl, hb2⟩
  rw [openV_good hf]
  have hb0 : Below w.heap.size w w2 := Below.trans (by exact (by repeat (first | (refine Below.setCell ?_ ?_ _; rotate_left; · (first | omega | (simp; done) | (simp; omega) | fail)) | (refine Below.alloc ?_ ?_ _; rotate_left; · (first | omega | (simp; done) | (simp; omega) | fail)) | refine Below.drew ?_ | exact HB0.out | fail))) (hb2.mono (by simp; try omega))
  have hz2 := hb0.size
  have h6 : w2.heap[w1.heap.size]? = some (.cells #[.int .i64 b.signed, .slice a b.gs.length cap] 57) := blk_later hb2 (by exact (by repeat (first | exact heap_alloc_at _ _ _ (by (first | omega | (simp; done) | (simp; omega) | fail)) | (refine (heap_alloc_past _ _ _ ?_).trans ?_; · (first | omega | (simp; done) | (simp; omega) | fail)) | fail)))
  have s6 := blk_lt h6
  have H6 := Lib.hid h6
  have HB2 := Lib.hid hb0
  clear c0 c1 h6 hb2 hb0
  go_wp2_with fail
  obtain ⟨w3, hw3⟩ : ∃ w3, w3 = (w2.alloc (.cells #[.int .i64 c.signed, .slice a2 c.gs.length cap2] 57)).drew := ⟨_, rfl⟩
  obtain ⟨V, hV⟩ : ∃ V, V = w1.heap.size := ⟨_, rfl⟩
  obtain ⟨U, hU⟩ : ∃ U, U = w2.heap.size := ⟨_, rfl⟩
  have hh3 : Held w [(V, .cells #[.int .i64 b.signed, .slice a b.gs.length cap] 57), (U, .cells #[.int .i64 c.signed, .slice a2 c.gs.length cap2] 57)] w3 := by
    rw [hw3]
    refine ⟨by exact (by repeat (first | (refine Below.setCell ?_ ?_ _; rotate_left; · (first | omega | (simp; done) | (simp; omega) | fail)) | (refine Below.alloc ?_ ?_ _; rotate_left; · (first | omega | (simp; done) | (simp; omega) | fail)) | refine Below.drew ?_ | exact HB2.out | fail)), fun p hp => ?_⟩
    rw [hV, hU] at *
    (simp only [List.mem_cons, List.not_mem_nil, or_false] at hp)
    rcases hp with rfl | rfl
    · exact blk_drew (by repeat (first | (refine (heap_setCell_past _ _ _ _ ?_).trans ?_; · (first | omega | (simp; done) | (simp; omega) | fail)) | (refine (heap_alloc_past _ _ _ ?_).trans ?_; · (first | omega | (simp; done) | (simp; omega) | fail)) | exact H6.out | fail))
    · exact blk_drew (by repeat (first | exact heap_alloc_at _ _ _ (by (first | omega | (simp; done) | (simp; omega) | fail)) | (refine (heap_alloc_past _ _ _ ?_).trans ?_; · (first | omega | (simp; done) | (simp; omega) | fail)) | fail))
  have HH3 := Lib.hid hh3
  refine wp_cut (DifCut w b c (.agg #[.int .i64 b.signed, .slice a b.gs.length cap]) (.agg #[.int .i64 c.signed, .slice a2 c.gs.length cap2])) ?_ ?_
  · refine wpIn_region_orders (by kernel_rfl) [[0, 1, 2, 3, 4, 5], [0, 2, 1, 3, 4, 5], [2, 0, 1, 3, 4, 5]] (by kernel_rfl) ?_
    rw [← hw3, ← hV, ← hU]
    clear hw3 hV hU hh3
    have h6 := HH3.out.get 0 rfl
    have h8 := HH3.out.get 1 rfl
    have q0 := blk_cell h6 0; have q1 := blk_cell h6 1
    have u0 := blk_cell h8 0; have u1 := blk_cell h8 1
    simp only [List.forall_mem_cons]
    refine ⟨?_, ?_, ?_, fun _ h => by cases h⟩
    all_goals
      simp only [List.filterMap_cons, List.filterMap_nil, List.getElem?_toArray, List.getElem?_cons_zero, List.getElem?_cons_succ]
      change wpListIn _ _ _ _ _ [_, _, _, _, _, _] _ _
      gi_wp2_with fail
      refine ⟨trivial, ?_⟩
      refine (callsIn_wide.2 (names_any b _ _ (HB.out.below (B := w.heap.size) HH3.out.below (Nat.le_refl _) |>.mono HH3.out.below.size) he)).mono ?_
      rintro e w4 ⟨⟨v1, rfl, hr1⟩, hb4⟩
      have n1 : NmsAt w4 v1 (namesF b) := NmsAt.of_row (by rw [names_cells] at hr1; simpa [namesF] using hr1)
      have hh4 := HH3.out.below' hb4
      have N1 := Lib.hid n1
      have HH4 := Lib.hid hh4
      have h8 := hh4.get 1 rfl
      clear u0 u1
      have u0 := blk_cell h8 0; have u1 := blk_cell h8 1
      clear h8 h6 n1 hh4 hr1 hb4 q0 q1
      gi_wp2_with fail
      refine ⟨trivial, ?_⟩
      refine (callsIn_wide.2 (names_any c _ _ (HC.out.below (B := w.heap.size) HH4.out.below (Nat.le_refl _) |>.mono HH4.out.below.size) hf)).mono ?_
      rintro e w5 ⟨⟨v2, rfl, hr2⟩, hb5⟩
      have n2 : NmsAt w5 v2 (namesF c) := NmsAt.of_row (by rw [names_cells] at hr2; simpa [namesF] using hr2)
      have hF : Hid (Below w.heap.size w w5 ∧ NmsAt w5 v1 (namesF b) ∧ NmsAt w5 v2 (namesF c)) := ⟨(HH4.out.below' hb5).below, N1.out.later hb5, n2⟩
      clear hr2 n2 hb5 N1
      gi_wp2_with fail
      exact Cut.mk ⟨v1, v2, hF.out.1, hF.out.2.1, hF.out.2.2, by simp only [putAll, List.foldl_cons, List.foldl_nil, List.setIfInBounds_toArray, List.set_cons_succ, List.set_cons_zero]⟩
  · rintro a' w4 ⟨v1, v2, hb4, n1, n2, rfl⟩
    obtain ⟨ax, capx, rfl, hx⟩ := n1
    obtain ⟨ay, capy, rfl, hy⟩ := n2
    have HB4 := Lib.hid hb4
    have HX := Lib.hid hx
    have HY := Lib.hid hy
    clear hb4 hx hy hw3 hV hU HH3 hh3
    simp only [putAll, List.foldl_cons, List.foldl_nil, List.setIfInBounds_toArray, List.set_cons_succ, List.set_cons_zero]
    go_wp2_with fail
    obtain ⟨M, hM⟩ : ∃ M, M = min (namesF b).length (namesF c).length := ⟨_, rfl⟩
    have hMi : (min ((namesF b).length : Int) ((namesF c).length : Int)) = (M : Int) := by omega
    have hMb : M < 2000 := by
      have := (errF_zero he).len
      have := lvsFrom_len (i := 0) (errF_zero he).gs
      have : (namesF b).length = (lvs b).length := by simp [namesF]
      have : (lvs b).length ≤ b.gs.length * 65 := by unfold lvs; assumption
      omega
    rw [hMi]
    have HM := Lib.hid hM
    clear hM hMi
    go_loopw [39] (fun i wr => ∃ (k m : Nat), k ≤ M ∧ i = .int .i64 k ∧ wr = w4.drewN m ∧ Hid (diffAt 0 (namesF b) (namesF c) = diffAt k ((namesF b).drop k) ((namesF c).drop k))) (fun i _ => M - (intOf i).toNat)
    case atStart => exact ⟨0, 0, by omega, rfl, rfl, rfl⟩
    case round =>
      obtain ⟨k, m, hk, rfl, rfl, hh⟩ := hrel
      by_cases hlt : k < M
      · obtain ⟨x, hx⟩ : ∃ x, (namesF b)[k]? = some x := ⟨_, List.getElem?_eq_getElem (by have := HM.out; omega)⟩
        obtain ⟨y, hy⟩ : ∃ y, (namesF c)[k]? = some y := ⟨_, List.getElem?_eq_getElem (by have := HM.out; omega)⟩
        obtain ⟨gx, rfl, -, hcx⟩ := HX.out (fun e => by rw [e] at hx; cases hx)
        obtain ⟨gy, rfl, -, hcy⟩ := HY.out (fun e => by rw [e] at hy; cases hy)
        obtain ⟨x0, x1, x2, x3⟩ := hcx k x hx
        obtain ⟨y0, y1, y2, y3⟩ := hcy k y hy
        have hkx : k < (namesF b).length := (List.getElem?_eq_some_iff.1 hx).1
        have hky : k < (namesF c).length := (List.getElem?_eq_some_iff.1 hy).1
        have HXX := Lib.hid hx
        have HYY := Lib.hid hy
        clear hcx hcy hx hy
        go_wp2_with fail
        rcases quad_cases x y with rfl | ⟨hne, hcs⟩
        · go_quiet (fail)
          go_wp2_with fail
          go_roundw
          case rel => exact ⟨k + 1, m + nq, by omega, by go_num, rfl, hh.out.trans (diff_step HXX.out HYY.out rfl)⟩
          case measure => simp [intOf]; omega
        · have HF : Hid (diffAt 0 (namesF b) (namesF c) = some k) := hh.out.trans (diff_stop HXX.out HYY.out hne)
          clear hh hne HXX HYY
          rcases hcs with h1 | ⟨h1, h2⟩ | ⟨h1, h2, h3⟩ | ⟨h1, h2, h3, h4⟩
          all_goals
            go_quiet (fail)
            go_wp2_with fail
            go_ret2
            exact ⟨by rw [HF.out]; rfl, bdrewN (bdrewN HB4.out _) _⟩
      · obtain rfl : k = M := by omega
        have HF := Lib.hid (hh.out.trans (diff_end HM.out))
        clear hh
        by_cases hl : (namesF b).length = (namesF c).length
        · rw [if_pos hl] at HF
          have hlb : ((namesF b).length : Int) = ((namesF c).length : Int) := by omega
          have HL := Lib.hid hl
          clear hl
          go_wp2_with fail
          go_ret2
          exact ⟨by rw [HF.out]; rfl, bdrewN HB4.out _⟩
        · rw [if_neg hl] at HF
          have hlb : ¬ ((namesF b).length : Int) = ((namesF c).length : Int) := by omega
          go_wp2_with fail
          go_ret2
          exact ⟨by rw [HF.out]; rfl, bdrewN HB4.out _⟩

end Go.Proofs.YtlfglbnbenaghaaGreatDoor
