/- The parts Aa of the proof, joined. It holds without conditions of its own. -/
import Derived.Test.YtlfglbnbenaghaaGreatDoorTX20
import Derived.Test.YtlfglbnbenaghaaGreatDoorTX7
import Derived.Deep.RegionHeld3
import Derived.StillTailTactics
/- The law's own small functions: a signature, a gathering, the book of the examples. -/
namespace Go.Proofs.YtlfglbnbenaghaaGreatDoor
set_option linter.unusedSimpArgs false
set_option linter.unusedVariables false
open Go Go.RowKit Go.Sort Go.BigFrame

set_option maxHeartbeats 400000 in
theorem lawSig_any (r l : Int) (w : World) :
    Calls Tryz.prog 36 #[.int .i64 r, .int .i64 l] w fun e w' => e = .returned (.agg #[.int .i64 r, .int .i64 l]) ∧ Below w.heap.size w w' := by
  go_enter Tryz.func36, Tryz.ntmps36
  go_wp2_with fail
  exact bodyPost_ret (v := .agg #[.int .i64 r, .int .i64 l]) (by simp [results, Tryz.results36, go_sem]) rfl ⟨rfl, (by repeat (first | exact Below.refl _ _ | assumption | (refine Below.alloc ?_ ?_ _; rotate_left; · (first | omega | (simp; done) | (simp; omega) | (simp at *; omega) | fail)) | (refine Below.setCell ?_ ?_ _; rotate_left; · (first | omega | (simp; done) | (simp; omega) | (simp at *; omega) | fail)) | refine Below.drew ?_ | fail))⟩
set_option maxHeartbeats 400000 in
theorem lawFolded_any (l n : Int) (w : World) :
    Calls Tryz.prog 71 #[.int .i64 l, .int .i64 n] w fun e w' => e = .returned (.agg #[.int .i64 1, .int .i64 l, .int .i64 n, .slice none 0 0]) ∧ Below w.heap.size w w' := by
  go_enter Tryz.func71, Tryz.ntmps71
  go_wp2_with fail
  refine (lawSig_any 1 l _).mono ?_
  rintro e w1 ⟨rfl, hb⟩
  have hq : w1.heap[w.heap.size]? = some (.cells #[.int .i64 0, .int .i64 0, .int .i64 0, .slice none 0 0] 42) := blk_later hb (by repeat (first | exact heap_alloc_at _ _ _ (by (first | omega | (simp; done) | (simp; omega) | fail)) | (refine (heap_alloc_past _ _ _ ?_).trans ?_; · (first | omega | (simp; done) | (simp; omega) | fail)) | fail))
  have hb1 := Below.trans (show Below w.heap.size w (w.alloc (.cells #[.int .i64 0, .int .i64 0, .int .i64 0, .slice none 0 0] 42)) from (by repeat (first | exact Below.refl _ _ | assumption | (refine Below.alloc ?_ ?_ _; rotate_left; · (first | omega | (simp; done) | (simp; omega) | fail)) | (refine Below.setCell ?_ ?_ _; rotate_left; · (first | omega | (simp; done) | (simp; omega) | fail)) | refine Below.drew ?_ | fail))) (hb.mono (by simp))
  have c0 := blk_cell hq 0; have c1 := blk_cell hq 1; have c2 := blk_cell hq 2; have c3 := blk_cell hq 3
  have f0 := blk_free hq 0; have f1 := blk_free hq 1; have f2 := blk_free hq 2; have f3 := blk_free hq 3
  clear hb hq
  go_wp2_with fail
  exact bodyPost_ret (v := .agg #[.int .i64 1, .int .i64 l, .int .i64 n, .slice none 0 0]) (by simp [results, Tryz.results71, go_sem, c0, c1, c2, c3]) rfl ⟨rfl, (by repeat (first | (refine Below.setCell ?_ ?_ _; rotate_left; · (first | omega | (simp; done) | (simp; omega) | fail)) | (refine Below.alloc ?_ ?_ _; rotate_left; · (first | omega | (simp; done) | (simp; omega) | fail)) | refine Below.drew ?_ | exact hb1 | fail))⟩

/-- What the region of Book leaves. -/
def BookCut (w : World) (R C : Nat) (sv : Value) (a0 a' : Act) (w' : World) : Prop :=
  ∃ G, C < G ∧ Below w.heap.size w w' ∧ w'.heap[R]? = some (.cells #[.int .i64 4, .slice (some ⟨G, 0, none⟩) 6 6] 24) ∧ w'.heap[C]? = some (.cells exChCells 44) ∧
    w'.heap[G]? = some (.cells (exCells sv) 42) ∧
    a' = { tmps := putAll a0.tmps [(19, .agg #[.int .i64 1, .int .i64 23, .int .i64 2, .slice none 0 0]), (20, .agg #[.int .i64 1, .int .i64 0, .int .i64 8, .slice none 0 0]), (21, .agg #[.int .i64 1, .int .i64 1, .int .i64 8, .slice none 0 0]), (22, .agg #[.int .i64 1, .int .i64 2, .int .i64 8, .slice none 0 0]), (23, .agg #[.int .i64 1, .int .i64 3, .int .i64 8, sv]), (24, .agg #[.int .i64 1, .int .i64 24, .int .i64 1, .slice none 0 0]), (25, .slice (some ⟨G, 0, none⟩) 6 6), (26, .agg #[.int .i64 4, .slice (some ⟨G, 0, none⟩) 6 6])], defers := [] }

/-- What a call of Book leaves: the book's gatherings and the changes of D, in new blocks. -/
def BookC (L : Nat) (w : World) (e : Ending) (w' : World) : Prop :=
  (∃ G C, e = .returned (.agg #[.int .i64 4, .slice (some ⟨G, 0, none⟩) 6 6]) ∧ w.heap.size ≤ C ∧ C < G ∧ w'.heap[C]? = some (.cells exChCells 44) ∧
    w'.heap[G]? = some (.cells (exCells (.slice (some ⟨C, 0, none⟩) L 3)) 42)) ∧ Below w.heap.size w w'
set_option maxRecDepth 100000 in
set_option maxHeartbeats 4000000 in
theorem lawBookC_0 (w : World) :
    Calls Tryz.prog 33 #[.int .i64 0] w (BookC 3 w) := by
    go_enter Tryz.func33, Tryz.ntmps33
    go_wp2_with fail
    refine (lawFolded_any 3 8 _).mono ?_
    rintro e w1 ⟨rfl, hb⟩
    go_wp2_with fail
    obtain ⟨R, hR⟩ : ∃ R, R = w.heap.size := ⟨_, rfl⟩
    obtain ⟨M, hM⟩ : ∃ M, M = w1.heap.size := ⟨_, rfl⟩
    have hr1 : w1.heap[w.heap.size]? = some (.cells #[.int .i64 0, .slice none 0 0] 24) := blk_later hb (by exact (by repeat (first | exact heap_alloc_at _ _ _ (by (first | omega | (simp; done) | (simp; omega) | fail)) | (refine (heap_alloc_past _ _ _ ?_).trans ?_; · (first | omega | (simp; done) | (simp; omega) | fail)) | fail)))
    have hb1 : Below w.heap.size w w1 := Below.trans (show Below w.heap.size w (w.alloc (.cells #[.int .i64 0, .slice none 0 0] 24)) from (by exact (by repeat (first | exact Below.refl _ _ | assumption | (refine Below.alloc ?_ ?_ _; rotate_left; · (first | omega | (simp; done) | (simp; omega) | fail)) | (refine Below.setCell ?_ ?_ _; rotate_left; · (first | omega | (simp; done) | (simp; omega) | fail)) | refine Below.drew ?_ | fail)))) (hb.mono (by simp))
    have hs1 : w.heap.size < w1.heap.size := blk_lt hr1
    obtain ⟨w2, hw2⟩ : ∃ w2, w2 = (w1.alloc (.cells #[.int .i64 1, .int .i64 3, .int .i64 8, .slice (some ⟨w1.heap.size + 1, 0, none⟩) 3 3] 42)).alloc (.cells #[.int .i64 1, .int .i64 3, .int .i64 0, .int .i64 2, .int .i64 5, .int .i64 0, .int .i64 3, .int .i64 8, .int .i64 1] 44) := ⟨_, rfl⟩
    have hb2 : Below w.heap.size w w2 := by rw [hw2]; exact (by repeat (first | (refine Below.setCell ?_ ?_ _; rotate_left; · (first | omega | (simp; done) | (simp; omega) | fail)) | (refine Below.alloc ?_ ?_ _; rotate_left; · (first | omega | (simp; done) | (simp; omega) | fail)) | refine Below.drew ?_ | exact hb1 | fail))
    have hr2 : w2.heap[R]? = some (.cells #[.int .i64 0, .slice none 0 0] 24) := by rw [hw2, hR]; exact (by repeat (first | (refine (heap_setCell_past _ _ _ _ ?_).trans ?_; · (first | omega | (simp; done) | (simp; omega) | fail)) | (refine (heap_alloc_past _ _ _ ?_).trans ?_; · (first | omega | (simp; done) | (simp; omega) | fail)) | exact hr1 | fail))
    have hm2 : w2.heap[M]? = some (.cells #[.int .i64 1, .int .i64 3, .int .i64 8, .slice (some ⟨M + 1, 0, none⟩) 3 3] 42) := by rw [hw2, hM]; exact (by repeat (first | exact heap_alloc_at _ _ _ (by (first | omega | (simp; done) | (simp; omega) | fail)) | (refine (heap_alloc_past _ _ _ ?_).trans ?_; · (first | omega | (simp; done) | (simp; omega) | fail)) | fail))
    have hc2 : w2.heap[M + 1]? = some (.cells #[.int .i64 1, .int .i64 3, .int .i64 0, .int .i64 2, .int .i64 5, .int .i64 0, .int .i64 3, .int .i64 8, .int .i64 1] 44) := by rw [hw2, hM]; exact (by repeat (first | exact heap_alloc_at _ _ _ (by (first | omega | (simp; done) | (simp; omega) | fail)) | (refine (heap_alloc_past _ _ _ ?_).trans ?_; · (first | omega | (simp; done) | (simp; omega) | fail)) | fail))
    have HB := Lib.hid hb2
    have HR := Lib.hid hr2
    have HM := Lib.hid hm2
    have HC : Hid (w2.heap[M + 1]? = some (.cells exChCells 44)) := Lib.hid hc2
    have hz := hb2.size
    have hsR : R < M := by omega
    have hMR : w.heap.size ≤ R := by omega
    clear hb hr1 hb1 hb2 hr2 hm2 hc2
    refine wp_cut (BookCut w R (M + 1) (.slice (some ⟨M + 1, 0, none⟩) 3 3)) ?_ ?_
    · refine wpIn_region_orders (by kernel_rfl) [[0, 1, 2, 3, 4, 5, 6, 7, 8], [0, 1, 2, 3, 5, 4, 6, 7, 8], [0, 1, 2, 4, 3, 5, 6, 7, 8], [0, 1, 4, 2, 3, 5, 6, 7, 8], [0, 4, 1, 2, 3, 5, 6, 7, 8], [4, 0, 1, 2, 3, 5, 6, 7, 8]] (by kernel_rfl) ?_
      rw [← hw2]
      simp only [← hM, ← hR]
      clear hw2 hM hs1 hR
      have c0 := blk_cell HM.out 0; have c1 := blk_cell HM.out 1; have c2 := blk_cell HM.out 2; have c3 := blk_cell HM.out 3
      simp only [List.forall_mem_cons]
      refine ⟨?_, ?_, ?_, ?_, ?_, ?_, fun _ h => by cases h⟩
      all_goals
        simp only [List.filterMap_cons, List.filterMap_nil, List.getElem?_toArray, List.getElem?_cons_zero, List.getElem?_cons_succ]
        change wpListIn _ _ _ _ _ [_, _, _, _, _, _, _, _, _] _ _
        gi_wp2_with fail
        refine ⟨trivial, ?_⟩
        refine (callsIn_wide.2 (lawFolded_any _ _ _)).mono ?_
        rintro e w3 ⟨rfl, hb⟩
        have HM3 := Lib.hid (blk_later hb HM.out)
        have HC3 := Lib.hid (blk_later hb HC.out)
        have HR3 := Lib.hid (blk_later hb HR.out)
        have HB3 := Lib.hid (Below.trans (show Below w.heap.size w _ by exact (by repeat (first | (refine Below.setCell ?_ ?_ _; rotate_left; · (first | omega | (simp; done) | (simp; omega) | fail)) | (refine Below.alloc ?_ ?_ _; rotate_left; · (first | omega | (simp; done) | (simp; omega) | fail)) | refine Below.drew ?_ | exact HB.out | fail))) (hb.mono hz))
        have hz3 := HB3.out.size
        clear hb c0 c1 c2 c3
        have c0 := blk_cell HM3.out 0; have c1 := blk_cell HM3.out 1; have c2 := blk_cell HM3.out 2; have c3 := blk_cell HM3.out 3
        gi_wp2_with fail
        refine ⟨trivial, ?_⟩
        refine (callsIn_wide.2 (lawFolded_any _ _ _)).mono ?_
        rintro e w4 ⟨rfl, hb⟩
        have HM4 := Lib.hid (blk_later hb HM3.out)
        have HC4 := Lib.hid (blk_later hb HC3.out)
        have HR4 := Lib.hid (blk_later hb HR3.out)
        have HB4 := Lib.hid (Below.trans (show Below w.heap.size w _ by exact (by repeat (first | (refine Below.setCell ?_ ?_ _; rotate_left; · (first | omega | (simp; done) | (simp; omega) | fail)) | (refine Below.alloc ?_ ?_ _; rotate_left; · (first | omega | (simp; done) | (simp; omega) | fail)) | refine Below.drew ?_ | exact HB3.out | fail))) (hb.mono hz3))
        have hz4 := HB4.out.size
        clear hb c0 c1 c2 c3
        have c0 := blk_cell HM4.out 0; have c1 := blk_cell HM4.out 1; have c2 := blk_cell HM4.out 2; have c3 := blk_cell HM4.out 3
        gi_wp2_with fail
        refine ⟨trivial, ?_⟩
        refine (callsIn_wide.2 (lawFolded_any _ _ _)).mono ?_
        rintro e w5 ⟨rfl, hb⟩
        have HM5 := Lib.hid (blk_later hb HM4.out)
        have HC5 := Lib.hid (blk_later hb HC4.out)
        have HR5 := Lib.hid (blk_later hb HR4.out)
        have HB5 := Lib.hid (Below.trans (show Below w.heap.size w _ by exact (by repeat (first | (refine Below.setCell ?_ ?_ _; rotate_left; · (first | omega | (simp; done) | (simp; omega) | fail)) | (refine Below.alloc ?_ ?_ _; rotate_left; · (first | omega | (simp; done) | (simp; omega) | fail)) | refine Below.drew ?_ | exact HB4.out | fail))) (hb.mono hz4))
        have hz5 := HB5.out.size
        clear hb c0 c1 c2 c3
        have c0 := blk_cell HM5.out 0; have c1 := blk_cell HM5.out 1; have c2 := blk_cell HM5.out 2; have c3 := blk_cell HM5.out 3
        gi_wp2_with fail
        refine ⟨trivial, ?_⟩
        refine (callsIn_wide.2 (lawFolded_any _ _ _)).mono ?_
        rintro e w6 ⟨rfl, hb⟩
        have HM6 := Lib.hid (blk_later hb HM5.out)
        have HC6 := Lib.hid (blk_later hb HC5.out)
        have HR6 := Lib.hid (blk_later hb HR5.out)
        have HB6 := Lib.hid (Below.trans (show Below w.heap.size w _ by exact (by repeat (first | (refine Below.setCell ?_ ?_ _; rotate_left; · (first | omega | (simp; done) | (simp; omega) | fail)) | (refine Below.alloc ?_ ?_ _; rotate_left; · (first | omega | (simp; done) | (simp; omega) | fail)) | refine Below.drew ?_ | exact HB5.out | fail))) (hb.mono hz5))
        have hz6 := HB6.out.size
        clear hb c0 c1 c2 c3
        have c0 := blk_cell HM6.out 0; have c1 := blk_cell HM6.out 1; have c2 := blk_cell HM6.out 2; have c3 := blk_cell HM6.out 3
        gi_wp2_with fail
        refine ⟨trivial, ?_⟩
        refine (callsIn_wide.2 (lawFolded_any _ _ _)).mono ?_
        rintro e w7 ⟨rfl, hb⟩
        have HM7 := Lib.hid (blk_later hb HM6.out)
        have HC7 := Lib.hid (blk_later hb HC6.out)
        have HR7 := Lib.hid (blk_later hb HR6.out)
        have HB7 := Lib.hid (Below.trans (show Below w.heap.size w _ by exact (by repeat (first | (refine Below.setCell ?_ ?_ _; rotate_left; · (first | omega | (simp; done) | (simp; omega) | fail)) | (refine Below.alloc ?_ ?_ _; rotate_left; · (first | omega | (simp; done) | (simp; omega) | fail)) | refine Below.drew ?_ | exact HB6.out | fail))) (hb.mono hz6))
        have hz7 := HB7.out.size
        clear hb c0 c1 c2 c3
        have c0 := blk_cell HM7.out 0; have c1 := blk_cell HM7.out 1; have c2 := blk_cell HM7.out 2; have c3 := blk_cell HM7.out 3
        have d0 := blk_cell HR7.out 0; have d1 := blk_cell HR7.out 1
        have f0 := blk_free HR7.out 0; have f1 := blk_free HR7.out 1
        have hsz : R < w7.heap.size := blk_lt HR7.out
        have hsy : M + 1 < w7.heap.size := blk_lt HC7.out
        gi_wp2_with fail
        exact Cut.mk ⟨w7.heap.size, hsy, by exact (by repeat (first | (refine Below.setCell ?_ ?_ _; rotate_left; · (first | omega | (simp; done) | (simp; omega) | fail)) | (refine Below.alloc ?_ ?_ _; rotate_left; · (first | omega | (simp; done) | (simp; omega) | fail)) | refine Below.drew ?_ | exact HB7.out | fail)), by exact (by repeat (first | (refine (heap_setCell_past _ _ _ _ ?_).trans ?_; · (first | omega | (simp; done) | (simp; omega) | fail)) | (refine (heap_alloc_past _ _ _ ?_).trans ?_; · (first | omega | (simp; done) | (simp; omega) | fail)) | exact blk_set (blk_set HR7.out 0 _) 1 _ | fail)), by exact (by repeat (first | (refine (heap_setCell_past _ _ _ _ ?_).trans ?_; · (first | omega | (simp; done) | (simp; omega) | fail)) | (refine (heap_alloc_past _ _ _ ?_).trans ?_; · (first | omega | (simp; done) | (simp; omega) | fail)) | exact HC7.out | fail)), by exact (by repeat (first | exact heap_alloc_at _ _ _ (by (first | omega | (simp; done) | (simp; omega) | fail)) | (refine (heap_alloc_past _ _ _ ?_).trans ?_; · (first | omega | (simp; done) | (simp; omega) | fail)) | fail)), by simp only [putAll, List.foldl_cons, List.foldl_nil, List.setIfInBounds_toArray, List.set_cons_succ, List.set_cons_zero]⟩
    · rintro a' w3 ⟨G, hcg, hb3, hr3, hc3, hg3, rfl⟩
      have HB3 := Lib.hid hb3
      have HR3 := Lib.hid hr3
      have HC3 := Lib.hid hc3
      have HG3 := Lib.hid hg3
      clear hb3 hr3 hc3 hg3 hM hw2
      subst hR
      simp only [putAll, List.foldl_cons, List.foldl_nil, List.setIfInBounds_toArray, List.set_cons_succ, List.set_cons_zero]
      have c0 := blk_cell HR3.out 0; have c1 := blk_cell HR3.out 1
      go_wp2_with fail
      exact bodyPost_ret (v := .agg #[.int .i64 4, .slice (some ⟨G, 0, none⟩) 6 6]) (by simp [results, Tryz.results33, go_sem, c0, c1]) rfl ⟨⟨G, M + 1, rfl, by omega, hcg, HC3.out, HG3.out⟩, HB3.out⟩
set_option maxRecDepth 100000 in
set_option maxHeartbeats 4000000 in
theorem lawBookC_1 (w : World) :
    Calls Tryz.prog 33 #[.int .i64 1] w (BookC 2 w) := by
    go_enter Tryz.func33, Tryz.ntmps33
    go_wp2_with fail
    refine (lawFolded_any 3 8 _).mono ?_
    rintro e w1 ⟨rfl, hb⟩
    go_wp2_with fail
    obtain ⟨R, hR⟩ : ∃ R, R = w.heap.size := ⟨_, rfl⟩
    obtain ⟨M, hM⟩ : ∃ M, M = w1.heap.size := ⟨_, rfl⟩
    have hr1 : w1.heap[w.heap.size]? = some (.cells #[.int .i64 0, .slice none 0 0] 24) := blk_later hb (by exact (by repeat (first | exact heap_alloc_at _ _ _ (by (first | omega | (simp; done) | (simp; omega) | fail)) | (refine (heap_alloc_past _ _ _ ?_).trans ?_; · (first | omega | (simp; done) | (simp; omega) | fail)) | fail)))
    have hb1 : Below w.heap.size w w1 := Below.trans (show Below w.heap.size w (w.alloc (.cells #[.int .i64 0, .slice none 0 0] 24)) from (by exact (by repeat (first | exact Below.refl _ _ | assumption | (refine Below.alloc ?_ ?_ _; rotate_left; · (first | omega | (simp; done) | (simp; omega) | fail)) | (refine Below.setCell ?_ ?_ _; rotate_left; · (first | omega | (simp; done) | (simp; omega) | fail)) | refine Below.drew ?_ | fail)))) (hb.mono (by simp))
    have hs1 : w.heap.size < w1.heap.size := blk_lt hr1
    obtain ⟨w2, hw2⟩ : ∃ w2, w2 = (w1.alloc (.cells #[.int .i64 1, .int .i64 3, .int .i64 8, .slice (some ⟨w1.heap.size + 1, 0, none⟩) 2 3] 42)).alloc (.cells #[.int .i64 1, .int .i64 3, .int .i64 0, .int .i64 2, .int .i64 5, .int .i64 0, .int .i64 3, .int .i64 8, .int .i64 1] 44) := ⟨_, rfl⟩
    have hb2 : Below w.heap.size w w2 := by rw [hw2]; exact (by repeat (first | (refine Below.setCell ?_ ?_ _; rotate_left; · (first | omega | (simp; done) | (simp; omega) | fail)) | (refine Below.alloc ?_ ?_ _; rotate_left; · (first | omega | (simp; done) | (simp; omega) | fail)) | refine Below.drew ?_ | exact hb1 | fail))
    have hr2 : w2.heap[R]? = some (.cells #[.int .i64 0, .slice none 0 0] 24) := by rw [hw2, hR]; exact (by repeat (first | (refine (heap_setCell_past _ _ _ _ ?_).trans ?_; · (first | omega | (simp; done) | (simp; omega) | fail)) | (refine (heap_alloc_past _ _ _ ?_).trans ?_; · (first | omega | (simp; done) | (simp; omega) | fail)) | exact hr1 | fail))
    have hm2 : w2.heap[M]? = some (.cells #[.int .i64 1, .int .i64 3, .int .i64 8, .slice (some ⟨M + 1, 0, none⟩) 2 3] 42) := by rw [hw2, hM]; exact (by repeat (first | exact heap_alloc_at _ _ _ (by (first | omega | (simp; done) | (simp; omega) | fail)) | (refine (heap_alloc_past _ _ _ ?_).trans ?_; · (first | omega | (simp; done) | (simp; omega) | fail)) | fail))
    have hc2 : w2.heap[M + 1]? = some (.cells #[.int .i64 1, .int .i64 3, .int .i64 0, .int .i64 2, .int .i64 5, .int .i64 0, .int .i64 3, .int .i64 8, .int .i64 1] 44) := by rw [hw2, hM]; exact (by repeat (first | exact heap_alloc_at _ _ _ (by (first | omega | (simp; done) | (simp; omega) | fail)) | (refine (heap_alloc_past _ _ _ ?_).trans ?_; · (first | omega | (simp; done) | (simp; omega) | fail)) | fail))
    have HB := Lib.hid hb2
    have HR := Lib.hid hr2
    have HM := Lib.hid hm2
    have HC : Hid (w2.heap[M + 1]? = some (.cells exChCells 44)) := Lib.hid hc2
    have hz := hb2.size
    have hsR : R < M := by omega
    have hMR : w.heap.size ≤ R := by omega
    clear hb hr1 hb1 hb2 hr2 hm2 hc2
    refine wp_cut (BookCut w R (M + 1) (.slice (some ⟨M + 1, 0, none⟩) 2 3)) ?_ ?_
    · refine wpIn_region_orders (by kernel_rfl) [[0, 1, 2, 3, 4, 5, 6, 7, 8], [0, 1, 2, 3, 5, 4, 6, 7, 8], [0, 1, 2, 4, 3, 5, 6, 7, 8], [0, 1, 4, 2, 3, 5, 6, 7, 8], [0, 4, 1, 2, 3, 5, 6, 7, 8], [4, 0, 1, 2, 3, 5, 6, 7, 8]] (by kernel_rfl) ?_
      rw [← hw2]
      simp only [← hM, ← hR]
      clear hw2 hM hs1 hR
      have c0 := blk_cell HM.out 0; have c1 := blk_cell HM.out 1; have c2 := blk_cell HM.out 2; have c3 := blk_cell HM.out 3
      simp only [List.forall_mem_cons]
      refine ⟨?_, ?_, ?_, ?_, ?_, ?_, fun _ h => by cases h⟩
      all_goals
        simp only [List.filterMap_cons, List.filterMap_nil, List.getElem?_toArray, List.getElem?_cons_zero, List.getElem?_cons_succ]
        change wpListIn _ _ _ _ _ [_, _, _, _, _, _, _, _, _] _ _
        gi_wp2_with fail
        refine ⟨trivial, ?_⟩
        refine (callsIn_wide.2 (lawFolded_any _ _ _)).mono ?_
        rintro e w3 ⟨rfl, hb⟩
        have HM3 := Lib.hid (blk_later hb HM.out)
        have HC3 := Lib.hid (blk_later hb HC.out)
        have HR3 := Lib.hid (blk_later hb HR.out)
        have HB3 := Lib.hid (Below.trans (show Below w.heap.size w _ by exact (by repeat (first | (refine Below.setCell ?_ ?_ _; rotate_left; · (first | omega | (simp; done) | (simp; omega) | fail)) | (refine Below.alloc ?_ ?_ _; rotate_left; · (first | omega | (simp; done) | (simp; omega) | fail)) | refine Below.drew ?_ | exact HB.out | fail))) (hb.mono hz))
        have hz3 := HB3.out.size
        clear hb c0 c1 c2 c3
        have c0 := blk_cell HM3.out 0; have c1 := blk_cell HM3.out 1; have c2 := blk_cell HM3.out 2; have c3 := blk_cell HM3.out 3
        gi_wp2_with fail
        refine ⟨trivial, ?_⟩
        refine (callsIn_wide.2 (lawFolded_any _ _ _)).mono ?_
        rintro e w4 ⟨rfl, hb⟩
        have HM4 := Lib.hid (blk_later hb HM3.out)
        have HC4 := Lib.hid (blk_later hb HC3.out)
        have HR4 := Lib.hid (blk_later hb HR3.out)
        have HB4 := Lib.hid (Below.trans (show Below w.heap.size w _ by exact (by repeat (first | (refine Below.setCell ?_ ?_ _; rotate_left; · (first | omega | (simp; done) | (simp; omega) | fail)) | (refine Below.alloc ?_ ?_ _; rotate_left; · (first | omega | (simp; done) | (simp; omega) | fail)) | refine Below.drew ?_ | exact HB3.out | fail))) (hb.mono hz3))
        have hz4 := HB4.out.size
        clear hb c0 c1 c2 c3
        have c0 := blk_cell HM4.out 0; have c1 := blk_cell HM4.out 1; have c2 := blk_cell HM4.out 2; have c3 := blk_cell HM4.out 3
        gi_wp2_with fail
        refine ⟨trivial, ?_⟩
        refine (callsIn_wide.2 (lawFolded_any _ _ _)).mono ?_
        rintro e w5 ⟨rfl, hb⟩
        have HM5 := Lib.hid (blk_later hb HM4.out)
        have HC5 := Lib.hid (blk_later hb HC4.out)
        have HR5 := Lib.hid (blk_later hb HR4.out)
        have HB5 := Lib.hid (Below.trans (show Below w.heap.size w _ by exact (by repeat (first | (refine Below.setCell ?_ ?_ _; rotate_left; · (first | omega | (simp; done) | (simp; omega) | fail)) | (refine Below.alloc ?_ ?_ _; rotate_left; · (first | omega | (simp; done) | (simp; omega) | fail)) | refine Below.drew ?_ | exact HB4.out | fail))) (hb.mono hz4))
        have hz5 := HB5.out.size
        clear hb c0 c1 c2 c3
        have c0 := blk_cell HM5.out 0; have c1 := blk_cell HM5.out 1; have c2 := blk_cell HM5.out 2; have c3 := blk_cell HM5.out 3
        gi_wp2_with fail
        refine ⟨trivial, ?_⟩
        refine (callsIn_wide.2 (lawFolded_any _ _ _)).mono ?_
        rintro e w6 ⟨rfl, hb⟩
        have HM6 := Lib.hid (blk_later hb HM5.out)
        have HC6 := Lib.hid (blk_later hb HC5.out)
        have HR6 := Lib.hid (blk_later hb HR5.out)
        have HB6 := Lib.hid (Below.trans (show Below w.heap.size w _ by exact (by repeat (first | (refine Below.setCell ?_ ?_ _; rotate_left; · (first | omega | (simp; done) | (simp; omega) | fail)) | (refine Below.alloc ?_ ?_ _; rotate_left; · (first | omega | (simp; done) | (simp; omega) | fail)) | refine Below.drew ?_ | exact HB5.out | fail))) (hb.mono hz5))
        have hz6 := HB6.out.size
        clear hb c0 c1 c2 c3
        have c0 := blk_cell HM6.out 0; have c1 := blk_cell HM6.out 1; have c2 := blk_cell HM6.out 2; have c3 := blk_cell HM6.out 3
        gi_wp2_with fail
        refine ⟨trivial, ?_⟩
        refine (callsIn_wide.2 (lawFolded_any _ _ _)).mono ?_
        rintro e w7 ⟨rfl, hb⟩
        have HM7 := Lib.hid (blk_later hb HM6.out)
        have HC7 := Lib.hid (blk_later hb HC6.out)
        have HR7 := Lib.hid (blk_later hb HR6.out)
        have HB7 := Lib.hid (Below.trans (show Below w.heap.size w _ by exact (by repeat (first | (refine Below.setCell ?_ ?_ _; rotate_left; · (first | omega | (simp; done) | (simp; omega) | fail)) | (refine Below.alloc ?_ ?_ _; rotate_left; · (first | omega | (simp; done) | (simp; omega) | fail)) | refine Below.drew ?_ | exact HB6.out | fail))) (hb.mono hz6))
        have hz7 := HB7.out.size
        clear hb c0 c1 c2 c3
        have c0 := blk_cell HM7.out 0; have c1 := blk_cell HM7.out 1; have c2 := blk_cell HM7.out 2; have c3 := blk_cell HM7.out 3
        have d0 := blk_cell HR7.out 0; have d1 := blk_cell HR7.out 1
        have f0 := blk_free HR7.out 0; have f1 := blk_free HR7.out 1
        have hsz : R < w7.heap.size := blk_lt HR7.out
        have hsy : M + 1 < w7.heap.size := blk_lt HC7.out
        gi_wp2_with fail
        exact Cut.mk ⟨w7.heap.size, hsy, by exact (by repeat (first | (refine Below.setCell ?_ ?_ _; rotate_left; · (first | omega | (simp; done) | (simp; omega) | fail)) | (refine Below.alloc ?_ ?_ _; rotate_left; · (first | omega | (simp; done) | (simp; omega) | fail)) | refine Below.drew ?_ | exact HB7.out | fail)), by exact (by repeat (first | (refine (heap_setCell_past _ _ _ _ ?_).trans ?_; · (first | omega | (simp; done) | (simp; omega) | fail)) | (refine (heap_alloc_past _ _ _ ?_).trans ?_; · (first | omega | (simp; done) | (simp; omega) | fail)) | exact blk_set (blk_set HR7.out 0 _) 1 _ | fail)), by exact (by repeat (first | (refine (heap_setCell_past _ _ _ _ ?_).trans ?_; · (first | omega | (simp; done) | (simp; omega) | fail)) | (refine (heap_alloc_past _ _ _ ?_).trans ?_; · (first | omega | (simp; done) | (simp; omega) | fail)) | exact HC7.out | fail)), by exact (by repeat (first | exact heap_alloc_at _ _ _ (by (first | omega | (simp; done) | (simp; omega) | fail)) | (refine (heap_alloc_past _ _ _ ?_).trans ?_; · (first | omega | (simp; done) | (simp; omega) | fail)) | fail)), by simp only [putAll, List.foldl_cons, List.foldl_nil, List.setIfInBounds_toArray, List.set_cons_succ, List.set_cons_zero]⟩
    · rintro a' w3 ⟨G, hcg, hb3, hr3, hc3, hg3, rfl⟩
      have HB3 := Lib.hid hb3
      have HR3 := Lib.hid hr3
      have HC3 := Lib.hid hc3
      have HG3 := Lib.hid hg3
      clear hb3 hr3 hc3 hg3 hM hw2
      subst hR
      simp only [putAll, List.foldl_cons, List.foldl_nil, List.setIfInBounds_toArray, List.set_cons_succ, List.set_cons_zero]
      have c0 := blk_cell HR3.out 0; have c1 := blk_cell HR3.out 1
      go_wp2_with fail
      exact bodyPost_ret (v := .agg #[.int .i64 4, .slice (some ⟨G, 0, none⟩) 6 6]) (by simp [results, Tryz.results33, go_sem, c0, c1]) rfl ⟨⟨G, M + 1, rfl, by omega, hcg, HC3.out, HG3.out⟩, HB3.out⟩
theorem lawBook_0 (w : World) :
    Calls Tryz.prog 33 #[.int .i64 0] w fun e w' => (∃ v, e = .returned v ∧ BookAt w'.heap.size w' v (exBook 0)) ∧ Below w.heap.size w w' := by
  refine (lawBookC_0 w).mono ?_
  rintro e w' ⟨⟨G, C, rfl, hC, hG, h1, h2⟩, hb⟩
  exact ⟨⟨_, rfl, exBook_at (k := 0) (by decide) h1 (blk_lt h1) h2 (blk_lt h2)⟩, hb⟩
theorem lawBook_1 (w : World) :
    Calls Tryz.prog 33 #[.int .i64 1] w fun e w' => (∃ v, e = .returned v ∧ BookAt w'.heap.size w' v (exBook 1)) ∧ Below w.heap.size w w' := by
  refine (lawBookC_1 w).mono ?_
  rintro e w' ⟨⟨G, C, rfl, hC, hG, h1, h2⟩, hb⟩
  exact ⟨⟨_, rfl, exBook_at (k := 1) (by decide) h1 (blk_lt h1) h2 (blk_lt h2)⟩, hb⟩

end Go.Proofs.YtlfglbnbenaghaaGreatDoor
