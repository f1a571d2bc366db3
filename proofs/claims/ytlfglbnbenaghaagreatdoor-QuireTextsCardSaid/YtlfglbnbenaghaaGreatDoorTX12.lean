/- The parts Rs of the proof, joined. It holds without conditions of its own. -/
import Derived.Test.YtlfglbnbenaghaaGreatDoorTX8
import Derived.Test.YtlfglbnbenaghaaGreatDoorTX11
/- Find. -/
namespace Go.Proofs.YtlfglbnbenaghaaGreatDoor
set_option linter.unusedSimpArgs false
set_option linter.unusedVariables false
open Go Go.RowKit Go.Sort Go.BigFrame Go.Shelf
attribute [local go_sem] Oper.semAt_some putAll

/-- What Find hands back of a book without an error. -/
def findR (b : Bk) (s : Bs) : Value := match allF (leafNameF s) with
  | none => .tuple #[.int .i64 0, .int .i64 6]
  | some q => mateR ((lvs b).findIdx? fun x => decide (nameQ b x = q))

set_option maxRecDepth 100000 in
set_option maxHeartbeats 1000000 in
theorem Find_bad (b : Bk) (v : Value) (s : Bs) (w : World) (hb : BookAt w.heap.size w v b) (he : errF b ≠ 0) :
    Calls Tryz.prog 18 #[v, S s] w fun e w' => e = .returned (.tuple #[.int .i64 0, .int .i64 (errF b)]) ∧ Below w.heap.size w w' := by
  have hb' := hb
  obtain ⟨sv, rfl, hgs⟩ := hb
  have hgs' := hgs
  obtain ⟨a, cap, rfl, -⟩ := hgs'
  have hop : openV b (.agg #[.int .i64 b.signed, .slice a b.gs.length cap]) = .tuple #[.agg #[.int .i64 0, .slice none 0 0], .int .i64 (errF b)] := by simp [openV, he]
  have hne : (errF b != 0) = true := by simp [he]
  go_enter Tryz.func18, Tryz.ntmps18
  go_wp2_with fail
  refine (open_any b _ _ (hb'.below (B := w.heap.size) (by exact (by repeat (first | (refine Below.setCell ?_ ?_ _; rotate_left; · (first | omega | (simp; done) | (simp; omega) | fail)) | (refine Below.alloc ?_ ?_ _; rotate_left; · (first | omega | (simp; done) | (simp; omega) | fail)) | refine Below.drew ?_ | exact Below.refl _ _ | fail))) (Nat.le_refl _) |>.mono (by simp; try omega))).mono ?_
  rintro e w1 ⟨rfl, hb1⟩
  rw [hop]
  have hb0 : Below w.heap.size w w1 := Below.trans (by exact (by repeat (first | (refine Below.setCell ?_ ?_ _; rotate_left; · (first | omega | (simp; done) | (simp; omega) | fail)) | (refine Below.alloc ?_ ?_ _; rotate_left; · (first | omega | (simp; done) | (simp; omega) | fail)) | refine Below.drew ?_ | exact Below.refl _ _ | fail))) (hb1.mono (by simp; try omega))
  have hz := hb0.size
  have h4 : w1.heap[w.heap.size + 1]? = some (.cells #[.int .i64 0] 3) := blk_later hb1 (by exact (by repeat (first | exact heap_alloc_at _ _ _ (by (first | omega | (simp; done) | (simp; omega) | fail)) | (refine (heap_alloc_past _ _ _ ?_).trans ?_; · (first | omega | (simp; done) | (simp; omega) | fail)) | fail)))
  have h5 : w1.heap[w.heap.size + 1 + 1]? = some (.cells #[.int .i64 0] 25) := blk_later hb1 (by exact (by repeat (first | exact heap_alloc_at _ _ _ (by (first | omega | (simp; done) | (simp; omega) | fail)) | (refine (heap_alloc_past _ _ _ ?_).trans ?_; · (first | omega | (simp; done) | (simp; omega) | fail)) | fail)))
  have r0 := blk_cell h4 0
  have r1 := blk_cell h5 0
  have f0 := blk_free h4 0
  have f1 := blk_free h5 0
  have z4 := blk_lt h4
  have z5 := blk_lt h5
  have HB0 := Lib.hid hb0
  have H4 := Lib.hid h4
  have H5 := Lib.hid h5
  clear hb1 hb0 h4 h5 hb'
  go_wp2_with fail
  obtain ⟨W, hW⟩ : ∃ W, W = ((w1.setCell ⟨w.heap.size + 1, 0, none⟩ (.int .i64 0)).setCell ⟨w.heap.size + 1 + 1, 0, none⟩ (.int .i64 (errF b))).alloc (.cells #[.int .i64 0, .slice none 0 0] 57) := ⟨_, rfl⟩
  rw [← hW]
  have p4 : W.heap[w.heap.size + 1]? = some (.cells #[.int .i64 0] 3) := by rw [hW]; exact (by repeat (first | exact blk_set1 H4.out _ | (refine (heap_setCell_past _ _ _ _ ?_).trans ?_; · (first | omega | (simp; done) | (simp; omega) | fail)) | (refine (heap_alloc_past _ _ _ ?_).trans ?_; · (first | omega | (simp; done) | (simp; omega) | fail)) | exact H4.out | fail))
  have p5 : W.heap[w.heap.size + 1 + 1]? = some (.cells #[.int .i64 (errF b)] 25) := by
    rw [hW]
    refine (heap_alloc_past _ _ _ (by simp; omega)).trans ?_
    exact blk_set1 (a := .int .i64 0) ((heap_setCell_past _ _ _ _ (by simp)).trans H5.out) _
  have hbW : Below w.heap.size w W := by rw [hW]; exact (by repeat (first | (refine Below.setCell ?_ ?_ _; rotate_left; · (first | omega | (simp; done) | (simp; omega) | fail)) | (refine Below.alloc ?_ ?_ _; rotate_left; · (first | omega | (simp; done) | (simp; omega) | fail)) | refine Below.drew ?_ | exact HB0.out | fail))
  have e4 := blk_cell p4 0
  have e5 := blk_cell p5 0
  refine bodyPost_ret (v := .tuple #[.int .i64 0, .int .i64 (errF b)]) ?_ rfl ⟨rfl, hbW⟩
  simp [results, Tryz.results18, go_sem, e4, e5]

theorem find_results {W : World} (tmps : Array Value) {k4 k5 : Nat} {u v : Value} (h4 : tmps.getD 4 undef = .pointer (some ⟨k4, 0, none⟩)) (h5 : tmps.getD 5 undef = .pointer (some ⟨k5, 0, none⟩)) (c4 : W.cell? ⟨k4, 0, none⟩ = some u) (c5 : W.cell? ⟨k5, 0, none⟩ = some v) :
    (results Tryz.f18 tmps).run Tryz.prog W = .ok (.tuple #[u, v]) W := by
  simp only [Array.getD_eq_getD_getElem?] at h4 h5
  simp [results, Tryz.results18, go_sem, h4, h5, c4, c5]
theorem nameQ_of {b : Bk} {x : Lf} {g : Gth} (h : b.gs[x.gat]? = some g) : nameQ b x = (g.round, g.letter, x.num, x.plus) := by simp [nameQ, h]
/-- What the comparison of a leaf's name leaves. -/
def FindCut (W : World) (vv lv nv qv : Value) (B : Bool) (a0 a' : Act) (w' : World) : Prop :=
  Below W.heap.size W w' ∧ a' = { tmps := putAll a0.tmps [(31, vv), (32, lv), (33, nv), (34, qv), (35, .bool B)], defers := a0.defers }

set_option maxRecDepth 100000 in
set_option maxHeartbeats 4000000 in
theorem Find_good (b : Bk) (v : Value) (s : Bs) (w : World) (hb : BookAt w.heap.size w v b) (he : errF b = 0) :
    Calls Tryz.prog 18 #[v, S s] w fun e w' => e = .returned (findR b s) ∧ Below w.heap.size w w' := by
  have hb' := hb
  obtain ⟨sv, rfl, hgs⟩ := hb
  have hgs' := hgs
  obtain ⟨a, cap, rfl, -⟩ := hgs'
  have hok := errF_zero he
  have hop : openV b (.agg #[.int .i64 b.signed, .slice a b.gs.length cap]) = .tuple #[.agg #[.int .i64 b.signed, .slice a b.gs.length cap], .int .i64 0] := by simp [openV, he]
  have HG := Lib.hid hgs
  have HB := Lib.hid hb'
  clear hgs hb'
  refine (callsIn_wide (n := 10)).1 ?_
  refine callsIn_of_wp_marks Tryz.func18 rfl trivial ?_ rfl
  simp only [Tryz.ntmps18, List.size_toArray, List.length_cons, List.length_nil, Nat.reduceAdd, Nat.reduceSub, Array.replicate_succ, Array.replicate_zero, List.push_toArray, List.append_toArray, List.nil_append, List.cons_append]
  gi_wp2_with fail
  refine ⟨trivial, ?_⟩
  refine (callsIn_wide.2 (open_any b _ _ (HB.out.below (B := w.heap.size) (by exact (by repeat (first | (refine Below.setCell ?_ ?_ _; rotate_left; · (first | omega | (simp; done) | (simp; omega) | fail)) | (refine Below.alloc ?_ ?_ _; rotate_left; · (first | omega | (simp; done) | (simp; omega) | fail)) | refine Below.drew ?_ | exact Below.refl _ _ | fail))) (Nat.le_refl _) |>.mono (by simp; try omega)))).mono ?_
  rintro e w1 ⟨rfl, hb1⟩
  rw [hop]
  have hh1 : Held w [(w.heap.size + 1, .cells #[.int .i64 0] 3), (w.heap.size + 1 + 1, .cells #[.int .i64 0] 25)] w1 := by
    refine Held.below' ⟨by exact (by repeat (first | (refine Below.setCell ?_ ?_ _; rotate_left; · (first | omega | (simp; done) | (simp; omega) | fail)) | (refine Below.alloc ?_ ?_ _; rotate_left; · (first | omega | (simp; done) | (simp; omega) | fail)) | refine Below.drew ?_ | exact Below.refl _ _ | fail)), fun p hp => ?_⟩ hb1
    (simp only [List.mem_cons, List.not_mem_nil, or_false] at hp)
    rcases hp with rfl | rfl <;> exact (by repeat (first | exact heap_alloc_at _ _ _ (by (first | omega | (simp; done) | (simp; omega) | fail)) | (refine (heap_alloc_past _ _ _ ?_).trans ?_; · (first | omega | (simp; done) | (simp; omega) | fail)) | fail))
  have HH1 := Lib.hid hh1
  have hz := hh1.below.size
  have hz1 := blk_lt (hh1.get 1 rfl)
  clear hb1 hop hh1
  gi_wp2_with fail
  refine ⟨trivial, ?_⟩
  refine (callsIn_wide.2 (parseL_any s _)).mono ?_
  intro e w2 hp
  have hp' : ∃ r : Value, e = .returned r ∧ Below (w1.alloc (.cells #[.int .i64 b.signed, .slice a b.gs.length cap] 57)).heap.size (w1.alloc (.cells #[.int .i64 b.signed, .slice a b.gs.length cap] 57)) w2 := by
    cases hl : allF (leafNameF s) with
    | none => rw [hl] at hp; exact ⟨_, hp.1, hp.2⟩
    | some q => rw [hl] at hp; exact ⟨_, hp.1, hp.2⟩
  obtain ⟨-, -, hb2⟩ := hp'
  have hh2 : Held w [(w.heap.size + 1, .cells #[.int .i64 0] 3), (w.heap.size + 1 + 1, .cells #[.int .i64 0] 25), (w1.heap.size, .cells #[.int .i64 b.signed, .slice a b.gs.length cap] 57)] w2 := by
    refine Held.below' ⟨by exact (by repeat (first | (refine Below.setCell ?_ ?_ _; rotate_left; · (first | omega | (simp; done) | (simp; omega) | fail)) | (refine Below.alloc ?_ ?_ _; rotate_left; · (first | omega | (simp; done) | (simp; omega) | fail)) | refine Below.drew ?_ | exact HH1.out.below | fail)), fun p hp => ?_⟩ hb2
    (simp only [List.mem_cons, List.not_mem_nil, or_false] at hp)
    rcases hp with rfl | rfl | rfl
    · exact (by repeat (first | (refine (heap_setCell_past _ _ _ _ ?_).trans ?_; · (first | omega | (simp; done) | (simp; omega) | fail)) | (refine (heap_alloc_past _ _ _ ?_).trans ?_; · (first | omega | (simp; done) | (simp; omega) | fail)) | exact HH1.out.get 0 rfl | fail))
    · exact (by repeat (first | (refine (heap_setCell_past _ _ _ _ ?_).trans ?_; · (first | omega | (simp; done) | (simp; omega) | fail)) | (refine (heap_alloc_past _ _ _ ?_).trans ?_; · (first | omega | (simp; done) | (simp; omega) | fail)) | exact HH1.out.get 1 rfl | fail))
    · exact (by repeat (first | exact heap_alloc_at _ _ _ (by (first | omega | (simp; done) | (simp; omega) | fail)) | (refine (heap_alloc_past _ _ _ ?_).trans ?_; · (first | omega | (simp; done) | (simp; omega) | fail)) | fail))
  have HH2 := Lib.hid hh2
  have hz2 := blk_lt (hh2.get 2 rfl)
  obtain ⟨V, hV⟩ : ∃ V, V = w1.heap.size := ⟨_, rfl⟩
  have q4 := HH2.out.get 0 rfl
  have q5 := HH2.out.get 1 rfl
  have q6 := HH2.out.get 2 rfl
  have c4 := blk_cell q4 0
  have c5 := blk_cell q5 0
  have f4 := blk_free q4 0
  have f5 := blk_free q5 0
  have v0 := blk_cell q6 0; have v1 := blk_cell q6 1
  have s4 := blk_lt q4
  have s5 := blk_lt q5
  have s6 := blk_lt q6
  clear hh2 HH1 hb2 q4 q5 q6
  rw [← hV] at HH2 hz1 hz2 s6 v0 v1
  cases hl : allF (leafNameF s) with
  | none =>
    rw [hl] at hp
    obtain ⟨rfl, -⟩ := hp
    have HX : Hid (findR b s = .tuple #[.int .i64 0, .int .i64 6]) := by show _ = _; simp [findR, hl]
    clear hl
    rw [← hV]
    clear hV hz
    gi_wp2_with fail
    obtain ⟨e4, e5, eb⟩ := set45 (n := w.heap.size) (HH2.out.get 0 rfl) (HH2.out.get 1 rfl) (by simp) (by omega) (by omega) (by omega) (.int .i64 0) (.int .i64 6)
    refine ⟨.tuple #[.int .i64 0, .int .i64 6], find_results _ rfl rfl (alloc_cell e4 _) (alloc_cell e5 _), by rw [HX.out], HH2.out.below.trans (eb.alloc (by simp; omega) _)⟩
  | some q =>
    rw [hl] at hp
    obtain ⟨rfl, -⟩ := hp
    obtain ⟨qr, ql, qn, qp⟩ := q
    dsimp only [nameV]
    have HX : Hid (findR b s = mateR ((lvs b).findIdx? fun x => decide (nameQ b x = (qr, ql, qn, qp)))) := by show _ = _; simp [findR, hl]
    clear hl
    rw [← hV]
    clear hV hz
    gi_wp2_with fail
    obtain ⟨Tq, hTq⟩ : ∃ Tq, Tq = w2.heap.size := ⟨_, rfl⟩
    refine ⟨trivial, ?_⟩
    refine (callsIn_wide.2 (volLeaves_any b.signed _ b.gs.length cap _)).mono ?_
    rintro e w6 ⟨rfl, hw2⟩
    gi_wp2_with fail
    have hz6 : w6.heap.size = Tq + 2 := by rw [← hw2, hTq]; simp
    have hVT : V < Tq := by omega
    have hh6 : Held w [(w.heap.size + 1, .cells #[.int .i64 0] 3), (w.heap.size + 1 + 1, .cells #[.int .i64 0] 25), (V, .cells #[.int .i64 b.signed, .slice a b.gs.length cap] 57), (Tq, .cells #[.int .i64 qr, .int .i64 ql, .int .i64 qn, .int .i64 qp] 91)] w6 := by
      rw [← hw2, hTq]
      refine ⟨by exact (by repeat (first | (refine Below.setCell ?_ ?_ _; rotate_left; · (first | omega | (simp; done) | (simp; omega) | fail)) | (refine Below.alloc ?_ ?_ _; rotate_left; · (first | omega | (simp; done) | (simp; omega) | fail)) | refine Below.drew ?_ | exact HH2.out.below | fail)), fun p hp => ?_⟩
      (simp only [List.mem_cons, List.not_mem_nil, or_false] at hp)
      rcases hp with rfl | rfl | rfl | rfl
      · exact (by repeat (first | (refine (heap_setCell_past _ _ _ _ ?_).trans ?_; · (first | omega | (simp; done) | (simp; omega) | fail)) | (refine (heap_alloc_past _ _ _ ?_).trans ?_; · (first | omega | (simp; done) | (simp; omega) | fail)) | exact HH2.out.get 0 rfl | fail))
      · exact (by repeat (first | (refine (heap_setCell_past _ _ _ _ ?_).trans ?_; · (first | omega | (simp; done) | (simp; omega) | fail)) | (refine (heap_alloc_past _ _ _ ?_).trans ?_; · (first | omega | (simp; done) | (simp; omega) | fail)) | exact HH2.out.get 1 rfl | fail))
      · exact (by repeat (first | (refine (heap_setCell_past _ _ _ _ ?_).trans ?_; · (first | omega | (simp; done) | (simp; omega) | fail)) | (refine (heap_alloc_past _ _ _ ?_).trans ?_; · (first | omega | (simp; done) | (simp; omega) | fail)) | exact HH2.out.get 2 rfl | fail))
      · exact (by repeat (first | exact heap_alloc_at _ _ _ (by (first | omega | (simp; done) | (simp; omega) | fail)) | (refine (heap_alloc_past _ _ _ ?_).trans ?_; · (first | omega | (simp; done) | (simp; omega) | fail)) | fail))
    have hvb : w6.heap[Tq + 1]? = some (.cells #[.int .i64 b.signed, .slice a b.gs.length cap] 57) := by rw [← hw2, hTq]; exact (by repeat (first | exact heap_alloc_at _ _ _ (by (first | omega | (simp; done) | (simp; omega) | fail)) | (refine (heap_alloc_past _ _ _ ?_).trans ?_; · (first | omega | (simp; done) | (simp; omega) | fail)) | fail))
    have hz6a : Tq + 2 ≤ w6.heap.size := by omega
    have hz6b : w6.heap.size ≤ Tq + 2 := by omega
    simp only [World.size_alloc, ← hTq]
    have HV := Lib.hid hvb
    have HH6 := Lib.hid hh6
    clear hw2 hTq hz6 hvb hh6 HH2 v0 v1 c4 c5 f4 f5 s4 s5 s6 hz2
    refine rf_find (gf := 77) (lb := #[.pointer (some ⟨Tq + 1, 0, none⟩)]) rfl (enters_of Tryz.func77 (by kernel_rfl) rfl)
      (leaves_it b.gs b.signed a cap w6 (Tq + 1) w.heap.size (by omega) (HG.out.below HH6.out.below (Nat.le_refl _)) hok.gs (by have := hok.len; omega) HV.out) (fun _ => rfl) (fun j hj => by rcases hj with h | h <;> omega)
      w _ (fun y => decide (nameQ b y.1 = (qr, ql, qn, qp))) (fun y => [(w.heap.size + 1, .cells #[.int .i64 y.2] 3), (w.heap.size + 1 + 1, .cells #[.int .i64 0] 25)]) (fun k => k = w.heap.size + 1 ∨ k = w.heap.size + 1 + 1)
      (fun y => .cells #[.int .i64 y.1.gat, .int .i64 y.1.num, .int .i64 y.1.plus, .int .i64 y.1.kind] 89)
      (fun y bx => [(29, .int .i64 y.2), (30, lfV y.1), (9, .int .i64 y.2), (10, .pointer (some ⟨bx, 0, none⟩))])
      (fun p hp => by (simp only [List.mem_cons, List.not_mem_nil, or_false] at hp); rcases hp with rfl | rfl | rfl | rfl <;> (simp only; omega)) (fun y p hp => by (simp only [List.mem_cons, List.not_mem_nil, or_false] at hp); rcases hp with rfl | rfl <;> (simp only; omega))
      (fun k hk => by rcases hk with rfl | rfl <;> exact ⟨by omega, fun h => by rcases h with h | h <;> omega⟩) HH6.out ?assign ?body ?done ?stop
    case assign =>
      intro l y W K' hK'
      gi_wp2_with fail
      simp only [putAll, List.foldl_cons, List.foldl_nil, List.setIfInBounds_toArray, List.set_cons_succ, List.set_cons_zero] at hK'
      exact hK'
    case body =>
      rintro l pre y rest bx W hsp h1 hbx hlb
      have hlb' := blk_lt hbx
      obtain ⟨-, hx⟩ := zip_at hsp
      obtain ⟨g, hg, -⟩ := lvs_mem (b := b) (List.mem_of_getElem? hx)
      have hC := name_any b (.agg #[.int .i64 b.signed, .slice a b.gs.length cap]) y.1 g W.drew (HB.out.below h1.below.drew (Nat.le_refl _) |>.mono h1.below.size) hg
      have hq := nameQ_of hg
      obtain ⟨B, hBd⟩ : ∃ B : Bool, B = decide (nameQ b y.1 = (qr, ql, qn, qp)) := ⟨_, rfl⟩
      have HBd := Lib.hid hBd
      have HQ := Lib.hid hq
      have HC := Lib.hid hC
      have H1 := Lib.hid h1
      have HBX := Lib.hid hbx
      clear hC hBd hq hx hg h1
      unfold putAll
      simp only [List.foldl_cons, List.foldl_nil]
      gi_wp2_with fail
      refine wpIn_cut (FindCut W (.agg #[.int .i64 b.signed, .slice a b.gs.length cap]) (lfV y.1) (.agg #[.int .i64 g.round, .int .i64 g.letter, .int .i64 y.1.num, .int .i64 y.1.plus]) (.agg #[.int .i64 qr, .int .i64 ql, .int .i64 qn, .int .i64 qp]) B) ?_ ?_
      · refine wpIn_region_orders (by kernel_rfl) [[0, 1, 2, 3, 4], [0, 1, 3, 2, 4], [0, 3, 1, 2, 4], [1, 0, 2, 3, 4], [1, 0, 3, 2, 4], [1, 3, 0, 2, 4], [3, 0, 1, 2, 4], [3, 1, 0, 2, 4]] (by kernel_rfl) ?_
        obtain ⟨Wd, hWd⟩ : ∃ Wd, Wd = W.drew := ⟨_, rfl⟩
        have v0 : Wd.cell? ⟨V, 0, none⟩ = some (.int .i64 b.signed) := by rw [hWd]; exact blk_cell (H1.out.get 2 rfl) 0
        have v1 : Wd.cell? ⟨V, 1, none⟩ = some (.slice a b.gs.length cap) := by rw [hWd]; exact blk_cell (H1.out.get 2 rfl) 1
        have HT : Hid (Wd.heap[Tq]? = some (.cells #[.int .i64 qr, .int .i64 ql, .int .i64 qn, .int .i64 qp] 91)) := by rw [hWd]; exact H1.out.get 3 rfl
        have d0 : Wd.cell? ⟨bx, 0, none⟩ = some (.int .i64 y.1.gat) := by rw [hWd]; exact blk_cell HBX.out 0
        have d1 : Wd.cell? ⟨bx, 1, none⟩ = some (.int .i64 y.1.num) := by rw [hWd]; exact blk_cell HBX.out 1
        have d2 : Wd.cell? ⟨bx, 2, none⟩ = some (.int .i64 y.1.plus) := by rw [hWd]; exact blk_cell HBX.out 2
        have d3 : Wd.cell? ⟨bx, 3, none⟩ = some (.int .i64 y.1.kind) := by rw [hWd]; exact blk_cell HBX.out 3
        have HWd : Hid (Below W.heap.size W Wd) := by rw [hWd]; exact (Below.refl _ _).drew
        have hzd : Wd.heap.size = W.heap.size := by rw [hWd]; rfl
        have hzd1 : Wd.heap.size ≤ W.heap.size := by omega
        have hzd2 : W.heap.size ≤ Wd.heap.size := by omega
        rw [← hWd] at HC ⊢
        clear hWd hzd
        have t0 := blk_cell HT.out 0; have t1 := blk_cell HT.out 1; have t2 := blk_cell HT.out 2; have t3 := blk_cell HT.out 3
        simp only [List.forall_mem_cons]
        refine ⟨?_, ?_, ?_, ?_, ?_, ?_, ?_, ?_, fun _ h => by cases h⟩
        all_goals
          simp only [List.filterMap_cons, List.filterMap_nil, List.getElem?_toArray, List.getElem?_cons_zero, List.getElem?_cons_succ]
          change wpListIn _ _ _ _ _ [_, _, _, _, _] _ _
          gi_wp2_with fail
          refine ⟨trivial, ?_⟩
          refine (CallsIn.inRound l (callsIn_wide.2 HC.out)).mono ?_
          rintro e wn ⟨rfl, hbn⟩
          have HF : Hid (Below W.heap.size W wn) := HWd.out.trans (hbn.mono hzd2)
          have HT' := Lib.hid (blk_later hbn HT.out)
          clear v0 v1 d0 d1 d2 d3 t0 t1 t2 t3 hbn
          have t0 := blk_cell HT'.out 0; have t1 := blk_cell HT'.out 1; have t2 := blk_cell HT'.out 2; have t3 := blk_cell HT'.out 3
          rcases quad_cases (g.round, g.letter, y.1.num, y.1.plus) (qr, ql, qn, qp) with e | ⟨hne, hcs⟩
          · have hB : B = true := by rw [HBd.out, HQ.out, e]; simp
            simp only [Prod.mk.injEq] at e
            obtain ⟨rfl, rfl, rfl, rfl⟩ := e
            gi_wp2_with fail
            exact Cut.mk ⟨HF.out, by simp only [putAll, List.foldl_cons, List.foldl_nil, List.setIfInBounds_toArray, List.set_cons_succ, List.set_cons_zero]⟩
          · have hB : B = false := by rw [HBd.out, HQ.out]; exact decide_eq_false hne
            dsimp only at hcs
            clear hne
            rcases hcs with h1 | ⟨h1, h2⟩ | ⟨h1, h2, h3⟩ | ⟨h1, h2, h3, h4⟩
            all_goals
              gi_wp2_with fail
              refine Cut.mk ⟨HF.out, ?_⟩
              simp only [putAll, List.foldl_cons, List.foldl_nil, List.setIfInBounds_toArray, List.set_cons_succ, List.set_cons_zero]
              try simp only [lfV, h1]
              try simp only [h2]
              try simp only [h3]
      · rintro a' wn ⟨hbn, rfl⟩
        have HHn := Lib.hid (H1.out.below' hbn)
        have hHs := HHn.out.below.size
        simp only [putAll, List.foldl_cons, List.foldl_nil, List.setIfInBounds_toArray, List.set_cons_succ, List.set_cons_zero]
        cases B with
        | true =>
          have q4 := HHn.out.get 0 rfl
          have q5 := HHn.out.get 1 rfl
          have c4 := blk_cell q4 0
          have c5 := blk_cell q5 0
          have f4 := blk_free q4 0
          have f5 := blk_free q5 0
          have HBN := Lib.hid hbn
          have Q4 := Lib.hid q4
          have Q5 := Lib.hid q5
          clear hbn q4 q5
          gi_wp2_with fail
          refine ⟨of_decide_eq_true HBd.out.symm, ((OnlyIn.of_below HBN.out).trans (OnlyIn.setCell _ _ _ (Or.inl rfl))).trans (OnlyIn.setCell _ _ _ (Or.inr rfl)), ⟨HHn.out.below.trans (by repeat (first | (refine Below.setCell ?_ ?_ _; rotate_left; · (first | omega | (simp; done) | (simp; omega) | fail)) | (refine Below.alloc ?_ ?_ _; rotate_left; · (first | omega | (simp; done) | (simp; omega) | fail)) | refine Below.drew ?_ | exact Below.refl _ _ | fail)), fun p hp => ?_⟩⟩
          (simp only [List.mem_cons, List.not_mem_nil, or_false] at hp)
          rcases hp with rfl | rfl
          · exact (heap_setCell_past _ ⟨w.heap.size + 1 + 1, 0, none⟩ _ _ (by simp)).trans (blk_set1 Q4.out _)
          · exact blk_set1 ((heap_setCell_past _ ⟨w.heap.size + 1, 0, none⟩ _ _ (by simp)).trans Q5.out) _
        | false =>
          have HBN := Lib.hid hbn
          clear hbn
          gi_wp2_with fail
          exact ⟨of_decide_eq_false HBd.out.symm, HBN.out⟩
    case done =>
      rintro D W hD h1 h2 hdef
      have q4 := h1.get 0 rfl
      have q5 := h1.get 1 rfl
      have c4 := blk_cell q4 0
      have c5 := blk_cell q5 0
      have f4 := blk_free q4 0
      have f5 := blk_free q5 0
      have hzW := h1.below.size
      gi_wp2_with fail
      obtain ⟨e4, e5, eb⟩ := set45 (n := w.heap.size) q4 q5 (by simp) (by omega) (by omega) hzW (.int .i64 0) (.int .i64 4)
      have hdef' : ((W.setCell ⟨w.heap.size + 1, 0, none⟩ (.int .i64 0)).setCell ⟨w.heap.size + 1 + 1, 0, none⟩ (.int .i64 4)).heap[D]? = some (.deferred (some [])) := by exact (by repeat (first | (refine (heap_setCell_past _ _ _ _ ?_).trans ?_; · (first | omega | (simp; done) | (simp; omega) | fail)) | (refine (heap_alloc_past _ _ _ ?_).trans ?_; · (first | omega | (simp; done) | (simp; omega) | fail)) | exact hdef | fail))
      refine leave_ret hdef' ⟨.tuple #[.int .i64 0, .int .i64 4], find_results _ rfl rfl (put_cell e4 (by omega)) (put_cell e5 (by omega)), ?_, ?_⟩
      · rw [HX.out, show (lvs b).findIdx? (fun x => decide (nameQ b x = (qr, ql, qn, qp))) = none from zip_none h2]; rfl
      · exact (h1.below.trans eb).trans ((OnlyIn.putObj (X := fun k => k = D) _ D _ rfl).below (Below.refl _ _) (by simp; omega) (fun k hk => by omega))
    case stop =>
      rintro D pre y rest W hD hsp h1 h2 h3 hdef
      have q4 := h3.get 0 rfl
      have q5 := h3.get 1 rfl
      have e4 := blk_cell q4 0
      have e5 := blk_cell q5 0
      have hzW := h3.below.size
      gi_wp2_with fail
      refine leave_ret hdef ⟨.tuple #[.int .i64 y.2, .int .i64 0], find_results _ rfl rfl (put_cell e4 (by omega)) (put_cell e5 (by omega)), ?_, ?_⟩
      · rw [HX.out, show (lvs b).findIdx? (fun x => decide (nameQ b x = (qr, ql, qn, qp))) = some y.2 from zip_find hsp h1 h2]; rfl
      · exact h3.below.trans ((OnlyIn.putObj (X := fun k => k = D) _ D _ rfl).below (Below.refl _ _) hzW (fun k hk => by omega))

end Go.Proofs.YtlfglbnbenaghaaGreatDoor
