/- The parts Qq of the proof, joined. It holds without conditions of its own. -/
import Derived.Test.YtimdmgkegdlafaaGreatDoorCH13
/- The names of all leaves. -/
namespace Go.Proofs.YtimdmgkegdlafaaGreatDoor
set_option linter.unusedSimpArgs false
set_option linter.unusedVariables false
open Go Go.RowKit Go.Sort Go.BigFrame Go.Shelf
attribute [local go_sem] Oper.semAt_some putAll

theorem elemNm : ∃ i, Tryz.prog.info? 91 = some i ∧ i.zero = some (.agg #[.int .i64 0, .int .i64 0, .int .i64 0, .int .i64 0]) ∧ i.size = 4 ∧ i.bytes = 32 := elemOf (by kernel_rfl)
theorem undNms : Tryz.prog.underlying 99 = some (.slice 91) := by kernel_rfl
/-- The cells of the names of leaves in a row. -/
def nmCells (b : Bk) (x : Lf) : List Value := match b.gs[x.gat]? with
  | some g => [.int .i64 g.round, .int .i64 g.letter, .int .i64 x.num, .int .i64 x.plus]
  | none => []
def nmsCells (b : Bk) (xs : List Lf) : List Value := xs.flatMap (nmCells b)

set_option maxRecDepth 100000 in
set_option maxHeartbeats 4000000 in
theorem names_any (b : Bk) (v : Value) (w : World) (hb : BookAt w.heap.size w v b) (he : errF b = 0) :
    Calls Tryz.prog 48 #[v] w fun e w' => (∃ v', e = .returned v' ∧ w'.ownsRow w.heap.size 91 4 v' (lvs b).length (nmsCells b (lvs b))) ∧ Below w.heap.size w w' := by
  have hb' := hb
  obtain ⟨sv, rfl, hgs⟩ := hb
  have hgs' := hgs
  obtain ⟨a, cap, rfl, -⟩ := hgs'
  have hok := errF_zero he
  have HG := Lib.hid hgs
  have HB := Lib.hid hb'
  clear hgs hb'
  refine (callsIn_wide (n := 10)).1 ?_
  refine callsIn_of_wp_marks Tryz.func48 rfl trivial ?_ rfl
  simp only [Tryz.ntmps48, List.size_toArray, List.length_cons, List.length_nil, Nat.reduceAdd, Nat.reduceSub, Array.replicate_succ, Array.replicate_zero, List.push_toArray, List.append_toArray, List.nil_append, List.cons_append]
  gi_wp2_with fail
  refine ⟨trivial, ?_⟩
  refine (callsIn_wide.2 (volLeaves_any b.signed _ b.gs.length cap _)).mono ?_
  rintro e w2 ⟨rfl, hw2⟩
  gi_wp2_with fail
  obtain ⟨V, hV⟩ : ∃ V, V = w.heap.size := ⟨_, rfl⟩
  have hz2 : w2.heap.size = V + 3 := by rw [← hw2, hV]; simp
  have hh : Held w [(V, .cells #[.int .i64 b.signed, .slice a b.gs.length cap] 57)] w2 := ⟨by rw [← hw2]; exact (by repeat (first | (refine Below.setCell ?_ ?_ _; rotate_left; · (first | omega | (simp; done) | (simp; omega) | fail)) | (refine Below.alloc ?_ ?_ _; rotate_left; · (first | omega | (simp; done) | (simp; omega) | fail)) | refine Below.drew ?_ | exact Below.refl _ _ | fail)), fun p hp => by
    (simp only [List.mem_cons, List.not_mem_nil, or_false] at hp)
    subst hp
    rw [← hw2, hV]; exact (by repeat (first | exact heap_alloc_at _ _ _ (by (first | omega | (simp; done) | (simp; omega) | fail)) | (refine (heap_alloc_past _ _ _ ?_).trans ?_; · (first | omega | (simp; done) | (simp; omega) | fail)) | fail))⟩
  have hL : w2.heap[V + 1]? = some (.cells #[.slice none 0 0] 99) := by rw [← hw2, hV]; exact (by repeat (first | exact heap_alloc_at _ _ _ (by (first | omega | (simp; done) | (simp; omega) | fail)) | (refine (heap_alloc_past _ _ _ ?_).trans ?_; · (first | omega | (simp; done) | (simp; omega) | fail)) | fail))
  have hvb : w2.heap[V + 2]? = some (.cells #[.int .i64 b.signed, .slice a b.gs.length cap] 57) := by rw [← hw2, hV]; exact (by repeat (first | exact heap_alloc_at _ _ _ (by (first | omega | (simp; done) | (simp; omega) | fail)) | (refine (heap_alloc_past _ _ _ ?_).trans ?_; · (first | omega | (simp; done) | (simp; omega) | fail)) | fail))
  have hVl : w.heap.size ≤ V := by omega
  have hz2a : V + 3 ≤ w2.heap.size := by omega
  have hz2b : w2.heap.size ≤ V + 3 := by omega
  simp only [World.size_alloc, ← hV]
  clear hw2 hV hz2
  have HV := Lib.hid hvb
  have HL := Lib.hid hL
  clear hvb hL
  refine rf_list (gf := 77) (lb := #[.pointer (some ⟨V + 2, 0, none⟩)]) rfl (enters_of Tryz.func77 (by kernel_rfl) rfl)
    (leaves_it b.gs b.signed a cap w2 (V + 2) w.heap.size (by omega) (HG.out.below hh.below (Nat.le_refl _)) hok.gs (by have := hok.len; omega) HV.out) (fun _ => rfl) (fun j hj => by rcases hj with h | h <;> omega)
    w [(V, .cells #[.int .i64 b.signed, .slice a b.gs.length cap] 57)] (V + 1) 99 91 4 (fun pre => pre.length) (fun pre => nmsCells b (pre.map (·.1))) (fun y => .cells #[.int .i64 y.1.gat, .int .i64 y.1.num, .int .i64 y.1.plus, .int .i64 y.1.kind] 89)
    (fun y bx => [(8, .int .i64 y.2), (9, lfV y.1), (5, .pointer (some ⟨bx, 0, none⟩))]) (fun p hp => by (simp only [List.mem_cons, List.not_mem_nil, or_false] at hp); subst hp; (simp only; omega)) hh HL.out rfl rfl ?assign ?body ?done
  case assign =>
    intro l y W K' hK'
    gi_wp2_with fail
    exact hK'
  case body =>
    rintro l pre y rest bx W u hsp h1 h2 h3 hbx hlb hnb
    obtain ⟨-, hx⟩ := zip_at hsp
    have hlb' := blk_lt hbx
    have hv := h1.get 0 rfl
    have v0 := blk_cell hv 0; have v1 := blk_cell hv 1
    have d0 := blk_cell hbx 0; have d1 := blk_cell hbx 1; have d2 := blk_cell hbx 2; have d3 := blk_cell hbx 3
    have n0 := blk_cell h2 0
    obtain ⟨g, hg, -⟩ := lvs_mem (b := b) (List.mem_of_getElem? hx)
    have hC := name_any b (.agg #[.int .i64 b.signed, .slice a b.gs.length cap]) y.1 g W.drew (HB.out.below h1.below.drew (Nat.le_refl _) |>.mono h1.below.size) hg
    have HC := Lib.hid hC
    have HGG : Hid (nmCells b y.1 = [.int .i64 g.round, .int .i64 g.letter, .int .i64 y.1.num, .int .i64 y.1.plus]) := by show _ = _; simp [nmCells, hg]
    clear hC hv
    obtain ⟨ei, hi1, hi2, hi3, hi4⟩ := elemNm
    have hlen : pre.length < 2000 := by
      have h5 := lvsFrom_len (i := 0) hok.gs
      have h6 := congrArg List.length hsp
      have := hok.len
      simp only [List.length_append, List.length_cons, List.length_zipIdx] at h6
      omega
    have H2 := Lib.hid h2
    have H3 := Lib.hid h3
    clear h2 h3 hg hbx
    unfold putAll
    simp only [List.foldl_cons, List.foldl_nil]
    refine wpIn_block ?_
    refine wpIn_region_orders (by kernel_rfl) [[0, 1, 2, 3, 4, 5, 6], [0, 2, 1, 3, 4, 5, 6], [1, 0, 2, 3, 4, 5, 6], [1, 2, 0, 3, 4, 5, 6], [1, 2, 3, 0, 4, 5, 6], [1, 2, 3, 4, 0, 5, 6], [2, 0, 1, 3, 4, 5, 6], [2, 1, 0, 3, 4, 5, 6], [2, 1, 3, 0, 4, 5, 6], [2, 1, 3, 4, 0, 5, 6]] (by kernel_rfl) ?_
    obtain ⟨Wd, hWd⟩ : ∃ Wd, Wd = W.drew := ⟨_, rfl⟩
    have HO : Hid (OnlyIn (fun _ => False) W Wd) := by rw [hWd]; exact OnlyIn.drew _ _
    have H2d : Hid (Wd.heap[V + 1]? = some (.cells #[u] 99)) := by rw [hWd]; exact H2.out
    have H3d : Hid (Wd.ownsRow w2.heap.size 91 4 u pre.length (nmsCells b (pre.map (·.1)))) := by rw [hWd]; exact H3.out
    have hzd : Wd.heap.size = W.heap.size := by rw [hWd]; rfl
    have hzd1 : Wd.heap.size ≤ W.heap.size := by omega
    have hzd2 : W.heap.size ≤ Wd.heap.size := by omega
    have n0 : Wd.cell? ⟨V + 1, 0, none⟩ = some u := by rw [hWd]; exact n0
    have v0 : Wd.cell? ⟨V, 0, none⟩ = some (.int .i64 b.signed) := by rw [hWd]; exact v0
    have v1 : Wd.cell? ⟨V, 1, none⟩ = some (.slice a b.gs.length cap) := by rw [hWd]; exact v1
    have d0 : Wd.cell? ⟨bx, 0, none⟩ = some (.int .i64 y.1.gat) := by rw [hWd]; exact d0
    have d1 : Wd.cell? ⟨bx, 1, none⟩ = some (.int .i64 y.1.num) := by rw [hWd]; exact d1
    have d2 : Wd.cell? ⟨bx, 2, none⟩ = some (.int .i64 y.1.plus) := by rw [hWd]; exact d2
    have d3 : Wd.cell? ⟨bx, 3, none⟩ = some (.int .i64 y.1.kind) := by rw [hWd]; exact d3
    rw [← hWd] at HC ⊢
    clear hWd hzd
    have key : ∀ (w1 : World) (g' capg : Nat) (w' : World), Below Wd.heap.size Wd w1 → w'.ownsRow w2.heap.size 91 4 (.slice (some ⟨g', 0, none⟩) (pre.length + 1) capg) (pre.length + 1) (nmsCells b (pre.map (·.1)) ++ [.int .i64 g.round, .int .i64 g.letter, .int .i64 y.1.num, .int .i64 y.1.plus]) →
        (w1.alloc (.cells #[.int .i64 g.round, .int .i64 g.letter, .int .i64 y.1.num, .int .i64 y.1.plus] 91)).grownBy w' u.ownBlock → (u.ownBlock = some g' ∨ (w1.alloc (.cells #[.int .i64 g.round, .int .i64 g.letter, .int .i64 y.1.num, .int .i64 y.1.plus] 91)).heap.size ≤ g') →
        w'.heap[V + 1]? = some (.cells #[u] 99) ∧
        Turn w2.heap.size (fun k => k = V + 2 ∨ k < w.heap.size) (OwL (V + 1) 99) W (w'.setCell ⟨V + 1, 0, none⟩ (.slice (some ⟨g', 0, none⟩) (pre.length + 1) capg)) ∧
        Held w [(V, .cells #[.int .i64 b.signed, .slice a b.gs.length cap] 57)] (w'.setCell ⟨V + 1, 0, none⟩ (.slice (some ⟨g', 0, none⟩) (pre.length + 1) capg)) ∧
        ListAt (w'.setCell ⟨V + 1, 0, none⟩ (.slice (some ⟨g', 0, none⟩) (pre.length + 1) capg)) w2.heap.size (V + 1) 99 91 4 (pre.length + 1) (nmsCells b (pre.map (·.1) ++ [y.1])) := by
      intro w1 g' capg w' hb1 hown hgrow hg'
      obtain ⟨s1, s2, s3, s4⟩ := list_step (hs := w2.heap.size) (Pr := fun k => k = V + 2 ∨ k < w.heap.size) H2.out H3.out (by decide) ((HO.out.trans (OnlyIn.of_below hb1)).trans (OnlyIn.alloc _ _ _)) hown hgrow hg' (by omega) (Nat.le_refl _) (fun j hj => by rcases hj with hj | hj <;> refine ⟨by omega, by omega, by omega⟩)
      refine ⟨s1, s3, h1.only s4 (hs := V + 1) (fun j hj => by rcases hj with hj | hj <;> omega) (by omega) (fun p hp => by (simp only [List.mem_cons, List.not_mem_nil, or_false] at hp); subst hp; (simp only; omega)), ?_⟩
      have hV : nmsCells b (pre.map (·.1) ++ [y.1]) = nmsCells b (pre.map (·.1)) ++ [.int .i64 g.round, .int .i64 g.letter, .int .i64 y.1.num, .int .i64 y.1.plus] := by simp [nmsCells, HGG.out]
      rw [hV]
      exact s2
    have HK := Lib.hid key
    clear key
    simp only [List.forall_mem_cons]
    refine ⟨?_, ?_, ?_, ?_, ?_, ?_, ?_, ?_, ?_, ?_, fun _ h => by cases h⟩
    all_goals
      simp only [List.filterMap_cons, List.filterMap_nil, List.getElem?_toArray, List.getElem?_cons_zero, List.getElem?_cons_succ]
      change wpListIn _ _ _ _ _ [_, _, _, _, _, _, _] _ _
      gi_wp2_with fail
      refine ⟨trivial, ?_⟩
      refine (CallsIn.inRound l (callsIn_wide.2 HC.out)).mono ?_
      rintro e w1 ⟨rfl, hb1⟩
      have H2' := Lib.hid (blk_later hb1 H2d.out)
      have H3' := Lib.hid (row_later H3d.out hb1)
      have n1 := blk_cell H2'.out 0
      have hz1 := hb1.size
      have hV1 : V + 1 < w1.heap.size := by omega
      have HB1 := Lib.hid hb1
      clear n0 v0 v1 d0 d1 d2 d3 hb1
      gi_wp2_with (gi_at_builtin; refine wpListIn_append_one _ rfl _ _ 99 rfl w2.heap.size 91 ei _ 4 32 undNms hi1 hi2 hi3 hi4 rfl (by decide) u pre.length (nmsCells b (pre.map (·.1))) rfl (H3'.out.alloc _) ⟨w1.heap.size, 0, none⟩ 1 [.int .i64 g.round, .int .i64 g.letter, .int .i64 y.1.num, .int .i64 y.1.plus] rfl rfl ?c1 ?c2 ?c3 ?c4 ?c5 ?c6)
      case c1 => exact cells_new _ _ _
      case c2 => simp [Value.oneCell']
      case c3 => simp only [maxLen]; omega
      case c4 => omega
      case c5 => simp; omega
      case c6 =>
        rintro g' capg w' hown hgrow hg'
        obtain ⟨s1, s3⟩ := HK.out w1 g' capg w' HB1.out hown hgrow (by simpa using hg')
        have HS := Lib.hid s3
        clear s3
        have cL := blk_cell s1 0
        have fL := blk_free s1 0
        gi_wp2_with fail
        exact ⟨trivial, HS.out⟩
  case done =>
    rintro D W u hD h1 h2 h3 hdef
    have n0 := blk_cell h2 0
    gi_wp2_with fail
    have h4 := h1.put (.deferred none) (D := D) (by omega) (fun p hp => by (simp only [List.mem_cons, List.not_mem_nil, or_false] at hp); subst hp; (simp only; omega))
    have h5 := ownsRow_putObj h3 (.deferred none) hdef rfl
    refine leave_ret hdef ⟨u, by simp [results, Tryz.results48, go_sem], ⟨u, rfl, ?_⟩, h4.below⟩
    simp only [List.length_zipIdx, List.zipIdx_map_fst] at h5
    exact row_mono h5 (by omega)

end Go.Proofs.YtimdmgkegdlafaaGreatDoor
